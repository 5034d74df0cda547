/- The walks of ReadsTells and ReadsTrue. -/
import Derived.Test.YtgcfmodkknmifacRBegun
import Derived.Test.YtgcfmodkknmifacRdC
import Derived.Test.YtgcfmodkknmifacFlOps
namespace Go.Proofs.Ytgcfmodkknmifac
open Go.RowKit Go.Shelf
set_option maxRecDepth 20000

set_option maxHeartbeats 4000000 in
theorem rtells_c (gm : Int) (ra : Option Addr) (rn rc : Nat) (sa : Option Addr) (sn sc : Nat) (fa : Option Addr) (fn fc : Nat) (na : Option Addr) (nn nc : Nat) (m : ImgD) (n : Int) (nm : ByteArray) (w : World) (h : Img w (.agg #[.int .i64 gm, .slice ra rn rc, .slice sa sn sc, .slice fa fn fc, .slice na nn nc]) m) (C : Int) (hC : checkE m = C) (hCb : (C == 0) = false) (hL : lookE m n = C) (p : ByteArray) (hp : readV m n = p) (hpe : p = ⟨#[]⟩) (l : List ByteArray) (hl : allV m = l) (hle : l = []) :
    Calls Try.prog 4 #[.agg #[.int .i64 gm, .slice ra rn rc, .slice sa sn sc, .slice fa fn fc, .slice na nn nc], .int .i64 n, .string nm] w fun r w' => r = .returned (.bool true) ∧ Below w.heap.size w w' := by
  have b0 : Below w.heap.size w (w.alloc (.cells #[.int .i64 gm, .slice ra rn rc, .slice sa sn sc, .slice fa fn fc, .slice na nn nc] 26)) := (Below.refl _ _).alloc (Nat.le_refl _) _
  have m0 : (w.alloc (.cells #[.int .i64 gm, .slice ra rn rc, .slice sa sn sc, .slice fa fn fc, .slice na nn nc] 26)).heap[w.heap.size]? = some (.cells #[.int .i64 gm, .slice ra rn rc, .slice sa sn sc, .slice fa fn fc, .slice na nn nc] 26) := World.alloc_heap_new _ _
  have z0 : w.heap.size < (w.alloc (.cells #[.int .i64 gm, .slice ra rn rc, .slice sa sn sc, .slice fa fn fc, .slice na nn nc] 26)).heap.size := by simp
  subst hpe hle
  obtain ⟨Q, hQ⟩ : ∃ Q, pastE m nm = Q := ⟨_, rfl⟩
  obtain ⟨q, hq⟩ : ∃ q, pastV m nm = q := ⟨_, rfl⟩
  have hread := fun W (hW : Below w.heap.size w W) => read_is (h.below hW) n hL hp
  have hall := fun W (hW : Below w.heap.size w W) => all_is (h.below hW) hC hl
  have hpast := fun W (hW : Below w.heap.size w W) => past_is (h.below hW) nm hQ hq
  have hlooke := fun W (hW : Below w.heap.size w W) => lookErr_is (h.below hW) n hL
  have hchk := fun W (hW : Below w.heap.size w W) => checkImage_is (h.below hW) hC
  have hpastOf := fun W (hW : Below w.heap.size w W) => pastOf_is (h.below hW) nm hQ hq
  clear h hL hp hC hl hQ hq
  go_enter Try.func4, Try.ntmps4
  have hB0 := b0
  obtain ⟨a0, a1, a2, a3, a4⟩ := five m0
  go_wp2_with fail
  refine (hread _ hB0).mono ?_
  rintro e w1 ⟨rfl, b1⟩
  have m1 := cells_below m0 b1 z0
  have z1 := (Array.getElem?_eq_some_iff.1 m1).1
  have hB1 := Below.on hB0 b1
  clear a0 a1 a2 a3 a4
  obtain ⟨a0, a1, a2, a3, a4⟩ := five m1
  go_wp2_with fail
  refine (hall _ hB1).mono ?_
  rintro e w2 ⟨⟨lv, rfl, hlv⟩, b2⟩
  have m2 := cells_below m1 b2 z1
  have z2 := (Array.getElem?_eq_some_iff.1 m2).1
  have hB2 := Below.on hB1 b2
  clear a0 a1 a2 a3 a4
  obtain ⟨a0, a1, a2, a3, a4⟩ := five m2
  go_wp2_with fail
  refine (hpast _ hB2).mono ?_
  rintro e w3 ⟨⟨kv, rfl, hkv⟩, b3⟩
  have m3 := cells_below m2 b3 z2
  have z3 := (Array.getElem?_eq_some_iff.1 m3).1
  have hB3 := Below.on hB2 b3
  replace hlv := hlv.below b3
  clear a0 a1 a2 a3 a4
  obtain ⟨a0, a1, a2, a3, a4⟩ := five m3
  go_wp2_with fail
  refine (hlooke _ hB3).mono ?_
  rintro e w4 ⟨rfl, b4⟩
  have m4 := cells_below m3 b4 z3
  have z4 := (Array.getElem?_eq_some_iff.1 m4).1
  have hB4 := Below.on hB3 b4
  replace hlv := hlv.below b4
  replace hkv := hkv.below b4
  clear a0 a1 a2 a3 a4
  obtain ⟨a0, a1, a2, a3, a4⟩ := five m4
  go_wp2_with fail
  refine (hchk _ hB4).mono ?_
  rintro e w5 ⟨rfl, b5⟩
  have m5 := cells_below m4 b5 z4
  have z5 := (Array.getElem?_eq_some_iff.1 m5).1
  have hB5 := Below.on hB4 b5
  replace hlv := hlv.below b5
  replace hkv := hkv.below b5
  clear a0 a1 a2 a3 a4
  obtain ⟨a0, a1, a2, a3, a4⟩ := five m5
  go_wp2_with fail
  refine (hpastOf _ hB5).mono ?_
  rintro e w6 ⟨⟨ku, rfl, hku⟩, b6⟩
  have m6 := cells_below m5 b6 z5
  have z6 := (Array.getElem?_eq_some_iff.1 m6).1
  have hB6 := Below.on hB5 b6
  replace hlv := hlv.below b6
  replace hkv := hkv.below b6
  clear a0 a1 a2 a3 a4
  go_wp2_with fail
  refine (readsBegun_any _).mono ?_
  rintro e w7 ⟨rfl, b7⟩
  have hB7 := Below.on hB6 b7
  replace hlv := hlv.below b7
  replace hkv := hkv.below b7
  replace hku := hku.below b7
  go_wp2_with fail
  refine (samePages_any hlv (Ss.nil _)).mono ?_
  rintro e w8 ⟨rfl, b8⟩
  have hB8 := Below.on hB7 b8
  replace hlv := hlv.below b8
  replace hkv := hkv.below b8
  replace hku := hku.below b8
  go_wp2_with fail
  refine (samePages_any hkv hku).mono ?_
  rintro e w9 ⟨rfl, b9⟩
  have hB9 := Below.on hB8 b9
  replace hlv := hlv.below b9
  replace hkv := hkv.below b9
  replace hku := hku.below b9
  go_wp2_with fail
  go_ret
  exact ⟨by simp, hB9⟩

set_option maxHeartbeats 4000000 in
theorem rtells_e (gm : Int) (ra : Option Addr) (rn rc : Nat) (sa : Option Addr) (sn sc : Nat) (fa : Option Addr) (fn fc : Nat) (na : Option Addr) (nn nc : Nat) (m : ImgD) (n : Int) (nm : ByteArray) (w : World) (h : Img w (.agg #[.int .i64 gm, .slice ra rn rc, .slice sa sn sc, .slice fa fn fc, .slice na nn nc]) m) (hC : checkE m = 0) (E : Int) (hL : lookE m n = E) (hEb : (E == 0) = false) (p : ByteArray) (hp : readV m n = p) (hpe : p = ⟨#[]⟩) :
    Calls Try.prog 4 #[.agg #[.int .i64 gm, .slice ra rn rc, .slice sa sn sc, .slice fa fn fc, .slice na nn nc], .int .i64 n, .string nm] w fun r w' => r = .returned (.bool true) ∧ Below w.heap.size w w' := by
  have b0 : Below w.heap.size w (w.alloc (.cells #[.int .i64 gm, .slice ra rn rc, .slice sa sn sc, .slice fa fn fc, .slice na nn nc] 26)) := (Below.refl _ _).alloc (Nat.le_refl _) _
  have m0 : (w.alloc (.cells #[.int .i64 gm, .slice ra rn rc, .slice sa sn sc, .slice fa fn fc, .slice na nn nc] 26)).heap[w.heap.size]? = some (.cells #[.int .i64 gm, .slice ra rn rc, .slice sa sn sc, .slice fa fn fc, .slice na nn nc] 26) := World.alloc_heap_new _ _
  have z0 : w.heap.size < (w.alloc (.cells #[.int .i64 gm, .slice ra rn rc, .slice sa sn sc, .slice fa fn fc, .slice na nn nc] 26)).heap.size := by simp
  subst hpe
  obtain ⟨l, hl⟩ : ∃ l, allV m = l := ⟨_, rfl⟩
  obtain ⟨Q, hQ⟩ : ∃ Q, pastE m nm = Q := ⟨_, rfl⟩
  obtain ⟨q, hq⟩ : ∃ q, pastV m nm = q := ⟨_, rfl⟩
  have hread := fun W (hW : Below w.heap.size w W) => read_is (h.below hW) n hL hp
  have hall := fun W (hW : Below w.heap.size w W) => all_is (h.below hW) hC hl
  have hpast := fun W (hW : Below w.heap.size w W) => past_is (h.below hW) nm hQ hq
  have hlooke := fun W (hW : Below w.heap.size w W) => lookErr_is (h.below hW) n hL
  have hchk := fun W (hW : Below w.heap.size w W) => checkImage_is (h.below hW) hC
  have hallOf := fun W (hW : Below w.heap.size w W) => allOf_is (h.below hW) hC hl
  have hpastOf := fun W (hW : Below w.heap.size w W) => pastOf_is (h.below hW) nm hQ hq
  clear h hL hp hC hl hQ hq
  go_enter Try.func4, Try.ntmps4
  have hB0 := b0
  obtain ⟨a0, a1, a2, a3, a4⟩ := five m0
  go_wp2_with fail
  refine (hread _ hB0).mono ?_
  rintro e w1 ⟨rfl, b1⟩
  have m1 := cells_below m0 b1 z0
  have z1 := (Array.getElem?_eq_some_iff.1 m1).1
  have hB1 := Below.on hB0 b1
  clear a0 a1 a2 a3 a4
  obtain ⟨a0, a1, a2, a3, a4⟩ := five m1
  go_wp2_with fail
  refine (hall _ hB1).mono ?_
  rintro e w2 ⟨⟨lv, rfl, hlv⟩, b2⟩
  have m2 := cells_below m1 b2 z1
  have z2 := (Array.getElem?_eq_some_iff.1 m2).1
  have hB2 := Below.on hB1 b2
  clear a0 a1 a2 a3 a4
  obtain ⟨a0, a1, a2, a3, a4⟩ := five m2
  go_wp2_with fail
  refine (hpast _ hB2).mono ?_
  rintro e w3 ⟨⟨kv, rfl, hkv⟩, b3⟩
  have m3 := cells_below m2 b3 z2
  have z3 := (Array.getElem?_eq_some_iff.1 m3).1
  have hB3 := Below.on hB2 b3
  replace hlv := hlv.below b3
  clear a0 a1 a2 a3 a4
  obtain ⟨a0, a1, a2, a3, a4⟩ := five m3
  go_wp2_with fail
  refine (hlooke _ hB3).mono ?_
  rintro e w4 ⟨rfl, b4⟩
  have m4 := cells_below m3 b4 z3
  have z4 := (Array.getElem?_eq_some_iff.1 m4).1
  have hB4 := Below.on hB3 b4
  replace hlv := hlv.below b4
  replace hkv := hkv.below b4
  clear a0 a1 a2 a3 a4
  obtain ⟨a0, a1, a2, a3, a4⟩ := five m4
  go_wp2_with fail
  refine (hchk _ hB4).mono ?_
  rintro e w5 ⟨rfl, b5⟩
  have m5 := cells_below m4 b5 z4
  have z5 := (Array.getElem?_eq_some_iff.1 m5).1
  have hB5 := Below.on hB4 b5
  replace hlv := hlv.below b5
  replace hkv := hkv.below b5
  clear a0 a1 a2 a3 a4
  obtain ⟨a0, a1, a2, a3, a4⟩ := five m5
  go_wp2_with fail
  refine (hallOf _ hB5).mono ?_
  rintro e w6 ⟨⟨lu, rfl, hlu⟩, b6⟩
  have m6 := cells_below m5 b6 z5
  have z6 := (Array.getElem?_eq_some_iff.1 m6).1
  have hB6 := Below.on hB5 b6
  replace hlv := hlv.below b6
  replace hkv := hkv.below b6
  clear a0 a1 a2 a3 a4
  obtain ⟨a0, a1, a2, a3, a4⟩ := five m6
  go_wp2_with fail
  refine (hpastOf _ hB6).mono ?_
  rintro e w7 ⟨⟨ku, rfl, hku⟩, b7⟩
  have m7 := cells_below m6 b7 z6
  have z7 := (Array.getElem?_eq_some_iff.1 m7).1
  have hB7 := Below.on hB6 b7
  replace hlv := hlv.below b7
  replace hkv := hkv.below b7
  replace hlu := hlu.below b7
  clear a0 a1 a2 a3 a4
  go_wp2_with fail
  refine (readsBegun_any _).mono ?_
  rintro e w8 ⟨rfl, b8⟩
  have hB8 := Below.on hB7 b8
  replace hlv := hlv.below b8
  replace hkv := hkv.below b8
  replace hlu := hlu.below b8
  replace hku := hku.below b8
  go_wp2_with fail
  refine (samePages_any hlv hlu).mono ?_
  rintro e w9 ⟨rfl, b9⟩
  have hB9 := Below.on hB8 b9
  replace hlv := hlv.below b9
  replace hkv := hkv.below b9
  replace hlu := hlu.below b9
  replace hku := hku.below b9
  go_wp2_with fail
  refine (samePages_any hkv hku).mono ?_
  rintro e w10 ⟨rfl, b10⟩
  have hB10 := Below.on hB9 b10
  replace hlv := hlv.below b10
  replace hkv := hkv.below b10
  replace hlu := hlu.below b10
  replace hku := hku.below b10
  go_wp2_with fail
  go_ret
  exact ⟨by simp, hB10⟩

set_option maxHeartbeats 4000000 in
theorem rtells_k (gm : Int) (ra : Option Addr) (rn rc : Nat) (sa : Option Addr) (sn sc : Nat) (fa : Option Addr) (fn fc : Nat) (na : Option Addr) (nn nc : Nat) (m : ImgD) (n : Int) (nm : ByteArray) (w : World) (h : Img w (.agg #[.int .i64 gm, .slice ra rn rc, .slice sa sn sc, .slice fa fn fc, .slice na nn nc]) m) (hC : checkE m = 0) (hL : lookE m n = 0) :
    Calls Try.prog 4 #[.agg #[.int .i64 gm, .slice ra rn rc, .slice sa sn sc, .slice fa fn fc, .slice na nn nc], .int .i64 n, .string nm] w fun r w' => r = .returned (.bool true) ∧ Below w.heap.size w w' := by
  have b0 : Below w.heap.size w (w.alloc (.cells #[.int .i64 gm, .slice ra rn rc, .slice sa sn sc, .slice fa fn fc, .slice na nn nc] 26)) := (Below.refl _ _).alloc (Nat.le_refl _) _
  have m0 : (w.alloc (.cells #[.int .i64 gm, .slice ra rn rc, .slice sa sn sc, .slice fa fn fc, .slice na nn nc] 26)).heap[w.heap.size]? = some (.cells #[.int .i64 gm, .slice ra rn rc, .slice sa sn sc, .slice fa fn fc, .slice na nn nc] 26) := World.alloc_heap_new _ _
  have z0 : w.heap.size < (w.alloc (.cells #[.int .i64 gm, .slice ra rn rc, .slice sa sn sc, .slice fa fn fc, .slice na nn nc] 26)).heap.size := by simp
  obtain ⟨p, hp⟩ : ∃ p, readV m n = p := ⟨_, rfl⟩
  obtain ⟨l, hl⟩ : ∃ l, allV m = l := ⟨_, rfl⟩
  obtain ⟨Q, hQ⟩ : ∃ Q, pastE m nm = Q := ⟨_, rfl⟩
  obtain ⟨q, hq⟩ : ∃ q, pastV m nm = q := ⟨_, rfl⟩
  have hread := fun W (hW : Below w.heap.size w W) => read_is (h.below hW) n hL hp
  have hall := fun W (hW : Below w.heap.size w W) => all_is (h.below hW) hC hl
  have hpast := fun W (hW : Below w.heap.size w W) => past_is (h.below hW) nm hQ hq
  have hlooke := fun W (hW : Below w.heap.size w W) => lookErr_is (h.below hW) n hL
  have hchk := fun W (hW : Below w.heap.size w W) => checkImage_is (h.below hW) hC
  have hreadOf := fun W (hW : Below w.heap.size w W) => readOf_is (h.below hW) n hL hp
  have hallOf := fun W (hW : Below w.heap.size w W) => allOf_is (h.below hW) hC hl
  have hpastOf := fun W (hW : Below w.heap.size w W) => pastOf_is (h.below hW) nm hQ hq
  clear h hL hp hC hl hQ hq
  go_enter Try.func4, Try.ntmps4
  have hB0 := b0
  obtain ⟨a0, a1, a2, a3, a4⟩ := five m0
  go_wp2_with fail
  refine (hread _ hB0).mono ?_
  rintro e w1 ⟨rfl, b1⟩
  have m1 := cells_below m0 b1 z0
  have z1 := (Array.getElem?_eq_some_iff.1 m1).1
  have hB1 := Below.on hB0 b1
  clear a0 a1 a2 a3 a4
  obtain ⟨a0, a1, a2, a3, a4⟩ := five m1
  go_wp2_with fail
  refine (hall _ hB1).mono ?_
  rintro e w2 ⟨⟨lv, rfl, hlv⟩, b2⟩
  have m2 := cells_below m1 b2 z1
  have z2 := (Array.getElem?_eq_some_iff.1 m2).1
  have hB2 := Below.on hB1 b2
  clear a0 a1 a2 a3 a4
  obtain ⟨a0, a1, a2, a3, a4⟩ := five m2
  go_wp2_with fail
  refine (hpast _ hB2).mono ?_
  rintro e w3 ⟨⟨kv, rfl, hkv⟩, b3⟩
  have m3 := cells_below m2 b3 z2
  have z3 := (Array.getElem?_eq_some_iff.1 m3).1
  have hB3 := Below.on hB2 b3
  replace hlv := hlv.below b3
  clear a0 a1 a2 a3 a4
  obtain ⟨a0, a1, a2, a3, a4⟩ := five m3
  go_wp2_with fail
  refine (hlooke _ hB3).mono ?_
  rintro e w4 ⟨rfl, b4⟩
  have m4 := cells_below m3 b4 z3
  have z4 := (Array.getElem?_eq_some_iff.1 m4).1
  have hB4 := Below.on hB3 b4
  replace hlv := hlv.below b4
  replace hkv := hkv.below b4
  clear a0 a1 a2 a3 a4
  obtain ⟨a0, a1, a2, a3, a4⟩ := five m4
  go_wp2_with fail
  refine (hchk _ hB4).mono ?_
  rintro e w5 ⟨rfl, b5⟩
  have m5 := cells_below m4 b5 z4
  have z5 := (Array.getElem?_eq_some_iff.1 m5).1
  have hB5 := Below.on hB4 b5
  replace hlv := hlv.below b5
  replace hkv := hkv.below b5
  clear a0 a1 a2 a3 a4
  obtain ⟨a0, a1, a2, a3, a4⟩ := five m5
  go_wp2_with fail
  refine (hreadOf _ hB5).mono ?_
  rintro e w6 ⟨rfl, b6⟩
  have m6 := cells_below m5 b6 z5
  have z6 := (Array.getElem?_eq_some_iff.1 m6).1
  have hB6 := Below.on hB5 b6
  replace hlv := hlv.below b6
  replace hkv := hkv.below b6
  clear a0 a1 a2 a3 a4
  obtain ⟨a0, a1, a2, a3, a4⟩ := five m6
  go_wp2_with fail
  refine (hallOf _ hB6).mono ?_
  rintro e w7 ⟨⟨lu, rfl, hlu⟩, b7⟩
  have m7 := cells_below m6 b7 z6
  have z7 := (Array.getElem?_eq_some_iff.1 m7).1
  have hB7 := Below.on hB6 b7
  replace hlv := hlv.below b7
  replace hkv := hkv.below b7
  clear a0 a1 a2 a3 a4
  obtain ⟨a0, a1, a2, a3, a4⟩ := five m7
  go_wp2_with fail
  refine (hpastOf _ hB7).mono ?_
  rintro e w8 ⟨⟨ku, rfl, hku⟩, b8⟩
  have m8 := cells_below m7 b8 z7
  have z8 := (Array.getElem?_eq_some_iff.1 m8).1
  have hB8 := Below.on hB7 b8
  replace hlv := hlv.below b8
  replace hkv := hkv.below b8
  replace hlu := hlu.below b8
  clear a0 a1 a2 a3 a4
  go_wp2_with fail
  refine (readsBegun_any _).mono ?_
  rintro e w9 ⟨rfl, b9⟩
  have hB9 := Below.on hB8 b9
  replace hlv := hlv.below b9
  replace hkv := hkv.below b9
  replace hlu := hlu.below b9
  replace hku := hku.below b9
  go_wp2_with fail
  refine (samePages_any hlv hlu).mono ?_
  rintro e w10 ⟨rfl, b10⟩
  have hB10 := Below.on hB9 b10
  replace hlv := hlv.below b10
  replace hkv := hkv.below b10
  replace hlu := hlu.below b10
  replace hku := hku.below b10
  go_wp2_with fail
  refine (samePages_any hkv hku).mono ?_
  rintro e w11 ⟨rfl, b11⟩
  have hB11 := Below.on hB10 b11
  replace hlv := hlv.below b11
  replace hkv := hkv.below b11
  replace hlu := hlu.below b11
  replace hku := hku.below b11
  go_wp2_with fail
  go_ret
  exact ⟨by simp, hB11⟩

theorem rtells_is {v : Value} {m : ImgD} {w : World} (h : Img w v m) (n : Int) (nm : ByteArray) : Calls Try.prog 4 #[v, .int .i64 n, .string nm] w fun r w' => r = .returned (.bool true) ∧ Below w.heap.size w w' := by
  have h' := h
  obtain ⟨ra, rc, sa, sc, fa, fc, na, nc, rfl, h1, h2, h3, h4⟩ := h.parts
  by_cases h0 : checkE m = 0
  · by_cases hL : lookE m n = 0
    · exact rtells_k m.guest ra _ rc sa _ sc fa _ fc na _ nc m n nm w h' h0 hL
    · exact rtells_e m.guest ra _ rc sa _ sc fa _ fc na _ nc m n nm w h' h0 _ rfl (by simpa using hL) _ rfl (by unfold readV; rw [if_neg hL]; rfl)
  · have hL : lookE m n = checkE m := by unfold lookE; rw [if_pos h0]
    exact rtells_c m.guest ra _ rc sa _ sc fa _ fc na _ nc m n nm w h' _ rfl (by simpa using h0) hL _ rfl (by unfold readV; rw [if_neg (by rw [hL]; exact h0)]; rfl) _ rfl (by unfold allV; rw [if_neg h0])

/-! ### ReadsTrue -/
theorem pageV_size {m : ImgD} (h : shapeE m = 0) {e : Int} (he : e = 0 ∨ e = -1 ∨ ∃ j : Nat, e = j ∧ 1 ≤ j ∧ j < m.slots.length ∧ kd m.slots j = 1) : (pageV m.slots e).size = 4 := by
  unfold pageV
  rcases he with rfl | rfl | ⟨j, rfl, h1, hj, hk⟩
  · rw [if_pos (by decide)]; rfl
  · rw [if_pos (by decide)]; rfl
  · rw [if_neg (by omega)]
    have e : m.slots.getD (j : Int).toNat default = m.slots[j] := by simp [List.getD, hj]
    rw [e]
    have ok := slotsE_all (shapeE_zero h).2.1 hj
    have hk' : m.slots[j].1 = 1 := by rw [← hk]; unfold kd; simp [List.getD, hj]
    unfold okD slotOK at ok
    rw [if_neg (by rw [hk']; decide), if_pos hk'] at ok
    simp at ok
    exact ok.1
theorem allP_ck {m : ImgD} (h : shapeE m = 0) {root : List Int} {g : Nat} (hg : g ≤ 16) (hall : root.all (rootE m.slots) = true) (hl : (root.length : Int) = ((g : Int) + 3) / 4) : ckP (allP m root g) = 0 := by
  refine ckP_ok (by rw [allP_length]; exact hg) (fun j hj => ?_)
  rw [allP_length] at hj
  have e : (allP m root g).getD j ByteArray.empty = pageV m.slots (lookV m root j) := by unfold allP; simp [List.getD, hj]
  rw [e]
  exact pageV_size h (lookV_ent h hall j (by omega))
theorem allV_facts {m : ImgD} (hC : checkE m = 0) : ckP (allV m) = 0 ∧ ((allV m).length : Int) = m.guest ∧ ∀ n, atE (allV m) n = lookE m n ∧ freadA (allV m) n = readV m n := by
  have hs := checkE_shape hC
  have hg := guest_ok hs
  have hr := root_ok hs
  obtain ⟨k, hk⟩ : ∃ k : Nat, m.guest = k := ⟨m.guest.toNat, by omega⟩
  have e : allV m = allP m m.root k := by unfold allV; rw [if_pos hC, hk]; rfl
  have hck := allP_ck hs (g := k) (by omega) hr.2 (by rw [← hk]; exact hr.1)
  rw [e]
  have ha : ∀ n, atE (allP m m.root k) n = lookE m n := fun n => by
    have e2 : lookE m n = if 0 ≤ n ∧ n < m.guest then 0 else 3 := by unfold lookE; rw [if_neg (by simpa using hC)]
    rw [e2]
    unfold atE
    rw [if_pos hck, allP_length, hk]
  refine ⟨hck, by rw [allP_length, hk], fun n => ⟨ha n, ?_⟩⟩
  unfold freadA readV
  rw [ha n]
  by_cases hL : lookE m n = 0
  · rw [if_pos hL, if_pos hL]
    obtain ⟨_, h1, h2⟩ := lookE_parts hL
    unfold allP
    have : n.toNat < k := by omega
    simp [List.getD, this]
  · rw [if_neg hL, if_neg hL]

set_option maxHeartbeats 4000000 in
theorem rtrue_bad (gm : Int) (ra : Option Addr) (rn rc : Nat) (sa : Option Addr) (sn sc : Nat) (fa : Option Addr) (fn fc : Nat) (na : Option Addr) (nn nc : Nat) (m : ImgD) (n : Int) (w : World) (h : Img w (.agg #[.int .i64 gm, .slice ra rn rc, .slice sa sn sc, .slice fa fn fc, .slice na nn nc]) m) (C : Int) (hC : checkE m = C) (hCb : (C != 0) = true) :
    Calls Try.prog 5 #[.agg #[.int .i64 gm, .slice ra rn rc, .slice sa sn sc, .slice fa fn fc, .slice na nn nc], .int .i64 n] w fun r w' => r = .returned (.bool true) ∧ Below w.heap.size w w' := by
  have b0 : Below w.heap.size w (w.alloc (.cells #[.int .i64 gm, .slice ra rn rc, .slice sa sn sc, .slice fa fn fc, .slice na nn nc] 26)) := (Below.refl _ _).alloc (Nat.le_refl _) _
  have m0 : (w.alloc (.cells #[.int .i64 gm, .slice ra rn rc, .slice sa sn sc, .slice fa fn fc, .slice na nn nc] 26)).heap[w.heap.size]? = some (.cells #[.int .i64 gm, .slice ra rn rc, .slice sa sn sc, .slice fa fn fc, .slice na nn nc] 26) := World.alloc_heap_new _ _
  have z0 : w.heap.size < (w.alloc (.cells #[.int .i64 gm, .slice ra rn rc, .slice sa sn sc, .slice fa fn fc, .slice na nn nc] 26)).heap.size := by simp
  have hall := fun W (hW : Below w.heap.size w W) => all_is (h.below hW) hC rfl
  clear h hC
  go_enter Try.func5, Try.ntmps5
  have hB0 := b0
  obtain ⟨a0, a1, a2, a3, a4⟩ := five m0
  go_wp2_with fail
  refine (hall _ hB0).mono ?_
  rintro e w1 ⟨⟨lv, rfl, _⟩, b1⟩
  have m1 := cells_below m0 b1 z0
  have z1 := (Array.getElem?_eq_some_iff.1 m1).1
  have hB1 := Below.on hB0 b1
  clear a0 a1 a2 a3 a4
  go_wp2_with fail
  refine (readsBegun_any _).mono ?_
  rintro e w2 ⟨rfl, b2⟩
  have hB2 := Below.on hB1 b2
  go_wp2_with fail
  go_ret
  exact ⟨rfl, hB2⟩

set_option maxHeartbeats 4000000 in
theorem rtrue_at (gm : Nat) (ra : Option Addr) (rn rc : Nat) (sa : Option Addr) (sn sc : Nat) (fa : Option Addr) (fn fc : Nat) (na : Option Addr) (nn nc : Nat) (m : ImgD) (n : Int) (w : World) (h : Img w (.agg #[.int .i64 gm, .slice ra rn rc, .slice sa sn sc, .slice fa fn fc, .slice na nn nc]) m) (hC : checkE m = 0) (hgm : m.guest = gm) :
    Calls Try.prog 5 #[.agg #[.int .i64 gm, .slice ra rn rc, .slice sa sn sc, .slice fa fn fc, .slice na nn nc], .int .i64 n] w fun r w' => r = .returned (.bool true) ∧ Below w.heap.size w w' := by
  have b0 : Below w.heap.size w (w.alloc (.cells #[.int .i64 gm, .slice ra rn rc, .slice sa sn sc, .slice fa fn fc, .slice na nn nc] 26)) := (Below.refl _ _).alloc (Nat.le_refl _) _
  have m0 : (w.alloc (.cells #[.int .i64 gm, .slice ra rn rc, .slice sa sn sc, .slice fa fn fc, .slice na nn nc] 26)).heap[w.heap.size]? = some (.cells #[.int .i64 gm, .slice ra rn rc, .slice sa sn sc, .slice fa fn fc, .slice na nn nc] 26) := World.alloc_heap_new _ _
  have z0 : w.heap.size < (w.alloc (.cells #[.int .i64 gm, .slice ra rn rc, .slice sa sn sc, .slice fa fn fc, .slice na nn nc] 26)).heap.size := by simp
  obtain ⟨hf1, hf2, hf3⟩ := allV_facts hC
  have hg := guest_ok (checkE_shape hC)
  obtain ⟨l, hl⟩ : ∃ l, allV m = l := ⟨_, rfl⟩
  obtain ⟨p, hp⟩ : ∃ p, readV m n = p := ⟨_, rfl⟩
  obtain ⟨E, hE⟩ : ∃ E, lookE m n = E := ⟨_, rfl⟩
  have hall := fun W (hW : Below w.heap.size w W) => all_is (h.below hW) hC hl
  have hread := fun W (hW : Below w.heap.size w W) => read_is (h.below hW) n hE hp
  rw [hl] at hf1 hf2 hf3
  have hlen : l.length = gm := by omega
  have hg16 : gm ≤ 16 := by omega
  have HF : Hid (ckP l = 0 ∧ ∀ n, atE l n = lookE m n ∧ freadA l n = readV m n) := ⟨hf1, hf3⟩
  have HR : Hid (lookE m n = E ∧ readV m n = p) := ⟨hE, hp⟩
  have hgg : ((gm : Int) != (gm : Int)) = false := by simp
  clear h hC hf1 hf2 hf3 hg hl hp hE hgm
  go_enter Try.func5, Try.ntmps5
  have hB0 := b0
  obtain ⟨a0, a1, a2, a3, a4⟩ := five m0
  go_wp2_with fail
  refine (hall _ hB0).mono ?_
  rintro e w1 ⟨⟨lv, rfl, hlv⟩, b1⟩
  have m1 := cells_below m0 b1 z0
  have z1 := (Array.getElem?_eq_some_iff.1 m1).1
  have hB1 := Below.on hB0 b1
  clear a0 a1 a2 a3 a4
  obtain ⟨la, lc, rfl⟩ := hlv.form
  rw [hlen] at hlv ⊢
  have hck := pcheck_is hlv HF.out.1
  obtain ⟨a0, a1, a2, a3, a4⟩ := five m1
  go_wp2_with fail
  refine hck.mono ?_
  rintro e w' ⟨rfl, hw⟩
  rw [hw]; clear hw hck
  go_wp2_with fail
  refine (hread _ hB1).mono ?_
  rintro e w2 ⟨rfl, b2⟩
  have m2 := cells_below m1 b2 z1
  have z2 := (Array.getElem?_eq_some_iff.1 m2).1
  have hB2 := Below.on hB1 b2
  replace hlv := hlv.below b2
  clear a0 a1 a2 a3 a4
  have hfr := fread_is hlv (n := n) (p := p) (c := E) (by rw [(HF.out.2 n).2]; exact HR.out.2) (by rw [(HF.out.2 n).1]; exact HR.out.1)
  go_wp2_with fail
  refine hfr.mono ?_
  rintro e w' ⟨rfl, hw⟩
  rw [hw]; clear hw hfr
  go_wp2_with fail
  refine (readsBegun_any _).mono ?_
  rintro e w3 ⟨rfl, b3⟩
  have hB3 := Below.on hB2 b3
  replace hlv := hlv.below b3
  go_wp2_with fail
  go_ret
  exact ⟨by simp, hB3⟩

theorem rtrue_is {v : Value} {m : ImgD} {w : World} (h : Img w v m) (n : Int) : Calls Try.prog 5 #[v, .int .i64 n] w fun r w' => r = .returned (.bool true) ∧ Below w.heap.size w w' := by
  have h' := h
  obtain ⟨ra, rc, sa, sc, fa, fc, na, nc, rfl, h1, h2, h3, h4⟩ := h.parts
  by_cases h0 : checkE m = 0
  · have hg := guest_ok (checkE_shape h0)
    obtain ⟨k, hk⟩ : ∃ k : Nat, m.guest = k := ⟨m.guest.toNat, by omega⟩
    rw [hk] at h' ⊢
    exact rtrue_at k ra _ rc sa _ sc fa _ fc na _ nc m n w h' h0 hk
  · exact rtrue_bad m.guest ra _ rc sa _ sc fa _ fc na _ nc m n w h' _ rfl (by simpa using h0)
end Go.Proofs.Ytgcfmodkknmifac
