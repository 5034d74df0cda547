/- The walks of TreeCounts and TreeLooks. -/
import Derived.Test.YtehleeibgkpjmabTBegun
namespace Go.Proofs.Ytehleeibgkpjmab
open Go.RowKit Go.Shelf
set_option maxRecDepth 20000

set_option maxRecDepth 20000 in
set_option maxHeartbeats 4000000 in
theorem tcounts_bad (gm : Int) (ra : Option Addr) (rn rc : Nat) (sa : Option Addr) (sn sc : Nat) (fa : Option Addr) (fn fc : Nat) (na : Option Addr) (nn nc : Nat) (m : ImgD) (w : World) (h : Img w (.agg #[.int .i64 gm, .slice ra rn rc, .slice sa sn sc, .slice fa fn fc, .slice na nn nc]) m) (E : Int) (hE : shapeE m = E) (hne : (E != 0) = true) (hne2 : (E == 0) = false) :
    Calls Try.prog 7 #[.agg #[.int .i64 gm, .slice ra rn rc, .slice sa sn sc, .slice fa fn fc, .slice na nn nc]] w fun r w' => r = .returned (.bool true) ∧ Below w.heap.size w w' := by
  have b0 : Below w.heap.size w (w.alloc (.cells #[.int .i64 gm, .slice ra rn rc, .slice sa sn sc, .slice fa fn fc, .slice na nn nc] 44)) := (Below.refl _ _).alloc (Nat.le_refl _) _
  have m0 : (w.alloc (.cells #[.int .i64 gm, .slice ra rn rc, .slice sa sn sc, .slice fa fn fc, .slice na nn nc] 44)).heap[w.heap.size]? = some (.cells #[.int .i64 gm, .slice ra rn rc, .slice sa sn sc, .slice fa fn fc, .slice na nn nc] 44) := World.alloc_heap_new _ _
  have z0 : w.heap.size < (w.alloc (.cells #[.int .i64 gm, .slice ra rn rc, .slice sa sn sc, .slice fa fn fc, .slice na nn nc] 44)).heap.size := by simp
  obtain ⟨C, hC⟩ : ∃ C, checkE m = C := ⟨_, rfl⟩
  have h1 := counts_err (h.below b0) hE hne
  have h2 := fun W (hW : Below w.heap.size w W) => shapeOf_is (h.below hW) hE
  have hc := fun W (hW : Below w.heap.size w W) => tcheck_is (h.below hW) hC
  have hi := fun W (hW : Below w.heap.size w W) => checkImage_is (h.below hW) hC
  clear h hE hC
  go_enter Try.func7, Try.ntmps7
  go_wp2_with fail
  refine h1.mono ?_
  rintro e w1 ⟨rfl, b1⟩
  have m1 := cells_below m0 b1 z0
  have hB1 := Below.on b0 b1
  have z1 := (Array.getElem?_eq_some_iff.1 m1).1
  obtain ⟨a0, a1, a2, a3, a4⟩ := five m1
  clear h1
  go_wp2_with fail
  refine (h2 _ hB1).mono ?_
  rintro e w2 ⟨rfl, b2⟩
  have m2 := cells_below m1 b2 z1
  have hB2 := Below.on hB1 b2
  have z2 := (Array.getElem?_eq_some_iff.1 m2).1
  clear a0 a1 a2 a3 a4 h2
  obtain ⟨c0, c1, c2, c3, c4⟩ := five m2
  have hsame := fun W (_ : Below w2.heap.size w2 W) => same_any (Sl.nil W) (Sl.nil W)
  go_wp2_with fail
  go_region_held3 (fun w' => w'.cell? ⟨w.heap.size, 0, none⟩ = some (.int .i64 gm) ∧ w'.cell? ⟨w.heap.size, 0 + 1, none⟩ = some (.slice ra rn rc) ∧ w'.cell? ⟨w.heap.size, 0 + 1 + 1, none⟩ = some (.slice sa sn sc) ∧ w'.cell? ⟨w.heap.size, 0 + 1 + 1 + 1, none⟩ = some (.slice fa fn fc) ∧ w'.cell? ⟨w.heap.size, 0 + 1 + 1 + 1 + 1, none⟩ = some (.slice na nn nc)) (first | exact ⟨g90, g91, g92, g93, g94⟩ | exact ⟨g80, g81, g82, g83, g84⟩ | exact ⟨g70, g71, g72, g73, g74⟩ | exact ⟨g60, g61, g62, g63, g64⟩ | exact ⟨c0, c1, c2, c3, c4⟩)
    (first
    | (go_at_call 23; refine (treeBegun_any _).mono ?_; rintro e w6 ⟨rfl, b6⟩; have b6 := below_drew b6; have m6 := cells_below m2 b6 z2; have hB6 := Below.on hB2 b6; have z6 := (Array.getElem?_eq_some_iff.1 m6).1; obtain ⟨g60, g61, g62, g63, g64⟩ := five m6)
    | (go_at_call 21; refine (hsame _ b6).mono ?_; rintro e w7 ⟨rfl, b7⟩; have m7 := cells_below m6 b7 z6; have hB7 := Below.on hB6 b7; have z7 := (Array.getElem?_eq_some_iff.1 m7).1; obtain ⟨g70, g71, g72, g73, g74⟩ := five m7)
    | (go_at_call 28; first | (refine (hc _ hB9).mono ?_; rintro e w8 ⟨rfl, b8⟩; have m8 := cells_below m9 b8 z9; have hB8 := Below.on hB9 b8; have z8 := (Array.getElem?_eq_some_iff.1 m8).1; obtain ⟨g80, g81, g82, g83, g84⟩ := five m8) | (refine (hc _ hB7).mono ?_; rintro e w8 ⟨rfl, b8⟩; have m8 := cells_below m7 b8 z7; have hB8 := Below.on hB7 b8; have z8 := (Array.getElem?_eq_some_iff.1 m8).1; obtain ⟨g80, g81, g82, g83, g84⟩ := five m8))
    | (go_at_call 29; first | (refine (hi _ hB8).mono ?_; rintro e w9 ⟨rfl, b9⟩; have m9 := cells_below m8 b9 z8; have hB9 := Below.on hB8 b9; have z9 := (Array.getElem?_eq_some_iff.1 m9).1; obtain ⟨g90, g91, g92, g93, g94⟩ := five m9) | (refine (hi _ hB7).mono ?_; rintro e w9 ⟨rfl, b9⟩; have m9 := cells_below m7 b9 z7; have hB9 := Below.on hB7 b9; have z9 := (Array.getElem?_eq_some_iff.1 m9).1; obtain ⟨g90, g91, g92, g93, g94⟩ := five m9))
    )
  all_goals
    go_wp2_with fail
    go_ret
    first | exact ⟨by simp, hB9⟩ | exact ⟨by simp, hB8⟩

set_option maxRecDepth 20000 in
set_option maxHeartbeats 4000000 in
theorem tcounts_at (gm : Int) (ra : Option Addr) (rn rc : Nat) (sa : Option Addr) (sn sc : Nat) (fa : Option Addr) (fn fc : Nat) (na : Option Addr) (nn nc : Nat) (m : ImgD) (w : World) (h : Img w (.agg #[.int .i64 gm, .slice ra rn rc, .slice sa sn sc, .slice fa fn fc, .slice na nn nc]) m) (hE : shapeE m = 0) :
    Calls Try.prog 7 #[.agg #[.int .i64 gm, .slice ra rn rc, .slice sa sn sc, .slice fa fn fc, .slice na nn nc]] w fun r w' => r = .returned (.bool true) ∧ Below w.heap.size w w' := by
  have b0 : Below w.heap.size w (w.alloc (.cells #[.int .i64 gm, .slice ra rn rc, .slice sa sn sc, .slice fa fn fc, .slice na nn nc] 44)) := (Below.refl _ _).alloc (Nat.le_refl _) _
  have m0 : (w.alloc (.cells #[.int .i64 gm, .slice ra rn rc, .slice sa sn sc, .slice fa fn fc, .slice na nn nc] 44)).heap[w.heap.size]? = some (.cells #[.int .i64 gm, .slice ra rn rc, .slice sa sn sc, .slice fa fn fc, .slice na nn nc] 44) := World.alloc_heap_new _ _
  have z0 : w.heap.size < (w.alloc (.cells #[.int .i64 gm, .slice ra rn rc, .slice sa sn sc, .slice fa fn fc, .slice na nn nc] 44)).heap.size := by simp
  obtain ⟨C, hC⟩ : ∃ C, checkE m = C := ⟨_, rfl⟩
  have h1 := counts_ok (h.below b0) hE
  have h2 := fun W (hW : Below w.heap.size w W) => shapeOf_is (h.below hW) hE
  have h3 := fun W (hW : Below w.heap.size w W) => countsOf_is (h.below hW) hE
  have hc := fun W (hW : Below w.heap.size w W) => tcheck_is (h.below hW) hC
  have hi := fun W (hW : Below w.heap.size w W) => checkImage_is (h.below hW) hC
  have HM : Hid (m.slots.length ≤ maxLen) := by
    have := (slotsE_parts (shapeE_zero hE).2.1).2
    show _ ≤ _
    unfold maxLen; omega
  clear h hE hC
  go_enter Try.func7, Try.ntmps7
  go_wp2_with fail
  refine h1.mono ?_
  rintro e w1 ⟨⟨lv, rfl, hlv⟩, b1⟩
  have m1 := cells_below m0 b1 z0
  have hB1 := Below.on b0 b1
  have z1 := (Array.getElem?_eq_some_iff.1 m1).1
  obtain ⟨a0, a1, a2, a3, a4⟩ := five m1
  clear h1
  go_wp2_with fail
  refine (h2 _ hB1).mono ?_
  rintro e w2 ⟨rfl, b2⟩
  have m2 := cells_below m1 b2 z1
  have hB2 := Below.on hB1 b2
  have z2 := (Array.getElem?_eq_some_iff.1 m2).1
  clear a0 a1 a2 a3 a4 h2
  obtain ⟨a0, a1, a2, a3, a4⟩ := five m2
  go_wp2_with fail
  refine (h3 _ hB2).mono ?_
  rintro e w3 ⟨⟨rfl, hL⟩, b3⟩
  have m3 := cells_below m2 b3 z2
  have hB3 := Below.on hB2 b3
  have z3 := (Array.getElem?_eq_some_iff.1 m3).1
  clear a0 a1 a2 a3 a4 h3
  obtain ⟨c0, c1, c2, c3, c4⟩ := five m3
  have hlv3 := hlv.below (Below.on b2 b3)
  have hL3 := hL.sl (cntL_length m) HM.out
  have hsame := fun W (hW : Below w3.heap.size w3 W) => same_any (hlv3.below hW) (hL3.below hW)
  clear hlv hL hlv3 hL3
  go_wp2_with fail
  go_region_held3 (fun w' => w'.cell? ⟨w.heap.size, 0, none⟩ = some (.int .i64 gm) ∧ w'.cell? ⟨w.heap.size, 0 + 1, none⟩ = some (.slice ra rn rc) ∧ w'.cell? ⟨w.heap.size, 0 + 1 + 1, none⟩ = some (.slice sa sn sc) ∧ w'.cell? ⟨w.heap.size, 0 + 1 + 1 + 1, none⟩ = some (.slice fa fn fc) ∧ w'.cell? ⟨w.heap.size, 0 + 1 + 1 + 1 + 1, none⟩ = some (.slice na nn nc)) (first | exact ⟨g90, g91, g92, g93, g94⟩ | exact ⟨g80, g81, g82, g83, g84⟩ | exact ⟨g70, g71, g72, g73, g74⟩ | exact ⟨g60, g61, g62, g63, g64⟩ | exact ⟨c0, c1, c2, c3, c4⟩)
    (first
    | (go_at_call 23; refine (treeBegun_any _).mono ?_; rintro e w6 ⟨rfl, b6⟩; have b6 := below_drew b6; have m6 := cells_below m3 b6 z3; have hB6 := Below.on hB3 b6; have z6 := (Array.getElem?_eq_some_iff.1 m6).1; obtain ⟨g60, g61, g62, g63, g64⟩ := five m6)
    | (go_at_call 21; refine (hsame _ b6).mono ?_; rintro e w7 ⟨rfl, b7⟩; have m7 := cells_below m6 b7 z6; have hB7 := Below.on hB6 b7; have z7 := (Array.getElem?_eq_some_iff.1 m7).1; obtain ⟨g70, g71, g72, g73, g74⟩ := five m7)
    | (go_at_call 28; first | (refine (hc _ hB9).mono ?_; rintro e w8 ⟨rfl, b8⟩; have m8 := cells_below m9 b8 z9; have hB8 := Below.on hB9 b8; have z8 := (Array.getElem?_eq_some_iff.1 m8).1; obtain ⟨g80, g81, g82, g83, g84⟩ := five m8) | (refine (hc _ hB7).mono ?_; rintro e w8 ⟨rfl, b8⟩; have m8 := cells_below m7 b8 z7; have hB8 := Below.on hB7 b8; have z8 := (Array.getElem?_eq_some_iff.1 m8).1; obtain ⟨g80, g81, g82, g83, g84⟩ := five m8))
    | (go_at_call 29; first | (refine (hi _ hB8).mono ?_; rintro e w9 ⟨rfl, b9⟩; have m9 := cells_below m8 b9 z8; have hB9 := Below.on hB8 b9; have z9 := (Array.getElem?_eq_some_iff.1 m9).1; obtain ⟨g90, g91, g92, g93, g94⟩ := five m9) | (refine (hi _ hB7).mono ?_; rintro e w9 ⟨rfl, b9⟩; have m9 := cells_below m7 b9 z7; have hB9 := Below.on hB7 b9; have z9 := (Array.getElem?_eq_some_iff.1 m9).1; obtain ⟨g90, g91, g92, g93, g94⟩ := five m9))
    )
  all_goals
    go_wp2_with fail
    go_ret
    first | exact ⟨by simp, hB9⟩ | exact ⟨by simp, hB8⟩

theorem tcounts_is {v : Value} {m : ImgD} {w : World} (h : Img w v m) : Calls Try.prog 7 #[v] w fun r w' => r = .returned (.bool true) ∧ Below w.heap.size w w' := by
  have h' := h
  obtain ⟨ra, rc, sa, sc, fa, fc, na, nc, rfl, _⟩ := h.parts
  by_cases h0 : shapeE m = 0
  · exact tcounts_at m.guest ra _ rc sa _ sc fa _ fc na _ nc m w h' h0
  · exact tcounts_bad m.guest ra _ rc sa _ sc fa _ fc na _ nc m w h' _ rfl (by simpa using h0) (by simpa using h0)

set_option maxRecDepth 20000 in
set_option maxHeartbeats 4000000 in
theorem tlooks_at (gm : Int) (ra : Option Addr) (rn rc : Nat) (sa : Option Addr) (sn sc : Nat) (fa : Option Addr) (fn fc : Nat) (na : Option Addr) (nn nc : Nat) (m : ImgD) (n : Int) (w : World) (h : Img w (.agg #[.int .i64 gm, .slice ra rn rc, .slice sa sn sc, .slice fa fn fc, .slice na nn nc]) m) :
    Calls Try.prog 8 #[.agg #[.int .i64 gm, .slice ra rn rc, .slice sa sn sc, .slice fa fn fc, .slice na nn nc], .int .i64 n] w fun r w' => r = .returned (.bool true) ∧ Below w.heap.size w w' := by
  have b0 : Below w.heap.size w (w.alloc (.cells #[.int .i64 gm, .slice ra rn rc, .slice sa sn sc, .slice fa fn fc, .slice na nn nc] 44)) := (Below.refl _ _).alloc (Nat.le_refl _) _
  have m0 : (w.alloc (.cells #[.int .i64 gm, .slice ra rn rc, .slice sa sn sc, .slice fa fn fc, .slice na nn nc] 44)).heap[w.heap.size]? = some (.cells #[.int .i64 gm, .slice ra rn rc, .slice sa sn sc, .slice fa fn fc, .slice na nn nc] 44) := World.alloc_heap_new _ _
  have z0 : w.heap.size < (w.alloc (.cells #[.int .i64 gm, .slice ra rn rc, .slice sa sn sc, .slice fa fn fc, .slice na nn nc] 44)).heap.size := by simp
  obtain ⟨E, hE⟩ : ∃ E, lookE m n = E := ⟨_, rfl⟩
  obtain ⟨c, hc⟩ : ∃ c, (if E = 0 then lookV m m.root n.toNat else 0) = c := ⟨_, rfl⟩
  have h1 := look_is (h.below b0) n hE hc
  have h2 := fun W (hW : Below w.heap.size w W) => lookErr_is (h.below hW) n hE
  by_cases h0 : E = 0
  · subst h0
    rw [if_pos rfl] at hc
    have h3 := fun W (hW : Below w.heap.size w W) => lookOf_is (h.below hW) n hE hc
    clear h hE hc
    go_enter Try.func8, Try.ntmps8
    go_wp2_with fail
    refine h1.mono ?_
    rintro e w1 ⟨rfl, b1⟩
    have m1 := cells_below m0 b1 z0
    have hB1 := Below.on b0 b1
    have z1 := (Array.getElem?_eq_some_iff.1 m1).1
    obtain ⟨a0, a1, a2, a3, a4⟩ := five m1
    clear h1
    go_wp2_with fail
    refine (h2 _ hB1).mono ?_
    rintro e w2 ⟨rfl, b2⟩
    have m2 := cells_below m1 b2 z1
    have hB2 := Below.on hB1 b2
    have z2 := (Array.getElem?_eq_some_iff.1 m2).1
    clear a0 a1 a2 a3 a4 h2
    obtain ⟨a0, a1, a2, a3, a4⟩ := five m2
    go_wp2_with fail
    refine (h3 _ hB2).mono ?_
    rintro e w3 ⟨rfl, b3⟩
    have hB3 := Below.on hB2 b3
    clear h3 a0 a1 a2 a3 a4
    go_wp2_with fail
    refine (treeBegun_any _).mono ?_
    rintro e w4 ⟨rfl, b4⟩
    go_wp2_with fail
    go_ret
    exact ⟨by simp, Below.on hB3 b4⟩
  · rw [if_neg h0] at hc
    subst hc
    have hEb : (E == 0) = false := by simpa using h0
    clear h hE h0
    go_enter Try.func8, Try.ntmps8
    go_wp2_with fail
    refine h1.mono ?_
    rintro e w1 ⟨rfl, b1⟩
    have m1 := cells_below m0 b1 z0
    have hB1 := Below.on b0 b1
    have z1 := (Array.getElem?_eq_some_iff.1 m1).1
    obtain ⟨a0, a1, a2, a3, a4⟩ := five m1
    clear h1
    go_wp2_with fail
    refine (h2 _ hB1).mono ?_
    rintro e w2 ⟨rfl, b2⟩
    have hB2 := Below.on hB1 b2
    clear a0 a1 a2 a3 a4 h2
    go_wp2_with fail
    refine (treeBegun_any _).mono ?_
    rintro e w4 ⟨rfl, b4⟩
    go_wp2_with fail
    go_ret
    exact ⟨by simp, Below.on hB2 b4⟩
theorem tlooks_is {v : Value} {m : ImgD} {w : World} (h : Img w v m) (n : Int) : Calls Try.prog 8 #[v, .int .i64 n] w fun r w' => r = .returned (.bool true) ∧ Below w.heap.size w w' := by
  have h' := h
  obtain ⟨ra, rc, sa, sc, fa, fc, na, nc, rfl, _⟩ := h.parts
  exact tlooks_at m.guest ra _ rc sa _ sc fa _ fc na _ nc m n w h'
end Go.Proofs.Ytehleeibgkpjmab
