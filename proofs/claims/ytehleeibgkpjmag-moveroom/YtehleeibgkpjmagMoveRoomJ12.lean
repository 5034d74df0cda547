/- Texts joined: MvR, SlotsIn, ImgIn. -/
import Derived.Test.YtehleeibgkpjmagMoveRoomJ11
import Derived.Test.YtehleeibgkpjmagMoveRoomJ1
import Derived.Deep.Strs
import Derived.Deep.Slices
import Derived.ProofKit
/- The walk of MoveRoom. -/
namespace Go.Proofs.Ytehleeibgkpjmag
open Go.RowKit Go.Shelf
set_option maxRecDepth 20000
set_option linter.unusedVariables false
set_option linter.unusedSimpArgs false

set_option maxHeartbeats 16000000 in
theorem mvr_bad (ra : Option Addr) (rc : Nat) (sa : Option Addr) (sc : Nat) (fa : Option Addr) (fc : Nat) (na : Option Addr) (nc : Nat) (m : ImgD) (n : Int) (page : ByteArray) (w : World) (h : Img w (.agg #[.int .i64 m.guest, .slice ra m.root.length rc, .slice sa m.slots.length sc, .slice fa m.refs.length fc, .slice na m.snaps.length nc]) m) (EM EA EB : Int) (MP MA MB : ImgD) (HP : Hid (pkM m = MP ∧ checkE m = EM)) (HA : Hid (wrM m n page = MA ∧ wrE m n page = EA)) (HB : Hid (wrM MP n page = MB ∧ wrE MP n page = EB)) (eM : (EM != 0) = true) :
    Calls Try.prog 3 #[.agg #[.int .i64 m.guest, .slice ra m.root.length rc, .slice sa m.slots.length sc, .slice fa m.refs.length fc, .slice na m.snaps.length nc], .int .i64 n, .string page] w fun r w' => r = .returned (.bool true) ∧ Below w.heap.size w w' := by
  have hB : Below w.heap.size w (w.alloc (.cells #[.int .i64 m.guest, .slice ra m.root.length rc, .slice sa m.slots.length sc, .slice fa m.refs.length fc, .slice na m.snaps.length nc] 26)) := (Below.refl _ _).alloc (Nat.le_refl _) _
  have mb_m : (w.alloc (.cells #[.int .i64 m.guest, .slice ra m.root.length rc, .slice sa m.slots.length sc, .slice fa m.refs.length fc, .slice na m.snaps.length nc] 26)).heap[w.heap.size]? = some (.cells #[.int .i64 m.guest, .slice ra m.root.length rc, .slice sa m.slots.length sc, .slice fa m.refs.length fc, .slice na m.snaps.length nc] 26) := World.alloc_heap_new _ _
  have I_m := h.below hB
  clear h
  go_enter Try.func3, Try.ntmps3
  obtain ⟨m0, m1, m2, m3, m4⟩ := five mb_m
  have hh_mb_m := Hid_mkU mb_m
  have hh_I_m := Hid_mkU I_m
  have hh_hB := Hid_mkU hB
  clear mb_m I_m hB
  go_wp2_with fail
  clear m0 m1 m2 m3 m4
  have mb_m := hh_mb_m.out
  have I_m := hh_I_m.out
  have hB := hh_hB.out
  clear hh_mb_m hh_I_m hh_hB
  refine (pack_is I_m HP.out.1 HP.out.2).mono ?_
  intro e w1 hA
  obtain ⟨val, p_r, p_rc, p_s, p_sc, p_f, p_fc, p_n, p_nc, rfl, hO, bb, hI⟩ := hA.open
  dsimp only
  have I_p := hO.img
  rw [hI] at I_p
  clear hA hO hI
  replace mb_m := cells_below mb_m bb (Array.getElem?_eq_some_iff.1 mb_m).1
  replace hB := Below.on hB bb
  replace I_m := I_m.below bb
  clear bb
  replace mb_m := cells_alloc mb_m (.cells #[.int .i64 MP.guest, .slice p_r MP.root.length p_rc, .slice p_s MP.slots.length p_sc, .slice p_f MP.refs.length p_fc, .slice p_n MP.snaps.length p_nc] 26)
  have ba : Below w1.heap.size w1 (w1.alloc (.cells #[.int .i64 MP.guest, .slice p_r MP.root.length p_rc, .slice p_s MP.slots.length p_sc, .slice p_f MP.refs.length p_fc, .slice p_n MP.snaps.length p_nc] 26)) := (Below.refl _ _).alloc (Nat.le_refl _) _
  replace hB := Below.on hB ba
  replace I_m := I_m.below ba
  replace I_p := I_p.below ba
  clear ba
  have mb_p : (w1.alloc (.cells #[.int .i64 MP.guest, .slice p_r MP.root.length p_rc, .slice p_s MP.slots.length p_sc, .slice p_f MP.refs.length p_fc, .slice p_n MP.snaps.length p_nc] 26)).heap[w1.heap.size]? = some (.cells #[.int .i64 MP.guest, .slice p_r MP.root.length p_rc, .slice p_s MP.slots.length p_sc, .slice p_f MP.refs.length p_fc, .slice p_n MP.snaps.length p_nc] 26) := World.alloc_heap_new _ _
  obtain ⟨m0, m1, m2, m3, m4⟩ := five mb_m
  have hh_mb_m := Hid_mkU mb_m
  have hh_mb_p := Hid_mkU mb_p
  have hh_I_m := Hid_mkU I_m
  have hh_I_p := Hid_mkU I_p
  have hh_hB := Hid_mkU hB
  clear mb_m mb_p I_m I_p hB
  go_wp2_with fail
  clear m0 m1 m2 m3 m4
  have mb_m := hh_mb_m.out
  have mb_p := hh_mb_p.out
  have I_m := hh_I_m.out
  have I_p := hh_I_p.out
  have hB := hh_hB.out
  clear hh_mb_m hh_mb_p hh_I_m hh_I_p hh_hB
  refine (write_to I_m n page HA.out.1 HA.out.2).mono ?_
  intro e w2 hA
  obtain ⟨val, a_r, a_rc, a_s, a_sc, a_f, a_fc, a_n, a_nc, rfl, hO, bb, hI⟩ := hA.open
  dsimp only
  have I_a := hO.img
  rw [hI] at I_a
  clear hA hO hI
  replace mb_m := cells_below mb_m bb (Array.getElem?_eq_some_iff.1 mb_m).1
  replace mb_p := cells_below mb_p bb (Array.getElem?_eq_some_iff.1 mb_p).1
  replace hB := Below.on hB bb
  replace I_m := I_m.below bb
  replace I_p := I_p.below bb
  clear bb
  replace mb_m := cells_alloc mb_m (.cells #[.int .i64 MA.guest, .slice a_r MA.root.length a_rc, .slice a_s MA.slots.length a_sc, .slice a_f MA.refs.length a_fc, .slice a_n MA.snaps.length a_nc] 26)
  replace mb_p := cells_alloc mb_p (.cells #[.int .i64 MA.guest, .slice a_r MA.root.length a_rc, .slice a_s MA.slots.length a_sc, .slice a_f MA.refs.length a_fc, .slice a_n MA.snaps.length a_nc] 26)
  have ba : Below w2.heap.size w2 (w2.alloc (.cells #[.int .i64 MA.guest, .slice a_r MA.root.length a_rc, .slice a_s MA.slots.length a_sc, .slice a_f MA.refs.length a_fc, .slice a_n MA.snaps.length a_nc] 26)) := (Below.refl _ _).alloc (Nat.le_refl _) _
  replace hB := Below.on hB ba
  replace I_m := I_m.below ba
  replace I_p := I_p.below ba
  replace I_a := I_a.below ba
  clear ba
  have mb_a : (w2.alloc (.cells #[.int .i64 MA.guest, .slice a_r MA.root.length a_rc, .slice a_s MA.slots.length a_sc, .slice a_f MA.refs.length a_fc, .slice a_n MA.snaps.length a_nc] 26)).heap[w2.heap.size]? = some (.cells #[.int .i64 MA.guest, .slice a_r MA.root.length a_rc, .slice a_s MA.slots.length a_sc, .slice a_f MA.refs.length a_fc, .slice a_n MA.snaps.length a_nc] 26) := World.alloc_heap_new _ _
  clear mb_m
  clear I_m
  obtain ⟨p0, p1, p2, p3, p4⟩ := five mb_p
  have hh_mb_p := Hid_mkU mb_p
  have hh_mb_a := Hid_mkU mb_a
  have hh_I_p := Hid_mkU I_p
  have hh_I_a := Hid_mkU I_a
  have hh_hB := Hid_mkU hB
  clear mb_p mb_a I_p I_a hB
  go_wp2_with fail
  clear p0 p1 p2 p3 p4
  have mb_p := hh_mb_p.out
  have mb_a := hh_mb_a.out
  have I_p := hh_I_p.out
  have I_a := hh_I_a.out
  have hB := hh_hB.out
  clear hh_mb_p hh_mb_a hh_I_p hh_I_a hh_hB
  refine (write_to I_p n page HB.out.1 HB.out.2).mono ?_
  intro e w3 hA
  obtain ⟨val, b_r, b_rc, b_s, b_sc, b_f, b_fc, b_n, b_nc, rfl, hO, bb, hI⟩ := hA.open
  dsimp only
  have I_b := hO.img
  rw [hI] at I_b
  clear hA hO hI
  replace mb_p := cells_below mb_p bb (Array.getElem?_eq_some_iff.1 mb_p).1
  replace mb_a := cells_below mb_a bb (Array.getElem?_eq_some_iff.1 mb_a).1
  replace hB := Below.on hB bb
  replace I_p := I_p.below bb
  replace I_a := I_a.below bb
  clear bb
  replace mb_p := cells_alloc mb_p (.cells #[.int .i64 MB.guest, .slice b_r MB.root.length b_rc, .slice b_s MB.slots.length b_sc, .slice b_f MB.refs.length b_fc, .slice b_n MB.snaps.length b_nc] 26)
  replace mb_a := cells_alloc mb_a (.cells #[.int .i64 MB.guest, .slice b_r MB.root.length b_rc, .slice b_s MB.slots.length b_sc, .slice b_f MB.refs.length b_fc, .slice b_n MB.snaps.length b_nc] 26)
  have ba : Below w3.heap.size w3 (w3.alloc (.cells #[.int .i64 MB.guest, .slice b_r MB.root.length b_rc, .slice b_s MB.slots.length b_sc, .slice b_f MB.refs.length b_fc, .slice b_n MB.snaps.length b_nc] 26)) := (Below.refl _ _).alloc (Nat.le_refl _) _
  replace hB := Below.on hB ba
  replace I_p := I_p.below ba
  replace I_a := I_a.below ba
  replace I_b := I_b.below ba
  clear ba
  have mb_b : (w3.alloc (.cells #[.int .i64 MB.guest, .slice b_r MB.root.length b_rc, .slice b_s MB.slots.length b_sc, .slice b_f MB.refs.length b_fc, .slice b_n MB.snaps.length b_nc] 26)).heap[w3.heap.size]? = some (.cells #[.int .i64 MB.guest, .slice b_r MB.root.length b_rc, .slice b_s MB.slots.length b_sc, .slice b_f MB.refs.length b_fc, .slice b_n MB.snaps.length b_nc] 26) := World.alloc_heap_new _ _
  clear mb_p
  clear I_p
  clear mb_a
  clear I_a
  clear mb_b
  clear I_b
  have hh_hB := Hid_mkU hB
  clear hB
  go_wp2_with fail
  have hB := hh_hB.out
  clear hh_hB
  refine (moveBegun_any _).mono ?_
  rintro e w4 ⟨rfl, bb⟩
  replace hB := Below.on hB bb
  clear bb
  have hh_hB := Hid_mkU hB
  clear hB
  go_wp2_with fail
  go_ret
  have hB := hh_hB.out
  exact ⟨rfl, hB⟩

set_option maxHeartbeats 16000000 in
theorem mvr_no (ra : Option Addr) (rc : Nat) (sa : Option Addr) (sc : Nat) (fa : Option Addr) (fc : Nat) (na : Option Addr) (nc : Nat) (m : ImgD) (n : Int) (page : ByteArray) (w : World) (h : Img w (.agg #[.int .i64 m.guest, .slice ra m.root.length rc, .slice sa m.slots.length sc, .slice fa m.refs.length fc, .slice na m.snaps.length nc]) m) (EA : Int) (MP MA MB : ImgD) (HP : Hid (pkM m = MP ∧ checkE m = 0)) (HA : Hid (wrM m n page = MA ∧ wrE m n page = EA)) (HB : Hid (wrM MP n page = MB ∧ wrE MP n page = EA)) (eA : (EA != 0) = true) :
    Calls Try.prog 3 #[.agg #[.int .i64 m.guest, .slice ra m.root.length rc, .slice sa m.slots.length sc, .slice fa m.refs.length fc, .slice na m.snaps.length nc], .int .i64 n, .string page] w fun r w' => r = .returned (.bool true) ∧ Below w.heap.size w w' := by
  have hB : Below w.heap.size w (w.alloc (.cells #[.int .i64 m.guest, .slice ra m.root.length rc, .slice sa m.slots.length sc, .slice fa m.refs.length fc, .slice na m.snaps.length nc] 26)) := (Below.refl _ _).alloc (Nat.le_refl _) _
  have mb_m : (w.alloc (.cells #[.int .i64 m.guest, .slice ra m.root.length rc, .slice sa m.slots.length sc, .slice fa m.refs.length fc, .slice na m.snaps.length nc] 26)).heap[w.heap.size]? = some (.cells #[.int .i64 m.guest, .slice ra m.root.length rc, .slice sa m.slots.length sc, .slice fa m.refs.length fc, .slice na m.snaps.length nc] 26) := World.alloc_heap_new _ _
  have I_m := h.below hB
  clear h
  go_enter Try.func3, Try.ntmps3
  obtain ⟨m0, m1, m2, m3, m4⟩ := five mb_m
  have hh_mb_m := Hid_mkU mb_m
  have hh_I_m := Hid_mkU I_m
  have hh_hB := Hid_mkU hB
  clear mb_m I_m hB
  go_wp2_with fail
  clear m0 m1 m2 m3 m4
  have mb_m := hh_mb_m.out
  have I_m := hh_I_m.out
  have hB := hh_hB.out
  clear hh_mb_m hh_I_m hh_hB
  refine (pack_is I_m HP.out.1 HP.out.2).mono ?_
  intro e w1 hA
  obtain ⟨val, p_r, p_rc, p_s, p_sc, p_f, p_fc, p_n, p_nc, rfl, hO, bb, hI⟩ := hA.open
  dsimp only
  have I_p := hO.img
  rw [hI] at I_p
  clear hA hO hI
  replace mb_m := cells_below mb_m bb (Array.getElem?_eq_some_iff.1 mb_m).1
  replace hB := Below.on hB bb
  replace I_m := I_m.below bb
  clear bb
  replace mb_m := cells_alloc mb_m (.cells #[.int .i64 MP.guest, .slice p_r MP.root.length p_rc, .slice p_s MP.slots.length p_sc, .slice p_f MP.refs.length p_fc, .slice p_n MP.snaps.length p_nc] 26)
  have ba : Below w1.heap.size w1 (w1.alloc (.cells #[.int .i64 MP.guest, .slice p_r MP.root.length p_rc, .slice p_s MP.slots.length p_sc, .slice p_f MP.refs.length p_fc, .slice p_n MP.snaps.length p_nc] 26)) := (Below.refl _ _).alloc (Nat.le_refl _) _
  replace hB := Below.on hB ba
  replace I_m := I_m.below ba
  replace I_p := I_p.below ba
  clear ba
  have mb_p : (w1.alloc (.cells #[.int .i64 MP.guest, .slice p_r MP.root.length p_rc, .slice p_s MP.slots.length p_sc, .slice p_f MP.refs.length p_fc, .slice p_n MP.snaps.length p_nc] 26)).heap[w1.heap.size]? = some (.cells #[.int .i64 MP.guest, .slice p_r MP.root.length p_rc, .slice p_s MP.slots.length p_sc, .slice p_f MP.refs.length p_fc, .slice p_n MP.snaps.length p_nc] 26) := World.alloc_heap_new _ _
  obtain ⟨m0, m1, m2, m3, m4⟩ := five mb_m
  have hh_mb_m := Hid_mkU mb_m
  have hh_mb_p := Hid_mkU mb_p
  have hh_I_m := Hid_mkU I_m
  have hh_I_p := Hid_mkU I_p
  have hh_hB := Hid_mkU hB
  clear mb_m mb_p I_m I_p hB
  go_wp2_with fail
  clear m0 m1 m2 m3 m4
  have mb_m := hh_mb_m.out
  have mb_p := hh_mb_p.out
  have I_m := hh_I_m.out
  have I_p := hh_I_p.out
  have hB := hh_hB.out
  clear hh_mb_m hh_mb_p hh_I_m hh_I_p hh_hB
  refine (write_to I_m n page HA.out.1 HA.out.2).mono ?_
  intro e w2 hA
  obtain ⟨val, a_r, a_rc, a_s, a_sc, a_f, a_fc, a_n, a_nc, rfl, hO, bb, hI⟩ := hA.open
  dsimp only
  have I_a := hO.img
  rw [hI] at I_a
  clear hA hO hI
  replace mb_m := cells_below mb_m bb (Array.getElem?_eq_some_iff.1 mb_m).1
  replace mb_p := cells_below mb_p bb (Array.getElem?_eq_some_iff.1 mb_p).1
  replace hB := Below.on hB bb
  replace I_m := I_m.below bb
  replace I_p := I_p.below bb
  clear bb
  replace mb_m := cells_alloc mb_m (.cells #[.int .i64 MA.guest, .slice a_r MA.root.length a_rc, .slice a_s MA.slots.length a_sc, .slice a_f MA.refs.length a_fc, .slice a_n MA.snaps.length a_nc] 26)
  replace mb_p := cells_alloc mb_p (.cells #[.int .i64 MA.guest, .slice a_r MA.root.length a_rc, .slice a_s MA.slots.length a_sc, .slice a_f MA.refs.length a_fc, .slice a_n MA.snaps.length a_nc] 26)
  have ba : Below w2.heap.size w2 (w2.alloc (.cells #[.int .i64 MA.guest, .slice a_r MA.root.length a_rc, .slice a_s MA.slots.length a_sc, .slice a_f MA.refs.length a_fc, .slice a_n MA.snaps.length a_nc] 26)) := (Below.refl _ _).alloc (Nat.le_refl _) _
  replace hB := Below.on hB ba
  replace I_m := I_m.below ba
  replace I_p := I_p.below ba
  replace I_a := I_a.below ba
  clear ba
  have mb_a : (w2.alloc (.cells #[.int .i64 MA.guest, .slice a_r MA.root.length a_rc, .slice a_s MA.slots.length a_sc, .slice a_f MA.refs.length a_fc, .slice a_n MA.snaps.length a_nc] 26)).heap[w2.heap.size]? = some (.cells #[.int .i64 MA.guest, .slice a_r MA.root.length a_rc, .slice a_s MA.slots.length a_sc, .slice a_f MA.refs.length a_fc, .slice a_n MA.snaps.length a_nc] 26) := World.alloc_heap_new _ _
  clear mb_m
  clear I_m
  obtain ⟨p0, p1, p2, p3, p4⟩ := five mb_p
  have hh_mb_p := Hid_mkU mb_p
  have hh_mb_a := Hid_mkU mb_a
  have hh_I_p := Hid_mkU I_p
  have hh_I_a := Hid_mkU I_a
  have hh_hB := Hid_mkU hB
  clear mb_p mb_a I_p I_a hB
  go_wp2_with fail
  clear p0 p1 p2 p3 p4
  have mb_p := hh_mb_p.out
  have mb_a := hh_mb_a.out
  have I_p := hh_I_p.out
  have I_a := hh_I_a.out
  have hB := hh_hB.out
  clear hh_mb_p hh_mb_a hh_I_p hh_I_a hh_hB
  refine (write_to I_p n page HB.out.1 HB.out.2).mono ?_
  intro e w3 hA
  obtain ⟨val, b_r, b_rc, b_s, b_sc, b_f, b_fc, b_n, b_nc, rfl, hO, bb, hI⟩ := hA.open
  dsimp only
  have I_b := hO.img
  rw [hI] at I_b
  clear hA hO hI
  replace mb_p := cells_below mb_p bb (Array.getElem?_eq_some_iff.1 mb_p).1
  replace mb_a := cells_below mb_a bb (Array.getElem?_eq_some_iff.1 mb_a).1
  replace hB := Below.on hB bb
  replace I_p := I_p.below bb
  replace I_a := I_a.below bb
  clear bb
  replace mb_p := cells_alloc mb_p (.cells #[.int .i64 MB.guest, .slice b_r MB.root.length b_rc, .slice b_s MB.slots.length b_sc, .slice b_f MB.refs.length b_fc, .slice b_n MB.snaps.length b_nc] 26)
  replace mb_a := cells_alloc mb_a (.cells #[.int .i64 MB.guest, .slice b_r MB.root.length b_rc, .slice b_s MB.slots.length b_sc, .slice b_f MB.refs.length b_fc, .slice b_n MB.snaps.length b_nc] 26)
  have ba : Below w3.heap.size w3 (w3.alloc (.cells #[.int .i64 MB.guest, .slice b_r MB.root.length b_rc, .slice b_s MB.slots.length b_sc, .slice b_f MB.refs.length b_fc, .slice b_n MB.snaps.length b_nc] 26)) := (Below.refl _ _).alloc (Nat.le_refl _) _
  replace hB := Below.on hB ba
  replace I_p := I_p.below ba
  replace I_a := I_a.below ba
  replace I_b := I_b.below ba
  clear ba
  have mb_b : (w3.alloc (.cells #[.int .i64 MB.guest, .slice b_r MB.root.length b_rc, .slice b_s MB.slots.length b_sc, .slice b_f MB.refs.length b_fc, .slice b_n MB.snaps.length b_nc] 26)).heap[w3.heap.size]? = some (.cells #[.int .i64 MB.guest, .slice b_r MB.root.length b_rc, .slice b_s MB.slots.length b_sc, .slice b_f MB.refs.length b_fc, .slice b_n MB.snaps.length b_nc] 26) := World.alloc_heap_new _ _
  clear mb_p
  clear I_p
  clear mb_a
  clear I_a
  clear mb_b
  clear I_b
  have hh_hB := Hid_mkU hB
  clear hB
  go_wp2_with fail
  have hB := hh_hB.out
  clear hh_hB
  refine (moveBegun_any _).mono ?_
  rintro e w4 ⟨rfl, bb⟩
  replace hB := Below.on hB bb
  clear bb
  have hh_hB := Hid_mkU hB
  clear hB
  go_wp2_with fail
  go_ret
  have hB := hh_hB.out
  exact ⟨rfl, hB⟩

set_option maxHeartbeats 16000000 in
theorem mvr_ok (ra : Option Addr) (rc : Nat) (sa : Option Addr) (sc : Nat) (fa : Option Addr) (fc : Nat) (na : Option Addr) (nc : Nat) (m : ImgD) (n : Int) (page : ByteArray) (w : World) (h : Img w (.agg #[.int .i64 m.guest, .slice ra m.root.length rc, .slice sa m.slots.length sc, .slice fa m.refs.length fc, .slice na m.snaps.length nc]) m) (MP MA MB : ImgD) (HP : Hid (pkM m = MP ∧ checkE m = 0)) (HA : Hid (wrM m n page = MA ∧ wrE m n page = 0)) (HB : Hid (wrM MP n page = MB ∧ wrE MP n page = 0)) (L0 : List ByteArray) (HV : Hid (checkE MA = 0 ∧ allV MA = L0 ∧ checkE MB = 0 ∧ allV MB = L0)) :
    Calls Try.prog 3 #[.agg #[.int .i64 m.guest, .slice ra m.root.length rc, .slice sa m.slots.length sc, .slice fa m.refs.length fc, .slice na m.snaps.length nc], .int .i64 n, .string page] w fun r w' => r = .returned (.bool true) ∧ Below w.heap.size w w' := by
  have hB : Below w.heap.size w (w.alloc (.cells #[.int .i64 m.guest, .slice ra m.root.length rc, .slice sa m.slots.length sc, .slice fa m.refs.length fc, .slice na m.snaps.length nc] 26)) := (Below.refl _ _).alloc (Nat.le_refl _) _
  have mb_m : (w.alloc (.cells #[.int .i64 m.guest, .slice ra m.root.length rc, .slice sa m.slots.length sc, .slice fa m.refs.length fc, .slice na m.snaps.length nc] 26)).heap[w.heap.size]? = some (.cells #[.int .i64 m.guest, .slice ra m.root.length rc, .slice sa m.slots.length sc, .slice fa m.refs.length fc, .slice na m.snaps.length nc] 26) := World.alloc_heap_new _ _
  have I_m := h.below hB
  clear h
  go_enter Try.func3, Try.ntmps3
  obtain ⟨m0, m1, m2, m3, m4⟩ := five mb_m
  have hh_mb_m := Hid_mkU mb_m
  have hh_I_m := Hid_mkU I_m
  have hh_hB := Hid_mkU hB
  clear mb_m I_m hB
  go_wp2_with fail
  clear m0 m1 m2 m3 m4
  have mb_m := hh_mb_m.out
  have I_m := hh_I_m.out
  have hB := hh_hB.out
  clear hh_mb_m hh_I_m hh_hB
  refine (pack_is I_m HP.out.1 HP.out.2).mono ?_
  intro e w1 hA
  obtain ⟨val, p_r, p_rc, p_s, p_sc, p_f, p_fc, p_n, p_nc, rfl, hO, bb, hI⟩ := hA.open
  dsimp only
  have I_p := hO.img
  rw [hI] at I_p
  clear hA hO hI
  replace mb_m := cells_below mb_m bb (Array.getElem?_eq_some_iff.1 mb_m).1
  replace hB := Below.on hB bb
  replace I_m := I_m.below bb
  clear bb
  replace mb_m := cells_alloc mb_m (.cells #[.int .i64 MP.guest, .slice p_r MP.root.length p_rc, .slice p_s MP.slots.length p_sc, .slice p_f MP.refs.length p_fc, .slice p_n MP.snaps.length p_nc] 26)
  have ba : Below w1.heap.size w1 (w1.alloc (.cells #[.int .i64 MP.guest, .slice p_r MP.root.length p_rc, .slice p_s MP.slots.length p_sc, .slice p_f MP.refs.length p_fc, .slice p_n MP.snaps.length p_nc] 26)) := (Below.refl _ _).alloc (Nat.le_refl _) _
  replace hB := Below.on hB ba
  replace I_m := I_m.below ba
  replace I_p := I_p.below ba
  clear ba
  have mb_p : (w1.alloc (.cells #[.int .i64 MP.guest, .slice p_r MP.root.length p_rc, .slice p_s MP.slots.length p_sc, .slice p_f MP.refs.length p_fc, .slice p_n MP.snaps.length p_nc] 26)).heap[w1.heap.size]? = some (.cells #[.int .i64 MP.guest, .slice p_r MP.root.length p_rc, .slice p_s MP.slots.length p_sc, .slice p_f MP.refs.length p_fc, .slice p_n MP.snaps.length p_nc] 26) := World.alloc_heap_new _ _
  obtain ⟨m0, m1, m2, m3, m4⟩ := five mb_m
  have hh_mb_m := Hid_mkU mb_m
  have hh_mb_p := Hid_mkU mb_p
  have hh_I_m := Hid_mkU I_m
  have hh_I_p := Hid_mkU I_p
  have hh_hB := Hid_mkU hB
  clear mb_m mb_p I_m I_p hB
  go_wp2_with fail
  clear m0 m1 m2 m3 m4
  have mb_m := hh_mb_m.out
  have mb_p := hh_mb_p.out
  have I_m := hh_I_m.out
  have I_p := hh_I_p.out
  have hB := hh_hB.out
  clear hh_mb_m hh_mb_p hh_I_m hh_I_p hh_hB
  refine (write_to I_m n page HA.out.1 HA.out.2).mono ?_
  intro e w2 hA
  obtain ⟨val, a_r, a_rc, a_s, a_sc, a_f, a_fc, a_n, a_nc, rfl, hO, bb, hI⟩ := hA.open
  dsimp only
  have I_a := hO.img
  rw [hI] at I_a
  clear hA hO hI
  replace mb_m := cells_below mb_m bb (Array.getElem?_eq_some_iff.1 mb_m).1
  replace mb_p := cells_below mb_p bb (Array.getElem?_eq_some_iff.1 mb_p).1
  replace hB := Below.on hB bb
  replace I_m := I_m.below bb
  replace I_p := I_p.below bb
  clear bb
  replace mb_m := cells_alloc mb_m (.cells #[.int .i64 MA.guest, .slice a_r MA.root.length a_rc, .slice a_s MA.slots.length a_sc, .slice a_f MA.refs.length a_fc, .slice a_n MA.snaps.length a_nc] 26)
  replace mb_p := cells_alloc mb_p (.cells #[.int .i64 MA.guest, .slice a_r MA.root.length a_rc, .slice a_s MA.slots.length a_sc, .slice a_f MA.refs.length a_fc, .slice a_n MA.snaps.length a_nc] 26)
  have ba : Below w2.heap.size w2 (w2.alloc (.cells #[.int .i64 MA.guest, .slice a_r MA.root.length a_rc, .slice a_s MA.slots.length a_sc, .slice a_f MA.refs.length a_fc, .slice a_n MA.snaps.length a_nc] 26)) := (Below.refl _ _).alloc (Nat.le_refl _) _
  replace hB := Below.on hB ba
  replace I_m := I_m.below ba
  replace I_p := I_p.below ba
  replace I_a := I_a.below ba
  clear ba
  have mb_a : (w2.alloc (.cells #[.int .i64 MA.guest, .slice a_r MA.root.length a_rc, .slice a_s MA.slots.length a_sc, .slice a_f MA.refs.length a_fc, .slice a_n MA.snaps.length a_nc] 26)).heap[w2.heap.size]? = some (.cells #[.int .i64 MA.guest, .slice a_r MA.root.length a_rc, .slice a_s MA.slots.length a_sc, .slice a_f MA.refs.length a_fc, .slice a_n MA.snaps.length a_nc] 26) := World.alloc_heap_new _ _
  clear mb_m
  clear I_m
  obtain ⟨p0, p1, p2, p3, p4⟩ := five mb_p
  have hh_mb_p := Hid_mkU mb_p
  have hh_mb_a := Hid_mkU mb_a
  have hh_I_p := Hid_mkU I_p
  have hh_I_a := Hid_mkU I_a
  have hh_hB := Hid_mkU hB
  clear mb_p mb_a I_p I_a hB
  go_wp2_with fail
  clear p0 p1 p2 p3 p4
  have mb_p := hh_mb_p.out
  have mb_a := hh_mb_a.out
  have I_p := hh_I_p.out
  have I_a := hh_I_a.out
  have hB := hh_hB.out
  clear hh_mb_p hh_mb_a hh_I_p hh_I_a hh_hB
  refine (write_to I_p n page HB.out.1 HB.out.2).mono ?_
  intro e w3 hA
  obtain ⟨val, b_r, b_rc, b_s, b_sc, b_f, b_fc, b_n, b_nc, rfl, hO, bb, hI⟩ := hA.open
  dsimp only
  have I_b := hO.img
  rw [hI] at I_b
  clear hA hO hI
  replace mb_p := cells_below mb_p bb (Array.getElem?_eq_some_iff.1 mb_p).1
  replace mb_a := cells_below mb_a bb (Array.getElem?_eq_some_iff.1 mb_a).1
  replace hB := Below.on hB bb
  replace I_p := I_p.below bb
  replace I_a := I_a.below bb
  clear bb
  replace mb_p := cells_alloc mb_p (.cells #[.int .i64 MB.guest, .slice b_r MB.root.length b_rc, .slice b_s MB.slots.length b_sc, .slice b_f MB.refs.length b_fc, .slice b_n MB.snaps.length b_nc] 26)
  replace mb_a := cells_alloc mb_a (.cells #[.int .i64 MB.guest, .slice b_r MB.root.length b_rc, .slice b_s MB.slots.length b_sc, .slice b_f MB.refs.length b_fc, .slice b_n MB.snaps.length b_nc] 26)
  have ba : Below w3.heap.size w3 (w3.alloc (.cells #[.int .i64 MB.guest, .slice b_r MB.root.length b_rc, .slice b_s MB.slots.length b_sc, .slice b_f MB.refs.length b_fc, .slice b_n MB.snaps.length b_nc] 26)) := (Below.refl _ _).alloc (Nat.le_refl _) _
  replace hB := Below.on hB ba
  replace I_p := I_p.below ba
  replace I_a := I_a.below ba
  replace I_b := I_b.below ba
  clear ba
  have mb_b : (w3.alloc (.cells #[.int .i64 MB.guest, .slice b_r MB.root.length b_rc, .slice b_s MB.slots.length b_sc, .slice b_f MB.refs.length b_fc, .slice b_n MB.snaps.length b_nc] 26)).heap[w3.heap.size]? = some (.cells #[.int .i64 MB.guest, .slice b_r MB.root.length b_rc, .slice b_s MB.slots.length b_sc, .slice b_f MB.refs.length b_fc, .slice b_n MB.snaps.length b_nc] 26) := World.alloc_heap_new _ _
  clear mb_p
  clear I_p
  obtain ⟨a0, a1, a2, a3, a4⟩ := five mb_a
  have hh_mb_a := Hid_mkU mb_a
  have hh_mb_b := Hid_mkU mb_b
  have hh_I_a := Hid_mkU I_a
  have hh_I_b := Hid_mkU I_b
  have hh_hB := Hid_mkU hB
  clear mb_a mb_b I_a I_b hB
  go_wp2_with fail
  clear a0 a1 a2 a3 a4
  have mb_a := hh_mb_a.out
  have mb_b := hh_mb_b.out
  have I_a := hh_I_a.out
  have I_b := hh_I_b.out
  have hB := hh_hB.out
  clear hh_mb_a hh_mb_b hh_I_a hh_I_b hh_hB
  refine (all_is I_a HV.out.1 HV.out.2.1).mono ?_
  rintro e w4 ⟨⟨l0, rfl, S0⟩, bb⟩
  replace mb_a := cells_below mb_a bb (Array.getElem?_eq_some_iff.1 mb_a).1
  replace mb_b := cells_below mb_b bb (Array.getElem?_eq_some_iff.1 mb_b).1
  replace hB := Below.on hB bb
  replace I_a := I_a.below bb
  replace I_b := I_b.below bb
  clear bb
  obtain ⟨b0, b1, b2, b3, b4⟩ := five mb_b
  have hh_mb_a := Hid_mkU mb_a
  have hh_mb_b := Hid_mkU mb_b
  have hh_I_a := Hid_mkU I_a
  have hh_I_b := Hid_mkU I_b
  have hh_S0 := Hid_mkU S0
  have hh_hB := Hid_mkU hB
  clear mb_a mb_b I_a I_b S0 hB
  go_wp2_with fail
  clear b0 b1 b2 b3 b4
  have mb_a := hh_mb_a.out
  have mb_b := hh_mb_b.out
  have I_a := hh_I_a.out
  have I_b := hh_I_b.out
  have S0 := hh_S0.out
  have hB := hh_hB.out
  clear hh_mb_a hh_mb_b hh_I_a hh_I_b hh_S0 hh_hB
  refine (all_is I_b HV.out.2.2.1 HV.out.2.2.2).mono ?_
  rintro e w5 ⟨⟨l1, rfl, S1⟩, bb⟩
  replace mb_a := cells_below mb_a bb (Array.getElem?_eq_some_iff.1 mb_a).1
  replace mb_b := cells_below mb_b bb (Array.getElem?_eq_some_iff.1 mb_b).1
  replace hB := Below.on hB bb
  replace I_a := I_a.below bb
  replace I_b := I_b.below bb
  replace S0 := S0.below bb
  clear bb
  clear mb_a
  clear I_a
  clear mb_b
  clear I_b
  have hh_S0 := Hid_mkU S0
  have hh_S1 := Hid_mkU S1
  have hh_hB := Hid_mkU hB
  clear S0 S1 hB
  go_wp2_with fail
  have S0 := hh_S0.out
  have S1 := hh_S1.out
  have hB := hh_hB.out
  clear hh_S0 hh_S1 hh_hB
  refine (moveBegun_any _).mono ?_
  rintro e w6 ⟨rfl, bb⟩
  replace hB := Below.on hB bb
  replace S0 := S0.below bb
  replace S1 := S1.below bb
  clear bb
  have hh_S0 := Hid_mkU S0
  have hh_S1 := Hid_mkU S1
  have hh_hB := Hid_mkU hB
  clear S0 S1 hB
  go_wp2_with fail
  have S0 := hh_S0.out
  have S1 := hh_S1.out
  have hB := hh_hB.out
  clear hh_S0 hh_S1 hh_hB
  refine (samePages_any S0 S1).mono ?_
  rintro e w7 ⟨rfl, bb⟩
  replace hB := Below.on hB bb
  replace S0 := S0.below bb
  replace S1 := S1.below bb
  clear bb
  clear S0
  clear S1
  have hh_hB := Hid_mkU hB
  clear hB
  go_wp2_with fail
  go_ret
  have hB := hh_hB.out
  exact ⟨rfl, hB⟩

theorem mvr_is {w : World} {v : Value} {m : ImgD} (h : Img w v m) (n : Int) (page : ByteArray) :
    Calls Try.prog 3 #[v, .int .i64 n, .string page] w fun r w' => r = .returned (.bool true) ∧ Below w.heap.size w w' := by
  have h' := h
  obtain ⟨ra, rc, sa, sc, fa, fc, na, nc, rfl, _⟩ := h.parts
  by_cases hC : checkE m = 0
  · have e : pkM m = packD m := by unfold pkM; rw [if_pos hC]
    by_cases he : wrE m n page = 0
    · obtain ⟨h1, h2, h3, h4⟩ := pack_write hC he
      exact mvr_ok ra rc sa sc fa fc na nc m n page w h' _ _ _ ⟨e, hC⟩ ⟨rfl, he⟩ ⟨rfl, h1⟩ _ ⟨h2, rfl, h3, h4⟩
    · exact mvr_no ra rc sa sc fa fc na nc m n page w h' _ _ _ _ ⟨e, hC⟩ ⟨rfl, rfl⟩ ⟨rfl, pack_wrE hC n page⟩ (by simpa using he)
  · exact mvr_bad ra rc sa sc fa fc na nc m n page w h' _ _ _ _ _ _ ⟨rfl, rfl⟩ ⟨rfl, rfl⟩ ⟨rfl, rfl⟩ (by simpa using hC)
end Go.Proofs.Ytehleeibgkpjmag
/- From the reading of an argument to what it holds: slices of integers, slots, slices of slots. -/
namespace Go.Proofs.Ytehleeibgkpjmag
open Go.RowKit Go.Deep Go.ChangeShapes Go.WideShapes Go.ChangeAt
set_option maxRecDepth 20000

theorem cells27 : Try.prog.cellsOf 22 = 1 := by kernel_rfl
theorem cells3 : Try.prog.cellsOf 3 = 1 := by kernel_rfl
theorem cells9 : Try.prog.cellsOf 9 = 1 := by kernel_rfl
theorem cells29 : Try.prog.cellsOf 60 = 3 := by kernel_rfl

variable {H : Type} {enc : TypeId × Value → H} {w : World} {base : Nat} {spare : Nat → Bool} {held : Bool}

theorem row_at {w : World} {a : Addr} {n : Nat} {f : Nat → Value} (hn : 0 < n) (h : ∀ i, i < n → w.cell? (a.add i) = some (f i)) :
    ∃ b off, a = ⟨b, off, none⟩ ∧ b < w.heap.size ∧ ∀ i, i < n → w.cell? ⟨b, off + i, none⟩ = some (f i) := by
  have h0 := h 0 hn
  obtain ⟨b, off, spot⟩ := a
  have hspot : spot = none := by simpa [Addr.add] using World.cell?_spot h0
  subst hspot
  refine ⟨b, off, rfl, World.block_lt_of_cell? w _ (by rw [addr_add] at h0; exact h0), fun i hi => ?_⟩
  have := h i hi
  rw [addr_add] at this
  exact this

theorem sl_of_trod {n : Nat} {cs : List Value} {x : DataW H × List MemPlace} (h : DataW.trod enc Try.prog w base spare held n 22 cs = some x) : ∃ v xs, cs = [v] ∧ Sl w v xs := by
  rcases open_ints Try.underlying22 Try.underlying3 cells3 h with ⟨rfl, _⟩ | ⟨a, l, c, zs, rfl, _, hl, hm, hz, _, hcell, _⟩
  · exact ⟨_, [], rfl, Sl.nil w⟩
  · have hlz : l ≤ zs.length := by rw [hz]; split <;> omega
    have hlen : (zs.take l).length = l := by simp; omega
    refine ⟨_, zs.take l, rfl, some a, c, by rw [hlen], by rw [hlen]; omega, by rw [hlen]; exact hl, fun hne => ?_⟩
    have hpos : 0 < l := by
      rcases Nat.eq_zero_or_pos l with e | e
      · subst e; simp at hne
      · exact e
    obtain ⟨b, off, rfl, hb, hc⟩ := row_at (w := w) (a := a) (n := l) (f := fun i => .int .i64 (zs.getD i 0)) hpos (fun i hi => hcell i (by omega))
    refine ⟨b, off, rfl, hb, fun j hj => ?_⟩
    rw [hlen] at hj
    rw [hc j hj]
    simp [List.getD, hj]

set_option maxRecDepth 20000 in
theorem slot_of_trod {n : Nat} {cs : List Value} {x : DataW H × List MemPlace} (h : DataW.trod enc Try.prog w base spare held n 60 cs = some x) :
    ∃ k d tv xs, cs = [.int .i64 k, .string d, tv] ∧ Sl w tv xs := by
  obtain ⟨y0, y1, y2, m, _, hl, h0, h1, h2⟩ := trod_struct3 Try.underlying60 h
  rw [cells29] at hl
  match cs, hl with
  | [c0, c1, c2], _ =>
    simp only [cells3, cells9, cells27] at h0 h1 h2
    obtain ⟨k, e0, _, _⟩ := DataW.trod_int Try.underlying3 h0
    obtain ⟨d, e1, _, _⟩ := DataW.trod_string Try.underlying9 h1
    obtain ⟨tv, xs, e2, hs⟩ := sl_of_trod h2
    simp at e0 e1 e2
    subst e0 e1 e2
    exact ⟨k, d, _, xs, rfl, hs⟩

theorem slots_of_trod {n : Nat} {v : Value} {x : DataW H × List MemPlace} (h : DataW.trod enc Try.prog w base spare held n 23 [v] = some x) : ∃ L, Slots w v L := by
  rcases open_slice Try.underlying23 h with ⟨hv, _⟩ | ⟨a, len, cap, m, fuel, D, Pl, hv, _, hl, hm, hmm, _, hx⟩
  · simp at hv
    subst hv
    exact ⟨[], none, 0, rfl, Nat.zero_le _, Nat.zero_le _, fun h => absurd rfl h⟩
  · simp at hv
    subst hv
    rw [cells29] at hx
    have hx' : ∀ i, i < len → ∃ s : SlotD, ∃ tv, w.cell? (a.add (i * 3)) = some (.int .i64 s.1) ∧ w.cell? ((a.add (i * 3)).add 1) = some (.string s.2.1) ∧ w.cell? ((a.add (i * 3)).add 2) = some tv ∧ Sl w tv s.2.2 := by
      intro i hi
      obtain ⟨cs', h1, h2⟩ := hx i (by rw [hmm]; split <;> omega)
      obtain ⟨k, d, tv, xs, rfl, hs⟩ := slot_of_trod h2
      obtain ⟨_, _, hc⟩ := World.cells?_some h1
      have c0 := hc 0 (by omega)
      have c1 := hc 1 (by omega)
      have c2 := hc 2 (by omega)
      exact ⟨(k, d, xs), tv, by simpa [Addr.add] using c0, c1, c2, hs⟩
    obtain ⟨f, hf⟩ := choose_lt hx'
    have hlen : ((List.range len).map f).length = len := by simp
    refine ⟨(List.range len).map f, some a, cap, by rw [hlen], by rw [hlen]; omega, by rw [hlen]; exact hl, fun hne => ?_⟩
    have hpos : 0 < len := by
      rcases Nat.eq_zero_or_pos len with e | e
      · subst e; simp at hne
      · exact e
    obtain ⟨tv0, c0, _⟩ := hf 0 hpos
    obtain ⟨b, off, spot⟩ := a
    have hspot : spot = none := by simpa [Addr.add] using World.cell?_spot c0
    subst hspot
    refine ⟨b, off, rfl, World.block_lt_of_cell? w _ (by rw [addr_add] at c0; exact c0), fun j hj => ?_⟩
    rw [hlen] at hj
    obtain ⟨tv, c0, c1, c2, hs⟩ := hf j hj
    rw [addr_add] at c0 c1 c2
    rw [addr_add] at c1 c2
    have e : ((List.range len).map f)[j]'(by rw [hlen]; exact hj) = f j := by simp
    rw [e]
    exact ⟨tv, c0, c1, c2, hs⟩
end Go.Proofs.Ytehleeibgkpjmag
/- From the reading of an argument to what it holds: snapshots, slices of them, images. -/
namespace Go.Proofs.Ytehleeibgkpjmag
open Go.RowKit Go.Deep Go.ChangeShapes Go.WideShapes Go.ChangeAt
set_option maxRecDepth 20000

theorem cellsSnap : Try.prog.cellsOf 74 = 3 := by kernel_rfl
theorem cellsSnaps : Try.prog.cellsOf 24 = 1 := by kernel_rfl
theorem cellsSlots : Try.prog.cellsOf 23 = 1 := by kernel_rfl
theorem cellsImage : Try.prog.cellsOf 26 = 5 := by kernel_rfl

variable {H : Type} {enc : TypeId × Value → H} {w : World} {base : Nat} {spare : Nat → Bool} {held : Bool}

set_option maxRecDepth 20000 in
theorem snap_of_trod {n : Nat} {cs : List Value} {x : DataW H × List MemPlace} (h : DataW.trod enc Try.prog w base spare held n 74 cs = some x) :
    ∃ d k tv xs, cs = [.string d, .int .i64 k, tv] ∧ Sl w tv xs := by
  obtain ⟨y0, y1, y2, m, _, hl, h0, h1, h2⟩ := trod_struct3 Try.underlying74 h
  rw [cellsSnap] at hl
  match cs, hl with
  | [c0, c1, c2], _ =>
    simp only [cells3, cells9, cells27] at h0 h1 h2
    obtain ⟨d, e0, _, _⟩ := DataW.trod_string Try.underlying9 h0
    obtain ⟨k, e1, _, _⟩ := DataW.trod_int Try.underlying3 h1
    obtain ⟨tv, xs, e2, hs⟩ := sl_of_trod h2
    simp at e0 e1 e2
    subst e0 e1 e2
    exact ⟨d, k, _, xs, rfl, hs⟩

theorem snaps_of_trod {n : Nat} {v : Value} {x : DataW H × List MemPlace} (h : DataW.trod enc Try.prog w base spare held n 24 [v] = some x) : ∃ L, Snaps w v L := by
  rcases open_slice Try.underlying24 h with ⟨hv, _⟩ | ⟨a, len, cap, m, fuel, D, Pl, hv, _, hl, hm, hmm, _, hx⟩
  · simp at hv
    subst hv
    exact ⟨[], none, 0, rfl, Nat.zero_le _, Nat.zero_le _, fun h => absurd rfl h⟩
  · simp at hv
    subst hv
    rw [cellsSnap] at hx
    have hx' : ∀ i, i < len → ∃ s : SnapD, ∃ tv, w.cell? (a.add (i * 3)) = some (.string s.1) ∧ w.cell? ((a.add (i * 3)).add 1) = some (.int .i64 s.2.1) ∧ w.cell? ((a.add (i * 3)).add 2) = some tv ∧ Sl w tv s.2.2 := by
      intro i hi
      obtain ⟨cs', h1, h2⟩ := hx i (by rw [hmm]; split <;> omega)
      obtain ⟨k, d, tv, xs, rfl, hs⟩ := snap_of_trod h2
      obtain ⟨_, _, hc⟩ := World.cells?_some h1
      have c0 := hc 0 (by omega)
      have c1 := hc 1 (by omega)
      have c2 := hc 2 (by omega)
      exact ⟨(k, d, xs), tv, by simpa [Addr.add] using c0, c1, c2, hs⟩
    obtain ⟨f, hf⟩ := choose_lt hx'
    have hlen : ((List.range len).map f).length = len := by simp
    refine ⟨(List.range len).map f, some a, cap, by rw [hlen], by rw [hlen]; omega, by rw [hlen]; exact hl, fun hne => ?_⟩
    have hpos : 0 < len := by
      rcases Nat.eq_zero_or_pos len with e | e
      · subst e; simp at hne
      · exact e
    obtain ⟨tv0, c0, _⟩ := hf 0 hpos
    obtain ⟨b, off, spot⟩ := a
    have hspot : spot = none := by simpa [Addr.add] using World.cell?_spot c0
    subst hspot
    refine ⟨b, off, rfl, World.block_lt_of_cell? w _ (by rw [addr_add] at c0; exact c0), fun j hj => ?_⟩
    rw [hlen] at hj
    obtain ⟨tv, c0, c1, c2, hs⟩ := hf j hj
    rw [addr_add] at c0 c1 c2
    rw [addr_add] at c1 c2
    have e : ((List.range len).map f)[j]'(by rw [hlen]; exact hj) = f j := by simp
    rw [e]
    exact ⟨tv, c0, c1, c2, hs⟩

theorem trod_struct5 {P : Program} {t : TypeId} {f0 f1 f2 f3 f4 : Field} {fuel : Nat} {cs : List Value} {x : DataW H × List MemPlace} (ht : P.underlying t = some (.struct #[f0, f1, f2, f3, f4])) (h : DataW.trod enc P w base spare held fuel t cs = some x) :
    ∃ y0 y1 y2 y3 y4 n, cs.length = P.cellsOf t ∧ DataW.trod enc P w base spare held n f0.type ((cs.drop f0.offset).take (P.cellsOf f0.type)) = some y0 ∧
      DataW.trod enc P w base spare held n f1.type ((cs.drop f1.offset).take (P.cellsOf f1.type)) = some y1 ∧ DataW.trod enc P w base spare held n f2.type ((cs.drop f2.offset).take (P.cellsOf f2.type)) = some y2 ∧
      DataW.trod enc P w base spare held n f3.type ((cs.drop f3.offset).take (P.cellsOf f3.type)) = some y3 ∧ DataW.trod enc P w base spare held n f4.type ((cs.drop f4.offset).take (P.cellsOf f4.type)) = some y4 := by
  obtain ⟨xs, n, _, rfl, hl, hlen, hf⟩ := DataW.trod_struct ht h
  match xs, hlen with
  | [y0, y1, y2, y3, y4], _ => exact ⟨y0, y1, y2, y3, y4, n, hl, by simpa using hf 0 f0 rfl, by simpa using hf 1 f1 rfl, by simpa using hf 2 f2 rfl, by simpa using hf 3 f3 rfl, by simpa using hf 4 f4 rfl⟩
set_option maxRecDepth 20000 in
theorem img_of_trod {n : Nat} {cs : List Value} {x : DataW H × List MemPlace} (h : DataW.trod enc Try.prog w base spare held n 26 cs = some x) : ∃ g rv sv fv nv, cs = [.int .i64 g, rv, sv, fv, nv] ∧ ∃ r L F S, Sl w rv r ∧ Slots w sv L ∧ Sl w fv F ∧ Snaps w nv S := by
  obtain ⟨y0, y1, y2, y3, y4, m, hl, h0, h1, h2, h3, h4⟩ := trod_struct5 Try.underlying26 h
  rw [cellsImage] at hl
  match cs, hl with
  | [c0, c1, c2, c3, c4], _ =>
    simp only [cells3] at h0
    simp only [cells27] at h1 h3
    simp only [cellsSlots] at h2
    simp only [cellsSnaps] at h4
    obtain ⟨g, e0, _, _⟩ := DataW.trod_int Try.underlying3 h0
    obtain ⟨rv, r, e1, hr⟩ := sl_of_trod h1
    obtain ⟨L, hL⟩ := slots_of_trod (v := c2) h2
    obtain ⟨fv, F, e3, hF⟩ := sl_of_trod h3
    obtain ⟨S, hS⟩ := snaps_of_trod (v := c4) h4
    simp at e0 e1 e3
    subst e0 e1 e3
    exact ⟨g, _, _, _, _, rfl, r, L, F, S, hr, hL, hF, hS⟩
set_option maxRecDepth 20000 in
theorem img_of_arg {r : Reach} {b0 : Nat} {v : Value} {d : DataW H} {p : List MemPlace} (hv : Value.okWide Try.prog w r b0 26 v) (h : DataW.Trod enc Try.prog w base spare held 26 v d p) : ∃ m, Img w v m := by
  obtain ⟨cs, rfl, hsz⟩ := okWide_struct Try.underlying26 hv
  obtain ⟨fuel, hf⟩ := h
  obtain ⟨g, rv, sv, fv, nv, e, r, L, F, S, h1, h2, h3, h4⟩ := img_of_trod hf
  have e' : cs.toList = [.int .i64 g, rv, sv, fv, nv] := by simpa [Value.cells] using e
  cases cs
  simp at e'
  exact ⟨⟨g, r, L, F, S⟩, rv, sv, fv, nv, by rw [e'], h1, h2, h3, h4⟩
end Go.Proofs.Ytehleeibgkpjmag
