/- Texts joined: NTrue. -/
import Derived.Test.YtehleeibgkpjmaeSnapsTrueJ8
/- The walk of SnapsTrue. -/
namespace Go.Proofs.Ytehleeibgkpjmae
open Go.RowKit Go.Shelf
set_option maxRecDepth 20000
set_option linter.unusedVariables false
set_option linter.unusedSimpArgs false

set_option maxHeartbeats 16000000 in
theorem ntrue_no (ra : Option Addr) (rc : Nat) (sa : Option Addr) (sc : Nat) (fa : Option Addr) (fc : Nat) (na : Option Addr) (nc : Nat) (m : ImgD) (nm o : ByteArray) (w : World) (h : Img w (.agg #[.int .i64 m.guest, .slice ra m.root.length rc, .slice sa m.slots.length sc, .slice fa m.refs.length fc, .slice na m.snaps.length nc]) m) (E : Int) (e0 : (E != 0) = true) (HM : Hid (checkE m = E)) :
    Calls Try.prog 4 #[.agg #[.int .i64 m.guest, .slice ra m.root.length rc, .slice sa m.slots.length sc, .slice fa m.refs.length fc, .slice na m.snaps.length nc], .string nm, .string o] w fun r w' => r = .returned (.bool true) ∧ Below w.heap.size w w' := by
  have hB : Below w.heap.size w (w.alloc (.cells #[.int .i64 m.guest, .slice ra m.root.length rc, .slice sa m.slots.length sc, .slice fa m.refs.length fc, .slice na m.snaps.length nc] 26)) := (Below.refl _ _).alloc (Nat.le_refl _) _
  have mb_m : (w.alloc (.cells #[.int .i64 m.guest, .slice ra m.root.length rc, .slice sa m.slots.length sc, .slice fa m.refs.length fc, .slice na m.snaps.length nc] 26)).heap[w.heap.size]? = some (.cells #[.int .i64 m.guest, .slice ra m.root.length rc, .slice sa m.slots.length sc, .slice fa m.refs.length fc, .slice na m.snaps.length nc] 26) := World.alloc_heap_new _ _
  have I_m := h.below hB
  clear h
  go_enter Try.func4, Try.ntmps4
  obtain ⟨m0, m1, m2, m3, m4⟩ := five mb_m
  have hh_mb_m := Hid_mkN mb_m
  have hh_I_m := Hid_mkN I_m
  have hh_hB := Hid_mkN hB
  clear mb_m I_m hB
  go_wp2_with fail
  clear m0 m1 m2 m3 m4
  have mb_m := hh_mb_m.out
  have I_m := hh_I_m.out
  have hB := hh_hB.out
  clear hh_mb_m hh_I_m hh_hB
  refine (all_is I_m HM.out rfl).mono ?_
  rintro e w1 ⟨⟨l0, rfl, S0⟩, bb⟩
  replace mb_m := cells_below mb_m bb (Array.getElem?_eq_some_iff.1 mb_m).1
  replace hB := Below.on hB bb
  replace I_m := I_m.below bb
  clear bb
  clear mb_m
  clear I_m
  have hh_hB := Hid_mkN hB
  clear hB
  go_wp2_with fail
  have hB := hh_hB.out
  clear hh_hB
  refine (snapsBegun_any _).mono ?_
  rintro e w2 ⟨rfl, bb⟩
  replace hB := Below.on hB bb
  clear bb
  have hh_hB := Hid_mkN hB
  clear hB
  go_wp2_with fail
  go_ret
  have hB := hh_hB.out
  exact ⟨rfl, hB⟩

set_option maxHeartbeats 16000000 in
theorem ntrue_100e (ra : Option Addr) (rc : Nat) (sa : Option Addr) (sc : Nat) (fa : Option Addr) (fc : Nat) (na : Option Addr) (nc : Nat) (m : ImgD) (nm o : ByteArray) (w : World) (h : Img w (.agg #[.int .i64 m.guest, .slice ra m.root.length rc, .slice sa m.slots.length sc, .slice fa m.refs.length fc, .slice na m.snaps.length nc]) m) (MA MB MC : ImgD) (EF EL : Int) (L0 L1 : List ByteArray) (HM : Hid (checkE m = 0 ∧ allV m = L0 ∧ pastE m o = EF ∧ pastV m o = L1)) (HA : Hid (crM m nm = MA ∧ crE m nm = 0)) (HB : Hid (rvM m o = MB ∧ pastE m o = EF)) (HC : Hid (dlM m nm = MC ∧ pastE m nm = EL)) (nEF : (EF != 0) = true) (qEF : (EF == 0) = false) (nEL : (EL != 0) = true) (qEL : (EL == 0) = false) (heq : (nm.toList == o.toList) = true) (heqn : (nm.toList != o.toList) = false) (EJ : Int) (LJ : List ByteArray) (HG : Hid (pastE MA nm = 0 ∧ pastV MA nm = L0 ∧ checkE MA = 0 ∧ allV MA = L0 ∧ pastE MA o = EJ ∧ pastV MA o = LJ)) :
    Calls Try.prog 4 #[.agg #[.int .i64 m.guest, .slice ra m.root.length rc, .slice sa m.slots.length sc, .slice fa m.refs.length fc, .slice na m.snaps.length nc], .string nm, .string o] w fun r w' => r = .returned (.bool true) ∧ Below w.heap.size w w' := by
  have hB : Below w.heap.size w (w.alloc (.cells #[.int .i64 m.guest, .slice ra m.root.length rc, .slice sa m.slots.length sc, .slice fa m.refs.length fc, .slice na m.snaps.length nc] 26)) := (Below.refl _ _).alloc (Nat.le_refl _) _
  have mb_m : (w.alloc (.cells #[.int .i64 m.guest, .slice ra m.root.length rc, .slice sa m.slots.length sc, .slice fa m.refs.length fc, .slice na m.snaps.length nc] 26)).heap[w.heap.size]? = some (.cells #[.int .i64 m.guest, .slice ra m.root.length rc, .slice sa m.slots.length sc, .slice fa m.refs.length fc, .slice na m.snaps.length nc] 26) := World.alloc_heap_new _ _
  have I_m := h.below hB
  clear h
  go_enter Try.func4, Try.ntmps4
  obtain ⟨m0, m1, m2, m3, m4⟩ := five mb_m
  have hh_mb_m := Hid_mkN mb_m
  have hh_I_m := Hid_mkN I_m
  have hh_hB := Hid_mkN hB
  clear mb_m I_m hB
  go_wp2_with fail
  clear m0 m1 m2 m3 m4
  have mb_m := hh_mb_m.out
  have I_m := hh_I_m.out
  have hB := hh_hB.out
  clear hh_mb_m hh_I_m hh_hB
  refine (all_is I_m HM.out.1 HM.out.2.1).mono ?_
  rintro e w1 ⟨⟨l0, rfl, S0⟩, bb⟩
  replace mb_m := cells_below mb_m bb (Array.getElem?_eq_some_iff.1 mb_m).1
  replace hB := Below.on hB bb
  replace I_m := I_m.below bb
  clear bb
  obtain ⟨m0, m1, m2, m3, m4⟩ := five mb_m
  have hh_mb_m := Hid_mkN mb_m
  have hh_I_m := Hid_mkN I_m
  have hh_S0 := Hid_mkN S0
  have hh_hB := Hid_mkN hB
  clear mb_m I_m S0 hB
  go_wp2_with fail
  clear m0 m1 m2 m3 m4
  have mb_m := hh_mb_m.out
  have I_m := hh_I_m.out
  have S0 := hh_S0.out
  have hB := hh_hB.out
  clear hh_mb_m hh_I_m hh_S0 hh_hB
  refine (past_is I_m o HM.out.2.2.1 HM.out.2.2.2).mono ?_
  rintro e w2 ⟨⟨l1, rfl, S1⟩, bb⟩
  replace mb_m := cells_below mb_m bb (Array.getElem?_eq_some_iff.1 mb_m).1
  replace hB := Below.on hB bb
  replace I_m := I_m.below bb
  replace S0 := S0.below bb
  clear bb
  obtain ⟨m0, m1, m2, m3, m4⟩ := five mb_m
  have hh_mb_m := Hid_mkN mb_m
  have hh_I_m := Hid_mkN I_m
  have hh_S0 := Hid_mkN S0
  have hh_S1 := Hid_mkN S1
  have hh_hB := Hid_mkN hB
  clear mb_m I_m S0 S1 hB
  go_wp2_with fail
  clear m0 m1 m2 m3 m4
  have mb_m := hh_mb_m.out
  have I_m := hh_I_m.out
  have S0 := hh_S0.out
  have S1 := hh_S1.out
  have hB := hh_hB.out
  clear hh_mb_m hh_I_m hh_S0 hh_S1 hh_hB
  refine (create_is I_m nm HA.out.1 HA.out.2).mono ?_
  intro e w3 hA
  obtain ⟨val, a_r, a_rc, a_s, a_sc, a_f, a_fc, a_n, a_nc, rfl, hO, bb, hI⟩ := hA.open
  dsimp only
  have I_a := hO.img
  rw [hI] at I_a
  clear hA hO hI
  replace mb_m := cells_below mb_m bb (Array.getElem?_eq_some_iff.1 mb_m).1
  replace hB := Below.on hB bb
  replace I_m := I_m.below bb
  replace S0 := S0.below bb
  replace S1 := S1.below bb
  clear bb
  replace mb_m := cells_alloc mb_m (.cells #[.int .i64 MA.guest, .slice a_r MA.root.length a_rc, .slice a_s MA.slots.length a_sc, .slice a_f MA.refs.length a_fc, .slice a_n MA.snaps.length a_nc] 26)
  have ba : Below w3.heap.size w3 (w3.alloc (.cells #[.int .i64 MA.guest, .slice a_r MA.root.length a_rc, .slice a_s MA.slots.length a_sc, .slice a_f MA.refs.length a_fc, .slice a_n MA.snaps.length a_nc] 26)) := (Below.refl _ _).alloc (Nat.le_refl _) _
  replace hB := Below.on hB ba
  replace I_m := I_m.below ba
  replace S0 := S0.below ba
  replace S1 := S1.below ba
  replace I_a := I_a.below ba
  clear ba
  have mb_a : (w3.alloc (.cells #[.int .i64 MA.guest, .slice a_r MA.root.length a_rc, .slice a_s MA.slots.length a_sc, .slice a_f MA.refs.length a_fc, .slice a_n MA.snaps.length a_nc] 26)).heap[w3.heap.size]? = some (.cells #[.int .i64 MA.guest, .slice a_r MA.root.length a_rc, .slice a_s MA.slots.length a_sc, .slice a_f MA.refs.length a_fc, .slice a_n MA.snaps.length a_nc] 26) := World.alloc_heap_new _ _
  obtain ⟨a0, a1, a2, a3, a4⟩ := five mb_a
  have hh_mb_m := Hid_mkN mb_m
  have hh_mb_a := Hid_mkN mb_a
  have hh_I_m := Hid_mkN I_m
  have hh_S0 := Hid_mkN S0
  have hh_S1 := Hid_mkN S1
  have hh_I_a := Hid_mkN I_a
  have hh_hB := Hid_mkN hB
  clear mb_m mb_a I_m S0 S1 I_a hB
  go_wp2_with fail
  clear a0 a1 a2 a3 a4
  have mb_m := hh_mb_m.out
  have mb_a := hh_mb_a.out
  have I_m := hh_I_m.out
  have S0 := hh_S0.out
  have S1 := hh_S1.out
  have I_a := hh_I_a.out
  have hB := hh_hB.out
  clear hh_mb_m hh_mb_a hh_I_m hh_S0 hh_S1 hh_I_a hh_hB
  refine (past_is I_a nm HG.out.1 HG.out.2.1).mono ?_
  rintro e w4 ⟨⟨l2, rfl, S2⟩, bb⟩
  replace mb_m := cells_below mb_m bb (Array.getElem?_eq_some_iff.1 mb_m).1
  replace mb_a := cells_below mb_a bb (Array.getElem?_eq_some_iff.1 mb_a).1
  replace hB := Below.on hB bb
  replace I_m := I_m.below bb
  replace S0 := S0.below bb
  replace S1 := S1.below bb
  replace I_a := I_a.below bb
  clear bb
  obtain ⟨a0, a1, a2, a3, a4⟩ := five mb_a
  have hh_mb_m := Hid_mkN mb_m
  have hh_mb_a := Hid_mkN mb_a
  have hh_I_m := Hid_mkN I_m
  have hh_S0 := Hid_mkN S0
  have hh_S1 := Hid_mkN S1
  have hh_I_a := Hid_mkN I_a
  have hh_S2 := Hid_mkN S2
  have hh_hB := Hid_mkN hB
  clear mb_m mb_a I_m S0 S1 I_a S2 hB
  go_wp2_with fail
  clear a0 a1 a2 a3 a4
  have mb_m := hh_mb_m.out
  have mb_a := hh_mb_a.out
  have I_m := hh_I_m.out
  have S0 := hh_S0.out
  have S1 := hh_S1.out
  have I_a := hh_I_a.out
  have S2 := hh_S2.out
  have hB := hh_hB.out
  clear hh_mb_m hh_mb_a hh_I_m hh_S0 hh_S1 hh_I_a hh_S2 hh_hB
  refine (all_is I_a HG.out.2.2.1 HG.out.2.2.2.1).mono ?_
  rintro e w5 ⟨⟨l3, rfl, S3⟩, bb⟩
  replace mb_m := cells_below mb_m bb (Array.getElem?_eq_some_iff.1 mb_m).1
  replace mb_a := cells_below mb_a bb (Array.getElem?_eq_some_iff.1 mb_a).1
  replace hB := Below.on hB bb
  replace I_m := I_m.below bb
  replace S0 := S0.below bb
  replace S1 := S1.below bb
  replace I_a := I_a.below bb
  replace S2 := S2.below bb
  clear bb
  obtain ⟨a0, a1, a2, a3, a4⟩ := five mb_a
  have hh_mb_m := Hid_mkN mb_m
  have hh_mb_a := Hid_mkN mb_a
  have hh_I_m := Hid_mkN I_m
  have hh_S0 := Hid_mkN S0
  have hh_S1 := Hid_mkN S1
  have hh_I_a := Hid_mkN I_a
  have hh_S2 := Hid_mkN S2
  have hh_S3 := Hid_mkN S3
  have hh_hB := Hid_mkN hB
  clear mb_m mb_a I_m S0 S1 I_a S2 S3 hB
  go_wp2_with fail
  clear a0 a1 a2 a3 a4
  have mb_m := hh_mb_m.out
  have mb_a := hh_mb_a.out
  have I_m := hh_I_m.out
  have S0 := hh_S0.out
  have S1 := hh_S1.out
  have I_a := hh_I_a.out
  have S2 := hh_S2.out
  have S3 := hh_S3.out
  have hB := hh_hB.out
  clear hh_mb_m hh_mb_a hh_I_m hh_S0 hh_S1 hh_I_a hh_S2 hh_S3 hh_hB
  refine (past_is I_a o HG.out.2.2.2.2.1 HG.out.2.2.2.2.2).mono ?_
  rintro e w6 ⟨⟨l4, rfl, S4⟩, bb⟩
  replace mb_m := cells_below mb_m bb (Array.getElem?_eq_some_iff.1 mb_m).1
  replace mb_a := cells_below mb_a bb (Array.getElem?_eq_some_iff.1 mb_a).1
  replace hB := Below.on hB bb
  replace I_m := I_m.below bb
  replace S0 := S0.below bb
  replace S1 := S1.below bb
  replace I_a := I_a.below bb
  replace S2 := S2.below bb
  replace S3 := S3.below bb
  clear bb
  have hh_mb_m := Hid_mkN mb_m
  have hh_mb_a := Hid_mkN mb_a
  have hh_I_m := Hid_mkN I_m
  have hh_S0 := Hid_mkN S0
  have hh_S1 := Hid_mkN S1
  have hh_I_a := Hid_mkN I_a
  have hh_S2 := Hid_mkN S2
  have hh_S3 := Hid_mkN S3
  have hh_S4 := Hid_mkN S4
  have hh_hB := Hid_mkN hB
  clear mb_m mb_a I_m S0 S1 I_a S2 S3 S4 hB
  go_wp2_with fail
  have mb_m := hh_mb_m.out
  have mb_a := hh_mb_a.out
  have I_m := hh_I_m.out
  have S0 := hh_S0.out
  have S1 := hh_S1.out
  have I_a := hh_I_a.out
  have S2 := hh_S2.out
  have S3 := hh_S3.out
  have S4 := hh_S4.out
  have hB := hh_hB.out
  clear hh_mb_m hh_mb_a hh_I_m hh_S0 hh_S1 hh_I_a hh_S2 hh_S3 hh_S4 hh_hB
  refine (samePages_any S2 S0).mono ?_
  rintro e w7 ⟨rfl, bb⟩
  replace mb_m := cells_below mb_m bb (Array.getElem?_eq_some_iff.1 mb_m).1
  replace mb_a := cells_below mb_a bb (Array.getElem?_eq_some_iff.1 mb_a).1
  replace hB := Below.on hB bb
  replace I_m := I_m.below bb
  replace S0 := S0.below bb
  replace S1 := S1.below bb
  replace I_a := I_a.below bb
  replace S2 := S2.below bb
  replace S3 := S3.below bb
  replace S4 := S4.below bb
  clear bb
  clear S2
  have hh_mb_m := Hid_mkN mb_m
  have hh_mb_a := Hid_mkN mb_a
  have hh_I_m := Hid_mkN I_m
  have hh_S0 := Hid_mkN S0
  have hh_S1 := Hid_mkN S1
  have hh_I_a := Hid_mkN I_a
  have hh_S3 := Hid_mkN S3
  have hh_S4 := Hid_mkN S4
  have hh_hB := Hid_mkN hB
  clear mb_m mb_a I_m S0 S1 I_a S3 S4 hB
  go_wp2_with fail
  have mb_m := hh_mb_m.out
  have mb_a := hh_mb_a.out
  have I_m := hh_I_m.out
  have S0 := hh_S0.out
  have S1 := hh_S1.out
  have I_a := hh_I_a.out
  have S3 := hh_S3.out
  have S4 := hh_S4.out
  have hB := hh_hB.out
  clear hh_mb_m hh_mb_a hh_I_m hh_S0 hh_S1 hh_I_a hh_S3 hh_S4 hh_hB
  refine (samePages_any S3 S0).mono ?_
  rintro e w8 ⟨rfl, bb⟩
  replace mb_m := cells_below mb_m bb (Array.getElem?_eq_some_iff.1 mb_m).1
  replace mb_a := cells_below mb_a bb (Array.getElem?_eq_some_iff.1 mb_a).1
  replace hB := Below.on hB bb
  replace I_m := I_m.below bb
  replace S0 := S0.below bb
  replace S1 := S1.below bb
  replace I_a := I_a.below bb
  replace S3 := S3.below bb
  replace S4 := S4.below bb
  clear bb
  clear S3
  clear S4
  clear mb_a
  clear I_a
  obtain ⟨m0, m1, m2, m3, m4⟩ := five mb_m
  have hh_mb_m := Hid_mkN mb_m
  have hh_I_m := Hid_mkN I_m
  have hh_S0 := Hid_mkN S0
  have hh_S1 := Hid_mkN S1
  have hh_hB := Hid_mkN hB
  clear mb_m I_m S0 S1 hB
  go_wp2_with fail
  clear m0 m1 m2 m3 m4
  have mb_m := hh_mb_m.out
  have I_m := hh_I_m.out
  have S0 := hh_S0.out
  have S1 := hh_S1.out
  have hB := hh_hB.out
  clear hh_mb_m hh_I_m hh_S0 hh_S1 hh_hB
  refine (revert_is I_m o HB.out.1 HB.out.2).mono ?_
  intro e w9 hA
  obtain ⟨val, b_r, b_rc, b_s, b_sc, b_f, b_fc, b_n, b_nc, rfl, hO, bb, hI⟩ := hA.open
  dsimp only
  have I_b := hO.img
  rw [hI] at I_b
  clear hA hO hI
  replace mb_m := cells_below mb_m bb (Array.getElem?_eq_some_iff.1 mb_m).1
  replace hB := Below.on hB bb
  replace I_m := I_m.below bb
  replace S0 := S0.below bb
  replace S1 := S1.below bb
  clear bb
  replace mb_m := cells_alloc mb_m (.cells #[.int .i64 MB.guest, .slice b_r MB.root.length b_rc, .slice b_s MB.slots.length b_sc, .slice b_f MB.refs.length b_fc, .slice b_n MB.snaps.length b_nc] 26)
  have ba : Below w9.heap.size w9 (w9.alloc (.cells #[.int .i64 MB.guest, .slice b_r MB.root.length b_rc, .slice b_s MB.slots.length b_sc, .slice b_f MB.refs.length b_fc, .slice b_n MB.snaps.length b_nc] 26)) := (Below.refl _ _).alloc (Nat.le_refl _) _
  replace hB := Below.on hB ba
  replace I_m := I_m.below ba
  replace S0 := S0.below ba
  replace S1 := S1.below ba
  replace I_b := I_b.below ba
  clear ba
  have mb_b : (w9.alloc (.cells #[.int .i64 MB.guest, .slice b_r MB.root.length b_rc, .slice b_s MB.slots.length b_sc, .slice b_f MB.refs.length b_fc, .slice b_n MB.snaps.length b_nc] 26)).heap[w9.heap.size]? = some (.cells #[.int .i64 MB.guest, .slice b_r MB.root.length b_rc, .slice b_s MB.slots.length b_sc, .slice b_f MB.refs.length b_fc, .slice b_n MB.snaps.length b_nc] 26) := World.alloc_heap_new _ _
  clear mb_b
  clear I_b
  obtain ⟨m0, m1, m2, m3, m4⟩ := five mb_m
  have hh_mb_m := Hid_mkN mb_m
  have hh_I_m := Hid_mkN I_m
  have hh_S0 := Hid_mkN S0
  have hh_S1 := Hid_mkN S1
  have hh_hB := Hid_mkN hB
  clear mb_m I_m S0 S1 hB
  go_wp2_with fail
  clear m0 m1 m2 m3 m4
  have mb_m := hh_mb_m.out
  have I_m := hh_I_m.out
  have S0 := hh_S0.out
  have S1 := hh_S1.out
  have hB := hh_hB.out
  clear hh_mb_m hh_I_m hh_S0 hh_S1 hh_hB
  refine (delete_img I_m nm HC.out.1 HC.out.2).mono ?_
  intro e w10 hA
  obtain ⟨val, c_r, c_rc, c_s, c_sc, c_f, c_fc, c_n, c_nc, rfl, hO, bb, hI⟩ := hA.open
  dsimp only
  have I_c := hO.img
  rw [hI] at I_c
  clear hA hO hI
  replace mb_m := cells_below mb_m bb (Array.getElem?_eq_some_iff.1 mb_m).1
  replace hB := Below.on hB bb
  replace I_m := I_m.below bb
  replace S0 := S0.below bb
  replace S1 := S1.below bb
  clear bb
  replace mb_m := cells_alloc mb_m (.cells #[.int .i64 MC.guest, .slice c_r MC.root.length c_rc, .slice c_s MC.slots.length c_sc, .slice c_f MC.refs.length c_fc, .slice c_n MC.snaps.length c_nc] 26)
  have ba : Below w10.heap.size w10 (w10.alloc (.cells #[.int .i64 MC.guest, .slice c_r MC.root.length c_rc, .slice c_s MC.slots.length c_sc, .slice c_f MC.refs.length c_fc, .slice c_n MC.snaps.length c_nc] 26)) := (Below.refl _ _).alloc (Nat.le_refl _) _
  replace hB := Below.on hB ba
  replace I_m := I_m.below ba
  replace S0 := S0.below ba
  replace S1 := S1.below ba
  replace I_c := I_c.below ba
  clear ba
  have mb_c : (w10.alloc (.cells #[.int .i64 MC.guest, .slice c_r MC.root.length c_rc, .slice c_s MC.slots.length c_sc, .slice c_f MC.refs.length c_fc, .slice c_n MC.snaps.length c_nc] 26)).heap[w10.heap.size]? = some (.cells #[.int .i64 MC.guest, .slice c_r MC.root.length c_rc, .slice c_s MC.slots.length c_sc, .slice c_f MC.refs.length c_fc, .slice c_n MC.snaps.length c_nc] 26) := World.alloc_heap_new _ _
  clear mb_m
  clear I_m
  clear mb_c
  clear I_c
  clear S0
  clear S1
  have hh_hB := Hid_mkN hB
  clear hB
  go_wp2_with fail
  have hB := hh_hB.out
  clear hh_hB
  refine (snapsBegun_any _).mono ?_
  rintro e w11 ⟨rfl, bb⟩
  replace hB := Below.on hB bb
  clear bb
  have hh_hB := Hid_mkN hB
  clear hB
  go_wp2_with fail
  go_ret
  have hB := hh_hB.out
  exact ⟨rfl, hB⟩

set_option maxHeartbeats 16000000 in
theorem ntrue_100n (ra : Option Addr) (rc : Nat) (sa : Option Addr) (sc : Nat) (fa : Option Addr) (fc : Nat) (na : Option Addr) (nc : Nat) (m : ImgD) (nm o : ByteArray) (w : World) (h : Img w (.agg #[.int .i64 m.guest, .slice ra m.root.length rc, .slice sa m.slots.length sc, .slice fa m.refs.length fc, .slice na m.snaps.length nc]) m) (MA MB MC : ImgD) (EF EL : Int) (L0 L1 : List ByteArray) (HM : Hid (checkE m = 0 ∧ allV m = L0 ∧ pastE m o = EF ∧ pastV m o = L1)) (HA : Hid (crM m nm = MA ∧ crE m nm = 0)) (HB : Hid (rvM m o = MB ∧ pastE m o = EF)) (HC : Hid (dlM m nm = MC ∧ pastE m nm = EL)) (nEF : (EF != 0) = true) (qEF : (EF == 0) = false) (nEL : (EL != 0) = true) (qEL : (EL == 0) = false) (heq : (nm.toList == o.toList) = false) (heqn : (nm.toList != o.toList) = true) (HG : Hid (pastE MA nm = 0 ∧ pastV MA nm = L0 ∧ checkE MA = 0 ∧ allV MA = L0 ∧ pastE MA o = EF ∧ pastV MA o = L1)) (sEF : (EF != EF) = false) (tEF : (EF == EF) = true) :
    Calls Try.prog 4 #[.agg #[.int .i64 m.guest, .slice ra m.root.length rc, .slice sa m.slots.length sc, .slice fa m.refs.length fc, .slice na m.snaps.length nc], .string nm, .string o] w fun r w' => r = .returned (.bool true) ∧ Below w.heap.size w w' := by
  have hB : Below w.heap.size w (w.alloc (.cells #[.int .i64 m.guest, .slice ra m.root.length rc, .slice sa m.slots.length sc, .slice fa m.refs.length fc, .slice na m.snaps.length nc] 26)) := (Below.refl _ _).alloc (Nat.le_refl _) _
  have mb_m : (w.alloc (.cells #[.int .i64 m.guest, .slice ra m.root.length rc, .slice sa m.slots.length sc, .slice fa m.refs.length fc, .slice na m.snaps.length nc] 26)).heap[w.heap.size]? = some (.cells #[.int .i64 m.guest, .slice ra m.root.length rc, .slice sa m.slots.length sc, .slice fa m.refs.length fc, .slice na m.snaps.length nc] 26) := World.alloc_heap_new _ _
  have I_m := h.below hB
  clear h
  go_enter Try.func4, Try.ntmps4
  obtain ⟨m0, m1, m2, m3, m4⟩ := five mb_m
  have hh_mb_m := Hid_mkN mb_m
  have hh_I_m := Hid_mkN I_m
  have hh_hB := Hid_mkN hB
  clear mb_m I_m hB
  go_wp2_with fail
  clear m0 m1 m2 m3 m4
  have mb_m := hh_mb_m.out
  have I_m := hh_I_m.out
  have hB := hh_hB.out
  clear hh_mb_m hh_I_m hh_hB
  refine (all_is I_m HM.out.1 HM.out.2.1).mono ?_
  rintro e w1 ⟨⟨l0, rfl, S0⟩, bb⟩
  replace mb_m := cells_below mb_m bb (Array.getElem?_eq_some_iff.1 mb_m).1
  replace hB := Below.on hB bb
  replace I_m := I_m.below bb
  clear bb
  obtain ⟨m0, m1, m2, m3, m4⟩ := five mb_m
  have hh_mb_m := Hid_mkN mb_m
  have hh_I_m := Hid_mkN I_m
  have hh_S0 := Hid_mkN S0
  have hh_hB := Hid_mkN hB
  clear mb_m I_m S0 hB
  go_wp2_with fail
  clear m0 m1 m2 m3 m4
  have mb_m := hh_mb_m.out
  have I_m := hh_I_m.out
  have S0 := hh_S0.out
  have hB := hh_hB.out
  clear hh_mb_m hh_I_m hh_S0 hh_hB
  refine (past_is I_m o HM.out.2.2.1 HM.out.2.2.2).mono ?_
  rintro e w2 ⟨⟨l1, rfl, S1⟩, bb⟩
  replace mb_m := cells_below mb_m bb (Array.getElem?_eq_some_iff.1 mb_m).1
  replace hB := Below.on hB bb
  replace I_m := I_m.below bb
  replace S0 := S0.below bb
  clear bb
  obtain ⟨m0, m1, m2, m3, m4⟩ := five mb_m
  have hh_mb_m := Hid_mkN mb_m
  have hh_I_m := Hid_mkN I_m
  have hh_S0 := Hid_mkN S0
  have hh_S1 := Hid_mkN S1
  have hh_hB := Hid_mkN hB
  clear mb_m I_m S0 S1 hB
  go_wp2_with fail
  clear m0 m1 m2 m3 m4
  have mb_m := hh_mb_m.out
  have I_m := hh_I_m.out
  have S0 := hh_S0.out
  have S1 := hh_S1.out
  have hB := hh_hB.out
  clear hh_mb_m hh_I_m hh_S0 hh_S1 hh_hB
  refine (create_is I_m nm HA.out.1 HA.out.2).mono ?_
  intro e w3 hA
  obtain ⟨val, a_r, a_rc, a_s, a_sc, a_f, a_fc, a_n, a_nc, rfl, hO, bb, hI⟩ := hA.open
  dsimp only
  have I_a := hO.img
  rw [hI] at I_a
  clear hA hO hI
  replace mb_m := cells_below mb_m bb (Array.getElem?_eq_some_iff.1 mb_m).1
  replace hB := Below.on hB bb
  replace I_m := I_m.below bb
  replace S0 := S0.below bb
  replace S1 := S1.below bb
  clear bb
  replace mb_m := cells_alloc mb_m (.cells #[.int .i64 MA.guest, .slice a_r MA.root.length a_rc, .slice a_s MA.slots.length a_sc, .slice a_f MA.refs.length a_fc, .slice a_n MA.snaps.length a_nc] 26)
  have ba : Below w3.heap.size w3 (w3.alloc (.cells #[.int .i64 MA.guest, .slice a_r MA.root.length a_rc, .slice a_s MA.slots.length a_sc, .slice a_f MA.refs.length a_fc, .slice a_n MA.snaps.length a_nc] 26)) := (Below.refl _ _).alloc (Nat.le_refl _) _
  replace hB := Below.on hB ba
  replace I_m := I_m.below ba
  replace S0 := S0.below ba
  replace S1 := S1.below ba
  replace I_a := I_a.below ba
  clear ba
  have mb_a : (w3.alloc (.cells #[.int .i64 MA.guest, .slice a_r MA.root.length a_rc, .slice a_s MA.slots.length a_sc, .slice a_f MA.refs.length a_fc, .slice a_n MA.snaps.length a_nc] 26)).heap[w3.heap.size]? = some (.cells #[.int .i64 MA.guest, .slice a_r MA.root.length a_rc, .slice a_s MA.slots.length a_sc, .slice a_f MA.refs.length a_fc, .slice a_n MA.snaps.length a_nc] 26) := World.alloc_heap_new _ _
  obtain ⟨a0, a1, a2, a3, a4⟩ := five mb_a
  have hh_mb_m := Hid_mkN mb_m
  have hh_mb_a := Hid_mkN mb_a
  have hh_I_m := Hid_mkN I_m
  have hh_S0 := Hid_mkN S0
  have hh_S1 := Hid_mkN S1
  have hh_I_a := Hid_mkN I_a
  have hh_hB := Hid_mkN hB
  clear mb_m mb_a I_m S0 S1 I_a hB
  go_wp2_with fail
  clear a0 a1 a2 a3 a4
  have mb_m := hh_mb_m.out
  have mb_a := hh_mb_a.out
  have I_m := hh_I_m.out
  have S0 := hh_S0.out
  have S1 := hh_S1.out
  have I_a := hh_I_a.out
  have hB := hh_hB.out
  clear hh_mb_m hh_mb_a hh_I_m hh_S0 hh_S1 hh_I_a hh_hB
  refine (past_is I_a nm HG.out.1 HG.out.2.1).mono ?_
  rintro e w4 ⟨⟨l2, rfl, S2⟩, bb⟩
  replace mb_m := cells_below mb_m bb (Array.getElem?_eq_some_iff.1 mb_m).1
  replace mb_a := cells_below mb_a bb (Array.getElem?_eq_some_iff.1 mb_a).1
  replace hB := Below.on hB bb
  replace I_m := I_m.below bb
  replace S0 := S0.below bb
  replace S1 := S1.below bb
  replace I_a := I_a.below bb
  clear bb
  obtain ⟨a0, a1, a2, a3, a4⟩ := five mb_a
  have hh_mb_m := Hid_mkN mb_m
  have hh_mb_a := Hid_mkN mb_a
  have hh_I_m := Hid_mkN I_m
  have hh_S0 := Hid_mkN S0
  have hh_S1 := Hid_mkN S1
  have hh_I_a := Hid_mkN I_a
  have hh_S2 := Hid_mkN S2
  have hh_hB := Hid_mkN hB
  clear mb_m mb_a I_m S0 S1 I_a S2 hB
  go_wp2_with fail
  clear a0 a1 a2 a3 a4
  have mb_m := hh_mb_m.out
  have mb_a := hh_mb_a.out
  have I_m := hh_I_m.out
  have S0 := hh_S0.out
  have S1 := hh_S1.out
  have I_a := hh_I_a.out
  have S2 := hh_S2.out
  have hB := hh_hB.out
  clear hh_mb_m hh_mb_a hh_I_m hh_S0 hh_S1 hh_I_a hh_S2 hh_hB
  refine (all_is I_a HG.out.2.2.1 HG.out.2.2.2.1).mono ?_
  rintro e w5 ⟨⟨l3, rfl, S3⟩, bb⟩
  replace mb_m := cells_below mb_m bb (Array.getElem?_eq_some_iff.1 mb_m).1
  replace mb_a := cells_below mb_a bb (Array.getElem?_eq_some_iff.1 mb_a).1
  replace hB := Below.on hB bb
  replace I_m := I_m.below bb
  replace S0 := S0.below bb
  replace S1 := S1.below bb
  replace I_a := I_a.below bb
  replace S2 := S2.below bb
  clear bb
  obtain ⟨a0, a1, a2, a3, a4⟩ := five mb_a
  have hh_mb_m := Hid_mkN mb_m
  have hh_mb_a := Hid_mkN mb_a
  have hh_I_m := Hid_mkN I_m
  have hh_S0 := Hid_mkN S0
  have hh_S1 := Hid_mkN S1
  have hh_I_a := Hid_mkN I_a
  have hh_S2 := Hid_mkN S2
  have hh_S3 := Hid_mkN S3
  have hh_hB := Hid_mkN hB
  clear mb_m mb_a I_m S0 S1 I_a S2 S3 hB
  go_wp2_with fail
  clear a0 a1 a2 a3 a4
  have mb_m := hh_mb_m.out
  have mb_a := hh_mb_a.out
  have I_m := hh_I_m.out
  have S0 := hh_S0.out
  have S1 := hh_S1.out
  have I_a := hh_I_a.out
  have S2 := hh_S2.out
  have S3 := hh_S3.out
  have hB := hh_hB.out
  clear hh_mb_m hh_mb_a hh_I_m hh_S0 hh_S1 hh_I_a hh_S2 hh_S3 hh_hB
  refine (past_is I_a o HG.out.2.2.2.2.1 HG.out.2.2.2.2.2).mono ?_
  rintro e w6 ⟨⟨l4, rfl, S4⟩, bb⟩
  replace mb_m := cells_below mb_m bb (Array.getElem?_eq_some_iff.1 mb_m).1
  replace mb_a := cells_below mb_a bb (Array.getElem?_eq_some_iff.1 mb_a).1
  replace hB := Below.on hB bb
  replace I_m := I_m.below bb
  replace S0 := S0.below bb
  replace S1 := S1.below bb
  replace I_a := I_a.below bb
  replace S2 := S2.below bb
  replace S3 := S3.below bb
  clear bb
  have hh_mb_m := Hid_mkN mb_m
  have hh_mb_a := Hid_mkN mb_a
  have hh_I_m := Hid_mkN I_m
  have hh_S0 := Hid_mkN S0
  have hh_S1 := Hid_mkN S1
  have hh_I_a := Hid_mkN I_a
  have hh_S2 := Hid_mkN S2
  have hh_S3 := Hid_mkN S3
  have hh_S4 := Hid_mkN S4
  have hh_hB := Hid_mkN hB
  clear mb_m mb_a I_m S0 S1 I_a S2 S3 S4 hB
  go_wp2_with fail
  have mb_m := hh_mb_m.out
  have mb_a := hh_mb_a.out
  have I_m := hh_I_m.out
  have S0 := hh_S0.out
  have S1 := hh_S1.out
  have I_a := hh_I_a.out
  have S2 := hh_S2.out
  have S3 := hh_S3.out
  have S4 := hh_S4.out
  have hB := hh_hB.out
  clear hh_mb_m hh_mb_a hh_I_m hh_S0 hh_S1 hh_I_a hh_S2 hh_S3 hh_S4 hh_hB
  refine (samePages_any S2 S0).mono ?_
  rintro e w7 ⟨rfl, bb⟩
  replace mb_m := cells_below mb_m bb (Array.getElem?_eq_some_iff.1 mb_m).1
  replace mb_a := cells_below mb_a bb (Array.getElem?_eq_some_iff.1 mb_a).1
  replace hB := Below.on hB bb
  replace I_m := I_m.below bb
  replace S0 := S0.below bb
  replace S1 := S1.below bb
  replace I_a := I_a.below bb
  replace S2 := S2.below bb
  replace S3 := S3.below bb
  replace S4 := S4.below bb
  clear bb
  clear S2
  have hh_mb_m := Hid_mkN mb_m
  have hh_mb_a := Hid_mkN mb_a
  have hh_I_m := Hid_mkN I_m
  have hh_S0 := Hid_mkN S0
  have hh_S1 := Hid_mkN S1
  have hh_I_a := Hid_mkN I_a
  have hh_S3 := Hid_mkN S3
  have hh_S4 := Hid_mkN S4
  have hh_hB := Hid_mkN hB
  clear mb_m mb_a I_m S0 S1 I_a S3 S4 hB
  go_wp2_with fail
  have mb_m := hh_mb_m.out
  have mb_a := hh_mb_a.out
  have I_m := hh_I_m.out
  have S0 := hh_S0.out
  have S1 := hh_S1.out
  have I_a := hh_I_a.out
  have S3 := hh_S3.out
  have S4 := hh_S4.out
  have hB := hh_hB.out
  clear hh_mb_m hh_mb_a hh_I_m hh_S0 hh_S1 hh_I_a hh_S3 hh_S4 hh_hB
  refine (samePages_any S3 S0).mono ?_
  rintro e w8 ⟨rfl, bb⟩
  replace mb_m := cells_below mb_m bb (Array.getElem?_eq_some_iff.1 mb_m).1
  replace mb_a := cells_below mb_a bb (Array.getElem?_eq_some_iff.1 mb_a).1
  replace hB := Below.on hB bb
  replace I_m := I_m.below bb
  replace S0 := S0.below bb
  replace S1 := S1.below bb
  replace I_a := I_a.below bb
  replace S3 := S3.below bb
  replace S4 := S4.below bb
  clear bb
  clear S3
  have hh_mb_m := Hid_mkN mb_m
  have hh_mb_a := Hid_mkN mb_a
  have hh_I_m := Hid_mkN I_m
  have hh_S0 := Hid_mkN S0
  have hh_S1 := Hid_mkN S1
  have hh_I_a := Hid_mkN I_a
  have hh_S4 := Hid_mkN S4
  have hh_hB := Hid_mkN hB
  clear mb_m mb_a I_m S0 S1 I_a S4 hB
  go_wp2_with fail
  have mb_m := hh_mb_m.out
  have mb_a := hh_mb_a.out
  have I_m := hh_I_m.out
  have S0 := hh_S0.out
  have S1 := hh_S1.out
  have I_a := hh_I_a.out
  have S4 := hh_S4.out
  have hB := hh_hB.out
  clear hh_mb_m hh_mb_a hh_I_m hh_S0 hh_S1 hh_I_a hh_S4 hh_hB
  refine (samePages_any S4 S1).mono ?_
  rintro e w9 ⟨rfl, bb⟩
  replace mb_m := cells_below mb_m bb (Array.getElem?_eq_some_iff.1 mb_m).1
  replace mb_a := cells_below mb_a bb (Array.getElem?_eq_some_iff.1 mb_a).1
  replace hB := Below.on hB bb
  replace I_m := I_m.below bb
  replace S0 := S0.below bb
  replace S1 := S1.below bb
  replace I_a := I_a.below bb
  replace S4 := S4.below bb
  clear bb
  clear S4
  clear mb_a
  clear I_a
  obtain ⟨m0, m1, m2, m3, m4⟩ := five mb_m
  have hh_mb_m := Hid_mkN mb_m
  have hh_I_m := Hid_mkN I_m
  have hh_S0 := Hid_mkN S0
  have hh_S1 := Hid_mkN S1
  have hh_hB := Hid_mkN hB
  clear mb_m I_m S0 S1 hB
  go_wp2_with fail
  clear m0 m1 m2 m3 m4
  have mb_m := hh_mb_m.out
  have I_m := hh_I_m.out
  have S0 := hh_S0.out
  have S1 := hh_S1.out
  have hB := hh_hB.out
  clear hh_mb_m hh_I_m hh_S0 hh_S1 hh_hB
  refine (revert_is I_m o HB.out.1 HB.out.2).mono ?_
  intro e w10 hA
  obtain ⟨val, b_r, b_rc, b_s, b_sc, b_f, b_fc, b_n, b_nc, rfl, hO, bb, hI⟩ := hA.open
  dsimp only
  have I_b := hO.img
  rw [hI] at I_b
  clear hA hO hI
  replace mb_m := cells_below mb_m bb (Array.getElem?_eq_some_iff.1 mb_m).1
  replace hB := Below.on hB bb
  replace I_m := I_m.below bb
  replace S0 := S0.below bb
  replace S1 := S1.below bb
  clear bb
  replace mb_m := cells_alloc mb_m (.cells #[.int .i64 MB.guest, .slice b_r MB.root.length b_rc, .slice b_s MB.slots.length b_sc, .slice b_f MB.refs.length b_fc, .slice b_n MB.snaps.length b_nc] 26)
  have ba : Below w10.heap.size w10 (w10.alloc (.cells #[.int .i64 MB.guest, .slice b_r MB.root.length b_rc, .slice b_s MB.slots.length b_sc, .slice b_f MB.refs.length b_fc, .slice b_n MB.snaps.length b_nc] 26)) := (Below.refl _ _).alloc (Nat.le_refl _) _
  replace hB := Below.on hB ba
  replace I_m := I_m.below ba
  replace S0 := S0.below ba
  replace S1 := S1.below ba
  replace I_b := I_b.below ba
  clear ba
  have mb_b : (w10.alloc (.cells #[.int .i64 MB.guest, .slice b_r MB.root.length b_rc, .slice b_s MB.slots.length b_sc, .slice b_f MB.refs.length b_fc, .slice b_n MB.snaps.length b_nc] 26)).heap[w10.heap.size]? = some (.cells #[.int .i64 MB.guest, .slice b_r MB.root.length b_rc, .slice b_s MB.slots.length b_sc, .slice b_f MB.refs.length b_fc, .slice b_n MB.snaps.length b_nc] 26) := World.alloc_heap_new _ _
  clear mb_b
  clear I_b
  obtain ⟨m0, m1, m2, m3, m4⟩ := five mb_m
  have hh_mb_m := Hid_mkN mb_m
  have hh_I_m := Hid_mkN I_m
  have hh_S0 := Hid_mkN S0
  have hh_S1 := Hid_mkN S1
  have hh_hB := Hid_mkN hB
  clear mb_m I_m S0 S1 hB
  go_wp2_with fail
  clear m0 m1 m2 m3 m4
  have mb_m := hh_mb_m.out
  have I_m := hh_I_m.out
  have S0 := hh_S0.out
  have S1 := hh_S1.out
  have hB := hh_hB.out
  clear hh_mb_m hh_I_m hh_S0 hh_S1 hh_hB
  refine (delete_img I_m nm HC.out.1 HC.out.2).mono ?_
  intro e w11 hA
  obtain ⟨val, c_r, c_rc, c_s, c_sc, c_f, c_fc, c_n, c_nc, rfl, hO, bb, hI⟩ := hA.open
  dsimp only
  have I_c := hO.img
  rw [hI] at I_c
  clear hA hO hI
  replace mb_m := cells_below mb_m bb (Array.getElem?_eq_some_iff.1 mb_m).1
  replace hB := Below.on hB bb
  replace I_m := I_m.below bb
  replace S0 := S0.below bb
  replace S1 := S1.below bb
  clear bb
  replace mb_m := cells_alloc mb_m (.cells #[.int .i64 MC.guest, .slice c_r MC.root.length c_rc, .slice c_s MC.slots.length c_sc, .slice c_f MC.refs.length c_fc, .slice c_n MC.snaps.length c_nc] 26)
  have ba : Below w11.heap.size w11 (w11.alloc (.cells #[.int .i64 MC.guest, .slice c_r MC.root.length c_rc, .slice c_s MC.slots.length c_sc, .slice c_f MC.refs.length c_fc, .slice c_n MC.snaps.length c_nc] 26)) := (Below.refl _ _).alloc (Nat.le_refl _) _
  replace hB := Below.on hB ba
  replace I_m := I_m.below ba
  replace S0 := S0.below ba
  replace S1 := S1.below ba
  replace I_c := I_c.below ba
  clear ba
  have mb_c : (w11.alloc (.cells #[.int .i64 MC.guest, .slice c_r MC.root.length c_rc, .slice c_s MC.slots.length c_sc, .slice c_f MC.refs.length c_fc, .slice c_n MC.snaps.length c_nc] 26)).heap[w11.heap.size]? = some (.cells #[.int .i64 MC.guest, .slice c_r MC.root.length c_rc, .slice c_s MC.slots.length c_sc, .slice c_f MC.refs.length c_fc, .slice c_n MC.snaps.length c_nc] 26) := World.alloc_heap_new _ _
  clear mb_m
  clear I_m
  clear mb_c
  clear I_c
  clear S0
  clear S1
  have hh_hB := Hid_mkN hB
  clear hB
  go_wp2_with fail
  have hB := hh_hB.out
  clear hh_hB
  refine (snapsBegun_any _).mono ?_
  rintro e w12 ⟨rfl, bb⟩
  replace hB := Below.on hB bb
  clear bb
  have hh_hB := Hid_mkN hB
  clear hB
  go_wp2_with fail
  go_ret
  have hB := hh_hB.out
  exact ⟨rfl, hB⟩

set_option maxHeartbeats 16000000 in
theorem ntrue_110n (ra : Option Addr) (rc : Nat) (sa : Option Addr) (sc : Nat) (fa : Option Addr) (fc : Nat) (na : Option Addr) (nc : Nat) (m : ImgD) (nm o : ByteArray) (w : World) (h : Img w (.agg #[.int .i64 m.guest, .slice ra m.root.length rc, .slice sa m.slots.length sc, .slice fa m.refs.length fc, .slice na m.snaps.length nc]) m) (MA MB MC : ImgD) (EL : Int) (L0 L1 : List ByteArray) (HM : Hid (checkE m = 0 ∧ allV m = L0 ∧ pastE m o = 0 ∧ pastV m o = L1)) (HA : Hid (crM m nm = MA ∧ crE m nm = 0)) (HB : Hid (rvM m o = MB ∧ pastE m o = 0)) (HC : Hid (dlM m nm = MC ∧ pastE m nm = EL)) (nEL : (EL != 0) = true) (qEL : (EL == 0) = false) (heq : (nm.toList == o.toList) = false) (heqn : (nm.toList != o.toList) = true) (HG : Hid (pastE MA nm = 0 ∧ pastV MA nm = L0 ∧ checkE MA = 0 ∧ allV MA = L0 ∧ pastE MA o = 0 ∧ pastV MA o = L1)) (HK : Hid (checkE MB = 0 ∧ allV MB = L1 ∧ pastE MB o = 0 ∧ pastV MB o = L1)) :
    Calls Try.prog 4 #[.agg #[.int .i64 m.guest, .slice ra m.root.length rc, .slice sa m.slots.length sc, .slice fa m.refs.length fc, .slice na m.snaps.length nc], .string nm, .string o] w fun r w' => r = .returned (.bool true) ∧ Below w.heap.size w w' := by
  have hB : Below w.heap.size w (w.alloc (.cells #[.int .i64 m.guest, .slice ra m.root.length rc, .slice sa m.slots.length sc, .slice fa m.refs.length fc, .slice na m.snaps.length nc] 26)) := (Below.refl _ _).alloc (Nat.le_refl _) _
  have mb_m : (w.alloc (.cells #[.int .i64 m.guest, .slice ra m.root.length rc, .slice sa m.slots.length sc, .slice fa m.refs.length fc, .slice na m.snaps.length nc] 26)).heap[w.heap.size]? = some (.cells #[.int .i64 m.guest, .slice ra m.root.length rc, .slice sa m.slots.length sc, .slice fa m.refs.length fc, .slice na m.snaps.length nc] 26) := World.alloc_heap_new _ _
  have I_m := h.below hB
  clear h
  go_enter Try.func4, Try.ntmps4
  obtain ⟨m0, m1, m2, m3, m4⟩ := five mb_m
  have hh_mb_m := Hid_mkN mb_m
  have hh_I_m := Hid_mkN I_m
  have hh_hB := Hid_mkN hB
  clear mb_m I_m hB
  go_wp2_with fail
  clear m0 m1 m2 m3 m4
  have mb_m := hh_mb_m.out
  have I_m := hh_I_m.out
  have hB := hh_hB.out
  clear hh_mb_m hh_I_m hh_hB
  refine (all_is I_m HM.out.1 HM.out.2.1).mono ?_
  rintro e w1 ⟨⟨l0, rfl, S0⟩, bb⟩
  replace mb_m := cells_below mb_m bb (Array.getElem?_eq_some_iff.1 mb_m).1
  replace hB := Below.on hB bb
  replace I_m := I_m.below bb
  clear bb
  obtain ⟨m0, m1, m2, m3, m4⟩ := five mb_m
  have hh_mb_m := Hid_mkN mb_m
  have hh_I_m := Hid_mkN I_m
  have hh_S0 := Hid_mkN S0
  have hh_hB := Hid_mkN hB
  clear mb_m I_m S0 hB
  go_wp2_with fail
  clear m0 m1 m2 m3 m4
  have mb_m := hh_mb_m.out
  have I_m := hh_I_m.out
  have S0 := hh_S0.out
  have hB := hh_hB.out
  clear hh_mb_m hh_I_m hh_S0 hh_hB
  refine (past_is I_m o HM.out.2.2.1 HM.out.2.2.2).mono ?_
  rintro e w2 ⟨⟨l1, rfl, S1⟩, bb⟩
  replace mb_m := cells_below mb_m bb (Array.getElem?_eq_some_iff.1 mb_m).1
  replace hB := Below.on hB bb
  replace I_m := I_m.below bb
  replace S0 := S0.below bb
  clear bb
  obtain ⟨m0, m1, m2, m3, m4⟩ := five mb_m
  have hh_mb_m := Hid_mkN mb_m
  have hh_I_m := Hid_mkN I_m
  have hh_S0 := Hid_mkN S0
  have hh_S1 := Hid_mkN S1
  have hh_hB := Hid_mkN hB
  clear mb_m I_m S0 S1 hB
  go_wp2_with fail
  clear m0 m1 m2 m3 m4
  have mb_m := hh_mb_m.out
  have I_m := hh_I_m.out
  have S0 := hh_S0.out
  have S1 := hh_S1.out
  have hB := hh_hB.out
  clear hh_mb_m hh_I_m hh_S0 hh_S1 hh_hB
  refine (create_is I_m nm HA.out.1 HA.out.2).mono ?_
  intro e w3 hA
  obtain ⟨val, a_r, a_rc, a_s, a_sc, a_f, a_fc, a_n, a_nc, rfl, hO, bb, hI⟩ := hA.open
  dsimp only
  have I_a := hO.img
  rw [hI] at I_a
  clear hA hO hI
  replace mb_m := cells_below mb_m bb (Array.getElem?_eq_some_iff.1 mb_m).1
  replace hB := Below.on hB bb
  replace I_m := I_m.below bb
  replace S0 := S0.below bb
  replace S1 := S1.below bb
  clear bb
  replace mb_m := cells_alloc mb_m (.cells #[.int .i64 MA.guest, .slice a_r MA.root.length a_rc, .slice a_s MA.slots.length a_sc, .slice a_f MA.refs.length a_fc, .slice a_n MA.snaps.length a_nc] 26)
  have ba : Below w3.heap.size w3 (w3.alloc (.cells #[.int .i64 MA.guest, .slice a_r MA.root.length a_rc, .slice a_s MA.slots.length a_sc, .slice a_f MA.refs.length a_fc, .slice a_n MA.snaps.length a_nc] 26)) := (Below.refl _ _).alloc (Nat.le_refl _) _
  replace hB := Below.on hB ba
  replace I_m := I_m.below ba
  replace S0 := S0.below ba
  replace S1 := S1.below ba
  replace I_a := I_a.below ba
  clear ba
  have mb_a : (w3.alloc (.cells #[.int .i64 MA.guest, .slice a_r MA.root.length a_rc, .slice a_s MA.slots.length a_sc, .slice a_f MA.refs.length a_fc, .slice a_n MA.snaps.length a_nc] 26)).heap[w3.heap.size]? = some (.cells #[.int .i64 MA.guest, .slice a_r MA.root.length a_rc, .slice a_s MA.slots.length a_sc, .slice a_f MA.refs.length a_fc, .slice a_n MA.snaps.length a_nc] 26) := World.alloc_heap_new _ _
  obtain ⟨a0, a1, a2, a3, a4⟩ := five mb_a
  have hh_mb_m := Hid_mkN mb_m
  have hh_mb_a := Hid_mkN mb_a
  have hh_I_m := Hid_mkN I_m
  have hh_S0 := Hid_mkN S0
  have hh_S1 := Hid_mkN S1
  have hh_I_a := Hid_mkN I_a
  have hh_hB := Hid_mkN hB
  clear mb_m mb_a I_m S0 S1 I_a hB
  go_wp2_with fail
  clear a0 a1 a2 a3 a4
  have mb_m := hh_mb_m.out
  have mb_a := hh_mb_a.out
  have I_m := hh_I_m.out
  have S0 := hh_S0.out
  have S1 := hh_S1.out
  have I_a := hh_I_a.out
  have hB := hh_hB.out
  clear hh_mb_m hh_mb_a hh_I_m hh_S0 hh_S1 hh_I_a hh_hB
  refine (past_is I_a nm HG.out.1 HG.out.2.1).mono ?_
  rintro e w4 ⟨⟨l2, rfl, S2⟩, bb⟩
  replace mb_m := cells_below mb_m bb (Array.getElem?_eq_some_iff.1 mb_m).1
  replace mb_a := cells_below mb_a bb (Array.getElem?_eq_some_iff.1 mb_a).1
  replace hB := Below.on hB bb
  replace I_m := I_m.below bb
  replace S0 := S0.below bb
  replace S1 := S1.below bb
  replace I_a := I_a.below bb
  clear bb
  obtain ⟨a0, a1, a2, a3, a4⟩ := five mb_a
  have hh_mb_m := Hid_mkN mb_m
  have hh_mb_a := Hid_mkN mb_a
  have hh_I_m := Hid_mkN I_m
  have hh_S0 := Hid_mkN S0
  have hh_S1 := Hid_mkN S1
  have hh_I_a := Hid_mkN I_a
  have hh_S2 := Hid_mkN S2
  have hh_hB := Hid_mkN hB
  clear mb_m mb_a I_m S0 S1 I_a S2 hB
  go_wp2_with fail
  clear a0 a1 a2 a3 a4
  have mb_m := hh_mb_m.out
  have mb_a := hh_mb_a.out
  have I_m := hh_I_m.out
  have S0 := hh_S0.out
  have S1 := hh_S1.out
  have I_a := hh_I_a.out
  have S2 := hh_S2.out
  have hB := hh_hB.out
  clear hh_mb_m hh_mb_a hh_I_m hh_S0 hh_S1 hh_I_a hh_S2 hh_hB
  refine (all_is I_a HG.out.2.2.1 HG.out.2.2.2.1).mono ?_
  rintro e w5 ⟨⟨l3, rfl, S3⟩, bb⟩
  replace mb_m := cells_below mb_m bb (Array.getElem?_eq_some_iff.1 mb_m).1
  replace mb_a := cells_below mb_a bb (Array.getElem?_eq_some_iff.1 mb_a).1
  replace hB := Below.on hB bb
  replace I_m := I_m.below bb
  replace S0 := S0.below bb
  replace S1 := S1.below bb
  replace I_a := I_a.below bb
  replace S2 := S2.below bb
  clear bb
  obtain ⟨a0, a1, a2, a3, a4⟩ := five mb_a
  have hh_mb_m := Hid_mkN mb_m
  have hh_mb_a := Hid_mkN mb_a
  have hh_I_m := Hid_mkN I_m
  have hh_S0 := Hid_mkN S0
  have hh_S1 := Hid_mkN S1
  have hh_I_a := Hid_mkN I_a
  have hh_S2 := Hid_mkN S2
  have hh_S3 := Hid_mkN S3
  have hh_hB := Hid_mkN hB
  clear mb_m mb_a I_m S0 S1 I_a S2 S3 hB
  go_wp2_with fail
  clear a0 a1 a2 a3 a4
  have mb_m := hh_mb_m.out
  have mb_a := hh_mb_a.out
  have I_m := hh_I_m.out
  have S0 := hh_S0.out
  have S1 := hh_S1.out
  have I_a := hh_I_a.out
  have S2 := hh_S2.out
  have S3 := hh_S3.out
  have hB := hh_hB.out
  clear hh_mb_m hh_mb_a hh_I_m hh_S0 hh_S1 hh_I_a hh_S2 hh_S3 hh_hB
  refine (past_is I_a o HG.out.2.2.2.2.1 HG.out.2.2.2.2.2).mono ?_
  rintro e w6 ⟨⟨l4, rfl, S4⟩, bb⟩
  replace mb_m := cells_below mb_m bb (Array.getElem?_eq_some_iff.1 mb_m).1
  replace mb_a := cells_below mb_a bb (Array.getElem?_eq_some_iff.1 mb_a).1
  replace hB := Below.on hB bb
  replace I_m := I_m.below bb
  replace S0 := S0.below bb
  replace S1 := S1.below bb
  replace I_a := I_a.below bb
  replace S2 := S2.below bb
  replace S3 := S3.below bb
  clear bb
  have hh_mb_m := Hid_mkN mb_m
  have hh_mb_a := Hid_mkN mb_a
  have hh_I_m := Hid_mkN I_m
  have hh_S0 := Hid_mkN S0
  have hh_S1 := Hid_mkN S1
  have hh_I_a := Hid_mkN I_a
  have hh_S2 := Hid_mkN S2
  have hh_S3 := Hid_mkN S3
  have hh_S4 := Hid_mkN S4
  have hh_hB := Hid_mkN hB
  clear mb_m mb_a I_m S0 S1 I_a S2 S3 S4 hB
  go_wp2_with fail
  have mb_m := hh_mb_m.out
  have mb_a := hh_mb_a.out
  have I_m := hh_I_m.out
  have S0 := hh_S0.out
  have S1 := hh_S1.out
  have I_a := hh_I_a.out
  have S2 := hh_S2.out
  have S3 := hh_S3.out
  have S4 := hh_S4.out
  have hB := hh_hB.out
  clear hh_mb_m hh_mb_a hh_I_m hh_S0 hh_S1 hh_I_a hh_S2 hh_S3 hh_S4 hh_hB
  refine (samePages_any S2 S0).mono ?_
  rintro e w7 ⟨rfl, bb⟩
  replace mb_m := cells_below mb_m bb (Array.getElem?_eq_some_iff.1 mb_m).1
  replace mb_a := cells_below mb_a bb (Array.getElem?_eq_some_iff.1 mb_a).1
  replace hB := Below.on hB bb
  replace I_m := I_m.below bb
  replace S0 := S0.below bb
  replace S1 := S1.below bb
  replace I_a := I_a.below bb
  replace S2 := S2.below bb
  replace S3 := S3.below bb
  replace S4 := S4.below bb
  clear bb
  clear S2
  have hh_mb_m := Hid_mkN mb_m
  have hh_mb_a := Hid_mkN mb_a
  have hh_I_m := Hid_mkN I_m
  have hh_S0 := Hid_mkN S0
  have hh_S1 := Hid_mkN S1
  have hh_I_a := Hid_mkN I_a
  have hh_S3 := Hid_mkN S3
  have hh_S4 := Hid_mkN S4
  have hh_hB := Hid_mkN hB
  clear mb_m mb_a I_m S0 S1 I_a S3 S4 hB
  go_wp2_with fail
  have mb_m := hh_mb_m.out
  have mb_a := hh_mb_a.out
  have I_m := hh_I_m.out
  have S0 := hh_S0.out
  have S1 := hh_S1.out
  have I_a := hh_I_a.out
  have S3 := hh_S3.out
  have S4 := hh_S4.out
  have hB := hh_hB.out
  clear hh_mb_m hh_mb_a hh_I_m hh_S0 hh_S1 hh_I_a hh_S3 hh_S4 hh_hB
  refine (samePages_any S3 S0).mono ?_
  rintro e w8 ⟨rfl, bb⟩
  replace mb_m := cells_below mb_m bb (Array.getElem?_eq_some_iff.1 mb_m).1
  replace mb_a := cells_below mb_a bb (Array.getElem?_eq_some_iff.1 mb_a).1
  replace hB := Below.on hB bb
  replace I_m := I_m.below bb
  replace S0 := S0.below bb
  replace S1 := S1.below bb
  replace I_a := I_a.below bb
  replace S3 := S3.below bb
  replace S4 := S4.below bb
  clear bb
  clear S3
  have hh_mb_m := Hid_mkN mb_m
  have hh_mb_a := Hid_mkN mb_a
  have hh_I_m := Hid_mkN I_m
  have hh_S0 := Hid_mkN S0
  have hh_S1 := Hid_mkN S1
  have hh_I_a := Hid_mkN I_a
  have hh_S4 := Hid_mkN S4
  have hh_hB := Hid_mkN hB
  clear mb_m mb_a I_m S0 S1 I_a S4 hB
  go_wp2_with fail
  have mb_m := hh_mb_m.out
  have mb_a := hh_mb_a.out
  have I_m := hh_I_m.out
  have S0 := hh_S0.out
  have S1 := hh_S1.out
  have I_a := hh_I_a.out
  have S4 := hh_S4.out
  have hB := hh_hB.out
  clear hh_mb_m hh_mb_a hh_I_m hh_S0 hh_S1 hh_I_a hh_S4 hh_hB
  refine (samePages_any S4 S1).mono ?_
  rintro e w9 ⟨rfl, bb⟩
  replace mb_m := cells_below mb_m bb (Array.getElem?_eq_some_iff.1 mb_m).1
  replace mb_a := cells_below mb_a bb (Array.getElem?_eq_some_iff.1 mb_a).1
  replace hB := Below.on hB bb
  replace I_m := I_m.below bb
  replace S0 := S0.below bb
  replace S1 := S1.below bb
  replace I_a := I_a.below bb
  replace S4 := S4.below bb
  clear bb
  clear S4
  clear mb_a
  clear I_a
  obtain ⟨m0, m1, m2, m3, m4⟩ := five mb_m
  have hh_mb_m := Hid_mkN mb_m
  have hh_I_m := Hid_mkN I_m
  have hh_S0 := Hid_mkN S0
  have hh_S1 := Hid_mkN S1
  have hh_hB := Hid_mkN hB
  clear mb_m I_m S0 S1 hB
  go_wp2_with fail
  clear m0 m1 m2 m3 m4
  have mb_m := hh_mb_m.out
  have I_m := hh_I_m.out
  have S0 := hh_S0.out
  have S1 := hh_S1.out
  have hB := hh_hB.out
  clear hh_mb_m hh_I_m hh_S0 hh_S1 hh_hB
  refine (revert_is I_m o HB.out.1 HB.out.2).mono ?_
  intro e w10 hA
  obtain ⟨val, b_r, b_rc, b_s, b_sc, b_f, b_fc, b_n, b_nc, rfl, hO, bb, hI⟩ := hA.open
  dsimp only
  have I_b := hO.img
  rw [hI] at I_b
  clear hA hO hI
  replace mb_m := cells_below mb_m bb (Array.getElem?_eq_some_iff.1 mb_m).1
  replace hB := Below.on hB bb
  replace I_m := I_m.below bb
  replace S0 := S0.below bb
  replace S1 := S1.below bb
  clear bb
  replace mb_m := cells_alloc mb_m (.cells #[.int .i64 MB.guest, .slice b_r MB.root.length b_rc, .slice b_s MB.slots.length b_sc, .slice b_f MB.refs.length b_fc, .slice b_n MB.snaps.length b_nc] 26)
  have ba : Below w10.heap.size w10 (w10.alloc (.cells #[.int .i64 MB.guest, .slice b_r MB.root.length b_rc, .slice b_s MB.slots.length b_sc, .slice b_f MB.refs.length b_fc, .slice b_n MB.snaps.length b_nc] 26)) := (Below.refl _ _).alloc (Nat.le_refl _) _
  replace hB := Below.on hB ba
  replace I_m := I_m.below ba
  replace S0 := S0.below ba
  replace S1 := S1.below ba
  replace I_b := I_b.below ba
  clear ba
  have mb_b : (w10.alloc (.cells #[.int .i64 MB.guest, .slice b_r MB.root.length b_rc, .slice b_s MB.slots.length b_sc, .slice b_f MB.refs.length b_fc, .slice b_n MB.snaps.length b_nc] 26)).heap[w10.heap.size]? = some (.cells #[.int .i64 MB.guest, .slice b_r MB.root.length b_rc, .slice b_s MB.slots.length b_sc, .slice b_f MB.refs.length b_fc, .slice b_n MB.snaps.length b_nc] 26) := World.alloc_heap_new _ _
  obtain ⟨b0, b1, b2, b3, b4⟩ := five mb_b
  have hh_mb_m := Hid_mkN mb_m
  have hh_mb_b := Hid_mkN mb_b
  have hh_I_m := Hid_mkN I_m
  have hh_S0 := Hid_mkN S0
  have hh_S1 := Hid_mkN S1
  have hh_I_b := Hid_mkN I_b
  have hh_hB := Hid_mkN hB
  clear mb_m mb_b I_m S0 S1 I_b hB
  go_wp2_with fail
  clear b0 b1 b2 b3 b4
  have mb_m := hh_mb_m.out
  have mb_b := hh_mb_b.out
  have I_m := hh_I_m.out
  have S0 := hh_S0.out
  have S1 := hh_S1.out
  have I_b := hh_I_b.out
  have hB := hh_hB.out
  clear hh_mb_m hh_mb_b hh_I_m hh_S0 hh_S1 hh_I_b hh_hB
  refine (all_is I_b HK.out.1 HK.out.2.1).mono ?_
  rintro e w11 ⟨⟨l5, rfl, S5⟩, bb⟩
  replace mb_m := cells_below mb_m bb (Array.getElem?_eq_some_iff.1 mb_m).1
  replace mb_b := cells_below mb_b bb (Array.getElem?_eq_some_iff.1 mb_b).1
  replace hB := Below.on hB bb
  replace I_m := I_m.below bb
  replace S0 := S0.below bb
  replace S1 := S1.below bb
  replace I_b := I_b.below bb
  clear bb
  obtain ⟨b0, b1, b2, b3, b4⟩ := five mb_b
  have hh_mb_m := Hid_mkN mb_m
  have hh_mb_b := Hid_mkN mb_b
  have hh_I_m := Hid_mkN I_m
  have hh_S0 := Hid_mkN S0
  have hh_S1 := Hid_mkN S1
  have hh_I_b := Hid_mkN I_b
  have hh_S5 := Hid_mkN S5
  have hh_hB := Hid_mkN hB
  clear mb_m mb_b I_m S0 S1 I_b S5 hB
  go_wp2_with fail
  clear b0 b1 b2 b3 b4
  have mb_m := hh_mb_m.out
  have mb_b := hh_mb_b.out
  have I_m := hh_I_m.out
  have S0 := hh_S0.out
  have S1 := hh_S1.out
  have I_b := hh_I_b.out
  have S5 := hh_S5.out
  have hB := hh_hB.out
  clear hh_mb_m hh_mb_b hh_I_m hh_S0 hh_S1 hh_I_b hh_S5 hh_hB
  refine (past_is I_b o HK.out.2.2.1 HK.out.2.2.2).mono ?_
  rintro e w12 ⟨⟨l6, rfl, S6⟩, bb⟩
  replace mb_m := cells_below mb_m bb (Array.getElem?_eq_some_iff.1 mb_m).1
  replace mb_b := cells_below mb_b bb (Array.getElem?_eq_some_iff.1 mb_b).1
  replace hB := Below.on hB bb
  replace I_m := I_m.below bb
  replace S0 := S0.below bb
  replace S1 := S1.below bb
  replace I_b := I_b.below bb
  replace S5 := S5.below bb
  clear bb
  have hh_mb_m := Hid_mkN mb_m
  have hh_mb_b := Hid_mkN mb_b
  have hh_I_m := Hid_mkN I_m
  have hh_S0 := Hid_mkN S0
  have hh_S1 := Hid_mkN S1
  have hh_I_b := Hid_mkN I_b
  have hh_S5 := Hid_mkN S5
  have hh_S6 := Hid_mkN S6
  have hh_hB := Hid_mkN hB
  clear mb_m mb_b I_m S0 S1 I_b S5 S6 hB
  go_wp2_with fail
  have mb_m := hh_mb_m.out
  have mb_b := hh_mb_b.out
  have I_m := hh_I_m.out
  have S0 := hh_S0.out
  have S1 := hh_S1.out
  have I_b := hh_I_b.out
  have S5 := hh_S5.out
  have S6 := hh_S6.out
  have hB := hh_hB.out
  clear hh_mb_m hh_mb_b hh_I_m hh_S0 hh_S1 hh_I_b hh_S5 hh_S6 hh_hB
  refine (samePages_any S5 S1).mono ?_
  rintro e w13 ⟨rfl, bb⟩
  replace mb_m := cells_below mb_m bb (Array.getElem?_eq_some_iff.1 mb_m).1
  replace mb_b := cells_below mb_b bb (Array.getElem?_eq_some_iff.1 mb_b).1
  replace hB := Below.on hB bb
  replace I_m := I_m.below bb
  replace S0 := S0.below bb
  replace S1 := S1.below bb
  replace I_b := I_b.below bb
  replace S5 := S5.below bb
  replace S6 := S6.below bb
  clear bb
  clear S5
  have hh_mb_m := Hid_mkN mb_m
  have hh_mb_b := Hid_mkN mb_b
  have hh_I_m := Hid_mkN I_m
  have hh_S0 := Hid_mkN S0
  have hh_S1 := Hid_mkN S1
  have hh_I_b := Hid_mkN I_b
  have hh_S6 := Hid_mkN S6
  have hh_hB := Hid_mkN hB
  clear mb_m mb_b I_m S0 S1 I_b S6 hB
  go_wp2_with fail
  have mb_m := hh_mb_m.out
  have mb_b := hh_mb_b.out
  have I_m := hh_I_m.out
  have S0 := hh_S0.out
  have S1 := hh_S1.out
  have I_b := hh_I_b.out
  have S6 := hh_S6.out
  have hB := hh_hB.out
  clear hh_mb_m hh_mb_b hh_I_m hh_S0 hh_S1 hh_I_b hh_S6 hh_hB
  refine (samePages_any S6 S1).mono ?_
  rintro e w14 ⟨rfl, bb⟩
  replace mb_m := cells_below mb_m bb (Array.getElem?_eq_some_iff.1 mb_m).1
  replace mb_b := cells_below mb_b bb (Array.getElem?_eq_some_iff.1 mb_b).1
  replace hB := Below.on hB bb
  replace I_m := I_m.below bb
  replace S0 := S0.below bb
  replace S1 := S1.below bb
  replace I_b := I_b.below bb
  replace S6 := S6.below bb
  clear bb
  clear S6
  clear mb_b
  clear I_b
  obtain ⟨m0, m1, m2, m3, m4⟩ := five mb_m
  have hh_mb_m := Hid_mkN mb_m
  have hh_I_m := Hid_mkN I_m
  have hh_S0 := Hid_mkN S0
  have hh_S1 := Hid_mkN S1
  have hh_hB := Hid_mkN hB
  clear mb_m I_m S0 S1 hB
  go_wp2_with fail
  clear m0 m1 m2 m3 m4
  have mb_m := hh_mb_m.out
  have I_m := hh_I_m.out
  have S0 := hh_S0.out
  have S1 := hh_S1.out
  have hB := hh_hB.out
  clear hh_mb_m hh_I_m hh_S0 hh_S1 hh_hB
  refine (delete_img I_m nm HC.out.1 HC.out.2).mono ?_
  intro e w15 hA
  obtain ⟨val, c_r, c_rc, c_s, c_sc, c_f, c_fc, c_n, c_nc, rfl, hO, bb, hI⟩ := hA.open
  dsimp only
  have I_c := hO.img
  rw [hI] at I_c
  clear hA hO hI
  replace mb_m := cells_below mb_m bb (Array.getElem?_eq_some_iff.1 mb_m).1
  replace hB := Below.on hB bb
  replace I_m := I_m.below bb
  replace S0 := S0.below bb
  replace S1 := S1.below bb
  clear bb
  replace mb_m := cells_alloc mb_m (.cells #[.int .i64 MC.guest, .slice c_r MC.root.length c_rc, .slice c_s MC.slots.length c_sc, .slice c_f MC.refs.length c_fc, .slice c_n MC.snaps.length c_nc] 26)
  have ba : Below w15.heap.size w15 (w15.alloc (.cells #[.int .i64 MC.guest, .slice c_r MC.root.length c_rc, .slice c_s MC.slots.length c_sc, .slice c_f MC.refs.length c_fc, .slice c_n MC.snaps.length c_nc] 26)) := (Below.refl _ _).alloc (Nat.le_refl _) _
  replace hB := Below.on hB ba
  replace I_m := I_m.below ba
  replace S0 := S0.below ba
  replace S1 := S1.below ba
  replace I_c := I_c.below ba
  clear ba
  have mb_c : (w15.alloc (.cells #[.int .i64 MC.guest, .slice c_r MC.root.length c_rc, .slice c_s MC.slots.length c_sc, .slice c_f MC.refs.length c_fc, .slice c_n MC.snaps.length c_nc] 26)).heap[w15.heap.size]? = some (.cells #[.int .i64 MC.guest, .slice c_r MC.root.length c_rc, .slice c_s MC.slots.length c_sc, .slice c_f MC.refs.length c_fc, .slice c_n MC.snaps.length c_nc] 26) := World.alloc_heap_new _ _
  clear mb_m
  clear I_m
  clear mb_c
  clear I_c
  clear S0
  clear S1
  have hh_hB := Hid_mkN hB
  clear hB
  go_wp2_with fail
  have hB := hh_hB.out
  clear hh_hB
  refine (snapsBegun_any _).mono ?_
  rintro e w16 ⟨rfl, bb⟩
  replace hB := Below.on hB bb
  clear bb
  have hh_hB := Hid_mkN hB
  clear hB
  go_wp2_with fail
  go_ret
  have hB := hh_hB.out
  exact ⟨rfl, hB⟩

set_option maxHeartbeats 16000000 in
theorem ntrue_000n (ra : Option Addr) (rc : Nat) (sa : Option Addr) (sc : Nat) (fa : Option Addr) (fc : Nat) (na : Option Addr) (nc : Nat) (m : ImgD) (nm o : ByteArray) (w : World) (h : Img w (.agg #[.int .i64 m.guest, .slice ra m.root.length rc, .slice sa m.slots.length sc, .slice fa m.refs.length fc, .slice na m.snaps.length nc]) m) (MA MB MC : ImgD) (EF EG EL : Int) (L0 L1 : List ByteArray) (HM : Hid (checkE m = 0 ∧ allV m = L0 ∧ pastE m o = EF ∧ pastV m o = L1)) (HA : Hid (crM m nm = MA ∧ crE m nm = EG)) (HB : Hid (rvM m o = MB ∧ pastE m o = EF)) (HC : Hid (dlM m nm = MC ∧ pastE m nm = EL)) (nEF : (EF != 0) = true) (qEF : (EF == 0) = false) (nEG : (EG != 0) = true) (qEG : (EG == 0) = false) (nEL : (EL != 0) = true) (qEL : (EL == 0) = false) :
    Calls Try.prog 4 #[.agg #[.int .i64 m.guest, .slice ra m.root.length rc, .slice sa m.slots.length sc, .slice fa m.refs.length fc, .slice na m.snaps.length nc], .string nm, .string o] w fun r w' => r = .returned (.bool true) ∧ Below w.heap.size w w' := by
  have hB : Below w.heap.size w (w.alloc (.cells #[.int .i64 m.guest, .slice ra m.root.length rc, .slice sa m.slots.length sc, .slice fa m.refs.length fc, .slice na m.snaps.length nc] 26)) := (Below.refl _ _).alloc (Nat.le_refl _) _
  have mb_m : (w.alloc (.cells #[.int .i64 m.guest, .slice ra m.root.length rc, .slice sa m.slots.length sc, .slice fa m.refs.length fc, .slice na m.snaps.length nc] 26)).heap[w.heap.size]? = some (.cells #[.int .i64 m.guest, .slice ra m.root.length rc, .slice sa m.slots.length sc, .slice fa m.refs.length fc, .slice na m.snaps.length nc] 26) := World.alloc_heap_new _ _
  have I_m := h.below hB
  clear h
  go_enter Try.func4, Try.ntmps4
  obtain ⟨m0, m1, m2, m3, m4⟩ := five mb_m
  have hh_mb_m := Hid_mkN mb_m
  have hh_I_m := Hid_mkN I_m
  have hh_hB := Hid_mkN hB
  clear mb_m I_m hB
  go_wp2_with fail
  clear m0 m1 m2 m3 m4
  have mb_m := hh_mb_m.out
  have I_m := hh_I_m.out
  have hB := hh_hB.out
  clear hh_mb_m hh_I_m hh_hB
  refine (all_is I_m HM.out.1 HM.out.2.1).mono ?_
  rintro e w1 ⟨⟨l0, rfl, S0⟩, bb⟩
  replace mb_m := cells_below mb_m bb (Array.getElem?_eq_some_iff.1 mb_m).1
  replace hB := Below.on hB bb
  replace I_m := I_m.below bb
  clear bb
  obtain ⟨m0, m1, m2, m3, m4⟩ := five mb_m
  have hh_mb_m := Hid_mkN mb_m
  have hh_I_m := Hid_mkN I_m
  have hh_S0 := Hid_mkN S0
  have hh_hB := Hid_mkN hB
  clear mb_m I_m S0 hB
  go_wp2_with fail
  clear m0 m1 m2 m3 m4
  have mb_m := hh_mb_m.out
  have I_m := hh_I_m.out
  have S0 := hh_S0.out
  have hB := hh_hB.out
  clear hh_mb_m hh_I_m hh_S0 hh_hB
  refine (past_is I_m o HM.out.2.2.1 HM.out.2.2.2).mono ?_
  rintro e w2 ⟨⟨l1, rfl, S1⟩, bb⟩
  replace mb_m := cells_below mb_m bb (Array.getElem?_eq_some_iff.1 mb_m).1
  replace hB := Below.on hB bb
  replace I_m := I_m.below bb
  replace S0 := S0.below bb
  clear bb
  obtain ⟨m0, m1, m2, m3, m4⟩ := five mb_m
  have hh_mb_m := Hid_mkN mb_m
  have hh_I_m := Hid_mkN I_m
  have hh_S0 := Hid_mkN S0
  have hh_S1 := Hid_mkN S1
  have hh_hB := Hid_mkN hB
  clear mb_m I_m S0 S1 hB
  go_wp2_with fail
  clear m0 m1 m2 m3 m4
  have mb_m := hh_mb_m.out
  have I_m := hh_I_m.out
  have S0 := hh_S0.out
  have S1 := hh_S1.out
  have hB := hh_hB.out
  clear hh_mb_m hh_I_m hh_S0 hh_S1 hh_hB
  refine (create_is I_m nm HA.out.1 HA.out.2).mono ?_
  intro e w3 hA
  obtain ⟨val, a_r, a_rc, a_s, a_sc, a_f, a_fc, a_n, a_nc, rfl, hO, bb, hI⟩ := hA.open
  dsimp only
  have I_a := hO.img
  rw [hI] at I_a
  clear hA hO hI
  replace mb_m := cells_below mb_m bb (Array.getElem?_eq_some_iff.1 mb_m).1
  replace hB := Below.on hB bb
  replace I_m := I_m.below bb
  replace S0 := S0.below bb
  replace S1 := S1.below bb
  clear bb
  replace mb_m := cells_alloc mb_m (.cells #[.int .i64 MA.guest, .slice a_r MA.root.length a_rc, .slice a_s MA.slots.length a_sc, .slice a_f MA.refs.length a_fc, .slice a_n MA.snaps.length a_nc] 26)
  have ba : Below w3.heap.size w3 (w3.alloc (.cells #[.int .i64 MA.guest, .slice a_r MA.root.length a_rc, .slice a_s MA.slots.length a_sc, .slice a_f MA.refs.length a_fc, .slice a_n MA.snaps.length a_nc] 26)) := (Below.refl _ _).alloc (Nat.le_refl _) _
  replace hB := Below.on hB ba
  replace I_m := I_m.below ba
  replace S0 := S0.below ba
  replace S1 := S1.below ba
  replace I_a := I_a.below ba
  clear ba
  have mb_a : (w3.alloc (.cells #[.int .i64 MA.guest, .slice a_r MA.root.length a_rc, .slice a_s MA.slots.length a_sc, .slice a_f MA.refs.length a_fc, .slice a_n MA.snaps.length a_nc] 26)).heap[w3.heap.size]? = some (.cells #[.int .i64 MA.guest, .slice a_r MA.root.length a_rc, .slice a_s MA.slots.length a_sc, .slice a_f MA.refs.length a_fc, .slice a_n MA.snaps.length a_nc] 26) := World.alloc_heap_new _ _
  clear mb_a
  clear I_a
  obtain ⟨m0, m1, m2, m3, m4⟩ := five mb_m
  have hh_mb_m := Hid_mkN mb_m
  have hh_I_m := Hid_mkN I_m
  have hh_S0 := Hid_mkN S0
  have hh_S1 := Hid_mkN S1
  have hh_hB := Hid_mkN hB
  clear mb_m I_m S0 S1 hB
  go_wp2_with fail
  clear m0 m1 m2 m3 m4
  have mb_m := hh_mb_m.out
  have I_m := hh_I_m.out
  have S0 := hh_S0.out
  have S1 := hh_S1.out
  have hB := hh_hB.out
  clear hh_mb_m hh_I_m hh_S0 hh_S1 hh_hB
  refine (revert_is I_m o HB.out.1 HB.out.2).mono ?_
  intro e w4 hA
  obtain ⟨val, b_r, b_rc, b_s, b_sc, b_f, b_fc, b_n, b_nc, rfl, hO, bb, hI⟩ := hA.open
  dsimp only
  have I_b := hO.img
  rw [hI] at I_b
  clear hA hO hI
  replace mb_m := cells_below mb_m bb (Array.getElem?_eq_some_iff.1 mb_m).1
  replace hB := Below.on hB bb
  replace I_m := I_m.below bb
  replace S0 := S0.below bb
  replace S1 := S1.below bb
  clear bb
  replace mb_m := cells_alloc mb_m (.cells #[.int .i64 MB.guest, .slice b_r MB.root.length b_rc, .slice b_s MB.slots.length b_sc, .slice b_f MB.refs.length b_fc, .slice b_n MB.snaps.length b_nc] 26)
  have ba : Below w4.heap.size w4 (w4.alloc (.cells #[.int .i64 MB.guest, .slice b_r MB.root.length b_rc, .slice b_s MB.slots.length b_sc, .slice b_f MB.refs.length b_fc, .slice b_n MB.snaps.length b_nc] 26)) := (Below.refl _ _).alloc (Nat.le_refl _) _
  replace hB := Below.on hB ba
  replace I_m := I_m.below ba
  replace S0 := S0.below ba
  replace S1 := S1.below ba
  replace I_b := I_b.below ba
  clear ba
  have mb_b : (w4.alloc (.cells #[.int .i64 MB.guest, .slice b_r MB.root.length b_rc, .slice b_s MB.slots.length b_sc, .slice b_f MB.refs.length b_fc, .slice b_n MB.snaps.length b_nc] 26)).heap[w4.heap.size]? = some (.cells #[.int .i64 MB.guest, .slice b_r MB.root.length b_rc, .slice b_s MB.slots.length b_sc, .slice b_f MB.refs.length b_fc, .slice b_n MB.snaps.length b_nc] 26) := World.alloc_heap_new _ _
  clear mb_b
  clear I_b
  obtain ⟨m0, m1, m2, m3, m4⟩ := five mb_m
  have hh_mb_m := Hid_mkN mb_m
  have hh_I_m := Hid_mkN I_m
  have hh_S0 := Hid_mkN S0
  have hh_S1 := Hid_mkN S1
  have hh_hB := Hid_mkN hB
  clear mb_m I_m S0 S1 hB
  go_wp2_with fail
  clear m0 m1 m2 m3 m4
  have mb_m := hh_mb_m.out
  have I_m := hh_I_m.out
  have S0 := hh_S0.out
  have S1 := hh_S1.out
  have hB := hh_hB.out
  clear hh_mb_m hh_I_m hh_S0 hh_S1 hh_hB
  refine (delete_img I_m nm HC.out.1 HC.out.2).mono ?_
  intro e w5 hA
  obtain ⟨val, c_r, c_rc, c_s, c_sc, c_f, c_fc, c_n, c_nc, rfl, hO, bb, hI⟩ := hA.open
  dsimp only
  have I_c := hO.img
  rw [hI] at I_c
  clear hA hO hI
  replace mb_m := cells_below mb_m bb (Array.getElem?_eq_some_iff.1 mb_m).1
  replace hB := Below.on hB bb
  replace I_m := I_m.below bb
  replace S0 := S0.below bb
  replace S1 := S1.below bb
  clear bb
  replace mb_m := cells_alloc mb_m (.cells #[.int .i64 MC.guest, .slice c_r MC.root.length c_rc, .slice c_s MC.slots.length c_sc, .slice c_f MC.refs.length c_fc, .slice c_n MC.snaps.length c_nc] 26)
  have ba : Below w5.heap.size w5 (w5.alloc (.cells #[.int .i64 MC.guest, .slice c_r MC.root.length c_rc, .slice c_s MC.slots.length c_sc, .slice c_f MC.refs.length c_fc, .slice c_n MC.snaps.length c_nc] 26)) := (Below.refl _ _).alloc (Nat.le_refl _) _
  replace hB := Below.on hB ba
  replace I_m := I_m.below ba
  replace S0 := S0.below ba
  replace S1 := S1.below ba
  replace I_c := I_c.below ba
  clear ba
  have mb_c : (w5.alloc (.cells #[.int .i64 MC.guest, .slice c_r MC.root.length c_rc, .slice c_s MC.slots.length c_sc, .slice c_f MC.refs.length c_fc, .slice c_n MC.snaps.length c_nc] 26)).heap[w5.heap.size]? = some (.cells #[.int .i64 MC.guest, .slice c_r MC.root.length c_rc, .slice c_s MC.slots.length c_sc, .slice c_f MC.refs.length c_fc, .slice c_n MC.snaps.length c_nc] 26) := World.alloc_heap_new _ _
  clear mb_m
  clear I_m
  clear mb_c
  clear I_c
  clear S0
  clear S1
  have hh_hB := Hid_mkN hB
  clear hB
  go_wp2_with fail
  have hB := hh_hB.out
  clear hh_hB
  refine (snapsBegun_any _).mono ?_
  rintro e w6 ⟨rfl, bb⟩
  replace hB := Below.on hB bb
  clear bb
  have hh_hB := Hid_mkN hB
  clear hB
  go_wp2_with fail
  go_ret
  have hB := hh_hB.out
  exact ⟨rfl, hB⟩

set_option maxHeartbeats 16000000 in
theorem ntrue_010n (ra : Option Addr) (rc : Nat) (sa : Option Addr) (sc : Nat) (fa : Option Addr) (fc : Nat) (na : Option Addr) (nc : Nat) (m : ImgD) (nm o : ByteArray) (w : World) (h : Img w (.agg #[.int .i64 m.guest, .slice ra m.root.length rc, .slice sa m.slots.length sc, .slice fa m.refs.length fc, .slice na m.snaps.length nc]) m) (MA MB MC : ImgD) (EG EL : Int) (L0 L1 : List ByteArray) (HM : Hid (checkE m = 0 ∧ allV m = L0 ∧ pastE m o = 0 ∧ pastV m o = L1)) (HA : Hid (crM m nm = MA ∧ crE m nm = EG)) (HB : Hid (rvM m o = MB ∧ pastE m o = 0)) (HC : Hid (dlM m nm = MC ∧ pastE m nm = EL)) (nEG : (EG != 0) = true) (qEG : (EG == 0) = false) (nEL : (EL != 0) = true) (qEL : (EL == 0) = false) (HK : Hid (checkE MB = 0 ∧ allV MB = L1 ∧ pastE MB o = 0 ∧ pastV MB o = L1)) :
    Calls Try.prog 4 #[.agg #[.int .i64 m.guest, .slice ra m.root.length rc, .slice sa m.slots.length sc, .slice fa m.refs.length fc, .slice na m.snaps.length nc], .string nm, .string o] w fun r w' => r = .returned (.bool true) ∧ Below w.heap.size w w' := by
  have hB : Below w.heap.size w (w.alloc (.cells #[.int .i64 m.guest, .slice ra m.root.length rc, .slice sa m.slots.length sc, .slice fa m.refs.length fc, .slice na m.snaps.length nc] 26)) := (Below.refl _ _).alloc (Nat.le_refl _) _
  have mb_m : (w.alloc (.cells #[.int .i64 m.guest, .slice ra m.root.length rc, .slice sa m.slots.length sc, .slice fa m.refs.length fc, .slice na m.snaps.length nc] 26)).heap[w.heap.size]? = some (.cells #[.int .i64 m.guest, .slice ra m.root.length rc, .slice sa m.slots.length sc, .slice fa m.refs.length fc, .slice na m.snaps.length nc] 26) := World.alloc_heap_new _ _
  have I_m := h.below hB
  clear h
  go_enter Try.func4, Try.ntmps4
  obtain ⟨m0, m1, m2, m3, m4⟩ := five mb_m
  have hh_mb_m := Hid_mkN mb_m
  have hh_I_m := Hid_mkN I_m
  have hh_hB := Hid_mkN hB
  clear mb_m I_m hB
  go_wp2_with fail
  clear m0 m1 m2 m3 m4
  have mb_m := hh_mb_m.out
  have I_m := hh_I_m.out
  have hB := hh_hB.out
  clear hh_mb_m hh_I_m hh_hB
  refine (all_is I_m HM.out.1 HM.out.2.1).mono ?_
  rintro e w1 ⟨⟨l0, rfl, S0⟩, bb⟩
  replace mb_m := cells_below mb_m bb (Array.getElem?_eq_some_iff.1 mb_m).1
  replace hB := Below.on hB bb
  replace I_m := I_m.below bb
  clear bb
  obtain ⟨m0, m1, m2, m3, m4⟩ := five mb_m
  have hh_mb_m := Hid_mkN mb_m
  have hh_I_m := Hid_mkN I_m
  have hh_S0 := Hid_mkN S0
  have hh_hB := Hid_mkN hB
  clear mb_m I_m S0 hB
  go_wp2_with fail
  clear m0 m1 m2 m3 m4
  have mb_m := hh_mb_m.out
  have I_m := hh_I_m.out
  have S0 := hh_S0.out
  have hB := hh_hB.out
  clear hh_mb_m hh_I_m hh_S0 hh_hB
  refine (past_is I_m o HM.out.2.2.1 HM.out.2.2.2).mono ?_
  rintro e w2 ⟨⟨l1, rfl, S1⟩, bb⟩
  replace mb_m := cells_below mb_m bb (Array.getElem?_eq_some_iff.1 mb_m).1
  replace hB := Below.on hB bb
  replace I_m := I_m.below bb
  replace S0 := S0.below bb
  clear bb
  obtain ⟨m0, m1, m2, m3, m4⟩ := five mb_m
  have hh_mb_m := Hid_mkN mb_m
  have hh_I_m := Hid_mkN I_m
  have hh_S0 := Hid_mkN S0
  have hh_S1 := Hid_mkN S1
  have hh_hB := Hid_mkN hB
  clear mb_m I_m S0 S1 hB
  go_wp2_with fail
  clear m0 m1 m2 m3 m4
  have mb_m := hh_mb_m.out
  have I_m := hh_I_m.out
  have S0 := hh_S0.out
  have S1 := hh_S1.out
  have hB := hh_hB.out
  clear hh_mb_m hh_I_m hh_S0 hh_S1 hh_hB
  refine (create_is I_m nm HA.out.1 HA.out.2).mono ?_
  intro e w3 hA
  obtain ⟨val, a_r, a_rc, a_s, a_sc, a_f, a_fc, a_n, a_nc, rfl, hO, bb, hI⟩ := hA.open
  dsimp only
  have I_a := hO.img
  rw [hI] at I_a
  clear hA hO hI
  replace mb_m := cells_below mb_m bb (Array.getElem?_eq_some_iff.1 mb_m).1
  replace hB := Below.on hB bb
  replace I_m := I_m.below bb
  replace S0 := S0.below bb
  replace S1 := S1.below bb
  clear bb
  replace mb_m := cells_alloc mb_m (.cells #[.int .i64 MA.guest, .slice a_r MA.root.length a_rc, .slice a_s MA.slots.length a_sc, .slice a_f MA.refs.length a_fc, .slice a_n MA.snaps.length a_nc] 26)
  have ba : Below w3.heap.size w3 (w3.alloc (.cells #[.int .i64 MA.guest, .slice a_r MA.root.length a_rc, .slice a_s MA.slots.length a_sc, .slice a_f MA.refs.length a_fc, .slice a_n MA.snaps.length a_nc] 26)) := (Below.refl _ _).alloc (Nat.le_refl _) _
  replace hB := Below.on hB ba
  replace I_m := I_m.below ba
  replace S0 := S0.below ba
  replace S1 := S1.below ba
  replace I_a := I_a.below ba
  clear ba
  have mb_a : (w3.alloc (.cells #[.int .i64 MA.guest, .slice a_r MA.root.length a_rc, .slice a_s MA.slots.length a_sc, .slice a_f MA.refs.length a_fc, .slice a_n MA.snaps.length a_nc] 26)).heap[w3.heap.size]? = some (.cells #[.int .i64 MA.guest, .slice a_r MA.root.length a_rc, .slice a_s MA.slots.length a_sc, .slice a_f MA.refs.length a_fc, .slice a_n MA.snaps.length a_nc] 26) := World.alloc_heap_new _ _
  clear mb_a
  clear I_a
  obtain ⟨m0, m1, m2, m3, m4⟩ := five mb_m
  have hh_mb_m := Hid_mkN mb_m
  have hh_I_m := Hid_mkN I_m
  have hh_S0 := Hid_mkN S0
  have hh_S1 := Hid_mkN S1
  have hh_hB := Hid_mkN hB
  clear mb_m I_m S0 S1 hB
  go_wp2_with fail
  clear m0 m1 m2 m3 m4
  have mb_m := hh_mb_m.out
  have I_m := hh_I_m.out
  have S0 := hh_S0.out
  have S1 := hh_S1.out
  have hB := hh_hB.out
  clear hh_mb_m hh_I_m hh_S0 hh_S1 hh_hB
  refine (revert_is I_m o HB.out.1 HB.out.2).mono ?_
  intro e w4 hA
  obtain ⟨val, b_r, b_rc, b_s, b_sc, b_f, b_fc, b_n, b_nc, rfl, hO, bb, hI⟩ := hA.open
  dsimp only
  have I_b := hO.img
  rw [hI] at I_b
  clear hA hO hI
  replace mb_m := cells_below mb_m bb (Array.getElem?_eq_some_iff.1 mb_m).1
  replace hB := Below.on hB bb
  replace I_m := I_m.below bb
  replace S0 := S0.below bb
  replace S1 := S1.below bb
  clear bb
  replace mb_m := cells_alloc mb_m (.cells #[.int .i64 MB.guest, .slice b_r MB.root.length b_rc, .slice b_s MB.slots.length b_sc, .slice b_f MB.refs.length b_fc, .slice b_n MB.snaps.length b_nc] 26)
  have ba : Below w4.heap.size w4 (w4.alloc (.cells #[.int .i64 MB.guest, .slice b_r MB.root.length b_rc, .slice b_s MB.slots.length b_sc, .slice b_f MB.refs.length b_fc, .slice b_n MB.snaps.length b_nc] 26)) := (Below.refl _ _).alloc (Nat.le_refl _) _
  replace hB := Below.on hB ba
  replace I_m := I_m.below ba
  replace S0 := S0.below ba
  replace S1 := S1.below ba
  replace I_b := I_b.below ba
  clear ba
  have mb_b : (w4.alloc (.cells #[.int .i64 MB.guest, .slice b_r MB.root.length b_rc, .slice b_s MB.slots.length b_sc, .slice b_f MB.refs.length b_fc, .slice b_n MB.snaps.length b_nc] 26)).heap[w4.heap.size]? = some (.cells #[.int .i64 MB.guest, .slice b_r MB.root.length b_rc, .slice b_s MB.slots.length b_sc, .slice b_f MB.refs.length b_fc, .slice b_n MB.snaps.length b_nc] 26) := World.alloc_heap_new _ _
  obtain ⟨b0, b1, b2, b3, b4⟩ := five mb_b
  have hh_mb_m := Hid_mkN mb_m
  have hh_mb_b := Hid_mkN mb_b
  have hh_I_m := Hid_mkN I_m
  have hh_S0 := Hid_mkN S0
  have hh_S1 := Hid_mkN S1
  have hh_I_b := Hid_mkN I_b
  have hh_hB := Hid_mkN hB
  clear mb_m mb_b I_m S0 S1 I_b hB
  go_wp2_with fail
  clear b0 b1 b2 b3 b4
  have mb_m := hh_mb_m.out
  have mb_b := hh_mb_b.out
  have I_m := hh_I_m.out
  have S0 := hh_S0.out
  have S1 := hh_S1.out
  have I_b := hh_I_b.out
  have hB := hh_hB.out
  clear hh_mb_m hh_mb_b hh_I_m hh_S0 hh_S1 hh_I_b hh_hB
  refine (all_is I_b HK.out.1 HK.out.2.1).mono ?_
  rintro e w5 ⟨⟨l5, rfl, S5⟩, bb⟩
  replace mb_m := cells_below mb_m bb (Array.getElem?_eq_some_iff.1 mb_m).1
  replace mb_b := cells_below mb_b bb (Array.getElem?_eq_some_iff.1 mb_b).1
  replace hB := Below.on hB bb
  replace I_m := I_m.below bb
  replace S0 := S0.below bb
  replace S1 := S1.below bb
  replace I_b := I_b.below bb
  clear bb
  obtain ⟨b0, b1, b2, b3, b4⟩ := five mb_b
  have hh_mb_m := Hid_mkN mb_m
  have hh_mb_b := Hid_mkN mb_b
  have hh_I_m := Hid_mkN I_m
  have hh_S0 := Hid_mkN S0
  have hh_S1 := Hid_mkN S1
  have hh_I_b := Hid_mkN I_b
  have hh_S5 := Hid_mkN S5
  have hh_hB := Hid_mkN hB
  clear mb_m mb_b I_m S0 S1 I_b S5 hB
  go_wp2_with fail
  clear b0 b1 b2 b3 b4
  have mb_m := hh_mb_m.out
  have mb_b := hh_mb_b.out
  have I_m := hh_I_m.out
  have S0 := hh_S0.out
  have S1 := hh_S1.out
  have I_b := hh_I_b.out
  have S5 := hh_S5.out
  have hB := hh_hB.out
  clear hh_mb_m hh_mb_b hh_I_m hh_S0 hh_S1 hh_I_b hh_S5 hh_hB
  refine (past_is I_b o HK.out.2.2.1 HK.out.2.2.2).mono ?_
  rintro e w6 ⟨⟨l6, rfl, S6⟩, bb⟩
  replace mb_m := cells_below mb_m bb (Array.getElem?_eq_some_iff.1 mb_m).1
  replace mb_b := cells_below mb_b bb (Array.getElem?_eq_some_iff.1 mb_b).1
  replace hB := Below.on hB bb
  replace I_m := I_m.below bb
  replace S0 := S0.below bb
  replace S1 := S1.below bb
  replace I_b := I_b.below bb
  replace S5 := S5.below bb
  clear bb
  have hh_mb_m := Hid_mkN mb_m
  have hh_mb_b := Hid_mkN mb_b
  have hh_I_m := Hid_mkN I_m
  have hh_S0 := Hid_mkN S0
  have hh_S1 := Hid_mkN S1
  have hh_I_b := Hid_mkN I_b
  have hh_S5 := Hid_mkN S5
  have hh_S6 := Hid_mkN S6
  have hh_hB := Hid_mkN hB
  clear mb_m mb_b I_m S0 S1 I_b S5 S6 hB
  go_wp2_with fail
  have mb_m := hh_mb_m.out
  have mb_b := hh_mb_b.out
  have I_m := hh_I_m.out
  have S0 := hh_S0.out
  have S1 := hh_S1.out
  have I_b := hh_I_b.out
  have S5 := hh_S5.out
  have S6 := hh_S6.out
  have hB := hh_hB.out
  clear hh_mb_m hh_mb_b hh_I_m hh_S0 hh_S1 hh_I_b hh_S5 hh_S6 hh_hB
  refine (samePages_any S5 S1).mono ?_
  rintro e w7 ⟨rfl, bb⟩
  replace mb_m := cells_below mb_m bb (Array.getElem?_eq_some_iff.1 mb_m).1
  replace mb_b := cells_below mb_b bb (Array.getElem?_eq_some_iff.1 mb_b).1
  replace hB := Below.on hB bb
  replace I_m := I_m.below bb
  replace S0 := S0.below bb
  replace S1 := S1.below bb
  replace I_b := I_b.below bb
  replace S5 := S5.below bb
  replace S6 := S6.below bb
  clear bb
  clear S5
  have hh_mb_m := Hid_mkN mb_m
  have hh_mb_b := Hid_mkN mb_b
  have hh_I_m := Hid_mkN I_m
  have hh_S0 := Hid_mkN S0
  have hh_S1 := Hid_mkN S1
  have hh_I_b := Hid_mkN I_b
  have hh_S6 := Hid_mkN S6
  have hh_hB := Hid_mkN hB
  clear mb_m mb_b I_m S0 S1 I_b S6 hB
  go_wp2_with fail
  have mb_m := hh_mb_m.out
  have mb_b := hh_mb_b.out
  have I_m := hh_I_m.out
  have S0 := hh_S0.out
  have S1 := hh_S1.out
  have I_b := hh_I_b.out
  have S6 := hh_S6.out
  have hB := hh_hB.out
  clear hh_mb_m hh_mb_b hh_I_m hh_S0 hh_S1 hh_I_b hh_S6 hh_hB
  refine (samePages_any S6 S1).mono ?_
  rintro e w8 ⟨rfl, bb⟩
  replace mb_m := cells_below mb_m bb (Array.getElem?_eq_some_iff.1 mb_m).1
  replace mb_b := cells_below mb_b bb (Array.getElem?_eq_some_iff.1 mb_b).1
  replace hB := Below.on hB bb
  replace I_m := I_m.below bb
  replace S0 := S0.below bb
  replace S1 := S1.below bb
  replace I_b := I_b.below bb
  replace S6 := S6.below bb
  clear bb
  clear S6
  clear mb_b
  clear I_b
  obtain ⟨m0, m1, m2, m3, m4⟩ := five mb_m
  have hh_mb_m := Hid_mkN mb_m
  have hh_I_m := Hid_mkN I_m
  have hh_S0 := Hid_mkN S0
  have hh_S1 := Hid_mkN S1
  have hh_hB := Hid_mkN hB
  clear mb_m I_m S0 S1 hB
  go_wp2_with fail
  clear m0 m1 m2 m3 m4
  have mb_m := hh_mb_m.out
  have I_m := hh_I_m.out
  have S0 := hh_S0.out
  have S1 := hh_S1.out
  have hB := hh_hB.out
  clear hh_mb_m hh_I_m hh_S0 hh_S1 hh_hB
  refine (delete_img I_m nm HC.out.1 HC.out.2).mono ?_
  intro e w9 hA
  obtain ⟨val, c_r, c_rc, c_s, c_sc, c_f, c_fc, c_n, c_nc, rfl, hO, bb, hI⟩ := hA.open
  dsimp only
  have I_c := hO.img
  rw [hI] at I_c
  clear hA hO hI
  replace mb_m := cells_below mb_m bb (Array.getElem?_eq_some_iff.1 mb_m).1
  replace hB := Below.on hB bb
  replace I_m := I_m.below bb
  replace S0 := S0.below bb
  replace S1 := S1.below bb
  clear bb
  replace mb_m := cells_alloc mb_m (.cells #[.int .i64 MC.guest, .slice c_r MC.root.length c_rc, .slice c_s MC.slots.length c_sc, .slice c_f MC.refs.length c_fc, .slice c_n MC.snaps.length c_nc] 26)
  have ba : Below w9.heap.size w9 (w9.alloc (.cells #[.int .i64 MC.guest, .slice c_r MC.root.length c_rc, .slice c_s MC.slots.length c_sc, .slice c_f MC.refs.length c_fc, .slice c_n MC.snaps.length c_nc] 26)) := (Below.refl _ _).alloc (Nat.le_refl _) _
  replace hB := Below.on hB ba
  replace I_m := I_m.below ba
  replace S0 := S0.below ba
  replace S1 := S1.below ba
  replace I_c := I_c.below ba
  clear ba
  have mb_c : (w9.alloc (.cells #[.int .i64 MC.guest, .slice c_r MC.root.length c_rc, .slice c_s MC.slots.length c_sc, .slice c_f MC.refs.length c_fc, .slice c_n MC.snaps.length c_nc] 26)).heap[w9.heap.size]? = some (.cells #[.int .i64 MC.guest, .slice c_r MC.root.length c_rc, .slice c_s MC.slots.length c_sc, .slice c_f MC.refs.length c_fc, .slice c_n MC.snaps.length c_nc] 26) := World.alloc_heap_new _ _
  clear mb_m
  clear I_m
  clear mb_c
  clear I_c
  clear S0
  clear S1
  have hh_hB := Hid_mkN hB
  clear hB
  go_wp2_with fail
  have hB := hh_hB.out
  clear hh_hB
  refine (snapsBegun_any _).mono ?_
  rintro e w10 ⟨rfl, bb⟩
  replace hB := Below.on hB bb
  clear bb
  have hh_hB := Hid_mkN hB
  clear hB
  go_wp2_with fail
  go_ret
  have hB := hh_hB.out
  exact ⟨rfl, hB⟩

set_option maxHeartbeats 16000000 in
theorem ntrue_001n (ra : Option Addr) (rc : Nat) (sa : Option Addr) (sc : Nat) (fa : Option Addr) (fc : Nat) (na : Option Addr) (nc : Nat) (m : ImgD) (nm o : ByteArray) (w : World) (h : Img w (.agg #[.int .i64 m.guest, .slice ra m.root.length rc, .slice sa m.slots.length sc, .slice fa m.refs.length fc, .slice na m.snaps.length nc]) m) (MA MB MC : ImgD) (EF EG : Int) (L0 L1 : List ByteArray) (HM : Hid (checkE m = 0 ∧ allV m = L0 ∧ pastE m o = EF ∧ pastV m o = L1)) (HA : Hid (crM m nm = MA ∧ crE m nm = EG)) (HB : Hid (rvM m o = MB ∧ pastE m o = EF)) (HC : Hid (dlM m nm = MC ∧ pastE m nm = 0)) (nEF : (EF != 0) = true) (qEF : (EF == 0) = false) (nEG : (EG != 0) = true) (qEG : (EG == 0) = false) (heq : (nm.toList == o.toList) = false) (heqn : (nm.toList != o.toList) = true) (HL : Hid (checkE MC = 0 ∧ allV MC = L0 ∧ pastE MC nm = 5 ∧ pastE MC o = EF ∧ pastV MC o = L1)) (sEF : (EF != EF) = false) (tEF : (EF == EF) = true) :
    Calls Try.prog 4 #[.agg #[.int .i64 m.guest, .slice ra m.root.length rc, .slice sa m.slots.length sc, .slice fa m.refs.length fc, .slice na m.snaps.length nc], .string nm, .string o] w fun r w' => r = .returned (.bool true) ∧ Below w.heap.size w w' := by
  have hB : Below w.heap.size w (w.alloc (.cells #[.int .i64 m.guest, .slice ra m.root.length rc, .slice sa m.slots.length sc, .slice fa m.refs.length fc, .slice na m.snaps.length nc] 26)) := (Below.refl _ _).alloc (Nat.le_refl _) _
  have mb_m : (w.alloc (.cells #[.int .i64 m.guest, .slice ra m.root.length rc, .slice sa m.slots.length sc, .slice fa m.refs.length fc, .slice na m.snaps.length nc] 26)).heap[w.heap.size]? = some (.cells #[.int .i64 m.guest, .slice ra m.root.length rc, .slice sa m.slots.length sc, .slice fa m.refs.length fc, .slice na m.snaps.length nc] 26) := World.alloc_heap_new _ _
  have I_m := h.below hB
  clear h
  go_enter Try.func4, Try.ntmps4
  obtain ⟨m0, m1, m2, m3, m4⟩ := five mb_m
  have hh_mb_m := Hid_mkN mb_m
  have hh_I_m := Hid_mkN I_m
  have hh_hB := Hid_mkN hB
  clear mb_m I_m hB
  go_wp2_with fail
  clear m0 m1 m2 m3 m4
  have mb_m := hh_mb_m.out
  have I_m := hh_I_m.out
  have hB := hh_hB.out
  clear hh_mb_m hh_I_m hh_hB
  refine (all_is I_m HM.out.1 HM.out.2.1).mono ?_
  rintro e w1 ⟨⟨l0, rfl, S0⟩, bb⟩
  replace mb_m := cells_below mb_m bb (Array.getElem?_eq_some_iff.1 mb_m).1
  replace hB := Below.on hB bb
  replace I_m := I_m.below bb
  clear bb
  obtain ⟨m0, m1, m2, m3, m4⟩ := five mb_m
  have hh_mb_m := Hid_mkN mb_m
  have hh_I_m := Hid_mkN I_m
  have hh_S0 := Hid_mkN S0
  have hh_hB := Hid_mkN hB
  clear mb_m I_m S0 hB
  go_wp2_with fail
  clear m0 m1 m2 m3 m4
  have mb_m := hh_mb_m.out
  have I_m := hh_I_m.out
  have S0 := hh_S0.out
  have hB := hh_hB.out
  clear hh_mb_m hh_I_m hh_S0 hh_hB
  refine (past_is I_m o HM.out.2.2.1 HM.out.2.2.2).mono ?_
  rintro e w2 ⟨⟨l1, rfl, S1⟩, bb⟩
  replace mb_m := cells_below mb_m bb (Array.getElem?_eq_some_iff.1 mb_m).1
  replace hB := Below.on hB bb
  replace I_m := I_m.below bb
  replace S0 := S0.below bb
  clear bb
  obtain ⟨m0, m1, m2, m3, m4⟩ := five mb_m
  have hh_mb_m := Hid_mkN mb_m
  have hh_I_m := Hid_mkN I_m
  have hh_S0 := Hid_mkN S0
  have hh_S1 := Hid_mkN S1
  have hh_hB := Hid_mkN hB
  clear mb_m I_m S0 S1 hB
  go_wp2_with fail
  clear m0 m1 m2 m3 m4
  have mb_m := hh_mb_m.out
  have I_m := hh_I_m.out
  have S0 := hh_S0.out
  have S1 := hh_S1.out
  have hB := hh_hB.out
  clear hh_mb_m hh_I_m hh_S0 hh_S1 hh_hB
  refine (create_is I_m nm HA.out.1 HA.out.2).mono ?_
  intro e w3 hA
  obtain ⟨val, a_r, a_rc, a_s, a_sc, a_f, a_fc, a_n, a_nc, rfl, hO, bb, hI⟩ := hA.open
  dsimp only
  have I_a := hO.img
  rw [hI] at I_a
  clear hA hO hI
  replace mb_m := cells_below mb_m bb (Array.getElem?_eq_some_iff.1 mb_m).1
  replace hB := Below.on hB bb
  replace I_m := I_m.below bb
  replace S0 := S0.below bb
  replace S1 := S1.below bb
  clear bb
  replace mb_m := cells_alloc mb_m (.cells #[.int .i64 MA.guest, .slice a_r MA.root.length a_rc, .slice a_s MA.slots.length a_sc, .slice a_f MA.refs.length a_fc, .slice a_n MA.snaps.length a_nc] 26)
  have ba : Below w3.heap.size w3 (w3.alloc (.cells #[.int .i64 MA.guest, .slice a_r MA.root.length a_rc, .slice a_s MA.slots.length a_sc, .slice a_f MA.refs.length a_fc, .slice a_n MA.snaps.length a_nc] 26)) := (Below.refl _ _).alloc (Nat.le_refl _) _
  replace hB := Below.on hB ba
  replace I_m := I_m.below ba
  replace S0 := S0.below ba
  replace S1 := S1.below ba
  replace I_a := I_a.below ba
  clear ba
  have mb_a : (w3.alloc (.cells #[.int .i64 MA.guest, .slice a_r MA.root.length a_rc, .slice a_s MA.slots.length a_sc, .slice a_f MA.refs.length a_fc, .slice a_n MA.snaps.length a_nc] 26)).heap[w3.heap.size]? = some (.cells #[.int .i64 MA.guest, .slice a_r MA.root.length a_rc, .slice a_s MA.slots.length a_sc, .slice a_f MA.refs.length a_fc, .slice a_n MA.snaps.length a_nc] 26) := World.alloc_heap_new _ _
  clear mb_a
  clear I_a
  obtain ⟨m0, m1, m2, m3, m4⟩ := five mb_m
  have hh_mb_m := Hid_mkN mb_m
  have hh_I_m := Hid_mkN I_m
  have hh_S0 := Hid_mkN S0
  have hh_S1 := Hid_mkN S1
  have hh_hB := Hid_mkN hB
  clear mb_m I_m S0 S1 hB
  go_wp2_with fail
  clear m0 m1 m2 m3 m4
  have mb_m := hh_mb_m.out
  have I_m := hh_I_m.out
  have S0 := hh_S0.out
  have S1 := hh_S1.out
  have hB := hh_hB.out
  clear hh_mb_m hh_I_m hh_S0 hh_S1 hh_hB
  refine (revert_is I_m o HB.out.1 HB.out.2).mono ?_
  intro e w4 hA
  obtain ⟨val, b_r, b_rc, b_s, b_sc, b_f, b_fc, b_n, b_nc, rfl, hO, bb, hI⟩ := hA.open
  dsimp only
  have I_b := hO.img
  rw [hI] at I_b
  clear hA hO hI
  replace mb_m := cells_below mb_m bb (Array.getElem?_eq_some_iff.1 mb_m).1
  replace hB := Below.on hB bb
  replace I_m := I_m.below bb
  replace S0 := S0.below bb
  replace S1 := S1.below bb
  clear bb
  replace mb_m := cells_alloc mb_m (.cells #[.int .i64 MB.guest, .slice b_r MB.root.length b_rc, .slice b_s MB.slots.length b_sc, .slice b_f MB.refs.length b_fc, .slice b_n MB.snaps.length b_nc] 26)
  have ba : Below w4.heap.size w4 (w4.alloc (.cells #[.int .i64 MB.guest, .slice b_r MB.root.length b_rc, .slice b_s MB.slots.length b_sc, .slice b_f MB.refs.length b_fc, .slice b_n MB.snaps.length b_nc] 26)) := (Below.refl _ _).alloc (Nat.le_refl _) _
  replace hB := Below.on hB ba
  replace I_m := I_m.below ba
  replace S0 := S0.below ba
  replace S1 := S1.below ba
  replace I_b := I_b.below ba
  clear ba
  have mb_b : (w4.alloc (.cells #[.int .i64 MB.guest, .slice b_r MB.root.length b_rc, .slice b_s MB.slots.length b_sc, .slice b_f MB.refs.length b_fc, .slice b_n MB.snaps.length b_nc] 26)).heap[w4.heap.size]? = some (.cells #[.int .i64 MB.guest, .slice b_r MB.root.length b_rc, .slice b_s MB.slots.length b_sc, .slice b_f MB.refs.length b_fc, .slice b_n MB.snaps.length b_nc] 26) := World.alloc_heap_new _ _
  clear mb_b
  clear I_b
  obtain ⟨m0, m1, m2, m3, m4⟩ := five mb_m
  have hh_mb_m := Hid_mkN mb_m
  have hh_I_m := Hid_mkN I_m
  have hh_S0 := Hid_mkN S0
  have hh_S1 := Hid_mkN S1
  have hh_hB := Hid_mkN hB
  clear mb_m I_m S0 S1 hB
  go_wp2_with fail
  clear m0 m1 m2 m3 m4
  have mb_m := hh_mb_m.out
  have I_m := hh_I_m.out
  have S0 := hh_S0.out
  have S1 := hh_S1.out
  have hB := hh_hB.out
  clear hh_mb_m hh_I_m hh_S0 hh_S1 hh_hB
  refine (delete_img I_m nm HC.out.1 HC.out.2).mono ?_
  intro e w5 hA
  obtain ⟨val, c_r, c_rc, c_s, c_sc, c_f, c_fc, c_n, c_nc, rfl, hO, bb, hI⟩ := hA.open
  dsimp only
  have I_c := hO.img
  rw [hI] at I_c
  clear hA hO hI
  replace mb_m := cells_below mb_m bb (Array.getElem?_eq_some_iff.1 mb_m).1
  replace hB := Below.on hB bb
  replace I_m := I_m.below bb
  replace S0 := S0.below bb
  replace S1 := S1.below bb
  clear bb
  replace mb_m := cells_alloc mb_m (.cells #[.int .i64 MC.guest, .slice c_r MC.root.length c_rc, .slice c_s MC.slots.length c_sc, .slice c_f MC.refs.length c_fc, .slice c_n MC.snaps.length c_nc] 26)
  have ba : Below w5.heap.size w5 (w5.alloc (.cells #[.int .i64 MC.guest, .slice c_r MC.root.length c_rc, .slice c_s MC.slots.length c_sc, .slice c_f MC.refs.length c_fc, .slice c_n MC.snaps.length c_nc] 26)) := (Below.refl _ _).alloc (Nat.le_refl _) _
  replace hB := Below.on hB ba
  replace I_m := I_m.below ba
  replace S0 := S0.below ba
  replace S1 := S1.below ba
  replace I_c := I_c.below ba
  clear ba
  have mb_c : (w5.alloc (.cells #[.int .i64 MC.guest, .slice c_r MC.root.length c_rc, .slice c_s MC.slots.length c_sc, .slice c_f MC.refs.length c_fc, .slice c_n MC.snaps.length c_nc] 26)).heap[w5.heap.size]? = some (.cells #[.int .i64 MC.guest, .slice c_r MC.root.length c_rc, .slice c_s MC.slots.length c_sc, .slice c_f MC.refs.length c_fc, .slice c_n MC.snaps.length c_nc] 26) := World.alloc_heap_new _ _
  clear mb_m
  clear I_m
  obtain ⟨c0, c1, c2, c3, c4⟩ := five mb_c
  have hh_mb_c := Hid_mkN mb_c
  have hh_S0 := Hid_mkN S0
  have hh_S1 := Hid_mkN S1
  have hh_I_c := Hid_mkN I_c
  have hh_hB := Hid_mkN hB
  clear mb_c S0 S1 I_c hB
  go_wp2_with fail
  clear c0 c1 c2 c3 c4
  have mb_c := hh_mb_c.out
  have S0 := hh_S0.out
  have S1 := hh_S1.out
  have I_c := hh_I_c.out
  have hB := hh_hB.out
  clear hh_mb_c hh_S0 hh_S1 hh_I_c hh_hB
  refine (all_is I_c HL.out.1 HL.out.2.1).mono ?_
  rintro e w6 ⟨⟨l7, rfl, S7⟩, bb⟩
  replace mb_c := cells_below mb_c bb (Array.getElem?_eq_some_iff.1 mb_c).1
  replace hB := Below.on hB bb
  replace S0 := S0.below bb
  replace S1 := S1.below bb
  replace I_c := I_c.below bb
  clear bb
  obtain ⟨c0, c1, c2, c3, c4⟩ := five mb_c
  have hh_mb_c := Hid_mkN mb_c
  have hh_S0 := Hid_mkN S0
  have hh_S1 := Hid_mkN S1
  have hh_I_c := Hid_mkN I_c
  have hh_S7 := Hid_mkN S7
  have hh_hB := Hid_mkN hB
  clear mb_c S0 S1 I_c S7 hB
  go_wp2_with fail
  clear c0 c1 c2 c3 c4
  have mb_c := hh_mb_c.out
  have S0 := hh_S0.out
  have S1 := hh_S1.out
  have I_c := hh_I_c.out
  have S7 := hh_S7.out
  have hB := hh_hB.out
  clear hh_mb_c hh_S0 hh_S1 hh_I_c hh_S7 hh_hB
  refine (past_is I_c nm HL.out.2.2.1 rfl).mono ?_
  rintro e w7 ⟨⟨l8, rfl, S8⟩, bb⟩
  replace mb_c := cells_below mb_c bb (Array.getElem?_eq_some_iff.1 mb_c).1
  replace hB := Below.on hB bb
  replace S0 := S0.below bb
  replace S1 := S1.below bb
  replace I_c := I_c.below bb
  replace S7 := S7.below bb
  clear bb
  obtain ⟨c0, c1, c2, c3, c4⟩ := five mb_c
  have hh_mb_c := Hid_mkN mb_c
  have hh_S0 := Hid_mkN S0
  have hh_S1 := Hid_mkN S1
  have hh_I_c := Hid_mkN I_c
  have hh_S7 := Hid_mkN S7
  have hh_hB := Hid_mkN hB
  clear mb_c S0 S1 I_c S7 hB
  go_wp2_with fail
  clear c0 c1 c2 c3 c4
  have mb_c := hh_mb_c.out
  have S0 := hh_S0.out
  have S1 := hh_S1.out
  have I_c := hh_I_c.out
  have S7 := hh_S7.out
  have hB := hh_hB.out
  clear hh_mb_c hh_S0 hh_S1 hh_I_c hh_S7 hh_hB
  refine (past_is I_c o HL.out.2.2.2.1 HL.out.2.2.2.2).mono ?_
  rintro e w8 ⟨⟨l9, rfl, S9⟩, bb⟩
  replace mb_c := cells_below mb_c bb (Array.getElem?_eq_some_iff.1 mb_c).1
  replace hB := Below.on hB bb
  replace S0 := S0.below bb
  replace S1 := S1.below bb
  replace I_c := I_c.below bb
  replace S7 := S7.below bb
  clear bb
  clear mb_c
  clear I_c
  have hh_S0 := Hid_mkN S0
  have hh_S1 := Hid_mkN S1
  have hh_S7 := Hid_mkN S7
  have hh_S9 := Hid_mkN S9
  have hh_hB := Hid_mkN hB
  clear S0 S1 S7 S9 hB
  go_wp2_with fail
  have S0 := hh_S0.out
  have S1 := hh_S1.out
  have S7 := hh_S7.out
  have S9 := hh_S9.out
  have hB := hh_hB.out
  clear hh_S0 hh_S1 hh_S7 hh_S9 hh_hB
  refine (snapsBegun_any _).mono ?_
  rintro e w9 ⟨rfl, bb⟩
  replace hB := Below.on hB bb
  replace S0 := S0.below bb
  replace S1 := S1.below bb
  replace S7 := S7.below bb
  replace S9 := S9.below bb
  clear bb
  have hh_S0 := Hid_mkN S0
  have hh_S1 := Hid_mkN S1
  have hh_S7 := Hid_mkN S7
  have hh_S9 := Hid_mkN S9
  have hh_hB := Hid_mkN hB
  clear S0 S1 S7 S9 hB
  go_wp2_with fail
  have S0 := hh_S0.out
  have S1 := hh_S1.out
  have S7 := hh_S7.out
  have S9 := hh_S9.out
  have hB := hh_hB.out
  clear hh_S0 hh_S1 hh_S7 hh_S9 hh_hB
  refine (samePages_any S7 S0).mono ?_
  rintro e w10 ⟨rfl, bb⟩
  replace hB := Below.on hB bb
  replace S0 := S0.below bb
  replace S1 := S1.below bb
  replace S7 := S7.below bb
  replace S9 := S9.below bb
  clear bb
  clear S7
  have hh_S0 := Hid_mkN S0
  have hh_S1 := Hid_mkN S1
  have hh_S9 := Hid_mkN S9
  have hh_hB := Hid_mkN hB
  clear S0 S1 S9 hB
  go_wp2_with fail
  have S0 := hh_S0.out
  have S1 := hh_S1.out
  have S9 := hh_S9.out
  have hB := hh_hB.out
  clear hh_S0 hh_S1 hh_S9 hh_hB
  refine (samePages_any S9 S1).mono ?_
  rintro e w11 ⟨rfl, bb⟩
  replace hB := Below.on hB bb
  replace S0 := S0.below bb
  replace S1 := S1.below bb
  replace S9 := S9.below bb
  clear bb
  clear S9
  clear S0
  clear S1
  have hh_hB := Hid_mkN hB
  clear hB
  go_wp2_with fail
  go_ret
  have hB := hh_hB.out
  exact ⟨rfl, hB⟩

set_option maxHeartbeats 16000000 in
theorem ntrue_011n (ra : Option Addr) (rc : Nat) (sa : Option Addr) (sc : Nat) (fa : Option Addr) (fc : Nat) (na : Option Addr) (nc : Nat) (m : ImgD) (nm o : ByteArray) (w : World) (h : Img w (.agg #[.int .i64 m.guest, .slice ra m.root.length rc, .slice sa m.slots.length sc, .slice fa m.refs.length fc, .slice na m.snaps.length nc]) m) (MA MB MC : ImgD) (EG : Int) (L0 L1 : List ByteArray) (HM : Hid (checkE m = 0 ∧ allV m = L0 ∧ pastE m o = 0 ∧ pastV m o = L1)) (HA : Hid (crM m nm = MA ∧ crE m nm = EG)) (HB : Hid (rvM m o = MB ∧ pastE m o = 0)) (HC : Hid (dlM m nm = MC ∧ pastE m nm = 0)) (nEG : (EG != 0) = true) (qEG : (EG == 0) = false) (heq : (nm.toList == o.toList) = false) (heqn : (nm.toList != o.toList) = true) (HK : Hid (checkE MB = 0 ∧ allV MB = L1 ∧ pastE MB o = 0 ∧ pastV MB o = L1)) (HL : Hid (checkE MC = 0 ∧ allV MC = L0 ∧ pastE MC nm = 5 ∧ pastE MC o = 0 ∧ pastV MC o = L1)) :
    Calls Try.prog 4 #[.agg #[.int .i64 m.guest, .slice ra m.root.length rc, .slice sa m.slots.length sc, .slice fa m.refs.length fc, .slice na m.snaps.length nc], .string nm, .string o] w fun r w' => r = .returned (.bool true) ∧ Below w.heap.size w w' := by
  have hB : Below w.heap.size w (w.alloc (.cells #[.int .i64 m.guest, .slice ra m.root.length rc, .slice sa m.slots.length sc, .slice fa m.refs.length fc, .slice na m.snaps.length nc] 26)) := (Below.refl _ _).alloc (Nat.le_refl _) _
  have mb_m : (w.alloc (.cells #[.int .i64 m.guest, .slice ra m.root.length rc, .slice sa m.slots.length sc, .slice fa m.refs.length fc, .slice na m.snaps.length nc] 26)).heap[w.heap.size]? = some (.cells #[.int .i64 m.guest, .slice ra m.root.length rc, .slice sa m.slots.length sc, .slice fa m.refs.length fc, .slice na m.snaps.length nc] 26) := World.alloc_heap_new _ _
  have I_m := h.below hB
  clear h
  go_enter Try.func4, Try.ntmps4
  obtain ⟨m0, m1, m2, m3, m4⟩ := five mb_m
  have hh_mb_m := Hid_mkN mb_m
  have hh_I_m := Hid_mkN I_m
  have hh_hB := Hid_mkN hB
  clear mb_m I_m hB
  go_wp2_with fail
  clear m0 m1 m2 m3 m4
  have mb_m := hh_mb_m.out
  have I_m := hh_I_m.out
  have hB := hh_hB.out
  clear hh_mb_m hh_I_m hh_hB
  refine (all_is I_m HM.out.1 HM.out.2.1).mono ?_
  rintro e w1 ⟨⟨l0, rfl, S0⟩, bb⟩
  replace mb_m := cells_below mb_m bb (Array.getElem?_eq_some_iff.1 mb_m).1
  replace hB := Below.on hB bb
  replace I_m := I_m.below bb
  clear bb
  obtain ⟨m0, m1, m2, m3, m4⟩ := five mb_m
  have hh_mb_m := Hid_mkN mb_m
  have hh_I_m := Hid_mkN I_m
  have hh_S0 := Hid_mkN S0
  have hh_hB := Hid_mkN hB
  clear mb_m I_m S0 hB
  go_wp2_with fail
  clear m0 m1 m2 m3 m4
  have mb_m := hh_mb_m.out
  have I_m := hh_I_m.out
  have S0 := hh_S0.out
  have hB := hh_hB.out
  clear hh_mb_m hh_I_m hh_S0 hh_hB
  refine (past_is I_m o HM.out.2.2.1 HM.out.2.2.2).mono ?_
  rintro e w2 ⟨⟨l1, rfl, S1⟩, bb⟩
  replace mb_m := cells_below mb_m bb (Array.getElem?_eq_some_iff.1 mb_m).1
  replace hB := Below.on hB bb
  replace I_m := I_m.below bb
  replace S0 := S0.below bb
  clear bb
  obtain ⟨m0, m1, m2, m3, m4⟩ := five mb_m
  have hh_mb_m := Hid_mkN mb_m
  have hh_I_m := Hid_mkN I_m
  have hh_S0 := Hid_mkN S0
  have hh_S1 := Hid_mkN S1
  have hh_hB := Hid_mkN hB
  clear mb_m I_m S0 S1 hB
  go_wp2_with fail
  clear m0 m1 m2 m3 m4
  have mb_m := hh_mb_m.out
  have I_m := hh_I_m.out
  have S0 := hh_S0.out
  have S1 := hh_S1.out
  have hB := hh_hB.out
  clear hh_mb_m hh_I_m hh_S0 hh_S1 hh_hB
  refine (create_is I_m nm HA.out.1 HA.out.2).mono ?_
  intro e w3 hA
  obtain ⟨val, a_r, a_rc, a_s, a_sc, a_f, a_fc, a_n, a_nc, rfl, hO, bb, hI⟩ := hA.open
  dsimp only
  have I_a := hO.img
  rw [hI] at I_a
  clear hA hO hI
  replace mb_m := cells_below mb_m bb (Array.getElem?_eq_some_iff.1 mb_m).1
  replace hB := Below.on hB bb
  replace I_m := I_m.below bb
  replace S0 := S0.below bb
  replace S1 := S1.below bb
  clear bb
  replace mb_m := cells_alloc mb_m (.cells #[.int .i64 MA.guest, .slice a_r MA.root.length a_rc, .slice a_s MA.slots.length a_sc, .slice a_f MA.refs.length a_fc, .slice a_n MA.snaps.length a_nc] 26)
  have ba : Below w3.heap.size w3 (w3.alloc (.cells #[.int .i64 MA.guest, .slice a_r MA.root.length a_rc, .slice a_s MA.slots.length a_sc, .slice a_f MA.refs.length a_fc, .slice a_n MA.snaps.length a_nc] 26)) := (Below.refl _ _).alloc (Nat.le_refl _) _
  replace hB := Below.on hB ba
  replace I_m := I_m.below ba
  replace S0 := S0.below ba
  replace S1 := S1.below ba
  replace I_a := I_a.below ba
  clear ba
  have mb_a : (w3.alloc (.cells #[.int .i64 MA.guest, .slice a_r MA.root.length a_rc, .slice a_s MA.slots.length a_sc, .slice a_f MA.refs.length a_fc, .slice a_n MA.snaps.length a_nc] 26)).heap[w3.heap.size]? = some (.cells #[.int .i64 MA.guest, .slice a_r MA.root.length a_rc, .slice a_s MA.slots.length a_sc, .slice a_f MA.refs.length a_fc, .slice a_n MA.snaps.length a_nc] 26) := World.alloc_heap_new _ _
  clear mb_a
  clear I_a
  obtain ⟨m0, m1, m2, m3, m4⟩ := five mb_m
  have hh_mb_m := Hid_mkN mb_m
  have hh_I_m := Hid_mkN I_m
  have hh_S0 := Hid_mkN S0
  have hh_S1 := Hid_mkN S1
  have hh_hB := Hid_mkN hB
  clear mb_m I_m S0 S1 hB
  go_wp2_with fail
  clear m0 m1 m2 m3 m4
  have mb_m := hh_mb_m.out
  have I_m := hh_I_m.out
  have S0 := hh_S0.out
  have S1 := hh_S1.out
  have hB := hh_hB.out
  clear hh_mb_m hh_I_m hh_S0 hh_S1 hh_hB
  refine (revert_is I_m o HB.out.1 HB.out.2).mono ?_
  intro e w4 hA
  obtain ⟨val, b_r, b_rc, b_s, b_sc, b_f, b_fc, b_n, b_nc, rfl, hO, bb, hI⟩ := hA.open
  dsimp only
  have I_b := hO.img
  rw [hI] at I_b
  clear hA hO hI
  replace mb_m := cells_below mb_m bb (Array.getElem?_eq_some_iff.1 mb_m).1
  replace hB := Below.on hB bb
  replace I_m := I_m.below bb
  replace S0 := S0.below bb
  replace S1 := S1.below bb
  clear bb
  replace mb_m := cells_alloc mb_m (.cells #[.int .i64 MB.guest, .slice b_r MB.root.length b_rc, .slice b_s MB.slots.length b_sc, .slice b_f MB.refs.length b_fc, .slice b_n MB.snaps.length b_nc] 26)
  have ba : Below w4.heap.size w4 (w4.alloc (.cells #[.int .i64 MB.guest, .slice b_r MB.root.length b_rc, .slice b_s MB.slots.length b_sc, .slice b_f MB.refs.length b_fc, .slice b_n MB.snaps.length b_nc] 26)) := (Below.refl _ _).alloc (Nat.le_refl _) _
  replace hB := Below.on hB ba
  replace I_m := I_m.below ba
  replace S0 := S0.below ba
  replace S1 := S1.below ba
  replace I_b := I_b.below ba
  clear ba
  have mb_b : (w4.alloc (.cells #[.int .i64 MB.guest, .slice b_r MB.root.length b_rc, .slice b_s MB.slots.length b_sc, .slice b_f MB.refs.length b_fc, .slice b_n MB.snaps.length b_nc] 26)).heap[w4.heap.size]? = some (.cells #[.int .i64 MB.guest, .slice b_r MB.root.length b_rc, .slice b_s MB.slots.length b_sc, .slice b_f MB.refs.length b_fc, .slice b_n MB.snaps.length b_nc] 26) := World.alloc_heap_new _ _
  obtain ⟨b0, b1, b2, b3, b4⟩ := five mb_b
  have hh_mb_m := Hid_mkN mb_m
  have hh_mb_b := Hid_mkN mb_b
  have hh_I_m := Hid_mkN I_m
  have hh_S0 := Hid_mkN S0
  have hh_S1 := Hid_mkN S1
  have hh_I_b := Hid_mkN I_b
  have hh_hB := Hid_mkN hB
  clear mb_m mb_b I_m S0 S1 I_b hB
  go_wp2_with fail
  clear b0 b1 b2 b3 b4
  have mb_m := hh_mb_m.out
  have mb_b := hh_mb_b.out
  have I_m := hh_I_m.out
  have S0 := hh_S0.out
  have S1 := hh_S1.out
  have I_b := hh_I_b.out
  have hB := hh_hB.out
  clear hh_mb_m hh_mb_b hh_I_m hh_S0 hh_S1 hh_I_b hh_hB
  refine (all_is I_b HK.out.1 HK.out.2.1).mono ?_
  rintro e w5 ⟨⟨l5, rfl, S5⟩, bb⟩
  replace mb_m := cells_below mb_m bb (Array.getElem?_eq_some_iff.1 mb_m).1
  replace mb_b := cells_below mb_b bb (Array.getElem?_eq_some_iff.1 mb_b).1
  replace hB := Below.on hB bb
  replace I_m := I_m.below bb
  replace S0 := S0.below bb
  replace S1 := S1.below bb
  replace I_b := I_b.below bb
  clear bb
  obtain ⟨b0, b1, b2, b3, b4⟩ := five mb_b
  have hh_mb_m := Hid_mkN mb_m
  have hh_mb_b := Hid_mkN mb_b
  have hh_I_m := Hid_mkN I_m
  have hh_S0 := Hid_mkN S0
  have hh_S1 := Hid_mkN S1
  have hh_I_b := Hid_mkN I_b
  have hh_S5 := Hid_mkN S5
  have hh_hB := Hid_mkN hB
  clear mb_m mb_b I_m S0 S1 I_b S5 hB
  go_wp2_with fail
  clear b0 b1 b2 b3 b4
  have mb_m := hh_mb_m.out
  have mb_b := hh_mb_b.out
  have I_m := hh_I_m.out
  have S0 := hh_S0.out
  have S1 := hh_S1.out
  have I_b := hh_I_b.out
  have S5 := hh_S5.out
  have hB := hh_hB.out
  clear hh_mb_m hh_mb_b hh_I_m hh_S0 hh_S1 hh_I_b hh_S5 hh_hB
  refine (past_is I_b o HK.out.2.2.1 HK.out.2.2.2).mono ?_
  rintro e w6 ⟨⟨l6, rfl, S6⟩, bb⟩
  replace mb_m := cells_below mb_m bb (Array.getElem?_eq_some_iff.1 mb_m).1
  replace mb_b := cells_below mb_b bb (Array.getElem?_eq_some_iff.1 mb_b).1
  replace hB := Below.on hB bb
  replace I_m := I_m.below bb
  replace S0 := S0.below bb
  replace S1 := S1.below bb
  replace I_b := I_b.below bb
  replace S5 := S5.below bb
  clear bb
  have hh_mb_m := Hid_mkN mb_m
  have hh_mb_b := Hid_mkN mb_b
  have hh_I_m := Hid_mkN I_m
  have hh_S0 := Hid_mkN S0
  have hh_S1 := Hid_mkN S1
  have hh_I_b := Hid_mkN I_b
  have hh_S5 := Hid_mkN S5
  have hh_S6 := Hid_mkN S6
  have hh_hB := Hid_mkN hB
  clear mb_m mb_b I_m S0 S1 I_b S5 S6 hB
  go_wp2_with fail
  have mb_m := hh_mb_m.out
  have mb_b := hh_mb_b.out
  have I_m := hh_I_m.out
  have S0 := hh_S0.out
  have S1 := hh_S1.out
  have I_b := hh_I_b.out
  have S5 := hh_S5.out
  have S6 := hh_S6.out
  have hB := hh_hB.out
  clear hh_mb_m hh_mb_b hh_I_m hh_S0 hh_S1 hh_I_b hh_S5 hh_S6 hh_hB
  refine (samePages_any S5 S1).mono ?_
  rintro e w7 ⟨rfl, bb⟩
  replace mb_m := cells_below mb_m bb (Array.getElem?_eq_some_iff.1 mb_m).1
  replace mb_b := cells_below mb_b bb (Array.getElem?_eq_some_iff.1 mb_b).1
  replace hB := Below.on hB bb
  replace I_m := I_m.below bb
  replace S0 := S0.below bb
  replace S1 := S1.below bb
  replace I_b := I_b.below bb
  replace S5 := S5.below bb
  replace S6 := S6.below bb
  clear bb
  clear S5
  have hh_mb_m := Hid_mkN mb_m
  have hh_mb_b := Hid_mkN mb_b
  have hh_I_m := Hid_mkN I_m
  have hh_S0 := Hid_mkN S0
  have hh_S1 := Hid_mkN S1
  have hh_I_b := Hid_mkN I_b
  have hh_S6 := Hid_mkN S6
  have hh_hB := Hid_mkN hB
  clear mb_m mb_b I_m S0 S1 I_b S6 hB
  go_wp2_with fail
  have mb_m := hh_mb_m.out
  have mb_b := hh_mb_b.out
  have I_m := hh_I_m.out
  have S0 := hh_S0.out
  have S1 := hh_S1.out
  have I_b := hh_I_b.out
  have S6 := hh_S6.out
  have hB := hh_hB.out
  clear hh_mb_m hh_mb_b hh_I_m hh_S0 hh_S1 hh_I_b hh_S6 hh_hB
  refine (samePages_any S6 S1).mono ?_
  rintro e w8 ⟨rfl, bb⟩
  replace mb_m := cells_below mb_m bb (Array.getElem?_eq_some_iff.1 mb_m).1
  replace mb_b := cells_below mb_b bb (Array.getElem?_eq_some_iff.1 mb_b).1
  replace hB := Below.on hB bb
  replace I_m := I_m.below bb
  replace S0 := S0.below bb
  replace S1 := S1.below bb
  replace I_b := I_b.below bb
  replace S6 := S6.below bb
  clear bb
  clear S6
  clear mb_b
  clear I_b
  obtain ⟨m0, m1, m2, m3, m4⟩ := five mb_m
  have hh_mb_m := Hid_mkN mb_m
  have hh_I_m := Hid_mkN I_m
  have hh_S0 := Hid_mkN S0
  have hh_S1 := Hid_mkN S1
  have hh_hB := Hid_mkN hB
  clear mb_m I_m S0 S1 hB
  go_wp2_with fail
  clear m0 m1 m2 m3 m4
  have mb_m := hh_mb_m.out
  have I_m := hh_I_m.out
  have S0 := hh_S0.out
  have S1 := hh_S1.out
  have hB := hh_hB.out
  clear hh_mb_m hh_I_m hh_S0 hh_S1 hh_hB
  refine (delete_img I_m nm HC.out.1 HC.out.2).mono ?_
  intro e w9 hA
  obtain ⟨val, c_r, c_rc, c_s, c_sc, c_f, c_fc, c_n, c_nc, rfl, hO, bb, hI⟩ := hA.open
  dsimp only
  have I_c := hO.img
  rw [hI] at I_c
  clear hA hO hI
  replace mb_m := cells_below mb_m bb (Array.getElem?_eq_some_iff.1 mb_m).1
  replace hB := Below.on hB bb
  replace I_m := I_m.below bb
  replace S0 := S0.below bb
  replace S1 := S1.below bb
  clear bb
  replace mb_m := cells_alloc mb_m (.cells #[.int .i64 MC.guest, .slice c_r MC.root.length c_rc, .slice c_s MC.slots.length c_sc, .slice c_f MC.refs.length c_fc, .slice c_n MC.snaps.length c_nc] 26)
  have ba : Below w9.heap.size w9 (w9.alloc (.cells #[.int .i64 MC.guest, .slice c_r MC.root.length c_rc, .slice c_s MC.slots.length c_sc, .slice c_f MC.refs.length c_fc, .slice c_n MC.snaps.length c_nc] 26)) := (Below.refl _ _).alloc (Nat.le_refl _) _
  replace hB := Below.on hB ba
  replace I_m := I_m.below ba
  replace S0 := S0.below ba
  replace S1 := S1.below ba
  replace I_c := I_c.below ba
  clear ba
  have mb_c : (w9.alloc (.cells #[.int .i64 MC.guest, .slice c_r MC.root.length c_rc, .slice c_s MC.slots.length c_sc, .slice c_f MC.refs.length c_fc, .slice c_n MC.snaps.length c_nc] 26)).heap[w9.heap.size]? = some (.cells #[.int .i64 MC.guest, .slice c_r MC.root.length c_rc, .slice c_s MC.slots.length c_sc, .slice c_f MC.refs.length c_fc, .slice c_n MC.snaps.length c_nc] 26) := World.alloc_heap_new _ _
  clear mb_m
  clear I_m
  obtain ⟨c0, c1, c2, c3, c4⟩ := five mb_c
  have hh_mb_c := Hid_mkN mb_c
  have hh_S0 := Hid_mkN S0
  have hh_S1 := Hid_mkN S1
  have hh_I_c := Hid_mkN I_c
  have hh_hB := Hid_mkN hB
  clear mb_c S0 S1 I_c hB
  go_wp2_with fail
  clear c0 c1 c2 c3 c4
  have mb_c := hh_mb_c.out
  have S0 := hh_S0.out
  have S1 := hh_S1.out
  have I_c := hh_I_c.out
  have hB := hh_hB.out
  clear hh_mb_c hh_S0 hh_S1 hh_I_c hh_hB
  refine (all_is I_c HL.out.1 HL.out.2.1).mono ?_
  rintro e w10 ⟨⟨l7, rfl, S7⟩, bb⟩
  replace mb_c := cells_below mb_c bb (Array.getElem?_eq_some_iff.1 mb_c).1
  replace hB := Below.on hB bb
  replace S0 := S0.below bb
  replace S1 := S1.below bb
  replace I_c := I_c.below bb
  clear bb
  obtain ⟨c0, c1, c2, c3, c4⟩ := five mb_c
  have hh_mb_c := Hid_mkN mb_c
  have hh_S0 := Hid_mkN S0
  have hh_S1 := Hid_mkN S1
  have hh_I_c := Hid_mkN I_c
  have hh_S7 := Hid_mkN S7
  have hh_hB := Hid_mkN hB
  clear mb_c S0 S1 I_c S7 hB
  go_wp2_with fail
  clear c0 c1 c2 c3 c4
  have mb_c := hh_mb_c.out
  have S0 := hh_S0.out
  have S1 := hh_S1.out
  have I_c := hh_I_c.out
  have S7 := hh_S7.out
  have hB := hh_hB.out
  clear hh_mb_c hh_S0 hh_S1 hh_I_c hh_S7 hh_hB
  refine (past_is I_c nm HL.out.2.2.1 rfl).mono ?_
  rintro e w11 ⟨⟨l8, rfl, S8⟩, bb⟩
  replace mb_c := cells_below mb_c bb (Array.getElem?_eq_some_iff.1 mb_c).1
  replace hB := Below.on hB bb
  replace S0 := S0.below bb
  replace S1 := S1.below bb
  replace I_c := I_c.below bb
  replace S7 := S7.below bb
  clear bb
  obtain ⟨c0, c1, c2, c3, c4⟩ := five mb_c
  have hh_mb_c := Hid_mkN mb_c
  have hh_S0 := Hid_mkN S0
  have hh_S1 := Hid_mkN S1
  have hh_I_c := Hid_mkN I_c
  have hh_S7 := Hid_mkN S7
  have hh_hB := Hid_mkN hB
  clear mb_c S0 S1 I_c S7 hB
  go_wp2_with fail
  clear c0 c1 c2 c3 c4
  have mb_c := hh_mb_c.out
  have S0 := hh_S0.out
  have S1 := hh_S1.out
  have I_c := hh_I_c.out
  have S7 := hh_S7.out
  have hB := hh_hB.out
  clear hh_mb_c hh_S0 hh_S1 hh_I_c hh_S7 hh_hB
  refine (past_is I_c o HL.out.2.2.2.1 HL.out.2.2.2.2).mono ?_
  rintro e w12 ⟨⟨l9, rfl, S9⟩, bb⟩
  replace mb_c := cells_below mb_c bb (Array.getElem?_eq_some_iff.1 mb_c).1
  replace hB := Below.on hB bb
  replace S0 := S0.below bb
  replace S1 := S1.below bb
  replace I_c := I_c.below bb
  replace S7 := S7.below bb
  clear bb
  clear mb_c
  clear I_c
  have hh_S0 := Hid_mkN S0
  have hh_S1 := Hid_mkN S1
  have hh_S7 := Hid_mkN S7
  have hh_S9 := Hid_mkN S9
  have hh_hB := Hid_mkN hB
  clear S0 S1 S7 S9 hB
  go_wp2_with fail
  have S0 := hh_S0.out
  have S1 := hh_S1.out
  have S7 := hh_S7.out
  have S9 := hh_S9.out
  have hB := hh_hB.out
  clear hh_S0 hh_S1 hh_S7 hh_S9 hh_hB
  refine (snapsBegun_any _).mono ?_
  rintro e w13 ⟨rfl, bb⟩
  replace hB := Below.on hB bb
  replace S0 := S0.below bb
  replace S1 := S1.below bb
  replace S7 := S7.below bb
  replace S9 := S9.below bb
  clear bb
  have hh_S0 := Hid_mkN S0
  have hh_S1 := Hid_mkN S1
  have hh_S7 := Hid_mkN S7
  have hh_S9 := Hid_mkN S9
  have hh_hB := Hid_mkN hB
  clear S0 S1 S7 S9 hB
  go_wp2_with fail
  have S0 := hh_S0.out
  have S1 := hh_S1.out
  have S7 := hh_S7.out
  have S9 := hh_S9.out
  have hB := hh_hB.out
  clear hh_S0 hh_S1 hh_S7 hh_S9 hh_hB
  refine (samePages_any S7 S0).mono ?_
  rintro e w14 ⟨rfl, bb⟩
  replace hB := Below.on hB bb
  replace S0 := S0.below bb
  replace S1 := S1.below bb
  replace S7 := S7.below bb
  replace S9 := S9.below bb
  clear bb
  clear S7
  have hh_S0 := Hid_mkN S0
  have hh_S1 := Hid_mkN S1
  have hh_S9 := Hid_mkN S9
  have hh_hB := Hid_mkN hB
  clear S0 S1 S9 hB
  go_wp2_with fail
  have S0 := hh_S0.out
  have S1 := hh_S1.out
  have S9 := hh_S9.out
  have hB := hh_hB.out
  clear hh_S0 hh_S1 hh_S9 hh_hB
  refine (samePages_any S9 S1).mono ?_
  rintro e w15 ⟨rfl, bb⟩
  replace hB := Below.on hB bb
  replace S0 := S0.below bb
  replace S1 := S1.below bb
  replace S9 := S9.below bb
  clear bb
  clear S9
  clear S0
  clear S1
  have hh_hB := Hid_mkN hB
  clear hB
  go_wp2_with fail
  go_ret
  have hB := hh_hB.out
  exact ⟨rfl, hB⟩

set_option maxHeartbeats 16000000 in
theorem ntrue_011e (ra : Option Addr) (rc : Nat) (sa : Option Addr) (sc : Nat) (fa : Option Addr) (fc : Nat) (na : Option Addr) (nc : Nat) (m : ImgD) (nm o : ByteArray) (w : World) (h : Img w (.agg #[.int .i64 m.guest, .slice ra m.root.length rc, .slice sa m.slots.length sc, .slice fa m.refs.length fc, .slice na m.snaps.length nc]) m) (MA MB MC : ImgD) (EG : Int) (L0 L1 : List ByteArray) (HM : Hid (checkE m = 0 ∧ allV m = L0 ∧ pastE m o = 0 ∧ pastV m o = L1)) (HA : Hid (crM m nm = MA ∧ crE m nm = EG)) (HB : Hid (rvM m o = MB ∧ pastE m o = 0)) (HC : Hid (dlM m nm = MC ∧ pastE m nm = 0)) (nEG : (EG != 0) = true) (qEG : (EG == 0) = false) (heq : (nm.toList == o.toList) = true) (heqn : (nm.toList != o.toList) = false) (HK : Hid (checkE MB = 0 ∧ allV MB = L1 ∧ pastE MB o = 0 ∧ pastV MB o = L1)) (EJ : Int) (LJ : List ByteArray) (HL : Hid (checkE MC = 0 ∧ allV MC = L0 ∧ pastE MC nm = 5 ∧ pastE MC o = EJ ∧ pastV MC o = LJ)) :
    Calls Try.prog 4 #[.agg #[.int .i64 m.guest, .slice ra m.root.length rc, .slice sa m.slots.length sc, .slice fa m.refs.length fc, .slice na m.snaps.length nc], .string nm, .string o] w fun r w' => r = .returned (.bool true) ∧ Below w.heap.size w w' := by
  have hB : Below w.heap.size w (w.alloc (.cells #[.int .i64 m.guest, .slice ra m.root.length rc, .slice sa m.slots.length sc, .slice fa m.refs.length fc, .slice na m.snaps.length nc] 26)) := (Below.refl _ _).alloc (Nat.le_refl _) _
  have mb_m : (w.alloc (.cells #[.int .i64 m.guest, .slice ra m.root.length rc, .slice sa m.slots.length sc, .slice fa m.refs.length fc, .slice na m.snaps.length nc] 26)).heap[w.heap.size]? = some (.cells #[.int .i64 m.guest, .slice ra m.root.length rc, .slice sa m.slots.length sc, .slice fa m.refs.length fc, .slice na m.snaps.length nc] 26) := World.alloc_heap_new _ _
  have I_m := h.below hB
  clear h
  go_enter Try.func4, Try.ntmps4
  obtain ⟨m0, m1, m2, m3, m4⟩ := five mb_m
  have hh_mb_m := Hid_mkN mb_m
  have hh_I_m := Hid_mkN I_m
  have hh_hB := Hid_mkN hB
  clear mb_m I_m hB
  go_wp2_with fail
  clear m0 m1 m2 m3 m4
  have mb_m := hh_mb_m.out
  have I_m := hh_I_m.out
  have hB := hh_hB.out
  clear hh_mb_m hh_I_m hh_hB
  refine (all_is I_m HM.out.1 HM.out.2.1).mono ?_
  rintro e w1 ⟨⟨l0, rfl, S0⟩, bb⟩
  replace mb_m := cells_below mb_m bb (Array.getElem?_eq_some_iff.1 mb_m).1
  replace hB := Below.on hB bb
  replace I_m := I_m.below bb
  clear bb
  obtain ⟨m0, m1, m2, m3, m4⟩ := five mb_m
  have hh_mb_m := Hid_mkN mb_m
  have hh_I_m := Hid_mkN I_m
  have hh_S0 := Hid_mkN S0
  have hh_hB := Hid_mkN hB
  clear mb_m I_m S0 hB
  go_wp2_with fail
  clear m0 m1 m2 m3 m4
  have mb_m := hh_mb_m.out
  have I_m := hh_I_m.out
  have S0 := hh_S0.out
  have hB := hh_hB.out
  clear hh_mb_m hh_I_m hh_S0 hh_hB
  refine (past_is I_m o HM.out.2.2.1 HM.out.2.2.2).mono ?_
  rintro e w2 ⟨⟨l1, rfl, S1⟩, bb⟩
  replace mb_m := cells_below mb_m bb (Array.getElem?_eq_some_iff.1 mb_m).1
  replace hB := Below.on hB bb
  replace I_m := I_m.below bb
  replace S0 := S0.below bb
  clear bb
  obtain ⟨m0, m1, m2, m3, m4⟩ := five mb_m
  have hh_mb_m := Hid_mkN mb_m
  have hh_I_m := Hid_mkN I_m
  have hh_S0 := Hid_mkN S0
  have hh_S1 := Hid_mkN S1
  have hh_hB := Hid_mkN hB
  clear mb_m I_m S0 S1 hB
  go_wp2_with fail
  clear m0 m1 m2 m3 m4
  have mb_m := hh_mb_m.out
  have I_m := hh_I_m.out
  have S0 := hh_S0.out
  have S1 := hh_S1.out
  have hB := hh_hB.out
  clear hh_mb_m hh_I_m hh_S0 hh_S1 hh_hB
  refine (create_is I_m nm HA.out.1 HA.out.2).mono ?_
  intro e w3 hA
  obtain ⟨val, a_r, a_rc, a_s, a_sc, a_f, a_fc, a_n, a_nc, rfl, hO, bb, hI⟩ := hA.open
  dsimp only
  have I_a := hO.img
  rw [hI] at I_a
  clear hA hO hI
  replace mb_m := cells_below mb_m bb (Array.getElem?_eq_some_iff.1 mb_m).1
  replace hB := Below.on hB bb
  replace I_m := I_m.below bb
  replace S0 := S0.below bb
  replace S1 := S1.below bb
  clear bb
  replace mb_m := cells_alloc mb_m (.cells #[.int .i64 MA.guest, .slice a_r MA.root.length a_rc, .slice a_s MA.slots.length a_sc, .slice a_f MA.refs.length a_fc, .slice a_n MA.snaps.length a_nc] 26)
  have ba : Below w3.heap.size w3 (w3.alloc (.cells #[.int .i64 MA.guest, .slice a_r MA.root.length a_rc, .slice a_s MA.slots.length a_sc, .slice a_f MA.refs.length a_fc, .slice a_n MA.snaps.length a_nc] 26)) := (Below.refl _ _).alloc (Nat.le_refl _) _
  replace hB := Below.on hB ba
  replace I_m := I_m.below ba
  replace S0 := S0.below ba
  replace S1 := S1.below ba
  replace I_a := I_a.below ba
  clear ba
  have mb_a : (w3.alloc (.cells #[.int .i64 MA.guest, .slice a_r MA.root.length a_rc, .slice a_s MA.slots.length a_sc, .slice a_f MA.refs.length a_fc, .slice a_n MA.snaps.length a_nc] 26)).heap[w3.heap.size]? = some (.cells #[.int .i64 MA.guest, .slice a_r MA.root.length a_rc, .slice a_s MA.slots.length a_sc, .slice a_f MA.refs.length a_fc, .slice a_n MA.snaps.length a_nc] 26) := World.alloc_heap_new _ _
  clear mb_a
  clear I_a
  obtain ⟨m0, m1, m2, m3, m4⟩ := five mb_m
  have hh_mb_m := Hid_mkN mb_m
  have hh_I_m := Hid_mkN I_m
  have hh_S0 := Hid_mkN S0
  have hh_S1 := Hid_mkN S1
  have hh_hB := Hid_mkN hB
  clear mb_m I_m S0 S1 hB
  go_wp2_with fail
  clear m0 m1 m2 m3 m4
  have mb_m := hh_mb_m.out
  have I_m := hh_I_m.out
  have S0 := hh_S0.out
  have S1 := hh_S1.out
  have hB := hh_hB.out
  clear hh_mb_m hh_I_m hh_S0 hh_S1 hh_hB
  refine (revert_is I_m o HB.out.1 HB.out.2).mono ?_
  intro e w4 hA
  obtain ⟨val, b_r, b_rc, b_s, b_sc, b_f, b_fc, b_n, b_nc, rfl, hO, bb, hI⟩ := hA.open
  dsimp only
  have I_b := hO.img
  rw [hI] at I_b
  clear hA hO hI
  replace mb_m := cells_below mb_m bb (Array.getElem?_eq_some_iff.1 mb_m).1
  replace hB := Below.on hB bb
  replace I_m := I_m.below bb
  replace S0 := S0.below bb
  replace S1 := S1.below bb
  clear bb
  replace mb_m := cells_alloc mb_m (.cells #[.int .i64 MB.guest, .slice b_r MB.root.length b_rc, .slice b_s MB.slots.length b_sc, .slice b_f MB.refs.length b_fc, .slice b_n MB.snaps.length b_nc] 26)
  have ba : Below w4.heap.size w4 (w4.alloc (.cells #[.int .i64 MB.guest, .slice b_r MB.root.length b_rc, .slice b_s MB.slots.length b_sc, .slice b_f MB.refs.length b_fc, .slice b_n MB.snaps.length b_nc] 26)) := (Below.refl _ _).alloc (Nat.le_refl _) _
  replace hB := Below.on hB ba
  replace I_m := I_m.below ba
  replace S0 := S0.below ba
  replace S1 := S1.below ba
  replace I_b := I_b.below ba
  clear ba
  have mb_b : (w4.alloc (.cells #[.int .i64 MB.guest, .slice b_r MB.root.length b_rc, .slice b_s MB.slots.length b_sc, .slice b_f MB.refs.length b_fc, .slice b_n MB.snaps.length b_nc] 26)).heap[w4.heap.size]? = some (.cells #[.int .i64 MB.guest, .slice b_r MB.root.length b_rc, .slice b_s MB.slots.length b_sc, .slice b_f MB.refs.length b_fc, .slice b_n MB.snaps.length b_nc] 26) := World.alloc_heap_new _ _
  obtain ⟨b0, b1, b2, b3, b4⟩ := five mb_b
  have hh_mb_m := Hid_mkN mb_m
  have hh_mb_b := Hid_mkN mb_b
  have hh_I_m := Hid_mkN I_m
  have hh_S0 := Hid_mkN S0
  have hh_S1 := Hid_mkN S1
  have hh_I_b := Hid_mkN I_b
  have hh_hB := Hid_mkN hB
  clear mb_m mb_b I_m S0 S1 I_b hB
  go_wp2_with fail
  clear b0 b1 b2 b3 b4
  have mb_m := hh_mb_m.out
  have mb_b := hh_mb_b.out
  have I_m := hh_I_m.out
  have S0 := hh_S0.out
  have S1 := hh_S1.out
  have I_b := hh_I_b.out
  have hB := hh_hB.out
  clear hh_mb_m hh_mb_b hh_I_m hh_S0 hh_S1 hh_I_b hh_hB
  refine (all_is I_b HK.out.1 HK.out.2.1).mono ?_
  rintro e w5 ⟨⟨l5, rfl, S5⟩, bb⟩
  replace mb_m := cells_below mb_m bb (Array.getElem?_eq_some_iff.1 mb_m).1
  replace mb_b := cells_below mb_b bb (Array.getElem?_eq_some_iff.1 mb_b).1
  replace hB := Below.on hB bb
  replace I_m := I_m.below bb
  replace S0 := S0.below bb
  replace S1 := S1.below bb
  replace I_b := I_b.below bb
  clear bb
  obtain ⟨b0, b1, b2, b3, b4⟩ := five mb_b
  have hh_mb_m := Hid_mkN mb_m
  have hh_mb_b := Hid_mkN mb_b
  have hh_I_m := Hid_mkN I_m
  have hh_S0 := Hid_mkN S0
  have hh_S1 := Hid_mkN S1
  have hh_I_b := Hid_mkN I_b
  have hh_S5 := Hid_mkN S5
  have hh_hB := Hid_mkN hB
  clear mb_m mb_b I_m S0 S1 I_b S5 hB
  go_wp2_with fail
  clear b0 b1 b2 b3 b4
  have mb_m := hh_mb_m.out
  have mb_b := hh_mb_b.out
  have I_m := hh_I_m.out
  have S0 := hh_S0.out
  have S1 := hh_S1.out
  have I_b := hh_I_b.out
  have S5 := hh_S5.out
  have hB := hh_hB.out
  clear hh_mb_m hh_mb_b hh_I_m hh_S0 hh_S1 hh_I_b hh_S5 hh_hB
  refine (past_is I_b o HK.out.2.2.1 HK.out.2.2.2).mono ?_
  rintro e w6 ⟨⟨l6, rfl, S6⟩, bb⟩
  replace mb_m := cells_below mb_m bb (Array.getElem?_eq_some_iff.1 mb_m).1
  replace mb_b := cells_below mb_b bb (Array.getElem?_eq_some_iff.1 mb_b).1
  replace hB := Below.on hB bb
  replace I_m := I_m.below bb
  replace S0 := S0.below bb
  replace S1 := S1.below bb
  replace I_b := I_b.below bb
  replace S5 := S5.below bb
  clear bb
  have hh_mb_m := Hid_mkN mb_m
  have hh_mb_b := Hid_mkN mb_b
  have hh_I_m := Hid_mkN I_m
  have hh_S0 := Hid_mkN S0
  have hh_S1 := Hid_mkN S1
  have hh_I_b := Hid_mkN I_b
  have hh_S5 := Hid_mkN S5
  have hh_S6 := Hid_mkN S6
  have hh_hB := Hid_mkN hB
  clear mb_m mb_b I_m S0 S1 I_b S5 S6 hB
  go_wp2_with fail
  have mb_m := hh_mb_m.out
  have mb_b := hh_mb_b.out
  have I_m := hh_I_m.out
  have S0 := hh_S0.out
  have S1 := hh_S1.out
  have I_b := hh_I_b.out
  have S5 := hh_S5.out
  have S6 := hh_S6.out
  have hB := hh_hB.out
  clear hh_mb_m hh_mb_b hh_I_m hh_S0 hh_S1 hh_I_b hh_S5 hh_S6 hh_hB
  refine (samePages_any S5 S1).mono ?_
  rintro e w7 ⟨rfl, bb⟩
  replace mb_m := cells_below mb_m bb (Array.getElem?_eq_some_iff.1 mb_m).1
  replace mb_b := cells_below mb_b bb (Array.getElem?_eq_some_iff.1 mb_b).1
  replace hB := Below.on hB bb
  replace I_m := I_m.below bb
  replace S0 := S0.below bb
  replace S1 := S1.below bb
  replace I_b := I_b.below bb
  replace S5 := S5.below bb
  replace S6 := S6.below bb
  clear bb
  clear S5
  have hh_mb_m := Hid_mkN mb_m
  have hh_mb_b := Hid_mkN mb_b
  have hh_I_m := Hid_mkN I_m
  have hh_S0 := Hid_mkN S0
  have hh_S1 := Hid_mkN S1
  have hh_I_b := Hid_mkN I_b
  have hh_S6 := Hid_mkN S6
  have hh_hB := Hid_mkN hB
  clear mb_m mb_b I_m S0 S1 I_b S6 hB
  go_wp2_with fail
  have mb_m := hh_mb_m.out
  have mb_b := hh_mb_b.out
  have I_m := hh_I_m.out
  have S0 := hh_S0.out
  have S1 := hh_S1.out
  have I_b := hh_I_b.out
  have S6 := hh_S6.out
  have hB := hh_hB.out
  clear hh_mb_m hh_mb_b hh_I_m hh_S0 hh_S1 hh_I_b hh_S6 hh_hB
  refine (samePages_any S6 S1).mono ?_
  rintro e w8 ⟨rfl, bb⟩
  replace mb_m := cells_below mb_m bb (Array.getElem?_eq_some_iff.1 mb_m).1
  replace mb_b := cells_below mb_b bb (Array.getElem?_eq_some_iff.1 mb_b).1
  replace hB := Below.on hB bb
  replace I_m := I_m.below bb
  replace S0 := S0.below bb
  replace S1 := S1.below bb
  replace I_b := I_b.below bb
  replace S6 := S6.below bb
  clear bb
  clear S6
  clear mb_b
  clear I_b
  obtain ⟨m0, m1, m2, m3, m4⟩ := five mb_m
  have hh_mb_m := Hid_mkN mb_m
  have hh_I_m := Hid_mkN I_m
  have hh_S0 := Hid_mkN S0
  have hh_S1 := Hid_mkN S1
  have hh_hB := Hid_mkN hB
  clear mb_m I_m S0 S1 hB
  go_wp2_with fail
  clear m0 m1 m2 m3 m4
  have mb_m := hh_mb_m.out
  have I_m := hh_I_m.out
  have S0 := hh_S0.out
  have S1 := hh_S1.out
  have hB := hh_hB.out
  clear hh_mb_m hh_I_m hh_S0 hh_S1 hh_hB
  refine (delete_img I_m nm HC.out.1 HC.out.2).mono ?_
  intro e w9 hA
  obtain ⟨val, c_r, c_rc, c_s, c_sc, c_f, c_fc, c_n, c_nc, rfl, hO, bb, hI⟩ := hA.open
  dsimp only
  have I_c := hO.img
  rw [hI] at I_c
  clear hA hO hI
  replace mb_m := cells_below mb_m bb (Array.getElem?_eq_some_iff.1 mb_m).1
  replace hB := Below.on hB bb
  replace I_m := I_m.below bb
  replace S0 := S0.below bb
  replace S1 := S1.below bb
  clear bb
  replace mb_m := cells_alloc mb_m (.cells #[.int .i64 MC.guest, .slice c_r MC.root.length c_rc, .slice c_s MC.slots.length c_sc, .slice c_f MC.refs.length c_fc, .slice c_n MC.snaps.length c_nc] 26)
  have ba : Below w9.heap.size w9 (w9.alloc (.cells #[.int .i64 MC.guest, .slice c_r MC.root.length c_rc, .slice c_s MC.slots.length c_sc, .slice c_f MC.refs.length c_fc, .slice c_n MC.snaps.length c_nc] 26)) := (Below.refl _ _).alloc (Nat.le_refl _) _
  replace hB := Below.on hB ba
  replace I_m := I_m.below ba
  replace S0 := S0.below ba
  replace S1 := S1.below ba
  replace I_c := I_c.below ba
  clear ba
  have mb_c : (w9.alloc (.cells #[.int .i64 MC.guest, .slice c_r MC.root.length c_rc, .slice c_s MC.slots.length c_sc, .slice c_f MC.refs.length c_fc, .slice c_n MC.snaps.length c_nc] 26)).heap[w9.heap.size]? = some (.cells #[.int .i64 MC.guest, .slice c_r MC.root.length c_rc, .slice c_s MC.slots.length c_sc, .slice c_f MC.refs.length c_fc, .slice c_n MC.snaps.length c_nc] 26) := World.alloc_heap_new _ _
  clear mb_m
  clear I_m
  obtain ⟨c0, c1, c2, c3, c4⟩ := five mb_c
  have hh_mb_c := Hid_mkN mb_c
  have hh_S0 := Hid_mkN S0
  have hh_S1 := Hid_mkN S1
  have hh_I_c := Hid_mkN I_c
  have hh_hB := Hid_mkN hB
  clear mb_c S0 S1 I_c hB
  go_wp2_with fail
  clear c0 c1 c2 c3 c4
  have mb_c := hh_mb_c.out
  have S0 := hh_S0.out
  have S1 := hh_S1.out
  have I_c := hh_I_c.out
  have hB := hh_hB.out
  clear hh_mb_c hh_S0 hh_S1 hh_I_c hh_hB
  refine (all_is I_c HL.out.1 HL.out.2.1).mono ?_
  rintro e w10 ⟨⟨l7, rfl, S7⟩, bb⟩
  replace mb_c := cells_below mb_c bb (Array.getElem?_eq_some_iff.1 mb_c).1
  replace hB := Below.on hB bb
  replace S0 := S0.below bb
  replace S1 := S1.below bb
  replace I_c := I_c.below bb
  clear bb
  obtain ⟨c0, c1, c2, c3, c4⟩ := five mb_c
  have hh_mb_c := Hid_mkN mb_c
  have hh_S0 := Hid_mkN S0
  have hh_S1 := Hid_mkN S1
  have hh_I_c := Hid_mkN I_c
  have hh_S7 := Hid_mkN S7
  have hh_hB := Hid_mkN hB
  clear mb_c S0 S1 I_c S7 hB
  go_wp2_with fail
  clear c0 c1 c2 c3 c4
  have mb_c := hh_mb_c.out
  have S0 := hh_S0.out
  have S1 := hh_S1.out
  have I_c := hh_I_c.out
  have S7 := hh_S7.out
  have hB := hh_hB.out
  clear hh_mb_c hh_S0 hh_S1 hh_I_c hh_S7 hh_hB
  refine (past_is I_c nm HL.out.2.2.1 rfl).mono ?_
  rintro e w11 ⟨⟨l8, rfl, S8⟩, bb⟩
  replace mb_c := cells_below mb_c bb (Array.getElem?_eq_some_iff.1 mb_c).1
  replace hB := Below.on hB bb
  replace S0 := S0.below bb
  replace S1 := S1.below bb
  replace I_c := I_c.below bb
  replace S7 := S7.below bb
  clear bb
  obtain ⟨c0, c1, c2, c3, c4⟩ := five mb_c
  have hh_mb_c := Hid_mkN mb_c
  have hh_S0 := Hid_mkN S0
  have hh_S1 := Hid_mkN S1
  have hh_I_c := Hid_mkN I_c
  have hh_S7 := Hid_mkN S7
  have hh_hB := Hid_mkN hB
  clear mb_c S0 S1 I_c S7 hB
  go_wp2_with fail
  clear c0 c1 c2 c3 c4
  have mb_c := hh_mb_c.out
  have S0 := hh_S0.out
  have S1 := hh_S1.out
  have I_c := hh_I_c.out
  have S7 := hh_S7.out
  have hB := hh_hB.out
  clear hh_mb_c hh_S0 hh_S1 hh_I_c hh_S7 hh_hB
  refine (past_is I_c o HL.out.2.2.2.1 HL.out.2.2.2.2).mono ?_
  rintro e w12 ⟨⟨l9, rfl, S9⟩, bb⟩
  replace mb_c := cells_below mb_c bb (Array.getElem?_eq_some_iff.1 mb_c).1
  replace hB := Below.on hB bb
  replace S0 := S0.below bb
  replace S1 := S1.below bb
  replace I_c := I_c.below bb
  replace S7 := S7.below bb
  clear bb
  clear mb_c
  clear I_c
  have hh_S0 := Hid_mkN S0
  have hh_S1 := Hid_mkN S1
  have hh_S7 := Hid_mkN S7
  have hh_S9 := Hid_mkN S9
  have hh_hB := Hid_mkN hB
  clear S0 S1 S7 S9 hB
  go_wp2_with fail
  have S0 := hh_S0.out
  have S1 := hh_S1.out
  have S7 := hh_S7.out
  have S9 := hh_S9.out
  have hB := hh_hB.out
  clear hh_S0 hh_S1 hh_S7 hh_S9 hh_hB
  refine (snapsBegun_any _).mono ?_
  rintro e w13 ⟨rfl, bb⟩
  replace hB := Below.on hB bb
  replace S0 := S0.below bb
  replace S1 := S1.below bb
  replace S7 := S7.below bb
  replace S9 := S9.below bb
  clear bb
  have hh_S0 := Hid_mkN S0
  have hh_S1 := Hid_mkN S1
  have hh_S7 := Hid_mkN S7
  have hh_S9 := Hid_mkN S9
  have hh_hB := Hid_mkN hB
  clear S0 S1 S7 S9 hB
  go_wp2_with fail
  have S0 := hh_S0.out
  have S1 := hh_S1.out
  have S7 := hh_S7.out
  have S9 := hh_S9.out
  have hB := hh_hB.out
  clear hh_S0 hh_S1 hh_S7 hh_S9 hh_hB
  refine (samePages_any S7 S0).mono ?_
  rintro e w14 ⟨rfl, bb⟩
  replace hB := Below.on hB bb
  replace S0 := S0.below bb
  replace S1 := S1.below bb
  replace S7 := S7.below bb
  replace S9 := S9.below bb
  clear bb
  clear S7
  clear S9
  clear S0
  clear S1
  have hh_hB := Hid_mkN hB
  clear hB
  go_wp2_with fail
  go_ret
  have hB := hh_hB.out
  exact ⟨rfl, hB⟩

theorem bytes_eq {a b : ByteArray} (h : (a.toList == b.toList) = true) : a = b := by
  have e : a.toList = b.toList := by simpa using h
  cases a; cases b
  rename_i x y
  have e : x.toList = y.toList := by simpa [ByteArray.toList_eq] using e
  rw [Array.toList_inj.1 e]
theorem bytes_ne {a b : ByteArray} (h : (a.toList == b.toList) = false) : a.toList ≠ b.toList := fun e => by rw [e] at h; simp at h
theorem ntrue_is {w : World} {v : Value} {m : ImgD} (h : Img w v m) (nm o : ByteArray) :
    Calls Try.prog 4 #[v, .string nm, .string o] w fun r w' => r = .returned (.bool true) ∧ Below w.heap.size w w' := by
  have h' := h
  obtain ⟨ra, rc, sa, sc, fa, fc, na, nc, rfl, _⟩ := h.parts
  by_cases hC : checkE m = 0
  · by_cases eg : crE m nm = 0
    · obtain ⟨_, _, hx, _, _, _, hR, _⟩ := cr_ok eg
      obtain ⟨r1, r2, r3, r4⟩ := cr_reads eg
      have el : pastE m nm = 5 := by unfold pastE; rw [if_neg (fun x => x hC), hx]
      rcases Bool.eq_false_or_eq_true (nm.toList == o.toList) with heq | heq
      · have e : nm = o := bytes_eq heq
        subst e
        exact ntrue_100e ra rc sa sc fa fc na nc m nm nm w h' _ _ _ 5 5 _ _ ⟨hC, rfl, el, rfl⟩ ⟨rfl, eg⟩ ⟨rfl, el⟩ ⟨rfl, el⟩ rfl rfl rfl rfl heq (by simp [bne, heq]) _ _ ⟨r2, r3, hR, r1, rfl, rfl⟩
      · obtain ⟨q1, q2⟩ := r4 o (bytes_ne heq)
        by_cases ek : pastE m o = 0
        · obtain ⟨_, _, _, _, _, _, hB, _⟩ := rv_ok ek
          obtain ⟨v1, v2⟩ := rv_reads ek
          exact ntrue_110n ra rc sa sc fa fc na nc m nm o w h' _ _ _ 5 _ _ ⟨hC, rfl, ek, rfl⟩ ⟨rfl, eg⟩ ⟨rfl, ek⟩ ⟨rfl, el⟩ rfl rfl heq (by simp [bne, heq]) ⟨r2, r3, hR, r1, q2.trans ek, q1⟩ ⟨hB, v1, (v2 o).2.trans ek, (v2 o).1⟩
        · exact ntrue_100n ra rc sa sc fa fc na nc m nm o w h' _ _ _ _ 5 _ _ ⟨hC, rfl, rfl, rfl⟩ ⟨rfl, eg⟩ ⟨rfl, rfl⟩ ⟨rfl, el⟩ (by simpa using ek) (by simpa using ek) rfl rfl heq (by simp [bne, heq]) ⟨r2, r3, hR, r1, q2, q1⟩ (by simp) (by simp)
    · by_cases el : pastE m nm = 0
      · obtain ⟨_, _, _, _, _, _, hD, _⟩ := dl_ok el
        obtain ⟨d1, d2, d3⟩ := dl_reads el
        rcases Bool.eq_false_or_eq_true (nm.toList == o.toList) with heq | heq
        · have e : nm = o := bytes_eq heq
          subst e
          obtain ⟨_, _, _, _, _, _, hB, _⟩ := rv_ok el
          obtain ⟨v1, v2⟩ := rv_reads el
          exact ntrue_011e ra rc sa sc fa fc na nc m nm nm w h' _ _ _ _ _ _ ⟨hC, rfl, el, rfl⟩ ⟨rfl, rfl⟩ ⟨rfl, el⟩ ⟨rfl, el⟩ (by simpa using eg) (by simpa using eg) heq (by simp [bne, heq]) ⟨hB, v1, (v2 _).2.trans el, (v2 _).1⟩ _ _ ⟨hD, d1, d2, rfl, rfl⟩
        · obtain ⟨q1, q2⟩ := d3 o (bytes_ne heq)
          by_cases ek : pastE m o = 0
          · obtain ⟨_, _, _, _, _, _, hB, _⟩ := rv_ok ek
            obtain ⟨v1, v2⟩ := rv_reads ek
            exact ntrue_011n ra rc sa sc fa fc na nc m nm o w h' _ _ _ _ _ _ ⟨hC, rfl, ek, rfl⟩ ⟨rfl, rfl⟩ ⟨rfl, ek⟩ ⟨rfl, el⟩ (by simpa using eg) (by simpa using eg) heq (by simp [bne, heq]) ⟨hB, v1, (v2 o).2.trans ek, (v2 o).1⟩ ⟨hD, d1, d2, q2.trans ek, q1⟩
          · exact ntrue_001n ra rc sa sc fa fc na nc m nm o w h' _ _ _ _ _ _ _ ⟨hC, rfl, rfl, rfl⟩ ⟨rfl, rfl⟩ ⟨rfl, rfl⟩ ⟨rfl, el⟩ (by simpa using ek) (by simpa using ek) (by simpa using eg) (by simpa using eg) heq (by simp [bne, heq]) ⟨hD, d1, d2, q2, q1⟩ (by simp) (by simp)
      · by_cases ek : pastE m o = 0
        · obtain ⟨_, _, _, _, _, _, hB, _⟩ := rv_ok ek
          obtain ⟨v1, v2⟩ := rv_reads ek
          exact ntrue_010n ra rc sa sc fa fc na nc m nm o w h' _ _ _ _ _ _ _ ⟨hC, rfl, ek, rfl⟩ ⟨rfl, rfl⟩ ⟨rfl, ek⟩ ⟨rfl, rfl⟩ (by simpa using eg) (by simpa using eg) (by simpa using el) (by simpa using el) ⟨hB, v1, (v2 o).2.trans ek, (v2 o).1⟩
        · exact ntrue_000n ra rc sa sc fa fc na nc m nm o w h' _ _ _ _ _ _ _ _ ⟨hC, rfl, rfl, rfl⟩ ⟨rfl, rfl⟩ ⟨rfl, rfl⟩ ⟨rfl, rfl⟩ (by simpa using ek) (by simpa using ek) (by simpa using eg) (by simpa using eg) (by simpa using el) (by simpa using el)
  · exact ntrue_no ra rc sa sc fa fc na nc m nm o w h' _ (by simpa using hC) rfl
end Go.Proofs.Ytehleeibgkpjmae
