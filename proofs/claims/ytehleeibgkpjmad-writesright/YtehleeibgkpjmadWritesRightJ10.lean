/- Texts joined: WRight, SlotsIn, ImgIn. -/
import Derived.Test.YtehleeibgkpjmadWritesRightJ9
import Derived.Deep.CutRange
import Derived.Test.YtehleeibgkpjmadWritesRightJ1
import Derived.Deep.Strs
import Derived.Deep.Slices
import Derived.ProofKit
/- The walk of WritesRight. -/
namespace Go.Proofs.Ytehleeibgkpjmad
open Go.RowKit Go.Shelf
set_option maxRecDepth 20000
set_option linter.unusedVariables false

set_option maxHeartbeats 16000000 in
theorem wright_at (ra : Option Addr) (rc : Nat) (sa : Option Addr) (sc : Nat) (fa : Option Addr) (fc : Nat) (na : Option Addr) (nc : Nat) (m : ImgD) (n : Int) (page : ByteArray) (g : Int) (w : World) (h : Img w (.agg #[.int .i64 m.guest, .slice ra m.root.length rc, .slice sa m.slots.length sc, .slice fa m.refs.length fc, .slice na m.snaps.length nc]) m) :
    Calls Try.prog 3 #[.agg #[.int .i64 m.guest, .slice ra m.root.length rc, .slice sa m.slots.length sc, .slice fa m.refs.length fc, .slice na m.snaps.length nc], .int .i64 n, .string page, .int .i64 g] w fun r w' => r = .returned (.bool true) ∧ Below w.heap.size w w' := by
  have hB : Below w.heap.size w (w.alloc (.cells #[.int .i64 m.guest, .slice ra m.root.length rc, .slice sa m.slots.length sc, .slice fa m.refs.length fc, .slice na m.snaps.length nc] 26)) := (Below.refl _ _).alloc (Nat.le_refl _) _
  have mb_m : (w.alloc (.cells #[.int .i64 m.guest, .slice ra m.root.length rc, .slice sa m.slots.length sc, .slice fa m.refs.length fc, .slice na m.snaps.length nc] 26)).heap[w.heap.size]? = some (.cells #[.int .i64 m.guest, .slice ra m.root.length rc, .slice sa m.slots.length sc, .slice fa m.refs.length fc, .slice na m.snaps.length nc] 26) := World.alloc_heap_new _ _
  have I_m := h.below hB
  obtain ⟨MA, hMA⟩ : ∃ X, wrM m n page = X := ⟨_, rfl⟩
  obtain ⟨EA, hEA⟩ : ∃ X, wrE m n page = X := ⟨_, rfl⟩
  obtain ⟨MB, hMB⟩ : ∃ X, puM m n (-1) = X := ⟨_, rfl⟩
  obtain ⟨EB, hEB⟩ : ∃ X, puE m n (-1) = X := ⟨_, rfl⟩
  obtain ⟨MC, hMC⟩ : ∃ X, puM m n 0 = X := ⟨_, rfl⟩
  obtain ⟨EC, hEC⟩ : ∃ X, puE m n 0 = X := ⟨_, rfl⟩
  obtain ⟨MD, hMD⟩ : ∃ X, rzM m g = X := ⟨_, rfl⟩
  obtain ⟨ED, hED⟩ : ∃ X, rzE m g = X := ⟨_, rfl⟩
  have HA : Hid (wrM m n page = MA ∧ wrE m n page = EA) := ⟨hMA, hEA⟩
  have HB : Hid (puM m n (-1) = MB ∧ puE m n (-1) = EB) := ⟨hMB, hEB⟩
  have HC : Hid (puM m n 0 = MC ∧ puE m n 0 = EC) := ⟨hMC, hEC⟩
  have HD : Hid (rzM m g = MD ∧ rzE m g = ED) := ⟨hMD, hED⟩
  have KA : Hid (EA = 0 → lookE m n = 0 ∧ page.size = 4 ∧ Wrote m MA n.toNat page 2) := fun e => by subst hMA hEA; have := wr_ok e; exact ⟨this.1, this.2.1, this.2.2.2⟩
  have KB : Hid (EB = 0 → lookE m n = 0 ∧ Wrote m MB n.toNat Z4 1) := fun e => by subst hMB hEB; have := pu_ok (Or.inr rfl) e; exact ⟨this.1, this.2.2⟩
  have KC : Hid (EC = 0 → lookE m n = 0 ∧ Wrote m MC n.toNat Z4 1) := fun e => by subst hMC hEC; have := pu_ok (Or.inl rfl) e; exact ⟨this.1, this.2.2⟩
  have KD : Hid (ED = 0 → 0 ≤ g ∧ g ≤ 16 ∧ Resized m MD g.toNat) := fun e => by subst hMD hED; have := rz_ok e; exact ⟨this.2.1, this.2.2.1, this.2.2.2.2⟩
  clear hMA hEA hMB hEB hMC hEC hMD hED
  clear h
  go_enter Try.func3, Try.ntmps3
  obtain ⟨m0, m1, m2, m3, m4⟩ := five mb_m
  have hh_mb_m := Hid_mkW mb_m
  have hh_I_m := Hid_mkW I_m
  have hh_hB := Hid_mkW hB
  clear mb_m I_m hB
  go_wp2_with fail
  clear m0 m1 m2 m3 m4
  have mb_m := hh_mb_m.out
  have I_m := hh_I_m.out
  have hB := hh_hB.out
  clear hh_mb_m hh_I_m hh_hB
  refine (write_to I_m n page HA.out.1 HA.out.2).mono ?_
  intro e w1 hA
  obtain ⟨val, a_r, a_rc, a_s, a_sc, a_f, a_fc, a_n, a_nc, rfl, hO, bb, hI⟩ := hA.open
  dsimp only
  have I_a := hO.img
  rw [hI] at I_a
  clear hA hO hI
  replace mb_m := cells_below mb_m bb (Array.getElem?_eq_some_iff.1 mb_m).1
  replace hB := Below.on hB bb
  replace I_m := I_m.below bb
  clear bb
  replace mb_m := cells_alloc mb_m (.cells #[.int .i64 MA.guest, .slice a_r MA.root.length a_rc, .slice a_s MA.slots.length a_sc, .slice a_f MA.refs.length a_fc, .slice a_n MA.snaps.length a_nc] 26)
  have ba : Below w1.heap.size w1 (w1.alloc (.cells #[.int .i64 MA.guest, .slice a_r MA.root.length a_rc, .slice a_s MA.slots.length a_sc, .slice a_f MA.refs.length a_fc, .slice a_n MA.snaps.length a_nc] 26)) := (Below.refl _ _).alloc (Nat.le_refl _) _
  replace hB := Below.on hB ba
  replace I_m := I_m.below ba
  replace I_a := I_a.below ba
  clear ba
  have mb_a : (w1.alloc (.cells #[.int .i64 MA.guest, .slice a_r MA.root.length a_rc, .slice a_s MA.slots.length a_sc, .slice a_f MA.refs.length a_fc, .slice a_n MA.snaps.length a_nc] 26)).heap[w1.heap.size]? = some (.cells #[.int .i64 MA.guest, .slice a_r MA.root.length a_rc, .slice a_s MA.slots.length a_sc, .slice a_f MA.refs.length a_fc, .slice a_n MA.snaps.length a_nc] 26) := World.alloc_heap_new _ _
  obtain ⟨m0, m1, m2, m3, m4⟩ := five mb_m
  have hh_mb_m := Hid_mkW mb_m
  have hh_mb_a := Hid_mkW mb_a
  have hh_I_m := Hid_mkW I_m
  have hh_I_a := Hid_mkW I_a
  have hh_hB := Hid_mkW hB
  clear mb_m mb_a I_m I_a hB
  go_wp2_with fail
  clear m0 m1 m2 m3 m4
  have mb_m := hh_mb_m.out
  have mb_a := hh_mb_a.out
  have I_m := hh_I_m.out
  have I_a := hh_I_a.out
  have hB := hh_hB.out
  clear hh_mb_m hh_mb_a hh_I_m hh_I_a hh_hB
  refine (wipe_to I_m n HB.out.1 HB.out.2).mono ?_
  intro e w2 hA
  obtain ⟨val, b_r, b_rc, b_s, b_sc, b_f, b_fc, b_n, b_nc, rfl, hO, bb, hI⟩ := hA.open
  dsimp only
  have I_b := hO.img
  rw [hI] at I_b
  clear hA hO hI
  replace mb_m := cells_below mb_m bb (Array.getElem?_eq_some_iff.1 mb_m).1
  replace mb_a := cells_below mb_a bb (Array.getElem?_eq_some_iff.1 mb_a).1
  replace hB := Below.on hB bb
  replace I_m := I_m.below bb
  replace I_a := I_a.below bb
  clear bb
  replace mb_m := cells_alloc mb_m (.cells #[.int .i64 MB.guest, .slice b_r MB.root.length b_rc, .slice b_s MB.slots.length b_sc, .slice b_f MB.refs.length b_fc, .slice b_n MB.snaps.length b_nc] 26)
  replace mb_a := cells_alloc mb_a (.cells #[.int .i64 MB.guest, .slice b_r MB.root.length b_rc, .slice b_s MB.slots.length b_sc, .slice b_f MB.refs.length b_fc, .slice b_n MB.snaps.length b_nc] 26)
  have ba : Below w2.heap.size w2 (w2.alloc (.cells #[.int .i64 MB.guest, .slice b_r MB.root.length b_rc, .slice b_s MB.slots.length b_sc, .slice b_f MB.refs.length b_fc, .slice b_n MB.snaps.length b_nc] 26)) := (Below.refl _ _).alloc (Nat.le_refl _) _
  replace hB := Below.on hB ba
  replace I_m := I_m.below ba
  replace I_a := I_a.below ba
  replace I_b := I_b.below ba
  clear ba
  have mb_b : (w2.alloc (.cells #[.int .i64 MB.guest, .slice b_r MB.root.length b_rc, .slice b_s MB.slots.length b_sc, .slice b_f MB.refs.length b_fc, .slice b_n MB.snaps.length b_nc] 26)).heap[w2.heap.size]? = some (.cells #[.int .i64 MB.guest, .slice b_r MB.root.length b_rc, .slice b_s MB.slots.length b_sc, .slice b_f MB.refs.length b_fc, .slice b_n MB.snaps.length b_nc] 26) := World.alloc_heap_new _ _
  obtain ⟨m0, m1, m2, m3, m4⟩ := five mb_m
  have hh_mb_m := Hid_mkW mb_m
  have hh_mb_a := Hid_mkW mb_a
  have hh_mb_b := Hid_mkW mb_b
  have hh_I_m := Hid_mkW I_m
  have hh_I_a := Hid_mkW I_a
  have hh_I_b := Hid_mkW I_b
  have hh_hB := Hid_mkW hB
  clear mb_m mb_a mb_b I_m I_a I_b hB
  go_wp2_with fail
  clear m0 m1 m2 m3 m4
  have mb_m := hh_mb_m.out
  have mb_a := hh_mb_a.out
  have mb_b := hh_mb_b.out
  have I_m := hh_I_m.out
  have I_a := hh_I_a.out
  have I_b := hh_I_b.out
  have hB := hh_hB.out
  clear hh_mb_m hh_mb_a hh_mb_b hh_I_m hh_I_a hh_I_b hh_hB
  refine (punch_to I_m n HC.out.1 HC.out.2).mono ?_
  intro e w3 hA
  obtain ⟨val, c_r, c_rc, c_s, c_sc, c_f, c_fc, c_n, c_nc, rfl, hO, bb, hI⟩ := hA.open
  dsimp only
  have I_c := hO.img
  rw [hI] at I_c
  clear hA hO hI
  replace mb_m := cells_below mb_m bb (Array.getElem?_eq_some_iff.1 mb_m).1
  replace mb_a := cells_below mb_a bb (Array.getElem?_eq_some_iff.1 mb_a).1
  replace mb_b := cells_below mb_b bb (Array.getElem?_eq_some_iff.1 mb_b).1
  replace hB := Below.on hB bb
  replace I_m := I_m.below bb
  replace I_a := I_a.below bb
  replace I_b := I_b.below bb
  clear bb
  replace mb_m := cells_alloc mb_m (.cells #[.int .i64 MC.guest, .slice c_r MC.root.length c_rc, .slice c_s MC.slots.length c_sc, .slice c_f MC.refs.length c_fc, .slice c_n MC.snaps.length c_nc] 26)
  replace mb_a := cells_alloc mb_a (.cells #[.int .i64 MC.guest, .slice c_r MC.root.length c_rc, .slice c_s MC.slots.length c_sc, .slice c_f MC.refs.length c_fc, .slice c_n MC.snaps.length c_nc] 26)
  replace mb_b := cells_alloc mb_b (.cells #[.int .i64 MC.guest, .slice c_r MC.root.length c_rc, .slice c_s MC.slots.length c_sc, .slice c_f MC.refs.length c_fc, .slice c_n MC.snaps.length c_nc] 26)
  have ba : Below w3.heap.size w3 (w3.alloc (.cells #[.int .i64 MC.guest, .slice c_r MC.root.length c_rc, .slice c_s MC.slots.length c_sc, .slice c_f MC.refs.length c_fc, .slice c_n MC.snaps.length c_nc] 26)) := (Below.refl _ _).alloc (Nat.le_refl _) _
  replace hB := Below.on hB ba
  replace I_m := I_m.below ba
  replace I_a := I_a.below ba
  replace I_b := I_b.below ba
  replace I_c := I_c.below ba
  clear ba
  have mb_c : (w3.alloc (.cells #[.int .i64 MC.guest, .slice c_r MC.root.length c_rc, .slice c_s MC.slots.length c_sc, .slice c_f MC.refs.length c_fc, .slice c_n MC.snaps.length c_nc] 26)).heap[w3.heap.size]? = some (.cells #[.int .i64 MC.guest, .slice c_r MC.root.length c_rc, .slice c_s MC.slots.length c_sc, .slice c_f MC.refs.length c_fc, .slice c_n MC.snaps.length c_nc] 26) := World.alloc_heap_new _ _
  obtain ⟨m0, m1, m2, m3, m4⟩ := five mb_m
  have hh_mb_m := Hid_mkW mb_m
  have hh_mb_a := Hid_mkW mb_a
  have hh_mb_b := Hid_mkW mb_b
  have hh_mb_c := Hid_mkW mb_c
  have hh_I_m := Hid_mkW I_m
  have hh_I_a := Hid_mkW I_a
  have hh_I_b := Hid_mkW I_b
  have hh_I_c := Hid_mkW I_c
  have hh_hB := Hid_mkW hB
  clear mb_m mb_a mb_b mb_c I_m I_a I_b I_c hB
  go_wp2_with fail
  clear m0 m1 m2 m3 m4
  have mb_m := hh_mb_m.out
  have mb_a := hh_mb_a.out
  have mb_b := hh_mb_b.out
  have mb_c := hh_mb_c.out
  have I_m := hh_I_m.out
  have I_a := hh_I_a.out
  have I_b := hh_I_b.out
  have I_c := hh_I_c.out
  have hB := hh_hB.out
  clear hh_mb_m hh_mb_a hh_mb_b hh_mb_c hh_I_m hh_I_a hh_I_b hh_I_c hh_hB
  refine (resize_to I_m g HD.out.1 HD.out.2).mono ?_
  intro e w4 hA
  obtain ⟨val, d_r, d_rc, d_s, d_sc, d_f, d_fc, d_n, d_nc, rfl, hO, bb, hI⟩ := hA.open
  dsimp only
  have I_d := hO.img
  rw [hI] at I_d
  clear hA hO hI
  replace mb_m := cells_below mb_m bb (Array.getElem?_eq_some_iff.1 mb_m).1
  replace mb_a := cells_below mb_a bb (Array.getElem?_eq_some_iff.1 mb_a).1
  replace mb_b := cells_below mb_b bb (Array.getElem?_eq_some_iff.1 mb_b).1
  replace mb_c := cells_below mb_c bb (Array.getElem?_eq_some_iff.1 mb_c).1
  replace hB := Below.on hB bb
  replace I_m := I_m.below bb
  replace I_a := I_a.below bb
  replace I_b := I_b.below bb
  replace I_c := I_c.below bb
  clear bb
  replace mb_m := cells_alloc mb_m (.cells #[.int .i64 MD.guest, .slice d_r MD.root.length d_rc, .slice d_s MD.slots.length d_sc, .slice d_f MD.refs.length d_fc, .slice d_n MD.snaps.length d_nc] 26)
  replace mb_a := cells_alloc mb_a (.cells #[.int .i64 MD.guest, .slice d_r MD.root.length d_rc, .slice d_s MD.slots.length d_sc, .slice d_f MD.refs.length d_fc, .slice d_n MD.snaps.length d_nc] 26)
  replace mb_b := cells_alloc mb_b (.cells #[.int .i64 MD.guest, .slice d_r MD.root.length d_rc, .slice d_s MD.slots.length d_sc, .slice d_f MD.refs.length d_fc, .slice d_n MD.snaps.length d_nc] 26)
  replace mb_c := cells_alloc mb_c (.cells #[.int .i64 MD.guest, .slice d_r MD.root.length d_rc, .slice d_s MD.slots.length d_sc, .slice d_f MD.refs.length d_fc, .slice d_n MD.snaps.length d_nc] 26)
  have ba : Below w4.heap.size w4 (w4.alloc (.cells #[.int .i64 MD.guest, .slice d_r MD.root.length d_rc, .slice d_s MD.slots.length d_sc, .slice d_f MD.refs.length d_fc, .slice d_n MD.snaps.length d_nc] 26)) := (Below.refl _ _).alloc (Nat.le_refl _) _
  replace hB := Below.on hB ba
  replace I_m := I_m.below ba
  replace I_a := I_a.below ba
  replace I_b := I_b.below ba
  replace I_c := I_c.below ba
  replace I_d := I_d.below ba
  clear ba
  have mb_d : (w4.alloc (.cells #[.int .i64 MD.guest, .slice d_r MD.root.length d_rc, .slice d_s MD.slots.length d_sc, .slice d_f MD.refs.length d_fc, .slice d_n MD.snaps.length d_nc] 26)).heap[w4.heap.size]? = some (.cells #[.int .i64 MD.guest, .slice d_r MD.root.length d_rc, .slice d_s MD.slots.length d_sc, .slice d_f MD.refs.length d_fc, .slice d_n MD.snaps.length d_nc] 26) := World.alloc_heap_new _ _
  have hh_mb_m := Hid_mkW mb_m
  have hh_mb_a := Hid_mkW mb_a
  have hh_mb_b := Hid_mkW mb_b
  have hh_mb_c := Hid_mkW mb_c
  have hh_mb_d := Hid_mkW mb_d
  have hh_I_m := Hid_mkW I_m
  have hh_I_a := Hid_mkW I_a
  have hh_I_b := Hid_mkW I_b
  have hh_I_c := Hid_mkW I_c
  have hh_I_d := Hid_mkW I_d
  have hh_hB := Hid_mkW hB
  clear mb_m mb_a mb_b mb_c mb_d I_m I_a I_b I_c I_d hB
  go_upto_region 5 with fail
  have mb_m := hh_mb_m.out
  have mb_a := hh_mb_a.out
  have mb_b := hh_mb_b.out
  have mb_c := hh_mb_c.out
  have mb_d := hh_mb_d.out
  have I_m := hh_I_m.out
  have I_a := hh_I_a.out
  have I_b := hh_I_b.out
  have I_c := hh_I_c.out
  have I_d := hh_I_d.out
  have hB := hh_hB.out
  clear hh_mb_m hh_mb_a hh_mb_b hh_mb_c hh_mb_d hh_I_m hh_I_a hh_I_b hh_I_c hh_I_d hh_hB
  go_cut [111] from 17 (fun s wx => s = .bool false ∧ Hid (Below w.heap.size w wx))
  case first =>
    dsimp only [List.append]
    rcases Bool.eq_false_or_eq_true (EA == 0) with bEA | bEA
    · skip
      have nEA : (EA != 0) = false := by show (!(EA == 0)) = _; rw [bEA]; rfl
      have k0 := (KA.out (by simpa using bEA)).2.2
      have HRA : Hid (checkE MA = 0) := k0.right
      have hm2 : m.slots.length + 2 ≤ 9223372036854775807 := by have := (slotsE_parts (shapeE_zero (checkE_shape (lookE_prt (KA.out (by simpa using bEA)).1).1)).2.1).2; omega
      have hlA : decide ((m.slots.length : Int) + 2 < (MA.slots.length : Int)) = false := by have := k0.len; simp; omega
      clear k0
      obtain ⟨m0, m1, m2, m3, m4⟩ := five mb_m
      obtain ⟨a0, a1, a2, a3, a4⟩ := five mb_a
      obtain ⟨b0, b1, b2, b3, b4⟩ := five mb_b
      obtain ⟨c0, c1, c2, c3, c4⟩ := five mb_c
      obtain ⟨d0, d1, d2, d3, d4⟩ := five mb_d
      have hh_mb_m := Hid_mkW mb_m
      have hh_mb_a := Hid_mkW mb_a
      have hh_mb_b := Hid_mkW mb_b
      have hh_mb_c := Hid_mkW mb_c
      have hh_mb_d := Hid_mkW mb_d
      have hh_I_m := Hid_mkW I_m
      have hh_I_a := Hid_mkW I_a
      have hh_I_b := Hid_mkW I_b
      have hh_I_c := Hid_mkW I_c
      have hh_I_d := Hid_mkW I_d
      have hh_hB := Hid_mkW hB
      clear mb_m mb_a mb_b mb_c mb_d I_m I_a I_b I_c I_d hB
      go_wp2_with fail
      clear m0 m1 m2 m3 m4 a0 a1 a2 a3 a4 b0 b1 b2 b3 b4 c0 c1 c2 c3 c4 d0 d1 d2 d3 d4
      have mb_m := hh_mb_m.out
      have mb_a := hh_mb_a.out
      have mb_b := hh_mb_b.out
      have mb_c := hh_mb_c.out
      have mb_d := hh_mb_d.out
      have I_m := hh_I_m.out
      have I_a := hh_I_a.out
      have I_b := hh_I_b.out
      have I_c := hh_I_c.out
      have I_d := hh_I_d.out
      have hB := hh_hB.out
      clear hh_mb_m hh_mb_a hh_mb_b hh_mb_c hh_mb_d hh_I_m hh_I_a hh_I_b hh_I_c hh_I_d hh_hB
      refine (tcheck_is I_a HRA.out).mono ?_
      rintro e w5 ⟨rfl, bb⟩
      replace mb_m := cells_below mb_m bb (Array.getElem?_eq_some_iff.1 mb_m).1
      replace mb_a := cells_below mb_a bb (Array.getElem?_eq_some_iff.1 mb_a).1
      replace mb_b := cells_below mb_b bb (Array.getElem?_eq_some_iff.1 mb_b).1
      replace mb_c := cells_below mb_c bb (Array.getElem?_eq_some_iff.1 mb_c).1
      replace mb_d := cells_below mb_d bb (Array.getElem?_eq_some_iff.1 mb_d).1
      replace hB := Below.on hB bb
      replace I_m := I_m.below bb
      replace I_a := I_a.below bb
      replace I_b := I_b.below bb
      replace I_c := I_c.below bb
      replace I_d := I_d.below bb
      clear bb
      clear I_a
      rcases Bool.eq_false_or_eq_true (EB == 0) with bEB | bEB
      · skip
        have nEB : (EB != 0) = false := by show (!(EB == 0)) = _; rw [bEB]; rfl
        have k0 := (KB.out (by simpa using bEB)).2
        have HRB : Hid (checkE MB = 0) := k0.right
        have hm1 : m.slots.length + 1 ≤ 9223372036854775807 := by have := (slotsE_parts (shapeE_zero (checkE_shape (lookE_prt (KB.out (by simpa using bEB)).1).1)).2.1).2; omega
        have hlB : decide ((m.slots.length : Int) + 1 < (MB.slots.length : Int)) = false := by have := k0.len; simp; omega
        clear k0
        obtain ⟨m0, m1, m2, m3, m4⟩ := five mb_m
        obtain ⟨a0, a1, a2, a3, a4⟩ := five mb_a
        obtain ⟨b0, b1, b2, b3, b4⟩ := five mb_b
        obtain ⟨c0, c1, c2, c3, c4⟩ := five mb_c
        obtain ⟨d0, d1, d2, d3, d4⟩ := five mb_d
        have hh_mb_m := Hid_mkW mb_m
        have hh_mb_a := Hid_mkW mb_a
        have hh_mb_b := Hid_mkW mb_b
        have hh_mb_c := Hid_mkW mb_c
        have hh_mb_d := Hid_mkW mb_d
        have hh_I_m := Hid_mkW I_m
        have hh_I_b := Hid_mkW I_b
        have hh_I_c := Hid_mkW I_c
        have hh_I_d := Hid_mkW I_d
        have hh_hB := Hid_mkW hB
        clear mb_m mb_a mb_b mb_c mb_d I_m I_b I_c I_d hB
        go_wp2_with fail
        clear m0 m1 m2 m3 m4 a0 a1 a2 a3 a4 b0 b1 b2 b3 b4 c0 c1 c2 c3 c4 d0 d1 d2 d3 d4
        have mb_m := hh_mb_m.out
        have mb_a := hh_mb_a.out
        have mb_b := hh_mb_b.out
        have mb_c := hh_mb_c.out
        have mb_d := hh_mb_d.out
        have I_m := hh_I_m.out
        have I_b := hh_I_b.out
        have I_c := hh_I_c.out
        have I_d := hh_I_d.out
        have hB := hh_hB.out
        clear hh_mb_m hh_mb_a hh_mb_b hh_mb_c hh_mb_d hh_I_m hh_I_b hh_I_c hh_I_d hh_hB
        refine (tcheck_is I_b HRB.out).mono ?_
        rintro e w6 ⟨rfl, bb⟩
        replace mb_m := cells_below mb_m bb (Array.getElem?_eq_some_iff.1 mb_m).1
        replace mb_a := cells_below mb_a bb (Array.getElem?_eq_some_iff.1 mb_a).1
        replace mb_b := cells_below mb_b bb (Array.getElem?_eq_some_iff.1 mb_b).1
        replace mb_c := cells_below mb_c bb (Array.getElem?_eq_some_iff.1 mb_c).1
        replace mb_d := cells_below mb_d bb (Array.getElem?_eq_some_iff.1 mb_d).1
        replace hB := Below.on hB bb
        replace I_m := I_m.below bb
        replace I_b := I_b.below bb
        replace I_c := I_c.below bb
        replace I_d := I_d.below bb
        clear bb
        clear I_b
        rcases Bool.eq_false_or_eq_true (EC == 0) with bEC | bEC
        · skip
          have nEC : (EC != 0) = false := by show (!(EC == 0)) = _; rw [bEC]; rfl
          have k0 := (KC.out (by simpa using bEC)).2
          have HRC : Hid (checkE MC = 0) := k0.right
          have hm1 : m.slots.length + 1 ≤ 9223372036854775807 := by have := (slotsE_parts (shapeE_zero (checkE_shape (lookE_prt (KC.out (by simpa using bEC)).1).1)).2.1).2; omega
          have hlC : decide ((m.slots.length : Int) + 1 < (MC.slots.length : Int)) = false := by have := k0.len; simp; omega
          clear k0
          obtain ⟨m0, m1, m2, m3, m4⟩ := five mb_m
          obtain ⟨a0, a1, a2, a3, a4⟩ := five mb_a
          obtain ⟨b0, b1, b2, b3, b4⟩ := five mb_b
          obtain ⟨c0, c1, c2, c3, c4⟩ := five mb_c
          obtain ⟨d0, d1, d2, d3, d4⟩ := five mb_d
          have hh_mb_m := Hid_mkW mb_m
          have hh_mb_a := Hid_mkW mb_a
          have hh_mb_b := Hid_mkW mb_b
          have hh_mb_c := Hid_mkW mb_c
          have hh_mb_d := Hid_mkW mb_d
          have hh_I_m := Hid_mkW I_m
          have hh_I_c := Hid_mkW I_c
          have hh_I_d := Hid_mkW I_d
          have hh_hB := Hid_mkW hB
          clear mb_m mb_a mb_b mb_c mb_d I_m I_c I_d hB
          go_wp2_with fail
          clear m0 m1 m2 m3 m4 a0 a1 a2 a3 a4 b0 b1 b2 b3 b4 c0 c1 c2 c3 c4 d0 d1 d2 d3 d4
          have mb_m := hh_mb_m.out
          have mb_a := hh_mb_a.out
          have mb_b := hh_mb_b.out
          have mb_c := hh_mb_c.out
          have mb_d := hh_mb_d.out
          have I_m := hh_I_m.out
          have I_c := hh_I_c.out
          have I_d := hh_I_d.out
          have hB := hh_hB.out
          clear hh_mb_m hh_mb_a hh_mb_b hh_mb_c hh_mb_d hh_I_m hh_I_c hh_I_d hh_hB
          refine (tcheck_is I_c HRC.out).mono ?_
          rintro e w7 ⟨rfl, bb⟩
          replace mb_m := cells_below mb_m bb (Array.getElem?_eq_some_iff.1 mb_m).1
          replace mb_a := cells_below mb_a bb (Array.getElem?_eq_some_iff.1 mb_a).1
          replace mb_b := cells_below mb_b bb (Array.getElem?_eq_some_iff.1 mb_b).1
          replace mb_c := cells_below mb_c bb (Array.getElem?_eq_some_iff.1 mb_c).1
          replace mb_d := cells_below mb_d bb (Array.getElem?_eq_some_iff.1 mb_d).1
          replace hB := Below.on hB bb
          replace I_m := I_m.below bb
          replace I_c := I_c.below bb
          replace I_d := I_d.below bb
          clear bb
          clear I_c
          rcases Bool.eq_false_or_eq_true (ED == 0) with bED | bED
          · skip
            have nED : (ED != 0) = false := by show (!(ED == 0)) = _; rw [bED]; rfl
            have k0 := (KD.out (by simpa using bED)).2.2
            have HRD : Hid (checkE MD = 0) := k0.right
            have gd : MD.guest = g := by have := k0.guest; have := KD.out (by simpa using bED); omega
            have hgd : (MD.guest != g) = false := by simp [gd]
            clear gd
            clear k0
            obtain ⟨m0, m1, m2, m3, m4⟩ := five mb_m
            obtain ⟨a0, a1, a2, a3, a4⟩ := five mb_a
            obtain ⟨b0, b1, b2, b3, b4⟩ := five mb_b
            obtain ⟨c0, c1, c2, c3, c4⟩ := five mb_c
            obtain ⟨d0, d1, d2, d3, d4⟩ := five mb_d
            have hh_mb_m := Hid_mkW mb_m
            have hh_mb_a := Hid_mkW mb_a
            have hh_mb_b := Hid_mkW mb_b
            have hh_mb_c := Hid_mkW mb_c
            have hh_mb_d := Hid_mkW mb_d
            have hh_I_m := Hid_mkW I_m
            have hh_I_d := Hid_mkW I_d
            have hh_hB := Hid_mkW hB
            clear mb_m mb_a mb_b mb_c mb_d I_m I_d hB
            go_wp2_with fail
            clear m0 m1 m2 m3 m4 a0 a1 a2 a3 a4 b0 b1 b2 b3 b4 c0 c1 c2 c3 c4 d0 d1 d2 d3 d4
            have mb_m := hh_mb_m.out
            have mb_a := hh_mb_a.out
            have mb_b := hh_mb_b.out
            have mb_c := hh_mb_c.out
            have mb_d := hh_mb_d.out
            have I_m := hh_I_m.out
            have I_d := hh_I_d.out
            have hB := hh_hB.out
            clear hh_mb_m hh_mb_a hh_mb_b hh_mb_c hh_mb_d hh_I_m hh_I_d hh_hB
            refine (tcheck_is I_d HRD.out).mono ?_
            rintro e w8 ⟨rfl, bb⟩
            replace mb_m := cells_below mb_m bb (Array.getElem?_eq_some_iff.1 mb_m).1
            replace mb_a := cells_below mb_a bb (Array.getElem?_eq_some_iff.1 mb_a).1
            replace mb_b := cells_below mb_b bb (Array.getElem?_eq_some_iff.1 mb_b).1
            replace mb_c := cells_below mb_c bb (Array.getElem?_eq_some_iff.1 mb_c).1
            replace mb_d := cells_below mb_d bb (Array.getElem?_eq_some_iff.1 mb_d).1
            replace hB := Below.on hB bb
            replace I_m := I_m.below bb
            replace I_d := I_d.below bb
            clear bb
            clear I_d
            obtain ⟨m0, m1, m2, m3, m4⟩ := five mb_m
            obtain ⟨a0, a1, a2, a3, a4⟩ := five mb_a
            obtain ⟨b0, b1, b2, b3, b4⟩ := five mb_b
            obtain ⟨c0, c1, c2, c3, c4⟩ := five mb_c
            obtain ⟨d0, d1, d2, d3, d4⟩ := five mb_d
            have hh_mb_m := Hid_mkW mb_m
            have hh_mb_a := Hid_mkW mb_a
            have hh_mb_b := Hid_mkW mb_b
            have hh_mb_c := Hid_mkW mb_c
            have hh_mb_d := Hid_mkW mb_d
            have hh_I_m := Hid_mkW I_m
            have hh_hB := Hid_mkW hB
            clear mb_m mb_a mb_b mb_c mb_d I_m hB
            go_wp2_with fail
            clear m0 m1 m2 m3 m4 a0 a1 a2 a3 a4 b0 b1 b2 b3 b4 c0 c1 c2 c3 c4 d0 d1 d2 d3 d4
            have mb_m := hh_mb_m.out
            have mb_a := hh_mb_a.out
            have mb_b := hh_mb_b.out
            have mb_c := hh_mb_c.out
            have mb_d := hh_mb_d.out
            have I_m := hh_I_m.out
            have hB := hh_hB.out
            clear hh_mb_m hh_mb_a hh_mb_b hh_mb_c hh_mb_d hh_I_m hh_hB
            go_meet
            exact ⟨rfl, hB⟩
          · skip
            have nED : (ED != 0) = true := by show (!(ED == 0)) = _; rw [bED]; rfl
            obtain ⟨m0, m1, m2, m3, m4⟩ := five mb_m
            obtain ⟨a0, a1, a2, a3, a4⟩ := five mb_a
            obtain ⟨b0, b1, b2, b3, b4⟩ := five mb_b
            obtain ⟨c0, c1, c2, c3, c4⟩ := five mb_c
            obtain ⟨d0, d1, d2, d3, d4⟩ := five mb_d
            have hh_mb_m := Hid_mkW mb_m
            have hh_mb_a := Hid_mkW mb_a
            have hh_mb_b := Hid_mkW mb_b
            have hh_mb_c := Hid_mkW mb_c
            have hh_mb_d := Hid_mkW mb_d
            have hh_I_m := Hid_mkW I_m
            have hh_I_d := Hid_mkW I_d
            have hh_hB := Hid_mkW hB
            clear mb_m mb_a mb_b mb_c mb_d I_m I_d hB
            go_wp2_with fail
            clear m0 m1 m2 m3 m4 a0 a1 a2 a3 a4 b0 b1 b2 b3 b4 c0 c1 c2 c3 c4 d0 d1 d2 d3 d4
            have mb_m := hh_mb_m.out
            have mb_a := hh_mb_a.out
            have mb_b := hh_mb_b.out
            have mb_c := hh_mb_c.out
            have mb_d := hh_mb_d.out
            have I_m := hh_I_m.out
            have I_d := hh_I_d.out
            have hB := hh_hB.out
            clear hh_mb_m hh_mb_a hh_mb_b hh_mb_c hh_mb_d hh_I_m hh_I_d hh_hB
            go_meet
            exact ⟨rfl, hB⟩
        · skip
          have nEC : (EC != 0) = true := by show (!(EC == 0)) = _; rw [bEC]; rfl
          rcases Bool.eq_false_or_eq_true (ED == 0) with bED | bED
          · skip
            have nED : (ED != 0) = false := by show (!(ED == 0)) = _; rw [bED]; rfl
            have k0 := (KD.out (by simpa using bED)).2.2
            have HRD : Hid (checkE MD = 0) := k0.right
            have gd : MD.guest = g := by have := k0.guest; have := KD.out (by simpa using bED); omega
            have hgd : (MD.guest != g) = false := by simp [gd]
            clear gd
            clear k0
            obtain ⟨m0, m1, m2, m3, m4⟩ := five mb_m
            obtain ⟨a0, a1, a2, a3, a4⟩ := five mb_a
            obtain ⟨b0, b1, b2, b3, b4⟩ := five mb_b
            obtain ⟨c0, c1, c2, c3, c4⟩ := five mb_c
            obtain ⟨d0, d1, d2, d3, d4⟩ := five mb_d
            have hh_mb_m := Hid_mkW mb_m
            have hh_mb_a := Hid_mkW mb_a
            have hh_mb_b := Hid_mkW mb_b
            have hh_mb_c := Hid_mkW mb_c
            have hh_mb_d := Hid_mkW mb_d
            have hh_I_m := Hid_mkW I_m
            have hh_I_c := Hid_mkW I_c
            have hh_I_d := Hid_mkW I_d
            have hh_hB := Hid_mkW hB
            clear mb_m mb_a mb_b mb_c mb_d I_m I_c I_d hB
            go_wp2_with fail
            clear m0 m1 m2 m3 m4 a0 a1 a2 a3 a4 b0 b1 b2 b3 b4 c0 c1 c2 c3 c4 d0 d1 d2 d3 d4
            have mb_m := hh_mb_m.out
            have mb_a := hh_mb_a.out
            have mb_b := hh_mb_b.out
            have mb_c := hh_mb_c.out
            have mb_d := hh_mb_d.out
            have I_m := hh_I_m.out
            have I_c := hh_I_c.out
            have I_d := hh_I_d.out
            have hB := hh_hB.out
            clear hh_mb_m hh_mb_a hh_mb_b hh_mb_c hh_mb_d hh_I_m hh_I_c hh_I_d hh_hB
            refine (tcheck_is I_d HRD.out).mono ?_
            rintro e w7 ⟨rfl, bb⟩
            replace mb_m := cells_below mb_m bb (Array.getElem?_eq_some_iff.1 mb_m).1
            replace mb_a := cells_below mb_a bb (Array.getElem?_eq_some_iff.1 mb_a).1
            replace mb_b := cells_below mb_b bb (Array.getElem?_eq_some_iff.1 mb_b).1
            replace mb_c := cells_below mb_c bb (Array.getElem?_eq_some_iff.1 mb_c).1
            replace mb_d := cells_below mb_d bb (Array.getElem?_eq_some_iff.1 mb_d).1
            replace hB := Below.on hB bb
            replace I_m := I_m.below bb
            replace I_c := I_c.below bb
            replace I_d := I_d.below bb
            clear bb
            clear I_d
            obtain ⟨m0, m1, m2, m3, m4⟩ := five mb_m
            obtain ⟨a0, a1, a2, a3, a4⟩ := five mb_a
            obtain ⟨b0, b1, b2, b3, b4⟩ := five mb_b
            obtain ⟨c0, c1, c2, c3, c4⟩ := five mb_c
            obtain ⟨d0, d1, d2, d3, d4⟩ := five mb_d
            have hh_mb_m := Hid_mkW mb_m
            have hh_mb_a := Hid_mkW mb_a
            have hh_mb_b := Hid_mkW mb_b
            have hh_mb_c := Hid_mkW mb_c
            have hh_mb_d := Hid_mkW mb_d
            have hh_I_m := Hid_mkW I_m
            have hh_I_c := Hid_mkW I_c
            have hh_hB := Hid_mkW hB
            clear mb_m mb_a mb_b mb_c mb_d I_m I_c hB
            go_wp2_with fail
            clear m0 m1 m2 m3 m4 a0 a1 a2 a3 a4 b0 b1 b2 b3 b4 c0 c1 c2 c3 c4 d0 d1 d2 d3 d4
            have mb_m := hh_mb_m.out
            have mb_a := hh_mb_a.out
            have mb_b := hh_mb_b.out
            have mb_c := hh_mb_c.out
            have mb_d := hh_mb_d.out
            have I_m := hh_I_m.out
            have I_c := hh_I_c.out
            have hB := hh_hB.out
            clear hh_mb_m hh_mb_a hh_mb_b hh_mb_c hh_mb_d hh_I_m hh_I_c hh_hB
            go_meet
            exact ⟨rfl, hB⟩
          · skip
            have nED : (ED != 0) = true := by show (!(ED == 0)) = _; rw [bED]; rfl
            obtain ⟨m0, m1, m2, m3, m4⟩ := five mb_m
            obtain ⟨a0, a1, a2, a3, a4⟩ := five mb_a
            obtain ⟨b0, b1, b2, b3, b4⟩ := five mb_b
            obtain ⟨c0, c1, c2, c3, c4⟩ := five mb_c
            obtain ⟨d0, d1, d2, d3, d4⟩ := five mb_d
            have hh_mb_m := Hid_mkW mb_m
            have hh_mb_a := Hid_mkW mb_a
            have hh_mb_b := Hid_mkW mb_b
            have hh_mb_c := Hid_mkW mb_c
            have hh_mb_d := Hid_mkW mb_d
            have hh_I_m := Hid_mkW I_m
            have hh_I_c := Hid_mkW I_c
            have hh_I_d := Hid_mkW I_d
            have hh_hB := Hid_mkW hB
            clear mb_m mb_a mb_b mb_c mb_d I_m I_c I_d hB
            go_wp2_with fail
            clear m0 m1 m2 m3 m4 a0 a1 a2 a3 a4 b0 b1 b2 b3 b4 c0 c1 c2 c3 c4 d0 d1 d2 d3 d4
            have mb_m := hh_mb_m.out
            have mb_a := hh_mb_a.out
            have mb_b := hh_mb_b.out
            have mb_c := hh_mb_c.out
            have mb_d := hh_mb_d.out
            have I_m := hh_I_m.out
            have I_c := hh_I_c.out
            have I_d := hh_I_d.out
            have hB := hh_hB.out
            clear hh_mb_m hh_mb_a hh_mb_b hh_mb_c hh_mb_d hh_I_m hh_I_c hh_I_d hh_hB
            go_meet
            exact ⟨rfl, hB⟩
      · skip
        have nEB : (EB != 0) = true := by show (!(EB == 0)) = _; rw [bEB]; rfl
        rcases Bool.eq_false_or_eq_true (EC == 0) with bEC | bEC
        · skip
          have nEC : (EC != 0) = false := by show (!(EC == 0)) = _; rw [bEC]; rfl
          have k0 := (KC.out (by simpa using bEC)).2
          have HRC : Hid (checkE MC = 0) := k0.right
          have hm1 : m.slots.length + 1 ≤ 9223372036854775807 := by have := (slotsE_parts (shapeE_zero (checkE_shape (lookE_prt (KC.out (by simpa using bEC)).1).1)).2.1).2; omega
          have hlC : decide ((m.slots.length : Int) + 1 < (MC.slots.length : Int)) = false := by have := k0.len; simp; omega
          clear k0
          obtain ⟨m0, m1, m2, m3, m4⟩ := five mb_m
          obtain ⟨a0, a1, a2, a3, a4⟩ := five mb_a
          obtain ⟨b0, b1, b2, b3, b4⟩ := five mb_b
          obtain ⟨c0, c1, c2, c3, c4⟩ := five mb_c
          obtain ⟨d0, d1, d2, d3, d4⟩ := five mb_d
          have hh_mb_m := Hid_mkW mb_m
          have hh_mb_a := Hid_mkW mb_a
          have hh_mb_b := Hid_mkW mb_b
          have hh_mb_c := Hid_mkW mb_c
          have hh_mb_d := Hid_mkW mb_d
          have hh_I_m := Hid_mkW I_m
          have hh_I_b := Hid_mkW I_b
          have hh_I_c := Hid_mkW I_c
          have hh_I_d := Hid_mkW I_d
          have hh_hB := Hid_mkW hB
          clear mb_m mb_a mb_b mb_c mb_d I_m I_b I_c I_d hB
          go_wp2_with fail
          clear m0 m1 m2 m3 m4 a0 a1 a2 a3 a4 b0 b1 b2 b3 b4 c0 c1 c2 c3 c4 d0 d1 d2 d3 d4
          have mb_m := hh_mb_m.out
          have mb_a := hh_mb_a.out
          have mb_b := hh_mb_b.out
          have mb_c := hh_mb_c.out
          have mb_d := hh_mb_d.out
          have I_m := hh_I_m.out
          have I_b := hh_I_b.out
          have I_c := hh_I_c.out
          have I_d := hh_I_d.out
          have hB := hh_hB.out
          clear hh_mb_m hh_mb_a hh_mb_b hh_mb_c hh_mb_d hh_I_m hh_I_b hh_I_c hh_I_d hh_hB
          refine (tcheck_is I_c HRC.out).mono ?_
          rintro e w6 ⟨rfl, bb⟩
          replace mb_m := cells_below mb_m bb (Array.getElem?_eq_some_iff.1 mb_m).1
          replace mb_a := cells_below mb_a bb (Array.getElem?_eq_some_iff.1 mb_a).1
          replace mb_b := cells_below mb_b bb (Array.getElem?_eq_some_iff.1 mb_b).1
          replace mb_c := cells_below mb_c bb (Array.getElem?_eq_some_iff.1 mb_c).1
          replace mb_d := cells_below mb_d bb (Array.getElem?_eq_some_iff.1 mb_d).1
          replace hB := Below.on hB bb
          replace I_m := I_m.below bb
          replace I_b := I_b.below bb
          replace I_c := I_c.below bb
          replace I_d := I_d.below bb
          clear bb
          clear I_c
          rcases Bool.eq_false_or_eq_true (ED == 0) with bED | bED
          · skip
            have nED : (ED != 0) = false := by show (!(ED == 0)) = _; rw [bED]; rfl
            have k0 := (KD.out (by simpa using bED)).2.2
            have HRD : Hid (checkE MD = 0) := k0.right
            have gd : MD.guest = g := by have := k0.guest; have := KD.out (by simpa using bED); omega
            have hgd : (MD.guest != g) = false := by simp [gd]
            clear gd
            clear k0
            obtain ⟨m0, m1, m2, m3, m4⟩ := five mb_m
            obtain ⟨a0, a1, a2, a3, a4⟩ := five mb_a
            obtain ⟨b0, b1, b2, b3, b4⟩ := five mb_b
            obtain ⟨c0, c1, c2, c3, c4⟩ := five mb_c
            obtain ⟨d0, d1, d2, d3, d4⟩ := five mb_d
            have hh_mb_m := Hid_mkW mb_m
            have hh_mb_a := Hid_mkW mb_a
            have hh_mb_b := Hid_mkW mb_b
            have hh_mb_c := Hid_mkW mb_c
            have hh_mb_d := Hid_mkW mb_d
            have hh_I_m := Hid_mkW I_m
            have hh_I_b := Hid_mkW I_b
            have hh_I_d := Hid_mkW I_d
            have hh_hB := Hid_mkW hB
            clear mb_m mb_a mb_b mb_c mb_d I_m I_b I_d hB
            go_wp2_with fail
            clear m0 m1 m2 m3 m4 a0 a1 a2 a3 a4 b0 b1 b2 b3 b4 c0 c1 c2 c3 c4 d0 d1 d2 d3 d4
            have mb_m := hh_mb_m.out
            have mb_a := hh_mb_a.out
            have mb_b := hh_mb_b.out
            have mb_c := hh_mb_c.out
            have mb_d := hh_mb_d.out
            have I_m := hh_I_m.out
            have I_b := hh_I_b.out
            have I_d := hh_I_d.out
            have hB := hh_hB.out
            clear hh_mb_m hh_mb_a hh_mb_b hh_mb_c hh_mb_d hh_I_m hh_I_b hh_I_d hh_hB
            refine (tcheck_is I_d HRD.out).mono ?_
            rintro e w7 ⟨rfl, bb⟩
            replace mb_m := cells_below mb_m bb (Array.getElem?_eq_some_iff.1 mb_m).1
            replace mb_a := cells_below mb_a bb (Array.getElem?_eq_some_iff.1 mb_a).1
            replace mb_b := cells_below mb_b bb (Array.getElem?_eq_some_iff.1 mb_b).1
            replace mb_c := cells_below mb_c bb (Array.getElem?_eq_some_iff.1 mb_c).1
            replace mb_d := cells_below mb_d bb (Array.getElem?_eq_some_iff.1 mb_d).1
            replace hB := Below.on hB bb
            replace I_m := I_m.below bb
            replace I_b := I_b.below bb
            replace I_d := I_d.below bb
            clear bb
            clear I_d
            obtain ⟨m0, m1, m2, m3, m4⟩ := five mb_m
            obtain ⟨a0, a1, a2, a3, a4⟩ := five mb_a
            obtain ⟨b0, b1, b2, b3, b4⟩ := five mb_b
            obtain ⟨c0, c1, c2, c3, c4⟩ := five mb_c
            obtain ⟨d0, d1, d2, d3, d4⟩ := five mb_d
            have hh_mb_m := Hid_mkW mb_m
            have hh_mb_a := Hid_mkW mb_a
            have hh_mb_b := Hid_mkW mb_b
            have hh_mb_c := Hid_mkW mb_c
            have hh_mb_d := Hid_mkW mb_d
            have hh_I_m := Hid_mkW I_m
            have hh_I_b := Hid_mkW I_b
            have hh_hB := Hid_mkW hB
            clear mb_m mb_a mb_b mb_c mb_d I_m I_b hB
            go_wp2_with fail
            clear m0 m1 m2 m3 m4 a0 a1 a2 a3 a4 b0 b1 b2 b3 b4 c0 c1 c2 c3 c4 d0 d1 d2 d3 d4
            have mb_m := hh_mb_m.out
            have mb_a := hh_mb_a.out
            have mb_b := hh_mb_b.out
            have mb_c := hh_mb_c.out
            have mb_d := hh_mb_d.out
            have I_m := hh_I_m.out
            have I_b := hh_I_b.out
            have hB := hh_hB.out
            clear hh_mb_m hh_mb_a hh_mb_b hh_mb_c hh_mb_d hh_I_m hh_I_b hh_hB
            go_meet
            exact ⟨rfl, hB⟩
          · skip
            have nED : (ED != 0) = true := by show (!(ED == 0)) = _; rw [bED]; rfl
            obtain ⟨m0, m1, m2, m3, m4⟩ := five mb_m
            obtain ⟨a0, a1, a2, a3, a4⟩ := five mb_a
            obtain ⟨b0, b1, b2, b3, b4⟩ := five mb_b
            obtain ⟨c0, c1, c2, c3, c4⟩ := five mb_c
            obtain ⟨d0, d1, d2, d3, d4⟩ := five mb_d
            have hh_mb_m := Hid_mkW mb_m
            have hh_mb_a := Hid_mkW mb_a
            have hh_mb_b := Hid_mkW mb_b
            have hh_mb_c := Hid_mkW mb_c
            have hh_mb_d := Hid_mkW mb_d
            have hh_I_m := Hid_mkW I_m
            have hh_I_b := Hid_mkW I_b
            have hh_I_d := Hid_mkW I_d
            have hh_hB := Hid_mkW hB
            clear mb_m mb_a mb_b mb_c mb_d I_m I_b I_d hB
            go_wp2_with fail
            clear m0 m1 m2 m3 m4 a0 a1 a2 a3 a4 b0 b1 b2 b3 b4 c0 c1 c2 c3 c4 d0 d1 d2 d3 d4
            have mb_m := hh_mb_m.out
            have mb_a := hh_mb_a.out
            have mb_b := hh_mb_b.out
            have mb_c := hh_mb_c.out
            have mb_d := hh_mb_d.out
            have I_m := hh_I_m.out
            have I_b := hh_I_b.out
            have I_d := hh_I_d.out
            have hB := hh_hB.out
            clear hh_mb_m hh_mb_a hh_mb_b hh_mb_c hh_mb_d hh_I_m hh_I_b hh_I_d hh_hB
            go_meet
            exact ⟨rfl, hB⟩
        · skip
          have nEC : (EC != 0) = true := by show (!(EC == 0)) = _; rw [bEC]; rfl
          rcases Bool.eq_false_or_eq_true (ED == 0) with bED | bED
          · skip
            have nED : (ED != 0) = false := by show (!(ED == 0)) = _; rw [bED]; rfl
            have k0 := (KD.out (by simpa using bED)).2.2
            have HRD : Hid (checkE MD = 0) := k0.right
            have gd : MD.guest = g := by have := k0.guest; have := KD.out (by simpa using bED); omega
            have hgd : (MD.guest != g) = false := by simp [gd]
            clear gd
            clear k0
            obtain ⟨m0, m1, m2, m3, m4⟩ := five mb_m
            obtain ⟨a0, a1, a2, a3, a4⟩ := five mb_a
            obtain ⟨b0, b1, b2, b3, b4⟩ := five mb_b
            obtain ⟨c0, c1, c2, c3, c4⟩ := five mb_c
            obtain ⟨d0, d1, d2, d3, d4⟩ := five mb_d
            have hh_mb_m := Hid_mkW mb_m
            have hh_mb_a := Hid_mkW mb_a
            have hh_mb_b := Hid_mkW mb_b
            have hh_mb_c := Hid_mkW mb_c
            have hh_mb_d := Hid_mkW mb_d
            have hh_I_m := Hid_mkW I_m
            have hh_I_b := Hid_mkW I_b
            have hh_I_c := Hid_mkW I_c
            have hh_I_d := Hid_mkW I_d
            have hh_hB := Hid_mkW hB
            clear mb_m mb_a mb_b mb_c mb_d I_m I_b I_c I_d hB
            go_wp2_with fail
            clear m0 m1 m2 m3 m4 a0 a1 a2 a3 a4 b0 b1 b2 b3 b4 c0 c1 c2 c3 c4 d0 d1 d2 d3 d4
            have mb_m := hh_mb_m.out
            have mb_a := hh_mb_a.out
            have mb_b := hh_mb_b.out
            have mb_c := hh_mb_c.out
            have mb_d := hh_mb_d.out
            have I_m := hh_I_m.out
            have I_b := hh_I_b.out
            have I_c := hh_I_c.out
            have I_d := hh_I_d.out
            have hB := hh_hB.out
            clear hh_mb_m hh_mb_a hh_mb_b hh_mb_c hh_mb_d hh_I_m hh_I_b hh_I_c hh_I_d hh_hB
            refine (tcheck_is I_d HRD.out).mono ?_
            rintro e w6 ⟨rfl, bb⟩
            replace mb_m := cells_below mb_m bb (Array.getElem?_eq_some_iff.1 mb_m).1
            replace mb_a := cells_below mb_a bb (Array.getElem?_eq_some_iff.1 mb_a).1
            replace mb_b := cells_below mb_b bb (Array.getElem?_eq_some_iff.1 mb_b).1
            replace mb_c := cells_below mb_c bb (Array.getElem?_eq_some_iff.1 mb_c).1
            replace mb_d := cells_below mb_d bb (Array.getElem?_eq_some_iff.1 mb_d).1
            replace hB := Below.on hB bb
            replace I_m := I_m.below bb
            replace I_b := I_b.below bb
            replace I_c := I_c.below bb
            replace I_d := I_d.below bb
            clear bb
            clear I_d
            obtain ⟨m0, m1, m2, m3, m4⟩ := five mb_m
            obtain ⟨a0, a1, a2, a3, a4⟩ := five mb_a
            obtain ⟨b0, b1, b2, b3, b4⟩ := five mb_b
            obtain ⟨c0, c1, c2, c3, c4⟩ := five mb_c
            obtain ⟨d0, d1, d2, d3, d4⟩ := five mb_d
            have hh_mb_m := Hid_mkW mb_m
            have hh_mb_a := Hid_mkW mb_a
            have hh_mb_b := Hid_mkW mb_b
            have hh_mb_c := Hid_mkW mb_c
            have hh_mb_d := Hid_mkW mb_d
            have hh_I_m := Hid_mkW I_m
            have hh_I_b := Hid_mkW I_b
            have hh_I_c := Hid_mkW I_c
            have hh_hB := Hid_mkW hB
            clear mb_m mb_a mb_b mb_c mb_d I_m I_b I_c hB
            go_wp2_with fail
            clear m0 m1 m2 m3 m4 a0 a1 a2 a3 a4 b0 b1 b2 b3 b4 c0 c1 c2 c3 c4 d0 d1 d2 d3 d4
            have mb_m := hh_mb_m.out
            have mb_a := hh_mb_a.out
            have mb_b := hh_mb_b.out
            have mb_c := hh_mb_c.out
            have mb_d := hh_mb_d.out
            have I_m := hh_I_m.out
            have I_b := hh_I_b.out
            have I_c := hh_I_c.out
            have hB := hh_hB.out
            clear hh_mb_m hh_mb_a hh_mb_b hh_mb_c hh_mb_d hh_I_m hh_I_b hh_I_c hh_hB
            go_meet
            exact ⟨rfl, hB⟩
          · skip
            have nED : (ED != 0) = true := by show (!(ED == 0)) = _; rw [bED]; rfl
            obtain ⟨m0, m1, m2, m3, m4⟩ := five mb_m
            obtain ⟨a0, a1, a2, a3, a4⟩ := five mb_a
            obtain ⟨b0, b1, b2, b3, b4⟩ := five mb_b
            obtain ⟨c0, c1, c2, c3, c4⟩ := five mb_c
            obtain ⟨d0, d1, d2, d3, d4⟩ := five mb_d
            have hh_mb_m := Hid_mkW mb_m
            have hh_mb_a := Hid_mkW mb_a
            have hh_mb_b := Hid_mkW mb_b
            have hh_mb_c := Hid_mkW mb_c
            have hh_mb_d := Hid_mkW mb_d
            have hh_I_m := Hid_mkW I_m
            have hh_I_b := Hid_mkW I_b
            have hh_I_c := Hid_mkW I_c
            have hh_I_d := Hid_mkW I_d
            have hh_hB := Hid_mkW hB
            clear mb_m mb_a mb_b mb_c mb_d I_m I_b I_c I_d hB
            go_wp2_with fail
            clear m0 m1 m2 m3 m4 a0 a1 a2 a3 a4 b0 b1 b2 b3 b4 c0 c1 c2 c3 c4 d0 d1 d2 d3 d4
            have mb_m := hh_mb_m.out
            have mb_a := hh_mb_a.out
            have mb_b := hh_mb_b.out
            have mb_c := hh_mb_c.out
            have mb_d := hh_mb_d.out
            have I_m := hh_I_m.out
            have I_b := hh_I_b.out
            have I_c := hh_I_c.out
            have I_d := hh_I_d.out
            have hB := hh_hB.out
            clear hh_mb_m hh_mb_a hh_mb_b hh_mb_c hh_mb_d hh_I_m hh_I_b hh_I_c hh_I_d hh_hB
            go_meet
            exact ⟨rfl, hB⟩
    · skip
      have nEA : (EA != 0) = true := by show (!(EA == 0)) = _; rw [bEA]; rfl
      rcases Bool.eq_false_or_eq_true (EB == 0) with bEB | bEB
      · skip
        have nEB : (EB != 0) = false := by show (!(EB == 0)) = _; rw [bEB]; rfl
        have k0 := (KB.out (by simpa using bEB)).2
        have HRB : Hid (checkE MB = 0) := k0.right
        have hm1 : m.slots.length + 1 ≤ 9223372036854775807 := by have := (slotsE_parts (shapeE_zero (checkE_shape (lookE_prt (KB.out (by simpa using bEB)).1).1)).2.1).2; omega
        have hlB : decide ((m.slots.length : Int) + 1 < (MB.slots.length : Int)) = false := by have := k0.len; simp; omega
        clear k0
        obtain ⟨m0, m1, m2, m3, m4⟩ := five mb_m
        obtain ⟨a0, a1, a2, a3, a4⟩ := five mb_a
        obtain ⟨b0, b1, b2, b3, b4⟩ := five mb_b
        obtain ⟨c0, c1, c2, c3, c4⟩ := five mb_c
        obtain ⟨d0, d1, d2, d3, d4⟩ := five mb_d
        have hh_mb_m := Hid_mkW mb_m
        have hh_mb_a := Hid_mkW mb_a
        have hh_mb_b := Hid_mkW mb_b
        have hh_mb_c := Hid_mkW mb_c
        have hh_mb_d := Hid_mkW mb_d
        have hh_I_m := Hid_mkW I_m
        have hh_I_a := Hid_mkW I_a
        have hh_I_b := Hid_mkW I_b
        have hh_I_c := Hid_mkW I_c
        have hh_I_d := Hid_mkW I_d
        have hh_hB := Hid_mkW hB
        clear mb_m mb_a mb_b mb_c mb_d I_m I_a I_b I_c I_d hB
        go_wp2_with fail
        clear m0 m1 m2 m3 m4 a0 a1 a2 a3 a4 b0 b1 b2 b3 b4 c0 c1 c2 c3 c4 d0 d1 d2 d3 d4
        have mb_m := hh_mb_m.out
        have mb_a := hh_mb_a.out
        have mb_b := hh_mb_b.out
        have mb_c := hh_mb_c.out
        have mb_d := hh_mb_d.out
        have I_m := hh_I_m.out
        have I_a := hh_I_a.out
        have I_b := hh_I_b.out
        have I_c := hh_I_c.out
        have I_d := hh_I_d.out
        have hB := hh_hB.out
        clear hh_mb_m hh_mb_a hh_mb_b hh_mb_c hh_mb_d hh_I_m hh_I_a hh_I_b hh_I_c hh_I_d hh_hB
        refine (tcheck_is I_b HRB.out).mono ?_
        rintro e w5 ⟨rfl, bb⟩
        replace mb_m := cells_below mb_m bb (Array.getElem?_eq_some_iff.1 mb_m).1
        replace mb_a := cells_below mb_a bb (Array.getElem?_eq_some_iff.1 mb_a).1
        replace mb_b := cells_below mb_b bb (Array.getElem?_eq_some_iff.1 mb_b).1
        replace mb_c := cells_below mb_c bb (Array.getElem?_eq_some_iff.1 mb_c).1
        replace mb_d := cells_below mb_d bb (Array.getElem?_eq_some_iff.1 mb_d).1
        replace hB := Below.on hB bb
        replace I_m := I_m.below bb
        replace I_a := I_a.below bb
        replace I_b := I_b.below bb
        replace I_c := I_c.below bb
        replace I_d := I_d.below bb
        clear bb
        clear I_b
        rcases Bool.eq_false_or_eq_true (EC == 0) with bEC | bEC
        · skip
          have nEC : (EC != 0) = false := by show (!(EC == 0)) = _; rw [bEC]; rfl
          have k0 := (KC.out (by simpa using bEC)).2
          have HRC : Hid (checkE MC = 0) := k0.right
          have hm1 : m.slots.length + 1 ≤ 9223372036854775807 := by have := (slotsE_parts (shapeE_zero (checkE_shape (lookE_prt (KC.out (by simpa using bEC)).1).1)).2.1).2; omega
          have hlC : decide ((m.slots.length : Int) + 1 < (MC.slots.length : Int)) = false := by have := k0.len; simp; omega
          clear k0
          obtain ⟨m0, m1, m2, m3, m4⟩ := five mb_m
          obtain ⟨a0, a1, a2, a3, a4⟩ := five mb_a
          obtain ⟨b0, b1, b2, b3, b4⟩ := five mb_b
          obtain ⟨c0, c1, c2, c3, c4⟩ := five mb_c
          obtain ⟨d0, d1, d2, d3, d4⟩ := five mb_d
          have hh_mb_m := Hid_mkW mb_m
          have hh_mb_a := Hid_mkW mb_a
          have hh_mb_b := Hid_mkW mb_b
          have hh_mb_c := Hid_mkW mb_c
          have hh_mb_d := Hid_mkW mb_d
          have hh_I_m := Hid_mkW I_m
          have hh_I_a := Hid_mkW I_a
          have hh_I_c := Hid_mkW I_c
          have hh_I_d := Hid_mkW I_d
          have hh_hB := Hid_mkW hB
          clear mb_m mb_a mb_b mb_c mb_d I_m I_a I_c I_d hB
          go_wp2_with fail
          clear m0 m1 m2 m3 m4 a0 a1 a2 a3 a4 b0 b1 b2 b3 b4 c0 c1 c2 c3 c4 d0 d1 d2 d3 d4
          have mb_m := hh_mb_m.out
          have mb_a := hh_mb_a.out
          have mb_b := hh_mb_b.out
          have mb_c := hh_mb_c.out
          have mb_d := hh_mb_d.out
          have I_m := hh_I_m.out
          have I_a := hh_I_a.out
          have I_c := hh_I_c.out
          have I_d := hh_I_d.out
          have hB := hh_hB.out
          clear hh_mb_m hh_mb_a hh_mb_b hh_mb_c hh_mb_d hh_I_m hh_I_a hh_I_c hh_I_d hh_hB
          refine (tcheck_is I_c HRC.out).mono ?_
          rintro e w6 ⟨rfl, bb⟩
          replace mb_m := cells_below mb_m bb (Array.getElem?_eq_some_iff.1 mb_m).1
          replace mb_a := cells_below mb_a bb (Array.getElem?_eq_some_iff.1 mb_a).1
          replace mb_b := cells_below mb_b bb (Array.getElem?_eq_some_iff.1 mb_b).1
          replace mb_c := cells_below mb_c bb (Array.getElem?_eq_some_iff.1 mb_c).1
          replace mb_d := cells_below mb_d bb (Array.getElem?_eq_some_iff.1 mb_d).1
          replace hB := Below.on hB bb
          replace I_m := I_m.below bb
          replace I_a := I_a.below bb
          replace I_c := I_c.below bb
          replace I_d := I_d.below bb
          clear bb
          clear I_c
          rcases Bool.eq_false_or_eq_true (ED == 0) with bED | bED
          · skip
            have nED : (ED != 0) = false := by show (!(ED == 0)) = _; rw [bED]; rfl
            have k0 := (KD.out (by simpa using bED)).2.2
            have HRD : Hid (checkE MD = 0) := k0.right
            have gd : MD.guest = g := by have := k0.guest; have := KD.out (by simpa using bED); omega
            have hgd : (MD.guest != g) = false := by simp [gd]
            clear gd
            clear k0
            obtain ⟨m0, m1, m2, m3, m4⟩ := five mb_m
            obtain ⟨a0, a1, a2, a3, a4⟩ := five mb_a
            obtain ⟨b0, b1, b2, b3, b4⟩ := five mb_b
            obtain ⟨c0, c1, c2, c3, c4⟩ := five mb_c
            obtain ⟨d0, d1, d2, d3, d4⟩ := five mb_d
            have hh_mb_m := Hid_mkW mb_m
            have hh_mb_a := Hid_mkW mb_a
            have hh_mb_b := Hid_mkW mb_b
            have hh_mb_c := Hid_mkW mb_c
            have hh_mb_d := Hid_mkW mb_d
            have hh_I_m := Hid_mkW I_m
            have hh_I_a := Hid_mkW I_a
            have hh_I_d := Hid_mkW I_d
            have hh_hB := Hid_mkW hB
            clear mb_m mb_a mb_b mb_c mb_d I_m I_a I_d hB
            go_wp2_with fail
            clear m0 m1 m2 m3 m4 a0 a1 a2 a3 a4 b0 b1 b2 b3 b4 c0 c1 c2 c3 c4 d0 d1 d2 d3 d4
            have mb_m := hh_mb_m.out
            have mb_a := hh_mb_a.out
            have mb_b := hh_mb_b.out
            have mb_c := hh_mb_c.out
            have mb_d := hh_mb_d.out
            have I_m := hh_I_m.out
            have I_a := hh_I_a.out
            have I_d := hh_I_d.out
            have hB := hh_hB.out
            clear hh_mb_m hh_mb_a hh_mb_b hh_mb_c hh_mb_d hh_I_m hh_I_a hh_I_d hh_hB
            refine (tcheck_is I_d HRD.out).mono ?_
            rintro e w7 ⟨rfl, bb⟩
            replace mb_m := cells_below mb_m bb (Array.getElem?_eq_some_iff.1 mb_m).1
            replace mb_a := cells_below mb_a bb (Array.getElem?_eq_some_iff.1 mb_a).1
            replace mb_b := cells_below mb_b bb (Array.getElem?_eq_some_iff.1 mb_b).1
            replace mb_c := cells_below mb_c bb (Array.getElem?_eq_some_iff.1 mb_c).1
            replace mb_d := cells_below mb_d bb (Array.getElem?_eq_some_iff.1 mb_d).1
            replace hB := Below.on hB bb
            replace I_m := I_m.below bb
            replace I_a := I_a.below bb
            replace I_d := I_d.below bb
            clear bb
            clear I_d
            obtain ⟨m0, m1, m2, m3, m4⟩ := five mb_m
            obtain ⟨a0, a1, a2, a3, a4⟩ := five mb_a
            obtain ⟨b0, b1, b2, b3, b4⟩ := five mb_b
            obtain ⟨c0, c1, c2, c3, c4⟩ := five mb_c
            obtain ⟨d0, d1, d2, d3, d4⟩ := five mb_d
            have hh_mb_m := Hid_mkW mb_m
            have hh_mb_a := Hid_mkW mb_a
            have hh_mb_b := Hid_mkW mb_b
            have hh_mb_c := Hid_mkW mb_c
            have hh_mb_d := Hid_mkW mb_d
            have hh_I_m := Hid_mkW I_m
            have hh_I_a := Hid_mkW I_a
            have hh_hB := Hid_mkW hB
            clear mb_m mb_a mb_b mb_c mb_d I_m I_a hB
            go_wp2_with fail
            clear m0 m1 m2 m3 m4 a0 a1 a2 a3 a4 b0 b1 b2 b3 b4 c0 c1 c2 c3 c4 d0 d1 d2 d3 d4
            have mb_m := hh_mb_m.out
            have mb_a := hh_mb_a.out
            have mb_b := hh_mb_b.out
            have mb_c := hh_mb_c.out
            have mb_d := hh_mb_d.out
            have I_m := hh_I_m.out
            have I_a := hh_I_a.out
            have hB := hh_hB.out
            clear hh_mb_m hh_mb_a hh_mb_b hh_mb_c hh_mb_d hh_I_m hh_I_a hh_hB
            go_meet
            exact ⟨rfl, hB⟩
          · skip
            have nED : (ED != 0) = true := by show (!(ED == 0)) = _; rw [bED]; rfl
            obtain ⟨m0, m1, m2, m3, m4⟩ := five mb_m
            obtain ⟨a0, a1, a2, a3, a4⟩ := five mb_a
            obtain ⟨b0, b1, b2, b3, b4⟩ := five mb_b
            obtain ⟨c0, c1, c2, c3, c4⟩ := five mb_c
            obtain ⟨d0, d1, d2, d3, d4⟩ := five mb_d
            have hh_mb_m := Hid_mkW mb_m
            have hh_mb_a := Hid_mkW mb_a
            have hh_mb_b := Hid_mkW mb_b
            have hh_mb_c := Hid_mkW mb_c
            have hh_mb_d := Hid_mkW mb_d
            have hh_I_m := Hid_mkW I_m
            have hh_I_a := Hid_mkW I_a
            have hh_I_d := Hid_mkW I_d
            have hh_hB := Hid_mkW hB
            clear mb_m mb_a mb_b mb_c mb_d I_m I_a I_d hB
            go_wp2_with fail
            clear m0 m1 m2 m3 m4 a0 a1 a2 a3 a4 b0 b1 b2 b3 b4 c0 c1 c2 c3 c4 d0 d1 d2 d3 d4
            have mb_m := hh_mb_m.out
            have mb_a := hh_mb_a.out
            have mb_b := hh_mb_b.out
            have mb_c := hh_mb_c.out
            have mb_d := hh_mb_d.out
            have I_m := hh_I_m.out
            have I_a := hh_I_a.out
            have I_d := hh_I_d.out
            have hB := hh_hB.out
            clear hh_mb_m hh_mb_a hh_mb_b hh_mb_c hh_mb_d hh_I_m hh_I_a hh_I_d hh_hB
            go_meet
            exact ⟨rfl, hB⟩
        · skip
          have nEC : (EC != 0) = true := by show (!(EC == 0)) = _; rw [bEC]; rfl
          rcases Bool.eq_false_or_eq_true (ED == 0) with bED | bED
          · skip
            have nED : (ED != 0) = false := by show (!(ED == 0)) = _; rw [bED]; rfl
            have k0 := (KD.out (by simpa using bED)).2.2
            have HRD : Hid (checkE MD = 0) := k0.right
            have gd : MD.guest = g := by have := k0.guest; have := KD.out (by simpa using bED); omega
            have hgd : (MD.guest != g) = false := by simp [gd]
            clear gd
            clear k0
            obtain ⟨m0, m1, m2, m3, m4⟩ := five mb_m
            obtain ⟨a0, a1, a2, a3, a4⟩ := five mb_a
            obtain ⟨b0, b1, b2, b3, b4⟩ := five mb_b
            obtain ⟨c0, c1, c2, c3, c4⟩ := five mb_c
            obtain ⟨d0, d1, d2, d3, d4⟩ := five mb_d
            have hh_mb_m := Hid_mkW mb_m
            have hh_mb_a := Hid_mkW mb_a
            have hh_mb_b := Hid_mkW mb_b
            have hh_mb_c := Hid_mkW mb_c
            have hh_mb_d := Hid_mkW mb_d
            have hh_I_m := Hid_mkW I_m
            have hh_I_a := Hid_mkW I_a
            have hh_I_c := Hid_mkW I_c
            have hh_I_d := Hid_mkW I_d
            have hh_hB := Hid_mkW hB
            clear mb_m mb_a mb_b mb_c mb_d I_m I_a I_c I_d hB
            go_wp2_with fail
            clear m0 m1 m2 m3 m4 a0 a1 a2 a3 a4 b0 b1 b2 b3 b4 c0 c1 c2 c3 c4 d0 d1 d2 d3 d4
            have mb_m := hh_mb_m.out
            have mb_a := hh_mb_a.out
            have mb_b := hh_mb_b.out
            have mb_c := hh_mb_c.out
            have mb_d := hh_mb_d.out
            have I_m := hh_I_m.out
            have I_a := hh_I_a.out
            have I_c := hh_I_c.out
            have I_d := hh_I_d.out
            have hB := hh_hB.out
            clear hh_mb_m hh_mb_a hh_mb_b hh_mb_c hh_mb_d hh_I_m hh_I_a hh_I_c hh_I_d hh_hB
            refine (tcheck_is I_d HRD.out).mono ?_
            rintro e w6 ⟨rfl, bb⟩
            replace mb_m := cells_below mb_m bb (Array.getElem?_eq_some_iff.1 mb_m).1
            replace mb_a := cells_below mb_a bb (Array.getElem?_eq_some_iff.1 mb_a).1
            replace mb_b := cells_below mb_b bb (Array.getElem?_eq_some_iff.1 mb_b).1
            replace mb_c := cells_below mb_c bb (Array.getElem?_eq_some_iff.1 mb_c).1
            replace mb_d := cells_below mb_d bb (Array.getElem?_eq_some_iff.1 mb_d).1
            replace hB := Below.on hB bb
            replace I_m := I_m.below bb
            replace I_a := I_a.below bb
            replace I_c := I_c.below bb
            replace I_d := I_d.below bb
            clear bb
            clear I_d
            obtain ⟨m0, m1, m2, m3, m4⟩ := five mb_m
            obtain ⟨a0, a1, a2, a3, a4⟩ := five mb_a
            obtain ⟨b0, b1, b2, b3, b4⟩ := five mb_b
            obtain ⟨c0, c1, c2, c3, c4⟩ := five mb_c
            obtain ⟨d0, d1, d2, d3, d4⟩ := five mb_d
            have hh_mb_m := Hid_mkW mb_m
            have hh_mb_a := Hid_mkW mb_a
            have hh_mb_b := Hid_mkW mb_b
            have hh_mb_c := Hid_mkW mb_c
            have hh_mb_d := Hid_mkW mb_d
            have hh_I_m := Hid_mkW I_m
            have hh_I_a := Hid_mkW I_a
            have hh_I_c := Hid_mkW I_c
            have hh_hB := Hid_mkW hB
            clear mb_m mb_a mb_b mb_c mb_d I_m I_a I_c hB
            go_wp2_with fail
            clear m0 m1 m2 m3 m4 a0 a1 a2 a3 a4 b0 b1 b2 b3 b4 c0 c1 c2 c3 c4 d0 d1 d2 d3 d4
            have mb_m := hh_mb_m.out
            have mb_a := hh_mb_a.out
            have mb_b := hh_mb_b.out
            have mb_c := hh_mb_c.out
            have mb_d := hh_mb_d.out
            have I_m := hh_I_m.out
            have I_a := hh_I_a.out
            have I_c := hh_I_c.out
            have hB := hh_hB.out
            clear hh_mb_m hh_mb_a hh_mb_b hh_mb_c hh_mb_d hh_I_m hh_I_a hh_I_c hh_hB
            go_meet
            exact ⟨rfl, hB⟩
          · skip
            have nED : (ED != 0) = true := by show (!(ED == 0)) = _; rw [bED]; rfl
            obtain ⟨m0, m1, m2, m3, m4⟩ := five mb_m
            obtain ⟨a0, a1, a2, a3, a4⟩ := five mb_a
            obtain ⟨b0, b1, b2, b3, b4⟩ := five mb_b
            obtain ⟨c0, c1, c2, c3, c4⟩ := five mb_c
            obtain ⟨d0, d1, d2, d3, d4⟩ := five mb_d
            have hh_mb_m := Hid_mkW mb_m
            have hh_mb_a := Hid_mkW mb_a
            have hh_mb_b := Hid_mkW mb_b
            have hh_mb_c := Hid_mkW mb_c
            have hh_mb_d := Hid_mkW mb_d
            have hh_I_m := Hid_mkW I_m
            have hh_I_a := Hid_mkW I_a
            have hh_I_c := Hid_mkW I_c
            have hh_I_d := Hid_mkW I_d
            have hh_hB := Hid_mkW hB
            clear mb_m mb_a mb_b mb_c mb_d I_m I_a I_c I_d hB
            go_wp2_with fail
            clear m0 m1 m2 m3 m4 a0 a1 a2 a3 a4 b0 b1 b2 b3 b4 c0 c1 c2 c3 c4 d0 d1 d2 d3 d4
            have mb_m := hh_mb_m.out
            have mb_a := hh_mb_a.out
            have mb_b := hh_mb_b.out
            have mb_c := hh_mb_c.out
            have mb_d := hh_mb_d.out
            have I_m := hh_I_m.out
            have I_a := hh_I_a.out
            have I_c := hh_I_c.out
            have I_d := hh_I_d.out
            have hB := hh_hB.out
            clear hh_mb_m hh_mb_a hh_mb_b hh_mb_c hh_mb_d hh_I_m hh_I_a hh_I_c hh_I_d hh_hB
            go_meet
            exact ⟨rfl, hB⟩
      · skip
        have nEB : (EB != 0) = true := by show (!(EB == 0)) = _; rw [bEB]; rfl
        rcases Bool.eq_false_or_eq_true (EC == 0) with bEC | bEC
        · skip
          have nEC : (EC != 0) = false := by show (!(EC == 0)) = _; rw [bEC]; rfl
          have k0 := (KC.out (by simpa using bEC)).2
          have HRC : Hid (checkE MC = 0) := k0.right
          have hm1 : m.slots.length + 1 ≤ 9223372036854775807 := by have := (slotsE_parts (shapeE_zero (checkE_shape (lookE_prt (KC.out (by simpa using bEC)).1).1)).2.1).2; omega
          have hlC : decide ((m.slots.length : Int) + 1 < (MC.slots.length : Int)) = false := by have := k0.len; simp; omega
          clear k0
          obtain ⟨m0, m1, m2, m3, m4⟩ := five mb_m
          obtain ⟨a0, a1, a2, a3, a4⟩ := five mb_a
          obtain ⟨b0, b1, b2, b3, b4⟩ := five mb_b
          obtain ⟨c0, c1, c2, c3, c4⟩ := five mb_c
          obtain ⟨d0, d1, d2, d3, d4⟩ := five mb_d
          have hh_mb_m := Hid_mkW mb_m
          have hh_mb_a := Hid_mkW mb_a
          have hh_mb_b := Hid_mkW mb_b
          have hh_mb_c := Hid_mkW mb_c
          have hh_mb_d := Hid_mkW mb_d
          have hh_I_m := Hid_mkW I_m
          have hh_I_a := Hid_mkW I_a
          have hh_I_b := Hid_mkW I_b
          have hh_I_c := Hid_mkW I_c
          have hh_I_d := Hid_mkW I_d
          have hh_hB := Hid_mkW hB
          clear mb_m mb_a mb_b mb_c mb_d I_m I_a I_b I_c I_d hB
          go_wp2_with fail
          clear m0 m1 m2 m3 m4 a0 a1 a2 a3 a4 b0 b1 b2 b3 b4 c0 c1 c2 c3 c4 d0 d1 d2 d3 d4
          have mb_m := hh_mb_m.out
          have mb_a := hh_mb_a.out
          have mb_b := hh_mb_b.out
          have mb_c := hh_mb_c.out
          have mb_d := hh_mb_d.out
          have I_m := hh_I_m.out
          have I_a := hh_I_a.out
          have I_b := hh_I_b.out
          have I_c := hh_I_c.out
          have I_d := hh_I_d.out
          have hB := hh_hB.out
          clear hh_mb_m hh_mb_a hh_mb_b hh_mb_c hh_mb_d hh_I_m hh_I_a hh_I_b hh_I_c hh_I_d hh_hB
          refine (tcheck_is I_c HRC.out).mono ?_
          rintro e w5 ⟨rfl, bb⟩
          replace mb_m := cells_below mb_m bb (Array.getElem?_eq_some_iff.1 mb_m).1
          replace mb_a := cells_below mb_a bb (Array.getElem?_eq_some_iff.1 mb_a).1
          replace mb_b := cells_below mb_b bb (Array.getElem?_eq_some_iff.1 mb_b).1
          replace mb_c := cells_below mb_c bb (Array.getElem?_eq_some_iff.1 mb_c).1
          replace mb_d := cells_below mb_d bb (Array.getElem?_eq_some_iff.1 mb_d).1
          replace hB := Below.on hB bb
          replace I_m := I_m.below bb
          replace I_a := I_a.below bb
          replace I_b := I_b.below bb
          replace I_c := I_c.below bb
          replace I_d := I_d.below bb
          clear bb
          clear I_c
          rcases Bool.eq_false_or_eq_true (ED == 0) with bED | bED
          · skip
            have nED : (ED != 0) = false := by show (!(ED == 0)) = _; rw [bED]; rfl
            have k0 := (KD.out (by simpa using bED)).2.2
            have HRD : Hid (checkE MD = 0) := k0.right
            have gd : MD.guest = g := by have := k0.guest; have := KD.out (by simpa using bED); omega
            have hgd : (MD.guest != g) = false := by simp [gd]
            clear gd
            clear k0
            obtain ⟨m0, m1, m2, m3, m4⟩ := five mb_m
            obtain ⟨a0, a1, a2, a3, a4⟩ := five mb_a
            obtain ⟨b0, b1, b2, b3, b4⟩ := five mb_b
            obtain ⟨c0, c1, c2, c3, c4⟩ := five mb_c
            obtain ⟨d0, d1, d2, d3, d4⟩ := five mb_d
            have hh_mb_m := Hid_mkW mb_m
            have hh_mb_a := Hid_mkW mb_a
            have hh_mb_b := Hid_mkW mb_b
            have hh_mb_c := Hid_mkW mb_c
            have hh_mb_d := Hid_mkW mb_d
            have hh_I_m := Hid_mkW I_m
            have hh_I_a := Hid_mkW I_a
            have hh_I_b := Hid_mkW I_b
            have hh_I_d := Hid_mkW I_d
            have hh_hB := Hid_mkW hB
            clear mb_m mb_a mb_b mb_c mb_d I_m I_a I_b I_d hB
            go_wp2_with fail
            clear m0 m1 m2 m3 m4 a0 a1 a2 a3 a4 b0 b1 b2 b3 b4 c0 c1 c2 c3 c4 d0 d1 d2 d3 d4
            have mb_m := hh_mb_m.out
            have mb_a := hh_mb_a.out
            have mb_b := hh_mb_b.out
            have mb_c := hh_mb_c.out
            have mb_d := hh_mb_d.out
            have I_m := hh_I_m.out
            have I_a := hh_I_a.out
            have I_b := hh_I_b.out
            have I_d := hh_I_d.out
            have hB := hh_hB.out
            clear hh_mb_m hh_mb_a hh_mb_b hh_mb_c hh_mb_d hh_I_m hh_I_a hh_I_b hh_I_d hh_hB
            refine (tcheck_is I_d HRD.out).mono ?_
            rintro e w6 ⟨rfl, bb⟩
            replace mb_m := cells_below mb_m bb (Array.getElem?_eq_some_iff.1 mb_m).1
            replace mb_a := cells_below mb_a bb (Array.getElem?_eq_some_iff.1 mb_a).1
            replace mb_b := cells_below mb_b bb (Array.getElem?_eq_some_iff.1 mb_b).1
            replace mb_c := cells_below mb_c bb (Array.getElem?_eq_some_iff.1 mb_c).1
            replace mb_d := cells_below mb_d bb (Array.getElem?_eq_some_iff.1 mb_d).1
            replace hB := Below.on hB bb
            replace I_m := I_m.below bb
            replace I_a := I_a.below bb
            replace I_b := I_b.below bb
            replace I_d := I_d.below bb
            clear bb
            clear I_d
            obtain ⟨m0, m1, m2, m3, m4⟩ := five mb_m
            obtain ⟨a0, a1, a2, a3, a4⟩ := five mb_a
            obtain ⟨b0, b1, b2, b3, b4⟩ := five mb_b
            obtain ⟨c0, c1, c2, c3, c4⟩ := five mb_c
            obtain ⟨d0, d1, d2, d3, d4⟩ := five mb_d
            have hh_mb_m := Hid_mkW mb_m
            have hh_mb_a := Hid_mkW mb_a
            have hh_mb_b := Hid_mkW mb_b
            have hh_mb_c := Hid_mkW mb_c
            have hh_mb_d := Hid_mkW mb_d
            have hh_I_m := Hid_mkW I_m
            have hh_I_a := Hid_mkW I_a
            have hh_I_b := Hid_mkW I_b
            have hh_hB := Hid_mkW hB
            clear mb_m mb_a mb_b mb_c mb_d I_m I_a I_b hB
            go_wp2_with fail
            clear m0 m1 m2 m3 m4 a0 a1 a2 a3 a4 b0 b1 b2 b3 b4 c0 c1 c2 c3 c4 d0 d1 d2 d3 d4
            have mb_m := hh_mb_m.out
            have mb_a := hh_mb_a.out
            have mb_b := hh_mb_b.out
            have mb_c := hh_mb_c.out
            have mb_d := hh_mb_d.out
            have I_m := hh_I_m.out
            have I_a := hh_I_a.out
            have I_b := hh_I_b.out
            have hB := hh_hB.out
            clear hh_mb_m hh_mb_a hh_mb_b hh_mb_c hh_mb_d hh_I_m hh_I_a hh_I_b hh_hB
            go_meet
            exact ⟨rfl, hB⟩
          · skip
            have nED : (ED != 0) = true := by show (!(ED == 0)) = _; rw [bED]; rfl
            obtain ⟨m0, m1, m2, m3, m4⟩ := five mb_m
            obtain ⟨a0, a1, a2, a3, a4⟩ := five mb_a
            obtain ⟨b0, b1, b2, b3, b4⟩ := five mb_b
            obtain ⟨c0, c1, c2, c3, c4⟩ := five mb_c
            obtain ⟨d0, d1, d2, d3, d4⟩ := five mb_d
            have hh_mb_m := Hid_mkW mb_m
            have hh_mb_a := Hid_mkW mb_a
            have hh_mb_b := Hid_mkW mb_b
            have hh_mb_c := Hid_mkW mb_c
            have hh_mb_d := Hid_mkW mb_d
            have hh_I_m := Hid_mkW I_m
            have hh_I_a := Hid_mkW I_a
            have hh_I_b := Hid_mkW I_b
            have hh_I_d := Hid_mkW I_d
            have hh_hB := Hid_mkW hB
            clear mb_m mb_a mb_b mb_c mb_d I_m I_a I_b I_d hB
            go_wp2_with fail
            clear m0 m1 m2 m3 m4 a0 a1 a2 a3 a4 b0 b1 b2 b3 b4 c0 c1 c2 c3 c4 d0 d1 d2 d3 d4
            have mb_m := hh_mb_m.out
            have mb_a := hh_mb_a.out
            have mb_b := hh_mb_b.out
            have mb_c := hh_mb_c.out
            have mb_d := hh_mb_d.out
            have I_m := hh_I_m.out
            have I_a := hh_I_a.out
            have I_b := hh_I_b.out
            have I_d := hh_I_d.out
            have hB := hh_hB.out
            clear hh_mb_m hh_mb_a hh_mb_b hh_mb_c hh_mb_d hh_I_m hh_I_a hh_I_b hh_I_d hh_hB
            go_meet
            exact ⟨rfl, hB⟩
        · skip
          have nEC : (EC != 0) = true := by show (!(EC == 0)) = _; rw [bEC]; rfl
          rcases Bool.eq_false_or_eq_true (ED == 0) with bED | bED
          · skip
            have nED : (ED != 0) = false := by show (!(ED == 0)) = _; rw [bED]; rfl
            have k0 := (KD.out (by simpa using bED)).2.2
            have HRD : Hid (checkE MD = 0) := k0.right
            have gd : MD.guest = g := by have := k0.guest; have := KD.out (by simpa using bED); omega
            have hgd : (MD.guest != g) = false := by simp [gd]
            clear gd
            clear k0
            obtain ⟨m0, m1, m2, m3, m4⟩ := five mb_m
            obtain ⟨a0, a1, a2, a3, a4⟩ := five mb_a
            obtain ⟨b0, b1, b2, b3, b4⟩ := five mb_b
            obtain ⟨c0, c1, c2, c3, c4⟩ := five mb_c
            obtain ⟨d0, d1, d2, d3, d4⟩ := five mb_d
            have hh_mb_m := Hid_mkW mb_m
            have hh_mb_a := Hid_mkW mb_a
            have hh_mb_b := Hid_mkW mb_b
            have hh_mb_c := Hid_mkW mb_c
            have hh_mb_d := Hid_mkW mb_d
            have hh_I_m := Hid_mkW I_m
            have hh_I_a := Hid_mkW I_a
            have hh_I_b := Hid_mkW I_b
            have hh_I_c := Hid_mkW I_c
            have hh_I_d := Hid_mkW I_d
            have hh_hB := Hid_mkW hB
            clear mb_m mb_a mb_b mb_c mb_d I_m I_a I_b I_c I_d hB
            go_wp2_with fail
            clear m0 m1 m2 m3 m4 a0 a1 a2 a3 a4 b0 b1 b2 b3 b4 c0 c1 c2 c3 c4 d0 d1 d2 d3 d4
            have mb_m := hh_mb_m.out
            have mb_a := hh_mb_a.out
            have mb_b := hh_mb_b.out
            have mb_c := hh_mb_c.out
            have mb_d := hh_mb_d.out
            have I_m := hh_I_m.out
            have I_a := hh_I_a.out
            have I_b := hh_I_b.out
            have I_c := hh_I_c.out
            have I_d := hh_I_d.out
            have hB := hh_hB.out
            clear hh_mb_m hh_mb_a hh_mb_b hh_mb_c hh_mb_d hh_I_m hh_I_a hh_I_b hh_I_c hh_I_d hh_hB
            refine (tcheck_is I_d HRD.out).mono ?_
            rintro e w5 ⟨rfl, bb⟩
            replace mb_m := cells_below mb_m bb (Array.getElem?_eq_some_iff.1 mb_m).1
            replace mb_a := cells_below mb_a bb (Array.getElem?_eq_some_iff.1 mb_a).1
            replace mb_b := cells_below mb_b bb (Array.getElem?_eq_some_iff.1 mb_b).1
            replace mb_c := cells_below mb_c bb (Array.getElem?_eq_some_iff.1 mb_c).1
            replace mb_d := cells_below mb_d bb (Array.getElem?_eq_some_iff.1 mb_d).1
            replace hB := Below.on hB bb
            replace I_m := I_m.below bb
            replace I_a := I_a.below bb
            replace I_b := I_b.below bb
            replace I_c := I_c.below bb
            replace I_d := I_d.below bb
            clear bb
            clear I_d
            obtain ⟨m0, m1, m2, m3, m4⟩ := five mb_m
            obtain ⟨a0, a1, a2, a3, a4⟩ := five mb_a
            obtain ⟨b0, b1, b2, b3, b4⟩ := five mb_b
            obtain ⟨c0, c1, c2, c3, c4⟩ := five mb_c
            obtain ⟨d0, d1, d2, d3, d4⟩ := five mb_d
            have hh_mb_m := Hid_mkW mb_m
            have hh_mb_a := Hid_mkW mb_a
            have hh_mb_b := Hid_mkW mb_b
            have hh_mb_c := Hid_mkW mb_c
            have hh_mb_d := Hid_mkW mb_d
            have hh_I_m := Hid_mkW I_m
            have hh_I_a := Hid_mkW I_a
            have hh_I_b := Hid_mkW I_b
            have hh_I_c := Hid_mkW I_c
            have hh_hB := Hid_mkW hB
            clear mb_m mb_a mb_b mb_c mb_d I_m I_a I_b I_c hB
            go_wp2_with fail
            clear m0 m1 m2 m3 m4 a0 a1 a2 a3 a4 b0 b1 b2 b3 b4 c0 c1 c2 c3 c4 d0 d1 d2 d3 d4
            have mb_m := hh_mb_m.out
            have mb_a := hh_mb_a.out
            have mb_b := hh_mb_b.out
            have mb_c := hh_mb_c.out
            have mb_d := hh_mb_d.out
            have I_m := hh_I_m.out
            have I_a := hh_I_a.out
            have I_b := hh_I_b.out
            have I_c := hh_I_c.out
            have hB := hh_hB.out
            clear hh_mb_m hh_mb_a hh_mb_b hh_mb_c hh_mb_d hh_I_m hh_I_a hh_I_b hh_I_c hh_hB
            go_meet
            exact ⟨rfl, hB⟩
          · skip
            have nED : (ED != 0) = true := by show (!(ED == 0)) = _; rw [bED]; rfl
            obtain ⟨m0, m1, m2, m3, m4⟩ := five mb_m
            obtain ⟨a0, a1, a2, a3, a4⟩ := five mb_a
            obtain ⟨b0, b1, b2, b3, b4⟩ := five mb_b
            obtain ⟨c0, c1, c2, c3, c4⟩ := five mb_c
            obtain ⟨d0, d1, d2, d3, d4⟩ := five mb_d
            have hh_mb_m := Hid_mkW mb_m
            have hh_mb_a := Hid_mkW mb_a
            have hh_mb_b := Hid_mkW mb_b
            have hh_mb_c := Hid_mkW mb_c
            have hh_mb_d := Hid_mkW mb_d
            have hh_I_m := Hid_mkW I_m
            have hh_I_a := Hid_mkW I_a
            have hh_I_b := Hid_mkW I_b
            have hh_I_c := Hid_mkW I_c
            have hh_I_d := Hid_mkW I_d
            have hh_hB := Hid_mkW hB
            clear mb_m mb_a mb_b mb_c mb_d I_m I_a I_b I_c I_d hB
            go_wp2_with fail
            clear m0 m1 m2 m3 m4 a0 a1 a2 a3 a4 b0 b1 b2 b3 b4 c0 c1 c2 c3 c4 d0 d1 d2 d3 d4
            have mb_m := hh_mb_m.out
            have mb_a := hh_mb_a.out
            have mb_b := hh_mb_b.out
            have mb_c := hh_mb_c.out
            have mb_d := hh_mb_d.out
            have I_m := hh_I_m.out
            have I_a := hh_I_a.out
            have I_b := hh_I_b.out
            have I_c := hh_I_c.out
            have I_d := hh_I_d.out
            have hB := hh_hB.out
            clear hh_mb_m hh_mb_a hh_mb_b hh_mb_c hh_mb_d hh_I_m hh_I_a hh_I_b hh_I_c hh_I_d hh_hB
            go_meet
            exact ⟨rfl, hB⟩
  case rest =>
  clear mb_m mb_a mb_b mb_c mb_d I_m I_a I_b I_c I_d hB
  obtain ⟨rfl, HB9⟩ := hcut
  obtain ⟨w9, hw9⟩ : ∃ X, X = wc := ⟨_, rfl⟩
  subst hw9
  go_wp2_with fail
  refine (writesBegun_any _).mono ?_
  rintro e w10 ⟨rfl, bb⟩
  go_wp2_with fail
  go_ret
  exact ⟨rfl, Below.on HB9.out bb⟩
theorem wright_is {v : Value} {m : ImgD} {w : World} (h : Img w v m) (n : Int) (page : ByteArray) (g : Int) : Calls Try.prog 3 #[v, .int .i64 n, .string page, .int .i64 g] w fun r w' => r = .returned (.bool true) ∧ Below w.heap.size w w' := by
  have h' := h
  obtain ⟨ra, rc, sa, sc, fa, fc, na, nc, rfl, h1, h2, h3, h4⟩ := h.parts
  exact wright_at ra rc sa sc fa fc na nc m n page g w h'
end Go.Proofs.Ytehleeibgkpjmad
/- From the reading of an argument to what it holds: slices of integers, slots, slices of slots. -/
namespace Go.Proofs.Ytehleeibgkpjmad
open Go.RowKit Go.Deep Go.ChangeShapes Go.WideShapes Go.ChangeAt
set_option maxRecDepth 20000

theorem cells27 : Try.prog.cellsOf 22 = 1 := by kernel_rfl
theorem cells3 : Try.prog.cellsOf 3 = 1 := by kernel_rfl
theorem cells9 : Try.prog.cellsOf 9 = 1 := by kernel_rfl
theorem cells29 : Try.prog.cellsOf 52 = 3 := by kernel_rfl

variable {H : Type} {enc : TypeId × Value → H} {w : World} {base : Nat} {spare : Nat → Bool} {held : Bool}

theorem row_at {w : World} {a : Addr} {n : Nat} {f : Nat → Value} (hn : 0 < n) (h : ∀ i, i < n → w.cell? (a.add i) = some (f i)) :
    ∃ b off, a = ⟨b, off, none⟩ ∧ b < w.heap.size ∧ ∀ i, i < n → w.cell? ⟨b, off + i, none⟩ = some (f i) := by
  have h0 := h 0 hn
  obtain ⟨b, off, spot⟩ := a
  have hspot : spot = none := by simpa [Addr.add] using World.cell?_spot h0
  subst hspot
  refine ⟨b, off, rfl, World.block_lt_of_cell? w _ (by rw [addr_add] at h0; exact h0), fun i hi => ?_⟩
  have := h i hi
  rw [addr_add] at this
  exact this

theorem sl_of_trod {n : Nat} {cs : List Value} {x : DataW H × List MemPlace} (h : DataW.trod enc Try.prog w base spare held n 22 cs = some x) : ∃ v xs, cs = [v] ∧ Sl w v xs := by
  rcases open_ints Try.underlying22 Try.underlying3 cells3 h with ⟨rfl, _⟩ | ⟨a, l, c, zs, rfl, _, hl, hm, hz, _, hcell, _⟩
  · exact ⟨_, [], rfl, Sl.nil w⟩
  · have hlz : l ≤ zs.length := by rw [hz]; split <;> omega
    have hlen : (zs.take l).length = l := by simp; omega
    refine ⟨_, zs.take l, rfl, some a, c, by rw [hlen], by rw [hlen]; omega, by rw [hlen]; exact hl, fun hne => ?_⟩
    have hpos : 0 < l := by
      rcases Nat.eq_zero_or_pos l with e | e
      · subst e; simp at hne
      · exact e
    obtain ⟨b, off, rfl, hb, hc⟩ := row_at (w := w) (a := a) (n := l) (f := fun i => .int .i64 (zs.getD i 0)) hpos (fun i hi => hcell i (by omega))
    refine ⟨b, off, rfl, hb, fun j hj => ?_⟩
    rw [hlen] at hj
    rw [hc j hj]
    simp [List.getD, hj]

set_option maxRecDepth 20000 in
theorem slot_of_trod {n : Nat} {cs : List Value} {x : DataW H × List MemPlace} (h : DataW.trod enc Try.prog w base spare held n 52 cs = some x) :
    ∃ k d tv xs, cs = [.int .i64 k, .string d, tv] ∧ Sl w tv xs := by
  obtain ⟨y0, y1, y2, m, _, hl, h0, h1, h2⟩ := trod_struct3 Try.underlying52 h
  rw [cells29] at hl
  match cs, hl with
  | [c0, c1, c2], _ =>
    simp only [cells3, cells9, cells27] at h0 h1 h2
    obtain ⟨k, e0, _, _⟩ := DataW.trod_int Try.underlying3 h0
    obtain ⟨d, e1, _, _⟩ := DataW.trod_string Try.underlying9 h1
    obtain ⟨tv, xs, e2, hs⟩ := sl_of_trod h2
    simp at e0 e1 e2
    subst e0 e1 e2
    exact ⟨k, d, _, xs, rfl, hs⟩

theorem slots_of_trod {n : Nat} {v : Value} {x : DataW H × List MemPlace} (h : DataW.trod enc Try.prog w base spare held n 23 [v] = some x) : ∃ L, Slots w v L := by
  rcases open_slice Try.underlying23 h with ⟨hv, _⟩ | ⟨a, len, cap, m, fuel, D, Pl, hv, _, hl, hm, hmm, _, hx⟩
  · simp at hv
    subst hv
    exact ⟨[], none, 0, rfl, Nat.zero_le _, Nat.zero_le _, fun h => absurd rfl h⟩
  · simp at hv
    subst hv
    rw [cells29] at hx
    have hx' : ∀ i, i < len → ∃ s : SlotD, ∃ tv, w.cell? (a.add (i * 3)) = some (.int .i64 s.1) ∧ w.cell? ((a.add (i * 3)).add 1) = some (.string s.2.1) ∧ w.cell? ((a.add (i * 3)).add 2) = some tv ∧ Sl w tv s.2.2 := by
      intro i hi
      obtain ⟨cs', h1, h2⟩ := hx i (by rw [hmm]; split <;> omega)
      obtain ⟨k, d, tv, xs, rfl, hs⟩ := slot_of_trod h2
      obtain ⟨_, _, hc⟩ := World.cells?_some h1
      have c0 := hc 0 (by omega)
      have c1 := hc 1 (by omega)
      have c2 := hc 2 (by omega)
      exact ⟨(k, d, xs), tv, by simpa [Addr.add] using c0, c1, c2, hs⟩
    obtain ⟨f, hf⟩ := choose_lt hx'
    have hlen : ((List.range len).map f).length = len := by simp
    refine ⟨(List.range len).map f, some a, cap, by rw [hlen], by rw [hlen]; omega, by rw [hlen]; exact hl, fun hne => ?_⟩
    have hpos : 0 < len := by
      rcases Nat.eq_zero_or_pos len with e | e
      · subst e; simp at hne
      · exact e
    obtain ⟨tv0, c0, _⟩ := hf 0 hpos
    obtain ⟨b, off, spot⟩ := a
    have hspot : spot = none := by simpa [Addr.add] using World.cell?_spot c0
    subst hspot
    refine ⟨b, off, rfl, World.block_lt_of_cell? w _ (by rw [addr_add] at c0; exact c0), fun j hj => ?_⟩
    rw [hlen] at hj
    obtain ⟨tv, c0, c1, c2, hs⟩ := hf j hj
    rw [addr_add] at c0 c1 c2
    rw [addr_add] at c1 c2
    have e : ((List.range len).map f)[j]'(by rw [hlen]; exact hj) = f j := by simp
    rw [e]
    exact ⟨tv, c0, c1, c2, hs⟩
end Go.Proofs.Ytehleeibgkpjmad
/- From the reading of an argument to what it holds: snapshots, slices of them, images. -/
namespace Go.Proofs.Ytehleeibgkpjmad
open Go.RowKit Go.Deep Go.ChangeShapes Go.WideShapes Go.ChangeAt
set_option maxRecDepth 20000

theorem cellsSnap : Try.prog.cellsOf 72 = 3 := by kernel_rfl
theorem cellsSnaps : Try.prog.cellsOf 24 = 1 := by kernel_rfl
theorem cellsSlots : Try.prog.cellsOf 23 = 1 := by kernel_rfl
theorem cellsImage : Try.prog.cellsOf 26 = 5 := by kernel_rfl

variable {H : Type} {enc : TypeId × Value → H} {w : World} {base : Nat} {spare : Nat → Bool} {held : Bool}

set_option maxRecDepth 20000 in
theorem snap_of_trod {n : Nat} {cs : List Value} {x : DataW H × List MemPlace} (h : DataW.trod enc Try.prog w base spare held n 72 cs = some x) :
    ∃ d k tv xs, cs = [.string d, .int .i64 k, tv] ∧ Sl w tv xs := by
  obtain ⟨y0, y1, y2, m, _, hl, h0, h1, h2⟩ := trod_struct3 Try.underlying72 h
  rw [cellsSnap] at hl
  match cs, hl with
  | [c0, c1, c2], _ =>
    simp only [cells3, cells9, cells27] at h0 h1 h2
    obtain ⟨d, e0, _, _⟩ := DataW.trod_string Try.underlying9 h0
    obtain ⟨k, e1, _, _⟩ := DataW.trod_int Try.underlying3 h1
    obtain ⟨tv, xs, e2, hs⟩ := sl_of_trod h2
    simp at e0 e1 e2
    subst e0 e1 e2
    exact ⟨d, k, _, xs, rfl, hs⟩

theorem snaps_of_trod {n : Nat} {v : Value} {x : DataW H × List MemPlace} (h : DataW.trod enc Try.prog w base spare held n 24 [v] = some x) : ∃ L, Snaps w v L := by
  rcases open_slice Try.underlying24 h with ⟨hv, _⟩ | ⟨a, len, cap, m, fuel, D, Pl, hv, _, hl, hm, hmm, _, hx⟩
  · simp at hv
    subst hv
    exact ⟨[], none, 0, rfl, Nat.zero_le _, Nat.zero_le _, fun h => absurd rfl h⟩
  · simp at hv
    subst hv
    rw [cellsSnap] at hx
    have hx' : ∀ i, i < len → ∃ s : SnapD, ∃ tv, w.cell? (a.add (i * 3)) = some (.string s.1) ∧ w.cell? ((a.add (i * 3)).add 1) = some (.int .i64 s.2.1) ∧ w.cell? ((a.add (i * 3)).add 2) = some tv ∧ Sl w tv s.2.2 := by
      intro i hi
      obtain ⟨cs', h1, h2⟩ := hx i (by rw [hmm]; split <;> omega)
      obtain ⟨k, d, tv, xs, rfl, hs⟩ := snap_of_trod h2
      obtain ⟨_, _, hc⟩ := World.cells?_some h1
      have c0 := hc 0 (by omega)
      have c1 := hc 1 (by omega)
      have c2 := hc 2 (by omega)
      exact ⟨(k, d, xs), tv, by simpa [Addr.add] using c0, c1, c2, hs⟩
    obtain ⟨f, hf⟩ := choose_lt hx'
    have hlen : ((List.range len).map f).length = len := by simp
    refine ⟨(List.range len).map f, some a, cap, by rw [hlen], by rw [hlen]; omega, by rw [hlen]; exact hl, fun hne => ?_⟩
    have hpos : 0 < len := by
      rcases Nat.eq_zero_or_pos len with e | e
      · subst e; simp at hne
      · exact e
    obtain ⟨tv0, c0, _⟩ := hf 0 hpos
    obtain ⟨b, off, spot⟩ := a
    have hspot : spot = none := by simpa [Addr.add] using World.cell?_spot c0
    subst hspot
    refine ⟨b, off, rfl, World.block_lt_of_cell? w _ (by rw [addr_add] at c0; exact c0), fun j hj => ?_⟩
    rw [hlen] at hj
    obtain ⟨tv, c0, c1, c2, hs⟩ := hf j hj
    rw [addr_add] at c0 c1 c2
    rw [addr_add] at c1 c2
    have e : ((List.range len).map f)[j]'(by rw [hlen]; exact hj) = f j := by simp
    rw [e]
    exact ⟨tv, c0, c1, c2, hs⟩

theorem trod_struct5 {P : Program} {t : TypeId} {f0 f1 f2 f3 f4 : Field} {fuel : Nat} {cs : List Value} {x : DataW H × List MemPlace} (ht : P.underlying t = some (.struct #[f0, f1, f2, f3, f4])) (h : DataW.trod enc P w base spare held fuel t cs = some x) :
    ∃ y0 y1 y2 y3 y4 n, cs.length = P.cellsOf t ∧ DataW.trod enc P w base spare held n f0.type ((cs.drop f0.offset).take (P.cellsOf f0.type)) = some y0 ∧
      DataW.trod enc P w base spare held n f1.type ((cs.drop f1.offset).take (P.cellsOf f1.type)) = some y1 ∧ DataW.trod enc P w base spare held n f2.type ((cs.drop f2.offset).take (P.cellsOf f2.type)) = some y2 ∧
      DataW.trod enc P w base spare held n f3.type ((cs.drop f3.offset).take (P.cellsOf f3.type)) = some y3 ∧ DataW.trod enc P w base spare held n f4.type ((cs.drop f4.offset).take (P.cellsOf f4.type)) = some y4 := by
  obtain ⟨xs, n, _, rfl, hl, hlen, hf⟩ := DataW.trod_struct ht h
  match xs, hlen with
  | [y0, y1, y2, y3, y4], _ => exact ⟨y0, y1, y2, y3, y4, n, hl, by simpa using hf 0 f0 rfl, by simpa using hf 1 f1 rfl, by simpa using hf 2 f2 rfl, by simpa using hf 3 f3 rfl, by simpa using hf 4 f4 rfl⟩
set_option maxRecDepth 20000 in
theorem img_of_trod {n : Nat} {cs : List Value} {x : DataW H × List MemPlace} (h : DataW.trod enc Try.prog w base spare held n 26 cs = some x) : ∃ g rv sv fv nv, cs = [.int .i64 g, rv, sv, fv, nv] ∧ ∃ r L F S, Sl w rv r ∧ Slots w sv L ∧ Sl w fv F ∧ Snaps w nv S := by
  obtain ⟨y0, y1, y2, y3, y4, m, hl, h0, h1, h2, h3, h4⟩ := trod_struct5 Try.underlying26 h
  rw [cellsImage] at hl
  match cs, hl with
  | [c0, c1, c2, c3, c4], _ =>
    simp only [cells3] at h0
    simp only [cells27] at h1 h3
    simp only [cellsSlots] at h2
    simp only [cellsSnaps] at h4
    obtain ⟨g, e0, _, _⟩ := DataW.trod_int Try.underlying3 h0
    obtain ⟨rv, r, e1, hr⟩ := sl_of_trod h1
    obtain ⟨L, hL⟩ := slots_of_trod (v := c2) h2
    obtain ⟨fv, F, e3, hF⟩ := sl_of_trod h3
    obtain ⟨S, hS⟩ := snaps_of_trod (v := c4) h4
    simp at e0 e1 e3
    subst e0 e1 e3
    exact ⟨g, _, _, _, _, rfl, r, L, F, S, hr, hL, hF, hS⟩
set_option maxRecDepth 20000 in
theorem img_of_arg {r : Reach} {b0 : Nat} {v : Value} {d : DataW H} {p : List MemPlace} (hv : Value.okWide Try.prog w r b0 26 v) (h : DataW.Trod enc Try.prog w base spare held 26 v d p) : ∃ m, Img w v m := by
  obtain ⟨cs, rfl, hsz⟩ := okWide_struct Try.underlying26 hv
  obtain ⟨fuel, hf⟩ := h
  obtain ⟨g, rv, sv, fv, nv, e, r, L, F, S, h1, h2, h3, h4⟩ := img_of_trod hf
  have e' : cs.toList = [.int .i64 g, rv, sv, fv, nv] := by simpa [Value.cells] using e
  cases cs
  simp at e'
  exact ⟨⟨g, r, L, F, S⟩, rv, sv, fv, nv, by rw [e'], h1, h2, h3, h4⟩
end Go.Proofs.Ytehleeibgkpjmad
