/- Texts joined: WTrue. -/
import Derived.Test.YtehleeibgkpjmadWritesTrueJ11
import Derived.Test.YtehleeibgkpjmadWritesTrueJ12
/- The walk of WritesTrue. -/
namespace Go.Proofs.Ytehleeibgkpjmad
open Go.RowKit Go.Shelf
set_option maxRecDepth 20000
set_option linter.unusedVariables false

set_option maxHeartbeats 4000000 in
theorem wtrue_bad (ra : Option Addr) (rc : Nat) (sa : Option Addr) (sc : Nat) (fa : Option Addr) (fc : Nat) (na : Option Addr) (nc : Nat) (m : ImgD) (n : Int) (page : ByteArray) (g : Int) (w : World) (h : Img w (.agg #[.int .i64 m.guest, .slice ra m.root.length rc, .slice sa m.slots.length sc, .slice fa m.refs.length fc, .slice na m.snaps.length nc]) m) (P : Int) (V : List ByteArray) (HP : Hid (checkE m = P ∧ allV m = V)) (bP : (P != 0) = true) :
    Calls Try.prog 4 #[.agg #[.int .i64 m.guest, .slice ra m.root.length rc, .slice sa m.slots.length sc, .slice fa m.refs.length fc, .slice na m.snaps.length nc], .int .i64 n, .string page, .int .i64 g] w fun r w' => r = .returned (.bool true) ∧ Below w.heap.size w w' := by
  have hB : Below w.heap.size w (w.alloc (.cells #[.int .i64 m.guest, .slice ra m.root.length rc, .slice sa m.slots.length sc, .slice fa m.refs.length fc, .slice na m.snaps.length nc] 26)) := (Below.refl _ _).alloc (Nat.le_refl _) _
  have mb_m : (w.alloc (.cells #[.int .i64 m.guest, .slice ra m.root.length rc, .slice sa m.slots.length sc, .slice fa m.refs.length fc, .slice na m.snaps.length nc] 26)).heap[w.heap.size]? = some (.cells #[.int .i64 m.guest, .slice ra m.root.length rc, .slice sa m.slots.length sc, .slice fa m.refs.length fc, .slice na m.snaps.length nc] 26) := World.alloc_heap_new _ _
  have I_m := h.below hB
  clear h
  go_enter Try.func4, Try.ntmps4
  obtain ⟨m0, m1, m2, m3, m4⟩ := five mb_m
  have hh_mb_m := Hid_mkW mb_m
  have hh_I_m := Hid_mkW I_m
  have hh_hB := Hid_mkW hB
  clear mb_m I_m hB
  go_wp2_with fail
  clear m0 m1 m2 m3 m4
  have mb_m := hh_mb_m.out
  have I_m := hh_I_m.out
  have hB := hh_hB.out
  clear hh_mb_m hh_I_m hh_hB
  refine (all_is I_m HP.out.1 HP.out.2).mono ?_
  rintro e w1 ⟨⟨l0, rfl, S0⟩, bb⟩
  replace mb_m := cells_below mb_m bb (Array.getElem?_eq_some_iff.1 mb_m).1
  replace hB := Below.on hB bb
  replace I_m := I_m.below bb
  clear bb
  have hh_mb_m := Hid_mkW mb_m
  have hh_I_m := Hid_mkW I_m
  have hh_hB := Hid_mkW hB
  clear mb_m I_m hB
  go_wp2_with fail
  have mb_m := hh_mb_m.out
  have I_m := hh_I_m.out
  have hB := hh_hB.out
  clear hh_mb_m hh_I_m hh_hB
  refine (writesBegun_any _).mono ?_
  rintro e w2 ⟨rfl, bb⟩
  replace mb_m := cells_below mb_m bb (Array.getElem?_eq_some_iff.1 mb_m).1
  replace hB := Below.on hB bb
  replace I_m := I_m.below bb
  clear bb
  have hh_mb_m := Hid_mkW mb_m
  have hh_I_m := Hid_mkW I_m
  have hh_hB := Hid_mkW hB
  clear mb_m I_m hB
  go_wp2_with fail
  go_ret
  have hB := hh_hB.out
  exact ⟨rfl, hB⟩

set_option maxHeartbeats 16000000 in
theorem wtrue_at (ra : Option Addr) (rc : Nat) (sa : Option Addr) (sc : Nat) (fa : Option Addr) (fc : Nat) (na : Option Addr) (nc : Nat) (m : ImgD) (n : Int) (page : ByteArray) (g : Int) (w : World) (h : Img w (.agg #[.int .i64 m.guest, .slice ra m.root.length rc, .slice sa m.slots.length sc, .slice fa m.refs.length fc, .slice na m.snaps.length nc]) m) (V : List ByteArray) (HP : Hid (checkE m = 0 ∧ allV m = V)) :
    Calls Try.prog 4 #[.agg #[.int .i64 m.guest, .slice ra m.root.length rc, .slice sa m.slots.length sc, .slice fa m.refs.length fc, .slice na m.snaps.length nc], .int .i64 n, .string page, .int .i64 g] w fun r w' => r = .returned (.bool true) ∧ Below w.heap.size w w' := by
  have hB : Below w.heap.size w (w.alloc (.cells #[.int .i64 m.guest, .slice ra m.root.length rc, .slice sa m.slots.length sc, .slice fa m.refs.length fc, .slice na m.snaps.length nc] 26)) := (Below.refl _ _).alloc (Nat.le_refl _) _
  have mb_m : (w.alloc (.cells #[.int .i64 m.guest, .slice ra m.root.length rc, .slice sa m.slots.length sc, .slice fa m.refs.length fc, .slice na m.snaps.length nc] 26)).heap[w.heap.size]? = some (.cells #[.int .i64 m.guest, .slice ra m.root.length rc, .slice sa m.slots.length sc, .slice fa m.refs.length fc, .slice na m.snaps.length nc] 26) := World.alloc_heap_new _ _
  have I_m := h.below hB
  obtain ⟨MA, hMA⟩ : ∃ X, wrM m n page = X := ⟨_, rfl⟩
  obtain ⟨EA, hEA⟩ : ∃ X, wrE m n page = X := ⟨_, rfl⟩
  obtain ⟨MB, hMB⟩ : ∃ X, puM m n (-1) = X := ⟨_, rfl⟩
  obtain ⟨EB, hEB⟩ : ∃ X, puE m n (-1) = X := ⟨_, rfl⟩
  obtain ⟨MC, hMC⟩ : ∃ X, puM m n 0 = X := ⟨_, rfl⟩
  obtain ⟨EC, hEC⟩ : ∃ X, puE m n 0 = X := ⟨_, rfl⟩
  obtain ⟨MD, hMD⟩ : ∃ X, rzM m g = X := ⟨_, rfl⟩
  obtain ⟨ED, hED⟩ : ∃ X, rzE m g = X := ⟨_, rfl⟩
  have HA : Hid (wrM m n page = MA ∧ wrE m n page = EA) := ⟨hMA, hEA⟩
  have HB : Hid (puM m n (-1) = MB ∧ puE m n (-1) = EB) := ⟨hMB, hEB⟩
  have HC : Hid (puM m n 0 = MC ∧ puE m n 0 = EC) := ⟨hMC, hEC⟩
  have HD : Hid (rzM m g = MD ∧ rzE m g = ED) := ⟨hMD, hED⟩
  have KA : Hid (EA = 0 → lookE m n = 0 ∧ page.size = 4 ∧ Wrote m MA n.toNat page 2) := fun e => by subst hMA hEA; have := wr_ok e; exact ⟨this.1, this.2.1, this.2.2.2⟩
  have KB : Hid (EB = 0 → lookE m n = 0 ∧ Wrote m MB n.toNat Z4 1) := fun e => by subst hMB hEB; have := pu_ok (Or.inr rfl) e; exact ⟨this.1, this.2.2⟩
  have KC : Hid (EC = 0 → lookE m n = 0 ∧ Wrote m MC n.toNat Z4 1) := fun e => by subst hMC hEC; have := pu_ok (Or.inl rfl) e; exact ⟨this.1, this.2.2⟩
  have KD : Hid (ED = 0 → 0 ≤ g ∧ g ≤ 16 ∧ Resized m MD g.toNat) := fun e => by subst hMD hED; have := rz_ok e; exact ⟨this.2.1, this.2.2.1, this.2.2.2.2⟩
  clear hMA hEA hMB hEB hMC hEC hMD hED
  obtain ⟨KE, hKE⟩ : ∃ X, fwE V n Z4 = X := ⟨_, rfl⟩
  obtain ⟨KY, hKY⟩ : ∃ X, fwA V n Z4 = X := ⟨_, rfl⟩
  have HK : Hid (fwA V n Z4 = KY ∧ fwE V n Z4 = KE) := ⟨hKY, hKE⟩
  have HV : Hid (ckP V = 0 ∧ ∀ n, atE V n = lookE m n) := by
    have := allV_facts HP.out.1
    rw [HP.out.2] at this
    exact ⟨this.1, fun n => (this.2.2 n).1⟩
  clear hKE hKY
  clear h
  go_enter Try.func4, Try.ntmps4
  obtain ⟨m0, m1, m2, m3, m4⟩ := five mb_m
  have hh_mb_m := Hid_mkW mb_m
  have hh_I_m := Hid_mkW I_m
  have hh_hB := Hid_mkW hB
  clear mb_m I_m hB
  go_wp2_with fail
  clear m0 m1 m2 m3 m4
  have mb_m := hh_mb_m.out
  have I_m := hh_I_m.out
  have hB := hh_hB.out
  clear hh_mb_m hh_I_m hh_hB
  refine (all_is I_m HP.out.1 HP.out.2).mono ?_
  rintro e w1 ⟨⟨l0, rfl, S0⟩, bb⟩
  replace mb_m := cells_below mb_m bb (Array.getElem?_eq_some_iff.1 mb_m).1
  replace hB := Below.on hB bb
  replace I_m := I_m.below bb
  clear bb
  obtain ⟨m0, m1, m2, m3, m4⟩ := five mb_m
  have hh_mb_m := Hid_mkW mb_m
  have hh_I_m := Hid_mkW I_m
  have hh_S0 := Hid_mkW S0
  have hh_hB := Hid_mkW hB
  clear mb_m I_m S0 hB
  go_wp2_with fail
  clear m0 m1 m2 m3 m4
  have mb_m := hh_mb_m.out
  have I_m := hh_I_m.out
  have S0 := hh_S0.out
  have hB := hh_hB.out
  clear hh_mb_m hh_I_m hh_S0 hh_hB
  refine (zeroPage_any _).mono ?_
  rintro e w' ⟨rfl, hw⟩
  rw [hw]; clear hw
  obtain ⟨m0, m1, m2, m3, m4⟩ := five mb_m
  have hh_mb_m := Hid_mkW mb_m
  have hh_I_m := Hid_mkW I_m
  have hh_S0 := Hid_mkW S0
  have hh_hB := Hid_mkW hB
  clear mb_m I_m S0 hB
  go_wp2_with fail
  clear m0 m1 m2 m3 m4
  have mb_m := hh_mb_m.out
  have I_m := hh_I_m.out
  have S0 := hh_S0.out
  have hB := hh_hB.out
  clear hh_mb_m hh_I_m hh_S0 hh_hB
  refine (write_to I_m n page HA.out.1 HA.out.2).mono ?_
  intro e w2 hA
  obtain ⟨val, a_r, a_rc, a_s, a_sc, a_f, a_fc, a_n, a_nc, rfl, hO, bb, hI⟩ := hA.open
  dsimp only
  have I_a := hO.img
  rw [hI] at I_a
  clear hA hO hI
  replace mb_m := cells_below mb_m bb (Array.getElem?_eq_some_iff.1 mb_m).1
  replace hB := Below.on hB bb
  replace I_m := I_m.below bb
  replace S0 := S0.below bb
  clear bb
  replace mb_m := cells_alloc mb_m (.cells #[.int .i64 MA.guest, .slice a_r MA.root.length a_rc, .slice a_s MA.slots.length a_sc, .slice a_f MA.refs.length a_fc, .slice a_n MA.snaps.length a_nc] 26)
  have ba : Below w2.heap.size w2 (w2.alloc (.cells #[.int .i64 MA.guest, .slice a_r MA.root.length a_rc, .slice a_s MA.slots.length a_sc, .slice a_f MA.refs.length a_fc, .slice a_n MA.snaps.length a_nc] 26)) := (Below.refl _ _).alloc (Nat.le_refl _) _
  replace hB := Below.on hB ba
  replace I_m := I_m.below ba
  replace S0 := S0.below ba
  replace I_a := I_a.below ba
  clear ba
  have mb_a : (w2.alloc (.cells #[.int .i64 MA.guest, .slice a_r MA.root.length a_rc, .slice a_s MA.slots.length a_sc, .slice a_f MA.refs.length a_fc, .slice a_n MA.snaps.length a_nc] 26)).heap[w2.heap.size]? = some (.cells #[.int .i64 MA.guest, .slice a_r MA.root.length a_rc, .slice a_s MA.slots.length a_sc, .slice a_f MA.refs.length a_fc, .slice a_n MA.snaps.length a_nc] 26) := World.alloc_heap_new _ _
  rcases Bool.eq_false_or_eq_true (EA == 0) with bEA | bEA
  · skip
    have nEA : (EA != 0) = false := by show (!(EA == 0)) = _; rw [bEA]; rfl
    have k0 := KA.out (by simpa using bEA)
    have fA : Hid (fwA V n page = V.set n.toNat page ∧ fwE V n page = 0) := by have e : fwE V n page = 0 := by { unfold fwE; rw [if_pos ((HV.out.2 n).trans k0.1), if_pos k0.2.1] }; exact ⟨by unfold fwA; rw [if_pos e], e⟩
    have kA : Hid (checkE MA = 0 ∧ allV MA = V.set n.toNat page) := ⟨k0.2.2.right, by rw [k0.2.2.all, HP.out.2]⟩
    clear k0
    obtain ⟨m0, m1, m2, m3, m4⟩ := five mb_m
    obtain ⟨a0, a1, a2, a3, a4⟩ := five mb_a
    have hh_mb_m := Hid_mkW mb_m
    have hh_mb_a := Hid_mkW mb_a
    have hh_I_m := Hid_mkW I_m
    have hh_S0 := Hid_mkW S0
    have hh_I_a := Hid_mkW I_a
    have hh_hB := Hid_mkW hB
    clear mb_m mb_a I_m S0 I_a hB
    go_wp2_with fail
    clear m0 m1 m2 m3 m4 a0 a1 a2 a3 a4
    have mb_m := hh_mb_m.out
    have mb_a := hh_mb_a.out
    have I_m := hh_I_m.out
    have S0 := hh_S0.out
    have I_a := hh_I_a.out
    have hB := hh_hB.out
    clear hh_mb_m hh_mb_a hh_I_m hh_S0 hh_I_a hh_hB
    refine (all_is I_a kA.out.1 kA.out.2).mono ?_
    rintro e w3 ⟨⟨la, rfl, Sa⟩, bb⟩
    replace mb_m := cells_below mb_m bb (Array.getElem?_eq_some_iff.1 mb_m).1
    replace mb_a := cells_below mb_a bb (Array.getElem?_eq_some_iff.1 mb_a).1
    replace hB := Below.on hB bb
    replace I_m := I_m.below bb
    replace S0 := S0.below bb
    replace I_a := I_a.below bb
    clear bb
    obtain ⟨m0, m1, m2, m3, m4⟩ := five mb_m
    obtain ⟨a0, a1, a2, a3, a4⟩ := five mb_a
    have hh_mb_m := Hid_mkW mb_m
    have hh_mb_a := Hid_mkW mb_a
    have hh_I_m := Hid_mkW I_m
    have hh_S0 := Hid_mkW S0
    have hh_I_a := Hid_mkW I_a
    have hh_Sa := Hid_mkW Sa
    have hh_hB := Hid_mkW hB
    clear mb_m mb_a I_m S0 I_a Sa hB
    go_wp2_with fail
    clear m0 m1 m2 m3 m4 a0 a1 a2 a3 a4
    have mb_m := hh_mb_m.out
    have mb_a := hh_mb_a.out
    have I_m := hh_I_m.out
    have S0 := hh_S0.out
    have I_a := hh_I_a.out
    have Sa := hh_Sa.out
    have hB := hh_hB.out
    clear hh_mb_m hh_mb_a hh_I_m hh_S0 hh_I_a hh_Sa hh_hB
    refine (fwrite_is S0 fA.out.1 fA.out.2).mono ?_
    rintro e w4 ⟨lw, rfl, Sw, bb⟩
    replace mb_m := cells_below mb_m bb (Array.getElem?_eq_some_iff.1 mb_m).1
    replace mb_a := cells_below mb_a bb (Array.getElem?_eq_some_iff.1 mb_a).1
    replace hB := Below.on hB bb
    replace I_m := I_m.below bb
    replace S0 := S0.below bb
    replace I_a := I_a.below bb
    replace Sa := Sa.below bb
    clear bb
    obtain ⟨m0, m1, m2, m3, m4⟩ := five mb_m
    obtain ⟨a0, a1, a2, a3, a4⟩ := five mb_a
    have hh_mb_m := Hid_mkW mb_m
    have hh_mb_a := Hid_mkW mb_a
    have hh_I_m := Hid_mkW I_m
    have hh_S0 := Hid_mkW S0
    have hh_I_a := Hid_mkW I_a
    have hh_Sa := Hid_mkW Sa
    have hh_Sw := Hid_mkW Sw
    have hh_hB := Hid_mkW hB
    clear mb_m mb_a I_m S0 I_a Sa Sw hB
    go_wp2_with fail
    clear m0 m1 m2 m3 m4 a0 a1 a2 a3 a4
    have mb_m := hh_mb_m.out
    have mb_a := hh_mb_a.out
    have I_m := hh_I_m.out
    have S0 := hh_S0.out
    have I_a := hh_I_a.out
    have Sa := hh_Sa.out
    have Sw := hh_Sw.out
    have hB := hh_hB.out
    clear hh_mb_m hh_mb_a hh_I_m hh_S0 hh_I_a hh_Sa hh_Sw hh_hB
    refine (samePages_any Sa Sw).mono ?_
    rintro e w5 ⟨rfl, bb⟩
    replace mb_m := cells_below mb_m bb (Array.getElem?_eq_some_iff.1 mb_m).1
    replace mb_a := cells_below mb_a bb (Array.getElem?_eq_some_iff.1 mb_a).1
    replace hB := Below.on hB bb
    replace I_m := I_m.below bb
    replace S0 := S0.below bb
    replace I_a := I_a.below bb
    replace Sa := Sa.below bb
    replace Sw := Sw.below bb
    clear bb
    clear Sa
    clear Sw
    clear mb_a
    clear I_a
    obtain ⟨m0, m1, m2, m3, m4⟩ := five mb_m
    have hh_mb_m := Hid_mkW mb_m
    have hh_I_m := Hid_mkW I_m
    have hh_S0 := Hid_mkW S0
    have hh_hB := Hid_mkW hB
    clear mb_m I_m S0 hB
    go_wp2_with fail
    clear m0 m1 m2 m3 m4
    have mb_m := hh_mb_m.out
    have I_m := hh_I_m.out
    have S0 := hh_S0.out
    have hB := hh_hB.out
    clear hh_mb_m hh_I_m hh_S0 hh_hB
    refine (wipe_to I_m n HB.out.1 HB.out.2).mono ?_
    intro e w6 hA
    obtain ⟨val, b_r, b_rc, b_s, b_sc, b_f, b_fc, b_n, b_nc, rfl, hO, bb, hI⟩ := hA.open
    dsimp only
    have I_b := hO.img
    rw [hI] at I_b
    clear hA hO hI
    replace mb_m := cells_below mb_m bb (Array.getElem?_eq_some_iff.1 mb_m).1
    replace hB := Below.on hB bb
    replace I_m := I_m.below bb
    replace S0 := S0.below bb
    clear bb
    replace mb_m := cells_alloc mb_m (.cells #[.int .i64 MB.guest, .slice b_r MB.root.length b_rc, .slice b_s MB.slots.length b_sc, .slice b_f MB.refs.length b_fc, .slice b_n MB.snaps.length b_nc] 26)
    have ba : Below w6.heap.size w6 (w6.alloc (.cells #[.int .i64 MB.guest, .slice b_r MB.root.length b_rc, .slice b_s MB.slots.length b_sc, .slice b_f MB.refs.length b_fc, .slice b_n MB.snaps.length b_nc] 26)) := (Below.refl _ _).alloc (Nat.le_refl _) _
    replace hB := Below.on hB ba
    replace I_m := I_m.below ba
    replace S0 := S0.below ba
    replace I_b := I_b.below ba
    clear ba
    have mb_b : (w6.alloc (.cells #[.int .i64 MB.guest, .slice b_r MB.root.length b_rc, .slice b_s MB.slots.length b_sc, .slice b_f MB.refs.length b_fc, .slice b_n MB.snaps.length b_nc] 26)).heap[w6.heap.size]? = some (.cells #[.int .i64 MB.guest, .slice b_r MB.root.length b_rc, .slice b_s MB.slots.length b_sc, .slice b_f MB.refs.length b_fc, .slice b_n MB.snaps.length b_nc] 26) := World.alloc_heap_new _ _
    obtain ⟨m0, m1, m2, m3, m4⟩ := five mb_m
    have hh_mb_m := Hid_mkW mb_m
    have hh_mb_b := Hid_mkW mb_b
    have hh_I_m := Hid_mkW I_m
    have hh_S0 := Hid_mkW S0
    have hh_I_b := Hid_mkW I_b
    have hh_hB := Hid_mkW hB
    clear mb_m mb_b I_m S0 I_b hB
    go_wp2_with fail
    clear m0 m1 m2 m3 m4
    have mb_m := hh_mb_m.out
    have mb_b := hh_mb_b.out
    have I_m := hh_I_m.out
    have S0 := hh_S0.out
    have I_b := hh_I_b.out
    have hB := hh_hB.out
    clear hh_mb_m hh_mb_b hh_I_m hh_S0 hh_I_b hh_hB
    refine (punch_to I_m n HC.out.1 HC.out.2).mono ?_
    intro e w7 hA
    obtain ⟨val, c_r, c_rc, c_s, c_sc, c_f, c_fc, c_n, c_nc, rfl, hO, bb, hI⟩ := hA.open
    dsimp only
    have I_c := hO.img
    rw [hI] at I_c
    clear hA hO hI
    replace mb_m := cells_below mb_m bb (Array.getElem?_eq_some_iff.1 mb_m).1
    replace mb_b := cells_below mb_b bb (Array.getElem?_eq_some_iff.1 mb_b).1
    replace hB := Below.on hB bb
    replace I_m := I_m.below bb
    replace S0 := S0.below bb
    replace I_b := I_b.below bb
    clear bb
    replace mb_m := cells_alloc mb_m (.cells #[.int .i64 MC.guest, .slice c_r MC.root.length c_rc, .slice c_s MC.slots.length c_sc, .slice c_f MC.refs.length c_fc, .slice c_n MC.snaps.length c_nc] 26)
    replace mb_b := cells_alloc mb_b (.cells #[.int .i64 MC.guest, .slice c_r MC.root.length c_rc, .slice c_s MC.slots.length c_sc, .slice c_f MC.refs.length c_fc, .slice c_n MC.snaps.length c_nc] 26)
    have ba : Below w7.heap.size w7 (w7.alloc (.cells #[.int .i64 MC.guest, .slice c_r MC.root.length c_rc, .slice c_s MC.slots.length c_sc, .slice c_f MC.refs.length c_fc, .slice c_n MC.snaps.length c_nc] 26)) := (Below.refl _ _).alloc (Nat.le_refl _) _
    replace hB := Below.on hB ba
    replace I_m := I_m.below ba
    replace S0 := S0.below ba
    replace I_b := I_b.below ba
    replace I_c := I_c.below ba
    clear ba
    have mb_c : (w7.alloc (.cells #[.int .i64 MC.guest, .slice c_r MC.root.length c_rc, .slice c_s MC.slots.length c_sc, .slice c_f MC.refs.length c_fc, .slice c_n MC.snaps.length c_nc] 26)).heap[w7.heap.size]? = some (.cells #[.int .i64 MC.guest, .slice c_r MC.root.length c_rc, .slice c_s MC.slots.length c_sc, .slice c_f MC.refs.length c_fc, .slice c_n MC.snaps.length c_nc] 26) := World.alloc_heap_new _ _
    obtain ⟨m0, m1, m2, m3, m4⟩ := five mb_m
    obtain ⟨b0, b1, b2, b3, b4⟩ := five mb_b
    obtain ⟨c0, c1, c2, c3, c4⟩ := five mb_c
    have hh_mb_m := Hid_mkW mb_m
    have hh_mb_b := Hid_mkW mb_b
    have hh_mb_c := Hid_mkW mb_c
    have hh_I_m := Hid_mkW I_m
    have hh_S0 := Hid_mkW S0
    have hh_I_b := Hid_mkW I_b
    have hh_I_c := Hid_mkW I_c
    have hh_hB := Hid_mkW hB
    clear mb_m mb_b mb_c I_m S0 I_b I_c hB
    go_wp2_with fail
    clear m0 m1 m2 m3 m4 b0 b1 b2 b3 b4 c0 c1 c2 c3 c4
    have mb_m := hh_mb_m.out
    have mb_b := hh_mb_b.out
    have mb_c := hh_mb_c.out
    have I_m := hh_I_m.out
    have S0 := hh_S0.out
    have I_b := hh_I_b.out
    have I_c := hh_I_c.out
    have hB := hh_hB.out
    clear hh_mb_m hh_mb_b hh_mb_c hh_I_m hh_S0 hh_I_b hh_I_c hh_hB
    refine (fwrite_is S0 HK.out.1 HK.out.2).mono ?_
    rintro e w8 ⟨ly, rfl, Sy, bb⟩
    replace mb_m := cells_below mb_m bb (Array.getElem?_eq_some_iff.1 mb_m).1
    replace mb_b := cells_below mb_b bb (Array.getElem?_eq_some_iff.1 mb_b).1
    replace mb_c := cells_below mb_c bb (Array.getElem?_eq_some_iff.1 mb_c).1
    replace hB := Below.on hB bb
    replace I_m := I_m.below bb
    replace S0 := S0.below bb
    replace I_b := I_b.below bb
    replace I_c := I_c.below bb
    clear bb
    rcases Bool.eq_false_or_eq_true (EB == 0) with bEB | bEB
    · skip
      have nEB : (EB != 0) = false := by show (!(EB == 0)) = _; rw [bEB]; rfl
      have k0 := KB.out (by simpa using bEB)
      have e0 : KE = 0 := by rw [← HK.out.2]; unfold fwE; rw [if_pos ((HV.out.2 n).trans k0.1), if_pos (by decide)]
      have y0 : KY = V.set n.toNat Z4 := by rw [← HK.out.1]; unfold fwA; rw [if_pos (HK.out.2.trans e0)]
      have kB : Hid (checkE MB = 0 ∧ allV MB = KY) := ⟨k0.2.right, by rw [k0.2.all, y0, HP.out.2]⟩
      have e1 : (KE != 0) = false := by simp [e0]
      clear k0 e0 y0
      obtain ⟨m0, m1, m2, m3, m4⟩ := five mb_m
      obtain ⟨b0, b1, b2, b3, b4⟩ := five mb_b
      obtain ⟨c0, c1, c2, c3, c4⟩ := five mb_c
      have hh_mb_m := Hid_mkW mb_m
      have hh_mb_b := Hid_mkW mb_b
      have hh_mb_c := Hid_mkW mb_c
      have hh_I_m := Hid_mkW I_m
      have hh_S0 := Hid_mkW S0
      have hh_I_b := Hid_mkW I_b
      have hh_I_c := Hid_mkW I_c
      have hh_Sy := Hid_mkW Sy
      have hh_hB := Hid_mkW hB
      clear mb_m mb_b mb_c I_m S0 I_b I_c Sy hB
      go_wp2_with fail
      clear m0 m1 m2 m3 m4 b0 b1 b2 b3 b4 c0 c1 c2 c3 c4
      have mb_m := hh_mb_m.out
      have mb_b := hh_mb_b.out
      have mb_c := hh_mb_c.out
      have I_m := hh_I_m.out
      have S0 := hh_S0.out
      have I_b := hh_I_b.out
      have I_c := hh_I_c.out
      have Sy := hh_Sy.out
      have hB := hh_hB.out
      clear hh_mb_m hh_mb_b hh_mb_c hh_I_m hh_S0 hh_I_b hh_I_c hh_Sy hh_hB
      refine (all_is I_b kB.out.1 kB.out.2).mono ?_
      rintro e w9 ⟨⟨lb, rfl, Sb⟩, bb⟩
      replace mb_m := cells_below mb_m bb (Array.getElem?_eq_some_iff.1 mb_m).1
      replace mb_b := cells_below mb_b bb (Array.getElem?_eq_some_iff.1 mb_b).1
      replace mb_c := cells_below mb_c bb (Array.getElem?_eq_some_iff.1 mb_c).1
      replace hB := Below.on hB bb
      replace I_m := I_m.below bb
      replace S0 := S0.below bb
      replace I_b := I_b.below bb
      replace I_c := I_c.below bb
      replace Sy := Sy.below bb
      clear bb
      obtain ⟨m0, m1, m2, m3, m4⟩ := five mb_m
      obtain ⟨b0, b1, b2, b3, b4⟩ := five mb_b
      obtain ⟨c0, c1, c2, c3, c4⟩ := five mb_c
      have hh_mb_m := Hid_mkW mb_m
      have hh_mb_b := Hid_mkW mb_b
      have hh_mb_c := Hid_mkW mb_c
      have hh_I_m := Hid_mkW I_m
      have hh_S0 := Hid_mkW S0
      have hh_I_b := Hid_mkW I_b
      have hh_I_c := Hid_mkW I_c
      have hh_Sy := Hid_mkW Sy
      have hh_Sb := Hid_mkW Sb
      have hh_hB := Hid_mkW hB
      clear mb_m mb_b mb_c I_m S0 I_b I_c Sy Sb hB
      go_wp2_with fail
      clear m0 m1 m2 m3 m4 b0 b1 b2 b3 b4 c0 c1 c2 c3 c4
      have mb_m := hh_mb_m.out
      have mb_b := hh_mb_b.out
      have mb_c := hh_mb_c.out
      have I_m := hh_I_m.out
      have S0 := hh_S0.out
      have I_b := hh_I_b.out
      have I_c := hh_I_c.out
      have Sy := hh_Sy.out
      have Sb := hh_Sb.out
      have hB := hh_hB.out
      clear hh_mb_m hh_mb_b hh_mb_c hh_I_m hh_S0 hh_I_b hh_I_c hh_Sy hh_Sb hh_hB
      refine (samePages_any Sb Sy).mono ?_
      rintro e w10 ⟨rfl, bb⟩
      replace mb_m := cells_below mb_m bb (Array.getElem?_eq_some_iff.1 mb_m).1
      replace mb_b := cells_below mb_b bb (Array.getElem?_eq_some_iff.1 mb_b).1
      replace mb_c := cells_below mb_c bb (Array.getElem?_eq_some_iff.1 mb_c).1
      replace hB := Below.on hB bb
      replace I_m := I_m.below bb
      replace S0 := S0.below bb
      replace I_b := I_b.below bb
      replace I_c := I_c.below bb
      replace Sy := Sy.below bb
      replace Sb := Sb.below bb
      clear bb
      clear Sb
      clear e1
      rcases Bool.eq_false_or_eq_true (EC == 0) with bEC | bEC
      · skip
        have nEC : (EC != 0) = false := by show (!(EC == 0)) = _; rw [bEC]; rfl
        have k0 := KC.out (by simpa using bEC)
        have e0 : KE = 0 := by rw [← HK.out.2]; unfold fwE; rw [if_pos ((HV.out.2 n).trans k0.1), if_pos (by decide)]
        have y0 : KY = V.set n.toNat Z4 := by rw [← HK.out.1]; unfold fwA; rw [if_pos (HK.out.2.trans e0)]
        have kC : Hid (checkE MC = 0 ∧ allV MC = KY) := ⟨k0.2.right, by rw [k0.2.all, y0, HP.out.2]⟩
        have e1 : (KE != 0) = false := by simp [e0]
        clear k0 e0 y0
        obtain ⟨m0, m1, m2, m3, m4⟩ := five mb_m
        obtain ⟨b0, b1, b2, b3, b4⟩ := five mb_b
        obtain ⟨c0, c1, c2, c3, c4⟩ := five mb_c
        have hh_mb_m := Hid_mkW mb_m
        have hh_mb_b := Hid_mkW mb_b
        have hh_mb_c := Hid_mkW mb_c
        have hh_I_m := Hid_mkW I_m
        have hh_S0 := Hid_mkW S0
        have hh_I_b := Hid_mkW I_b
        have hh_I_c := Hid_mkW I_c
        have hh_Sy := Hid_mkW Sy
        have hh_hB := Hid_mkW hB
        clear mb_m mb_b mb_c I_m S0 I_b I_c Sy hB
        go_wp2_with fail
        clear m0 m1 m2 m3 m4 b0 b1 b2 b3 b4 c0 c1 c2 c3 c4
        have mb_m := hh_mb_m.out
        have mb_b := hh_mb_b.out
        have mb_c := hh_mb_c.out
        have I_m := hh_I_m.out
        have S0 := hh_S0.out
        have I_b := hh_I_b.out
        have I_c := hh_I_c.out
        have Sy := hh_Sy.out
        have hB := hh_hB.out
        clear hh_mb_m hh_mb_b hh_mb_c hh_I_m hh_S0 hh_I_b hh_I_c hh_Sy hh_hB
        refine (all_is I_c kC.out.1 kC.out.2).mono ?_
        rintro e w11 ⟨⟨lc, rfl, Sc⟩, bb⟩
        replace mb_m := cells_below mb_m bb (Array.getElem?_eq_some_iff.1 mb_m).1
        replace mb_b := cells_below mb_b bb (Array.getElem?_eq_some_iff.1 mb_b).1
        replace mb_c := cells_below mb_c bb (Array.getElem?_eq_some_iff.1 mb_c).1
        replace hB := Below.on hB bb
        replace I_m := I_m.below bb
        replace S0 := S0.below bb
        replace I_b := I_b.below bb
        replace I_c := I_c.below bb
        replace Sy := Sy.below bb
        clear bb
        obtain ⟨m0, m1, m2, m3, m4⟩ := five mb_m
        obtain ⟨b0, b1, b2, b3, b4⟩ := five mb_b
        obtain ⟨c0, c1, c2, c3, c4⟩ := five mb_c
        have hh_mb_m := Hid_mkW mb_m
        have hh_mb_b := Hid_mkW mb_b
        have hh_mb_c := Hid_mkW mb_c
        have hh_I_m := Hid_mkW I_m
        have hh_S0 := Hid_mkW S0
        have hh_I_b := Hid_mkW I_b
        have hh_I_c := Hid_mkW I_c
        have hh_Sy := Hid_mkW Sy
        have hh_Sc := Hid_mkW Sc
        have hh_hB := Hid_mkW hB
        clear mb_m mb_b mb_c I_m S0 I_b I_c Sy Sc hB
        go_wp2_with fail
        clear m0 m1 m2 m3 m4 b0 b1 b2 b3 b4 c0 c1 c2 c3 c4
        have mb_m := hh_mb_m.out
        have mb_b := hh_mb_b.out
        have mb_c := hh_mb_c.out
        have I_m := hh_I_m.out
        have S0 := hh_S0.out
        have I_b := hh_I_b.out
        have I_c := hh_I_c.out
        have Sy := hh_Sy.out
        have Sc := hh_Sc.out
        have hB := hh_hB.out
        clear hh_mb_m hh_mb_b hh_mb_c hh_I_m hh_S0 hh_I_b hh_I_c hh_Sy hh_Sc hh_hB
        refine (samePages_any Sc Sy).mono ?_
        rintro e w12 ⟨rfl, bb⟩
        replace mb_m := cells_below mb_m bb (Array.getElem?_eq_some_iff.1 mb_m).1
        replace mb_b := cells_below mb_b bb (Array.getElem?_eq_some_iff.1 mb_b).1
        replace mb_c := cells_below mb_c bb (Array.getElem?_eq_some_iff.1 mb_c).1
        replace hB := Below.on hB bb
        replace I_m := I_m.below bb
        replace S0 := S0.below bb
        replace I_b := I_b.below bb
        replace I_c := I_c.below bb
        replace Sy := Sy.below bb
        replace Sc := Sc.below bb
        clear bb
        clear Sc
        clear e1
        obtain ⟨m0, m1, m2, m3, m4⟩ := five mb_m
        have hh_mb_m := Hid_mkW mb_m
        have hh_mb_b := Hid_mkW mb_b
        have hh_mb_c := Hid_mkW mb_c
        have hh_I_m := Hid_mkW I_m
        have hh_S0 := Hid_mkW S0
        have hh_I_b := Hid_mkW I_b
        have hh_I_c := Hid_mkW I_c
        have hh_Sy := Hid_mkW Sy
        have hh_hB := Hid_mkW hB
        clear mb_m mb_b mb_c I_m S0 I_b I_c Sy hB
        go_wp2_with fail
        clear m0 m1 m2 m3 m4
        have mb_m := hh_mb_m.out
        have mb_b := hh_mb_b.out
        have mb_c := hh_mb_c.out
        have I_m := hh_I_m.out
        have S0 := hh_S0.out
        have I_b := hh_I_b.out
        have I_c := hh_I_c.out
        have Sy := hh_Sy.out
        have hB := hh_hB.out
        clear hh_mb_m hh_mb_b hh_mb_c hh_I_m hh_S0 hh_I_b hh_I_c hh_Sy hh_hB
        refine (resize_to I_m g HD.out.1 HD.out.2).mono ?_
        intro e w13 hA
        obtain ⟨val, d_r, d_rc, d_s, d_sc, d_f, d_fc, d_n, d_nc, rfl, hO, bb, hI⟩ := hA.open
        dsimp only
        have I_d := hO.img
        rw [hI] at I_d
        clear hA hO hI
        replace mb_m := cells_below mb_m bb (Array.getElem?_eq_some_iff.1 mb_m).1
        replace mb_b := cells_below mb_b bb (Array.getElem?_eq_some_iff.1 mb_b).1
        replace mb_c := cells_below mb_c bb (Array.getElem?_eq_some_iff.1 mb_c).1
        replace hB := Below.on hB bb
        replace I_m := I_m.below bb
        replace S0 := S0.below bb
        replace I_b := I_b.below bb
        replace I_c := I_c.below bb
        replace Sy := Sy.below bb
        clear bb
        replace mb_m := cells_alloc mb_m (.cells #[.int .i64 MD.guest, .slice d_r MD.root.length d_rc, .slice d_s MD.slots.length d_sc, .slice d_f MD.refs.length d_fc, .slice d_n MD.snaps.length d_nc] 26)
        replace mb_b := cells_alloc mb_b (.cells #[.int .i64 MD.guest, .slice d_r MD.root.length d_rc, .slice d_s MD.slots.length d_sc, .slice d_f MD.refs.length d_fc, .slice d_n MD.snaps.length d_nc] 26)
        replace mb_c := cells_alloc mb_c (.cells #[.int .i64 MD.guest, .slice d_r MD.root.length d_rc, .slice d_s MD.slots.length d_sc, .slice d_f MD.refs.length d_fc, .slice d_n MD.snaps.length d_nc] 26)
        have ba : Below w13.heap.size w13 (w13.alloc (.cells #[.int .i64 MD.guest, .slice d_r MD.root.length d_rc, .slice d_s MD.slots.length d_sc, .slice d_f MD.refs.length d_fc, .slice d_n MD.snaps.length d_nc] 26)) := (Below.refl _ _).alloc (Nat.le_refl _) _
        replace hB := Below.on hB ba
        replace I_m := I_m.below ba
        replace S0 := S0.below ba
        replace I_b := I_b.below ba
        replace I_c := I_c.below ba
        replace Sy := Sy.below ba
        replace I_d := I_d.below ba
        clear ba
        have mb_d : (w13.alloc (.cells #[.int .i64 MD.guest, .slice d_r MD.root.length d_rc, .slice d_s MD.slots.length d_sc, .slice d_f MD.refs.length d_fc, .slice d_n MD.snaps.length d_nc] 26)).heap[w13.heap.size]? = some (.cells #[.int .i64 MD.guest, .slice d_r MD.root.length d_rc, .slice d_s MD.slots.length d_sc, .slice d_f MD.refs.length d_fc, .slice d_n MD.snaps.length d_nc] 26) := World.alloc_heap_new _ _
        rcases Bool.eq_false_or_eq_true (ED == 0) with bED | bED
        · skip
          have nED : (ED != 0) = false := by show (!(ED == 0)) = _; rw [bED]; rfl
          have k0 := KD.out (by simpa using bED)
          have kD : Hid (checkE MD = 0 ∧ allV MD = frR V g.toNat) := ⟨k0.2.2.right, by rw [k0.2.2.all, HP.out.2]⟩
          have fD : Hid (frA V g = frR V g.toNat ∧ frE V g = 0) := by have e : frE V g = 0 := by { unfold frE; rw [if_pos HV.out.1, if_pos ⟨k0.1, k0.2.1⟩] }; exact ⟨by unfold frA; rw [if_pos e], e⟩
          clear k0
          obtain ⟨m0, m1, m2, m3, m4⟩ := five mb_m
          obtain ⟨b0, b1, b2, b3, b4⟩ := five mb_b
          obtain ⟨c0, c1, c2, c3, c4⟩ := five mb_c
          obtain ⟨d0, d1, d2, d3, d4⟩ := five mb_d
          have hh_mb_m := Hid_mkW mb_m
          have hh_mb_b := Hid_mkW mb_b
          have hh_mb_c := Hid_mkW mb_c
          have hh_mb_d := Hid_mkW mb_d
          have hh_I_m := Hid_mkW I_m
          have hh_S0 := Hid_mkW S0
          have hh_I_b := Hid_mkW I_b
          have hh_I_c := Hid_mkW I_c
          have hh_Sy := Hid_mkW Sy
          have hh_I_d := Hid_mkW I_d
          have hh_hB := Hid_mkW hB
          clear mb_m mb_b mb_c mb_d I_m S0 I_b I_c Sy I_d hB
          go_wp2_with fail
          clear m0 m1 m2 m3 m4 b0 b1 b2 b3 b4 c0 c1 c2 c3 c4 d0 d1 d2 d3 d4
          have mb_m := hh_mb_m.out
          have mb_b := hh_mb_b.out
          have mb_c := hh_mb_c.out
          have mb_d := hh_mb_d.out
          have I_m := hh_I_m.out
          have S0 := hh_S0.out
          have I_b := hh_I_b.out
          have I_c := hh_I_c.out
          have Sy := hh_Sy.out
          have I_d := hh_I_d.out
          have hB := hh_hB.out
          clear hh_mb_m hh_mb_b hh_mb_c hh_mb_d hh_I_m hh_S0 hh_I_b hh_I_c hh_Sy hh_I_d hh_hB
          refine (all_is I_d kD.out.1 kD.out.2).mono ?_
          rintro e w14 ⟨⟨ld, rfl, Sd⟩, bb⟩
          replace mb_m := cells_below mb_m bb (Array.getElem?_eq_some_iff.1 mb_m).1
          replace mb_b := cells_below mb_b bb (Array.getElem?_eq_some_iff.1 mb_b).1
          replace mb_c := cells_below mb_c bb (Array.getElem?_eq_some_iff.1 mb_c).1
          replace mb_d := cells_below mb_d bb (Array.getElem?_eq_some_iff.1 mb_d).1
          replace hB := Below.on hB bb
          replace I_m := I_m.below bb
          replace S0 := S0.below bb
          replace I_b := I_b.below bb
          replace I_c := I_c.below bb
          replace Sy := Sy.below bb
          replace I_d := I_d.below bb
          clear bb
          obtain ⟨m0, m1, m2, m3, m4⟩ := five mb_m
          obtain ⟨b0, b1, b2, b3, b4⟩ := five mb_b
          obtain ⟨c0, c1, c2, c3, c4⟩ := five mb_c
          obtain ⟨d0, d1, d2, d3, d4⟩ := five mb_d
          have hh_mb_m := Hid_mkW mb_m
          have hh_mb_b := Hid_mkW mb_b
          have hh_mb_c := Hid_mkW mb_c
          have hh_mb_d := Hid_mkW mb_d
          have hh_I_m := Hid_mkW I_m
          have hh_S0 := Hid_mkW S0
          have hh_I_b := Hid_mkW I_b
          have hh_I_c := Hid_mkW I_c
          have hh_Sy := Hid_mkW Sy
          have hh_I_d := Hid_mkW I_d
          have hh_Sd := Hid_mkW Sd
          have hh_hB := Hid_mkW hB
          clear mb_m mb_b mb_c mb_d I_m S0 I_b I_c Sy I_d Sd hB
          go_wp2_with fail
          clear m0 m1 m2 m3 m4 b0 b1 b2 b3 b4 c0 c1 c2 c3 c4 d0 d1 d2 d3 d4
          have mb_m := hh_mb_m.out
          have mb_b := hh_mb_b.out
          have mb_c := hh_mb_c.out
          have mb_d := hh_mb_d.out
          have I_m := hh_I_m.out
          have S0 := hh_S0.out
          have I_b := hh_I_b.out
          have I_c := hh_I_c.out
          have Sy := hh_Sy.out
          have I_d := hh_I_d.out
          have Sd := hh_Sd.out
          have hB := hh_hB.out
          clear hh_mb_m hh_mb_b hh_mb_c hh_mb_d hh_I_m hh_S0 hh_I_b hh_I_c hh_Sy hh_I_d hh_Sd hh_hB
          refine (fresize_is S0 fD.out.1 fD.out.2).mono ?_
          rintro e w15 ⟨lz, rfl, Sz, bb⟩
          replace mb_m := cells_below mb_m bb (Array.getElem?_eq_some_iff.1 mb_m).1
          replace mb_b := cells_below mb_b bb (Array.getElem?_eq_some_iff.1 mb_b).1
          replace mb_c := cells_below mb_c bb (Array.getElem?_eq_some_iff.1 mb_c).1
          replace mb_d := cells_below mb_d bb (Array.getElem?_eq_some_iff.1 mb_d).1
          replace hB := Below.on hB bb
          replace I_m := I_m.below bb
          replace S0 := S0.below bb
          replace I_b := I_b.below bb
          replace I_c := I_c.below bb
          replace Sy := Sy.below bb
          replace I_d := I_d.below bb
          replace Sd := Sd.below bb
          clear bb
          obtain ⟨m0, m1, m2, m3, m4⟩ := five mb_m
          obtain ⟨b0, b1, b2, b3, b4⟩ := five mb_b
          obtain ⟨c0, c1, c2, c3, c4⟩ := five mb_c
          obtain ⟨d0, d1, d2, d3, d4⟩ := five mb_d
          have hh_mb_m := Hid_mkW mb_m
          have hh_mb_b := Hid_mkW mb_b
          have hh_mb_c := Hid_mkW mb_c
          have hh_mb_d := Hid_mkW mb_d
          have hh_I_m := Hid_mkW I_m
          have hh_S0 := Hid_mkW S0
          have hh_I_b := Hid_mkW I_b
          have hh_I_c := Hid_mkW I_c
          have hh_Sy := Hid_mkW Sy
          have hh_I_d := Hid_mkW I_d
          have hh_Sd := Hid_mkW Sd
          have hh_Sz := Hid_mkW Sz
          have hh_hB := Hid_mkW hB
          clear mb_m mb_b mb_c mb_d I_m S0 I_b I_c Sy I_d Sd Sz hB
          go_wp2_with fail
          clear m0 m1 m2 m3 m4 b0 b1 b2 b3 b4 c0 c1 c2 c3 c4 d0 d1 d2 d3 d4
          have mb_m := hh_mb_m.out
          have mb_b := hh_mb_b.out
          have mb_c := hh_mb_c.out
          have mb_d := hh_mb_d.out
          have I_m := hh_I_m.out
          have S0 := hh_S0.out
          have I_b := hh_I_b.out
          have I_c := hh_I_c.out
          have Sy := hh_Sy.out
          have I_d := hh_I_d.out
          have Sd := hh_Sd.out
          have Sz := hh_Sz.out
          have hB := hh_hB.out
          clear hh_mb_m hh_mb_b hh_mb_c hh_mb_d hh_I_m hh_S0 hh_I_b hh_I_c hh_Sy hh_I_d hh_Sd hh_Sz hh_hB
          refine (writesBegun_any _).mono ?_
          rintro e w16 ⟨rfl, bb⟩
          replace mb_m := cells_below mb_m bb (Array.getElem?_eq_some_iff.1 mb_m).1
          replace mb_b := cells_below mb_b bb (Array.getElem?_eq_some_iff.1 mb_b).1
          replace mb_c := cells_below mb_c bb (Array.getElem?_eq_some_iff.1 mb_c).1
          replace mb_d := cells_below mb_d bb (Array.getElem?_eq_some_iff.1 mb_d).1
          replace hB := Below.on hB bb
          replace I_m := I_m.below bb
          replace S0 := S0.below bb
          replace I_b := I_b.below bb
          replace I_c := I_c.below bb
          replace Sy := Sy.below bb
          replace I_d := I_d.below bb
          replace Sd := Sd.below bb
          replace Sz := Sz.below bb
          clear bb
          obtain ⟨m0, m1, m2, m3, m4⟩ := five mb_m
          obtain ⟨b0, b1, b2, b3, b4⟩ := five mb_b
          obtain ⟨c0, c1, c2, c3, c4⟩ := five mb_c
          obtain ⟨d0, d1, d2, d3, d4⟩ := five mb_d
          have hh_mb_m := Hid_mkW mb_m
          have hh_mb_b := Hid_mkW mb_b
          have hh_mb_c := Hid_mkW mb_c
          have hh_mb_d := Hid_mkW mb_d
          have hh_I_m := Hid_mkW I_m
          have hh_S0 := Hid_mkW S0
          have hh_I_b := Hid_mkW I_b
          have hh_I_c := Hid_mkW I_c
          have hh_Sy := Hid_mkW Sy
          have hh_I_d := Hid_mkW I_d
          have hh_Sd := Hid_mkW Sd
          have hh_Sz := Hid_mkW Sz
          have hh_hB := Hid_mkW hB
          clear mb_m mb_b mb_c mb_d I_m S0 I_b I_c Sy I_d Sd Sz hB
          go_wp2_with fail
          clear m0 m1 m2 m3 m4 b0 b1 b2 b3 b4 c0 c1 c2 c3 c4 d0 d1 d2 d3 d4
          have mb_m := hh_mb_m.out
          have mb_b := hh_mb_b.out
          have mb_c := hh_mb_c.out
          have mb_d := hh_mb_d.out
          have I_m := hh_I_m.out
          have S0 := hh_S0.out
          have I_b := hh_I_b.out
          have I_c := hh_I_c.out
          have Sy := hh_Sy.out
          have I_d := hh_I_d.out
          have Sd := hh_Sd.out
          have Sz := hh_Sz.out
          have hB := hh_hB.out
          clear hh_mb_m hh_mb_b hh_mb_c hh_mb_d hh_I_m hh_S0 hh_I_b hh_I_c hh_Sy hh_I_d hh_Sd hh_Sz hh_hB
          refine (samePages_any Sd Sz).mono ?_
          rintro e w17 ⟨rfl, bb⟩
          replace mb_m := cells_below mb_m bb (Array.getElem?_eq_some_iff.1 mb_m).1
          replace mb_b := cells_below mb_b bb (Array.getElem?_eq_some_iff.1 mb_b).1
          replace mb_c := cells_below mb_c bb (Array.getElem?_eq_some_iff.1 mb_c).1
          replace mb_d := cells_below mb_d bb (Array.getElem?_eq_some_iff.1 mb_d).1
          replace hB := Below.on hB bb
          replace I_m := I_m.below bb
          replace S0 := S0.below bb
          replace I_b := I_b.below bb
          replace I_c := I_c.below bb
          replace Sy := Sy.below bb
          replace I_d := I_d.below bb
          replace Sd := Sd.below bb
          replace Sz := Sz.below bb
          clear bb
          obtain ⟨m0, m1, m2, m3, m4⟩ := five mb_m
          obtain ⟨b0, b1, b2, b3, b4⟩ := five mb_b
          obtain ⟨c0, c1, c2, c3, c4⟩ := five mb_c
          obtain ⟨d0, d1, d2, d3, d4⟩ := five mb_d
          have hh_mb_m := Hid_mkW mb_m
          have hh_mb_b := Hid_mkW mb_b
          have hh_mb_c := Hid_mkW mb_c
          have hh_mb_d := Hid_mkW mb_d
          have hh_I_m := Hid_mkW I_m
          have hh_S0 := Hid_mkW S0
          have hh_I_b := Hid_mkW I_b
          have hh_I_c := Hid_mkW I_c
          have hh_Sy := Hid_mkW Sy
          have hh_I_d := Hid_mkW I_d
          have hh_Sd := Hid_mkW Sd
          have hh_Sz := Hid_mkW Sz
          have hh_hB := Hid_mkW hB
          clear mb_m mb_b mb_c mb_d I_m S0 I_b I_c Sy I_d Sd Sz hB
          go_wp2_with fail
          go_ret
          have hB := hh_hB.out
          exact ⟨rfl, hB⟩
        · skip
          have nED : (ED != 0) = true := by show (!(ED == 0)) = _; rw [bED]; rfl
          have hh_mb_m := Hid_mkW mb_m
          have hh_mb_b := Hid_mkW mb_b
          have hh_mb_c := Hid_mkW mb_c
          have hh_mb_d := Hid_mkW mb_d
          have hh_I_m := Hid_mkW I_m
          have hh_S0 := Hid_mkW S0
          have hh_I_b := Hid_mkW I_b
          have hh_I_c := Hid_mkW I_c
          have hh_Sy := Hid_mkW Sy
          have hh_I_d := Hid_mkW I_d
          have hh_hB := Hid_mkW hB
          clear mb_m mb_b mb_c mb_d I_m S0 I_b I_c Sy I_d hB
          go_wp2_with fail
          have mb_m := hh_mb_m.out
          have mb_b := hh_mb_b.out
          have mb_c := hh_mb_c.out
          have mb_d := hh_mb_d.out
          have I_m := hh_I_m.out
          have S0 := hh_S0.out
          have I_b := hh_I_b.out
          have I_c := hh_I_c.out
          have Sy := hh_Sy.out
          have I_d := hh_I_d.out
          have hB := hh_hB.out
          clear hh_mb_m hh_mb_b hh_mb_c hh_mb_d hh_I_m hh_S0 hh_I_b hh_I_c hh_Sy hh_I_d hh_hB
          refine (writesBegun_any _).mono ?_
          rintro e w14 ⟨rfl, bb⟩
          replace mb_m := cells_below mb_m bb (Array.getElem?_eq_some_iff.1 mb_m).1
          replace mb_b := cells_below mb_b bb (Array.getElem?_eq_some_iff.1 mb_b).1
          replace mb_c := cells_below mb_c bb (Array.getElem?_eq_some_iff.1 mb_c).1
          replace mb_d := cells_below mb_d bb (Array.getElem?_eq_some_iff.1 mb_d).1
          replace hB := Below.on hB bb
          replace I_m := I_m.below bb
          replace S0 := S0.below bb
          replace I_b := I_b.below bb
          replace I_c := I_c.below bb
          replace Sy := Sy.below bb
          replace I_d := I_d.below bb
          clear bb
          have hh_mb_m := Hid_mkW mb_m
          have hh_mb_b := Hid_mkW mb_b
          have hh_mb_c := Hid_mkW mb_c
          have hh_mb_d := Hid_mkW mb_d
          have hh_I_m := Hid_mkW I_m
          have hh_S0 := Hid_mkW S0
          have hh_I_b := Hid_mkW I_b
          have hh_I_c := Hid_mkW I_c
          have hh_Sy := Hid_mkW Sy
          have hh_I_d := Hid_mkW I_d
          have hh_hB := Hid_mkW hB
          clear mb_m mb_b mb_c mb_d I_m S0 I_b I_c Sy I_d hB
          go_wp2_with fail
          go_ret
          have hB := hh_hB.out
          exact ⟨rfl, hB⟩
      · skip
        have nEC : (EC != 0) = true := by show (!(EC == 0)) = _; rw [bEC]; rfl
        obtain ⟨m0, m1, m2, m3, m4⟩ := five mb_m
        have hh_mb_m := Hid_mkW mb_m
        have hh_mb_b := Hid_mkW mb_b
        have hh_mb_c := Hid_mkW mb_c
        have hh_I_m := Hid_mkW I_m
        have hh_S0 := Hid_mkW S0
        have hh_I_b := Hid_mkW I_b
        have hh_I_c := Hid_mkW I_c
        have hh_Sy := Hid_mkW Sy
        have hh_hB := Hid_mkW hB
        clear mb_m mb_b mb_c I_m S0 I_b I_c Sy hB
        go_wp2_with fail
        clear m0 m1 m2 m3 m4
        have mb_m := hh_mb_m.out
        have mb_b := hh_mb_b.out
        have mb_c := hh_mb_c.out
        have I_m := hh_I_m.out
        have S0 := hh_S0.out
        have I_b := hh_I_b.out
        have I_c := hh_I_c.out
        have Sy := hh_Sy.out
        have hB := hh_hB.out
        clear hh_mb_m hh_mb_b hh_mb_c hh_I_m hh_S0 hh_I_b hh_I_c hh_Sy hh_hB
        refine (resize_to I_m g HD.out.1 HD.out.2).mono ?_
        intro e w11 hA
        obtain ⟨val, d_r, d_rc, d_s, d_sc, d_f, d_fc, d_n, d_nc, rfl, hO, bb, hI⟩ := hA.open
        dsimp only
        have I_d := hO.img
        rw [hI] at I_d
        clear hA hO hI
        replace mb_m := cells_below mb_m bb (Array.getElem?_eq_some_iff.1 mb_m).1
        replace mb_b := cells_below mb_b bb (Array.getElem?_eq_some_iff.1 mb_b).1
        replace mb_c := cells_below mb_c bb (Array.getElem?_eq_some_iff.1 mb_c).1
        replace hB := Below.on hB bb
        replace I_m := I_m.below bb
        replace S0 := S0.below bb
        replace I_b := I_b.below bb
        replace I_c := I_c.below bb
        replace Sy := Sy.below bb
        clear bb
        replace mb_m := cells_alloc mb_m (.cells #[.int .i64 MD.guest, .slice d_r MD.root.length d_rc, .slice d_s MD.slots.length d_sc, .slice d_f MD.refs.length d_fc, .slice d_n MD.snaps.length d_nc] 26)
        replace mb_b := cells_alloc mb_b (.cells #[.int .i64 MD.guest, .slice d_r MD.root.length d_rc, .slice d_s MD.slots.length d_sc, .slice d_f MD.refs.length d_fc, .slice d_n MD.snaps.length d_nc] 26)
        replace mb_c := cells_alloc mb_c (.cells #[.int .i64 MD.guest, .slice d_r MD.root.length d_rc, .slice d_s MD.slots.length d_sc, .slice d_f MD.refs.length d_fc, .slice d_n MD.snaps.length d_nc] 26)
        have ba : Below w11.heap.size w11 (w11.alloc (.cells #[.int .i64 MD.guest, .slice d_r MD.root.length d_rc, .slice d_s MD.slots.length d_sc, .slice d_f MD.refs.length d_fc, .slice d_n MD.snaps.length d_nc] 26)) := (Below.refl _ _).alloc (Nat.le_refl _) _
        replace hB := Below.on hB ba
        replace I_m := I_m.below ba
        replace S0 := S0.below ba
        replace I_b := I_b.below ba
        replace I_c := I_c.below ba
        replace Sy := Sy.below ba
        replace I_d := I_d.below ba
        clear ba
        have mb_d : (w11.alloc (.cells #[.int .i64 MD.guest, .slice d_r MD.root.length d_rc, .slice d_s MD.slots.length d_sc, .slice d_f MD.refs.length d_fc, .slice d_n MD.snaps.length d_nc] 26)).heap[w11.heap.size]? = some (.cells #[.int .i64 MD.guest, .slice d_r MD.root.length d_rc, .slice d_s MD.slots.length d_sc, .slice d_f MD.refs.length d_fc, .slice d_n MD.snaps.length d_nc] 26) := World.alloc_heap_new _ _
        rcases Bool.eq_false_or_eq_true (ED == 0) with bED | bED
        · skip
          have nED : (ED != 0) = false := by show (!(ED == 0)) = _; rw [bED]; rfl
          have k0 := KD.out (by simpa using bED)
          have kD : Hid (checkE MD = 0 ∧ allV MD = frR V g.toNat) := ⟨k0.2.2.right, by rw [k0.2.2.all, HP.out.2]⟩
          have fD : Hid (frA V g = frR V g.toNat ∧ frE V g = 0) := by have e : frE V g = 0 := by { unfold frE; rw [if_pos HV.out.1, if_pos ⟨k0.1, k0.2.1⟩] }; exact ⟨by unfold frA; rw [if_pos e], e⟩
          clear k0
          obtain ⟨m0, m1, m2, m3, m4⟩ := five mb_m
          obtain ⟨b0, b1, b2, b3, b4⟩ := five mb_b
          obtain ⟨c0, c1, c2, c3, c4⟩ := five mb_c
          obtain ⟨d0, d1, d2, d3, d4⟩ := five mb_d
          have hh_mb_m := Hid_mkW mb_m
          have hh_mb_b := Hid_mkW mb_b
          have hh_mb_c := Hid_mkW mb_c
          have hh_mb_d := Hid_mkW mb_d
          have hh_I_m := Hid_mkW I_m
          have hh_S0 := Hid_mkW S0
          have hh_I_b := Hid_mkW I_b
          have hh_I_c := Hid_mkW I_c
          have hh_Sy := Hid_mkW Sy
          have hh_I_d := Hid_mkW I_d
          have hh_hB := Hid_mkW hB
          clear mb_m mb_b mb_c mb_d I_m S0 I_b I_c Sy I_d hB
          go_wp2_with fail
          clear m0 m1 m2 m3 m4 b0 b1 b2 b3 b4 c0 c1 c2 c3 c4 d0 d1 d2 d3 d4
          have mb_m := hh_mb_m.out
          have mb_b := hh_mb_b.out
          have mb_c := hh_mb_c.out
          have mb_d := hh_mb_d.out
          have I_m := hh_I_m.out
          have S0 := hh_S0.out
          have I_b := hh_I_b.out
          have I_c := hh_I_c.out
          have Sy := hh_Sy.out
          have I_d := hh_I_d.out
          have hB := hh_hB.out
          clear hh_mb_m hh_mb_b hh_mb_c hh_mb_d hh_I_m hh_S0 hh_I_b hh_I_c hh_Sy hh_I_d hh_hB
          refine (all_is I_d kD.out.1 kD.out.2).mono ?_
          rintro e w12 ⟨⟨ld, rfl, Sd⟩, bb⟩
          replace mb_m := cells_below mb_m bb (Array.getElem?_eq_some_iff.1 mb_m).1
          replace mb_b := cells_below mb_b bb (Array.getElem?_eq_some_iff.1 mb_b).1
          replace mb_c := cells_below mb_c bb (Array.getElem?_eq_some_iff.1 mb_c).1
          replace mb_d := cells_below mb_d bb (Array.getElem?_eq_some_iff.1 mb_d).1
          replace hB := Below.on hB bb
          replace I_m := I_m.below bb
          replace S0 := S0.below bb
          replace I_b := I_b.below bb
          replace I_c := I_c.below bb
          replace Sy := Sy.below bb
          replace I_d := I_d.below bb
          clear bb
          obtain ⟨m0, m1, m2, m3, m4⟩ := five mb_m
          obtain ⟨b0, b1, b2, b3, b4⟩ := five mb_b
          obtain ⟨c0, c1, c2, c3, c4⟩ := five mb_c
          obtain ⟨d0, d1, d2, d3, d4⟩ := five mb_d
          have hh_mb_m := Hid_mkW mb_m
          have hh_mb_b := Hid_mkW mb_b
          have hh_mb_c := Hid_mkW mb_c
          have hh_mb_d := Hid_mkW mb_d
          have hh_I_m := Hid_mkW I_m
          have hh_S0 := Hid_mkW S0
          have hh_I_b := Hid_mkW I_b
          have hh_I_c := Hid_mkW I_c
          have hh_Sy := Hid_mkW Sy
          have hh_I_d := Hid_mkW I_d
          have hh_Sd := Hid_mkW Sd
          have hh_hB := Hid_mkW hB
          clear mb_m mb_b mb_c mb_d I_m S0 I_b I_c Sy I_d Sd hB
          go_wp2_with fail
          clear m0 m1 m2 m3 m4 b0 b1 b2 b3 b4 c0 c1 c2 c3 c4 d0 d1 d2 d3 d4
          have mb_m := hh_mb_m.out
          have mb_b := hh_mb_b.out
          have mb_c := hh_mb_c.out
          have mb_d := hh_mb_d.out
          have I_m := hh_I_m.out
          have S0 := hh_S0.out
          have I_b := hh_I_b.out
          have I_c := hh_I_c.out
          have Sy := hh_Sy.out
          have I_d := hh_I_d.out
          have Sd := hh_Sd.out
          have hB := hh_hB.out
          clear hh_mb_m hh_mb_b hh_mb_c hh_mb_d hh_I_m hh_S0 hh_I_b hh_I_c hh_Sy hh_I_d hh_Sd hh_hB
          refine (fresize_is S0 fD.out.1 fD.out.2).mono ?_
          rintro e w13 ⟨lz, rfl, Sz, bb⟩
          replace mb_m := cells_below mb_m bb (Array.getElem?_eq_some_iff.1 mb_m).1
          replace mb_b := cells_below mb_b bb (Array.getElem?_eq_some_iff.1 mb_b).1
          replace mb_c := cells_below mb_c bb (Array.getElem?_eq_some_iff.1 mb_c).1
          replace mb_d := cells_below mb_d bb (Array.getElem?_eq_some_iff.1 mb_d).1
          replace hB := Below.on hB bb
          replace I_m := I_m.below bb
          replace S0 := S0.below bb
          replace I_b := I_b.below bb
          replace I_c := I_c.below bb
          replace Sy := Sy.below bb
          replace I_d := I_d.below bb
          replace Sd := Sd.below bb
          clear bb
          obtain ⟨m0, m1, m2, m3, m4⟩ := five mb_m
          obtain ⟨b0, b1, b2, b3, b4⟩ := five mb_b
          obtain ⟨c0, c1, c2, c3, c4⟩ := five mb_c
          obtain ⟨d0, d1, d2, d3, d4⟩ := five mb_d
          have hh_mb_m := Hid_mkW mb_m
          have hh_mb_b := Hid_mkW mb_b
          have hh_mb_c := Hid_mkW mb_c
          have hh_mb_d := Hid_mkW mb_d
          have hh_I_m := Hid_mkW I_m
          have hh_S0 := Hid_mkW S0
          have hh_I_b := Hid_mkW I_b
          have hh_I_c := Hid_mkW I_c
          have hh_Sy := Hid_mkW Sy
          have hh_I_d := Hid_mkW I_d
          have hh_Sd := Hid_mkW Sd
          have hh_Sz := Hid_mkW Sz
          have hh_hB := Hid_mkW hB
          clear mb_m mb_b mb_c mb_d I_m S0 I_b I_c Sy I_d Sd Sz hB
          go_wp2_with fail
          clear m0 m1 m2 m3 m4 b0 b1 b2 b3 b4 c0 c1 c2 c3 c4 d0 d1 d2 d3 d4
          have mb_m := hh_mb_m.out
          have mb_b := hh_mb_b.out
          have mb_c := hh_mb_c.out
          have mb_d := hh_mb_d.out
          have I_m := hh_I_m.out
          have S0 := hh_S0.out
          have I_b := hh_I_b.out
          have I_c := hh_I_c.out
          have Sy := hh_Sy.out
          have I_d := hh_I_d.out
          have Sd := hh_Sd.out
          have Sz := hh_Sz.out
          have hB := hh_hB.out
          clear hh_mb_m hh_mb_b hh_mb_c hh_mb_d hh_I_m hh_S0 hh_I_b hh_I_c hh_Sy hh_I_d hh_Sd hh_Sz hh_hB
          refine (writesBegun_any _).mono ?_
          rintro e w14 ⟨rfl, bb⟩
          replace mb_m := cells_below mb_m bb (Array.getElem?_eq_some_iff.1 mb_m).1
          replace mb_b := cells_below mb_b bb (Array.getElem?_eq_some_iff.1 mb_b).1
          replace mb_c := cells_below mb_c bb (Array.getElem?_eq_some_iff.1 mb_c).1
          replace mb_d := cells_below mb_d bb (Array.getElem?_eq_some_iff.1 mb_d).1
          replace hB := Below.on hB bb
          replace I_m := I_m.below bb
          replace S0 := S0.below bb
          replace I_b := I_b.below bb
          replace I_c := I_c.below bb
          replace Sy := Sy.below bb
          replace I_d := I_d.below bb
          replace Sd := Sd.below bb
          replace Sz := Sz.below bb
          clear bb
          obtain ⟨m0, m1, m2, m3, m4⟩ := five mb_m
          obtain ⟨b0, b1, b2, b3, b4⟩ := five mb_b
          obtain ⟨c0, c1, c2, c3, c4⟩ := five mb_c
          obtain ⟨d0, d1, d2, d3, d4⟩ := five mb_d
          have hh_mb_m := Hid_mkW mb_m
          have hh_mb_b := Hid_mkW mb_b
          have hh_mb_c := Hid_mkW mb_c
          have hh_mb_d := Hid_mkW mb_d
          have hh_I_m := Hid_mkW I_m
          have hh_S0 := Hid_mkW S0
          have hh_I_b := Hid_mkW I_b
          have hh_I_c := Hid_mkW I_c
          have hh_Sy := Hid_mkW Sy
          have hh_I_d := Hid_mkW I_d
          have hh_Sd := Hid_mkW Sd
          have hh_Sz := Hid_mkW Sz
          have hh_hB := Hid_mkW hB
          clear mb_m mb_b mb_c mb_d I_m S0 I_b I_c Sy I_d Sd Sz hB
          go_wp2_with fail
          clear m0 m1 m2 m3 m4 b0 b1 b2 b3 b4 c0 c1 c2 c3 c4 d0 d1 d2 d3 d4
          have mb_m := hh_mb_m.out
          have mb_b := hh_mb_b.out
          have mb_c := hh_mb_c.out
          have mb_d := hh_mb_d.out
          have I_m := hh_I_m.out
          have S0 := hh_S0.out
          have I_b := hh_I_b.out
          have I_c := hh_I_c.out
          have Sy := hh_Sy.out
          have I_d := hh_I_d.out
          have Sd := hh_Sd.out
          have Sz := hh_Sz.out
          have hB := hh_hB.out
          clear hh_mb_m hh_mb_b hh_mb_c hh_mb_d hh_I_m hh_S0 hh_I_b hh_I_c hh_Sy hh_I_d hh_Sd hh_Sz hh_hB
          refine (samePages_any Sd Sz).mono ?_
          rintro e w15 ⟨rfl, bb⟩
          replace mb_m := cells_below mb_m bb (Array.getElem?_eq_some_iff.1 mb_m).1
          replace mb_b := cells_below mb_b bb (Array.getElem?_eq_some_iff.1 mb_b).1
          replace mb_c := cells_below mb_c bb (Array.getElem?_eq_some_iff.1 mb_c).1
          replace mb_d := cells_below mb_d bb (Array.getElem?_eq_some_iff.1 mb_d).1
          replace hB := Below.on hB bb
          replace I_m := I_m.below bb
          replace S0 := S0.below bb
          replace I_b := I_b.below bb
          replace I_c := I_c.below bb
          replace Sy := Sy.below bb
          replace I_d := I_d.below bb
          replace Sd := Sd.below bb
          replace Sz := Sz.below bb
          clear bb
          obtain ⟨m0, m1, m2, m3, m4⟩ := five mb_m
          obtain ⟨b0, b1, b2, b3, b4⟩ := five mb_b
          obtain ⟨c0, c1, c2, c3, c4⟩ := five mb_c
          obtain ⟨d0, d1, d2, d3, d4⟩ := five mb_d
          have hh_mb_m := Hid_mkW mb_m
          have hh_mb_b := Hid_mkW mb_b
          have hh_mb_c := Hid_mkW mb_c
          have hh_mb_d := Hid_mkW mb_d
          have hh_I_m := Hid_mkW I_m
          have hh_S0 := Hid_mkW S0
          have hh_I_b := Hid_mkW I_b
          have hh_I_c := Hid_mkW I_c
          have hh_Sy := Hid_mkW Sy
          have hh_I_d := Hid_mkW I_d
          have hh_Sd := Hid_mkW Sd
          have hh_Sz := Hid_mkW Sz
          have hh_hB := Hid_mkW hB
          clear mb_m mb_b mb_c mb_d I_m S0 I_b I_c Sy I_d Sd Sz hB
          go_wp2_with fail
          go_ret
          have hB := hh_hB.out
          exact ⟨rfl, hB⟩
        · skip
          have nED : (ED != 0) = true := by show (!(ED == 0)) = _; rw [bED]; rfl
          have hh_mb_m := Hid_mkW mb_m
          have hh_mb_b := Hid_mkW mb_b
          have hh_mb_c := Hid_mkW mb_c
          have hh_mb_d := Hid_mkW mb_d
          have hh_I_m := Hid_mkW I_m
          have hh_S0 := Hid_mkW S0
          have hh_I_b := Hid_mkW I_b
          have hh_I_c := Hid_mkW I_c
          have hh_Sy := Hid_mkW Sy
          have hh_I_d := Hid_mkW I_d
          have hh_hB := Hid_mkW hB
          clear mb_m mb_b mb_c mb_d I_m S0 I_b I_c Sy I_d hB
          go_wp2_with fail
          have mb_m := hh_mb_m.out
          have mb_b := hh_mb_b.out
          have mb_c := hh_mb_c.out
          have mb_d := hh_mb_d.out
          have I_m := hh_I_m.out
          have S0 := hh_S0.out
          have I_b := hh_I_b.out
          have I_c := hh_I_c.out
          have Sy := hh_Sy.out
          have I_d := hh_I_d.out
          have hB := hh_hB.out
          clear hh_mb_m hh_mb_b hh_mb_c hh_mb_d hh_I_m hh_S0 hh_I_b hh_I_c hh_Sy hh_I_d hh_hB
          refine (writesBegun_any _).mono ?_
          rintro e w12 ⟨rfl, bb⟩
          replace mb_m := cells_below mb_m bb (Array.getElem?_eq_some_iff.1 mb_m).1
          replace mb_b := cells_below mb_b bb (Array.getElem?_eq_some_iff.1 mb_b).1
          replace mb_c := cells_below mb_c bb (Array.getElem?_eq_some_iff.1 mb_c).1
          replace mb_d := cells_below mb_d bb (Array.getElem?_eq_some_iff.1 mb_d).1
          replace hB := Below.on hB bb
          replace I_m := I_m.below bb
          replace S0 := S0.below bb
          replace I_b := I_b.below bb
          replace I_c := I_c.below bb
          replace Sy := Sy.below bb
          replace I_d := I_d.below bb
          clear bb
          have hh_mb_m := Hid_mkW mb_m
          have hh_mb_b := Hid_mkW mb_b
          have hh_mb_c := Hid_mkW mb_c
          have hh_mb_d := Hid_mkW mb_d
          have hh_I_m := Hid_mkW I_m
          have hh_S0 := Hid_mkW S0
          have hh_I_b := Hid_mkW I_b
          have hh_I_c := Hid_mkW I_c
          have hh_Sy := Hid_mkW Sy
          have hh_I_d := Hid_mkW I_d
          have hh_hB := Hid_mkW hB
          clear mb_m mb_b mb_c mb_d I_m S0 I_b I_c Sy I_d hB
          go_wp2_with fail
          go_ret
          have hB := hh_hB.out
          exact ⟨rfl, hB⟩
    · skip
      have nEB : (EB != 0) = true := by show (!(EB == 0)) = _; rw [bEB]; rfl
      rcases Bool.eq_false_or_eq_true (EC == 0) with bEC | bEC
      · skip
        have nEC : (EC != 0) = false := by show (!(EC == 0)) = _; rw [bEC]; rfl
        have k0 := KC.out (by simpa using bEC)
        have e0 : KE = 0 := by rw [← HK.out.2]; unfold fwE; rw [if_pos ((HV.out.2 n).trans k0.1), if_pos (by decide)]
        have y0 : KY = V.set n.toNat Z4 := by rw [← HK.out.1]; unfold fwA; rw [if_pos (HK.out.2.trans e0)]
        have kC : Hid (checkE MC = 0 ∧ allV MC = KY) := ⟨k0.2.right, by rw [k0.2.all, y0, HP.out.2]⟩
        have e1 : (KE != 0) = false := by simp [e0]
        clear k0 e0 y0
        obtain ⟨m0, m1, m2, m3, m4⟩ := five mb_m
        obtain ⟨b0, b1, b2, b3, b4⟩ := five mb_b
        obtain ⟨c0, c1, c2, c3, c4⟩ := five mb_c
        have hh_mb_m := Hid_mkW mb_m
        have hh_mb_b := Hid_mkW mb_b
        have hh_mb_c := Hid_mkW mb_c
        have hh_I_m := Hid_mkW I_m
        have hh_S0 := Hid_mkW S0
        have hh_I_b := Hid_mkW I_b
        have hh_I_c := Hid_mkW I_c
        have hh_Sy := Hid_mkW Sy
        have hh_hB := Hid_mkW hB
        clear mb_m mb_b mb_c I_m S0 I_b I_c Sy hB
        go_wp2_with fail
        clear m0 m1 m2 m3 m4 b0 b1 b2 b3 b4 c0 c1 c2 c3 c4
        have mb_m := hh_mb_m.out
        have mb_b := hh_mb_b.out
        have mb_c := hh_mb_c.out
        have I_m := hh_I_m.out
        have S0 := hh_S0.out
        have I_b := hh_I_b.out
        have I_c := hh_I_c.out
        have Sy := hh_Sy.out
        have hB := hh_hB.out
        clear hh_mb_m hh_mb_b hh_mb_c hh_I_m hh_S0 hh_I_b hh_I_c hh_Sy hh_hB
        refine (all_is I_c kC.out.1 kC.out.2).mono ?_
        rintro e w9 ⟨⟨lc, rfl, Sc⟩, bb⟩
        replace mb_m := cells_below mb_m bb (Array.getElem?_eq_some_iff.1 mb_m).1
        replace mb_b := cells_below mb_b bb (Array.getElem?_eq_some_iff.1 mb_b).1
        replace mb_c := cells_below mb_c bb (Array.getElem?_eq_some_iff.1 mb_c).1
        replace hB := Below.on hB bb
        replace I_m := I_m.below bb
        replace S0 := S0.below bb
        replace I_b := I_b.below bb
        replace I_c := I_c.below bb
        replace Sy := Sy.below bb
        clear bb
        obtain ⟨m0, m1, m2, m3, m4⟩ := five mb_m
        obtain ⟨b0, b1, b2, b3, b4⟩ := five mb_b
        obtain ⟨c0, c1, c2, c3, c4⟩ := five mb_c
        have hh_mb_m := Hid_mkW mb_m
        have hh_mb_b := Hid_mkW mb_b
        have hh_mb_c := Hid_mkW mb_c
        have hh_I_m := Hid_mkW I_m
        have hh_S0 := Hid_mkW S0
        have hh_I_b := Hid_mkW I_b
        have hh_I_c := Hid_mkW I_c
        have hh_Sy := Hid_mkW Sy
        have hh_Sc := Hid_mkW Sc
        have hh_hB := Hid_mkW hB
        clear mb_m mb_b mb_c I_m S0 I_b I_c Sy Sc hB
        go_wp2_with fail
        clear m0 m1 m2 m3 m4 b0 b1 b2 b3 b4 c0 c1 c2 c3 c4
        have mb_m := hh_mb_m.out
        have mb_b := hh_mb_b.out
        have mb_c := hh_mb_c.out
        have I_m := hh_I_m.out
        have S0 := hh_S0.out
        have I_b := hh_I_b.out
        have I_c := hh_I_c.out
        have Sy := hh_Sy.out
        have Sc := hh_Sc.out
        have hB := hh_hB.out
        clear hh_mb_m hh_mb_b hh_mb_c hh_I_m hh_S0 hh_I_b hh_I_c hh_Sy hh_Sc hh_hB
        refine (samePages_any Sc Sy).mono ?_
        rintro e w10 ⟨rfl, bb⟩
        replace mb_m := cells_below mb_m bb (Array.getElem?_eq_some_iff.1 mb_m).1
        replace mb_b := cells_below mb_b bb (Array.getElem?_eq_some_iff.1 mb_b).1
        replace mb_c := cells_below mb_c bb (Array.getElem?_eq_some_iff.1 mb_c).1
        replace hB := Below.on hB bb
        replace I_m := I_m.below bb
        replace S0 := S0.below bb
        replace I_b := I_b.below bb
        replace I_c := I_c.below bb
        replace Sy := Sy.below bb
        replace Sc := Sc.below bb
        clear bb
        clear Sc
        clear e1
        obtain ⟨m0, m1, m2, m3, m4⟩ := five mb_m
        have hh_mb_m := Hid_mkW mb_m
        have hh_mb_b := Hid_mkW mb_b
        have hh_mb_c := Hid_mkW mb_c
        have hh_I_m := Hid_mkW I_m
        have hh_S0 := Hid_mkW S0
        have hh_I_b := Hid_mkW I_b
        have hh_I_c := Hid_mkW I_c
        have hh_Sy := Hid_mkW Sy
        have hh_hB := Hid_mkW hB
        clear mb_m mb_b mb_c I_m S0 I_b I_c Sy hB
        go_wp2_with fail
        clear m0 m1 m2 m3 m4
        have mb_m := hh_mb_m.out
        have mb_b := hh_mb_b.out
        have mb_c := hh_mb_c.out
        have I_m := hh_I_m.out
        have S0 := hh_S0.out
        have I_b := hh_I_b.out
        have I_c := hh_I_c.out
        have Sy := hh_Sy.out
        have hB := hh_hB.out
        clear hh_mb_m hh_mb_b hh_mb_c hh_I_m hh_S0 hh_I_b hh_I_c hh_Sy hh_hB
        refine (resize_to I_m g HD.out.1 HD.out.2).mono ?_
        intro e w11 hA
        obtain ⟨val, d_r, d_rc, d_s, d_sc, d_f, d_fc, d_n, d_nc, rfl, hO, bb, hI⟩ := hA.open
        dsimp only
        have I_d := hO.img
        rw [hI] at I_d
        clear hA hO hI
        replace mb_m := cells_below mb_m bb (Array.getElem?_eq_some_iff.1 mb_m).1
        replace mb_b := cells_below mb_b bb (Array.getElem?_eq_some_iff.1 mb_b).1
        replace mb_c := cells_below mb_c bb (Array.getElem?_eq_some_iff.1 mb_c).1
        replace hB := Below.on hB bb
        replace I_m := I_m.below bb
        replace S0 := S0.below bb
        replace I_b := I_b.below bb
        replace I_c := I_c.below bb
        replace Sy := Sy.below bb
        clear bb
        replace mb_m := cells_alloc mb_m (.cells #[.int .i64 MD.guest, .slice d_r MD.root.length d_rc, .slice d_s MD.slots.length d_sc, .slice d_f MD.refs.length d_fc, .slice d_n MD.snaps.length d_nc] 26)
        replace mb_b := cells_alloc mb_b (.cells #[.int .i64 MD.guest, .slice d_r MD.root.length d_rc, .slice d_s MD.slots.length d_sc, .slice d_f MD.refs.length d_fc, .slice d_n MD.snaps.length d_nc] 26)
        replace mb_c := cells_alloc mb_c (.cells #[.int .i64 MD.guest, .slice d_r MD.root.length d_rc, .slice d_s MD.slots.length d_sc, .slice d_f MD.refs.length d_fc, .slice d_n MD.snaps.length d_nc] 26)
        have ba : Below w11.heap.size w11 (w11.alloc (.cells #[.int .i64 MD.guest, .slice d_r MD.root.length d_rc, .slice d_s MD.slots.length d_sc, .slice d_f MD.refs.length d_fc, .slice d_n MD.snaps.length d_nc] 26)) := (Below.refl _ _).alloc (Nat.le_refl _) _
        replace hB := Below.on hB ba
        replace I_m := I_m.below ba
        replace S0 := S0.below ba
        replace I_b := I_b.below ba
        replace I_c := I_c.below ba
        replace Sy := Sy.below ba
        replace I_d := I_d.below ba
        clear ba
        have mb_d : (w11.alloc (.cells #[.int .i64 MD.guest, .slice d_r MD.root.length d_rc, .slice d_s MD.slots.length d_sc, .slice d_f MD.refs.length d_fc, .slice d_n MD.snaps.length d_nc] 26)).heap[w11.heap.size]? = some (.cells #[.int .i64 MD.guest, .slice d_r MD.root.length d_rc, .slice d_s MD.slots.length d_sc, .slice d_f MD.refs.length d_fc, .slice d_n MD.snaps.length d_nc] 26) := World.alloc_heap_new _ _
        rcases Bool.eq_false_or_eq_true (ED == 0) with bED | bED
        · skip
          have nED : (ED != 0) = false := by show (!(ED == 0)) = _; rw [bED]; rfl
          have k0 := KD.out (by simpa using bED)
          have kD : Hid (checkE MD = 0 ∧ allV MD = frR V g.toNat) := ⟨k0.2.2.right, by rw [k0.2.2.all, HP.out.2]⟩
          have fD : Hid (frA V g = frR V g.toNat ∧ frE V g = 0) := by have e : frE V g = 0 := by { unfold frE; rw [if_pos HV.out.1, if_pos ⟨k0.1, k0.2.1⟩] }; exact ⟨by unfold frA; rw [if_pos e], e⟩
          clear k0
          obtain ⟨m0, m1, m2, m3, m4⟩ := five mb_m
          obtain ⟨b0, b1, b2, b3, b4⟩ := five mb_b
          obtain ⟨c0, c1, c2, c3, c4⟩ := five mb_c
          obtain ⟨d0, d1, d2, d3, d4⟩ := five mb_d
          have hh_mb_m := Hid_mkW mb_m
          have hh_mb_b := Hid_mkW mb_b
          have hh_mb_c := Hid_mkW mb_c
          have hh_mb_d := Hid_mkW mb_d
          have hh_I_m := Hid_mkW I_m
          have hh_S0 := Hid_mkW S0
          have hh_I_b := Hid_mkW I_b
          have hh_I_c := Hid_mkW I_c
          have hh_Sy := Hid_mkW Sy
          have hh_I_d := Hid_mkW I_d
          have hh_hB := Hid_mkW hB
          clear mb_m mb_b mb_c mb_d I_m S0 I_b I_c Sy I_d hB
          go_wp2_with fail
          clear m0 m1 m2 m3 m4 b0 b1 b2 b3 b4 c0 c1 c2 c3 c4 d0 d1 d2 d3 d4
          have mb_m := hh_mb_m.out
          have mb_b := hh_mb_b.out
          have mb_c := hh_mb_c.out
          have mb_d := hh_mb_d.out
          have I_m := hh_I_m.out
          have S0 := hh_S0.out
          have I_b := hh_I_b.out
          have I_c := hh_I_c.out
          have Sy := hh_Sy.out
          have I_d := hh_I_d.out
          have hB := hh_hB.out
          clear hh_mb_m hh_mb_b hh_mb_c hh_mb_d hh_I_m hh_S0 hh_I_b hh_I_c hh_Sy hh_I_d hh_hB
          refine (all_is I_d kD.out.1 kD.out.2).mono ?_
          rintro e w12 ⟨⟨ld, rfl, Sd⟩, bb⟩
          replace mb_m := cells_below mb_m bb (Array.getElem?_eq_some_iff.1 mb_m).1
          replace mb_b := cells_below mb_b bb (Array.getElem?_eq_some_iff.1 mb_b).1
          replace mb_c := cells_below mb_c bb (Array.getElem?_eq_some_iff.1 mb_c).1
          replace mb_d := cells_below mb_d bb (Array.getElem?_eq_some_iff.1 mb_d).1
          replace hB := Below.on hB bb
          replace I_m := I_m.below bb
          replace S0 := S0.below bb
          replace I_b := I_b.below bb
          replace I_c := I_c.below bb
          replace Sy := Sy.below bb
          replace I_d := I_d.below bb
          clear bb
          obtain ⟨m0, m1, m2, m3, m4⟩ := five mb_m
          obtain ⟨b0, b1, b2, b3, b4⟩ := five mb_b
          obtain ⟨c0, c1, c2, c3, c4⟩ := five mb_c
          obtain ⟨d0, d1, d2, d3, d4⟩ := five mb_d
          have hh_mb_m := Hid_mkW mb_m
          have hh_mb_b := Hid_mkW mb_b
          have hh_mb_c := Hid_mkW mb_c
          have hh_mb_d := Hid_mkW mb_d
          have hh_I_m := Hid_mkW I_m
          have hh_S0 := Hid_mkW S0
          have hh_I_b := Hid_mkW I_b
          have hh_I_c := Hid_mkW I_c
          have hh_Sy := Hid_mkW Sy
          have hh_I_d := Hid_mkW I_d
          have hh_Sd := Hid_mkW Sd
          have hh_hB := Hid_mkW hB
          clear mb_m mb_b mb_c mb_d I_m S0 I_b I_c Sy I_d Sd hB
          go_wp2_with fail
          clear m0 m1 m2 m3 m4 b0 b1 b2 b3 b4 c0 c1 c2 c3 c4 d0 d1 d2 d3 d4
          have mb_m := hh_mb_m.out
          have mb_b := hh_mb_b.out
          have mb_c := hh_mb_c.out
          have mb_d := hh_mb_d.out
          have I_m := hh_I_m.out
          have S0 := hh_S0.out
          have I_b := hh_I_b.out
          have I_c := hh_I_c.out
          have Sy := hh_Sy.out
          have I_d := hh_I_d.out
          have Sd := hh_Sd.out
          have hB := hh_hB.out
          clear hh_mb_m hh_mb_b hh_mb_c hh_mb_d hh_I_m hh_S0 hh_I_b hh_I_c hh_Sy hh_I_d hh_Sd hh_hB
          refine (fresize_is S0 fD.out.1 fD.out.2).mono ?_
          rintro e w13 ⟨lz, rfl, Sz, bb⟩
          replace mb_m := cells_below mb_m bb (Array.getElem?_eq_some_iff.1 mb_m).1
          replace mb_b := cells_below mb_b bb (Array.getElem?_eq_some_iff.1 mb_b).1
          replace mb_c := cells_below mb_c bb (Array.getElem?_eq_some_iff.1 mb_c).1
          replace mb_d := cells_below mb_d bb (Array.getElem?_eq_some_iff.1 mb_d).1
          replace hB := Below.on hB bb
          replace I_m := I_m.below bb
          replace S0 := S0.below bb
          replace I_b := I_b.below bb
          replace I_c := I_c.below bb
          replace Sy := Sy.below bb
          replace I_d := I_d.below bb
          replace Sd := Sd.below bb
          clear bb
          obtain ⟨m0, m1, m2, m3, m4⟩ := five mb_m
          obtain ⟨b0, b1, b2, b3, b4⟩ := five mb_b
          obtain ⟨c0, c1, c2, c3, c4⟩ := five mb_c
          obtain ⟨d0, d1, d2, d3, d4⟩ := five mb_d
          have hh_mb_m := Hid_mkW mb_m
          have hh_mb_b := Hid_mkW mb_b
          have hh_mb_c := Hid_mkW mb_c
          have hh_mb_d := Hid_mkW mb_d
          have hh_I_m := Hid_mkW I_m
          have hh_S0 := Hid_mkW S0
          have hh_I_b := Hid_mkW I_b
          have hh_I_c := Hid_mkW I_c
          have hh_Sy := Hid_mkW Sy
          have hh_I_d := Hid_mkW I_d
          have hh_Sd := Hid_mkW Sd
          have hh_Sz := Hid_mkW Sz
          have hh_hB := Hid_mkW hB
          clear mb_m mb_b mb_c mb_d I_m S0 I_b I_c Sy I_d Sd Sz hB
          go_wp2_with fail
          clear m0 m1 m2 m3 m4 b0 b1 b2 b3 b4 c0 c1 c2 c3 c4 d0 d1 d2 d3 d4
          have mb_m := hh_mb_m.out
          have mb_b := hh_mb_b.out
          have mb_c := hh_mb_c.out
          have mb_d := hh_mb_d.out
          have I_m := hh_I_m.out
          have S0 := hh_S0.out
          have I_b := hh_I_b.out
          have I_c := hh_I_c.out
          have Sy := hh_Sy.out
          have I_d := hh_I_d.out
          have Sd := hh_Sd.out
          have Sz := hh_Sz.out
          have hB := hh_hB.out
          clear hh_mb_m hh_mb_b hh_mb_c hh_mb_d hh_I_m hh_S0 hh_I_b hh_I_c hh_Sy hh_I_d hh_Sd hh_Sz hh_hB
          refine (writesBegun_any _).mono ?_
          rintro e w14 ⟨rfl, bb⟩
          replace mb_m := cells_below mb_m bb (Array.getElem?_eq_some_iff.1 mb_m).1
          replace mb_b := cells_below mb_b bb (Array.getElem?_eq_some_iff.1 mb_b).1
          replace mb_c := cells_below mb_c bb (Array.getElem?_eq_some_iff.1 mb_c).1
          replace mb_d := cells_below mb_d bb (Array.getElem?_eq_some_iff.1 mb_d).1
          replace hB := Below.on hB bb
          replace I_m := I_m.below bb
          replace S0 := S0.below bb
          replace I_b := I_b.below bb
          replace I_c := I_c.below bb
          replace Sy := Sy.below bb
          replace I_d := I_d.below bb
          replace Sd := Sd.below bb
          replace Sz := Sz.below bb
          clear bb
          obtain ⟨m0, m1, m2, m3, m4⟩ := five mb_m
          obtain ⟨b0, b1, b2, b3, b4⟩ := five mb_b
          obtain ⟨c0, c1, c2, c3, c4⟩ := five mb_c
          obtain ⟨d0, d1, d2, d3, d4⟩ := five mb_d
          have hh_mb_m := Hid_mkW mb_m
          have hh_mb_b := Hid_mkW mb_b
          have hh_mb_c := Hid_mkW mb_c
          have hh_mb_d := Hid_mkW mb_d
          have hh_I_m := Hid_mkW I_m
          have hh_S0 := Hid_mkW S0
          have hh_I_b := Hid_mkW I_b
          have hh_I_c := Hid_mkW I_c
          have hh_Sy := Hid_mkW Sy
          have hh_I_d := Hid_mkW I_d
          have hh_Sd := Hid_mkW Sd
          have hh_Sz := Hid_mkW Sz
          have hh_hB := Hid_mkW hB
          clear mb_m mb_b mb_c mb_d I_m S0 I_b I_c Sy I_d Sd Sz hB
          go_wp2_with fail
          clear m0 m1 m2 m3 m4 b0 b1 b2 b3 b4 c0 c1 c2 c3 c4 d0 d1 d2 d3 d4
          have mb_m := hh_mb_m.out
          have mb_b := hh_mb_b.out
          have mb_c := hh_mb_c.out
          have mb_d := hh_mb_d.out
          have I_m := hh_I_m.out
          have S0 := hh_S0.out
          have I_b := hh_I_b.out
          have I_c := hh_I_c.out
          have Sy := hh_Sy.out
          have I_d := hh_I_d.out
          have Sd := hh_Sd.out
          have Sz := hh_Sz.out
          have hB := hh_hB.out
          clear hh_mb_m hh_mb_b hh_mb_c hh_mb_d hh_I_m hh_S0 hh_I_b hh_I_c hh_Sy hh_I_d hh_Sd hh_Sz hh_hB
          refine (samePages_any Sd Sz).mono ?_
          rintro e w15 ⟨rfl, bb⟩
          replace mb_m := cells_below mb_m bb (Array.getElem?_eq_some_iff.1 mb_m).1
          replace mb_b := cells_below mb_b bb (Array.getElem?_eq_some_iff.1 mb_b).1
          replace mb_c := cells_below mb_c bb (Array.getElem?_eq_some_iff.1 mb_c).1
          replace mb_d := cells_below mb_d bb (Array.getElem?_eq_some_iff.1 mb_d).1
          replace hB := Below.on hB bb
          replace I_m := I_m.below bb
          replace S0 := S0.below bb
          replace I_b := I_b.below bb
          replace I_c := I_c.below bb
          replace Sy := Sy.below bb
          replace I_d := I_d.below bb
          replace Sd := Sd.below bb
          replace Sz := Sz.below bb
          clear bb
          obtain ⟨m0, m1, m2, m3, m4⟩ := five mb_m
          obtain ⟨b0, b1, b2, b3, b4⟩ := five mb_b
          obtain ⟨c0, c1, c2, c3, c4⟩ := five mb_c
          obtain ⟨d0, d1, d2, d3, d4⟩ := five mb_d
          have hh_mb_m := Hid_mkW mb_m
          have hh_mb_b := Hid_mkW mb_b
          have hh_mb_c := Hid_mkW mb_c
          have hh_mb_d := Hid_mkW mb_d
          have hh_I_m := Hid_mkW I_m
          have hh_S0 := Hid_mkW S0
          have hh_I_b := Hid_mkW I_b
          have hh_I_c := Hid_mkW I_c
          have hh_Sy := Hid_mkW Sy
          have hh_I_d := Hid_mkW I_d
          have hh_Sd := Hid_mkW Sd
          have hh_Sz := Hid_mkW Sz
          have hh_hB := Hid_mkW hB
          clear mb_m mb_b mb_c mb_d I_m S0 I_b I_c Sy I_d Sd Sz hB
          go_wp2_with fail
          go_ret
          have hB := hh_hB.out
          exact ⟨rfl, hB⟩
        · skip
          have nED : (ED != 0) = true := by show (!(ED == 0)) = _; rw [bED]; rfl
          have hh_mb_m := Hid_mkW mb_m
          have hh_mb_b := Hid_mkW mb_b
          have hh_mb_c := Hid_mkW mb_c
          have hh_mb_d := Hid_mkW mb_d
          have hh_I_m := Hid_mkW I_m
          have hh_S0 := Hid_mkW S0
          have hh_I_b := Hid_mkW I_b
          have hh_I_c := Hid_mkW I_c
          have hh_Sy := Hid_mkW Sy
          have hh_I_d := Hid_mkW I_d
          have hh_hB := Hid_mkW hB
          clear mb_m mb_b mb_c mb_d I_m S0 I_b I_c Sy I_d hB
          go_wp2_with fail
          have mb_m := hh_mb_m.out
          have mb_b := hh_mb_b.out
          have mb_c := hh_mb_c.out
          have mb_d := hh_mb_d.out
          have I_m := hh_I_m.out
          have S0 := hh_S0.out
          have I_b := hh_I_b.out
          have I_c := hh_I_c.out
          have Sy := hh_Sy.out
          have I_d := hh_I_d.out
          have hB := hh_hB.out
          clear hh_mb_m hh_mb_b hh_mb_c hh_mb_d hh_I_m hh_S0 hh_I_b hh_I_c hh_Sy hh_I_d hh_hB
          refine (writesBegun_any _).mono ?_
          rintro e w12 ⟨rfl, bb⟩
          replace mb_m := cells_below mb_m bb (Array.getElem?_eq_some_iff.1 mb_m).1
          replace mb_b := cells_below mb_b bb (Array.getElem?_eq_some_iff.1 mb_b).1
          replace mb_c := cells_below mb_c bb (Array.getElem?_eq_some_iff.1 mb_c).1
          replace mb_d := cells_below mb_d bb (Array.getElem?_eq_some_iff.1 mb_d).1
          replace hB := Below.on hB bb
          replace I_m := I_m.below bb
          replace S0 := S0.below bb
          replace I_b := I_b.below bb
          replace I_c := I_c.below bb
          replace Sy := Sy.below bb
          replace I_d := I_d.below bb
          clear bb
          have hh_mb_m := Hid_mkW mb_m
          have hh_mb_b := Hid_mkW mb_b
          have hh_mb_c := Hid_mkW mb_c
          have hh_mb_d := Hid_mkW mb_d
          have hh_I_m := Hid_mkW I_m
          have hh_S0 := Hid_mkW S0
          have hh_I_b := Hid_mkW I_b
          have hh_I_c := Hid_mkW I_c
          have hh_Sy := Hid_mkW Sy
          have hh_I_d := Hid_mkW I_d
          have hh_hB := Hid_mkW hB
          clear mb_m mb_b mb_c mb_d I_m S0 I_b I_c Sy I_d hB
          go_wp2_with fail
          go_ret
          have hB := hh_hB.out
          exact ⟨rfl, hB⟩
      · skip
        have nEC : (EC != 0) = true := by show (!(EC == 0)) = _; rw [bEC]; rfl
        obtain ⟨m0, m1, m2, m3, m4⟩ := five mb_m
        have hh_mb_m := Hid_mkW mb_m
        have hh_mb_b := Hid_mkW mb_b
        have hh_mb_c := Hid_mkW mb_c
        have hh_I_m := Hid_mkW I_m
        have hh_S0 := Hid_mkW S0
        have hh_I_b := Hid_mkW I_b
        have hh_I_c := Hid_mkW I_c
        have hh_Sy := Hid_mkW Sy
        have hh_hB := Hid_mkW hB
        clear mb_m mb_b mb_c I_m S0 I_b I_c Sy hB
        go_wp2_with fail
        clear m0 m1 m2 m3 m4
        have mb_m := hh_mb_m.out
        have mb_b := hh_mb_b.out
        have mb_c := hh_mb_c.out
        have I_m := hh_I_m.out
        have S0 := hh_S0.out
        have I_b := hh_I_b.out
        have I_c := hh_I_c.out
        have Sy := hh_Sy.out
        have hB := hh_hB.out
        clear hh_mb_m hh_mb_b hh_mb_c hh_I_m hh_S0 hh_I_b hh_I_c hh_Sy hh_hB
        refine (resize_to I_m g HD.out.1 HD.out.2).mono ?_
        intro e w9 hA
        obtain ⟨val, d_r, d_rc, d_s, d_sc, d_f, d_fc, d_n, d_nc, rfl, hO, bb, hI⟩ := hA.open
        dsimp only
        have I_d := hO.img
        rw [hI] at I_d
        clear hA hO hI
        replace mb_m := cells_below mb_m bb (Array.getElem?_eq_some_iff.1 mb_m).1
        replace mb_b := cells_below mb_b bb (Array.getElem?_eq_some_iff.1 mb_b).1
        replace mb_c := cells_below mb_c bb (Array.getElem?_eq_some_iff.1 mb_c).1
        replace hB := Below.on hB bb
        replace I_m := I_m.below bb
        replace S0 := S0.below bb
        replace I_b := I_b.below bb
        replace I_c := I_c.below bb
        replace Sy := Sy.below bb
        clear bb
        replace mb_m := cells_alloc mb_m (.cells #[.int .i64 MD.guest, .slice d_r MD.root.length d_rc, .slice d_s MD.slots.length d_sc, .slice d_f MD.refs.length d_fc, .slice d_n MD.snaps.length d_nc] 26)
        replace mb_b := cells_alloc mb_b (.cells #[.int .i64 MD.guest, .slice d_r MD.root.length d_rc, .slice d_s MD.slots.length d_sc, .slice d_f MD.refs.length d_fc, .slice d_n MD.snaps.length d_nc] 26)
        replace mb_c := cells_alloc mb_c (.cells #[.int .i64 MD.guest, .slice d_r MD.root.length d_rc, .slice d_s MD.slots.length d_sc, .slice d_f MD.refs.length d_fc, .slice d_n MD.snaps.length d_nc] 26)
        have ba : Below w9.heap.size w9 (w9.alloc (.cells #[.int .i64 MD.guest, .slice d_r MD.root.length d_rc, .slice d_s MD.slots.length d_sc, .slice d_f MD.refs.length d_fc, .slice d_n MD.snaps.length d_nc] 26)) := (Below.refl _ _).alloc (Nat.le_refl _) _
        replace hB := Below.on hB ba
        replace I_m := I_m.below ba
        replace S0 := S0.below ba
        replace I_b := I_b.below ba
        replace I_c := I_c.below ba
        replace Sy := Sy.below ba
        replace I_d := I_d.below ba
        clear ba
        have mb_d : (w9.alloc (.cells #[.int .i64 MD.guest, .slice d_r MD.root.length d_rc, .slice d_s MD.slots.length d_sc, .slice d_f MD.refs.length d_fc, .slice d_n MD.snaps.length d_nc] 26)).heap[w9.heap.size]? = some (.cells #[.int .i64 MD.guest, .slice d_r MD.root.length d_rc, .slice d_s MD.slots.length d_sc, .slice d_f MD.refs.length d_fc, .slice d_n MD.snaps.length d_nc] 26) := World.alloc_heap_new _ _
        rcases Bool.eq_false_or_eq_true (ED == 0) with bED | bED
        · skip
          have nED : (ED != 0) = false := by show (!(ED == 0)) = _; rw [bED]; rfl
          have k0 := KD.out (by simpa using bED)
          have kD : Hid (checkE MD = 0 ∧ allV MD = frR V g.toNat) := ⟨k0.2.2.right, by rw [k0.2.2.all, HP.out.2]⟩
          have fD : Hid (frA V g = frR V g.toNat ∧ frE V g = 0) := by have e : frE V g = 0 := by { unfold frE; rw [if_pos HV.out.1, if_pos ⟨k0.1, k0.2.1⟩] }; exact ⟨by unfold frA; rw [if_pos e], e⟩
          clear k0
          obtain ⟨m0, m1, m2, m3, m4⟩ := five mb_m
          obtain ⟨b0, b1, b2, b3, b4⟩ := five mb_b
          obtain ⟨c0, c1, c2, c3, c4⟩ := five mb_c
          obtain ⟨d0, d1, d2, d3, d4⟩ := five mb_d
          have hh_mb_m := Hid_mkW mb_m
          have hh_mb_b := Hid_mkW mb_b
          have hh_mb_c := Hid_mkW mb_c
          have hh_mb_d := Hid_mkW mb_d
          have hh_I_m := Hid_mkW I_m
          have hh_S0 := Hid_mkW S0
          have hh_I_b := Hid_mkW I_b
          have hh_I_c := Hid_mkW I_c
          have hh_Sy := Hid_mkW Sy
          have hh_I_d := Hid_mkW I_d
          have hh_hB := Hid_mkW hB
          clear mb_m mb_b mb_c mb_d I_m S0 I_b I_c Sy I_d hB
          go_wp2_with fail
          clear m0 m1 m2 m3 m4 b0 b1 b2 b3 b4 c0 c1 c2 c3 c4 d0 d1 d2 d3 d4
          have mb_m := hh_mb_m.out
          have mb_b := hh_mb_b.out
          have mb_c := hh_mb_c.out
          have mb_d := hh_mb_d.out
          have I_m := hh_I_m.out
          have S0 := hh_S0.out
          have I_b := hh_I_b.out
          have I_c := hh_I_c.out
          have Sy := hh_Sy.out
          have I_d := hh_I_d.out
          have hB := hh_hB.out
          clear hh_mb_m hh_mb_b hh_mb_c hh_mb_d hh_I_m hh_S0 hh_I_b hh_I_c hh_Sy hh_I_d hh_hB
          refine (all_is I_d kD.out.1 kD.out.2).mono ?_
          rintro e w10 ⟨⟨ld, rfl, Sd⟩, bb⟩
          replace mb_m := cells_below mb_m bb (Array.getElem?_eq_some_iff.1 mb_m).1
          replace mb_b := cells_below mb_b bb (Array.getElem?_eq_some_iff.1 mb_b).1
          replace mb_c := cells_below mb_c bb (Array.getElem?_eq_some_iff.1 mb_c).1
          replace mb_d := cells_below mb_d bb (Array.getElem?_eq_some_iff.1 mb_d).1
          replace hB := Below.on hB bb
          replace I_m := I_m.below bb
          replace S0 := S0.below bb
          replace I_b := I_b.below bb
          replace I_c := I_c.below bb
          replace Sy := Sy.below bb
          replace I_d := I_d.below bb
          clear bb
          obtain ⟨m0, m1, m2, m3, m4⟩ := five mb_m
          obtain ⟨b0, b1, b2, b3, b4⟩ := five mb_b
          obtain ⟨c0, c1, c2, c3, c4⟩ := five mb_c
          obtain ⟨d0, d1, d2, d3, d4⟩ := five mb_d
          have hh_mb_m := Hid_mkW mb_m
          have hh_mb_b := Hid_mkW mb_b
          have hh_mb_c := Hid_mkW mb_c
          have hh_mb_d := Hid_mkW mb_d
          have hh_I_m := Hid_mkW I_m
          have hh_S0 := Hid_mkW S0
          have hh_I_b := Hid_mkW I_b
          have hh_I_c := Hid_mkW I_c
          have hh_Sy := Hid_mkW Sy
          have hh_I_d := Hid_mkW I_d
          have hh_Sd := Hid_mkW Sd
          have hh_hB := Hid_mkW hB
          clear mb_m mb_b mb_c mb_d I_m S0 I_b I_c Sy I_d Sd hB
          go_wp2_with fail
          clear m0 m1 m2 m3 m4 b0 b1 b2 b3 b4 c0 c1 c2 c3 c4 d0 d1 d2 d3 d4
          have mb_m := hh_mb_m.out
          have mb_b := hh_mb_b.out
          have mb_c := hh_mb_c.out
          have mb_d := hh_mb_d.out
          have I_m := hh_I_m.out
          have S0 := hh_S0.out
          have I_b := hh_I_b.out
          have I_c := hh_I_c.out
          have Sy := hh_Sy.out
          have I_d := hh_I_d.out
          have Sd := hh_Sd.out
          have hB := hh_hB.out
          clear hh_mb_m hh_mb_b hh_mb_c hh_mb_d hh_I_m hh_S0 hh_I_b hh_I_c hh_Sy hh_I_d hh_Sd hh_hB
          refine (fresize_is S0 fD.out.1 fD.out.2).mono ?_
          rintro e w11 ⟨lz, rfl, Sz, bb⟩
          replace mb_m := cells_below mb_m bb (Array.getElem?_eq_some_iff.1 mb_m).1
          replace mb_b := cells_below mb_b bb (Array.getElem?_eq_some_iff.1 mb_b).1
          replace mb_c := cells_below mb_c bb (Array.getElem?_eq_some_iff.1 mb_c).1
          replace mb_d := cells_below mb_d bb (Array.getElem?_eq_some_iff.1 mb_d).1
          replace hB := Below.on hB bb
          replace I_m := I_m.below bb
          replace S0 := S0.below bb
          replace I_b := I_b.below bb
          replace I_c := I_c.below bb
          replace Sy := Sy.below bb
          replace I_d := I_d.below bb
          replace Sd := Sd.below bb
          clear bb
          obtain ⟨m0, m1, m2, m3, m4⟩ := five mb_m
          obtain ⟨b0, b1, b2, b3, b4⟩ := five mb_b
          obtain ⟨c0, c1, c2, c3, c4⟩ := five mb_c
          obtain ⟨d0, d1, d2, d3, d4⟩ := five mb_d
          have hh_mb_m := Hid_mkW mb_m
          have hh_mb_b := Hid_mkW mb_b
          have hh_mb_c := Hid_mkW mb_c
          have hh_mb_d := Hid_mkW mb_d
          have hh_I_m := Hid_mkW I_m
          have hh_S0 := Hid_mkW S0
          have hh_I_b := Hid_mkW I_b
          have hh_I_c := Hid_mkW I_c
          have hh_Sy := Hid_mkW Sy
          have hh_I_d := Hid_mkW I_d
          have hh_Sd := Hid_mkW Sd
          have hh_Sz := Hid_mkW Sz
          have hh_hB := Hid_mkW hB
          clear mb_m mb_b mb_c mb_d I_m S0 I_b I_c Sy I_d Sd Sz hB
          go_wp2_with fail
          clear m0 m1 m2 m3 m4 b0 b1 b2 b3 b4 c0 c1 c2 c3 c4 d0 d1 d2 d3 d4
          have mb_m := hh_mb_m.out
          have mb_b := hh_mb_b.out
          have mb_c := hh_mb_c.out
          have mb_d := hh_mb_d.out
          have I_m := hh_I_m.out
          have S0 := hh_S0.out
          have I_b := hh_I_b.out
          have I_c := hh_I_c.out
          have Sy := hh_Sy.out
          have I_d := hh_I_d.out
          have Sd := hh_Sd.out
          have Sz := hh_Sz.out
          have hB := hh_hB.out
          clear hh_mb_m hh_mb_b hh_mb_c hh_mb_d hh_I_m hh_S0 hh_I_b hh_I_c hh_Sy hh_I_d hh_Sd hh_Sz hh_hB
          refine (writesBegun_any _).mono ?_
          rintro e w12 ⟨rfl, bb⟩
          replace mb_m := cells_below mb_m bb (Array.getElem?_eq_some_iff.1 mb_m).1
          replace mb_b := cells_below mb_b bb (Array.getElem?_eq_some_iff.1 mb_b).1
          replace mb_c := cells_below mb_c bb (Array.getElem?_eq_some_iff.1 mb_c).1
          replace mb_d := cells_below mb_d bb (Array.getElem?_eq_some_iff.1 mb_d).1
          replace hB := Below.on hB bb
          replace I_m := I_m.below bb
          replace S0 := S0.below bb
          replace I_b := I_b.below bb
          replace I_c := I_c.below bb
          replace Sy := Sy.below bb
          replace I_d := I_d.below bb
          replace Sd := Sd.below bb
          replace Sz := Sz.below bb
          clear bb
          obtain ⟨m0, m1, m2, m3, m4⟩ := five mb_m
          obtain ⟨b0, b1, b2, b3, b4⟩ := five mb_b
          obtain ⟨c0, c1, c2, c3, c4⟩ := five mb_c
          obtain ⟨d0, d1, d2, d3, d4⟩ := five mb_d
          have hh_mb_m := Hid_mkW mb_m
          have hh_mb_b := Hid_mkW mb_b
          have hh_mb_c := Hid_mkW mb_c
          have hh_mb_d := Hid_mkW mb_d
          have hh_I_m := Hid_mkW I_m
          have hh_S0 := Hid_mkW S0
          have hh_I_b := Hid_mkW I_b
          have hh_I_c := Hid_mkW I_c
          have hh_Sy := Hid_mkW Sy
          have hh_I_d := Hid_mkW I_d
          have hh_Sd := Hid_mkW Sd
          have hh_Sz := Hid_mkW Sz
          have hh_hB := Hid_mkW hB
          clear mb_m mb_b mb_c mb_d I_m S0 I_b I_c Sy I_d Sd Sz hB
          go_wp2_with fail
          clear m0 m1 m2 m3 m4 b0 b1 b2 b3 b4 c0 c1 c2 c3 c4 d0 d1 d2 d3 d4
          have mb_m := hh_mb_m.out
          have mb_b := hh_mb_b.out
          have mb_c := hh_mb_c.out
          have mb_d := hh_mb_d.out
          have I_m := hh_I_m.out
          have S0 := hh_S0.out
          have I_b := hh_I_b.out
          have I_c := hh_I_c.out
          have Sy := hh_Sy.out
          have I_d := hh_I_d.out
          have Sd := hh_Sd.out
          have Sz := hh_Sz.out
          have hB := hh_hB.out
          clear hh_mb_m hh_mb_b hh_mb_c hh_mb_d hh_I_m hh_S0 hh_I_b hh_I_c hh_Sy hh_I_d hh_Sd hh_Sz hh_hB
          refine (samePages_any Sd Sz).mono ?_
          rintro e w13 ⟨rfl, bb⟩
          replace mb_m := cells_below mb_m bb (Array.getElem?_eq_some_iff.1 mb_m).1
          replace mb_b := cells_below mb_b bb (Array.getElem?_eq_some_iff.1 mb_b).1
          replace mb_c := cells_below mb_c bb (Array.getElem?_eq_some_iff.1 mb_c).1
          replace mb_d := cells_below mb_d bb (Array.getElem?_eq_some_iff.1 mb_d).1
          replace hB := Below.on hB bb
          replace I_m := I_m.below bb
          replace S0 := S0.below bb
          replace I_b := I_b.below bb
          replace I_c := I_c.below bb
          replace Sy := Sy.below bb
          replace I_d := I_d.below bb
          replace Sd := Sd.below bb
          replace Sz := Sz.below bb
          clear bb
          obtain ⟨m0, m1, m2, m3, m4⟩ := five mb_m
          obtain ⟨b0, b1, b2, b3, b4⟩ := five mb_b
          obtain ⟨c0, c1, c2, c3, c4⟩ := five mb_c
          obtain ⟨d0, d1, d2, d3, d4⟩ := five mb_d
          have hh_mb_m := Hid_mkW mb_m
          have hh_mb_b := Hid_mkW mb_b
          have hh_mb_c := Hid_mkW mb_c
          have hh_mb_d := Hid_mkW mb_d
          have hh_I_m := Hid_mkW I_m
          have hh_S0 := Hid_mkW S0
          have hh_I_b := Hid_mkW I_b
          have hh_I_c := Hid_mkW I_c
          have hh_Sy := Hid_mkW Sy
          have hh_I_d := Hid_mkW I_d
          have hh_Sd := Hid_mkW Sd
          have hh_Sz := Hid_mkW Sz
          have hh_hB := Hid_mkW hB
          clear mb_m mb_b mb_c mb_d I_m S0 I_b I_c Sy I_d Sd Sz hB
          go_wp2_with fail
          go_ret
          have hB := hh_hB.out
          exact ⟨rfl, hB⟩
        · skip
          have nED : (ED != 0) = true := by show (!(ED == 0)) = _; rw [bED]; rfl
          have hh_mb_m := Hid_mkW mb_m
          have hh_mb_b := Hid_mkW mb_b
          have hh_mb_c := Hid_mkW mb_c
          have hh_mb_d := Hid_mkW mb_d
          have hh_I_m := Hid_mkW I_m
          have hh_S0 := Hid_mkW S0
          have hh_I_b := Hid_mkW I_b
          have hh_I_c := Hid_mkW I_c
          have hh_Sy := Hid_mkW Sy
          have hh_I_d := Hid_mkW I_d
          have hh_hB := Hid_mkW hB
          clear mb_m mb_b mb_c mb_d I_m S0 I_b I_c Sy I_d hB
          go_wp2_with fail
          have mb_m := hh_mb_m.out
          have mb_b := hh_mb_b.out
          have mb_c := hh_mb_c.out
          have mb_d := hh_mb_d.out
          have I_m := hh_I_m.out
          have S0 := hh_S0.out
          have I_b := hh_I_b.out
          have I_c := hh_I_c.out
          have Sy := hh_Sy.out
          have I_d := hh_I_d.out
          have hB := hh_hB.out
          clear hh_mb_m hh_mb_b hh_mb_c hh_mb_d hh_I_m hh_S0 hh_I_b hh_I_c hh_Sy hh_I_d hh_hB
          refine (writesBegun_any _).mono ?_
          rintro e w10 ⟨rfl, bb⟩
          replace mb_m := cells_below mb_m bb (Array.getElem?_eq_some_iff.1 mb_m).1
          replace mb_b := cells_below mb_b bb (Array.getElem?_eq_some_iff.1 mb_b).1
          replace mb_c := cells_below mb_c bb (Array.getElem?_eq_some_iff.1 mb_c).1
          replace mb_d := cells_below mb_d bb (Array.getElem?_eq_some_iff.1 mb_d).1
          replace hB := Below.on hB bb
          replace I_m := I_m.below bb
          replace S0 := S0.below bb
          replace I_b := I_b.below bb
          replace I_c := I_c.below bb
          replace Sy := Sy.below bb
          replace I_d := I_d.below bb
          clear bb
          have hh_mb_m := Hid_mkW mb_m
          have hh_mb_b := Hid_mkW mb_b
          have hh_mb_c := Hid_mkW mb_c
          have hh_mb_d := Hid_mkW mb_d
          have hh_I_m := Hid_mkW I_m
          have hh_S0 := Hid_mkW S0
          have hh_I_b := Hid_mkW I_b
          have hh_I_c := Hid_mkW I_c
          have hh_Sy := Hid_mkW Sy
          have hh_I_d := Hid_mkW I_d
          have hh_hB := Hid_mkW hB
          clear mb_m mb_b mb_c mb_d I_m S0 I_b I_c Sy I_d hB
          go_wp2_with fail
          go_ret
          have hB := hh_hB.out
          exact ⟨rfl, hB⟩
  · skip
    have nEA : (EA != 0) = true := by show (!(EA == 0)) = _; rw [bEA]; rfl
    clear mb_a
    clear I_a
    obtain ⟨m0, m1, m2, m3, m4⟩ := five mb_m
    have hh_mb_m := Hid_mkW mb_m
    have hh_I_m := Hid_mkW I_m
    have hh_S0 := Hid_mkW S0
    have hh_hB := Hid_mkW hB
    clear mb_m I_m S0 hB
    go_wp2_with fail
    clear m0 m1 m2 m3 m4
    have mb_m := hh_mb_m.out
    have I_m := hh_I_m.out
    have S0 := hh_S0.out
    have hB := hh_hB.out
    clear hh_mb_m hh_I_m hh_S0 hh_hB
    refine (wipe_to I_m n HB.out.1 HB.out.2).mono ?_
    intro e w3 hA
    obtain ⟨val, b_r, b_rc, b_s, b_sc, b_f, b_fc, b_n, b_nc, rfl, hO, bb, hI⟩ := hA.open
    dsimp only
    have I_b := hO.img
    rw [hI] at I_b
    clear hA hO hI
    replace mb_m := cells_below mb_m bb (Array.getElem?_eq_some_iff.1 mb_m).1
    replace hB := Below.on hB bb
    replace I_m := I_m.below bb
    replace S0 := S0.below bb
    clear bb
    replace mb_m := cells_alloc mb_m (.cells #[.int .i64 MB.guest, .slice b_r MB.root.length b_rc, .slice b_s MB.slots.length b_sc, .slice b_f MB.refs.length b_fc, .slice b_n MB.snaps.length b_nc] 26)
    have ba : Below w3.heap.size w3 (w3.alloc (.cells #[.int .i64 MB.guest, .slice b_r MB.root.length b_rc, .slice b_s MB.slots.length b_sc, .slice b_f MB.refs.length b_fc, .slice b_n MB.snaps.length b_nc] 26)) := (Below.refl _ _).alloc (Nat.le_refl _) _
    replace hB := Below.on hB ba
    replace I_m := I_m.below ba
    replace S0 := S0.below ba
    replace I_b := I_b.below ba
    clear ba
    have mb_b : (w3.alloc (.cells #[.int .i64 MB.guest, .slice b_r MB.root.length b_rc, .slice b_s MB.slots.length b_sc, .slice b_f MB.refs.length b_fc, .slice b_n MB.snaps.length b_nc] 26)).heap[w3.heap.size]? = some (.cells #[.int .i64 MB.guest, .slice b_r MB.root.length b_rc, .slice b_s MB.slots.length b_sc, .slice b_f MB.refs.length b_fc, .slice b_n MB.snaps.length b_nc] 26) := World.alloc_heap_new _ _
    obtain ⟨m0, m1, m2, m3, m4⟩ := five mb_m
    have hh_mb_m := Hid_mkW mb_m
    have hh_mb_b := Hid_mkW mb_b
    have hh_I_m := Hid_mkW I_m
    have hh_S0 := Hid_mkW S0
    have hh_I_b := Hid_mkW I_b
    have hh_hB := Hid_mkW hB
    clear mb_m mb_b I_m S0 I_b hB
    go_wp2_with fail
    clear m0 m1 m2 m3 m4
    have mb_m := hh_mb_m.out
    have mb_b := hh_mb_b.out
    have I_m := hh_I_m.out
    have S0 := hh_S0.out
    have I_b := hh_I_b.out
    have hB := hh_hB.out
    clear hh_mb_m hh_mb_b hh_I_m hh_S0 hh_I_b hh_hB
    refine (punch_to I_m n HC.out.1 HC.out.2).mono ?_
    intro e w4 hA
    obtain ⟨val, c_r, c_rc, c_s, c_sc, c_f, c_fc, c_n, c_nc, rfl, hO, bb, hI⟩ := hA.open
    dsimp only
    have I_c := hO.img
    rw [hI] at I_c
    clear hA hO hI
    replace mb_m := cells_below mb_m bb (Array.getElem?_eq_some_iff.1 mb_m).1
    replace mb_b := cells_below mb_b bb (Array.getElem?_eq_some_iff.1 mb_b).1
    replace hB := Below.on hB bb
    replace I_m := I_m.below bb
    replace S0 := S0.below bb
    replace I_b := I_b.below bb
    clear bb
    replace mb_m := cells_alloc mb_m (.cells #[.int .i64 MC.guest, .slice c_r MC.root.length c_rc, .slice c_s MC.slots.length c_sc, .slice c_f MC.refs.length c_fc, .slice c_n MC.snaps.length c_nc] 26)
    replace mb_b := cells_alloc mb_b (.cells #[.int .i64 MC.guest, .slice c_r MC.root.length c_rc, .slice c_s MC.slots.length c_sc, .slice c_f MC.refs.length c_fc, .slice c_n MC.snaps.length c_nc] 26)
    have ba : Below w4.heap.size w4 (w4.alloc (.cells #[.int .i64 MC.guest, .slice c_r MC.root.length c_rc, .slice c_s MC.slots.length c_sc, .slice c_f MC.refs.length c_fc, .slice c_n MC.snaps.length c_nc] 26)) := (Below.refl _ _).alloc (Nat.le_refl _) _
    replace hB := Below.on hB ba
    replace I_m := I_m.below ba
    replace S0 := S0.below ba
    replace I_b := I_b.below ba
    replace I_c := I_c.below ba
    clear ba
    have mb_c : (w4.alloc (.cells #[.int .i64 MC.guest, .slice c_r MC.root.length c_rc, .slice c_s MC.slots.length c_sc, .slice c_f MC.refs.length c_fc, .slice c_n MC.snaps.length c_nc] 26)).heap[w4.heap.size]? = some (.cells #[.int .i64 MC.guest, .slice c_r MC.root.length c_rc, .slice c_s MC.slots.length c_sc, .slice c_f MC.refs.length c_fc, .slice c_n MC.snaps.length c_nc] 26) := World.alloc_heap_new _ _
    obtain ⟨m0, m1, m2, m3, m4⟩ := five mb_m
    obtain ⟨b0, b1, b2, b3, b4⟩ := five mb_b
    obtain ⟨c0, c1, c2, c3, c4⟩ := five mb_c
    have hh_mb_m := Hid_mkW mb_m
    have hh_mb_b := Hid_mkW mb_b
    have hh_mb_c := Hid_mkW mb_c
    have hh_I_m := Hid_mkW I_m
    have hh_S0 := Hid_mkW S0
    have hh_I_b := Hid_mkW I_b
    have hh_I_c := Hid_mkW I_c
    have hh_hB := Hid_mkW hB
    clear mb_m mb_b mb_c I_m S0 I_b I_c hB
    go_wp2_with fail
    clear m0 m1 m2 m3 m4 b0 b1 b2 b3 b4 c0 c1 c2 c3 c4
    have mb_m := hh_mb_m.out
    have mb_b := hh_mb_b.out
    have mb_c := hh_mb_c.out
    have I_m := hh_I_m.out
    have S0 := hh_S0.out
    have I_b := hh_I_b.out
    have I_c := hh_I_c.out
    have hB := hh_hB.out
    clear hh_mb_m hh_mb_b hh_mb_c hh_I_m hh_S0 hh_I_b hh_I_c hh_hB
    refine (fwrite_is S0 HK.out.1 HK.out.2).mono ?_
    rintro e w5 ⟨ly, rfl, Sy, bb⟩
    replace mb_m := cells_below mb_m bb (Array.getElem?_eq_some_iff.1 mb_m).1
    replace mb_b := cells_below mb_b bb (Array.getElem?_eq_some_iff.1 mb_b).1
    replace mb_c := cells_below mb_c bb (Array.getElem?_eq_some_iff.1 mb_c).1
    replace hB := Below.on hB bb
    replace I_m := I_m.below bb
    replace S0 := S0.below bb
    replace I_b := I_b.below bb
    replace I_c := I_c.below bb
    clear bb
    rcases Bool.eq_false_or_eq_true (EB == 0) with bEB | bEB
    · skip
      have nEB : (EB != 0) = false := by show (!(EB == 0)) = _; rw [bEB]; rfl
      have k0 := KB.out (by simpa using bEB)
      have e0 : KE = 0 := by rw [← HK.out.2]; unfold fwE; rw [if_pos ((HV.out.2 n).trans k0.1), if_pos (by decide)]
      have y0 : KY = V.set n.toNat Z4 := by rw [← HK.out.1]; unfold fwA; rw [if_pos (HK.out.2.trans e0)]
      have kB : Hid (checkE MB = 0 ∧ allV MB = KY) := ⟨k0.2.right, by rw [k0.2.all, y0, HP.out.2]⟩
      have e1 : (KE != 0) = false := by simp [e0]
      clear k0 e0 y0
      obtain ⟨m0, m1, m2, m3, m4⟩ := five mb_m
      obtain ⟨b0, b1, b2, b3, b4⟩ := five mb_b
      obtain ⟨c0, c1, c2, c3, c4⟩ := five mb_c
      have hh_mb_m := Hid_mkW mb_m
      have hh_mb_b := Hid_mkW mb_b
      have hh_mb_c := Hid_mkW mb_c
      have hh_I_m := Hid_mkW I_m
      have hh_S0 := Hid_mkW S0
      have hh_I_b := Hid_mkW I_b
      have hh_I_c := Hid_mkW I_c
      have hh_Sy := Hid_mkW Sy
      have hh_hB := Hid_mkW hB
      clear mb_m mb_b mb_c I_m S0 I_b I_c Sy hB
      go_wp2_with fail
      clear m0 m1 m2 m3 m4 b0 b1 b2 b3 b4 c0 c1 c2 c3 c4
      have mb_m := hh_mb_m.out
      have mb_b := hh_mb_b.out
      have mb_c := hh_mb_c.out
      have I_m := hh_I_m.out
      have S0 := hh_S0.out
      have I_b := hh_I_b.out
      have I_c := hh_I_c.out
      have Sy := hh_Sy.out
      have hB := hh_hB.out
      clear hh_mb_m hh_mb_b hh_mb_c hh_I_m hh_S0 hh_I_b hh_I_c hh_Sy hh_hB
      refine (all_is I_b kB.out.1 kB.out.2).mono ?_
      rintro e w6 ⟨⟨lb, rfl, Sb⟩, bb⟩
      replace mb_m := cells_below mb_m bb (Array.getElem?_eq_some_iff.1 mb_m).1
      replace mb_b := cells_below mb_b bb (Array.getElem?_eq_some_iff.1 mb_b).1
      replace mb_c := cells_below mb_c bb (Array.getElem?_eq_some_iff.1 mb_c).1
      replace hB := Below.on hB bb
      replace I_m := I_m.below bb
      replace S0 := S0.below bb
      replace I_b := I_b.below bb
      replace I_c := I_c.below bb
      replace Sy := Sy.below bb
      clear bb
      obtain ⟨m0, m1, m2, m3, m4⟩ := five mb_m
      obtain ⟨b0, b1, b2, b3, b4⟩ := five mb_b
      obtain ⟨c0, c1, c2, c3, c4⟩ := five mb_c
      have hh_mb_m := Hid_mkW mb_m
      have hh_mb_b := Hid_mkW mb_b
      have hh_mb_c := Hid_mkW mb_c
      have hh_I_m := Hid_mkW I_m
      have hh_S0 := Hid_mkW S0
      have hh_I_b := Hid_mkW I_b
      have hh_I_c := Hid_mkW I_c
      have hh_Sy := Hid_mkW Sy
      have hh_Sb := Hid_mkW Sb
      have hh_hB := Hid_mkW hB
      clear mb_m mb_b mb_c I_m S0 I_b I_c Sy Sb hB
      go_wp2_with fail
      clear m0 m1 m2 m3 m4 b0 b1 b2 b3 b4 c0 c1 c2 c3 c4
      have mb_m := hh_mb_m.out
      have mb_b := hh_mb_b.out
      have mb_c := hh_mb_c.out
      have I_m := hh_I_m.out
      have S0 := hh_S0.out
      have I_b := hh_I_b.out
      have I_c := hh_I_c.out
      have Sy := hh_Sy.out
      have Sb := hh_Sb.out
      have hB := hh_hB.out
      clear hh_mb_m hh_mb_b hh_mb_c hh_I_m hh_S0 hh_I_b hh_I_c hh_Sy hh_Sb hh_hB
      refine (samePages_any Sb Sy).mono ?_
      rintro e w7 ⟨rfl, bb⟩
      replace mb_m := cells_below mb_m bb (Array.getElem?_eq_some_iff.1 mb_m).1
      replace mb_b := cells_below mb_b bb (Array.getElem?_eq_some_iff.1 mb_b).1
      replace mb_c := cells_below mb_c bb (Array.getElem?_eq_some_iff.1 mb_c).1
      replace hB := Below.on hB bb
      replace I_m := I_m.below bb
      replace S0 := S0.below bb
      replace I_b := I_b.below bb
      replace I_c := I_c.below bb
      replace Sy := Sy.below bb
      replace Sb := Sb.below bb
      clear bb
      clear Sb
      clear e1
      rcases Bool.eq_false_or_eq_true (EC == 0) with bEC | bEC
      · skip
        have nEC : (EC != 0) = false := by show (!(EC == 0)) = _; rw [bEC]; rfl
        have k0 := KC.out (by simpa using bEC)
        have e0 : KE = 0 := by rw [← HK.out.2]; unfold fwE; rw [if_pos ((HV.out.2 n).trans k0.1), if_pos (by decide)]
        have y0 : KY = V.set n.toNat Z4 := by rw [← HK.out.1]; unfold fwA; rw [if_pos (HK.out.2.trans e0)]
        have kC : Hid (checkE MC = 0 ∧ allV MC = KY) := ⟨k0.2.right, by rw [k0.2.all, y0, HP.out.2]⟩
        have e1 : (KE != 0) = false := by simp [e0]
        clear k0 e0 y0
        obtain ⟨m0, m1, m2, m3, m4⟩ := five mb_m
        obtain ⟨b0, b1, b2, b3, b4⟩ := five mb_b
        obtain ⟨c0, c1, c2, c3, c4⟩ := five mb_c
        have hh_mb_m := Hid_mkW mb_m
        have hh_mb_b := Hid_mkW mb_b
        have hh_mb_c := Hid_mkW mb_c
        have hh_I_m := Hid_mkW I_m
        have hh_S0 := Hid_mkW S0
        have hh_I_b := Hid_mkW I_b
        have hh_I_c := Hid_mkW I_c
        have hh_Sy := Hid_mkW Sy
        have hh_hB := Hid_mkW hB
        clear mb_m mb_b mb_c I_m S0 I_b I_c Sy hB
        go_wp2_with fail
        clear m0 m1 m2 m3 m4 b0 b1 b2 b3 b4 c0 c1 c2 c3 c4
        have mb_m := hh_mb_m.out
        have mb_b := hh_mb_b.out
        have mb_c := hh_mb_c.out
        have I_m := hh_I_m.out
        have S0 := hh_S0.out
        have I_b := hh_I_b.out
        have I_c := hh_I_c.out
        have Sy := hh_Sy.out
        have hB := hh_hB.out
        clear hh_mb_m hh_mb_b hh_mb_c hh_I_m hh_S0 hh_I_b hh_I_c hh_Sy hh_hB
        refine (all_is I_c kC.out.1 kC.out.2).mono ?_
        rintro e w8 ⟨⟨lc, rfl, Sc⟩, bb⟩
        replace mb_m := cells_below mb_m bb (Array.getElem?_eq_some_iff.1 mb_m).1
        replace mb_b := cells_below mb_b bb (Array.getElem?_eq_some_iff.1 mb_b).1
        replace mb_c := cells_below mb_c bb (Array.getElem?_eq_some_iff.1 mb_c).1
        replace hB := Below.on hB bb
        replace I_m := I_m.below bb
        replace S0 := S0.below bb
        replace I_b := I_b.below bb
        replace I_c := I_c.below bb
        replace Sy := Sy.below bb
        clear bb
        obtain ⟨m0, m1, m2, m3, m4⟩ := five mb_m
        obtain ⟨b0, b1, b2, b3, b4⟩ := five mb_b
        obtain ⟨c0, c1, c2, c3, c4⟩ := five mb_c
        have hh_mb_m := Hid_mkW mb_m
        have hh_mb_b := Hid_mkW mb_b
        have hh_mb_c := Hid_mkW mb_c
        have hh_I_m := Hid_mkW I_m
        have hh_S0 := Hid_mkW S0
        have hh_I_b := Hid_mkW I_b
        have hh_I_c := Hid_mkW I_c
        have hh_Sy := Hid_mkW Sy
        have hh_Sc := Hid_mkW Sc
        have hh_hB := Hid_mkW hB
        clear mb_m mb_b mb_c I_m S0 I_b I_c Sy Sc hB
        go_wp2_with fail
        clear m0 m1 m2 m3 m4 b0 b1 b2 b3 b4 c0 c1 c2 c3 c4
        have mb_m := hh_mb_m.out
        have mb_b := hh_mb_b.out
        have mb_c := hh_mb_c.out
        have I_m := hh_I_m.out
        have S0 := hh_S0.out
        have I_b := hh_I_b.out
        have I_c := hh_I_c.out
        have Sy := hh_Sy.out
        have Sc := hh_Sc.out
        have hB := hh_hB.out
        clear hh_mb_m hh_mb_b hh_mb_c hh_I_m hh_S0 hh_I_b hh_I_c hh_Sy hh_Sc hh_hB
        refine (samePages_any Sc Sy).mono ?_
        rintro e w9 ⟨rfl, bb⟩
        replace mb_m := cells_below mb_m bb (Array.getElem?_eq_some_iff.1 mb_m).1
        replace mb_b := cells_below mb_b bb (Array.getElem?_eq_some_iff.1 mb_b).1
        replace mb_c := cells_below mb_c bb (Array.getElem?_eq_some_iff.1 mb_c).1
        replace hB := Below.on hB bb
        replace I_m := I_m.below bb
        replace S0 := S0.below bb
        replace I_b := I_b.below bb
        replace I_c := I_c.below bb
        replace Sy := Sy.below bb
        replace Sc := Sc.below bb
        clear bb
        clear Sc
        clear e1
        obtain ⟨m0, m1, m2, m3, m4⟩ := five mb_m
        have hh_mb_m := Hid_mkW mb_m
        have hh_mb_b := Hid_mkW mb_b
        have hh_mb_c := Hid_mkW mb_c
        have hh_I_m := Hid_mkW I_m
        have hh_S0 := Hid_mkW S0
        have hh_I_b := Hid_mkW I_b
        have hh_I_c := Hid_mkW I_c
        have hh_Sy := Hid_mkW Sy
        have hh_hB := Hid_mkW hB
        clear mb_m mb_b mb_c I_m S0 I_b I_c Sy hB
        go_wp2_with fail
        clear m0 m1 m2 m3 m4
        have mb_m := hh_mb_m.out
        have mb_b := hh_mb_b.out
        have mb_c := hh_mb_c.out
        have I_m := hh_I_m.out
        have S0 := hh_S0.out
        have I_b := hh_I_b.out
        have I_c := hh_I_c.out
        have Sy := hh_Sy.out
        have hB := hh_hB.out
        clear hh_mb_m hh_mb_b hh_mb_c hh_I_m hh_S0 hh_I_b hh_I_c hh_Sy hh_hB
        refine (resize_to I_m g HD.out.1 HD.out.2).mono ?_
        intro e w10 hA
        obtain ⟨val, d_r, d_rc, d_s, d_sc, d_f, d_fc, d_n, d_nc, rfl, hO, bb, hI⟩ := hA.open
        dsimp only
        have I_d := hO.img
        rw [hI] at I_d
        clear hA hO hI
        replace mb_m := cells_below mb_m bb (Array.getElem?_eq_some_iff.1 mb_m).1
        replace mb_b := cells_below mb_b bb (Array.getElem?_eq_some_iff.1 mb_b).1
        replace mb_c := cells_below mb_c bb (Array.getElem?_eq_some_iff.1 mb_c).1
        replace hB := Below.on hB bb
        replace I_m := I_m.below bb
        replace S0 := S0.below bb
        replace I_b := I_b.below bb
        replace I_c := I_c.below bb
        replace Sy := Sy.below bb
        clear bb
        replace mb_m := cells_alloc mb_m (.cells #[.int .i64 MD.guest, .slice d_r MD.root.length d_rc, .slice d_s MD.slots.length d_sc, .slice d_f MD.refs.length d_fc, .slice d_n MD.snaps.length d_nc] 26)
        replace mb_b := cells_alloc mb_b (.cells #[.int .i64 MD.guest, .slice d_r MD.root.length d_rc, .slice d_s MD.slots.length d_sc, .slice d_f MD.refs.length d_fc, .slice d_n MD.snaps.length d_nc] 26)
        replace mb_c := cells_alloc mb_c (.cells #[.int .i64 MD.guest, .slice d_r MD.root.length d_rc, .slice d_s MD.slots.length d_sc, .slice d_f MD.refs.length d_fc, .slice d_n MD.snaps.length d_nc] 26)
        have ba : Below w10.heap.size w10 (w10.alloc (.cells #[.int .i64 MD.guest, .slice d_r MD.root.length d_rc, .slice d_s MD.slots.length d_sc, .slice d_f MD.refs.length d_fc, .slice d_n MD.snaps.length d_nc] 26)) := (Below.refl _ _).alloc (Nat.le_refl _) _
        replace hB := Below.on hB ba
        replace I_m := I_m.below ba
        replace S0 := S0.below ba
        replace I_b := I_b.below ba
        replace I_c := I_c.below ba
        replace Sy := Sy.below ba
        replace I_d := I_d.below ba
        clear ba
        have mb_d : (w10.alloc (.cells #[.int .i64 MD.guest, .slice d_r MD.root.length d_rc, .slice d_s MD.slots.length d_sc, .slice d_f MD.refs.length d_fc, .slice d_n MD.snaps.length d_nc] 26)).heap[w10.heap.size]? = some (.cells #[.int .i64 MD.guest, .slice d_r MD.root.length d_rc, .slice d_s MD.slots.length d_sc, .slice d_f MD.refs.length d_fc, .slice d_n MD.snaps.length d_nc] 26) := World.alloc_heap_new _ _
        rcases Bool.eq_false_or_eq_true (ED == 0) with bED | bED
        · skip
          have nED : (ED != 0) = false := by show (!(ED == 0)) = _; rw [bED]; rfl
          have k0 := KD.out (by simpa using bED)
          have kD : Hid (checkE MD = 0 ∧ allV MD = frR V g.toNat) := ⟨k0.2.2.right, by rw [k0.2.2.all, HP.out.2]⟩
          have fD : Hid (frA V g = frR V g.toNat ∧ frE V g = 0) := by have e : frE V g = 0 := by { unfold frE; rw [if_pos HV.out.1, if_pos ⟨k0.1, k0.2.1⟩] }; exact ⟨by unfold frA; rw [if_pos e], e⟩
          clear k0
          obtain ⟨m0, m1, m2, m3, m4⟩ := five mb_m
          obtain ⟨b0, b1, b2, b3, b4⟩ := five mb_b
          obtain ⟨c0, c1, c2, c3, c4⟩ := five mb_c
          obtain ⟨d0, d1, d2, d3, d4⟩ := five mb_d
          have hh_mb_m := Hid_mkW mb_m
          have hh_mb_b := Hid_mkW mb_b
          have hh_mb_c := Hid_mkW mb_c
          have hh_mb_d := Hid_mkW mb_d
          have hh_I_m := Hid_mkW I_m
          have hh_S0 := Hid_mkW S0
          have hh_I_b := Hid_mkW I_b
          have hh_I_c := Hid_mkW I_c
          have hh_Sy := Hid_mkW Sy
          have hh_I_d := Hid_mkW I_d
          have hh_hB := Hid_mkW hB
          clear mb_m mb_b mb_c mb_d I_m S0 I_b I_c Sy I_d hB
          go_wp2_with fail
          clear m0 m1 m2 m3 m4 b0 b1 b2 b3 b4 c0 c1 c2 c3 c4 d0 d1 d2 d3 d4
          have mb_m := hh_mb_m.out
          have mb_b := hh_mb_b.out
          have mb_c := hh_mb_c.out
          have mb_d := hh_mb_d.out
          have I_m := hh_I_m.out
          have S0 := hh_S0.out
          have I_b := hh_I_b.out
          have I_c := hh_I_c.out
          have Sy := hh_Sy.out
          have I_d := hh_I_d.out
          have hB := hh_hB.out
          clear hh_mb_m hh_mb_b hh_mb_c hh_mb_d hh_I_m hh_S0 hh_I_b hh_I_c hh_Sy hh_I_d hh_hB
          refine (all_is I_d kD.out.1 kD.out.2).mono ?_
          rintro e w11 ⟨⟨ld, rfl, Sd⟩, bb⟩
          replace mb_m := cells_below mb_m bb (Array.getElem?_eq_some_iff.1 mb_m).1
          replace mb_b := cells_below mb_b bb (Array.getElem?_eq_some_iff.1 mb_b).1
          replace mb_c := cells_below mb_c bb (Array.getElem?_eq_some_iff.1 mb_c).1
          replace mb_d := cells_below mb_d bb (Array.getElem?_eq_some_iff.1 mb_d).1
          replace hB := Below.on hB bb
          replace I_m := I_m.below bb
          replace S0 := S0.below bb
          replace I_b := I_b.below bb
          replace I_c := I_c.below bb
          replace Sy := Sy.below bb
          replace I_d := I_d.below bb
          clear bb
          obtain ⟨m0, m1, m2, m3, m4⟩ := five mb_m
          obtain ⟨b0, b1, b2, b3, b4⟩ := five mb_b
          obtain ⟨c0, c1, c2, c3, c4⟩ := five mb_c
          obtain ⟨d0, d1, d2, d3, d4⟩ := five mb_d
          have hh_mb_m := Hid_mkW mb_m
          have hh_mb_b := Hid_mkW mb_b
          have hh_mb_c := Hid_mkW mb_c
          have hh_mb_d := Hid_mkW mb_d
          have hh_I_m := Hid_mkW I_m
          have hh_S0 := Hid_mkW S0
          have hh_I_b := Hid_mkW I_b
          have hh_I_c := Hid_mkW I_c
          have hh_Sy := Hid_mkW Sy
          have hh_I_d := Hid_mkW I_d
          have hh_Sd := Hid_mkW Sd
          have hh_hB := Hid_mkW hB
          clear mb_m mb_b mb_c mb_d I_m S0 I_b I_c Sy I_d Sd hB
          go_wp2_with fail
          clear m0 m1 m2 m3 m4 b0 b1 b2 b3 b4 c0 c1 c2 c3 c4 d0 d1 d2 d3 d4
          have mb_m := hh_mb_m.out
          have mb_b := hh_mb_b.out
          have mb_c := hh_mb_c.out
          have mb_d := hh_mb_d.out
          have I_m := hh_I_m.out
          have S0 := hh_S0.out
          have I_b := hh_I_b.out
          have I_c := hh_I_c.out
          have Sy := hh_Sy.out
          have I_d := hh_I_d.out
          have Sd := hh_Sd.out
          have hB := hh_hB.out
          clear hh_mb_m hh_mb_b hh_mb_c hh_mb_d hh_I_m hh_S0 hh_I_b hh_I_c hh_Sy hh_I_d hh_Sd hh_hB
          refine (fresize_is S0 fD.out.1 fD.out.2).mono ?_
          rintro e w12 ⟨lz, rfl, Sz, bb⟩
          replace mb_m := cells_below mb_m bb (Array.getElem?_eq_some_iff.1 mb_m).1
          replace mb_b := cells_below mb_b bb (Array.getElem?_eq_some_iff.1 mb_b).1
          replace mb_c := cells_below mb_c bb (Array.getElem?_eq_some_iff.1 mb_c).1
          replace mb_d := cells_below mb_d bb (Array.getElem?_eq_some_iff.1 mb_d).1
          replace hB := Below.on hB bb
          replace I_m := I_m.below bb
          replace S0 := S0.below bb
          replace I_b := I_b.below bb
          replace I_c := I_c.below bb
          replace Sy := Sy.below bb
          replace I_d := I_d.below bb
          replace Sd := Sd.below bb
          clear bb
          obtain ⟨m0, m1, m2, m3, m4⟩ := five mb_m
          obtain ⟨b0, b1, b2, b3, b4⟩ := five mb_b
          obtain ⟨c0, c1, c2, c3, c4⟩ := five mb_c
          obtain ⟨d0, d1, d2, d3, d4⟩ := five mb_d
          have hh_mb_m := Hid_mkW mb_m
          have hh_mb_b := Hid_mkW mb_b
          have hh_mb_c := Hid_mkW mb_c
          have hh_mb_d := Hid_mkW mb_d
          have hh_I_m := Hid_mkW I_m
          have hh_S0 := Hid_mkW S0
          have hh_I_b := Hid_mkW I_b
          have hh_I_c := Hid_mkW I_c
          have hh_Sy := Hid_mkW Sy
          have hh_I_d := Hid_mkW I_d
          have hh_Sd := Hid_mkW Sd
          have hh_Sz := Hid_mkW Sz
          have hh_hB := Hid_mkW hB
          clear mb_m mb_b mb_c mb_d I_m S0 I_b I_c Sy I_d Sd Sz hB
          go_wp2_with fail
          clear m0 m1 m2 m3 m4 b0 b1 b2 b3 b4 c0 c1 c2 c3 c4 d0 d1 d2 d3 d4
          have mb_m := hh_mb_m.out
          have mb_b := hh_mb_b.out
          have mb_c := hh_mb_c.out
          have mb_d := hh_mb_d.out
          have I_m := hh_I_m.out
          have S0 := hh_S0.out
          have I_b := hh_I_b.out
          have I_c := hh_I_c.out
          have Sy := hh_Sy.out
          have I_d := hh_I_d.out
          have Sd := hh_Sd.out
          have Sz := hh_Sz.out
          have hB := hh_hB.out
          clear hh_mb_m hh_mb_b hh_mb_c hh_mb_d hh_I_m hh_S0 hh_I_b hh_I_c hh_Sy hh_I_d hh_Sd hh_Sz hh_hB
          refine (writesBegun_any _).mono ?_
          rintro e w13 ⟨rfl, bb⟩
          replace mb_m := cells_below mb_m bb (Array.getElem?_eq_some_iff.1 mb_m).1
          replace mb_b := cells_below mb_b bb (Array.getElem?_eq_some_iff.1 mb_b).1
          replace mb_c := cells_below mb_c bb (Array.getElem?_eq_some_iff.1 mb_c).1
          replace mb_d := cells_below mb_d bb (Array.getElem?_eq_some_iff.1 mb_d).1
          replace hB := Below.on hB bb
          replace I_m := I_m.below bb
          replace S0 := S0.below bb
          replace I_b := I_b.below bb
          replace I_c := I_c.below bb
          replace Sy := Sy.below bb
          replace I_d := I_d.below bb
          replace Sd := Sd.below bb
          replace Sz := Sz.below bb
          clear bb
          obtain ⟨m0, m1, m2, m3, m4⟩ := five mb_m
          obtain ⟨b0, b1, b2, b3, b4⟩ := five mb_b
          obtain ⟨c0, c1, c2, c3, c4⟩ := five mb_c
          obtain ⟨d0, d1, d2, d3, d4⟩ := five mb_d
          have hh_mb_m := Hid_mkW mb_m
          have hh_mb_b := Hid_mkW mb_b
          have hh_mb_c := Hid_mkW mb_c
          have hh_mb_d := Hid_mkW mb_d
          have hh_I_m := Hid_mkW I_m
          have hh_S0 := Hid_mkW S0
          have hh_I_b := Hid_mkW I_b
          have hh_I_c := Hid_mkW I_c
          have hh_Sy := Hid_mkW Sy
          have hh_I_d := Hid_mkW I_d
          have hh_Sd := Hid_mkW Sd
          have hh_Sz := Hid_mkW Sz
          have hh_hB := Hid_mkW hB
          clear mb_m mb_b mb_c mb_d I_m S0 I_b I_c Sy I_d Sd Sz hB
          go_wp2_with fail
          clear m0 m1 m2 m3 m4 b0 b1 b2 b3 b4 c0 c1 c2 c3 c4 d0 d1 d2 d3 d4
          have mb_m := hh_mb_m.out
          have mb_b := hh_mb_b.out
          have mb_c := hh_mb_c.out
          have mb_d := hh_mb_d.out
          have I_m := hh_I_m.out
          have S0 := hh_S0.out
          have I_b := hh_I_b.out
          have I_c := hh_I_c.out
          have Sy := hh_Sy.out
          have I_d := hh_I_d.out
          have Sd := hh_Sd.out
          have Sz := hh_Sz.out
          have hB := hh_hB.out
          clear hh_mb_m hh_mb_b hh_mb_c hh_mb_d hh_I_m hh_S0 hh_I_b hh_I_c hh_Sy hh_I_d hh_Sd hh_Sz hh_hB
          refine (samePages_any Sd Sz).mono ?_
          rintro e w14 ⟨rfl, bb⟩
          replace mb_m := cells_below mb_m bb (Array.getElem?_eq_some_iff.1 mb_m).1
          replace mb_b := cells_below mb_b bb (Array.getElem?_eq_some_iff.1 mb_b).1
          replace mb_c := cells_below mb_c bb (Array.getElem?_eq_some_iff.1 mb_c).1
          replace mb_d := cells_below mb_d bb (Array.getElem?_eq_some_iff.1 mb_d).1
          replace hB := Below.on hB bb
          replace I_m := I_m.below bb
          replace S0 := S0.below bb
          replace I_b := I_b.below bb
          replace I_c := I_c.below bb
          replace Sy := Sy.below bb
          replace I_d := I_d.below bb
          replace Sd := Sd.below bb
          replace Sz := Sz.below bb
          clear bb
          obtain ⟨m0, m1, m2, m3, m4⟩ := five mb_m
          obtain ⟨b0, b1, b2, b3, b4⟩ := five mb_b
          obtain ⟨c0, c1, c2, c3, c4⟩ := five mb_c
          obtain ⟨d0, d1, d2, d3, d4⟩ := five mb_d
          have hh_mb_m := Hid_mkW mb_m
          have hh_mb_b := Hid_mkW mb_b
          have hh_mb_c := Hid_mkW mb_c
          have hh_mb_d := Hid_mkW mb_d
          have hh_I_m := Hid_mkW I_m
          have hh_S0 := Hid_mkW S0
          have hh_I_b := Hid_mkW I_b
          have hh_I_c := Hid_mkW I_c
          have hh_Sy := Hid_mkW Sy
          have hh_I_d := Hid_mkW I_d
          have hh_Sd := Hid_mkW Sd
          have hh_Sz := Hid_mkW Sz
          have hh_hB := Hid_mkW hB
          clear mb_m mb_b mb_c mb_d I_m S0 I_b I_c Sy I_d Sd Sz hB
          go_wp2_with fail
          go_ret
          have hB := hh_hB.out
          exact ⟨rfl, hB⟩
        · skip
          have nED : (ED != 0) = true := by show (!(ED == 0)) = _; rw [bED]; rfl
          have hh_mb_m := Hid_mkW mb_m
          have hh_mb_b := Hid_mkW mb_b
          have hh_mb_c := Hid_mkW mb_c
          have hh_mb_d := Hid_mkW mb_d
          have hh_I_m := Hid_mkW I_m
          have hh_S0 := Hid_mkW S0
          have hh_I_b := Hid_mkW I_b
          have hh_I_c := Hid_mkW I_c
          have hh_Sy := Hid_mkW Sy
          have hh_I_d := Hid_mkW I_d
          have hh_hB := Hid_mkW hB
          clear mb_m mb_b mb_c mb_d I_m S0 I_b I_c Sy I_d hB
          go_wp2_with fail
          have mb_m := hh_mb_m.out
          have mb_b := hh_mb_b.out
          have mb_c := hh_mb_c.out
          have mb_d := hh_mb_d.out
          have I_m := hh_I_m.out
          have S0 := hh_S0.out
          have I_b := hh_I_b.out
          have I_c := hh_I_c.out
          have Sy := hh_Sy.out
          have I_d := hh_I_d.out
          have hB := hh_hB.out
          clear hh_mb_m hh_mb_b hh_mb_c hh_mb_d hh_I_m hh_S0 hh_I_b hh_I_c hh_Sy hh_I_d hh_hB
          refine (writesBegun_any _).mono ?_
          rintro e w11 ⟨rfl, bb⟩
          replace mb_m := cells_below mb_m bb (Array.getElem?_eq_some_iff.1 mb_m).1
          replace mb_b := cells_below mb_b bb (Array.getElem?_eq_some_iff.1 mb_b).1
          replace mb_c := cells_below mb_c bb (Array.getElem?_eq_some_iff.1 mb_c).1
          replace mb_d := cells_below mb_d bb (Array.getElem?_eq_some_iff.1 mb_d).1
          replace hB := Below.on hB bb
          replace I_m := I_m.below bb
          replace S0 := S0.below bb
          replace I_b := I_b.below bb
          replace I_c := I_c.below bb
          replace Sy := Sy.below bb
          replace I_d := I_d.below bb
          clear bb
          have hh_mb_m := Hid_mkW mb_m
          have hh_mb_b := Hid_mkW mb_b
          have hh_mb_c := Hid_mkW mb_c
          have hh_mb_d := Hid_mkW mb_d
          have hh_I_m := Hid_mkW I_m
          have hh_S0 := Hid_mkW S0
          have hh_I_b := Hid_mkW I_b
          have hh_I_c := Hid_mkW I_c
          have hh_Sy := Hid_mkW Sy
          have hh_I_d := Hid_mkW I_d
          have hh_hB := Hid_mkW hB
          clear mb_m mb_b mb_c mb_d I_m S0 I_b I_c Sy I_d hB
          go_wp2_with fail
          go_ret
          have hB := hh_hB.out
          exact ⟨rfl, hB⟩
      · skip
        have nEC : (EC != 0) = true := by show (!(EC == 0)) = _; rw [bEC]; rfl
        obtain ⟨m0, m1, m2, m3, m4⟩ := five mb_m
        have hh_mb_m := Hid_mkW mb_m
        have hh_mb_b := Hid_mkW mb_b
        have hh_mb_c := Hid_mkW mb_c
        have hh_I_m := Hid_mkW I_m
        have hh_S0 := Hid_mkW S0
        have hh_I_b := Hid_mkW I_b
        have hh_I_c := Hid_mkW I_c
        have hh_Sy := Hid_mkW Sy
        have hh_hB := Hid_mkW hB
        clear mb_m mb_b mb_c I_m S0 I_b I_c Sy hB
        go_wp2_with fail
        clear m0 m1 m2 m3 m4
        have mb_m := hh_mb_m.out
        have mb_b := hh_mb_b.out
        have mb_c := hh_mb_c.out
        have I_m := hh_I_m.out
        have S0 := hh_S0.out
        have I_b := hh_I_b.out
        have I_c := hh_I_c.out
        have Sy := hh_Sy.out
        have hB := hh_hB.out
        clear hh_mb_m hh_mb_b hh_mb_c hh_I_m hh_S0 hh_I_b hh_I_c hh_Sy hh_hB
        refine (resize_to I_m g HD.out.1 HD.out.2).mono ?_
        intro e w8 hA
        obtain ⟨val, d_r, d_rc, d_s, d_sc, d_f, d_fc, d_n, d_nc, rfl, hO, bb, hI⟩ := hA.open
        dsimp only
        have I_d := hO.img
        rw [hI] at I_d
        clear hA hO hI
        replace mb_m := cells_below mb_m bb (Array.getElem?_eq_some_iff.1 mb_m).1
        replace mb_b := cells_below mb_b bb (Array.getElem?_eq_some_iff.1 mb_b).1
        replace mb_c := cells_below mb_c bb (Array.getElem?_eq_some_iff.1 mb_c).1
        replace hB := Below.on hB bb
        replace I_m := I_m.below bb
        replace S0 := S0.below bb
        replace I_b := I_b.below bb
        replace I_c := I_c.below bb
        replace Sy := Sy.below bb
        clear bb
        replace mb_m := cells_alloc mb_m (.cells #[.int .i64 MD.guest, .slice d_r MD.root.length d_rc, .slice d_s MD.slots.length d_sc, .slice d_f MD.refs.length d_fc, .slice d_n MD.snaps.length d_nc] 26)
        replace mb_b := cells_alloc mb_b (.cells #[.int .i64 MD.guest, .slice d_r MD.root.length d_rc, .slice d_s MD.slots.length d_sc, .slice d_f MD.refs.length d_fc, .slice d_n MD.snaps.length d_nc] 26)
        replace mb_c := cells_alloc mb_c (.cells #[.int .i64 MD.guest, .slice d_r MD.root.length d_rc, .slice d_s MD.slots.length d_sc, .slice d_f MD.refs.length d_fc, .slice d_n MD.snaps.length d_nc] 26)
        have ba : Below w8.heap.size w8 (w8.alloc (.cells #[.int .i64 MD.guest, .slice d_r MD.root.length d_rc, .slice d_s MD.slots.length d_sc, .slice d_f MD.refs.length d_fc, .slice d_n MD.snaps.length d_nc] 26)) := (Below.refl _ _).alloc (Nat.le_refl _) _
        replace hB := Below.on hB ba
        replace I_m := I_m.below ba
        replace S0 := S0.below ba
        replace I_b := I_b.below ba
        replace I_c := I_c.below ba
        replace Sy := Sy.below ba
        replace I_d := I_d.below ba
        clear ba
        have mb_d : (w8.alloc (.cells #[.int .i64 MD.guest, .slice d_r MD.root.length d_rc, .slice d_s MD.slots.length d_sc, .slice d_f MD.refs.length d_fc, .slice d_n MD.snaps.length d_nc] 26)).heap[w8.heap.size]? = some (.cells #[.int .i64 MD.guest, .slice d_r MD.root.length d_rc, .slice d_s MD.slots.length d_sc, .slice d_f MD.refs.length d_fc, .slice d_n MD.snaps.length d_nc] 26) := World.alloc_heap_new _ _
        rcases Bool.eq_false_or_eq_true (ED == 0) with bED | bED
        · skip
          have nED : (ED != 0) = false := by show (!(ED == 0)) = _; rw [bED]; rfl
          have k0 := KD.out (by simpa using bED)
          have kD : Hid (checkE MD = 0 ∧ allV MD = frR V g.toNat) := ⟨k0.2.2.right, by rw [k0.2.2.all, HP.out.2]⟩
          have fD : Hid (frA V g = frR V g.toNat ∧ frE V g = 0) := by have e : frE V g = 0 := by { unfold frE; rw [if_pos HV.out.1, if_pos ⟨k0.1, k0.2.1⟩] }; exact ⟨by unfold frA; rw [if_pos e], e⟩
          clear k0
          obtain ⟨m0, m1, m2, m3, m4⟩ := five mb_m
          obtain ⟨b0, b1, b2, b3, b4⟩ := five mb_b
          obtain ⟨c0, c1, c2, c3, c4⟩ := five mb_c
          obtain ⟨d0, d1, d2, d3, d4⟩ := five mb_d
          have hh_mb_m := Hid_mkW mb_m
          have hh_mb_b := Hid_mkW mb_b
          have hh_mb_c := Hid_mkW mb_c
          have hh_mb_d := Hid_mkW mb_d
          have hh_I_m := Hid_mkW I_m
          have hh_S0 := Hid_mkW S0
          have hh_I_b := Hid_mkW I_b
          have hh_I_c := Hid_mkW I_c
          have hh_Sy := Hid_mkW Sy
          have hh_I_d := Hid_mkW I_d
          have hh_hB := Hid_mkW hB
          clear mb_m mb_b mb_c mb_d I_m S0 I_b I_c Sy I_d hB
          go_wp2_with fail
          clear m0 m1 m2 m3 m4 b0 b1 b2 b3 b4 c0 c1 c2 c3 c4 d0 d1 d2 d3 d4
          have mb_m := hh_mb_m.out
          have mb_b := hh_mb_b.out
          have mb_c := hh_mb_c.out
          have mb_d := hh_mb_d.out
          have I_m := hh_I_m.out
          have S0 := hh_S0.out
          have I_b := hh_I_b.out
          have I_c := hh_I_c.out
          have Sy := hh_Sy.out
          have I_d := hh_I_d.out
          have hB := hh_hB.out
          clear hh_mb_m hh_mb_b hh_mb_c hh_mb_d hh_I_m hh_S0 hh_I_b hh_I_c hh_Sy hh_I_d hh_hB
          refine (all_is I_d kD.out.1 kD.out.2).mono ?_
          rintro e w9 ⟨⟨ld, rfl, Sd⟩, bb⟩
          replace mb_m := cells_below mb_m bb (Array.getElem?_eq_some_iff.1 mb_m).1
          replace mb_b := cells_below mb_b bb (Array.getElem?_eq_some_iff.1 mb_b).1
          replace mb_c := cells_below mb_c bb (Array.getElem?_eq_some_iff.1 mb_c).1
          replace mb_d := cells_below mb_d bb (Array.getElem?_eq_some_iff.1 mb_d).1
          replace hB := Below.on hB bb
          replace I_m := I_m.below bb
          replace S0 := S0.below bb
          replace I_b := I_b.below bb
          replace I_c := I_c.below bb
          replace Sy := Sy.below bb
          replace I_d := I_d.below bb
          clear bb
          obtain ⟨m0, m1, m2, m3, m4⟩ := five mb_m
          obtain ⟨b0, b1, b2, b3, b4⟩ := five mb_b
          obtain ⟨c0, c1, c2, c3, c4⟩ := five mb_c
          obtain ⟨d0, d1, d2, d3, d4⟩ := five mb_d
          have hh_mb_m := Hid_mkW mb_m
          have hh_mb_b := Hid_mkW mb_b
          have hh_mb_c := Hid_mkW mb_c
          have hh_mb_d := Hid_mkW mb_d
          have hh_I_m := Hid_mkW I_m
          have hh_S0 := Hid_mkW S0
          have hh_I_b := Hid_mkW I_b
          have hh_I_c := Hid_mkW I_c
          have hh_Sy := Hid_mkW Sy
          have hh_I_d := Hid_mkW I_d
          have hh_Sd := Hid_mkW Sd
          have hh_hB := Hid_mkW hB
          clear mb_m mb_b mb_c mb_d I_m S0 I_b I_c Sy I_d Sd hB
          go_wp2_with fail
          clear m0 m1 m2 m3 m4 b0 b1 b2 b3 b4 c0 c1 c2 c3 c4 d0 d1 d2 d3 d4
          have mb_m := hh_mb_m.out
          have mb_b := hh_mb_b.out
          have mb_c := hh_mb_c.out
          have mb_d := hh_mb_d.out
          have I_m := hh_I_m.out
          have S0 := hh_S0.out
          have I_b := hh_I_b.out
          have I_c := hh_I_c.out
          have Sy := hh_Sy.out
          have I_d := hh_I_d.out
          have Sd := hh_Sd.out
          have hB := hh_hB.out
          clear hh_mb_m hh_mb_b hh_mb_c hh_mb_d hh_I_m hh_S0 hh_I_b hh_I_c hh_Sy hh_I_d hh_Sd hh_hB
          refine (fresize_is S0 fD.out.1 fD.out.2).mono ?_
          rintro e w10 ⟨lz, rfl, Sz, bb⟩
          replace mb_m := cells_below mb_m bb (Array.getElem?_eq_some_iff.1 mb_m).1
          replace mb_b := cells_below mb_b bb (Array.getElem?_eq_some_iff.1 mb_b).1
          replace mb_c := cells_below mb_c bb (Array.getElem?_eq_some_iff.1 mb_c).1
          replace mb_d := cells_below mb_d bb (Array.getElem?_eq_some_iff.1 mb_d).1
          replace hB := Below.on hB bb
          replace I_m := I_m.below bb
          replace S0 := S0.below bb
          replace I_b := I_b.below bb
          replace I_c := I_c.below bb
          replace Sy := Sy.below bb
          replace I_d := I_d.below bb
          replace Sd := Sd.below bb
          clear bb
          obtain ⟨m0, m1, m2, m3, m4⟩ := five mb_m
          obtain ⟨b0, b1, b2, b3, b4⟩ := five mb_b
          obtain ⟨c0, c1, c2, c3, c4⟩ := five mb_c
          obtain ⟨d0, d1, d2, d3, d4⟩ := five mb_d
          have hh_mb_m := Hid_mkW mb_m
          have hh_mb_b := Hid_mkW mb_b
          have hh_mb_c := Hid_mkW mb_c
          have hh_mb_d := Hid_mkW mb_d
          have hh_I_m := Hid_mkW I_m
          have hh_S0 := Hid_mkW S0
          have hh_I_b := Hid_mkW I_b
          have hh_I_c := Hid_mkW I_c
          have hh_Sy := Hid_mkW Sy
          have hh_I_d := Hid_mkW I_d
          have hh_Sd := Hid_mkW Sd
          have hh_Sz := Hid_mkW Sz
          have hh_hB := Hid_mkW hB
          clear mb_m mb_b mb_c mb_d I_m S0 I_b I_c Sy I_d Sd Sz hB
          go_wp2_with fail
          clear m0 m1 m2 m3 m4 b0 b1 b2 b3 b4 c0 c1 c2 c3 c4 d0 d1 d2 d3 d4
          have mb_m := hh_mb_m.out
          have mb_b := hh_mb_b.out
          have mb_c := hh_mb_c.out
          have mb_d := hh_mb_d.out
          have I_m := hh_I_m.out
          have S0 := hh_S0.out
          have I_b := hh_I_b.out
          have I_c := hh_I_c.out
          have Sy := hh_Sy.out
          have I_d := hh_I_d.out
          have Sd := hh_Sd.out
          have Sz := hh_Sz.out
          have hB := hh_hB.out
          clear hh_mb_m hh_mb_b hh_mb_c hh_mb_d hh_I_m hh_S0 hh_I_b hh_I_c hh_Sy hh_I_d hh_Sd hh_Sz hh_hB
          refine (writesBegun_any _).mono ?_
          rintro e w11 ⟨rfl, bb⟩
          replace mb_m := cells_below mb_m bb (Array.getElem?_eq_some_iff.1 mb_m).1
          replace mb_b := cells_below mb_b bb (Array.getElem?_eq_some_iff.1 mb_b).1
          replace mb_c := cells_below mb_c bb (Array.getElem?_eq_some_iff.1 mb_c).1
          replace mb_d := cells_below mb_d bb (Array.getElem?_eq_some_iff.1 mb_d).1
          replace hB := Below.on hB bb
          replace I_m := I_m.below bb
          replace S0 := S0.below bb
          replace I_b := I_b.below bb
          replace I_c := I_c.below bb
          replace Sy := Sy.below bb
          replace I_d := I_d.below bb
          replace Sd := Sd.below bb
          replace Sz := Sz.below bb
          clear bb
          obtain ⟨m0, m1, m2, m3, m4⟩ := five mb_m
          obtain ⟨b0, b1, b2, b3, b4⟩ := five mb_b
          obtain ⟨c0, c1, c2, c3, c4⟩ := five mb_c
          obtain ⟨d0, d1, d2, d3, d4⟩ := five mb_d
          have hh_mb_m := Hid_mkW mb_m
          have hh_mb_b := Hid_mkW mb_b
          have hh_mb_c := Hid_mkW mb_c
          have hh_mb_d := Hid_mkW mb_d
          have hh_I_m := Hid_mkW I_m
          have hh_S0 := Hid_mkW S0
          have hh_I_b := Hid_mkW I_b
          have hh_I_c := Hid_mkW I_c
          have hh_Sy := Hid_mkW Sy
          have hh_I_d := Hid_mkW I_d
          have hh_Sd := Hid_mkW Sd
          have hh_Sz := Hid_mkW Sz
          have hh_hB := Hid_mkW hB
          clear mb_m mb_b mb_c mb_d I_m S0 I_b I_c Sy I_d Sd Sz hB
          go_wp2_with fail
          clear m0 m1 m2 m3 m4 b0 b1 b2 b3 b4 c0 c1 c2 c3 c4 d0 d1 d2 d3 d4
          have mb_m := hh_mb_m.out
          have mb_b := hh_mb_b.out
          have mb_c := hh_mb_c.out
          have mb_d := hh_mb_d.out
          have I_m := hh_I_m.out
          have S0 := hh_S0.out
          have I_b := hh_I_b.out
          have I_c := hh_I_c.out
          have Sy := hh_Sy.out
          have I_d := hh_I_d.out
          have Sd := hh_Sd.out
          have Sz := hh_Sz.out
          have hB := hh_hB.out
          clear hh_mb_m hh_mb_b hh_mb_c hh_mb_d hh_I_m hh_S0 hh_I_b hh_I_c hh_Sy hh_I_d hh_Sd hh_Sz hh_hB
          refine (samePages_any Sd Sz).mono ?_
          rintro e w12 ⟨rfl, bb⟩
          replace mb_m := cells_below mb_m bb (Array.getElem?_eq_some_iff.1 mb_m).1
          replace mb_b := cells_below mb_b bb (Array.getElem?_eq_some_iff.1 mb_b).1
          replace mb_c := cells_below mb_c bb (Array.getElem?_eq_some_iff.1 mb_c).1
          replace mb_d := cells_below mb_d bb (Array.getElem?_eq_some_iff.1 mb_d).1
          replace hB := Below.on hB bb
          replace I_m := I_m.below bb
          replace S0 := S0.below bb
          replace I_b := I_b.below bb
          replace I_c := I_c.below bb
          replace Sy := Sy.below bb
          replace I_d := I_d.below bb
          replace Sd := Sd.below bb
          replace Sz := Sz.below bb
          clear bb
          obtain ⟨m0, m1, m2, m3, m4⟩ := five mb_m
          obtain ⟨b0, b1, b2, b3, b4⟩ := five mb_b
          obtain ⟨c0, c1, c2, c3, c4⟩ := five mb_c
          obtain ⟨d0, d1, d2, d3, d4⟩ := five mb_d
          have hh_mb_m := Hid_mkW mb_m
          have hh_mb_b := Hid_mkW mb_b
          have hh_mb_c := Hid_mkW mb_c
          have hh_mb_d := Hid_mkW mb_d
          have hh_I_m := Hid_mkW I_m
          have hh_S0 := Hid_mkW S0
          have hh_I_b := Hid_mkW I_b
          have hh_I_c := Hid_mkW I_c
          have hh_Sy := Hid_mkW Sy
          have hh_I_d := Hid_mkW I_d
          have hh_Sd := Hid_mkW Sd
          have hh_Sz := Hid_mkW Sz
          have hh_hB := Hid_mkW hB
          clear mb_m mb_b mb_c mb_d I_m S0 I_b I_c Sy I_d Sd Sz hB
          go_wp2_with fail
          go_ret
          have hB := hh_hB.out
          exact ⟨rfl, hB⟩
        · skip
          have nED : (ED != 0) = true := by show (!(ED == 0)) = _; rw [bED]; rfl
          have hh_mb_m := Hid_mkW mb_m
          have hh_mb_b := Hid_mkW mb_b
          have hh_mb_c := Hid_mkW mb_c
          have hh_mb_d := Hid_mkW mb_d
          have hh_I_m := Hid_mkW I_m
          have hh_S0 := Hid_mkW S0
          have hh_I_b := Hid_mkW I_b
          have hh_I_c := Hid_mkW I_c
          have hh_Sy := Hid_mkW Sy
          have hh_I_d := Hid_mkW I_d
          have hh_hB := Hid_mkW hB
          clear mb_m mb_b mb_c mb_d I_m S0 I_b I_c Sy I_d hB
          go_wp2_with fail
          have mb_m := hh_mb_m.out
          have mb_b := hh_mb_b.out
          have mb_c := hh_mb_c.out
          have mb_d := hh_mb_d.out
          have I_m := hh_I_m.out
          have S0 := hh_S0.out
          have I_b := hh_I_b.out
          have I_c := hh_I_c.out
          have Sy := hh_Sy.out
          have I_d := hh_I_d.out
          have hB := hh_hB.out
          clear hh_mb_m hh_mb_b hh_mb_c hh_mb_d hh_I_m hh_S0 hh_I_b hh_I_c hh_Sy hh_I_d hh_hB
          refine (writesBegun_any _).mono ?_
          rintro e w9 ⟨rfl, bb⟩
          replace mb_m := cells_below mb_m bb (Array.getElem?_eq_some_iff.1 mb_m).1
          replace mb_b := cells_below mb_b bb (Array.getElem?_eq_some_iff.1 mb_b).1
          replace mb_c := cells_below mb_c bb (Array.getElem?_eq_some_iff.1 mb_c).1
          replace mb_d := cells_below mb_d bb (Array.getElem?_eq_some_iff.1 mb_d).1
          replace hB := Below.on hB bb
          replace I_m := I_m.below bb
          replace S0 := S0.below bb
          replace I_b := I_b.below bb
          replace I_c := I_c.below bb
          replace Sy := Sy.below bb
          replace I_d := I_d.below bb
          clear bb
          have hh_mb_m := Hid_mkW mb_m
          have hh_mb_b := Hid_mkW mb_b
          have hh_mb_c := Hid_mkW mb_c
          have hh_mb_d := Hid_mkW mb_d
          have hh_I_m := Hid_mkW I_m
          have hh_S0 := Hid_mkW S0
          have hh_I_b := Hid_mkW I_b
          have hh_I_c := Hid_mkW I_c
          have hh_Sy := Hid_mkW Sy
          have hh_I_d := Hid_mkW I_d
          have hh_hB := Hid_mkW hB
          clear mb_m mb_b mb_c mb_d I_m S0 I_b I_c Sy I_d hB
          go_wp2_with fail
          go_ret
          have hB := hh_hB.out
          exact ⟨rfl, hB⟩
    · skip
      have nEB : (EB != 0) = true := by show (!(EB == 0)) = _; rw [bEB]; rfl
      rcases Bool.eq_false_or_eq_true (EC == 0) with bEC | bEC
      · skip
        have nEC : (EC != 0) = false := by show (!(EC == 0)) = _; rw [bEC]; rfl
        have k0 := KC.out (by simpa using bEC)
        have e0 : KE = 0 := by rw [← HK.out.2]; unfold fwE; rw [if_pos ((HV.out.2 n).trans k0.1), if_pos (by decide)]
        have y0 : KY = V.set n.toNat Z4 := by rw [← HK.out.1]; unfold fwA; rw [if_pos (HK.out.2.trans e0)]
        have kC : Hid (checkE MC = 0 ∧ allV MC = KY) := ⟨k0.2.right, by rw [k0.2.all, y0, HP.out.2]⟩
        have e1 : (KE != 0) = false := by simp [e0]
        clear k0 e0 y0
        obtain ⟨m0, m1, m2, m3, m4⟩ := five mb_m
        obtain ⟨b0, b1, b2, b3, b4⟩ := five mb_b
        obtain ⟨c0, c1, c2, c3, c4⟩ := five mb_c
        have hh_mb_m := Hid_mkW mb_m
        have hh_mb_b := Hid_mkW mb_b
        have hh_mb_c := Hid_mkW mb_c
        have hh_I_m := Hid_mkW I_m
        have hh_S0 := Hid_mkW S0
        have hh_I_b := Hid_mkW I_b
        have hh_I_c := Hid_mkW I_c
        have hh_Sy := Hid_mkW Sy
        have hh_hB := Hid_mkW hB
        clear mb_m mb_b mb_c I_m S0 I_b I_c Sy hB
        go_wp2_with fail
        clear m0 m1 m2 m3 m4 b0 b1 b2 b3 b4 c0 c1 c2 c3 c4
        have mb_m := hh_mb_m.out
        have mb_b := hh_mb_b.out
        have mb_c := hh_mb_c.out
        have I_m := hh_I_m.out
        have S0 := hh_S0.out
        have I_b := hh_I_b.out
        have I_c := hh_I_c.out
        have Sy := hh_Sy.out
        have hB := hh_hB.out
        clear hh_mb_m hh_mb_b hh_mb_c hh_I_m hh_S0 hh_I_b hh_I_c hh_Sy hh_hB
        refine (all_is I_c kC.out.1 kC.out.2).mono ?_
        rintro e w6 ⟨⟨lc, rfl, Sc⟩, bb⟩
        replace mb_m := cells_below mb_m bb (Array.getElem?_eq_some_iff.1 mb_m).1
        replace mb_b := cells_below mb_b bb (Array.getElem?_eq_some_iff.1 mb_b).1
        replace mb_c := cells_below mb_c bb (Array.getElem?_eq_some_iff.1 mb_c).1
        replace hB := Below.on hB bb
        replace I_m := I_m.below bb
        replace S0 := S0.below bb
        replace I_b := I_b.below bb
        replace I_c := I_c.below bb
        replace Sy := Sy.below bb
        clear bb
        obtain ⟨m0, m1, m2, m3, m4⟩ := five mb_m
        obtain ⟨b0, b1, b2, b3, b4⟩ := five mb_b
        obtain ⟨c0, c1, c2, c3, c4⟩ := five mb_c
        have hh_mb_m := Hid_mkW mb_m
        have hh_mb_b := Hid_mkW mb_b
        have hh_mb_c := Hid_mkW mb_c
        have hh_I_m := Hid_mkW I_m
        have hh_S0 := Hid_mkW S0
        have hh_I_b := Hid_mkW I_b
        have hh_I_c := Hid_mkW I_c
        have hh_Sy := Hid_mkW Sy
        have hh_Sc := Hid_mkW Sc
        have hh_hB := Hid_mkW hB
        clear mb_m mb_b mb_c I_m S0 I_b I_c Sy Sc hB
        go_wp2_with fail
        clear m0 m1 m2 m3 m4 b0 b1 b2 b3 b4 c0 c1 c2 c3 c4
        have mb_m := hh_mb_m.out
        have mb_b := hh_mb_b.out
        have mb_c := hh_mb_c.out
        have I_m := hh_I_m.out
        have S0 := hh_S0.out
        have I_b := hh_I_b.out
        have I_c := hh_I_c.out
        have Sy := hh_Sy.out
        have Sc := hh_Sc.out
        have hB := hh_hB.out
        clear hh_mb_m hh_mb_b hh_mb_c hh_I_m hh_S0 hh_I_b hh_I_c hh_Sy hh_Sc hh_hB
        refine (samePages_any Sc Sy).mono ?_
        rintro e w7 ⟨rfl, bb⟩
        replace mb_m := cells_below mb_m bb (Array.getElem?_eq_some_iff.1 mb_m).1
        replace mb_b := cells_below mb_b bb (Array.getElem?_eq_some_iff.1 mb_b).1
        replace mb_c := cells_below mb_c bb (Array.getElem?_eq_some_iff.1 mb_c).1
        replace hB := Below.on hB bb
        replace I_m := I_m.below bb
        replace S0 := S0.below bb
        replace I_b := I_b.below bb
        replace I_c := I_c.below bb
        replace Sy := Sy.below bb
        replace Sc := Sc.below bb
        clear bb
        clear Sc
        clear e1
        obtain ⟨m0, m1, m2, m3, m4⟩ := five mb_m
        have hh_mb_m := Hid_mkW mb_m
        have hh_mb_b := Hid_mkW mb_b
        have hh_mb_c := Hid_mkW mb_c
        have hh_I_m := Hid_mkW I_m
        have hh_S0 := Hid_mkW S0
        have hh_I_b := Hid_mkW I_b
        have hh_I_c := Hid_mkW I_c
        have hh_Sy := Hid_mkW Sy
        have hh_hB := Hid_mkW hB
        clear mb_m mb_b mb_c I_m S0 I_b I_c Sy hB
        go_wp2_with fail
        clear m0 m1 m2 m3 m4
        have mb_m := hh_mb_m.out
        have mb_b := hh_mb_b.out
        have mb_c := hh_mb_c.out
        have I_m := hh_I_m.out
        have S0 := hh_S0.out
        have I_b := hh_I_b.out
        have I_c := hh_I_c.out
        have Sy := hh_Sy.out
        have hB := hh_hB.out
        clear hh_mb_m hh_mb_b hh_mb_c hh_I_m hh_S0 hh_I_b hh_I_c hh_Sy hh_hB
        refine (resize_to I_m g HD.out.1 HD.out.2).mono ?_
        intro e w8 hA
        obtain ⟨val, d_r, d_rc, d_s, d_sc, d_f, d_fc, d_n, d_nc, rfl, hO, bb, hI⟩ := hA.open
        dsimp only
        have I_d := hO.img
        rw [hI] at I_d
        clear hA hO hI
        replace mb_m := cells_below mb_m bb (Array.getElem?_eq_some_iff.1 mb_m).1
        replace mb_b := cells_below mb_b bb (Array.getElem?_eq_some_iff.1 mb_b).1
        replace mb_c := cells_below mb_c bb (Array.getElem?_eq_some_iff.1 mb_c).1
        replace hB := Below.on hB bb
        replace I_m := I_m.below bb
        replace S0 := S0.below bb
        replace I_b := I_b.below bb
        replace I_c := I_c.below bb
        replace Sy := Sy.below bb
        clear bb
        replace mb_m := cells_alloc mb_m (.cells #[.int .i64 MD.guest, .slice d_r MD.root.length d_rc, .slice d_s MD.slots.length d_sc, .slice d_f MD.refs.length d_fc, .slice d_n MD.snaps.length d_nc] 26)
        replace mb_b := cells_alloc mb_b (.cells #[.int .i64 MD.guest, .slice d_r MD.root.length d_rc, .slice d_s MD.slots.length d_sc, .slice d_f MD.refs.length d_fc, .slice d_n MD.snaps.length d_nc] 26)
        replace mb_c := cells_alloc mb_c (.cells #[.int .i64 MD.guest, .slice d_r MD.root.length d_rc, .slice d_s MD.slots.length d_sc, .slice d_f MD.refs.length d_fc, .slice d_n MD.snaps.length d_nc] 26)
        have ba : Below w8.heap.size w8 (w8.alloc (.cells #[.int .i64 MD.guest, .slice d_r MD.root.length d_rc, .slice d_s MD.slots.length d_sc, .slice d_f MD.refs.length d_fc, .slice d_n MD.snaps.length d_nc] 26)) := (Below.refl _ _).alloc (Nat.le_refl _) _
        replace hB := Below.on hB ba
        replace I_m := I_m.below ba
        replace S0 := S0.below ba
        replace I_b := I_b.below ba
        replace I_c := I_c.below ba
        replace Sy := Sy.below ba
        replace I_d := I_d.below ba
        clear ba
        have mb_d : (w8.alloc (.cells #[.int .i64 MD.guest, .slice d_r MD.root.length d_rc, .slice d_s MD.slots.length d_sc, .slice d_f MD.refs.length d_fc, .slice d_n MD.snaps.length d_nc] 26)).heap[w8.heap.size]? = some (.cells #[.int .i64 MD.guest, .slice d_r MD.root.length d_rc, .slice d_s MD.slots.length d_sc, .slice d_f MD.refs.length d_fc, .slice d_n MD.snaps.length d_nc] 26) := World.alloc_heap_new _ _
        rcases Bool.eq_false_or_eq_true (ED == 0) with bED | bED
        · skip
          have nED : (ED != 0) = false := by show (!(ED == 0)) = _; rw [bED]; rfl
          have k0 := KD.out (by simpa using bED)
          have kD : Hid (checkE MD = 0 ∧ allV MD = frR V g.toNat) := ⟨k0.2.2.right, by rw [k0.2.2.all, HP.out.2]⟩
          have fD : Hid (frA V g = frR V g.toNat ∧ frE V g = 0) := by have e : frE V g = 0 := by { unfold frE; rw [if_pos HV.out.1, if_pos ⟨k0.1, k0.2.1⟩] }; exact ⟨by unfold frA; rw [if_pos e], e⟩
          clear k0
          obtain ⟨m0, m1, m2, m3, m4⟩ := five mb_m
          obtain ⟨b0, b1, b2, b3, b4⟩ := five mb_b
          obtain ⟨c0, c1, c2, c3, c4⟩ := five mb_c
          obtain ⟨d0, d1, d2, d3, d4⟩ := five mb_d
          have hh_mb_m := Hid_mkW mb_m
          have hh_mb_b := Hid_mkW mb_b
          have hh_mb_c := Hid_mkW mb_c
          have hh_mb_d := Hid_mkW mb_d
          have hh_I_m := Hid_mkW I_m
          have hh_S0 := Hid_mkW S0
          have hh_I_b := Hid_mkW I_b
          have hh_I_c := Hid_mkW I_c
          have hh_Sy := Hid_mkW Sy
          have hh_I_d := Hid_mkW I_d
          have hh_hB := Hid_mkW hB
          clear mb_m mb_b mb_c mb_d I_m S0 I_b I_c Sy I_d hB
          go_wp2_with fail
          clear m0 m1 m2 m3 m4 b0 b1 b2 b3 b4 c0 c1 c2 c3 c4 d0 d1 d2 d3 d4
          have mb_m := hh_mb_m.out
          have mb_b := hh_mb_b.out
          have mb_c := hh_mb_c.out
          have mb_d := hh_mb_d.out
          have I_m := hh_I_m.out
          have S0 := hh_S0.out
          have I_b := hh_I_b.out
          have I_c := hh_I_c.out
          have Sy := hh_Sy.out
          have I_d := hh_I_d.out
          have hB := hh_hB.out
          clear hh_mb_m hh_mb_b hh_mb_c hh_mb_d hh_I_m hh_S0 hh_I_b hh_I_c hh_Sy hh_I_d hh_hB
          refine (all_is I_d kD.out.1 kD.out.2).mono ?_
          rintro e w9 ⟨⟨ld, rfl, Sd⟩, bb⟩
          replace mb_m := cells_below mb_m bb (Array.getElem?_eq_some_iff.1 mb_m).1
          replace mb_b := cells_below mb_b bb (Array.getElem?_eq_some_iff.1 mb_b).1
          replace mb_c := cells_below mb_c bb (Array.getElem?_eq_some_iff.1 mb_c).1
          replace mb_d := cells_below mb_d bb (Array.getElem?_eq_some_iff.1 mb_d).1
          replace hB := Below.on hB bb
          replace I_m := I_m.below bb
          replace S0 := S0.below bb
          replace I_b := I_b.below bb
          replace I_c := I_c.below bb
          replace Sy := Sy.below bb
          replace I_d := I_d.below bb
          clear bb
          obtain ⟨m0, m1, m2, m3, m4⟩ := five mb_m
          obtain ⟨b0, b1, b2, b3, b4⟩ := five mb_b
          obtain ⟨c0, c1, c2, c3, c4⟩ := five mb_c
          obtain ⟨d0, d1, d2, d3, d4⟩ := five mb_d
          have hh_mb_m := Hid_mkW mb_m
          have hh_mb_b := Hid_mkW mb_b
          have hh_mb_c := Hid_mkW mb_c
          have hh_mb_d := Hid_mkW mb_d
          have hh_I_m := Hid_mkW I_m
          have hh_S0 := Hid_mkW S0
          have hh_I_b := Hid_mkW I_b
          have hh_I_c := Hid_mkW I_c
          have hh_Sy := Hid_mkW Sy
          have hh_I_d := Hid_mkW I_d
          have hh_Sd := Hid_mkW Sd
          have hh_hB := Hid_mkW hB
          clear mb_m mb_b mb_c mb_d I_m S0 I_b I_c Sy I_d Sd hB
          go_wp2_with fail
          clear m0 m1 m2 m3 m4 b0 b1 b2 b3 b4 c0 c1 c2 c3 c4 d0 d1 d2 d3 d4
          have mb_m := hh_mb_m.out
          have mb_b := hh_mb_b.out
          have mb_c := hh_mb_c.out
          have mb_d := hh_mb_d.out
          have I_m := hh_I_m.out
          have S0 := hh_S0.out
          have I_b := hh_I_b.out
          have I_c := hh_I_c.out
          have Sy := hh_Sy.out
          have I_d := hh_I_d.out
          have Sd := hh_Sd.out
          have hB := hh_hB.out
          clear hh_mb_m hh_mb_b hh_mb_c hh_mb_d hh_I_m hh_S0 hh_I_b hh_I_c hh_Sy hh_I_d hh_Sd hh_hB
          refine (fresize_is S0 fD.out.1 fD.out.2).mono ?_
          rintro e w10 ⟨lz, rfl, Sz, bb⟩
          replace mb_m := cells_below mb_m bb (Array.getElem?_eq_some_iff.1 mb_m).1
          replace mb_b := cells_below mb_b bb (Array.getElem?_eq_some_iff.1 mb_b).1
          replace mb_c := cells_below mb_c bb (Array.getElem?_eq_some_iff.1 mb_c).1
          replace mb_d := cells_below mb_d bb (Array.getElem?_eq_some_iff.1 mb_d).1
          replace hB := Below.on hB bb
          replace I_m := I_m.below bb
          replace S0 := S0.below bb
          replace I_b := I_b.below bb
          replace I_c := I_c.below bb
          replace Sy := Sy.below bb
          replace I_d := I_d.below bb
          replace Sd := Sd.below bb
          clear bb
          obtain ⟨m0, m1, m2, m3, m4⟩ := five mb_m
          obtain ⟨b0, b1, b2, b3, b4⟩ := five mb_b
          obtain ⟨c0, c1, c2, c3, c4⟩ := five mb_c
          obtain ⟨d0, d1, d2, d3, d4⟩ := five mb_d
          have hh_mb_m := Hid_mkW mb_m
          have hh_mb_b := Hid_mkW mb_b
          have hh_mb_c := Hid_mkW mb_c
          have hh_mb_d := Hid_mkW mb_d
          have hh_I_m := Hid_mkW I_m
          have hh_S0 := Hid_mkW S0
          have hh_I_b := Hid_mkW I_b
          have hh_I_c := Hid_mkW I_c
          have hh_Sy := Hid_mkW Sy
          have hh_I_d := Hid_mkW I_d
          have hh_Sd := Hid_mkW Sd
          have hh_Sz := Hid_mkW Sz
          have hh_hB := Hid_mkW hB
          clear mb_m mb_b mb_c mb_d I_m S0 I_b I_c Sy I_d Sd Sz hB
          go_wp2_with fail
          clear m0 m1 m2 m3 m4 b0 b1 b2 b3 b4 c0 c1 c2 c3 c4 d0 d1 d2 d3 d4
          have mb_m := hh_mb_m.out
          have mb_b := hh_mb_b.out
          have mb_c := hh_mb_c.out
          have mb_d := hh_mb_d.out
          have I_m := hh_I_m.out
          have S0 := hh_S0.out
          have I_b := hh_I_b.out
          have I_c := hh_I_c.out
          have Sy := hh_Sy.out
          have I_d := hh_I_d.out
          have Sd := hh_Sd.out
          have Sz := hh_Sz.out
          have hB := hh_hB.out
          clear hh_mb_m hh_mb_b hh_mb_c hh_mb_d hh_I_m hh_S0 hh_I_b hh_I_c hh_Sy hh_I_d hh_Sd hh_Sz hh_hB
          refine (writesBegun_any _).mono ?_
          rintro e w11 ⟨rfl, bb⟩
          replace mb_m := cells_below mb_m bb (Array.getElem?_eq_some_iff.1 mb_m).1
          replace mb_b := cells_below mb_b bb (Array.getElem?_eq_some_iff.1 mb_b).1
          replace mb_c := cells_below mb_c bb (Array.getElem?_eq_some_iff.1 mb_c).1
          replace mb_d := cells_below mb_d bb (Array.getElem?_eq_some_iff.1 mb_d).1
          replace hB := Below.on hB bb
          replace I_m := I_m.below bb
          replace S0 := S0.below bb
          replace I_b := I_b.below bb
          replace I_c := I_c.below bb
          replace Sy := Sy.below bb
          replace I_d := I_d.below bb
          replace Sd := Sd.below bb
          replace Sz := Sz.below bb
          clear bb
          obtain ⟨m0, m1, m2, m3, m4⟩ := five mb_m
          obtain ⟨b0, b1, b2, b3, b4⟩ := five mb_b
          obtain ⟨c0, c1, c2, c3, c4⟩ := five mb_c
          obtain ⟨d0, d1, d2, d3, d4⟩ := five mb_d
          have hh_mb_m := Hid_mkW mb_m
          have hh_mb_b := Hid_mkW mb_b
          have hh_mb_c := Hid_mkW mb_c
          have hh_mb_d := Hid_mkW mb_d
          have hh_I_m := Hid_mkW I_m
          have hh_S0 := Hid_mkW S0
          have hh_I_b := Hid_mkW I_b
          have hh_I_c := Hid_mkW I_c
          have hh_Sy := Hid_mkW Sy
          have hh_I_d := Hid_mkW I_d
          have hh_Sd := Hid_mkW Sd
          have hh_Sz := Hid_mkW Sz
          have hh_hB := Hid_mkW hB
          clear mb_m mb_b mb_c mb_d I_m S0 I_b I_c Sy I_d Sd Sz hB
          go_wp2_with fail
          clear m0 m1 m2 m3 m4 b0 b1 b2 b3 b4 c0 c1 c2 c3 c4 d0 d1 d2 d3 d4
          have mb_m := hh_mb_m.out
          have mb_b := hh_mb_b.out
          have mb_c := hh_mb_c.out
          have mb_d := hh_mb_d.out
          have I_m := hh_I_m.out
          have S0 := hh_S0.out
          have I_b := hh_I_b.out
          have I_c := hh_I_c.out
          have Sy := hh_Sy.out
          have I_d := hh_I_d.out
          have Sd := hh_Sd.out
          have Sz := hh_Sz.out
          have hB := hh_hB.out
          clear hh_mb_m hh_mb_b hh_mb_c hh_mb_d hh_I_m hh_S0 hh_I_b hh_I_c hh_Sy hh_I_d hh_Sd hh_Sz hh_hB
          refine (samePages_any Sd Sz).mono ?_
          rintro e w12 ⟨rfl, bb⟩
          replace mb_m := cells_below mb_m bb (Array.getElem?_eq_some_iff.1 mb_m).1
          replace mb_b := cells_below mb_b bb (Array.getElem?_eq_some_iff.1 mb_b).1
          replace mb_c := cells_below mb_c bb (Array.getElem?_eq_some_iff.1 mb_c).1
          replace mb_d := cells_below mb_d bb (Array.getElem?_eq_some_iff.1 mb_d).1
          replace hB := Below.on hB bb
          replace I_m := I_m.below bb
          replace S0 := S0.below bb
          replace I_b := I_b.below bb
          replace I_c := I_c.below bb
          replace Sy := Sy.below bb
          replace I_d := I_d.below bb
          replace Sd := Sd.below bb
          replace Sz := Sz.below bb
          clear bb
          obtain ⟨m0, m1, m2, m3, m4⟩ := five mb_m
          obtain ⟨b0, b1, b2, b3, b4⟩ := five mb_b
          obtain ⟨c0, c1, c2, c3, c4⟩ := five mb_c
          obtain ⟨d0, d1, d2, d3, d4⟩ := five mb_d
          have hh_mb_m := Hid_mkW mb_m
          have hh_mb_b := Hid_mkW mb_b
          have hh_mb_c := Hid_mkW mb_c
          have hh_mb_d := Hid_mkW mb_d
          have hh_I_m := Hid_mkW I_m
          have hh_S0 := Hid_mkW S0
          have hh_I_b := Hid_mkW I_b
          have hh_I_c := Hid_mkW I_c
          have hh_Sy := Hid_mkW Sy
          have hh_I_d := Hid_mkW I_d
          have hh_Sd := Hid_mkW Sd
          have hh_Sz := Hid_mkW Sz
          have hh_hB := Hid_mkW hB
          clear mb_m mb_b mb_c mb_d I_m S0 I_b I_c Sy I_d Sd Sz hB
          go_wp2_with fail
          go_ret
          have hB := hh_hB.out
          exact ⟨rfl, hB⟩
        · skip
          have nED : (ED != 0) = true := by show (!(ED == 0)) = _; rw [bED]; rfl
          have hh_mb_m := Hid_mkW mb_m
          have hh_mb_b := Hid_mkW mb_b
          have hh_mb_c := Hid_mkW mb_c
          have hh_mb_d := Hid_mkW mb_d
          have hh_I_m := Hid_mkW I_m
          have hh_S0 := Hid_mkW S0
          have hh_I_b := Hid_mkW I_b
          have hh_I_c := Hid_mkW I_c
          have hh_Sy := Hid_mkW Sy
          have hh_I_d := Hid_mkW I_d
          have hh_hB := Hid_mkW hB
          clear mb_m mb_b mb_c mb_d I_m S0 I_b I_c Sy I_d hB
          go_wp2_with fail
          have mb_m := hh_mb_m.out
          have mb_b := hh_mb_b.out
          have mb_c := hh_mb_c.out
          have mb_d := hh_mb_d.out
          have I_m := hh_I_m.out
          have S0 := hh_S0.out
          have I_b := hh_I_b.out
          have I_c := hh_I_c.out
          have Sy := hh_Sy.out
          have I_d := hh_I_d.out
          have hB := hh_hB.out
          clear hh_mb_m hh_mb_b hh_mb_c hh_mb_d hh_I_m hh_S0 hh_I_b hh_I_c hh_Sy hh_I_d hh_hB
          refine (writesBegun_any _).mono ?_
          rintro e w9 ⟨rfl, bb⟩
          replace mb_m := cells_below mb_m bb (Array.getElem?_eq_some_iff.1 mb_m).1
          replace mb_b := cells_below mb_b bb (Array.getElem?_eq_some_iff.1 mb_b).1
          replace mb_c := cells_below mb_c bb (Array.getElem?_eq_some_iff.1 mb_c).1
          replace mb_d := cells_below mb_d bb (Array.getElem?_eq_some_iff.1 mb_d).1
          replace hB := Below.on hB bb
          replace I_m := I_m.below bb
          replace S0 := S0.below bb
          replace I_b := I_b.below bb
          replace I_c := I_c.below bb
          replace Sy := Sy.below bb
          replace I_d := I_d.below bb
          clear bb
          have hh_mb_m := Hid_mkW mb_m
          have hh_mb_b := Hid_mkW mb_b
          have hh_mb_c := Hid_mkW mb_c
          have hh_mb_d := Hid_mkW mb_d
          have hh_I_m := Hid_mkW I_m
          have hh_S0 := Hid_mkW S0
          have hh_I_b := Hid_mkW I_b
          have hh_I_c := Hid_mkW I_c
          have hh_Sy := Hid_mkW Sy
          have hh_I_d := Hid_mkW I_d
          have hh_hB := Hid_mkW hB
          clear mb_m mb_b mb_c mb_d I_m S0 I_b I_c Sy I_d hB
          go_wp2_with fail
          go_ret
          have hB := hh_hB.out
          exact ⟨rfl, hB⟩
      · skip
        have nEC : (EC != 0) = true := by show (!(EC == 0)) = _; rw [bEC]; rfl
        obtain ⟨m0, m1, m2, m3, m4⟩ := five mb_m
        have hh_mb_m := Hid_mkW mb_m
        have hh_mb_b := Hid_mkW mb_b
        have hh_mb_c := Hid_mkW mb_c
        have hh_I_m := Hid_mkW I_m
        have hh_S0 := Hid_mkW S0
        have hh_I_b := Hid_mkW I_b
        have hh_I_c := Hid_mkW I_c
        have hh_Sy := Hid_mkW Sy
        have hh_hB := Hid_mkW hB
        clear mb_m mb_b mb_c I_m S0 I_b I_c Sy hB
        go_wp2_with fail
        clear m0 m1 m2 m3 m4
        have mb_m := hh_mb_m.out
        have mb_b := hh_mb_b.out
        have mb_c := hh_mb_c.out
        have I_m := hh_I_m.out
        have S0 := hh_S0.out
        have I_b := hh_I_b.out
        have I_c := hh_I_c.out
        have Sy := hh_Sy.out
        have hB := hh_hB.out
        clear hh_mb_m hh_mb_b hh_mb_c hh_I_m hh_S0 hh_I_b hh_I_c hh_Sy hh_hB
        refine (resize_to I_m g HD.out.1 HD.out.2).mono ?_
        intro e w6 hA
        obtain ⟨val, d_r, d_rc, d_s, d_sc, d_f, d_fc, d_n, d_nc, rfl, hO, bb, hI⟩ := hA.open
        dsimp only
        have I_d := hO.img
        rw [hI] at I_d
        clear hA hO hI
        replace mb_m := cells_below mb_m bb (Array.getElem?_eq_some_iff.1 mb_m).1
        replace mb_b := cells_below mb_b bb (Array.getElem?_eq_some_iff.1 mb_b).1
        replace mb_c := cells_below mb_c bb (Array.getElem?_eq_some_iff.1 mb_c).1
        replace hB := Below.on hB bb
        replace I_m := I_m.below bb
        replace S0 := S0.below bb
        replace I_b := I_b.below bb
        replace I_c := I_c.below bb
        replace Sy := Sy.below bb
        clear bb
        replace mb_m := cells_alloc mb_m (.cells #[.int .i64 MD.guest, .slice d_r MD.root.length d_rc, .slice d_s MD.slots.length d_sc, .slice d_f MD.refs.length d_fc, .slice d_n MD.snaps.length d_nc] 26)
        replace mb_b := cells_alloc mb_b (.cells #[.int .i64 MD.guest, .slice d_r MD.root.length d_rc, .slice d_s MD.slots.length d_sc, .slice d_f MD.refs.length d_fc, .slice d_n MD.snaps.length d_nc] 26)
        replace mb_c := cells_alloc mb_c (.cells #[.int .i64 MD.guest, .slice d_r MD.root.length d_rc, .slice d_s MD.slots.length d_sc, .slice d_f MD.refs.length d_fc, .slice d_n MD.snaps.length d_nc] 26)
        have ba : Below w6.heap.size w6 (w6.alloc (.cells #[.int .i64 MD.guest, .slice d_r MD.root.length d_rc, .slice d_s MD.slots.length d_sc, .slice d_f MD.refs.length d_fc, .slice d_n MD.snaps.length d_nc] 26)) := (Below.refl _ _).alloc (Nat.le_refl _) _
        replace hB := Below.on hB ba
        replace I_m := I_m.below ba
        replace S0 := S0.below ba
        replace I_b := I_b.below ba
        replace I_c := I_c.below ba
        replace Sy := Sy.below ba
        replace I_d := I_d.below ba
        clear ba
        have mb_d : (w6.alloc (.cells #[.int .i64 MD.guest, .slice d_r MD.root.length d_rc, .slice d_s MD.slots.length d_sc, .slice d_f MD.refs.length d_fc, .slice d_n MD.snaps.length d_nc] 26)).heap[w6.heap.size]? = some (.cells #[.int .i64 MD.guest, .slice d_r MD.root.length d_rc, .slice d_s MD.slots.length d_sc, .slice d_f MD.refs.length d_fc, .slice d_n MD.snaps.length d_nc] 26) := World.alloc_heap_new _ _
        rcases Bool.eq_false_or_eq_true (ED == 0) with bED | bED
        · skip
          have nED : (ED != 0) = false := by show (!(ED == 0)) = _; rw [bED]; rfl
          have k0 := KD.out (by simpa using bED)
          have kD : Hid (checkE MD = 0 ∧ allV MD = frR V g.toNat) := ⟨k0.2.2.right, by rw [k0.2.2.all, HP.out.2]⟩
          have fD : Hid (frA V g = frR V g.toNat ∧ frE V g = 0) := by have e : frE V g = 0 := by { unfold frE; rw [if_pos HV.out.1, if_pos ⟨k0.1, k0.2.1⟩] }; exact ⟨by unfold frA; rw [if_pos e], e⟩
          clear k0
          obtain ⟨m0, m1, m2, m3, m4⟩ := five mb_m
          obtain ⟨b0, b1, b2, b3, b4⟩ := five mb_b
          obtain ⟨c0, c1, c2, c3, c4⟩ := five mb_c
          obtain ⟨d0, d1, d2, d3, d4⟩ := five mb_d
          have hh_mb_m := Hid_mkW mb_m
          have hh_mb_b := Hid_mkW mb_b
          have hh_mb_c := Hid_mkW mb_c
          have hh_mb_d := Hid_mkW mb_d
          have hh_I_m := Hid_mkW I_m
          have hh_S0 := Hid_mkW S0
          have hh_I_b := Hid_mkW I_b
          have hh_I_c := Hid_mkW I_c
          have hh_Sy := Hid_mkW Sy
          have hh_I_d := Hid_mkW I_d
          have hh_hB := Hid_mkW hB
          clear mb_m mb_b mb_c mb_d I_m S0 I_b I_c Sy I_d hB
          go_wp2_with fail
          clear m0 m1 m2 m3 m4 b0 b1 b2 b3 b4 c0 c1 c2 c3 c4 d0 d1 d2 d3 d4
          have mb_m := hh_mb_m.out
          have mb_b := hh_mb_b.out
          have mb_c := hh_mb_c.out
          have mb_d := hh_mb_d.out
          have I_m := hh_I_m.out
          have S0 := hh_S0.out
          have I_b := hh_I_b.out
          have I_c := hh_I_c.out
          have Sy := hh_Sy.out
          have I_d := hh_I_d.out
          have hB := hh_hB.out
          clear hh_mb_m hh_mb_b hh_mb_c hh_mb_d hh_I_m hh_S0 hh_I_b hh_I_c hh_Sy hh_I_d hh_hB
          refine (all_is I_d kD.out.1 kD.out.2).mono ?_
          rintro e w7 ⟨⟨ld, rfl, Sd⟩, bb⟩
          replace mb_m := cells_below mb_m bb (Array.getElem?_eq_some_iff.1 mb_m).1
          replace mb_b := cells_below mb_b bb (Array.getElem?_eq_some_iff.1 mb_b).1
          replace mb_c := cells_below mb_c bb (Array.getElem?_eq_some_iff.1 mb_c).1
          replace mb_d := cells_below mb_d bb (Array.getElem?_eq_some_iff.1 mb_d).1
          replace hB := Below.on hB bb
          replace I_m := I_m.below bb
          replace S0 := S0.below bb
          replace I_b := I_b.below bb
          replace I_c := I_c.below bb
          replace Sy := Sy.below bb
          replace I_d := I_d.below bb
          clear bb
          obtain ⟨m0, m1, m2, m3, m4⟩ := five mb_m
          obtain ⟨b0, b1, b2, b3, b4⟩ := five mb_b
          obtain ⟨c0, c1, c2, c3, c4⟩ := five mb_c
          obtain ⟨d0, d1, d2, d3, d4⟩ := five mb_d
          have hh_mb_m := Hid_mkW mb_m
          have hh_mb_b := Hid_mkW mb_b
          have hh_mb_c := Hid_mkW mb_c
          have hh_mb_d := Hid_mkW mb_d
          have hh_I_m := Hid_mkW I_m
          have hh_S0 := Hid_mkW S0
          have hh_I_b := Hid_mkW I_b
          have hh_I_c := Hid_mkW I_c
          have hh_Sy := Hid_mkW Sy
          have hh_I_d := Hid_mkW I_d
          have hh_Sd := Hid_mkW Sd
          have hh_hB := Hid_mkW hB
          clear mb_m mb_b mb_c mb_d I_m S0 I_b I_c Sy I_d Sd hB
          go_wp2_with fail
          clear m0 m1 m2 m3 m4 b0 b1 b2 b3 b4 c0 c1 c2 c3 c4 d0 d1 d2 d3 d4
          have mb_m := hh_mb_m.out
          have mb_b := hh_mb_b.out
          have mb_c := hh_mb_c.out
          have mb_d := hh_mb_d.out
          have I_m := hh_I_m.out
          have S0 := hh_S0.out
          have I_b := hh_I_b.out
          have I_c := hh_I_c.out
          have Sy := hh_Sy.out
          have I_d := hh_I_d.out
          have Sd := hh_Sd.out
          have hB := hh_hB.out
          clear hh_mb_m hh_mb_b hh_mb_c hh_mb_d hh_I_m hh_S0 hh_I_b hh_I_c hh_Sy hh_I_d hh_Sd hh_hB
          refine (fresize_is S0 fD.out.1 fD.out.2).mono ?_
          rintro e w8 ⟨lz, rfl, Sz, bb⟩
          replace mb_m := cells_below mb_m bb (Array.getElem?_eq_some_iff.1 mb_m).1
          replace mb_b := cells_below mb_b bb (Array.getElem?_eq_some_iff.1 mb_b).1
          replace mb_c := cells_below mb_c bb (Array.getElem?_eq_some_iff.1 mb_c).1
          replace mb_d := cells_below mb_d bb (Array.getElem?_eq_some_iff.1 mb_d).1
          replace hB := Below.on hB bb
          replace I_m := I_m.below bb
          replace S0 := S0.below bb
          replace I_b := I_b.below bb
          replace I_c := I_c.below bb
          replace Sy := Sy.below bb
          replace I_d := I_d.below bb
          replace Sd := Sd.below bb
          clear bb
          obtain ⟨m0, m1, m2, m3, m4⟩ := five mb_m
          obtain ⟨b0, b1, b2, b3, b4⟩ := five mb_b
          obtain ⟨c0, c1, c2, c3, c4⟩ := five mb_c
          obtain ⟨d0, d1, d2, d3, d4⟩ := five mb_d
          have hh_mb_m := Hid_mkW mb_m
          have hh_mb_b := Hid_mkW mb_b
          have hh_mb_c := Hid_mkW mb_c
          have hh_mb_d := Hid_mkW mb_d
          have hh_I_m := Hid_mkW I_m
          have hh_S0 := Hid_mkW S0
          have hh_I_b := Hid_mkW I_b
          have hh_I_c := Hid_mkW I_c
          have hh_Sy := Hid_mkW Sy
          have hh_I_d := Hid_mkW I_d
          have hh_Sd := Hid_mkW Sd
          have hh_Sz := Hid_mkW Sz
          have hh_hB := Hid_mkW hB
          clear mb_m mb_b mb_c mb_d I_m S0 I_b I_c Sy I_d Sd Sz hB
          go_wp2_with fail
          clear m0 m1 m2 m3 m4 b0 b1 b2 b3 b4 c0 c1 c2 c3 c4 d0 d1 d2 d3 d4
          have mb_m := hh_mb_m.out
          have mb_b := hh_mb_b.out
          have mb_c := hh_mb_c.out
          have mb_d := hh_mb_d.out
          have I_m := hh_I_m.out
          have S0 := hh_S0.out
          have I_b := hh_I_b.out
          have I_c := hh_I_c.out
          have Sy := hh_Sy.out
          have I_d := hh_I_d.out
          have Sd := hh_Sd.out
          have Sz := hh_Sz.out
          have hB := hh_hB.out
          clear hh_mb_m hh_mb_b hh_mb_c hh_mb_d hh_I_m hh_S0 hh_I_b hh_I_c hh_Sy hh_I_d hh_Sd hh_Sz hh_hB
          refine (writesBegun_any _).mono ?_
          rintro e w9 ⟨rfl, bb⟩
          replace mb_m := cells_below mb_m bb (Array.getElem?_eq_some_iff.1 mb_m).1
          replace mb_b := cells_below mb_b bb (Array.getElem?_eq_some_iff.1 mb_b).1
          replace mb_c := cells_below mb_c bb (Array.getElem?_eq_some_iff.1 mb_c).1
          replace mb_d := cells_below mb_d bb (Array.getElem?_eq_some_iff.1 mb_d).1
          replace hB := Below.on hB bb
          replace I_m := I_m.below bb
          replace S0 := S0.below bb
          replace I_b := I_b.below bb
          replace I_c := I_c.below bb
          replace Sy := Sy.below bb
          replace I_d := I_d.below bb
          replace Sd := Sd.below bb
          replace Sz := Sz.below bb
          clear bb
          obtain ⟨m0, m1, m2, m3, m4⟩ := five mb_m
          obtain ⟨b0, b1, b2, b3, b4⟩ := five mb_b
          obtain ⟨c0, c1, c2, c3, c4⟩ := five mb_c
          obtain ⟨d0, d1, d2, d3, d4⟩ := five mb_d
          have hh_mb_m := Hid_mkW mb_m
          have hh_mb_b := Hid_mkW mb_b
          have hh_mb_c := Hid_mkW mb_c
          have hh_mb_d := Hid_mkW mb_d
          have hh_I_m := Hid_mkW I_m
          have hh_S0 := Hid_mkW S0
          have hh_I_b := Hid_mkW I_b
          have hh_I_c := Hid_mkW I_c
          have hh_Sy := Hid_mkW Sy
          have hh_I_d := Hid_mkW I_d
          have hh_Sd := Hid_mkW Sd
          have hh_Sz := Hid_mkW Sz
          have hh_hB := Hid_mkW hB
          clear mb_m mb_b mb_c mb_d I_m S0 I_b I_c Sy I_d Sd Sz hB
          go_wp2_with fail
          clear m0 m1 m2 m3 m4 b0 b1 b2 b3 b4 c0 c1 c2 c3 c4 d0 d1 d2 d3 d4
          have mb_m := hh_mb_m.out
          have mb_b := hh_mb_b.out
          have mb_c := hh_mb_c.out
          have mb_d := hh_mb_d.out
          have I_m := hh_I_m.out
          have S0 := hh_S0.out
          have I_b := hh_I_b.out
          have I_c := hh_I_c.out
          have Sy := hh_Sy.out
          have I_d := hh_I_d.out
          have Sd := hh_Sd.out
          have Sz := hh_Sz.out
          have hB := hh_hB.out
          clear hh_mb_m hh_mb_b hh_mb_c hh_mb_d hh_I_m hh_S0 hh_I_b hh_I_c hh_Sy hh_I_d hh_Sd hh_Sz hh_hB
          refine (samePages_any Sd Sz).mono ?_
          rintro e w10 ⟨rfl, bb⟩
          replace mb_m := cells_below mb_m bb (Array.getElem?_eq_some_iff.1 mb_m).1
          replace mb_b := cells_below mb_b bb (Array.getElem?_eq_some_iff.1 mb_b).1
          replace mb_c := cells_below mb_c bb (Array.getElem?_eq_some_iff.1 mb_c).1
          replace mb_d := cells_below mb_d bb (Array.getElem?_eq_some_iff.1 mb_d).1
          replace hB := Below.on hB bb
          replace I_m := I_m.below bb
          replace S0 := S0.below bb
          replace I_b := I_b.below bb
          replace I_c := I_c.below bb
          replace Sy := Sy.below bb
          replace I_d := I_d.below bb
          replace Sd := Sd.below bb
          replace Sz := Sz.below bb
          clear bb
          obtain ⟨m0, m1, m2, m3, m4⟩ := five mb_m
          obtain ⟨b0, b1, b2, b3, b4⟩ := five mb_b
          obtain ⟨c0, c1, c2, c3, c4⟩ := five mb_c
          obtain ⟨d0, d1, d2, d3, d4⟩ := five mb_d
          have hh_mb_m := Hid_mkW mb_m
          have hh_mb_b := Hid_mkW mb_b
          have hh_mb_c := Hid_mkW mb_c
          have hh_mb_d := Hid_mkW mb_d
          have hh_I_m := Hid_mkW I_m
          have hh_S0 := Hid_mkW S0
          have hh_I_b := Hid_mkW I_b
          have hh_I_c := Hid_mkW I_c
          have hh_Sy := Hid_mkW Sy
          have hh_I_d := Hid_mkW I_d
          have hh_Sd := Hid_mkW Sd
          have hh_Sz := Hid_mkW Sz
          have hh_hB := Hid_mkW hB
          clear mb_m mb_b mb_c mb_d I_m S0 I_b I_c Sy I_d Sd Sz hB
          go_wp2_with fail
          go_ret
          have hB := hh_hB.out
          exact ⟨rfl, hB⟩
        · skip
          have nED : (ED != 0) = true := by show (!(ED == 0)) = _; rw [bED]; rfl
          have hh_mb_m := Hid_mkW mb_m
          have hh_mb_b := Hid_mkW mb_b
          have hh_mb_c := Hid_mkW mb_c
          have hh_mb_d := Hid_mkW mb_d
          have hh_I_m := Hid_mkW I_m
          have hh_S0 := Hid_mkW S0
          have hh_I_b := Hid_mkW I_b
          have hh_I_c := Hid_mkW I_c
          have hh_Sy := Hid_mkW Sy
          have hh_I_d := Hid_mkW I_d
          have hh_hB := Hid_mkW hB
          clear mb_m mb_b mb_c mb_d I_m S0 I_b I_c Sy I_d hB
          go_wp2_with fail
          have mb_m := hh_mb_m.out
          have mb_b := hh_mb_b.out
          have mb_c := hh_mb_c.out
          have mb_d := hh_mb_d.out
          have I_m := hh_I_m.out
          have S0 := hh_S0.out
          have I_b := hh_I_b.out
          have I_c := hh_I_c.out
          have Sy := hh_Sy.out
          have I_d := hh_I_d.out
          have hB := hh_hB.out
          clear hh_mb_m hh_mb_b hh_mb_c hh_mb_d hh_I_m hh_S0 hh_I_b hh_I_c hh_Sy hh_I_d hh_hB
          refine (writesBegun_any _).mono ?_
          rintro e w7 ⟨rfl, bb⟩
          replace mb_m := cells_below mb_m bb (Array.getElem?_eq_some_iff.1 mb_m).1
          replace mb_b := cells_below mb_b bb (Array.getElem?_eq_some_iff.1 mb_b).1
          replace mb_c := cells_below mb_c bb (Array.getElem?_eq_some_iff.1 mb_c).1
          replace mb_d := cells_below mb_d bb (Array.getElem?_eq_some_iff.1 mb_d).1
          replace hB := Below.on hB bb
          replace I_m := I_m.below bb
          replace S0 := S0.below bb
          replace I_b := I_b.below bb
          replace I_c := I_c.below bb
          replace Sy := Sy.below bb
          replace I_d := I_d.below bb
          clear bb
          have hh_mb_m := Hid_mkW mb_m
          have hh_mb_b := Hid_mkW mb_b
          have hh_mb_c := Hid_mkW mb_c
          have hh_mb_d := Hid_mkW mb_d
          have hh_I_m := Hid_mkW I_m
          have hh_S0 := Hid_mkW S0
          have hh_I_b := Hid_mkW I_b
          have hh_I_c := Hid_mkW I_c
          have hh_Sy := Hid_mkW Sy
          have hh_I_d := Hid_mkW I_d
          have hh_hB := Hid_mkW hB
          clear mb_m mb_b mb_c mb_d I_m S0 I_b I_c Sy I_d hB
          go_wp2_with fail
          go_ret
          have hB := hh_hB.out
          exact ⟨rfl, hB⟩

theorem wtrue_is {v : Value} {m : ImgD} {w : World} (h : Img w v m) (n : Int) (page : ByteArray) (g : Int) : Calls Try.prog 4 #[v, .int .i64 n, .string page, .int .i64 g] w fun r w' => r = .returned (.bool true) ∧ Below w.heap.size w w' := by
  have h' := h
  obtain ⟨ra, rc, sa, sc, fa, fc, na, nc, rfl, h1, h2, h3, h4⟩ := h.parts
  by_cases hP : checkE m = 0
  · exact wtrue_at ra rc sa sc fa fc na nc m n page g w h' _ ⟨hP, rfl⟩
  · exact wtrue_bad ra rc sa sc fa fc na nc m n page g w h' _ _ ⟨rfl, rfl⟩ (by simpa using hP)
end Go.Proofs.Ytehleeibgkpjmad
