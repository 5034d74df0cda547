/- Texts joined: PkQ2. -/
import Derived.Test.YtehleeibgkpjmafGreatMovePacksJ13
import Derived.Test.YtehleeibgkpjmafGreatMovePacksJ8
set_option linter.unusedVariables false
set_option linter.unusedSimpArgs false
/- The document's PackOf. -/
namespace Go.Proofs.YtehleeibgkpjmafGreat
open Go.RowKit Go.Shelf
set_option maxRecDepth 20000
set_option linter.unusedVariables false
set_option linter.unusedSimpArgs false

theorem OwR.belowP {V X X' : World} {D : Nat} {p : ImgD} (h : OwR V X D p) (hb : Below X.heap.size X X') : OwR V X' D p := by
  obtain ⟨val, hX, hbox, hfar⟩ := h.ex
  exact ⟨⟨val, hX.below hb, (hb.block D (Array.getElem?_eq_some_iff.1 hbox).1).trans hbox, hfar⟩, h.ge, h.bel.trans (hb.mono h.bel.size)⟩
theorem hw6_pk {w1 wr w6 : World} {D : Nat} {val : Nm → Value} {p : ImgD} {o6 : Obj} {v : Value} {ys : List Int} (hX : OX wr w1.heap.size val p) (bl : Below w1.heap.size w1 wr) (hbox : wr.heap[D]? = some (.cells #[.int .i64 p.guest, val .root, val .slots, val .refs, val .snaps] 27)) (b6 : Below (wr.alloc o6).heap.size (wr.alloc o6) w6) (r1 : w6.ownsRow ((wr.alloc o6).heap.size + 1) 3 1 v ys.length (ints ys)) :
    OX w6 w1.heap.size val p ∧ Below w1.heap.size w1 w6 ∧ w6.heap[D]? = some (.cells #[.int .i64 p.guest, val .root, val .slots, val .refs, val .snaps] 27) ∧ (∀ a, LiveX p a → (val a).ownBlock ≠ some wr.heap.size) ∧ v.ownBlock ≠ some wr.heap.size ∧ (∀ g, v.ownBlock = some g → wr.heap.size ≤ g) ∧ v.ownBlock ≠ some D ∧ wr.heap.size + 1 ≤ w6.heap.size := by
  have hz : (wr.alloc o6).heap.size = wr.heap.size + 1 := by simp
  have hDl := (Array.getElem?_eq_some_iff.1 hbox).1
  have hbl := bl.size
  have h6 := b6.size
  have hk : ∀ q, q < wr.heap.size → w6.heap[q]? = wr.heap[q]? := fun q hq => (b6.block q (by omega)).trans (Below.heap_alloc _ _ q hq)
  have hge : ∀ g, v.ownBlock = some g → wr.heap.size + 2 ≤ g := fun g e => by have := (r1.lt g e).1; omega
  refine ⟨hX.keep (fun g _ hg => hk g hg), ?_, (hk D hDl).trans hbox, hX.lt (Nat.le_refl _), fun e => by have := hge _ e; omega, fun g e => by have := hge _ e; omega, fun e => by have := hge _ e; omega, by omega⟩
  exact (bl.alloc hbl _).trans (b6.mono (by omega))
set_option maxHeartbeats 64000000 in
theorem packOf_at (ra : Option Addr) (rc : Nat) (sa : Option Addr) (sc : Nat) (fa : Option Addr) (fc : Nat) (na : Option Addr) (nc : Nat) (m : ImgD) (w : World) (h : Img w (.agg #[.int .i64 m.guest, .slice ra m.root.length rc, .slice sa m.slots.length sc, .slice fa m.refs.length fc, .slice na m.snaps.length nc]) m) (hC : checkE m = 0) (R : List Int) (hR : m.root.map (ren m.slots) = R) :
    Calls Tryz.prog 19 #[.agg #[.int .i64 m.guest, .slice ra m.root.length rc, .slice sa m.slots.length sc, .slice fa m.refs.length fc, .slice na m.snaps.length nc]] w fun r w' => ∃ val, r = .returned (imgV m.guest val) ∧ OX w' w.heap.size val (packD m) ∧ Below w.heap.size w w' := by
  have b0 : Below w.heap.size w ((w.alloc (.cells #[.int .i64 m.guest, .slice ra m.root.length rc, .slice sa m.slots.length sc, .slice fa m.refs.length fc, .slice na m.snaps.length nc] 27)).alloc (.cells #[.int .i64 0, .slice none 0 0, .slice none 0 0, .slice none 0 0, .slice none 0 0] 27)) := ((Below.refl _ _).alloc (Nat.le_refl _) _).alloc (by simp) _
  have m0 : ((w.alloc (.cells #[.int .i64 m.guest, .slice ra m.root.length rc, .slice sa m.slots.length sc, .slice fa m.refs.length fc, .slice na m.snaps.length nc] 27)).alloc (.cells #[.int .i64 0, .slice none 0 0, .slice none 0 0, .slice none 0 0, .slice none 0 0] 27)).heap[w.heap.size]? = some (.cells #[.int .i64 m.guest, .slice ra m.root.length rc, .slice sa m.slots.length sc, .slice fa m.refs.length fc, .slice na m.snaps.length nc] 27) := cells_alloc (World.alloc_heap_new _ _) _
  have m1 : ((w.alloc (.cells #[.int .i64 m.guest, .slice ra m.root.length rc, .slice sa m.slots.length sc, .slice fa m.refs.length fc, .slice na m.snaps.length nc] 27)).alloc (.cells #[.int .i64 0, .slice none 0 0, .slice none 0 0, .slice none 0 0, .slice none 0 0] 27)).heap[w.heap.size + 1]? = some (.cells #[.int .i64 0, .slice none 0 0, .slice none 0 0, .slice none 0 0, .slice none 0 0] 27) := by have := World.alloc_heap_new (w.alloc (.cells #[.int .i64 m.guest, .slice ra m.root.length rc, .slice sa m.slots.length sc, .slice fa m.refs.length fc, .slice na m.snaps.length nc] 27)) (.cells #[.int .i64 0, .slice none 0 0, .slice none 0 0, .slice none 0 0, .slice none 0 0] 27); simpa using this
  have I1 := h.below b0
  have hsz : w.heap.size + 1 < ((w.alloc (.cells #[.int .i64 m.guest, .slice ra m.root.length rc, .slice sa m.slots.length sc, .slice fa m.refs.length fc, .slice na m.snaps.length nc] 27)).alloc (.cells #[.int .i64 0, .slice none 0 0, .slice none 0 0, .slice none 0 0, .slice none 0 0] 27)).heap.size := by simp
  have hs := checkE_shape hC
  have h40 := (slotsE_parts (shapeE_zero hs).2.1).2
  have h1s := (slotsE_parts (shapeE_zero hs).2.1).1
  have hgt := guest_ok hs
  have hrt := root_ok hs
  have hr40 : m.root.length ≤ 40 := by omega
  have hrf : m.refs.length = m.slots.length := (shapeE_zero hs).2.2.1
  have hn3 := (shapeE_zero hs).1
  have HP : Hid (checkE m = 0 ∧ shapeE m = 0 ∧ m.root.map (ren m.slots) = R) := ⟨hC, hs, hR⟩
  have HRt : Hid (∀ e ∈ m.root, EntP m.slots e) := fun e he => rootE_EntP (List.all_eq_true.1 hrt.2 e he)
  have HRf : Hid (m.refs.length = m.slots.length) := hrf
  clear h hC hs hR hgt hrt hrf
  go_enter Tryz.func19, Tryz.ntmps19
  go_upto_region 1 with fail
  obtain ⟨w1, hw1⟩ : ∃ X, ((w.alloc (.cells #[.int .i64 m.guest, .slice ra m.root.length rc, .slice sa m.slots.length sc, .slice fa m.refs.length fc, .slice na m.snaps.length nc] 27)).alloc (.cells #[.int .i64 0, .slice none 0 0, .slice none 0 0, .slice none 0 0, .slice none 0 0] 27)) = X := ⟨_, rfl⟩
  rw [hw1] at b0 m0 m1 I1 hsz ⊢
  clear hw1
  have HAr : Hid (∀ W, Below w1.heap.size w1 W → Calls Tryz.prog 47 #[.agg #[.int .i64 m.guest, .slice ra m.root.length rc, .slice sa m.slots.length sc, .slice fa m.refs.length fc, .slice na m.snaps.length nc], .slice ra m.root.length rc] W fun r w' => ∃ va, r = .returned va ∧ w'.ownsRow (W.heap.size + 1) 3 1 va R.length (ints R) ∧ Below W.heap.size W w') := fun W hW => allRen_is (I1.below hW) (I1.four.1.below hW) h40 hr40 HRt.out HP.out.2.2
  have MZ : PkM w1 w1 R none none none none := PkM.zero _ _
  have hm1 : ∀ w, (Instr.makeSlice 24 (.int .i64 1) (.int .i64 1)).run Tryz.prog w = .ok (.slice (some ⟨w.heap.size, 0, none⟩) 1 1) (w.alloc (.cells #[.int .i64 0, .string ⟨#[]⟩, .slice none 0 0] 61)) := fun _ => by kernel_rfl
  have hm2 : ∀ w, (Instr.makeSlice 23 (.int .i64 1) (.int .i64 1)).run Tryz.prog w = .ok (.slice (some ⟨w.heap.size, 0, none⟩) 1 1) (w.alloc (.cells #[.int .i64 0] 3)) := fun _ => by kernel_rfl
  go_cut [3] from 8 (fun s wx => ∃ D : Nat, s = .pointer (some ⟨D, 0, none⟩) ∧ Hid (OwR w1 wx D ⟨m.guest, R, [(0, ⟨#[]⟩, [])], [0], []⟩))
  case first =>
    refine wp_region_held_drew (S := (fun X : World => X.heap[w.heap.size]? = some (.cells #[.int .i64 m.guest, .slice ra m.root.length rc, .slice sa m.slots.length sc, .slice fa m.refs.length fc, .slice na m.snaps.length nc] 27))) (by kernel_rfl) m0 (fun hHeld => ?_)
    refine wpAnyH_take (i := 0) (v := .pointer (some ⟨w.heap.size, 0, none⟩)) rfl (by kernel_rfl) (by kernel_rfl) (by kernel_rfl) (fun _ _ _ h => h) (Or.inl ⟨by rfl, fun w' hSw => by obtain ⟨j0, j1, j2, j3, j4⟩ := five hSw; go_simp⟩) hHeld ?_
    simp only [Act.put, List.getElem_toArray, List.getElem_cons_succ, List.getElem_cons_zero, List.setIfInBounds_toArray, List.set_cons_zero, List.set_cons_succ]
    refine wpAnyH_take (i := 1) (v := .int .i64 m.guest) rfl (by kernel_rfl) (by kernel_rfl) (by kernel_rfl) (fun _ _ _ h => h) (Or.inl ⟨by rfl, fun w' hSw => by obtain ⟨j0, j1, j2, j3, j4⟩ := five hSw; go_simp⟩) hHeld ?_
    simp only [Act.put, List.getElem_toArray, List.getElem_cons_succ, List.getElem_cons_zero, List.setIfInBounds_toArray, List.set_cons_zero, List.set_cons_succ]
    refine wpAnyH_take (i := 2) (v := .agg #[.int .i64 m.guest, .slice ra m.root.length rc, .slice sa m.slots.length sc, .slice fa m.refs.length fc, .slice na m.snaps.length nc]) rfl (by kernel_rfl) (by kernel_rfl) (by kernel_rfl) (fun _ _ _ h => h) (Or.inl ⟨by rfl, fun w' hSw => by obtain ⟨j0, j1, j2, j3, j4⟩ := five hSw; go_simp⟩) hHeld ?_
    simp only [Act.put, List.getElem_toArray, List.getElem_cons_succ, List.getElem_cons_zero, List.setIfInBounds_toArray, List.set_cons_zero, List.set_cons_succ]
    refine wpAnyH_take (i := 3) (v := .pointer (some ⟨w.heap.size, 1, none⟩)) rfl (by kernel_rfl) (by kernel_rfl) (by kernel_rfl) (fun _ _ _ h => h) (Or.inl ⟨by rfl, fun w' hSw => by obtain ⟨j0, j1, j2, j3, j4⟩ := five hSw; go_simp⟩) hHeld ?_
    simp only [Act.put, List.getElem_toArray, List.getElem_cons_succ, List.getElem_cons_zero, List.setIfInBounds_toArray, List.set_cons_zero, List.set_cons_succ]
    refine wpAnyH_take (i := 4) (v := .slice ra m.root.length rc) rfl (by kernel_rfl) (by kernel_rfl) (by kernel_rfl) (fun _ _ _ h => h) (Or.inl ⟨by rfl, fun w' hSw => by obtain ⟨j0, j1, j2, j3, j4⟩ := five hSw; go_simp⟩) hHeld ?_
    simp only [Act.put, List.getElem_toArray, List.getElem_cons_succ, List.getElem_cons_zero, List.setIfInBounds_toArray, List.set_cons_zero, List.set_cons_succ]
    refine wpAnyH_ready (rs := [5, 6, 7, 9]) (by kernel_rfl) (by simp) ?_
    refine AllReadyH.cons rfl (fun K hK => ?_) (AllReadyH.cons rfl (fun K hK => ?_) (AllReadyH.cons rfl (fun K hK => ?_) (AllReadyH.cons rfl (fun K hK => ?_) AllReadyH.nil)))
    · clear hHeld
      simp only [Act.put, List.getElem_toArray, List.getElem_cons_succ, List.getElem_cons_zero, List.setIfInBounds_toArray, List.set_cons_zero, List.set_cons_succ]
      rw [if_pos (by rfl)]
      go_wp2_with (go_at_call 47; refine (HAr.out _ (to_drew MZ.bel)).mono ?_; rintro e9 X1 ⟨va1, rfl, hr1, hb1⟩; obtain ⟨ca1, cc1, rfl⟩ := row_slice hr1)
      replace hb1 := below_drew hb1
      have M1 : PkM w1 X1 R (some (.slice ca1 R.length cc1)) none none none := MZ.addC hb1 hr1
      clear hb1 hr1
      refine hK.out _ _ (cells_below m0 M1.bel (by omega)) (fun hHeld => ?_)
      clear hK K
      try simp only [Act.put, List.getElem_toArray, List.getElem_cons_succ, List.getElem_cons_zero, List.setIfInBounds_toArray, List.set_cons_zero, List.set_cons_succ]
      refine wpAnyH_ready (rs := [6, 7, 9]) (by kernel_rfl) (by simp) ?_
      refine AllReadyH.cons rfl (fun K hK => ?_) (AllReadyH.cons rfl (fun K hK => ?_) (AllReadyH.cons rfl (fun K hK => ?_) AllReadyH.nil))
      · clear hHeld
        simp only [Act.put, List.getElem_toArray, List.getElem_cons_succ, List.getElem_cons_zero, List.setIfInBounds_toArray, List.set_cons_zero, List.set_cons_succ]
        rw [if_pos (by rfl)]
        go_simp
        obtain ⟨X2, hX⟩ : ∃ Z, (X1.alloc (.cells #[.int .i64 0, .string ⟨#[]⟩, .slice none 0 0] 61)) = Z := ⟨_, rfl⟩
        have M2 : PkM w1 X2 R (some (.slice ca1 R.length cc1)) (some (X1.heap.size)) none none := by rw [← hX]; exact M1.addS
        rw [hX]
        clear hX
        refine hK.out _ _ (cells_below m0 M2.bel (by omega)) (fun hHeld => ?_)
        clear hK K
        try simp only [Act.put, List.getElem_toArray, List.getElem_cons_succ, List.getElem_cons_zero, List.setIfInBounds_toArray, List.set_cons_zero, List.set_cons_succ]
        refine wpAnyH_ready (rs := [7, 9]) (by kernel_rfl) (by simp) ?_
        refine AllReadyH.cons rfl (fun K hK => ?_) (AllReadyH.cons rfl (fun K hK => ?_) AllReadyH.nil)
        · clear hHeld
          simp only [Act.put, List.getElem_toArray, List.getElem_cons_succ, List.getElem_cons_zero, List.setIfInBounds_toArray, List.set_cons_zero, List.set_cons_succ]
          rw [if_pos (by rfl)]
          go_simp
          obtain ⟨X3, hX⟩ : ∃ Z, (X2.alloc (.cells #[.int .i64 0] 3)) = Z := ⟨_, rfl⟩
          have M3 : PkM w1 X3 R (some (.slice ca1 R.length cc1)) (some (X1.heap.size)) (some (X2.heap.size)) none := by rw [← hX]; exact M2.addF
          rw [hX]
          clear hX
          refine hK.out _ _ (cells_below m0 M3.bel (by omega)) (fun hHeld => ?_)
          clear hK K
          try simp only [Act.put, List.getElem_toArray, List.getElem_cons_succ, List.getElem_cons_zero, List.setIfInBounds_toArray, List.set_cons_zero, List.set_cons_succ]
          refine wpAnyH_take (i := 8) (v := .agg #[.int .i64 m.guest, (.slice ca1 R.length cc1), .slice (some ⟨X1.heap.size, 0, none⟩) 1 1, .slice (some ⟨X2.heap.size, 0, none⟩) 1 1, .slice none 0 0]) rfl (by kernel_rfl) (by kernel_rfl) (by kernel_rfl) (fun _ _ _ h => h) (Or.inl ⟨by rfl, fun w' hSw => by obtain ⟨j0, j1, j2, j3, j4⟩ := five hSw; go_simp⟩) hHeld ?_
          simp only [Act.put, List.getElem_toArray, List.getElem_cons_succ, List.getElem_cons_zero, List.setIfInBounds_toArray, List.set_cons_zero, List.set_cons_succ]
          refine wpAnyH_ready (rs := [9]) (by kernel_rfl) (by simp) ?_
          refine AllReadyH.cons rfl (fun K hK => ?_) AllReadyH.nil
          · clear hHeld
            simp only [Act.put, List.getElem_toArray, List.getElem_cons_succ, List.getElem_cons_zero, List.setIfInBounds_toArray, List.set_cons_zero, List.set_cons_succ]
            rw [if_pos (by rfl)]
            go_simp
            obtain ⟨X4, hX⟩ : ∃ Z, (X3.alloc (.cells #[.int .i64 0, .slice none 0 0, .slice none 0 0, .slice none 0 0, .slice none 0 0] 27)) = Z := ⟨_, rfl⟩
            have M4 : PkM w1 X4 R (some (.slice ca1 R.length cc1)) (some (X1.heap.size)) (some (X2.heap.size)) (some (X3.heap.size)) := by rw [← hX]; exact M3.addD
            rw [hX]
            clear hX
            refine hK.out _ _ (cells_below m0 M4.bel (by omega)) (fun hHeld => ?_)
            clear hK K
            try simp only [Act.put, List.getElem_toArray, List.getElem_cons_succ, List.getElem_cons_zero, List.setIfInBounds_toArray, List.set_cons_zero, List.set_cons_succ]
            refine wpAnyH_ready (rs := [10]) (by kernel_rfl) (by simp) ?_
            refine AllReadyH.cons rfl (fun K hK => ?_) AllReadyH.nil
            · clear hHeld
              simp only [Act.put, List.getElem_toArray, List.getElem_cons_succ, List.getElem_cons_zero, List.setIfInBounds_toArray, List.set_cons_zero, List.set_cons_succ]
              rw [if_pos (by rfl)]
              have zd := (M4.d _ rfl).2
              obtain ⟨z0, z1, z2, z3, z4⟩ := five zd
              have y0 := cells_frozen zd 0
              have y1 := cells_frozen zd 1
              have y2 := cells_frozen zd 2
              have y3 := cells_frozen zd 3
              have y4 := cells_frozen zd 4
              go_simp
              have hN := pk_first m.guest M4
              have hDw : w.heap.size ≠ X3.heap.size := by have := (M4.d _ rfl).1; omega
              refine hK.out _ _ ((five_farU _ _ _ _ _ hDw).trans (cells_below m0 M4.bel (by omega))) (fun hHeld => ?_)
              clear hK K hHeld z0 z1 z2 z3 z4 y0 y1 y2 y3 y4
              refine wpAnyH_done (by kernel_rfl) ?_ _
              go_wp2_with fail
              go_meet
              exact ⟨_, rfl, hN⟩
        · clear hHeld
          simp only [Act.put, List.getElem_toArray, List.getElem_cons_succ, List.getElem_cons_zero, List.setIfInBounds_toArray, List.set_cons_zero, List.set_cons_succ]
          rw [if_pos (by rfl)]
          go_simp
          obtain ⟨X6, hX⟩ : ∃ Z, (X2.alloc (.cells #[.int .i64 0, .slice none 0 0, .slice none 0 0, .slice none 0 0, .slice none 0 0] 27)) = Z := ⟨_, rfl⟩
          have M6 : PkM w1 X6 R (some (.slice ca1 R.length cc1)) (some (X1.heap.size)) none (some (X2.heap.size)) := by rw [← hX]; exact M2.addD
          rw [hX]
          clear hX
          refine hK.out _ _ (cells_below m0 M6.bel (by omega)) (fun hHeld => ?_)
          clear hK K
          try simp only [Act.put, List.getElem_toArray, List.getElem_cons_succ, List.getElem_cons_zero, List.setIfInBounds_toArray, List.set_cons_zero, List.set_cons_succ]
          refine wpAnyH_ready (rs := [7]) (by kernel_rfl) (by simp) ?_
          refine AllReadyH.cons rfl (fun K hK => ?_) AllReadyH.nil
          · clear hHeld
            simp only [Act.put, List.getElem_toArray, List.getElem_cons_succ, List.getElem_cons_zero, List.setIfInBounds_toArray, List.set_cons_zero, List.set_cons_succ]
            rw [if_pos (by rfl)]
            go_simp
            obtain ⟨X7, hX⟩ : ∃ Z, (X6.alloc (.cells #[.int .i64 0] 3)) = Z := ⟨_, rfl⟩
            have M7 : PkM w1 X7 R (some (.slice ca1 R.length cc1)) (some (X1.heap.size)) (some (X6.heap.size)) (some (X2.heap.size)) := by rw [← hX]; exact M6.addF
            rw [hX]
            clear hX
            refine hK.out _ _ (cells_below m0 M7.bel (by omega)) (fun hHeld => ?_)
            clear hK K
            try simp only [Act.put, List.getElem_toArray, List.getElem_cons_succ, List.getElem_cons_zero, List.setIfInBounds_toArray, List.set_cons_zero, List.set_cons_succ]
            refine wpAnyH_take (i := 8) (v := .agg #[.int .i64 m.guest, (.slice ca1 R.length cc1), .slice (some ⟨X1.heap.size, 0, none⟩) 1 1, .slice (some ⟨X6.heap.size, 0, none⟩) 1 1, .slice none 0 0]) rfl (by kernel_rfl) (by kernel_rfl) (by kernel_rfl) (fun _ _ _ h => h) (Or.inl ⟨by rfl, fun w' hSw => by obtain ⟨j0, j1, j2, j3, j4⟩ := five hSw; go_simp⟩) hHeld ?_
            simp only [Act.put, List.getElem_toArray, List.getElem_cons_succ, List.getElem_cons_zero, List.setIfInBounds_toArray, List.set_cons_zero, List.set_cons_succ]
            refine wpAnyH_ready (rs := [10]) (by kernel_rfl) (by simp) ?_
            refine AllReadyH.cons rfl (fun K hK => ?_) AllReadyH.nil
            · clear hHeld
              simp only [Act.put, List.getElem_toArray, List.getElem_cons_succ, List.getElem_cons_zero, List.setIfInBounds_toArray, List.set_cons_zero, List.set_cons_succ]
              rw [if_pos (by rfl)]
              have zd := (M7.d _ rfl).2
              obtain ⟨z0, z1, z2, z3, z4⟩ := five zd
              have y0 := cells_frozen zd 0
              have y1 := cells_frozen zd 1
              have y2 := cells_frozen zd 2
              have y3 := cells_frozen zd 3
              have y4 := cells_frozen zd 4
              go_simp
              have hN := pk_first m.guest M7
              have hDw : w.heap.size ≠ X2.heap.size := by have := (M7.d _ rfl).1; omega
              refine hK.out _ _ ((five_farU _ _ _ _ _ hDw).trans (cells_below m0 M7.bel (by omega))) (fun hHeld => ?_)
              clear hK K hHeld z0 z1 z2 z3 z4 y0 y1 y2 y3 y4
              refine wpAnyH_done (by kernel_rfl) ?_ _
              go_wp2_with fail
              go_meet
              exact ⟨_, rfl, hN⟩
      · clear hHeld
        simp only [Act.put, List.getElem_toArray, List.getElem_cons_succ, List.getElem_cons_zero, List.setIfInBounds_toArray, List.set_cons_zero, List.set_cons_succ]
        rw [if_pos (by rfl)]
        go_simp
        obtain ⟨X9, hX⟩ : ∃ Z, (X1.alloc (.cells #[.int .i64 0] 3)) = Z := ⟨_, rfl⟩
        have M9 : PkM w1 X9 R (some (.slice ca1 R.length cc1)) none (some (X1.heap.size)) none := by rw [← hX]; exact M1.addF
        rw [hX]
        clear hX
        refine hK.out _ _ (cells_below m0 M9.bel (by omega)) (fun hHeld => ?_)
        clear hK K
        try simp only [Act.put, List.getElem_toArray, List.getElem_cons_succ, List.getElem_cons_zero, List.setIfInBounds_toArray, List.set_cons_zero, List.set_cons_succ]
        refine wpAnyH_ready (rs := [6, 9]) (by kernel_rfl) (by simp) ?_
        refine AllReadyH.cons rfl (fun K hK => ?_) (AllReadyH.cons rfl (fun K hK => ?_) AllReadyH.nil)
        · clear hHeld
          simp only [Act.put, List.getElem_toArray, List.getElem_cons_succ, List.getElem_cons_zero, List.setIfInBounds_toArray, List.set_cons_zero, List.set_cons_succ]
          rw [if_pos (by rfl)]
          go_simp
          obtain ⟨X10, hX⟩ : ∃ Z, (X9.alloc (.cells #[.int .i64 0, .string ⟨#[]⟩, .slice none 0 0] 61)) = Z := ⟨_, rfl⟩
          have M10 : PkM w1 X10 R (some (.slice ca1 R.length cc1)) (some (X9.heap.size)) (some (X1.heap.size)) none := by rw [← hX]; exact M9.addS
          rw [hX]
          clear hX
          refine hK.out _ _ (cells_below m0 M10.bel (by omega)) (fun hHeld => ?_)
          clear hK K
          try simp only [Act.put, List.getElem_toArray, List.getElem_cons_succ, List.getElem_cons_zero, List.setIfInBounds_toArray, List.set_cons_zero, List.set_cons_succ]
          refine wpAnyH_take (i := 8) (v := .agg #[.int .i64 m.guest, (.slice ca1 R.length cc1), .slice (some ⟨X9.heap.size, 0, none⟩) 1 1, .slice (some ⟨X1.heap.size, 0, none⟩) 1 1, .slice none 0 0]) rfl (by kernel_rfl) (by kernel_rfl) (by kernel_rfl) (fun _ _ _ h => h) (Or.inl ⟨by rfl, fun w' hSw => by obtain ⟨j0, j1, j2, j3, j4⟩ := five hSw; go_simp⟩) hHeld ?_
          simp only [Act.put, List.getElem_toArray, List.getElem_cons_succ, List.getElem_cons_zero, List.setIfInBounds_toArray, List.set_cons_zero, List.set_cons_succ]
          refine wpAnyH_ready (rs := [9]) (by kernel_rfl) (by simp) ?_
          refine AllReadyH.cons rfl (fun K hK => ?_) AllReadyH.nil
          · clear hHeld
            simp only [Act.put, List.getElem_toArray, List.getElem_cons_succ, List.getElem_cons_zero, List.setIfInBounds_toArray, List.set_cons_zero, List.set_cons_succ]
            rw [if_pos (by rfl)]
            go_simp
            obtain ⟨X11, hX⟩ : ∃ Z, (X10.alloc (.cells #[.int .i64 0, .slice none 0 0, .slice none 0 0, .slice none 0 0, .slice none 0 0] 27)) = Z := ⟨_, rfl⟩
            have M11 : PkM w1 X11 R (some (.slice ca1 R.length cc1)) (some (X9.heap.size)) (some (X1.heap.size)) (some (X10.heap.size)) := by rw [← hX]; exact M10.addD
            rw [hX]
            clear hX
            refine hK.out _ _ (cells_below m0 M11.bel (by omega)) (fun hHeld => ?_)
            clear hK K
            try simp only [Act.put, List.getElem_toArray, List.getElem_cons_succ, List.getElem_cons_zero, List.setIfInBounds_toArray, List.set_cons_zero, List.set_cons_succ]
            refine wpAnyH_ready (rs := [10]) (by kernel_rfl) (by simp) ?_
            refine AllReadyH.cons rfl (fun K hK => ?_) AllReadyH.nil
            · clear hHeld
              simp only [Act.put, List.getElem_toArray, List.getElem_cons_succ, List.getElem_cons_zero, List.setIfInBounds_toArray, List.set_cons_zero, List.set_cons_succ]
              rw [if_pos (by rfl)]
              have zd := (M11.d _ rfl).2
              obtain ⟨z0, z1, z2, z3, z4⟩ := five zd
              have y0 := cells_frozen zd 0
              have y1 := cells_frozen zd 1
              have y2 := cells_frozen zd 2
              have y3 := cells_frozen zd 3
              have y4 := cells_frozen zd 4
              go_simp
              have hN := pk_first m.guest M11
              have hDw : w.heap.size ≠ X10.heap.size := by have := (M11.d _ rfl).1; omega
              refine hK.out _ _ ((five_farU _ _ _ _ _ hDw).trans (cells_below m0 M11.bel (by omega))) (fun hHeld => ?_)
              clear hK K hHeld z0 z1 z2 z3 z4 y0 y1 y2 y3 y4
              refine wpAnyH_done (by kernel_rfl) ?_ _
              go_wp2_with fail
              go_meet
              exact ⟨_, rfl, hN⟩
        · clear hHeld
          simp only [Act.put, List.getElem_toArray, List.getElem_cons_succ, List.getElem_cons_zero, List.setIfInBounds_toArray, List.set_cons_zero, List.set_cons_succ]
          rw [if_pos (by rfl)]
          go_simp
          obtain ⟨X13, hX⟩ : ∃ Z, (X9.alloc (.cells #[.int .i64 0, .slice none 0 0, .slice none 0 0, .slice none 0 0, .slice none 0 0] 27)) = Z := ⟨_, rfl⟩
          have M13 : PkM w1 X13 R (some (.slice ca1 R.length cc1)) none (some (X1.heap.size)) (some (X9.heap.size)) := by rw [← hX]; exact M9.addD
          rw [hX]
          clear hX
          refine hK.out _ _ (cells_below m0 M13.bel (by omega)) (fun hHeld => ?_)
          clear hK K
          try simp only [Act.put, List.getElem_toArray, List.getElem_cons_succ, List.getElem_cons_zero, List.setIfInBounds_toArray, List.set_cons_zero, List.set_cons_succ]
          refine wpAnyH_ready (rs := [6]) (by kernel_rfl) (by simp) ?_
          refine AllReadyH.cons rfl (fun K hK => ?_) AllReadyH.nil
          · clear hHeld
            simp only [Act.put, List.getElem_toArray, List.getElem_cons_succ, List.getElem_cons_zero, List.setIfInBounds_toArray, List.set_cons_zero, List.set_cons_succ]
            rw [if_pos (by rfl)]
            go_simp
            obtain ⟨X14, hX⟩ : ∃ Z, (X13.alloc (.cells #[.int .i64 0, .string ⟨#[]⟩, .slice none 0 0] 61)) = Z := ⟨_, rfl⟩
            have M14 : PkM w1 X14 R (some (.slice ca1 R.length cc1)) (some (X13.heap.size)) (some (X1.heap.size)) (some (X9.heap.size)) := by rw [← hX]; exact M13.addS
            rw [hX]
            clear hX
            refine hK.out _ _ (cells_below m0 M14.bel (by omega)) (fun hHeld => ?_)
            clear hK K
            try simp only [Act.put, List.getElem_toArray, List.getElem_cons_succ, List.getElem_cons_zero, List.setIfInBounds_toArray, List.set_cons_zero, List.set_cons_succ]
            refine wpAnyH_take (i := 8) (v := .agg #[.int .i64 m.guest, (.slice ca1 R.length cc1), .slice (some ⟨X13.heap.size, 0, none⟩) 1 1, .slice (some ⟨X1.heap.size, 0, none⟩) 1 1, .slice none 0 0]) rfl (by kernel_rfl) (by kernel_rfl) (by kernel_rfl) (fun _ _ _ h => h) (Or.inl ⟨by rfl, fun w' hSw => by obtain ⟨j0, j1, j2, j3, j4⟩ := five hSw; go_simp⟩) hHeld ?_
            simp only [Act.put, List.getElem_toArray, List.getElem_cons_succ, List.getElem_cons_zero, List.setIfInBounds_toArray, List.set_cons_zero, List.set_cons_succ]
            refine wpAnyH_ready (rs := [10]) (by kernel_rfl) (by simp) ?_
            refine AllReadyH.cons rfl (fun K hK => ?_) AllReadyH.nil
            · clear hHeld
              simp only [Act.put, List.getElem_toArray, List.getElem_cons_succ, List.getElem_cons_zero, List.setIfInBounds_toArray, List.set_cons_zero, List.set_cons_succ]
              rw [if_pos (by rfl)]
              have zd := (M14.d _ rfl).2
              obtain ⟨z0, z1, z2, z3, z4⟩ := five zd
              have y0 := cells_frozen zd 0
              have y1 := cells_frozen zd 1
              have y2 := cells_frozen zd 2
              have y3 := cells_frozen zd 3
              have y4 := cells_frozen zd 4
              go_simp
              have hN := pk_first m.guest M14
              have hDw : w.heap.size ≠ X9.heap.size := by have := (M14.d _ rfl).1; omega
              refine hK.out _ _ ((five_farU _ _ _ _ _ hDw).trans (cells_below m0 M14.bel (by omega))) (fun hHeld => ?_)
              clear hK K hHeld z0 z1 z2 z3 z4 y0 y1 y2 y3 y4
              refine wpAnyH_done (by kernel_rfl) ?_ _
              go_wp2_with fail
              go_meet
              exact ⟨_, rfl, hN⟩
      · clear hHeld
        simp only [Act.put, List.getElem_toArray, List.getElem_cons_succ, List.getElem_cons_zero, List.setIfInBounds_toArray, List.set_cons_zero, List.set_cons_succ]
        rw [if_pos (by rfl)]
        go_simp
        obtain ⟨X16, hX⟩ : ∃ Z, (X1.alloc (.cells #[.int .i64 0, .slice none 0 0, .slice none 0 0, .slice none 0 0, .slice none 0 0] 27)) = Z := ⟨_, rfl⟩
        have M16 : PkM w1 X16 R (some (.slice ca1 R.length cc1)) none none (some (X1.heap.size)) := by rw [← hX]; exact M1.addD
        rw [hX]
        clear hX
        refine hK.out _ _ (cells_below m0 M16.bel (by omega)) (fun hHeld => ?_)
        clear hK K
        try simp only [Act.put, List.getElem_toArray, List.getElem_cons_succ, List.getElem_cons_zero, List.setIfInBounds_toArray, List.set_cons_zero, List.set_cons_succ]
        refine wpAnyH_ready (rs := [6, 7]) (by kernel_rfl) (by simp) ?_
        refine AllReadyH.cons rfl (fun K hK => ?_) (AllReadyH.cons rfl (fun K hK => ?_) AllReadyH.nil)
        · clear hHeld
          simp only [Act.put, List.getElem_toArray, List.getElem_cons_succ, List.getElem_cons_zero, List.setIfInBounds_toArray, List.set_cons_zero, List.set_cons_succ]
          rw [if_pos (by rfl)]
          go_simp
          obtain ⟨X17, hX⟩ : ∃ Z, (X16.alloc (.cells #[.int .i64 0, .string ⟨#[]⟩, .slice none 0 0] 61)) = Z := ⟨_, rfl⟩
          have M17 : PkM w1 X17 R (some (.slice ca1 R.length cc1)) (some (X16.heap.size)) none (some (X1.heap.size)) := by rw [← hX]; exact M16.addS
          rw [hX]
          clear hX
          refine hK.out _ _ (cells_below m0 M17.bel (by omega)) (fun hHeld => ?_)
          clear hK K
          try simp only [Act.put, List.getElem_toArray, List.getElem_cons_succ, List.getElem_cons_zero, List.setIfInBounds_toArray, List.set_cons_zero, List.set_cons_succ]
          refine wpAnyH_ready (rs := [7]) (by kernel_rfl) (by simp) ?_
          refine AllReadyH.cons rfl (fun K hK => ?_) AllReadyH.nil
          · clear hHeld
            simp only [Act.put, List.getElem_toArray, List.getElem_cons_succ, List.getElem_cons_zero, List.setIfInBounds_toArray, List.set_cons_zero, List.set_cons_succ]
            rw [if_pos (by rfl)]
            go_simp
            obtain ⟨X18, hX⟩ : ∃ Z, (X17.alloc (.cells #[.int .i64 0] 3)) = Z := ⟨_, rfl⟩
            have M18 : PkM w1 X18 R (some (.slice ca1 R.length cc1)) (some (X16.heap.size)) (some (X17.heap.size)) (some (X1.heap.size)) := by rw [← hX]; exact M17.addF
            rw [hX]
            clear hX
            refine hK.out _ _ (cells_below m0 M18.bel (by omega)) (fun hHeld => ?_)
            clear hK K
            try simp only [Act.put, List.getElem_toArray, List.getElem_cons_succ, List.getElem_cons_zero, List.setIfInBounds_toArray, List.set_cons_zero, List.set_cons_succ]
            refine wpAnyH_take (i := 8) (v := .agg #[.int .i64 m.guest, (.slice ca1 R.length cc1), .slice (some ⟨X16.heap.size, 0, none⟩) 1 1, .slice (some ⟨X17.heap.size, 0, none⟩) 1 1, .slice none 0 0]) rfl (by kernel_rfl) (by kernel_rfl) (by kernel_rfl) (fun _ _ _ h => h) (Or.inl ⟨by rfl, fun w' hSw => by obtain ⟨j0, j1, j2, j3, j4⟩ := five hSw; go_simp⟩) hHeld ?_
            simp only [Act.put, List.getElem_toArray, List.getElem_cons_succ, List.getElem_cons_zero, List.setIfInBounds_toArray, List.set_cons_zero, List.set_cons_succ]
            refine wpAnyH_ready (rs := [10]) (by kernel_rfl) (by simp) ?_
            refine AllReadyH.cons rfl (fun K hK => ?_) AllReadyH.nil
            · clear hHeld
              simp only [Act.put, List.getElem_toArray, List.getElem_cons_succ, List.getElem_cons_zero, List.setIfInBounds_toArray, List.set_cons_zero, List.set_cons_succ]
              rw [if_pos (by rfl)]
              have zd := (M18.d _ rfl).2
              obtain ⟨z0, z1, z2, z3, z4⟩ := five zd
              have y0 := cells_frozen zd 0
              have y1 := cells_frozen zd 1
              have y2 := cells_frozen zd 2
              have y3 := cells_frozen zd 3
              have y4 := cells_frozen zd 4
              go_simp
              have hN := pk_first m.guest M18
              have hDw : w.heap.size ≠ X1.heap.size := by have := (M18.d _ rfl).1; omega
              refine hK.out _ _ ((five_farU _ _ _ _ _ hDw).trans (cells_below m0 M18.bel (by omega))) (fun hHeld => ?_)
              clear hK K hHeld z0 z1 z2 z3 z4 y0 y1 y2 y3 y4
              refine wpAnyH_done (by kernel_rfl) ?_ _
              go_wp2_with fail
              go_meet
              exact ⟨_, rfl, hN⟩
        · clear hHeld
          simp only [Act.put, List.getElem_toArray, List.getElem_cons_succ, List.getElem_cons_zero, List.setIfInBounds_toArray, List.set_cons_zero, List.set_cons_succ]
          rw [if_pos (by rfl)]
          go_simp
          obtain ⟨X20, hX⟩ : ∃ Z, (X16.alloc (.cells #[.int .i64 0] 3)) = Z := ⟨_, rfl⟩
          have M20 : PkM w1 X20 R (some (.slice ca1 R.length cc1)) none (some (X16.heap.size)) (some (X1.heap.size)) := by rw [← hX]; exact M16.addF
          rw [hX]
          clear hX
          refine hK.out _ _ (cells_below m0 M20.bel (by omega)) (fun hHeld => ?_)
          clear hK K
          try simp only [Act.put, List.getElem_toArray, List.getElem_cons_succ, List.getElem_cons_zero, List.setIfInBounds_toArray, List.set_cons_zero, List.set_cons_succ]
          refine wpAnyH_ready (rs := [6]) (by kernel_rfl) (by simp) ?_
          refine AllReadyH.cons rfl (fun K hK => ?_) AllReadyH.nil
          · clear hHeld
            simp only [Act.put, List.getElem_toArray, List.getElem_cons_succ, List.getElem_cons_zero, List.setIfInBounds_toArray, List.set_cons_zero, List.set_cons_succ]
            rw [if_pos (by rfl)]
            go_simp
            obtain ⟨X21, hX⟩ : ∃ Z, (X20.alloc (.cells #[.int .i64 0, .string ⟨#[]⟩, .slice none 0 0] 61)) = Z := ⟨_, rfl⟩
            have M21 : PkM w1 X21 R (some (.slice ca1 R.length cc1)) (some (X20.heap.size)) (some (X16.heap.size)) (some (X1.heap.size)) := by rw [← hX]; exact M20.addS
            rw [hX]
            clear hX
            refine hK.out _ _ (cells_below m0 M21.bel (by omega)) (fun hHeld => ?_)
            clear hK K
            try simp only [Act.put, List.getElem_toArray, List.getElem_cons_succ, List.getElem_cons_zero, List.setIfInBounds_toArray, List.set_cons_zero, List.set_cons_succ]
            refine wpAnyH_take (i := 8) (v := .agg #[.int .i64 m.guest, (.slice ca1 R.length cc1), .slice (some ⟨X20.heap.size, 0, none⟩) 1 1, .slice (some ⟨X16.heap.size, 0, none⟩) 1 1, .slice none 0 0]) rfl (by kernel_rfl) (by kernel_rfl) (by kernel_rfl) (fun _ _ _ h => h) (Or.inl ⟨by rfl, fun w' hSw => by obtain ⟨j0, j1, j2, j3, j4⟩ := five hSw; go_simp⟩) hHeld ?_
            simp only [Act.put, List.getElem_toArray, List.getElem_cons_succ, List.getElem_cons_zero, List.setIfInBounds_toArray, List.set_cons_zero, List.set_cons_succ]
            refine wpAnyH_ready (rs := [10]) (by kernel_rfl) (by simp) ?_
            refine AllReadyH.cons rfl (fun K hK => ?_) AllReadyH.nil
            · clear hHeld
              simp only [Act.put, List.getElem_toArray, List.getElem_cons_succ, List.getElem_cons_zero, List.setIfInBounds_toArray, List.set_cons_zero, List.set_cons_succ]
              rw [if_pos (by rfl)]
              have zd := (M21.d _ rfl).2
              obtain ⟨z0, z1, z2, z3, z4⟩ := five zd
              have y0 := cells_frozen zd 0
              have y1 := cells_frozen zd 1
              have y2 := cells_frozen zd 2
              have y3 := cells_frozen zd 3
              have y4 := cells_frozen zd 4
              go_simp
              have hN := pk_first m.guest M21
              have hDw : w.heap.size ≠ X1.heap.size := by have := (M21.d _ rfl).1; omega
              refine hK.out _ _ ((five_farU _ _ _ _ _ hDw).trans (cells_below m0 M21.bel (by omega))) (fun hHeld => ?_)
              clear hK K hHeld z0 z1 z2 z3 z4 y0 y1 y2 y3 y4
              refine wpAnyH_done (by kernel_rfl) ?_ _
              go_wp2_with fail
              go_meet
              exact ⟨_, rfl, hN⟩
    · clear hHeld
      simp only [Act.put, List.getElem_toArray, List.getElem_cons_succ, List.getElem_cons_zero, List.setIfInBounds_toArray, List.set_cons_zero, List.set_cons_succ]
      rw [if_pos (by rfl)]
      go_simp
      obtain ⟨X23, hX⟩ : ∃ Z, (w1.alloc (.cells #[.int .i64 0, .string ⟨#[]⟩, .slice none 0 0] 61)).drew = Z := ⟨_, rfl⟩
      have M23 : PkM w1 X23 R none (some (w1.heap.size)) none none := by rw [← hX]; exact (MZ.addS).drew
      rw [hX]
      clear hX
      refine hK.out _ _ (cells_below m0 M23.bel (by omega)) (fun hHeld => ?_)
      clear hK K
      try simp only [Act.put, List.getElem_toArray, List.getElem_cons_succ, List.getElem_cons_zero, List.setIfInBounds_toArray, List.set_cons_zero, List.set_cons_succ]
      refine wpAnyH_ready (rs := [5, 7, 9]) (by kernel_rfl) (by simp) ?_
      refine AllReadyH.cons rfl (fun K hK => ?_) (AllReadyH.cons rfl (fun K hK => ?_) (AllReadyH.cons rfl (fun K hK => ?_) AllReadyH.nil))
      · clear hHeld
        simp only [Act.put, List.getElem_toArray, List.getElem_cons_succ, List.getElem_cons_zero, List.setIfInBounds_toArray, List.set_cons_zero, List.set_cons_succ]
        rw [if_pos (by rfl)]
        go_wp2_with (go_at_call 47; refine (HAr.out _ M23.bel).mono ?_; rintro e9 X24 ⟨va24, rfl, hr24, hb24⟩; obtain ⟨ca24, cc24, rfl⟩ := row_slice hr24)
        have M24 : PkM w1 X24 R (some (.slice ca24 R.length cc24)) (some (w1.heap.size)) none none := M23.addC hb24 hr24
        clear hb24 hr24
        refine hK.out _ _ (cells_below m0 M24.bel (by omega)) (fun hHeld => ?_)
        clear hK K
        try simp only [Act.put, List.getElem_toArray, List.getElem_cons_succ, List.getElem_cons_zero, List.setIfInBounds_toArray, List.set_cons_zero, List.set_cons_succ]
        refine wpAnyH_ready (rs := [7, 9]) (by kernel_rfl) (by simp) ?_
        refine AllReadyH.cons rfl (fun K hK => ?_) (AllReadyH.cons rfl (fun K hK => ?_) AllReadyH.nil)
        · clear hHeld
          simp only [Act.put, List.getElem_toArray, List.getElem_cons_succ, List.getElem_cons_zero, List.setIfInBounds_toArray, List.set_cons_zero, List.set_cons_succ]
          rw [if_pos (by rfl)]
          go_simp
          obtain ⟨X25, hX⟩ : ∃ Z, (X24.alloc (.cells #[.int .i64 0] 3)) = Z := ⟨_, rfl⟩
          have M25 : PkM w1 X25 R (some (.slice ca24 R.length cc24)) (some (w1.heap.size)) (some (X24.heap.size)) none := by rw [← hX]; exact M24.addF
          rw [hX]
          clear hX
          refine hK.out _ _ (cells_below m0 M25.bel (by omega)) (fun hHeld => ?_)
          clear hK K
          try simp only [Act.put, List.getElem_toArray, List.getElem_cons_succ, List.getElem_cons_zero, List.setIfInBounds_toArray, List.set_cons_zero, List.set_cons_succ]
          refine wpAnyH_take (i := 8) (v := .agg #[.int .i64 m.guest, (.slice ca24 R.length cc24), .slice (some ⟨w1.heap.size, 0, none⟩) 1 1, .slice (some ⟨X24.heap.size, 0, none⟩) 1 1, .slice none 0 0]) rfl (by kernel_rfl) (by kernel_rfl) (by kernel_rfl) (fun _ _ _ h => h) (Or.inl ⟨by rfl, fun w' hSw => by obtain ⟨j0, j1, j2, j3, j4⟩ := five hSw; go_simp⟩) hHeld ?_
          simp only [Act.put, List.getElem_toArray, List.getElem_cons_succ, List.getElem_cons_zero, List.setIfInBounds_toArray, List.set_cons_zero, List.set_cons_succ]
          refine wpAnyH_ready (rs := [9]) (by kernel_rfl) (by simp) ?_
          refine AllReadyH.cons rfl (fun K hK => ?_) AllReadyH.nil
          · clear hHeld
            simp only [Act.put, List.getElem_toArray, List.getElem_cons_succ, List.getElem_cons_zero, List.setIfInBounds_toArray, List.set_cons_zero, List.set_cons_succ]
            rw [if_pos (by rfl)]
            go_simp
            obtain ⟨X26, hX⟩ : ∃ Z, (X25.alloc (.cells #[.int .i64 0, .slice none 0 0, .slice none 0 0, .slice none 0 0, .slice none 0 0] 27)) = Z := ⟨_, rfl⟩
            have M26 : PkM w1 X26 R (some (.slice ca24 R.length cc24)) (some (w1.heap.size)) (some (X24.heap.size)) (some (X25.heap.size)) := by rw [← hX]; exact M25.addD
            rw [hX]
            clear hX
            refine hK.out _ _ (cells_below m0 M26.bel (by omega)) (fun hHeld => ?_)
            clear hK K
            try simp only [Act.put, List.getElem_toArray, List.getElem_cons_succ, List.getElem_cons_zero, List.setIfInBounds_toArray, List.set_cons_zero, List.set_cons_succ]
            refine wpAnyH_ready (rs := [10]) (by kernel_rfl) (by simp) ?_
            refine AllReadyH.cons rfl (fun K hK => ?_) AllReadyH.nil
            · clear hHeld
              simp only [Act.put, List.getElem_toArray, List.getElem_cons_succ, List.getElem_cons_zero, List.setIfInBounds_toArray, List.set_cons_zero, List.set_cons_succ]
              rw [if_pos (by rfl)]
              have zd := (M26.d _ rfl).2
              obtain ⟨z0, z1, z2, z3, z4⟩ := five zd
              have y0 := cells_frozen zd 0
              have y1 := cells_frozen zd 1
              have y2 := cells_frozen zd 2
              have y3 := cells_frozen zd 3
              have y4 := cells_frozen zd 4
              go_simp
              have hN := pk_first m.guest M26
              have hDw : w.heap.size ≠ X25.heap.size := by have := (M26.d _ rfl).1; omega
              refine hK.out _ _ ((five_farU _ _ _ _ _ hDw).trans (cells_below m0 M26.bel (by omega))) (fun hHeld => ?_)
              clear hK K hHeld z0 z1 z2 z3 z4 y0 y1 y2 y3 y4
              refine wpAnyH_done (by kernel_rfl) ?_ _
              go_wp2_with fail
              go_meet
              exact ⟨_, rfl, hN⟩
        · clear hHeld
          simp only [Act.put, List.getElem_toArray, List.getElem_cons_succ, List.getElem_cons_zero, List.setIfInBounds_toArray, List.set_cons_zero, List.set_cons_succ]
          rw [if_pos (by rfl)]
          go_simp
          obtain ⟨X28, hX⟩ : ∃ Z, (X24.alloc (.cells #[.int .i64 0, .slice none 0 0, .slice none 0 0, .slice none 0 0, .slice none 0 0] 27)) = Z := ⟨_, rfl⟩
          have M28 : PkM w1 X28 R (some (.slice ca24 R.length cc24)) (some (w1.heap.size)) none (some (X24.heap.size)) := by rw [← hX]; exact M24.addD
          rw [hX]
          clear hX
          refine hK.out _ _ (cells_below m0 M28.bel (by omega)) (fun hHeld => ?_)
          clear hK K
          try simp only [Act.put, List.getElem_toArray, List.getElem_cons_succ, List.getElem_cons_zero, List.setIfInBounds_toArray, List.set_cons_zero, List.set_cons_succ]
          refine wpAnyH_ready (rs := [7]) (by kernel_rfl) (by simp) ?_
          refine AllReadyH.cons rfl (fun K hK => ?_) AllReadyH.nil
          · clear hHeld
            simp only [Act.put, List.getElem_toArray, List.getElem_cons_succ, List.getElem_cons_zero, List.setIfInBounds_toArray, List.set_cons_zero, List.set_cons_succ]
            rw [if_pos (by rfl)]
            go_simp
            obtain ⟨X29, hX⟩ : ∃ Z, (X28.alloc (.cells #[.int .i64 0] 3)) = Z := ⟨_, rfl⟩
            have M29 : PkM w1 X29 R (some (.slice ca24 R.length cc24)) (some (w1.heap.size)) (some (X28.heap.size)) (some (X24.heap.size)) := by rw [← hX]; exact M28.addF
            rw [hX]
            clear hX
            refine hK.out _ _ (cells_below m0 M29.bel (by omega)) (fun hHeld => ?_)
            clear hK K
            try simp only [Act.put, List.getElem_toArray, List.getElem_cons_succ, List.getElem_cons_zero, List.setIfInBounds_toArray, List.set_cons_zero, List.set_cons_succ]
            refine wpAnyH_take (i := 8) (v := .agg #[.int .i64 m.guest, (.slice ca24 R.length cc24), .slice (some ⟨w1.heap.size, 0, none⟩) 1 1, .slice (some ⟨X28.heap.size, 0, none⟩) 1 1, .slice none 0 0]) rfl (by kernel_rfl) (by kernel_rfl) (by kernel_rfl) (fun _ _ _ h => h) (Or.inl ⟨by rfl, fun w' hSw => by obtain ⟨j0, j1, j2, j3, j4⟩ := five hSw; go_simp⟩) hHeld ?_
            simp only [Act.put, List.getElem_toArray, List.getElem_cons_succ, List.getElem_cons_zero, List.setIfInBounds_toArray, List.set_cons_zero, List.set_cons_succ]
            refine wpAnyH_ready (rs := [10]) (by kernel_rfl) (by simp) ?_
            refine AllReadyH.cons rfl (fun K hK => ?_) AllReadyH.nil
            · clear hHeld
              simp only [Act.put, List.getElem_toArray, List.getElem_cons_succ, List.getElem_cons_zero, List.setIfInBounds_toArray, List.set_cons_zero, List.set_cons_succ]
              rw [if_pos (by rfl)]
              have zd := (M29.d _ rfl).2
              obtain ⟨z0, z1, z2, z3, z4⟩ := five zd
              have y0 := cells_frozen zd 0
              have y1 := cells_frozen zd 1
              have y2 := cells_frozen zd 2
              have y3 := cells_frozen zd 3
              have y4 := cells_frozen zd 4
              go_simp
              have hN := pk_first m.guest M29
              have hDw : w.heap.size ≠ X24.heap.size := by have := (M29.d _ rfl).1; omega
              refine hK.out _ _ ((five_farU _ _ _ _ _ hDw).trans (cells_below m0 M29.bel (by omega))) (fun hHeld => ?_)
              clear hK K hHeld z0 z1 z2 z3 z4 y0 y1 y2 y3 y4
              refine wpAnyH_done (by kernel_rfl) ?_ _
              go_wp2_with fail
              go_meet
              exact ⟨_, rfl, hN⟩
      · clear hHeld
        simp only [Act.put, List.getElem_toArray, List.getElem_cons_succ, List.getElem_cons_zero, List.setIfInBounds_toArray, List.set_cons_zero, List.set_cons_succ]
        rw [if_pos (by rfl)]
        go_simp
        obtain ⟨X31, hX⟩ : ∃ Z, (X23.alloc (.cells #[.int .i64 0] 3)) = Z := ⟨_, rfl⟩
        have M31 : PkM w1 X31 R none (some (w1.heap.size)) (some (X23.heap.size)) none := by rw [← hX]; exact M23.addF
        rw [hX]
        clear hX
        refine hK.out _ _ (cells_below m0 M31.bel (by omega)) (fun hHeld => ?_)
        clear hK K
        try simp only [Act.put, List.getElem_toArray, List.getElem_cons_succ, List.getElem_cons_zero, List.setIfInBounds_toArray, List.set_cons_zero, List.set_cons_succ]
        refine wpAnyH_ready (rs := [5, 9]) (by kernel_rfl) (by simp) ?_
        refine AllReadyH.cons rfl (fun K hK => ?_) (AllReadyH.cons rfl (fun K hK => ?_) AllReadyH.nil)
        · clear hHeld
          simp only [Act.put, List.getElem_toArray, List.getElem_cons_succ, List.getElem_cons_zero, List.setIfInBounds_toArray, List.set_cons_zero, List.set_cons_succ]
          rw [if_pos (by rfl)]
          go_wp2_with (go_at_call 47; refine (HAr.out _ M31.bel).mono ?_; rintro e9 X32 ⟨va32, rfl, hr32, hb32⟩; obtain ⟨ca32, cc32, rfl⟩ := row_slice hr32)
          have M32 : PkM w1 X32 R (some (.slice ca32 R.length cc32)) (some (w1.heap.size)) (some (X23.heap.size)) none := M31.addC hb32 hr32
          clear hb32 hr32
          refine hK.out _ _ (cells_below m0 M32.bel (by omega)) (fun hHeld => ?_)
          clear hK K
          try simp only [Act.put, List.getElem_toArray, List.getElem_cons_succ, List.getElem_cons_zero, List.setIfInBounds_toArray, List.set_cons_zero, List.set_cons_succ]
          refine wpAnyH_take (i := 8) (v := .agg #[.int .i64 m.guest, (.slice ca32 R.length cc32), .slice (some ⟨w1.heap.size, 0, none⟩) 1 1, .slice (some ⟨X23.heap.size, 0, none⟩) 1 1, .slice none 0 0]) rfl (by kernel_rfl) (by kernel_rfl) (by kernel_rfl) (fun _ _ _ h => h) (Or.inl ⟨by rfl, fun w' hSw => by obtain ⟨j0, j1, j2, j3, j4⟩ := five hSw; go_simp⟩) hHeld ?_
          simp only [Act.put, List.getElem_toArray, List.getElem_cons_succ, List.getElem_cons_zero, List.setIfInBounds_toArray, List.set_cons_zero, List.set_cons_succ]
          refine wpAnyH_ready (rs := [9]) (by kernel_rfl) (by simp) ?_
          refine AllReadyH.cons rfl (fun K hK => ?_) AllReadyH.nil
          · clear hHeld
            simp only [Act.put, List.getElem_toArray, List.getElem_cons_succ, List.getElem_cons_zero, List.setIfInBounds_toArray, List.set_cons_zero, List.set_cons_succ]
            rw [if_pos (by rfl)]
            go_simp
            obtain ⟨X33, hX⟩ : ∃ Z, (X32.alloc (.cells #[.int .i64 0, .slice none 0 0, .slice none 0 0, .slice none 0 0, .slice none 0 0] 27)) = Z := ⟨_, rfl⟩
            have M33 : PkM w1 X33 R (some (.slice ca32 R.length cc32)) (some (w1.heap.size)) (some (X23.heap.size)) (some (X32.heap.size)) := by rw [← hX]; exact M32.addD
            rw [hX]
            clear hX
            refine hK.out _ _ (cells_below m0 M33.bel (by omega)) (fun hHeld => ?_)
            clear hK K
            try simp only [Act.put, List.getElem_toArray, List.getElem_cons_succ, List.getElem_cons_zero, List.setIfInBounds_toArray, List.set_cons_zero, List.set_cons_succ]
            refine wpAnyH_ready (rs := [10]) (by kernel_rfl) (by simp) ?_
            refine AllReadyH.cons rfl (fun K hK => ?_) AllReadyH.nil
            · clear hHeld
              simp only [Act.put, List.getElem_toArray, List.getElem_cons_succ, List.getElem_cons_zero, List.setIfInBounds_toArray, List.set_cons_zero, List.set_cons_succ]
              rw [if_pos (by rfl)]
              have zd := (M33.d _ rfl).2
              obtain ⟨z0, z1, z2, z3, z4⟩ := five zd
              have y0 := cells_frozen zd 0
              have y1 := cells_frozen zd 1
              have y2 := cells_frozen zd 2
              have y3 := cells_frozen zd 3
              have y4 := cells_frozen zd 4
              go_simp
              have hN := pk_first m.guest M33
              have hDw : w.heap.size ≠ X32.heap.size := by have := (M33.d _ rfl).1; omega
              refine hK.out _ _ ((five_farU _ _ _ _ _ hDw).trans (cells_below m0 M33.bel (by omega))) (fun hHeld => ?_)
              clear hK K hHeld z0 z1 z2 z3 z4 y0 y1 y2 y3 y4
              refine wpAnyH_done (by kernel_rfl) ?_ _
              go_wp2_with fail
              go_meet
              exact ⟨_, rfl, hN⟩
        · clear hHeld
          simp only [Act.put, List.getElem_toArray, List.getElem_cons_succ, List.getElem_cons_zero, List.setIfInBounds_toArray, List.set_cons_zero, List.set_cons_succ]
          rw [if_pos (by rfl)]
          go_simp
          obtain ⟨X35, hX⟩ : ∃ Z, (X31.alloc (.cells #[.int .i64 0, .slice none 0 0, .slice none 0 0, .slice none 0 0, .slice none 0 0] 27)) = Z := ⟨_, rfl⟩
          have M35 : PkM w1 X35 R none (some (w1.heap.size)) (some (X23.heap.size)) (some (X31.heap.size)) := by rw [← hX]; exact M31.addD
          rw [hX]
          clear hX
          refine hK.out _ _ (cells_below m0 M35.bel (by omega)) (fun hHeld => ?_)
          clear hK K
          try simp only [Act.put, List.getElem_toArray, List.getElem_cons_succ, List.getElem_cons_zero, List.setIfInBounds_toArray, List.set_cons_zero, List.set_cons_succ]
          refine wpAnyH_ready (rs := [5]) (by kernel_rfl) (by simp) ?_
          refine AllReadyH.cons rfl (fun K hK => ?_) AllReadyH.nil
          · clear hHeld
            simp only [Act.put, List.getElem_toArray, List.getElem_cons_succ, List.getElem_cons_zero, List.setIfInBounds_toArray, List.set_cons_zero, List.set_cons_succ]
            rw [if_pos (by rfl)]
            go_wp2_with (go_at_call 47; refine (HAr.out _ M35.bel).mono ?_; rintro e9 X36 ⟨va36, rfl, hr36, hb36⟩; obtain ⟨ca36, cc36, rfl⟩ := row_slice hr36)
            have M36 : PkM w1 X36 R (some (.slice ca36 R.length cc36)) (some (w1.heap.size)) (some (X23.heap.size)) (some (X31.heap.size)) := M35.addC hb36 hr36
            clear hb36 hr36
            refine hK.out _ _ (cells_below m0 M36.bel (by omega)) (fun hHeld => ?_)
            clear hK K
            try simp only [Act.put, List.getElem_toArray, List.getElem_cons_succ, List.getElem_cons_zero, List.setIfInBounds_toArray, List.set_cons_zero, List.set_cons_succ]
            refine wpAnyH_take (i := 8) (v := .agg #[.int .i64 m.guest, (.slice ca36 R.length cc36), .slice (some ⟨w1.heap.size, 0, none⟩) 1 1, .slice (some ⟨X23.heap.size, 0, none⟩) 1 1, .slice none 0 0]) rfl (by kernel_rfl) (by kernel_rfl) (by kernel_rfl) (fun _ _ _ h => h) (Or.inl ⟨by rfl, fun w' hSw => by obtain ⟨j0, j1, j2, j3, j4⟩ := five hSw; go_simp⟩) hHeld ?_
            simp only [Act.put, List.getElem_toArray, List.getElem_cons_succ, List.getElem_cons_zero, List.setIfInBounds_toArray, List.set_cons_zero, List.set_cons_succ]
            refine wpAnyH_ready (rs := [10]) (by kernel_rfl) (by simp) ?_
            refine AllReadyH.cons rfl (fun K hK => ?_) AllReadyH.nil
            · clear hHeld
              simp only [Act.put, List.getElem_toArray, List.getElem_cons_succ, List.getElem_cons_zero, List.setIfInBounds_toArray, List.set_cons_zero, List.set_cons_succ]
              rw [if_pos (by rfl)]
              have zd := (M36.d _ rfl).2
              obtain ⟨z0, z1, z2, z3, z4⟩ := five zd
              have y0 := cells_frozen zd 0
              have y1 := cells_frozen zd 1
              have y2 := cells_frozen zd 2
              have y3 := cells_frozen zd 3
              have y4 := cells_frozen zd 4
              go_simp
              have hN := pk_first m.guest M36
              have hDw : w.heap.size ≠ X31.heap.size := by have := (M36.d _ rfl).1; omega
              refine hK.out _ _ ((five_farU _ _ _ _ _ hDw).trans (cells_below m0 M36.bel (by omega))) (fun hHeld => ?_)
              clear hK K hHeld z0 z1 z2 z3 z4 y0 y1 y2 y3 y4
              refine wpAnyH_done (by kernel_rfl) ?_ _
              go_wp2_with fail
              go_meet
              exact ⟨_, rfl, hN⟩
      · clear hHeld
        simp only [Act.put, List.getElem_toArray, List.getElem_cons_succ, List.getElem_cons_zero, List.setIfInBounds_toArray, List.set_cons_zero, List.set_cons_succ]
        rw [if_pos (by rfl)]
        go_simp
        obtain ⟨X38, hX⟩ : ∃ Z, (X23.alloc (.cells #[.int .i64 0, .slice none 0 0, .slice none 0 0, .slice none 0 0, .slice none 0 0] 27)) = Z := ⟨_, rfl⟩
        have M38 : PkM w1 X38 R none (some (w1.heap.size)) none (some (X23.heap.size)) := by rw [← hX]; exact M23.addD
        rw [hX]
        clear hX
        refine hK.out _ _ (cells_below m0 M38.bel (by omega)) (fun hHeld => ?_)
        clear hK K
        try simp only [Act.put, List.getElem_toArray, List.getElem_cons_succ, List.getElem_cons_zero, List.setIfInBounds_toArray, List.set_cons_zero, List.set_cons_succ]
        refine wpAnyH_ready (rs := [5, 7]) (by kernel_rfl) (by simp) ?_
        refine AllReadyH.cons rfl (fun K hK => ?_) (AllReadyH.cons rfl (fun K hK => ?_) AllReadyH.nil)
        · clear hHeld
          simp only [Act.put, List.getElem_toArray, List.getElem_cons_succ, List.getElem_cons_zero, List.setIfInBounds_toArray, List.set_cons_zero, List.set_cons_succ]
          rw [if_pos (by rfl)]
          go_wp2_with (go_at_call 47; refine (HAr.out _ M38.bel).mono ?_; rintro e9 X39 ⟨va39, rfl, hr39, hb39⟩; obtain ⟨ca39, cc39, rfl⟩ := row_slice hr39)
          have M39 : PkM w1 X39 R (some (.slice ca39 R.length cc39)) (some (w1.heap.size)) none (some (X23.heap.size)) := M38.addC hb39 hr39
          clear hb39 hr39
          refine hK.out _ _ (cells_below m0 M39.bel (by omega)) (fun hHeld => ?_)
          clear hK K
          try simp only [Act.put, List.getElem_toArray, List.getElem_cons_succ, List.getElem_cons_zero, List.setIfInBounds_toArray, List.set_cons_zero, List.set_cons_succ]
          refine wpAnyH_ready (rs := [7]) (by kernel_rfl) (by simp) ?_
          refine AllReadyH.cons rfl (fun K hK => ?_) AllReadyH.nil
          · clear hHeld
            simp only [Act.put, List.getElem_toArray, List.getElem_cons_succ, List.getElem_cons_zero, List.setIfInBounds_toArray, List.set_cons_zero, List.set_cons_succ]
            rw [if_pos (by rfl)]
            go_simp
            obtain ⟨X40, hX⟩ : ∃ Z, (X39.alloc (.cells #[.int .i64 0] 3)) = Z := ⟨_, rfl⟩
            have M40 : PkM w1 X40 R (some (.slice ca39 R.length cc39)) (some (w1.heap.size)) (some (X39.heap.size)) (some (X23.heap.size)) := by rw [← hX]; exact M39.addF
            rw [hX]
            clear hX
            refine hK.out _ _ (cells_below m0 M40.bel (by omega)) (fun hHeld => ?_)
            clear hK K
            try simp only [Act.put, List.getElem_toArray, List.getElem_cons_succ, List.getElem_cons_zero, List.setIfInBounds_toArray, List.set_cons_zero, List.set_cons_succ]
            refine wpAnyH_take (i := 8) (v := .agg #[.int .i64 m.guest, (.slice ca39 R.length cc39), .slice (some ⟨w1.heap.size, 0, none⟩) 1 1, .slice (some ⟨X39.heap.size, 0, none⟩) 1 1, .slice none 0 0]) rfl (by kernel_rfl) (by kernel_rfl) (by kernel_rfl) (fun _ _ _ h => h) (Or.inl ⟨by rfl, fun w' hSw => by obtain ⟨j0, j1, j2, j3, j4⟩ := five hSw; go_simp⟩) hHeld ?_
            simp only [Act.put, List.getElem_toArray, List.getElem_cons_succ, List.getElem_cons_zero, List.setIfInBounds_toArray, List.set_cons_zero, List.set_cons_succ]
            refine wpAnyH_ready (rs := [10]) (by kernel_rfl) (by simp) ?_
            refine AllReadyH.cons rfl (fun K hK => ?_) AllReadyH.nil
            · clear hHeld
              simp only [Act.put, List.getElem_toArray, List.getElem_cons_succ, List.getElem_cons_zero, List.setIfInBounds_toArray, List.set_cons_zero, List.set_cons_succ]
              rw [if_pos (by rfl)]
              have zd := (M40.d _ rfl).2
              obtain ⟨z0, z1, z2, z3, z4⟩ := five zd
              have y0 := cells_frozen zd 0
              have y1 := cells_frozen zd 1
              have y2 := cells_frozen zd 2
              have y3 := cells_frozen zd 3
              have y4 := cells_frozen zd 4
              go_simp
              have hN := pk_first m.guest M40
              have hDw : w.heap.size ≠ X23.heap.size := by have := (M40.d _ rfl).1; omega
              refine hK.out _ _ ((five_farU _ _ _ _ _ hDw).trans (cells_below m0 M40.bel (by omega))) (fun hHeld => ?_)
              clear hK K hHeld z0 z1 z2 z3 z4 y0 y1 y2 y3 y4
              refine wpAnyH_done (by kernel_rfl) ?_ _
              go_wp2_with fail
              go_meet
              exact ⟨_, rfl, hN⟩
        · clear hHeld
          simp only [Act.put, List.getElem_toArray, List.getElem_cons_succ, List.getElem_cons_zero, List.setIfInBounds_toArray, List.set_cons_zero, List.set_cons_succ]
          rw [if_pos (by rfl)]
          go_simp
          obtain ⟨X42, hX⟩ : ∃ Z, (X38.alloc (.cells #[.int .i64 0] 3)) = Z := ⟨_, rfl⟩
          have M42 : PkM w1 X42 R none (some (w1.heap.size)) (some (X38.heap.size)) (some (X23.heap.size)) := by rw [← hX]; exact M38.addF
          rw [hX]
          clear hX
          refine hK.out _ _ (cells_below m0 M42.bel (by omega)) (fun hHeld => ?_)
          clear hK K
          try simp only [Act.put, List.getElem_toArray, List.getElem_cons_succ, List.getElem_cons_zero, List.setIfInBounds_toArray, List.set_cons_zero, List.set_cons_succ]
          refine wpAnyH_ready (rs := [5]) (by kernel_rfl) (by simp) ?_
          refine AllReadyH.cons rfl (fun K hK => ?_) AllReadyH.nil
          · clear hHeld
            simp only [Act.put, List.getElem_toArray, List.getElem_cons_succ, List.getElem_cons_zero, List.setIfInBounds_toArray, List.set_cons_zero, List.set_cons_succ]
            rw [if_pos (by rfl)]
            go_wp2_with (go_at_call 47; refine (HAr.out _ M42.bel).mono ?_; rintro e9 X43 ⟨va43, rfl, hr43, hb43⟩; obtain ⟨ca43, cc43, rfl⟩ := row_slice hr43)
            have M43 : PkM w1 X43 R (some (.slice ca43 R.length cc43)) (some (w1.heap.size)) (some (X38.heap.size)) (some (X23.heap.size)) := M42.addC hb43 hr43
            clear hb43 hr43
            refine hK.out _ _ (cells_below m0 M43.bel (by omega)) (fun hHeld => ?_)
            clear hK K
            try simp only [Act.put, List.getElem_toArray, List.getElem_cons_succ, List.getElem_cons_zero, List.setIfInBounds_toArray, List.set_cons_zero, List.set_cons_succ]
            refine wpAnyH_take (i := 8) (v := .agg #[.int .i64 m.guest, (.slice ca43 R.length cc43), .slice (some ⟨w1.heap.size, 0, none⟩) 1 1, .slice (some ⟨X38.heap.size, 0, none⟩) 1 1, .slice none 0 0]) rfl (by kernel_rfl) (by kernel_rfl) (by kernel_rfl) (fun _ _ _ h => h) (Or.inl ⟨by rfl, fun w' hSw => by obtain ⟨j0, j1, j2, j3, j4⟩ := five hSw; go_simp⟩) hHeld ?_
            simp only [Act.put, List.getElem_toArray, List.getElem_cons_succ, List.getElem_cons_zero, List.setIfInBounds_toArray, List.set_cons_zero, List.set_cons_succ]
            refine wpAnyH_ready (rs := [10]) (by kernel_rfl) (by simp) ?_
            refine AllReadyH.cons rfl (fun K hK => ?_) AllReadyH.nil
            · clear hHeld
              simp only [Act.put, List.getElem_toArray, List.getElem_cons_succ, List.getElem_cons_zero, List.setIfInBounds_toArray, List.set_cons_zero, List.set_cons_succ]
              rw [if_pos (by rfl)]
              have zd := (M43.d _ rfl).2
              obtain ⟨z0, z1, z2, z3, z4⟩ := five zd
              have y0 := cells_frozen zd 0
              have y1 := cells_frozen zd 1
              have y2 := cells_frozen zd 2
              have y3 := cells_frozen zd 3
              have y4 := cells_frozen zd 4
              go_simp
              have hN := pk_first m.guest M43
              have hDw : w.heap.size ≠ X23.heap.size := by have := (M43.d _ rfl).1; omega
              refine hK.out _ _ ((five_farU _ _ _ _ _ hDw).trans (cells_below m0 M43.bel (by omega))) (fun hHeld => ?_)
              clear hK K hHeld z0 z1 z2 z3 z4 y0 y1 y2 y3 y4
              refine wpAnyH_done (by kernel_rfl) ?_ _
              go_wp2_with fail
              go_meet
              exact ⟨_, rfl, hN⟩
    · clear hHeld
      simp only [Act.put, List.getElem_toArray, List.getElem_cons_succ, List.getElem_cons_zero, List.setIfInBounds_toArray, List.set_cons_zero, List.set_cons_succ]
      rw [if_pos (by rfl)]
      go_simp
      obtain ⟨X45, hX⟩ : ∃ Z, (w1.alloc (.cells #[.int .i64 0] 3)).drew = Z := ⟨_, rfl⟩
      have M45 : PkM w1 X45 R none none (some (w1.heap.size)) none := by rw [← hX]; exact (MZ.addF).drew
      rw [hX]
      clear hX
      refine hK.out _ _ (cells_below m0 M45.bel (by omega)) (fun hHeld => ?_)
      clear hK K
      try simp only [Act.put, List.getElem_toArray, List.getElem_cons_succ, List.getElem_cons_zero, List.setIfInBounds_toArray, List.set_cons_zero, List.set_cons_succ]
      refine wpAnyH_ready (rs := [5, 6, 9]) (by kernel_rfl) (by simp) ?_
      refine AllReadyH.cons rfl (fun K hK => ?_) (AllReadyH.cons rfl (fun K hK => ?_) (AllReadyH.cons rfl (fun K hK => ?_) AllReadyH.nil))
      · clear hHeld
        simp only [Act.put, List.getElem_toArray, List.getElem_cons_succ, List.getElem_cons_zero, List.setIfInBounds_toArray, List.set_cons_zero, List.set_cons_succ]
        rw [if_pos (by rfl)]
        go_wp2_with (go_at_call 47; refine (HAr.out _ M45.bel).mono ?_; rintro e9 X46 ⟨va46, rfl, hr46, hb46⟩; obtain ⟨ca46, cc46, rfl⟩ := row_slice hr46)
        have M46 : PkM w1 X46 R (some (.slice ca46 R.length cc46)) none (some (w1.heap.size)) none := M45.addC hb46 hr46
        clear hb46 hr46
        refine hK.out _ _ (cells_below m0 M46.bel (by omega)) (fun hHeld => ?_)
        clear hK K
        try simp only [Act.put, List.getElem_toArray, List.getElem_cons_succ, List.getElem_cons_zero, List.setIfInBounds_toArray, List.set_cons_zero, List.set_cons_succ]
        refine wpAnyH_ready (rs := [6, 9]) (by kernel_rfl) (by simp) ?_
        refine AllReadyH.cons rfl (fun K hK => ?_) (AllReadyH.cons rfl (fun K hK => ?_) AllReadyH.nil)
        · clear hHeld
          simp only [Act.put, List.getElem_toArray, List.getElem_cons_succ, List.getElem_cons_zero, List.setIfInBounds_toArray, List.set_cons_zero, List.set_cons_succ]
          rw [if_pos (by rfl)]
          go_simp
          obtain ⟨X47, hX⟩ : ∃ Z, (X46.alloc (.cells #[.int .i64 0, .string ⟨#[]⟩, .slice none 0 0] 61)) = Z := ⟨_, rfl⟩
          have M47 : PkM w1 X47 R (some (.slice ca46 R.length cc46)) (some (X46.heap.size)) (some (w1.heap.size)) none := by rw [← hX]; exact M46.addS
          rw [hX]
          clear hX
          refine hK.out _ _ (cells_below m0 M47.bel (by omega)) (fun hHeld => ?_)
          clear hK K
          try simp only [Act.put, List.getElem_toArray, List.getElem_cons_succ, List.getElem_cons_zero, List.setIfInBounds_toArray, List.set_cons_zero, List.set_cons_succ]
          refine wpAnyH_take (i := 8) (v := .agg #[.int .i64 m.guest, (.slice ca46 R.length cc46), .slice (some ⟨X46.heap.size, 0, none⟩) 1 1, .slice (some ⟨w1.heap.size, 0, none⟩) 1 1, .slice none 0 0]) rfl (by kernel_rfl) (by kernel_rfl) (by kernel_rfl) (fun _ _ _ h => h) (Or.inl ⟨by rfl, fun w' hSw => by obtain ⟨j0, j1, j2, j3, j4⟩ := five hSw; go_simp⟩) hHeld ?_
          simp only [Act.put, List.getElem_toArray, List.getElem_cons_succ, List.getElem_cons_zero, List.setIfInBounds_toArray, List.set_cons_zero, List.set_cons_succ]
          refine wpAnyH_ready (rs := [9]) (by kernel_rfl) (by simp) ?_
          refine AllReadyH.cons rfl (fun K hK => ?_) AllReadyH.nil
          · clear hHeld
            simp only [Act.put, List.getElem_toArray, List.getElem_cons_succ, List.getElem_cons_zero, List.setIfInBounds_toArray, List.set_cons_zero, List.set_cons_succ]
            rw [if_pos (by rfl)]
            go_simp
            obtain ⟨X48, hX⟩ : ∃ Z, (X47.alloc (.cells #[.int .i64 0, .slice none 0 0, .slice none 0 0, .slice none 0 0, .slice none 0 0] 27)) = Z := ⟨_, rfl⟩
            have M48 : PkM w1 X48 R (some (.slice ca46 R.length cc46)) (some (X46.heap.size)) (some (w1.heap.size)) (some (X47.heap.size)) := by rw [← hX]; exact M47.addD
            rw [hX]
            clear hX
            refine hK.out _ _ (cells_below m0 M48.bel (by omega)) (fun hHeld => ?_)
            clear hK K
            try simp only [Act.put, List.getElem_toArray, List.getElem_cons_succ, List.getElem_cons_zero, List.setIfInBounds_toArray, List.set_cons_zero, List.set_cons_succ]
            refine wpAnyH_ready (rs := [10]) (by kernel_rfl) (by simp) ?_
            refine AllReadyH.cons rfl (fun K hK => ?_) AllReadyH.nil
            · clear hHeld
              simp only [Act.put, List.getElem_toArray, List.getElem_cons_succ, List.getElem_cons_zero, List.setIfInBounds_toArray, List.set_cons_zero, List.set_cons_succ]
              rw [if_pos (by rfl)]
              have zd := (M48.d _ rfl).2
              obtain ⟨z0, z1, z2, z3, z4⟩ := five zd
              have y0 := cells_frozen zd 0
              have y1 := cells_frozen zd 1
              have y2 := cells_frozen zd 2
              have y3 := cells_frozen zd 3
              have y4 := cells_frozen zd 4
              go_simp
              have hN := pk_first m.guest M48
              have hDw : w.heap.size ≠ X47.heap.size := by have := (M48.d _ rfl).1; omega
              refine hK.out _ _ ((five_farU _ _ _ _ _ hDw).trans (cells_below m0 M48.bel (by omega))) (fun hHeld => ?_)
              clear hK K hHeld z0 z1 z2 z3 z4 y0 y1 y2 y3 y4
              refine wpAnyH_done (by kernel_rfl) ?_ _
              go_wp2_with fail
              go_meet
              exact ⟨_, rfl, hN⟩
        · clear hHeld
          simp only [Act.put, List.getElem_toArray, List.getElem_cons_succ, List.getElem_cons_zero, List.setIfInBounds_toArray, List.set_cons_zero, List.set_cons_succ]
          rw [if_pos (by rfl)]
          go_simp
          obtain ⟨X50, hX⟩ : ∃ Z, (X46.alloc (.cells #[.int .i64 0, .slice none 0 0, .slice none 0 0, .slice none 0 0, .slice none 0 0] 27)) = Z := ⟨_, rfl⟩
          have M50 : PkM w1 X50 R (some (.slice ca46 R.length cc46)) none (some (w1.heap.size)) (some (X46.heap.size)) := by rw [← hX]; exact M46.addD
          rw [hX]
          clear hX
          refine hK.out _ _ (cells_below m0 M50.bel (by omega)) (fun hHeld => ?_)
          clear hK K
          try simp only [Act.put, List.getElem_toArray, List.getElem_cons_succ, List.getElem_cons_zero, List.setIfInBounds_toArray, List.set_cons_zero, List.set_cons_succ]
          refine wpAnyH_ready (rs := [6]) (by kernel_rfl) (by simp) ?_
          refine AllReadyH.cons rfl (fun K hK => ?_) AllReadyH.nil
          · clear hHeld
            simp only [Act.put, List.getElem_toArray, List.getElem_cons_succ, List.getElem_cons_zero, List.setIfInBounds_toArray, List.set_cons_zero, List.set_cons_succ]
            rw [if_pos (by rfl)]
            go_simp
            obtain ⟨X51, hX⟩ : ∃ Z, (X50.alloc (.cells #[.int .i64 0, .string ⟨#[]⟩, .slice none 0 0] 61)) = Z := ⟨_, rfl⟩
            have M51 : PkM w1 X51 R (some (.slice ca46 R.length cc46)) (some (X50.heap.size)) (some (w1.heap.size)) (some (X46.heap.size)) := by rw [← hX]; exact M50.addS
            rw [hX]
            clear hX
            refine hK.out _ _ (cells_below m0 M51.bel (by omega)) (fun hHeld => ?_)
            clear hK K
            try simp only [Act.put, List.getElem_toArray, List.getElem_cons_succ, List.getElem_cons_zero, List.setIfInBounds_toArray, List.set_cons_zero, List.set_cons_succ]
            refine wpAnyH_take (i := 8) (v := .agg #[.int .i64 m.guest, (.slice ca46 R.length cc46), .slice (some ⟨X50.heap.size, 0, none⟩) 1 1, .slice (some ⟨w1.heap.size, 0, none⟩) 1 1, .slice none 0 0]) rfl (by kernel_rfl) (by kernel_rfl) (by kernel_rfl) (fun _ _ _ h => h) (Or.inl ⟨by rfl, fun w' hSw => by obtain ⟨j0, j1, j2, j3, j4⟩ := five hSw; go_simp⟩) hHeld ?_
            simp only [Act.put, List.getElem_toArray, List.getElem_cons_succ, List.getElem_cons_zero, List.setIfInBounds_toArray, List.set_cons_zero, List.set_cons_succ]
            refine wpAnyH_ready (rs := [10]) (by kernel_rfl) (by simp) ?_
            refine AllReadyH.cons rfl (fun K hK => ?_) AllReadyH.nil
            · clear hHeld
              simp only [Act.put, List.getElem_toArray, List.getElem_cons_succ, List.getElem_cons_zero, List.setIfInBounds_toArray, List.set_cons_zero, List.set_cons_succ]
              rw [if_pos (by rfl)]
              have zd := (M51.d _ rfl).2
              obtain ⟨z0, z1, z2, z3, z4⟩ := five zd
              have y0 := cells_frozen zd 0
              have y1 := cells_frozen zd 1
              have y2 := cells_frozen zd 2
              have y3 := cells_frozen zd 3
              have y4 := cells_frozen zd 4
              go_simp
              have hN := pk_first m.guest M51
              have hDw : w.heap.size ≠ X46.heap.size := by have := (M51.d _ rfl).1; omega
              refine hK.out _ _ ((five_farU _ _ _ _ _ hDw).trans (cells_below m0 M51.bel (by omega))) (fun hHeld => ?_)
              clear hK K hHeld z0 z1 z2 z3 z4 y0 y1 y2 y3 y4
              refine wpAnyH_done (by kernel_rfl) ?_ _
              go_wp2_with fail
              go_meet
              exact ⟨_, rfl, hN⟩
      · clear hHeld
        simp only [Act.put, List.getElem_toArray, List.getElem_cons_succ, List.getElem_cons_zero, List.setIfInBounds_toArray, List.set_cons_zero, List.set_cons_succ]
        rw [if_pos (by rfl)]
        go_simp
        obtain ⟨X53, hX⟩ : ∃ Z, (X45.alloc (.cells #[.int .i64 0, .string ⟨#[]⟩, .slice none 0 0] 61)) = Z := ⟨_, rfl⟩
        have M53 : PkM w1 X53 R none (some (X45.heap.size)) (some (w1.heap.size)) none := by rw [← hX]; exact M45.addS
        rw [hX]
        clear hX
        refine hK.out _ _ (cells_below m0 M53.bel (by omega)) (fun hHeld => ?_)
        clear hK K
        try simp only [Act.put, List.getElem_toArray, List.getElem_cons_succ, List.getElem_cons_zero, List.setIfInBounds_toArray, List.set_cons_zero, List.set_cons_succ]
        refine wpAnyH_ready (rs := [5, 9]) (by kernel_rfl) (by simp) ?_
        refine AllReadyH.cons rfl (fun K hK => ?_) (AllReadyH.cons rfl (fun K hK => ?_) AllReadyH.nil)
        · clear hHeld
          simp only [Act.put, List.getElem_toArray, List.getElem_cons_succ, List.getElem_cons_zero, List.setIfInBounds_toArray, List.set_cons_zero, List.set_cons_succ]
          rw [if_pos (by rfl)]
          go_wp2_with (go_at_call 47; refine (HAr.out _ M53.bel).mono ?_; rintro e9 X54 ⟨va54, rfl, hr54, hb54⟩; obtain ⟨ca54, cc54, rfl⟩ := row_slice hr54)
          have M54 : PkM w1 X54 R (some (.slice ca54 R.length cc54)) (some (X45.heap.size)) (some (w1.heap.size)) none := M53.addC hb54 hr54
          clear hb54 hr54
          refine hK.out _ _ (cells_below m0 M54.bel (by omega)) (fun hHeld => ?_)
          clear hK K
          try simp only [Act.put, List.getElem_toArray, List.getElem_cons_succ, List.getElem_cons_zero, List.setIfInBounds_toArray, List.set_cons_zero, List.set_cons_succ]
          refine wpAnyH_take (i := 8) (v := .agg #[.int .i64 m.guest, (.slice ca54 R.length cc54), .slice (some ⟨X45.heap.size, 0, none⟩) 1 1, .slice (some ⟨w1.heap.size, 0, none⟩) 1 1, .slice none 0 0]) rfl (by kernel_rfl) (by kernel_rfl) (by kernel_rfl) (fun _ _ _ h => h) (Or.inl ⟨by rfl, fun w' hSw => by obtain ⟨j0, j1, j2, j3, j4⟩ := five hSw; go_simp⟩) hHeld ?_
          simp only [Act.put, List.getElem_toArray, List.getElem_cons_succ, List.getElem_cons_zero, List.setIfInBounds_toArray, List.set_cons_zero, List.set_cons_succ]
          refine wpAnyH_ready (rs := [9]) (by kernel_rfl) (by simp) ?_
          refine AllReadyH.cons rfl (fun K hK => ?_) AllReadyH.nil
          · clear hHeld
            simp only [Act.put, List.getElem_toArray, List.getElem_cons_succ, List.getElem_cons_zero, List.setIfInBounds_toArray, List.set_cons_zero, List.set_cons_succ]
            rw [if_pos (by rfl)]
            go_simp
            obtain ⟨X55, hX⟩ : ∃ Z, (X54.alloc (.cells #[.int .i64 0, .slice none 0 0, .slice none 0 0, .slice none 0 0, .slice none 0 0] 27)) = Z := ⟨_, rfl⟩
            have M55 : PkM w1 X55 R (some (.slice ca54 R.length cc54)) (some (X45.heap.size)) (some (w1.heap.size)) (some (X54.heap.size)) := by rw [← hX]; exact M54.addD
            rw [hX]
            clear hX
            refine hK.out _ _ (cells_below m0 M55.bel (by omega)) (fun hHeld => ?_)
            clear hK K
            try simp only [Act.put, List.getElem_toArray, List.getElem_cons_succ, List.getElem_cons_zero, List.setIfInBounds_toArray, List.set_cons_zero, List.set_cons_succ]
            refine wpAnyH_ready (rs := [10]) (by kernel_rfl) (by simp) ?_
            refine AllReadyH.cons rfl (fun K hK => ?_) AllReadyH.nil
            · clear hHeld
              simp only [Act.put, List.getElem_toArray, List.getElem_cons_succ, List.getElem_cons_zero, List.setIfInBounds_toArray, List.set_cons_zero, List.set_cons_succ]
              rw [if_pos (by rfl)]
              have zd := (M55.d _ rfl).2
              obtain ⟨z0, z1, z2, z3, z4⟩ := five zd
              have y0 := cells_frozen zd 0
              have y1 := cells_frozen zd 1
              have y2 := cells_frozen zd 2
              have y3 := cells_frozen zd 3
              have y4 := cells_frozen zd 4
              go_simp
              have hN := pk_first m.guest M55
              have hDw : w.heap.size ≠ X54.heap.size := by have := (M55.d _ rfl).1; omega
              refine hK.out _ _ ((five_farU _ _ _ _ _ hDw).trans (cells_below m0 M55.bel (by omega))) (fun hHeld => ?_)
              clear hK K hHeld z0 z1 z2 z3 z4 y0 y1 y2 y3 y4
              refine wpAnyH_done (by kernel_rfl) ?_ _
              go_wp2_with fail
              go_meet
              exact ⟨_, rfl, hN⟩
        · clear hHeld
          simp only [Act.put, List.getElem_toArray, List.getElem_cons_succ, List.getElem_cons_zero, List.setIfInBounds_toArray, List.set_cons_zero, List.set_cons_succ]
          rw [if_pos (by rfl)]
          go_simp
          obtain ⟨X57, hX⟩ : ∃ Z, (X53.alloc (.cells #[.int .i64 0, .slice none 0 0, .slice none 0 0, .slice none 0 0, .slice none 0 0] 27)) = Z := ⟨_, rfl⟩
          have M57 : PkM w1 X57 R none (some (X45.heap.size)) (some (w1.heap.size)) (some (X53.heap.size)) := by rw [← hX]; exact M53.addD
          rw [hX]
          clear hX
          refine hK.out _ _ (cells_below m0 M57.bel (by omega)) (fun hHeld => ?_)
          clear hK K
          try simp only [Act.put, List.getElem_toArray, List.getElem_cons_succ, List.getElem_cons_zero, List.setIfInBounds_toArray, List.set_cons_zero, List.set_cons_succ]
          refine wpAnyH_ready (rs := [5]) (by kernel_rfl) (by simp) ?_
          refine AllReadyH.cons rfl (fun K hK => ?_) AllReadyH.nil
          · clear hHeld
            simp only [Act.put, List.getElem_toArray, List.getElem_cons_succ, List.getElem_cons_zero, List.setIfInBounds_toArray, List.set_cons_zero, List.set_cons_succ]
            rw [if_pos (by rfl)]
            go_wp2_with (go_at_call 47; refine (HAr.out _ M57.bel).mono ?_; rintro e9 X58 ⟨va58, rfl, hr58, hb58⟩; obtain ⟨ca58, cc58, rfl⟩ := row_slice hr58)
            have M58 : PkM w1 X58 R (some (.slice ca58 R.length cc58)) (some (X45.heap.size)) (some (w1.heap.size)) (some (X53.heap.size)) := M57.addC hb58 hr58
            clear hb58 hr58
            refine hK.out _ _ (cells_below m0 M58.bel (by omega)) (fun hHeld => ?_)
            clear hK K
            try simp only [Act.put, List.getElem_toArray, List.getElem_cons_succ, List.getElem_cons_zero, List.setIfInBounds_toArray, List.set_cons_zero, List.set_cons_succ]
            refine wpAnyH_take (i := 8) (v := .agg #[.int .i64 m.guest, (.slice ca58 R.length cc58), .slice (some ⟨X45.heap.size, 0, none⟩) 1 1, .slice (some ⟨w1.heap.size, 0, none⟩) 1 1, .slice none 0 0]) rfl (by kernel_rfl) (by kernel_rfl) (by kernel_rfl) (fun _ _ _ h => h) (Or.inl ⟨by rfl, fun w' hSw => by obtain ⟨j0, j1, j2, j3, j4⟩ := five hSw; go_simp⟩) hHeld ?_
            simp only [Act.put, List.getElem_toArray, List.getElem_cons_succ, List.getElem_cons_zero, List.setIfInBounds_toArray, List.set_cons_zero, List.set_cons_succ]
            refine wpAnyH_ready (rs := [10]) (by kernel_rfl) (by simp) ?_
            refine AllReadyH.cons rfl (fun K hK => ?_) AllReadyH.nil
            · clear hHeld
              simp only [Act.put, List.getElem_toArray, List.getElem_cons_succ, List.getElem_cons_zero, List.setIfInBounds_toArray, List.set_cons_zero, List.set_cons_succ]
              rw [if_pos (by rfl)]
              have zd := (M58.d _ rfl).2
              obtain ⟨z0, z1, z2, z3, z4⟩ := five zd
              have y0 := cells_frozen zd 0
              have y1 := cells_frozen zd 1
              have y2 := cells_frozen zd 2
              have y3 := cells_frozen zd 3
              have y4 := cells_frozen zd 4
              go_simp
              have hN := pk_first m.guest M58
              have hDw : w.heap.size ≠ X53.heap.size := by have := (M58.d _ rfl).1; omega
              refine hK.out _ _ ((five_farU _ _ _ _ _ hDw).trans (cells_below m0 M58.bel (by omega))) (fun hHeld => ?_)
              clear hK K hHeld z0 z1 z2 z3 z4 y0 y1 y2 y3 y4
              refine wpAnyH_done (by kernel_rfl) ?_ _
              go_wp2_with fail
              go_meet
              exact ⟨_, rfl, hN⟩
      · clear hHeld
        simp only [Act.put, List.getElem_toArray, List.getElem_cons_succ, List.getElem_cons_zero, List.setIfInBounds_toArray, List.set_cons_zero, List.set_cons_succ]
        rw [if_pos (by rfl)]
        go_simp
        obtain ⟨X60, hX⟩ : ∃ Z, (X45.alloc (.cells #[.int .i64 0, .slice none 0 0, .slice none 0 0, .slice none 0 0, .slice none 0 0] 27)) = Z := ⟨_, rfl⟩
        have M60 : PkM w1 X60 R none none (some (w1.heap.size)) (some (X45.heap.size)) := by rw [← hX]; exact M45.addD
        rw [hX]
        clear hX
        refine hK.out _ _ (cells_below m0 M60.bel (by omega)) (fun hHeld => ?_)
        clear hK K
        try simp only [Act.put, List.getElem_toArray, List.getElem_cons_succ, List.getElem_cons_zero, List.setIfInBounds_toArray, List.set_cons_zero, List.set_cons_succ]
        refine wpAnyH_ready (rs := [5, 6]) (by kernel_rfl) (by simp) ?_
        refine AllReadyH.cons rfl (fun K hK => ?_) (AllReadyH.cons rfl (fun K hK => ?_) AllReadyH.nil)
        · clear hHeld
          simp only [Act.put, List.getElem_toArray, List.getElem_cons_succ, List.getElem_cons_zero, List.setIfInBounds_toArray, List.set_cons_zero, List.set_cons_succ]
          rw [if_pos (by rfl)]
          go_wp2_with (go_at_call 47; refine (HAr.out _ M60.bel).mono ?_; rintro e9 X61 ⟨va61, rfl, hr61, hb61⟩; obtain ⟨ca61, cc61, rfl⟩ := row_slice hr61)
          have M61 : PkM w1 X61 R (some (.slice ca61 R.length cc61)) none (some (w1.heap.size)) (some (X45.heap.size)) := M60.addC hb61 hr61
          clear hb61 hr61
          refine hK.out _ _ (cells_below m0 M61.bel (by omega)) (fun hHeld => ?_)
          clear hK K
          try simp only [Act.put, List.getElem_toArray, List.getElem_cons_succ, List.getElem_cons_zero, List.setIfInBounds_toArray, List.set_cons_zero, List.set_cons_succ]
          refine wpAnyH_ready (rs := [6]) (by kernel_rfl) (by simp) ?_
          refine AllReadyH.cons rfl (fun K hK => ?_) AllReadyH.nil
          · clear hHeld
            simp only [Act.put, List.getElem_toArray, List.getElem_cons_succ, List.getElem_cons_zero, List.setIfInBounds_toArray, List.set_cons_zero, List.set_cons_succ]
            rw [if_pos (by rfl)]
            go_simp
            obtain ⟨X62, hX⟩ : ∃ Z, (X61.alloc (.cells #[.int .i64 0, .string ⟨#[]⟩, .slice none 0 0] 61)) = Z := ⟨_, rfl⟩
            have M62 : PkM w1 X62 R (some (.slice ca61 R.length cc61)) (some (X61.heap.size)) (some (w1.heap.size)) (some (X45.heap.size)) := by rw [← hX]; exact M61.addS
            rw [hX]
            clear hX
            refine hK.out _ _ (cells_below m0 M62.bel (by omega)) (fun hHeld => ?_)
            clear hK K
            try simp only [Act.put, List.getElem_toArray, List.getElem_cons_succ, List.getElem_cons_zero, List.setIfInBounds_toArray, List.set_cons_zero, List.set_cons_succ]
            refine wpAnyH_take (i := 8) (v := .agg #[.int .i64 m.guest, (.slice ca61 R.length cc61), .slice (some ⟨X61.heap.size, 0, none⟩) 1 1, .slice (some ⟨w1.heap.size, 0, none⟩) 1 1, .slice none 0 0]) rfl (by kernel_rfl) (by kernel_rfl) (by kernel_rfl) (fun _ _ _ h => h) (Or.inl ⟨by rfl, fun w' hSw => by obtain ⟨j0, j1, j2, j3, j4⟩ := five hSw; go_simp⟩) hHeld ?_
            simp only [Act.put, List.getElem_toArray, List.getElem_cons_succ, List.getElem_cons_zero, List.setIfInBounds_toArray, List.set_cons_zero, List.set_cons_succ]
            refine wpAnyH_ready (rs := [10]) (by kernel_rfl) (by simp) ?_
            refine AllReadyH.cons rfl (fun K hK => ?_) AllReadyH.nil
            · clear hHeld
              simp only [Act.put, List.getElem_toArray, List.getElem_cons_succ, List.getElem_cons_zero, List.setIfInBounds_toArray, List.set_cons_zero, List.set_cons_succ]
              rw [if_pos (by rfl)]
              have zd := (M62.d _ rfl).2
              obtain ⟨z0, z1, z2, z3, z4⟩ := five zd
              have y0 := cells_frozen zd 0
              have y1 := cells_frozen zd 1
              have y2 := cells_frozen zd 2
              have y3 := cells_frozen zd 3
              have y4 := cells_frozen zd 4
              go_simp
              have hN := pk_first m.guest M62
              have hDw : w.heap.size ≠ X45.heap.size := by have := (M62.d _ rfl).1; omega
              refine hK.out _ _ ((five_farU _ _ _ _ _ hDw).trans (cells_below m0 M62.bel (by omega))) (fun hHeld => ?_)
              clear hK K hHeld z0 z1 z2 z3 z4 y0 y1 y2 y3 y4
              refine wpAnyH_done (by kernel_rfl) ?_ _
              go_wp2_with fail
              go_meet
              exact ⟨_, rfl, hN⟩
        · clear hHeld
          simp only [Act.put, List.getElem_toArray, List.getElem_cons_succ, List.getElem_cons_zero, List.setIfInBounds_toArray, List.set_cons_zero, List.set_cons_succ]
          rw [if_pos (by rfl)]
          go_simp
          obtain ⟨X64, hX⟩ : ∃ Z, (X60.alloc (.cells #[.int .i64 0, .string ⟨#[]⟩, .slice none 0 0] 61)) = Z := ⟨_, rfl⟩
          have M64 : PkM w1 X64 R none (some (X60.heap.size)) (some (w1.heap.size)) (some (X45.heap.size)) := by rw [← hX]; exact M60.addS
          rw [hX]
          clear hX
          refine hK.out _ _ (cells_below m0 M64.bel (by omega)) (fun hHeld => ?_)
          clear hK K
          try simp only [Act.put, List.getElem_toArray, List.getElem_cons_succ, List.getElem_cons_zero, List.setIfInBounds_toArray, List.set_cons_zero, List.set_cons_succ]
          refine wpAnyH_ready (rs := [5]) (by kernel_rfl) (by simp) ?_
          refine AllReadyH.cons rfl (fun K hK => ?_) AllReadyH.nil
          · clear hHeld
            simp only [Act.put, List.getElem_toArray, List.getElem_cons_succ, List.getElem_cons_zero, List.setIfInBounds_toArray, List.set_cons_zero, List.set_cons_succ]
            rw [if_pos (by rfl)]
            go_wp2_with (go_at_call 47; refine (HAr.out _ M64.bel).mono ?_; rintro e9 X65 ⟨va65, rfl, hr65, hb65⟩; obtain ⟨ca65, cc65, rfl⟩ := row_slice hr65)
            have M65 : PkM w1 X65 R (some (.slice ca65 R.length cc65)) (some (X60.heap.size)) (some (w1.heap.size)) (some (X45.heap.size)) := M64.addC hb65 hr65
            clear hb65 hr65
            refine hK.out _ _ (cells_below m0 M65.bel (by omega)) (fun hHeld => ?_)
            clear hK K
            try simp only [Act.put, List.getElem_toArray, List.getElem_cons_succ, List.getElem_cons_zero, List.setIfInBounds_toArray, List.set_cons_zero, List.set_cons_succ]
            refine wpAnyH_take (i := 8) (v := .agg #[.int .i64 m.guest, (.slice ca65 R.length cc65), .slice (some ⟨X60.heap.size, 0, none⟩) 1 1, .slice (some ⟨w1.heap.size, 0, none⟩) 1 1, .slice none 0 0]) rfl (by kernel_rfl) (by kernel_rfl) (by kernel_rfl) (fun _ _ _ h => h) (Or.inl ⟨by rfl, fun w' hSw => by obtain ⟨j0, j1, j2, j3, j4⟩ := five hSw; go_simp⟩) hHeld ?_
            simp only [Act.put, List.getElem_toArray, List.getElem_cons_succ, List.getElem_cons_zero, List.setIfInBounds_toArray, List.set_cons_zero, List.set_cons_succ]
            refine wpAnyH_ready (rs := [10]) (by kernel_rfl) (by simp) ?_
            refine AllReadyH.cons rfl (fun K hK => ?_) AllReadyH.nil
            · clear hHeld
              simp only [Act.put, List.getElem_toArray, List.getElem_cons_succ, List.getElem_cons_zero, List.setIfInBounds_toArray, List.set_cons_zero, List.set_cons_succ]
              rw [if_pos (by rfl)]
              have zd := (M65.d _ rfl).2
              obtain ⟨z0, z1, z2, z3, z4⟩ := five zd
              have y0 := cells_frozen zd 0
              have y1 := cells_frozen zd 1
              have y2 := cells_frozen zd 2
              have y3 := cells_frozen zd 3
              have y4 := cells_frozen zd 4
              go_simp
              have hN := pk_first m.guest M65
              have hDw : w.heap.size ≠ X45.heap.size := by have := (M65.d _ rfl).1; omega
              refine hK.out _ _ ((five_farU _ _ _ _ _ hDw).trans (cells_below m0 M65.bel (by omega))) (fun hHeld => ?_)
              clear hK K hHeld z0 z1 z2 z3 z4 y0 y1 y2 y3 y4
              refine wpAnyH_done (by kernel_rfl) ?_ _
              go_wp2_with fail
              go_meet
              exact ⟨_, rfl, hN⟩
    · clear hHeld
      simp only [Act.put, List.getElem_toArray, List.getElem_cons_succ, List.getElem_cons_zero, List.setIfInBounds_toArray, List.set_cons_zero, List.set_cons_succ]
      rw [if_pos (by rfl)]
      go_simp
      obtain ⟨X67, hX⟩ : ∃ Z, (w1.alloc (.cells #[.int .i64 0, .slice none 0 0, .slice none 0 0, .slice none 0 0, .slice none 0 0] 27)).drew = Z := ⟨_, rfl⟩
      have M67 : PkM w1 X67 R none none none (some (w1.heap.size)) := by rw [← hX]; exact (MZ.addD).drew
      rw [hX]
      clear hX
      refine hK.out _ _ (cells_below m0 M67.bel (by omega)) (fun hHeld => ?_)
      clear hK K
      try simp only [Act.put, List.getElem_toArray, List.getElem_cons_succ, List.getElem_cons_zero, List.setIfInBounds_toArray, List.set_cons_zero, List.set_cons_succ]
      refine wpAnyH_ready (rs := [5, 6, 7]) (by kernel_rfl) (by simp) ?_
      refine AllReadyH.cons rfl (fun K hK => ?_) (AllReadyH.cons rfl (fun K hK => ?_) (AllReadyH.cons rfl (fun K hK => ?_) AllReadyH.nil))
      · clear hHeld
        simp only [Act.put, List.getElem_toArray, List.getElem_cons_succ, List.getElem_cons_zero, List.setIfInBounds_toArray, List.set_cons_zero, List.set_cons_succ]
        rw [if_pos (by rfl)]
        go_wp2_with (go_at_call 47; refine (HAr.out _ M67.bel).mono ?_; rintro e9 X68 ⟨va68, rfl, hr68, hb68⟩; obtain ⟨ca68, cc68, rfl⟩ := row_slice hr68)
        have M68 : PkM w1 X68 R (some (.slice ca68 R.length cc68)) none none (some (w1.heap.size)) := M67.addC hb68 hr68
        clear hb68 hr68
        refine hK.out _ _ (cells_below m0 M68.bel (by omega)) (fun hHeld => ?_)
        clear hK K
        try simp only [Act.put, List.getElem_toArray, List.getElem_cons_succ, List.getElem_cons_zero, List.setIfInBounds_toArray, List.set_cons_zero, List.set_cons_succ]
        refine wpAnyH_ready (rs := [6, 7]) (by kernel_rfl) (by simp) ?_
        refine AllReadyH.cons rfl (fun K hK => ?_) (AllReadyH.cons rfl (fun K hK => ?_) AllReadyH.nil)
        · clear hHeld
          simp only [Act.put, List.getElem_toArray, List.getElem_cons_succ, List.getElem_cons_zero, List.setIfInBounds_toArray, List.set_cons_zero, List.set_cons_succ]
          rw [if_pos (by rfl)]
          go_simp
          obtain ⟨X69, hX⟩ : ∃ Z, (X68.alloc (.cells #[.int .i64 0, .string ⟨#[]⟩, .slice none 0 0] 61)) = Z := ⟨_, rfl⟩
          have M69 : PkM w1 X69 R (some (.slice ca68 R.length cc68)) (some (X68.heap.size)) none (some (w1.heap.size)) := by rw [← hX]; exact M68.addS
          rw [hX]
          clear hX
          refine hK.out _ _ (cells_below m0 M69.bel (by omega)) (fun hHeld => ?_)
          clear hK K
          try simp only [Act.put, List.getElem_toArray, List.getElem_cons_succ, List.getElem_cons_zero, List.setIfInBounds_toArray, List.set_cons_zero, List.set_cons_succ]
          refine wpAnyH_ready (rs := [7]) (by kernel_rfl) (by simp) ?_
          refine AllReadyH.cons rfl (fun K hK => ?_) AllReadyH.nil
          · clear hHeld
            simp only [Act.put, List.getElem_toArray, List.getElem_cons_succ, List.getElem_cons_zero, List.setIfInBounds_toArray, List.set_cons_zero, List.set_cons_succ]
            rw [if_pos (by rfl)]
            go_simp
            obtain ⟨X70, hX⟩ : ∃ Z, (X69.alloc (.cells #[.int .i64 0] 3)) = Z := ⟨_, rfl⟩
            have M70 : PkM w1 X70 R (some (.slice ca68 R.length cc68)) (some (X68.heap.size)) (some (X69.heap.size)) (some (w1.heap.size)) := by rw [← hX]; exact M69.addF
            rw [hX]
            clear hX
            refine hK.out _ _ (cells_below m0 M70.bel (by omega)) (fun hHeld => ?_)
            clear hK K
            try simp only [Act.put, List.getElem_toArray, List.getElem_cons_succ, List.getElem_cons_zero, List.setIfInBounds_toArray, List.set_cons_zero, List.set_cons_succ]
            refine wpAnyH_take (i := 8) (v := .agg #[.int .i64 m.guest, (.slice ca68 R.length cc68), .slice (some ⟨X68.heap.size, 0, none⟩) 1 1, .slice (some ⟨X69.heap.size, 0, none⟩) 1 1, .slice none 0 0]) rfl (by kernel_rfl) (by kernel_rfl) (by kernel_rfl) (fun _ _ _ h => h) (Or.inl ⟨by rfl, fun w' hSw => by obtain ⟨j0, j1, j2, j3, j4⟩ := five hSw; go_simp⟩) hHeld ?_
            simp only [Act.put, List.getElem_toArray, List.getElem_cons_succ, List.getElem_cons_zero, List.setIfInBounds_toArray, List.set_cons_zero, List.set_cons_succ]
            refine wpAnyH_ready (rs := [10]) (by kernel_rfl) (by simp) ?_
            refine AllReadyH.cons rfl (fun K hK => ?_) AllReadyH.nil
            · clear hHeld
              simp only [Act.put, List.getElem_toArray, List.getElem_cons_succ, List.getElem_cons_zero, List.setIfInBounds_toArray, List.set_cons_zero, List.set_cons_succ]
              rw [if_pos (by rfl)]
              have zd := (M70.d _ rfl).2
              obtain ⟨z0, z1, z2, z3, z4⟩ := five zd
              have y0 := cells_frozen zd 0
              have y1 := cells_frozen zd 1
              have y2 := cells_frozen zd 2
              have y3 := cells_frozen zd 3
              have y4 := cells_frozen zd 4
              go_simp
              have hN := pk_first m.guest M70
              have hDw : w.heap.size ≠ w1.heap.size := by have := (M70.d _ rfl).1; omega
              refine hK.out _ _ ((five_farU _ _ _ _ _ hDw).trans (cells_below m0 M70.bel (by omega))) (fun hHeld => ?_)
              clear hK K hHeld z0 z1 z2 z3 z4 y0 y1 y2 y3 y4
              refine wpAnyH_done (by kernel_rfl) ?_ _
              go_wp2_with fail
              go_meet
              exact ⟨_, rfl, hN⟩
        · clear hHeld
          simp only [Act.put, List.getElem_toArray, List.getElem_cons_succ, List.getElem_cons_zero, List.setIfInBounds_toArray, List.set_cons_zero, List.set_cons_succ]
          rw [if_pos (by rfl)]
          go_simp
          obtain ⟨X72, hX⟩ : ∃ Z, (X68.alloc (.cells #[.int .i64 0] 3)) = Z := ⟨_, rfl⟩
          have M72 : PkM w1 X72 R (some (.slice ca68 R.length cc68)) none (some (X68.heap.size)) (some (w1.heap.size)) := by rw [← hX]; exact M68.addF
          rw [hX]
          clear hX
          refine hK.out _ _ (cells_below m0 M72.bel (by omega)) (fun hHeld => ?_)
          clear hK K
          try simp only [Act.put, List.getElem_toArray, List.getElem_cons_succ, List.getElem_cons_zero, List.setIfInBounds_toArray, List.set_cons_zero, List.set_cons_succ]
          refine wpAnyH_ready (rs := [6]) (by kernel_rfl) (by simp) ?_
          refine AllReadyH.cons rfl (fun K hK => ?_) AllReadyH.nil
          · clear hHeld
            simp only [Act.put, List.getElem_toArray, List.getElem_cons_succ, List.getElem_cons_zero, List.setIfInBounds_toArray, List.set_cons_zero, List.set_cons_succ]
            rw [if_pos (by rfl)]
            go_simp
            obtain ⟨X73, hX⟩ : ∃ Z, (X72.alloc (.cells #[.int .i64 0, .string ⟨#[]⟩, .slice none 0 0] 61)) = Z := ⟨_, rfl⟩
            have M73 : PkM w1 X73 R (some (.slice ca68 R.length cc68)) (some (X72.heap.size)) (some (X68.heap.size)) (some (w1.heap.size)) := by rw [← hX]; exact M72.addS
            rw [hX]
            clear hX
            refine hK.out _ _ (cells_below m0 M73.bel (by omega)) (fun hHeld => ?_)
            clear hK K
            try simp only [Act.put, List.getElem_toArray, List.getElem_cons_succ, List.getElem_cons_zero, List.setIfInBounds_toArray, List.set_cons_zero, List.set_cons_succ]
            refine wpAnyH_take (i := 8) (v := .agg #[.int .i64 m.guest, (.slice ca68 R.length cc68), .slice (some ⟨X72.heap.size, 0, none⟩) 1 1, .slice (some ⟨X68.heap.size, 0, none⟩) 1 1, .slice none 0 0]) rfl (by kernel_rfl) (by kernel_rfl) (by kernel_rfl) (fun _ _ _ h => h) (Or.inl ⟨by rfl, fun w' hSw => by obtain ⟨j0, j1, j2, j3, j4⟩ := five hSw; go_simp⟩) hHeld ?_
            simp only [Act.put, List.getElem_toArray, List.getElem_cons_succ, List.getElem_cons_zero, List.setIfInBounds_toArray, List.set_cons_zero, List.set_cons_succ]
            refine wpAnyH_ready (rs := [10]) (by kernel_rfl) (by simp) ?_
            refine AllReadyH.cons rfl (fun K hK => ?_) AllReadyH.nil
            · clear hHeld
              simp only [Act.put, List.getElem_toArray, List.getElem_cons_succ, List.getElem_cons_zero, List.setIfInBounds_toArray, List.set_cons_zero, List.set_cons_succ]
              rw [if_pos (by rfl)]
              have zd := (M73.d _ rfl).2
              obtain ⟨z0, z1, z2, z3, z4⟩ := five zd
              have y0 := cells_frozen zd 0
              have y1 := cells_frozen zd 1
              have y2 := cells_frozen zd 2
              have y3 := cells_frozen zd 3
              have y4 := cells_frozen zd 4
              go_simp
              have hN := pk_first m.guest M73
              have hDw : w.heap.size ≠ w1.heap.size := by have := (M73.d _ rfl).1; omega
              refine hK.out _ _ ((five_farU _ _ _ _ _ hDw).trans (cells_below m0 M73.bel (by omega))) (fun hHeld => ?_)
              clear hK K hHeld z0 z1 z2 z3 z4 y0 y1 y2 y3 y4
              refine wpAnyH_done (by kernel_rfl) ?_ _
              go_wp2_with fail
              go_meet
              exact ⟨_, rfl, hN⟩
      · clear hHeld
        simp only [Act.put, List.getElem_toArray, List.getElem_cons_succ, List.getElem_cons_zero, List.setIfInBounds_toArray, List.set_cons_zero, List.set_cons_succ]
        rw [if_pos (by rfl)]
        go_simp
        obtain ⟨X75, hX⟩ : ∃ Z, (X67.alloc (.cells #[.int .i64 0, .string ⟨#[]⟩, .slice none 0 0] 61)) = Z := ⟨_, rfl⟩
        have M75 : PkM w1 X75 R none (some (X67.heap.size)) none (some (w1.heap.size)) := by rw [← hX]; exact M67.addS
        rw [hX]
        clear hX
        refine hK.out _ _ (cells_below m0 M75.bel (by omega)) (fun hHeld => ?_)
        clear hK K
        try simp only [Act.put, List.getElem_toArray, List.getElem_cons_succ, List.getElem_cons_zero, List.setIfInBounds_toArray, List.set_cons_zero, List.set_cons_succ]
        refine wpAnyH_ready (rs := [5, 7]) (by kernel_rfl) (by simp) ?_
        refine AllReadyH.cons rfl (fun K hK => ?_) (AllReadyH.cons rfl (fun K hK => ?_) AllReadyH.nil)
        · clear hHeld
          simp only [Act.put, List.getElem_toArray, List.getElem_cons_succ, List.getElem_cons_zero, List.setIfInBounds_toArray, List.set_cons_zero, List.set_cons_succ]
          rw [if_pos (by rfl)]
          go_wp2_with (go_at_call 47; refine (HAr.out _ M75.bel).mono ?_; rintro e9 X76 ⟨va76, rfl, hr76, hb76⟩; obtain ⟨ca76, cc76, rfl⟩ := row_slice hr76)
          have M76 : PkM w1 X76 R (some (.slice ca76 R.length cc76)) (some (X67.heap.size)) none (some (w1.heap.size)) := M75.addC hb76 hr76
          clear hb76 hr76
          refine hK.out _ _ (cells_below m0 M76.bel (by omega)) (fun hHeld => ?_)
          clear hK K
          try simp only [Act.put, List.getElem_toArray, List.getElem_cons_succ, List.getElem_cons_zero, List.setIfInBounds_toArray, List.set_cons_zero, List.set_cons_succ]
          refine wpAnyH_ready (rs := [7]) (by kernel_rfl) (by simp) ?_
          refine AllReadyH.cons rfl (fun K hK => ?_) AllReadyH.nil
          · clear hHeld
            simp only [Act.put, List.getElem_toArray, List.getElem_cons_succ, List.getElem_cons_zero, List.setIfInBounds_toArray, List.set_cons_zero, List.set_cons_succ]
            rw [if_pos (by rfl)]
            go_simp
            obtain ⟨X77, hX⟩ : ∃ Z, (X76.alloc (.cells #[.int .i64 0] 3)) = Z := ⟨_, rfl⟩
            have M77 : PkM w1 X77 R (some (.slice ca76 R.length cc76)) (some (X67.heap.size)) (some (X76.heap.size)) (some (w1.heap.size)) := by rw [← hX]; exact M76.addF
            rw [hX]
            clear hX
            refine hK.out _ _ (cells_below m0 M77.bel (by omega)) (fun hHeld => ?_)
            clear hK K
            try simp only [Act.put, List.getElem_toArray, List.getElem_cons_succ, List.getElem_cons_zero, List.setIfInBounds_toArray, List.set_cons_zero, List.set_cons_succ]
            refine wpAnyH_take (i := 8) (v := .agg #[.int .i64 m.guest, (.slice ca76 R.length cc76), .slice (some ⟨X67.heap.size, 0, none⟩) 1 1, .slice (some ⟨X76.heap.size, 0, none⟩) 1 1, .slice none 0 0]) rfl (by kernel_rfl) (by kernel_rfl) (by kernel_rfl) (fun _ _ _ h => h) (Or.inl ⟨by rfl, fun w' hSw => by obtain ⟨j0, j1, j2, j3, j4⟩ := five hSw; go_simp⟩) hHeld ?_
            simp only [Act.put, List.getElem_toArray, List.getElem_cons_succ, List.getElem_cons_zero, List.setIfInBounds_toArray, List.set_cons_zero, List.set_cons_succ]
            refine wpAnyH_ready (rs := [10]) (by kernel_rfl) (by simp) ?_
            refine AllReadyH.cons rfl (fun K hK => ?_) AllReadyH.nil
            · clear hHeld
              simp only [Act.put, List.getElem_toArray, List.getElem_cons_succ, List.getElem_cons_zero, List.setIfInBounds_toArray, List.set_cons_zero, List.set_cons_succ]
              rw [if_pos (by rfl)]
              have zd := (M77.d _ rfl).2
              obtain ⟨z0, z1, z2, z3, z4⟩ := five zd
              have y0 := cells_frozen zd 0
              have y1 := cells_frozen zd 1
              have y2 := cells_frozen zd 2
              have y3 := cells_frozen zd 3
              have y4 := cells_frozen zd 4
              go_simp
              have hN := pk_first m.guest M77
              have hDw : w.heap.size ≠ w1.heap.size := by have := (M77.d _ rfl).1; omega
              refine hK.out _ _ ((five_farU _ _ _ _ _ hDw).trans (cells_below m0 M77.bel (by omega))) (fun hHeld => ?_)
              clear hK K hHeld z0 z1 z2 z3 z4 y0 y1 y2 y3 y4
              refine wpAnyH_done (by kernel_rfl) ?_ _
              go_wp2_with fail
              go_meet
              exact ⟨_, rfl, hN⟩
        · clear hHeld
          simp only [Act.put, List.getElem_toArray, List.getElem_cons_succ, List.getElem_cons_zero, List.setIfInBounds_toArray, List.set_cons_zero, List.set_cons_succ]
          rw [if_pos (by rfl)]
          go_simp
          obtain ⟨X79, hX⟩ : ∃ Z, (X75.alloc (.cells #[.int .i64 0] 3)) = Z := ⟨_, rfl⟩
          have M79 : PkM w1 X79 R none (some (X67.heap.size)) (some (X75.heap.size)) (some (w1.heap.size)) := by rw [← hX]; exact M75.addF
          rw [hX]
          clear hX
          refine hK.out _ _ (cells_below m0 M79.bel (by omega)) (fun hHeld => ?_)
          clear hK K
          try simp only [Act.put, List.getElem_toArray, List.getElem_cons_succ, List.getElem_cons_zero, List.setIfInBounds_toArray, List.set_cons_zero, List.set_cons_succ]
          refine wpAnyH_ready (rs := [5]) (by kernel_rfl) (by simp) ?_
          refine AllReadyH.cons rfl (fun K hK => ?_) AllReadyH.nil
          · clear hHeld
            simp only [Act.put, List.getElem_toArray, List.getElem_cons_succ, List.getElem_cons_zero, List.setIfInBounds_toArray, List.set_cons_zero, List.set_cons_succ]
            rw [if_pos (by rfl)]
            go_wp2_with (go_at_call 47; refine (HAr.out _ M79.bel).mono ?_; rintro e9 X80 ⟨va80, rfl, hr80, hb80⟩; obtain ⟨ca80, cc80, rfl⟩ := row_slice hr80)
            have M80 : PkM w1 X80 R (some (.slice ca80 R.length cc80)) (some (X67.heap.size)) (some (X75.heap.size)) (some (w1.heap.size)) := M79.addC hb80 hr80
            clear hb80 hr80
            refine hK.out _ _ (cells_below m0 M80.bel (by omega)) (fun hHeld => ?_)
            clear hK K
            try simp only [Act.put, List.getElem_toArray, List.getElem_cons_succ, List.getElem_cons_zero, List.setIfInBounds_toArray, List.set_cons_zero, List.set_cons_succ]
            refine wpAnyH_take (i := 8) (v := .agg #[.int .i64 m.guest, (.slice ca80 R.length cc80), .slice (some ⟨X67.heap.size, 0, none⟩) 1 1, .slice (some ⟨X75.heap.size, 0, none⟩) 1 1, .slice none 0 0]) rfl (by kernel_rfl) (by kernel_rfl) (by kernel_rfl) (fun _ _ _ h => h) (Or.inl ⟨by rfl, fun w' hSw => by obtain ⟨j0, j1, j2, j3, j4⟩ := five hSw; go_simp⟩) hHeld ?_
            simp only [Act.put, List.getElem_toArray, List.getElem_cons_succ, List.getElem_cons_zero, List.setIfInBounds_toArray, List.set_cons_zero, List.set_cons_succ]
            refine wpAnyH_ready (rs := [10]) (by kernel_rfl) (by simp) ?_
            refine AllReadyH.cons rfl (fun K hK => ?_) AllReadyH.nil
            · clear hHeld
              simp only [Act.put, List.getElem_toArray, List.getElem_cons_succ, List.getElem_cons_zero, List.setIfInBounds_toArray, List.set_cons_zero, List.set_cons_succ]
              rw [if_pos (by rfl)]
              have zd := (M80.d _ rfl).2
              obtain ⟨z0, z1, z2, z3, z4⟩ := five zd
              have y0 := cells_frozen zd 0
              have y1 := cells_frozen zd 1
              have y2 := cells_frozen zd 2
              have y3 := cells_frozen zd 3
              have y4 := cells_frozen zd 4
              go_simp
              have hN := pk_first m.guest M80
              have hDw : w.heap.size ≠ w1.heap.size := by have := (M80.d _ rfl).1; omega
              refine hK.out _ _ ((five_farU _ _ _ _ _ hDw).trans (cells_below m0 M80.bel (by omega))) (fun hHeld => ?_)
              clear hK K hHeld z0 z1 z2 z3 z4 y0 y1 y2 y3 y4
              refine wpAnyH_done (by kernel_rfl) ?_ _
              go_wp2_with fail
              go_meet
              exact ⟨_, rfl, hN⟩
      · clear hHeld
        simp only [Act.put, List.getElem_toArray, List.getElem_cons_succ, List.getElem_cons_zero, List.setIfInBounds_toArray, List.set_cons_zero, List.set_cons_succ]
        rw [if_pos (by rfl)]
        go_simp
        obtain ⟨X82, hX⟩ : ∃ Z, (X67.alloc (.cells #[.int .i64 0] 3)) = Z := ⟨_, rfl⟩
        have M82 : PkM w1 X82 R none none (some (X67.heap.size)) (some (w1.heap.size)) := by rw [← hX]; exact M67.addF
        rw [hX]
        clear hX
        refine hK.out _ _ (cells_below m0 M82.bel (by omega)) (fun hHeld => ?_)
        clear hK K
        try simp only [Act.put, List.getElem_toArray, List.getElem_cons_succ, List.getElem_cons_zero, List.setIfInBounds_toArray, List.set_cons_zero, List.set_cons_succ]
        refine wpAnyH_ready (rs := [5, 6]) (by kernel_rfl) (by simp) ?_
        refine AllReadyH.cons rfl (fun K hK => ?_) (AllReadyH.cons rfl (fun K hK => ?_) AllReadyH.nil)
        · clear hHeld
          simp only [Act.put, List.getElem_toArray, List.getElem_cons_succ, List.getElem_cons_zero, List.setIfInBounds_toArray, List.set_cons_zero, List.set_cons_succ]
          rw [if_pos (by rfl)]
          go_wp2_with (go_at_call 47; refine (HAr.out _ M82.bel).mono ?_; rintro e9 X83 ⟨va83, rfl, hr83, hb83⟩; obtain ⟨ca83, cc83, rfl⟩ := row_slice hr83)
          have M83 : PkM w1 X83 R (some (.slice ca83 R.length cc83)) none (some (X67.heap.size)) (some (w1.heap.size)) := M82.addC hb83 hr83
          clear hb83 hr83
          refine hK.out _ _ (cells_below m0 M83.bel (by omega)) (fun hHeld => ?_)
          clear hK K
          try simp only [Act.put, List.getElem_toArray, List.getElem_cons_succ, List.getElem_cons_zero, List.setIfInBounds_toArray, List.set_cons_zero, List.set_cons_succ]
          refine wpAnyH_ready (rs := [6]) (by kernel_rfl) (by simp) ?_
          refine AllReadyH.cons rfl (fun K hK => ?_) AllReadyH.nil
          · clear hHeld
            simp only [Act.put, List.getElem_toArray, List.getElem_cons_succ, List.getElem_cons_zero, List.setIfInBounds_toArray, List.set_cons_zero, List.set_cons_succ]
            rw [if_pos (by rfl)]
            go_simp
            obtain ⟨X84, hX⟩ : ∃ Z, (X83.alloc (.cells #[.int .i64 0, .string ⟨#[]⟩, .slice none 0 0] 61)) = Z := ⟨_, rfl⟩
            have M84 : PkM w1 X84 R (some (.slice ca83 R.length cc83)) (some (X83.heap.size)) (some (X67.heap.size)) (some (w1.heap.size)) := by rw [← hX]; exact M83.addS
            rw [hX]
            clear hX
            refine hK.out _ _ (cells_below m0 M84.bel (by omega)) (fun hHeld => ?_)
            clear hK K
            try simp only [Act.put, List.getElem_toArray, List.getElem_cons_succ, List.getElem_cons_zero, List.setIfInBounds_toArray, List.set_cons_zero, List.set_cons_succ]
            refine wpAnyH_take (i := 8) (v := .agg #[.int .i64 m.guest, (.slice ca83 R.length cc83), .slice (some ⟨X83.heap.size, 0, none⟩) 1 1, .slice (some ⟨X67.heap.size, 0, none⟩) 1 1, .slice none 0 0]) rfl (by kernel_rfl) (by kernel_rfl) (by kernel_rfl) (fun _ _ _ h => h) (Or.inl ⟨by rfl, fun w' hSw => by obtain ⟨j0, j1, j2, j3, j4⟩ := five hSw; go_simp⟩) hHeld ?_
            simp only [Act.put, List.getElem_toArray, List.getElem_cons_succ, List.getElem_cons_zero, List.setIfInBounds_toArray, List.set_cons_zero, List.set_cons_succ]
            refine wpAnyH_ready (rs := [10]) (by kernel_rfl) (by simp) ?_
            refine AllReadyH.cons rfl (fun K hK => ?_) AllReadyH.nil
            · clear hHeld
              simp only [Act.put, List.getElem_toArray, List.getElem_cons_succ, List.getElem_cons_zero, List.setIfInBounds_toArray, List.set_cons_zero, List.set_cons_succ]
              rw [if_pos (by rfl)]
              have zd := (M84.d _ rfl).2
              obtain ⟨z0, z1, z2, z3, z4⟩ := five zd
              have y0 := cells_frozen zd 0
              have y1 := cells_frozen zd 1
              have y2 := cells_frozen zd 2
              have y3 := cells_frozen zd 3
              have y4 := cells_frozen zd 4
              go_simp
              have hN := pk_first m.guest M84
              have hDw : w.heap.size ≠ w1.heap.size := by have := (M84.d _ rfl).1; omega
              refine hK.out _ _ ((five_farU _ _ _ _ _ hDw).trans (cells_below m0 M84.bel (by omega))) (fun hHeld => ?_)
              clear hK K hHeld z0 z1 z2 z3 z4 y0 y1 y2 y3 y4
              refine wpAnyH_done (by kernel_rfl) ?_ _
              go_wp2_with fail
              go_meet
              exact ⟨_, rfl, hN⟩
        · clear hHeld
          simp only [Act.put, List.getElem_toArray, List.getElem_cons_succ, List.getElem_cons_zero, List.setIfInBounds_toArray, List.set_cons_zero, List.set_cons_succ]
          rw [if_pos (by rfl)]
          go_simp
          obtain ⟨X86, hX⟩ : ∃ Z, (X82.alloc (.cells #[.int .i64 0, .string ⟨#[]⟩, .slice none 0 0] 61)) = Z := ⟨_, rfl⟩
          have M86 : PkM w1 X86 R none (some (X82.heap.size)) (some (X67.heap.size)) (some (w1.heap.size)) := by rw [← hX]; exact M82.addS
          rw [hX]
          clear hX
          refine hK.out _ _ (cells_below m0 M86.bel (by omega)) (fun hHeld => ?_)
          clear hK K
          try simp only [Act.put, List.getElem_toArray, List.getElem_cons_succ, List.getElem_cons_zero, List.setIfInBounds_toArray, List.set_cons_zero, List.set_cons_succ]
          refine wpAnyH_ready (rs := [5]) (by kernel_rfl) (by simp) ?_
          refine AllReadyH.cons rfl (fun K hK => ?_) AllReadyH.nil
          · clear hHeld
            simp only [Act.put, List.getElem_toArray, List.getElem_cons_succ, List.getElem_cons_zero, List.setIfInBounds_toArray, List.set_cons_zero, List.set_cons_succ]
            rw [if_pos (by rfl)]
            go_wp2_with (go_at_call 47; refine (HAr.out _ M86.bel).mono ?_; rintro e9 X87 ⟨va87, rfl, hr87, hb87⟩; obtain ⟨ca87, cc87, rfl⟩ := row_slice hr87)
            have M87 : PkM w1 X87 R (some (.slice ca87 R.length cc87)) (some (X82.heap.size)) (some (X67.heap.size)) (some (w1.heap.size)) := M86.addC hb87 hr87
            clear hb87 hr87
            refine hK.out _ _ (cells_below m0 M87.bel (by omega)) (fun hHeld => ?_)
            clear hK K
            try simp only [Act.put, List.getElem_toArray, List.getElem_cons_succ, List.getElem_cons_zero, List.setIfInBounds_toArray, List.set_cons_zero, List.set_cons_succ]
            refine wpAnyH_take (i := 8) (v := .agg #[.int .i64 m.guest, (.slice ca87 R.length cc87), .slice (some ⟨X82.heap.size, 0, none⟩) 1 1, .slice (some ⟨X67.heap.size, 0, none⟩) 1 1, .slice none 0 0]) rfl (by kernel_rfl) (by kernel_rfl) (by kernel_rfl) (fun _ _ _ h => h) (Or.inl ⟨by rfl, fun w' hSw => by obtain ⟨j0, j1, j2, j3, j4⟩ := five hSw; go_simp⟩) hHeld ?_
            simp only [Act.put, List.getElem_toArray, List.getElem_cons_succ, List.getElem_cons_zero, List.setIfInBounds_toArray, List.set_cons_zero, List.set_cons_succ]
            refine wpAnyH_ready (rs := [10]) (by kernel_rfl) (by simp) ?_
            refine AllReadyH.cons rfl (fun K hK => ?_) AllReadyH.nil
            · clear hHeld
              simp only [Act.put, List.getElem_toArray, List.getElem_cons_succ, List.getElem_cons_zero, List.setIfInBounds_toArray, List.set_cons_zero, List.set_cons_succ]
              rw [if_pos (by rfl)]
              have zd := (M87.d _ rfl).2
              obtain ⟨z0, z1, z2, z3, z4⟩ := five zd
              have y0 := cells_frozen zd 0
              have y1 := cells_frozen zd 1
              have y2 := cells_frozen zd 2
              have y3 := cells_frozen zd 3
              have y4 := cells_frozen zd 4
              go_simp
              have hN := pk_first m.guest M87
              have hDw : w.heap.size ≠ w1.heap.size := by have := (M87.d _ rfl).1; omega
              refine hK.out _ _ ((five_farU _ _ _ _ _ hDw).trans (cells_below m0 M87.bel (by omega))) (fun hHeld => ?_)
              clear hK K hHeld z0 z1 z2 z3 z4 y0 y1 y2 y3 y4
              refine wpAnyH_done (by kernel_rfl) ?_ _
              go_wp2_with fail
              go_meet
              exact ⟨_, rfl, hN⟩
  case rest =>
    obtain ⟨D, rfl, HD0⟩ := hcut
    have HD : Hid (OwR w1 wc D (pkA m 1)) := by rw [pkA_1 HP.out.1, HP.out.2.2]; exact HD0.out
    clear HD0 HAr MZ hm1 hm2
    have HI : Hid (Img w1 (.agg #[.int .i64 m.guest, .slice ra m.root.length rc, .slice sa m.slots.length sc, .slice fa m.refs.length fc, .slice na m.snaps.length nc]) m) := I1
    have HM : Hid (w1.heap[w.heap.size]? = some (.cells #[.int .i64 m.guest, .slice ra m.root.length rc, .slice sa m.slots.length sc, .slice fa m.refs.length fc, .slice na m.snaps.length nc] 27) ∧ w1.heap[w.heap.size + 1]? = some (.cells #[.int .i64 0, .slice none 0 0, .slice none 0 0, .slice none 0 0, .slice none 0 0] 27) ∧ Below w.heap.size w w1) := ⟨m0, m1, b0⟩
    clear I1 m0 m1 b0
    go_wp2_with fail
    go_loopw [4] (fun i wr => ∃ k : Nat, 1 ≤ k ∧ k ≤ m.slots.length ∧ i = .int .i64 k ∧ Hid (OwR w1 wr D (pkA m k))) (fun i _ => m.slots.length - (intOf i).toNat)
    case atStart => exact ⟨1, by omega, h1s, rfl, HD⟩
    case round =>
      obtain ⟨k, hk1, hk, rfl, HC⟩ := hrel
      have bl := HC.out.bel
      have n0 := cells_below HM.out.1 bl (by omega)
      obtain ⟨c0, c1, c2, c3, c4⟩ := five n0
      by_cases hlk : k < m.slots.length
      · have hki : (k : Int) < (m.slots.length : Int) := by omega
        obtain ⟨val, hX, hbox, hfar⟩ := HC.out.ex
        have hge := HC.out.ge
        have hDl : D < wr.heap.size := (Array.getElem?_eq_some_iff.1 hbox).1
        obtain ⟨kn, hkn⟩ : ∃ x, (pkA m k).slots.length = x := ⟨_, rfl⟩
        have hkn4 : kn ≤ 40 := by rw [← hkn]; show ((pkI m.slots k).map _).length ≤ 40; rw [List.length_map]; unfold pkI; have := List.length_filter_le (kept m.slots) (List.range k); rw [List.length_range] at this; omega
        obtain ⟨pa, pc, hp, _⟩ := hX.forms .slots (LiveX.slots _)
        have hp : val .slots = .slice pa kn pc := by rw [hp]; show Value.slice pa (pkA m k).slots.length pc = _; rw [hkn]
        have hrow := hX.row .slots (LiveX.slots _)
        have hrow : wr.ownsRow w1.heap.size 61 3 (val .slots) (pkA m k).slots.length (flatS (pkA m k).slots (fun j => val (.tab j))) := hrow
        rw [hkn] at hrow
        obtain ⟨sb, so, sc', e, _, hbl, hps⟩ := (HI.out.four.2.1.below bl).open (by omega)
        simp only [Value.slice.injEq] at e
        obtain ⟨hsa, _, hsc⟩ := e
        rw [hsa] at c2
        clear hsa hsc
        obtain ⟨tv, q0, q1, q2, qs⟩ := hps k hlk
        obtain ⟨⟨kk, dd, es⟩, hsk⟩ : ∃ s, m.slots[k] = s := ⟨_, rfl⟩
        have HS : Hid (m.slots[k] = (kk, dd, es)) := hsk
        rw [hsk] at q0 q1 qs
        have q0 : wr.cell? ⟨sb, so + k * 3, none⟩ = some (.int .i64 kk) := q0
        have q1 : wr.cell? ⟨sb, so + k * 3 + 1, none⟩ = some (.string dd) := q1
        have qs : Sl wr tv es := qs
        obtain ⟨ta, tc, rfl⟩ := qs.form
        obtain ⟨ys, hys⟩ : ∃ x, es.map (ren m.slots) = x := ⟨_, rfl⟩
        have HY : Hid (es.map (ren m.slots) = ys) := hys
        have hE40 : es.length ≤ 40 ∧ ∀ e ∈ es, EntP m.slots e := by
          have hmem : (kk, dd, es) ∈ m.slots := by rw [← hsk]; exact List.getElem_mem _
          refine ⟨?_, fun e he => tabE_EntP (tab_ents HP.out.2.1 hmem e he)⟩
          have z2 := (shapeE_zero HP.out.2.1).2.1
          have hok : okD (kk, dd, es) = true := by
            unfold slotsE at z2
            rw [if_pos (slotsE_parts (shapeE_zero HP.out.2.1).2.1)] at z2
            split at z2
            · rename_i hx; exact List.all_eq_true.1 hx.1 _ hmem
            · simp at z2
          have := okD_len hok
          have : es.length ≤ 4 := this
          omega
        have HAe : Hid (∀ W, Below wr.heap.size wr W → Calls Tryz.prog 47 #[.agg #[.int .i64 m.guest, .slice ra m.root.length rc, .slice sa m.slots.length sc, .slice fa m.refs.length fc, .slice na m.snaps.length nc], .slice ta es.length tc] W fun r w' => ∃ va, r = .returned va ∧ w'.ownsRow (W.heap.size + 1) 3 1 va ys.length (ints ys) ∧ Below W.heap.size W w') := fun W hW => allRen_is ((HI.out.below bl).below hW) (qs.below hW) h40 hE40.1 hE40.2 hys
        have n0' := cells_alloc n0 (.cells #[.int .i64 kk, .string dd, .slice ta es.length tc] 61)
        obtain ⟨n00, n01, n02, n03, n04⟩ := five n0'
        clear hps hsk n0 n0' hys hE40 qs
        have HX : Hid (OX wr w1.heap.size val (pkA m k) ∧ (∀ a, LiveX (pkA m k) a → (val a).ownBlock ≠ some D) ∧ Below w1.heap.size w1 wr ∧ val .slots = .slice pa kn pc ∧ (pkA m k).slots.length = kn ∧ wr.heap[D]? = some (.cells #[.int .i64 (pkA m k).guest, val .root, val .slots, val .refs, val .snaps] 27)) := ⟨hX, hfar, bl, hp, hkn, hbox⟩
        rw [hp] at hbox hrow
        obtain ⟨d0, d1, d2, d3, d4⟩ := five hbox
        have f2 := cells_frozen hbox 2
        have hfD : (Value.slice pa kn pc).ownBlock ≠ some D := by rw [← hp]; exact hfar .slots (LiveX.slots _)
        have nD1 : ¬ D = wr.heap.size := by omega
        have nD2 : ¬ wr.heap.size = D := by omega
        clear hX hfar hp hkn
        have hkd : kd m.slots k = kk := by unfold kd; rw [show m.slots.getD k default = m.slots[k] by simp [List.getD, hlk], HS.out]
        have hkp : kept m.slots k = (kk != 0) := by unfold kept; rw [hkd, show (k == 0) = false by simp; omega]; rfl
        rcases Bool.eq_false_or_eq_true (kk == 0) with hk0 | hk0
        · have HN : Hid (OwR w1 (wr.alloc (.cells #[.int .i64 kk, .string dd, .slice ta es.length tc] 61)) D (pkA m (k + 1))) := by
            rw [pkA_no m (by rw [hkp]; simp only [bne, hk0]; rfl)]
            exact HC.out.belowP ((Below.refl _ _).alloc (Nat.le_refl _) _)
          clear hkd hkp
          go_wp2_with fail
          go_roundw
          case rel => exact ⟨k + 1, by omega, by omega, by go_num, HN⟩
          case measure => simp [intOf]; omega
        · have hkt : kept m.slots k = true := by rw [hkp]; simp only [bne, hk0]; rfl
          obtain ⟨rk, hrk⟩ : ∃ x, m.refs.getD k 0 = x := ⟨_, rfl⟩
          have hyes := pkA_yes m hkt
          rw [show m.slots.getD k default = m.slots[k] by simp [List.getD, hlk], HS.out, hrk] at hyes
          have HYes : Hid (pkA m (k + 1) = { pkA m k with slots := (pkA m k).slots ++ [(kk, dd, ys)], refs := (pkA m k).refs ++ [rk] }) := by
            rw [hyes]
            show _ = _
            unfold packS
            dsimp only
            rw [HY.out]
          have HRk : Hid (m.refs.getD k 0 = rk ∧ kept m.slots k = true) := ⟨hrk, hkt⟩
          clear hkd hkp hkt hyes hrk
          go_upto_region 9 with (first | (go_at_call 47; refine (HAe.out _ ((Below.refl _ _).alloc (Nat.le_refl _) _)).mono ?_; rintro e9 w6 ⟨v6, rfl, r1, b6⟩; obtain ⟨xa, xc, rfl⟩ := row_slice r1; have s6 := b6.size; have HW : Hid (OX w6 w1.heap.size val (pkA m k) ∧ Below w1.heap.size w1 w6 ∧ w6.heap[D]? = some (.cells #[.int .i64 (pkA m k).guest, val .root, val .slots, val .refs, val .snaps] 27) ∧ (∀ a, LiveX (pkA m k) a → (val a).ownBlock ≠ some wr.heap.size) ∧ (Value.slice xa ys.length xc).ownBlock ≠ some wr.heap.size ∧ (∀ g, (Value.slice xa ys.length xc).ownBlock = some g → wr.heap.size ≤ g) ∧ (Value.slice xa ys.length xc).ownBlock ≠ some D ∧ wr.heap.size + 1 ≤ w6.heap.size) := hw6_pk HX.out.1 HX.out.2.2.1 HX.out.2.2.2.2.2 b6 r1; have u5 := cells_below (World.alloc_heap_new wr (.cells #[.int .i64 kk, .string dd, .slice ta es.length tc] 61)) b6 (by simp); obtain ⟨t0, t1, t2⟩ := three u5; have tf := cells_frozen u5 2; have z6 := cells_below (cells_alloc hbox (.cells #[.int .i64 kk, .string dd, .slice ta es.length tc] 61)) b6 (by simp; omega); obtain ⟨x0, x1, x2, x3, x4⟩ := five z6; have y2 := cells_frozen z6 2; have hrow6 := row_blkS (hrow.alloc (.cells #[.int .i64 kk, .string dd, .slice ta es.length tc] 61)) (W' := w6) (fun q hq => b6.block q ((hrow.alloc (.cells #[.int .i64 kk, .string dd, .slice ta es.length tc] 61)).lt q hq).2); have r6 := row_mono r1 (B' := w1.heap.size) (by have := bl.size; simp; omega)) | (at_builtin; refine wpList_app3 (by rfl) _ _ 24 61 _ Tryz.underlying24 infoSlot (by rfl) (by rfl) (B := w1.heap.size) (v := .slice pa kn pc) (c0 := .int .i64 kk) (c1 := .string dd) (c2 := .slice xa ys.length xc) (by rfl) (by rfl) (by rfl) (by rfl) (by rfl) (by simp) (ownsRow_setCell_other hrow6 (fun e => Nat.lt_irrefl _ (hrow.lt _ e).2) _) (by omega) (by have := bl.size; have := HW.out.2.1.size; simp; omega) ?_; intro v1 w8 h1 h2 h3; obtain ⟨g1, cap1, hv1⟩ := row_some h1.out; subst hv1; have z2 := (h2.block D (by simp; have := HW.out.2.2.2.2.2.2.2; omega) (fun e => hfD e.symm)).trans (cells_alloc (cells_other (by have := HW.out.2.2.1; exact this) nD1 _ _) _); obtain ⟨s0, s1, s2, s3, s4⟩ := five z2; have s22 := cells_frozen z2 2))
          have HN1 : Hid (OwR w1 (w8.setCell ⟨D, 2, none⟩ (.slice (some ⟨g1, 0, none⟩) (kn + 1) cap1)) D { pkA m k with slots := (pkA m k).slots ++ [(kk, dd, ys)] }) := by
            obtain ⟨hX, hfar, bl, hp, hkn, hbox⟩ := HX.out
            refine ow_slot (es := ys) ((HW.out.1.far HW.out.2.2.2.1).alloc _) ((HW.out.2.1.setCell bl.size _).alloc (by have := bl.size; have := HW.out.2.2.2.2.2.2; simp; omega) _) (cells_alloc (cells_other HW.out.2.2.1 nD1 _ _) _) hge hfar (fun _ => (ownsRow_setCell_other r6 HW.out.2.2.2.2.1 _).alloc _) (row_loose0 r6) (fun _ => farX_new hX _ HW.out.2.2.2.2.2.1) (fun _ => HW.out.2.2.2.2.2.2.1) (by rw [hp]; exact h2) (by rw [hkn]; exact h1.out) ?_
            rw [hp]
            rcases h3.out with x | x
            · exact .inl x
            · refine .inr (fun g e => ?_)
              rw [x] at e
              cases e
              simp
          obtain ⟨wa, hwa⟩ : ∃ X, w8.setCell ⟨D, 2, none⟩ (.slice (some ⟨g1, 0, none⟩) (kn + 1) cap1) = X := ⟨_, rfl⟩
          rw [hwa] at HN1 ⊢
          clear hwa h1 h2 h3 HW u5 t0 t1 t2 tf z6 x0 x1 x2 x3 x4 y2 hrow6 r6 z2 s0 s1 s2 s3 s4 s22 r1 b6 HX hbox hrow d0 d1 d2 d3 d4 f2 hfD c0 c1 c2 c3 c4 q0 q1 q2 s6 n00 n01 n02 n03 n04
          obtain ⟨PK, hPK⟩ : ∃ X, { pkA m k with slots := (pkA m k).slots ++ [(kk, dd, ys)] } = X := ⟨_, rfl⟩
          have HPK : Hid (pkA m (k + 1) = { PK with refs := PK.refs ++ [rk] }) := by show _ = _; rw [HYes.out, ← hPK]
          have hfl : PK.refs.length ≤ 40 := by
            rw [← hPK]
            show ((pkI m.slots k).map _).length ≤ 40; rw [List.length_map]; unfold pkI; have := List.length_filter_le (kept m.slots) (List.range k); rw [List.length_range] at this; omega
          rw [hPK] at HN1
          clear hPK HYes
          have hOw := HN1.out
          obtain ⟨val2, hX2, hbx2, hfar2⟩ := hOw.ex
          obtain ⟨fn, hfn⟩ : ∃ x, PK.refs.length = x := ⟨_, rfl⟩
          obtain ⟨fa2, fc2, hp2, _⟩ := hX2.forms .refs (LiveX.refs _)
          have hp2 : val2 .refs = .slice fa2 fn fc2 := by rw [hp2]; show Value.slice fa2 PK.refs.length fc2 = _; rw [hfn]
          have hrf2 := hX2.row .refs (LiveX.refs _)
          have hrf2 : wa.ownsRow w1.heap.size 3 1 (val2 .refs) PK.refs.length (ints PK.refs) := hrf2
          rw [hfn, hp2] at hrf2
          rw [hfn] at hfl
          have HO2 : Hid (OX wa w1.heap.size val2 PK ∧ wa.heap[D]? = some (.cells #[.int .i64 PK.guest, val2 .root, val2 .slots, val2 .refs, val2 .snaps] 27) ∧ (∀ a, LiveX PK a → (val2 a).ownBlock ≠ some D) ∧ val2 .refs = .slice fa2 fn fc2 ∧ PK.refs.length = fn) := ⟨hX2, hbx2, hfar2, hp2, hfn⟩
          have hfD2 : (Value.slice fa2 fn fc2).ownBlock ≠ some D := by rw [← hp2]; exact hfar2 .refs (LiveX.refs _)
          rw [hp2] at hbx2
          have hrf := hrf2
          have hDa : D < wa.heap.size := (Array.getElem?_eq_some_iff.1 hbx2).1
          have ma := cells_below HM.out.1 hOw.bel (by omega)
          have hkf : k < m.refs.length := by rw [HRf.out]; exact hlk
          obtain ⟨fb, fo, fc', e0, _, hfbl, hfc⟩ := HI.out.four.2.2.1.open (by omega)
          simp only [Value.slice.injEq] at e0
          obtain ⟨hfa, _, hfc'⟩ := e0
          have HFa : Hid (fa = some ⟨fb, fo, none⟩) := hfa
          clear hfa hfc'
          have ca : wa.cell? ⟨fb, fo + k, none⟩ = some (.int .i64 rk) := by
            have := (hOw.bel.cell (p := ⟨fb, fo + k, none⟩) hfbl).trans (hfc k hkf)
            rw [HRk.out.1] at this
            exact this
          have hkfi : (k : Int) < (m.refs.length : Int) := by omega
          clear hX2 hfar2 hp2 hfn hrf2 hfc
          refine wp_region_held_drew (S := (fun X : World => X.heap[w.heap.size]? = some (.cells #[.int .i64 m.guest, .slice ra m.root.length rc, .slice sa m.slots.length sc, .slice fa m.refs.length fc, .slice na m.snaps.length nc] 27) ∧ X.cell? ⟨fb, fo + k, none⟩ = some (.int .i64 rk))) (by kernel_rfl) ⟨ma, ca⟩ (fun hHeld => ?_)
          refine wpAnyH_take (i := 0) (v := .pointer (some ⟨D, 3, none⟩)) rfl (by kernel_rfl) (by kernel_rfl) (by kernel_rfl) (fun _ _ _ h => h) (Or.inl ⟨by rfl, fun w' hSw => by obtain ⟨qa, qb⟩ := hSw; obtain ⟨j0, j1, j2, j3, j4⟩ := five qa; go_simp⟩) hHeld ?_
          simp only [Act.put, List.getElem_toArray, List.getElem_cons_succ, List.getElem_cons_zero, List.setIfInBounds_toArray, List.set_cons_zero, List.set_cons_succ]
          refine wpAnyH_take (i := 2) (v := .pointer (some ⟨w.heap.size, 3, none⟩)) rfl (by kernel_rfl) (by kernel_rfl) (by kernel_rfl) (fun _ _ _ h => h) (Or.inl ⟨by rfl, fun w' hSw => by obtain ⟨qa, qb⟩ := hSw; obtain ⟨j0, j1, j2, j3, j4⟩ := five qa; go_simp⟩) hHeld ?_
          simp only [Act.put, List.getElem_toArray, List.getElem_cons_succ, List.getElem_cons_zero, List.setIfInBounds_toArray, List.set_cons_zero, List.set_cons_succ]
          refine wpAnyH_take (i := 3) (v := .slice fa m.refs.length fc) rfl (by kernel_rfl) (by kernel_rfl) (by kernel_rfl) (fun _ _ _ h => h) (Or.inl ⟨by rfl, fun w' hSw => by obtain ⟨qa, qb⟩ := hSw; obtain ⟨j0, j1, j2, j3, j4⟩ := five qa; go_simp⟩) hHeld ?_
          simp only [Act.put, List.getElem_toArray, List.getElem_cons_succ, List.getElem_cons_zero, List.setIfInBounds_toArray, List.set_cons_zero, List.set_cons_succ]
          refine wpAnyH_take (i := 4) (v := .int .i64 (k : Int)) rfl (by kernel_rfl) (by kernel_rfl) (by kernel_rfl) (fun _ _ _ h => h) (Or.inl ⟨by rfl, fun w' hSw => by obtain ⟨qa, qb⟩ := hSw; obtain ⟨j0, j1, j2, j3, j4⟩ := five qa; go_simp⟩) hHeld ?_
          simp only [Act.put, List.getElem_toArray, List.getElem_cons_succ, List.getElem_cons_zero, List.setIfInBounds_toArray, List.set_cons_zero, List.set_cons_succ]
          refine wpAnyH_take (i := 5) (v := .pointer (some ⟨fb, fo + k, none⟩)) rfl (by kernel_rfl) (by kernel_rfl) (by kernel_rfl) (fun _ _ _ h => h) (Or.inl ⟨by rfl, fun w' hSw => by simp only [HFa.out]; go_simp⟩) hHeld ?_
          simp only [Act.put, List.getElem_toArray, List.getElem_cons_succ, List.getElem_cons_zero, List.setIfInBounds_toArray, List.set_cons_zero, List.set_cons_succ]
          refine wpAnyH_take (i := 6) (v := .int .i64 rk) rfl (by kernel_rfl) (by kernel_rfl) (by kernel_rfl) (fun _ _ _ h => h) (Or.inl ⟨by rfl, fun w' hSw => by obtain ⟨qa, qb⟩ := hSw; obtain ⟨j0, j1, j2, j3, j4⟩ := five qa; go_simp⟩) hHeld ?_
          simp only [Act.put, List.getElem_toArray, List.getElem_cons_succ, List.getElem_cons_zero, List.setIfInBounds_toArray, List.set_cons_zero, List.set_cons_succ]
          have hOw : OwR w1 wa.drew D PK := hOw.drew
          have HO2 : Hid (OX wa.drew w1.heap.size val2 PK ∧ wa.drew.heap[D]? = some (.cells #[.int .i64 PK.guest, val2 .root, val2 .slots, val2 .refs, val2 .snaps] 27) ∧ (∀ a, LiveX PK a → (val2 a).ownBlock ≠ some D) ∧ val2 .refs = .slice fa2 fn fc2 ∧ PK.refs.length = fn) := ⟨HO2.out.1.drew, HO2.out.2⟩
          have hbx2 : wa.drew.heap[D]? = some (.cells #[.int .i64 PK.guest, val2 .root, val2 .slots, .slice fa2 fn fc2, val2 .snaps] 27) := hbx2
          have hrf : wa.drew.ownsRow w1.heap.size 3 1 (.slice fa2 fn fc2) fn (ints PK.refs) := hrf.drew
          have hDa : D < wa.drew.heap.size := hDa
          have ma : wa.drew.heap[w.heap.size]? = some (.cells #[.int .i64 m.guest, .slice ra m.root.length rc, .slice sa m.slots.length sc, .slice fa m.refs.length fc, .slice na m.snaps.length nc] 27) := ma
          have ca : wa.drew.cell? ⟨fb, fo + k, none⟩ = some (.int .i64 rk) := ca
          obtain ⟨wd, hwd⟩ : ∃ X, wa.drew = X := ⟨_, rfl⟩
          rw [hwd] at hOw HO2 hbx2 hrf hDa ma ca
          first | rw [hwd] | skip
          refine wpAnyH_ready (rs := [1, 7]) (by kernel_rfl) (by simp) ?_
          refine AllReadyH.cons rfl (fun K hK => ?_) (AllReadyH.cons rfl (fun K hK => ?_) AllReadyH.nil)
          · clear hHeld
            simp only [Act.put, List.getElem_toArray, List.getElem_cons_succ, List.getElem_cons_zero, List.setIfInBounds_toArray, List.set_cons_zero, List.set_cons_succ]
            rw [if_pos (by rfl)]
            have bxx := hbx2
            obtain ⟨v0, v1, v2, v3, v4⟩ := five bxx
            go_simp
            refine hK.out _ _ ⟨ma, ca⟩ (fun hHeld => ?_)
            clear hK K v0 v1 v2 v3 v4 bxx
            try simp only [Act.put, List.getElem_toArray, List.getElem_cons_succ, List.getElem_cons_zero, List.setIfInBounds_toArray, List.set_cons_zero, List.set_cons_succ]
            refine wpAnyH_ready (rs := [7]) (by kernel_rfl) (by simp) ?_
            refine AllReadyH.cons rfl (fun K hK => ?_) AllReadyH.nil
            clear hHeld
            simp only [Act.put, List.getElem_toArray, List.getElem_cons_succ, List.getElem_cons_zero, List.setIfInBounds_toArray, List.set_cons_zero, List.set_cons_succ]
            rw [if_pos (by rfl)]
            go_simp
            refine hK.out _ _ ⟨cells_alloc ma _, (World.cell?_alloc_past _ _ _ (by show fb < _; have := hOw.bel.size; first | omega | (simp <;> omega))).trans ca⟩ (fun hHeld => ?_)
            clear hK K
            try simp only [Act.put, List.getElem_toArray, List.getElem_cons_succ, List.getElem_cons_zero, List.setIfInBounds_toArray, List.set_cons_zero, List.set_cons_succ]
            refine wpAnyH_ready (rs := [8]) (by kernel_rfl) (by simp) ?_
            refine AllReadyH.cons rfl (fun K hK => ?_) AllReadyH.nil
            clear hHeld
            simp only [Act.put, List.getElem_toArray, List.getElem_cons_succ, List.getElem_cons_zero, List.setIfInBounds_toArray, List.set_cons_zero, List.set_cons_succ]
            rw [if_pos (by rfl)]
            refine wp_addI (W := wd) (B := w1.heap.size) (n := fn) (v := .slice fa2 fn fc2) (xs := PK.refs) (e := rk) _ _ (by rfl) (by rfl) (N := wd.heap.size) (by rfl) rfl hrf (by omega) (by have := hOw.bel.size; omega) ?_
            intro v9 w9 g1 g2 g3
            obtain ⟨ga, gc, hv9⟩ := row_some g1.out
            subst hv9
            have hzz : (wd.alloc (.cells #[.int .i64 rk] 3)).heap.size = wd.heap.size + 1 := by simp
            have hblk9 : ∀ q, q < wd.heap.size → (Value.slice fa2 fn fc2).ownBlock ≠ some q → w9.heap[q]? = wd.heap[q]? := fun q hq hn => (g2.out.block q (by rw [hzz]; omega) (fun e => hn e.symm)).trans (Below.heap_alloc _ _ q hq)
            have hfm : (Value.slice fa2 fn fc2).ownBlock ≠ some w.heap.size := fun e => by have := (hrf.lt _ e).1; omega
            have hfr : (Value.slice fa2 fn fc2).ownBlock ≠ some fb := fun e => by have := (hrf.lt _ e).1; omega
            have m9 := (hblk9 w.heap.size (by have := hOw.bel.size; omega) hfm).trans ma
            have c9 : w9.cell? ⟨fb, fo + k, none⟩ = some (.int .i64 rk) := by
              have e9 := hblk9 fb (by have := hOw.bel.size; omega) hfr
              have : w9.cell? ⟨fb, fo + k, none⟩ = wd.cell? ⟨fb, fo + k, none⟩ := by simp only [World.cell?, e9]
              rw [this]; exact ca
            have D9 := (hblk9 D hDa hfD2).trans hbx2
            have HN2 : Hid (OwR w1 (w9.setCell ⟨D, 3, none⟩ (.slice (some ⟨ga, 0, none⟩) (fn + 1) gc)) D (pkA m (k + 1))) := by
              have key := ow_newrefs (W := w9) (v := .slice (some ⟨ga, 0, none⟩) (fn + 1) gc) (r := PK.refs ++ [rk]) HO2.out.1 HO2.out.2.1 hOw.ge HO2.out.2.2.1 (by have := g1.out; rw [show (PK.refs ++ [rk]).length = fn + 1 by simp [HO2.out.2.2.2.2]]; exact this) (by rw [HO2.out.2.2.2.1]; exact hblk9) ((hOw.bel.alloc hOw.bel.size _).grown g2.out (by rw [hzz]; have := hOw.bel.size; omega) (fun q e => (hrf.lt q e).1)) (by
                rw [HO2.out.2.2.2.1]
                rcases g3.out with x | x
                · exact .inl x
                · exact .inr (fun q e => by rw [x] at e; cases e; first | omega | (simp <;> omega)))
              rw [HPK.out]
              exact key
            refine hK.out _ _ ⟨m9, c9⟩ (fun hHeld => ?_)
            clear hK K
            try simp only [Act.put, List.getElem_toArray, List.getElem_cons_succ, List.getElem_cons_zero, List.setIfInBounds_toArray, List.set_cons_zero, List.set_cons_succ]
            refine wpAnyH_take (i := 9) (v := .pointer (some ⟨D, 3, none⟩)) rfl (by kernel_rfl) (by kernel_rfl) (by kernel_rfl) (fun _ _ _ h => h) (Or.inl ⟨by rfl, fun w' hSw => by obtain ⟨qa, qb⟩ := hSw; obtain ⟨j0, j1, j2, j3, j4⟩ := five qa; go_simp⟩) hHeld ?_
            simp only [Act.put, List.getElem_toArray, List.getElem_cons_succ, List.getElem_cons_zero, List.setIfInBounds_toArray, List.set_cons_zero, List.set_cons_succ]
            refine wpAnyH_ready (rs := [10]) (by kernel_rfl) (by simp) ?_
            refine AllReadyH.cons rfl (fun K hK => ?_) AllReadyH.nil
            clear hHeld
            simp only [Act.put, List.getElem_toArray, List.getElem_cons_succ, List.getElem_cons_zero, List.setIfInBounds_toArray, List.set_cons_zero, List.set_cons_succ]
            rw [if_pos (by rfl)]
            obtain ⟨v0, v1, v2, v3, v4⟩ := five D9
            have u3 := cells_frozen D9 3
            go_simp
            have nDm : ¬ w.heap.size = D := by have := hOw.ge; omega
            have nDf : ¬ fb = D := by have := hOw.ge; omega
            refine hK.out _ _ ⟨(Below.heap_setCell _ ⟨D, 3, none⟩ _ _ nDm).trans m9, by first | (simp [nDf, c9]; done) | (have e9 := Below.heap_setCell w9 ⟨D, 3, none⟩ (.slice (some ⟨ga, 0, none⟩) (fn + 1) gc) fb nDf; have : (w9.setCell ⟨D, 3, none⟩ (.slice (some ⟨ga, 0, none⟩) (fn + 1) gc)).cell? ⟨fb, fo + k, none⟩ = w9.cell? ⟨fb, fo + k, none⟩ := (by simp only [World.cell?, e9]); rw [this]; exact c9)⟩ (fun hHeld => ?_)
            clear hK K hHeld v0 v1 v2 v3 v4 u3
            refine wpAnyH_done (by kernel_rfl) ?_ _
            clear g1 g2 g3 m9 c9 D9 hblk9
            go_wp2_with fail
            go_roundw
            case rel => exact ⟨k + 1, by omega, by omega, by go_num, HN2⟩
            case measure => simp [intOf]; omega

          · clear hHeld
            simp only [Act.put, List.getElem_toArray, List.getElem_cons_succ, List.getElem_cons_zero, List.setIfInBounds_toArray, List.set_cons_zero, List.set_cons_succ]
            rw [if_pos (by rfl)]
            go_simp
            refine hK.out _ _ ⟨cells_alloc ma _, (World.cell?_alloc_past _ _ _ (by show fb < _; have := hOw.bel.size; first | omega | (simp <;> omega))).trans ca⟩ (fun hHeld => ?_)
            clear hK K
            try simp only [Act.put, List.getElem_toArray, List.getElem_cons_succ, List.getElem_cons_zero, List.setIfInBounds_toArray, List.set_cons_zero, List.set_cons_succ]
            refine wpAnyH_ready (rs := [1]) (by kernel_rfl) (by simp) ?_
            refine AllReadyH.cons rfl (fun K hK => ?_) AllReadyH.nil
            clear hHeld
            simp only [Act.put, List.getElem_toArray, List.getElem_cons_succ, List.getElem_cons_zero, List.setIfInBounds_toArray, List.set_cons_zero, List.set_cons_succ]
            rw [if_pos (by rfl)]
            have bxx := (cells_alloc hbx2 (.cells #[.int .i64 rk] 3))
            obtain ⟨v0, v1, v2, v3, v4⟩ := five bxx
            go_simp
            refine hK.out _ _ ⟨cells_alloc ma _, (World.cell?_alloc_past _ _ _ (by show fb < _; have := hOw.bel.size; first | omega | (simp <;> omega))).trans ca⟩ (fun hHeld => ?_)
            clear hK K v0 v1 v2 v3 v4 bxx
            try simp only [Act.put, List.getElem_toArray, List.getElem_cons_succ, List.getElem_cons_zero, List.setIfInBounds_toArray, List.set_cons_zero, List.set_cons_succ]
            refine wpAnyH_ready (rs := [8]) (by kernel_rfl) (by simp) ?_
            refine AllReadyH.cons rfl (fun K hK => ?_) AllReadyH.nil
            clear hHeld
            simp only [Act.put, List.getElem_toArray, List.getElem_cons_succ, List.getElem_cons_zero, List.setIfInBounds_toArray, List.set_cons_zero, List.set_cons_succ]
            rw [if_pos (by rfl)]
            refine wp_addI (W := wd) (B := w1.heap.size) (n := fn) (v := .slice fa2 fn fc2) (xs := PK.refs) (e := rk) _ _ (by rfl) (by rfl) (N := wd.heap.size) (by rfl) rfl hrf (by omega) (by have := hOw.bel.size; omega) ?_
            intro v9 w9 g1 g2 g3
            obtain ⟨ga, gc, hv9⟩ := row_some g1.out
            subst hv9
            have hzz : (wd.alloc (.cells #[.int .i64 rk] 3)).heap.size = wd.heap.size + 1 := by simp
            have hblk9 : ∀ q, q < wd.heap.size → (Value.slice fa2 fn fc2).ownBlock ≠ some q → w9.heap[q]? = wd.heap[q]? := fun q hq hn => (g2.out.block q (by rw [hzz]; omega) (fun e => hn e.symm)).trans (Below.heap_alloc _ _ q hq)
            have hfm : (Value.slice fa2 fn fc2).ownBlock ≠ some w.heap.size := fun e => by have := (hrf.lt _ e).1; omega
            have hfr : (Value.slice fa2 fn fc2).ownBlock ≠ some fb := fun e => by have := (hrf.lt _ e).1; omega
            have m9 := (hblk9 w.heap.size (by have := hOw.bel.size; omega) hfm).trans ma
            have c9 : w9.cell? ⟨fb, fo + k, none⟩ = some (.int .i64 rk) := by
              have e9 := hblk9 fb (by have := hOw.bel.size; omega) hfr
              have : w9.cell? ⟨fb, fo + k, none⟩ = wd.cell? ⟨fb, fo + k, none⟩ := by simp only [World.cell?, e9]
              rw [this]; exact ca
            have D9 := (hblk9 D hDa hfD2).trans hbx2
            have HN2 : Hid (OwR w1 (w9.setCell ⟨D, 3, none⟩ (.slice (some ⟨ga, 0, none⟩) (fn + 1) gc)) D (pkA m (k + 1))) := by
              have key := ow_newrefs (W := w9) (v := .slice (some ⟨ga, 0, none⟩) (fn + 1) gc) (r := PK.refs ++ [rk]) HO2.out.1 HO2.out.2.1 hOw.ge HO2.out.2.2.1 (by have := g1.out; rw [show (PK.refs ++ [rk]).length = fn + 1 by simp [HO2.out.2.2.2.2]]; exact this) (by rw [HO2.out.2.2.2.1]; exact hblk9) ((hOw.bel.alloc hOw.bel.size _).grown g2.out (by rw [hzz]; have := hOw.bel.size; omega) (fun q e => (hrf.lt q e).1)) (by
                rw [HO2.out.2.2.2.1]
                rcases g3.out with x | x
                · exact .inl x
                · exact .inr (fun q e => by rw [x] at e; cases e; first | omega | (simp <;> omega)))
              rw [HPK.out]
              exact key
            refine hK.out _ _ ⟨m9, c9⟩ (fun hHeld => ?_)
            clear hK K
            try simp only [Act.put, List.getElem_toArray, List.getElem_cons_succ, List.getElem_cons_zero, List.setIfInBounds_toArray, List.set_cons_zero, List.set_cons_succ]
            refine wpAnyH_take (i := 9) (v := .pointer (some ⟨D, 3, none⟩)) rfl (by kernel_rfl) (by kernel_rfl) (by kernel_rfl) (fun _ _ _ h => h) (Or.inl ⟨by rfl, fun w' hSw => by obtain ⟨qa, qb⟩ := hSw; obtain ⟨j0, j1, j2, j3, j4⟩ := five qa; go_simp⟩) hHeld ?_
            simp only [Act.put, List.getElem_toArray, List.getElem_cons_succ, List.getElem_cons_zero, List.setIfInBounds_toArray, List.set_cons_zero, List.set_cons_succ]
            refine wpAnyH_ready (rs := [10]) (by kernel_rfl) (by simp) ?_
            refine AllReadyH.cons rfl (fun K hK => ?_) AllReadyH.nil
            clear hHeld
            simp only [Act.put, List.getElem_toArray, List.getElem_cons_succ, List.getElem_cons_zero, List.setIfInBounds_toArray, List.set_cons_zero, List.set_cons_succ]
            rw [if_pos (by rfl)]
            obtain ⟨v0, v1, v2, v3, v4⟩ := five D9
            have u3 := cells_frozen D9 3
            go_simp
            have nDm : ¬ w.heap.size = D := by have := hOw.ge; omega
            have nDf : ¬ fb = D := by have := hOw.ge; omega
            refine hK.out _ _ ⟨(Below.heap_setCell _ ⟨D, 3, none⟩ _ _ nDm).trans m9, by first | (simp [nDf, c9]; done) | (have e9 := Below.heap_setCell w9 ⟨D, 3, none⟩ (.slice (some ⟨ga, 0, none⟩) (fn + 1) gc) fb nDf; have : (w9.setCell ⟨D, 3, none⟩ (.slice (some ⟨ga, 0, none⟩) (fn + 1) gc)).cell? ⟨fb, fo + k, none⟩ = w9.cell? ⟨fb, fo + k, none⟩ := (by simp only [World.cell?, e9]); rw [this]; exact c9)⟩ (fun hHeld => ?_)
            clear hK K hHeld v0 v1 v2 v3 v4 u3
            refine wpAnyH_done (by kernel_rfl) ?_ _
            clear g1 g2 g3 m9 c9 D9 hblk9
            go_wp2_with fail
            go_roundw
            case rel => exact ⟨k + 1, by omega, by omega, by go_num, HN2⟩
            case measure => simp [intOf]; omega

      · have ek : k = m.slots.length := by omega
        have HD2 : Hid (OwR w1 wr D (pkB m 0)) := by rw [← pkA_end, ← ek]; exact HC.out
        clear HC HD ek
        have hki : ¬ (k : Int) < (m.slots.length : Int) := by omega
        obtain ⟨wx, hrn⟩ : ∃ X, X = wr := ⟨_, rfl⟩
        subst hrn
        go_wp2_with fail
        go_loopw [6] (fun i wr => ∃ k : Nat, k ≤ m.snaps.length ∧ i = .int .i64 k ∧ Hid (OwR w1 wr D (pkB m k))) (fun i _ => m.snaps.length - (intOf i).toNat)
        case atStart => exact ⟨0, Nat.zero_le _, rfl, HD2⟩
        case round =>
          clear c0 c1 c2 c3 c4 hk hk1 hlk hki
          obtain ⟨k, hk, rfl, HC⟩ := hrel
          have bl := HC.out.bel
          have n0 := cells_below HM.out.1 bl (by omega)
          obtain ⟨c0, c1, c2, c3, c4⟩ := five n0
          by_cases hlk : k < m.snaps.length
          · have hki : (k : Int) < (m.snaps.length : Int) := by omega
            obtain ⟨val, hX, hbox, hfar⟩ := HC.out.ex
            have hge := HC.out.ge
            have hDl : D < wr.heap.size := (Array.getElem?_eq_some_iff.1 hbox).1
            obtain ⟨kn, hkn⟩ : ∃ x, (pkB m k).snaps.length = x := ⟨_, rfl⟩
            have hkn4 : kn ≤ 40 := by rw [← hkn]; show ((m.snaps.take k).map _).length ≤ 40; rw [List.length_map, List.length_take]; omega
            obtain ⟨pa, pc, hp, _⟩ := hX.forms .snaps (LiveX.snaps _)
            have hp : val .snaps = .slice pa kn pc := by rw [hp]; show Value.slice pa (pkB m k).snaps.length pc = _; rw [hkn]
            have hrow := hX.row .snaps (LiveX.snaps _)
            have hrow : wr.ownsRow w1.heap.size 64 3 (val .snaps) (pkB m k).snaps.length (flatN (pkB m k).snaps (fun j => val (.sr j))) := hrow
            rw [hkn] at hrow
            obtain ⟨sb, so, sc', e, _, hbl, hps⟩ := (HI.out.four.2.2.2.below bl).open (by omega)
            simp only [Value.slice.injEq] at e
            obtain ⟨hsa, _, hsc⟩ := e
            rw [hsa] at c4
            clear hsa hsc
            obtain ⟨tv, q0, q1, q2, qs⟩ := hps k hlk
            obtain ⟨⟨dd, kk, es⟩, hsk⟩ : ∃ s, m.snaps[k] = s := ⟨_, rfl⟩
            have HS : Hid (m.snaps[k] = (dd, kk, es)) := hsk
            rw [hsk] at q0 q1 qs
            have q0 : wr.cell? ⟨sb, so + k * 3, none⟩ = some (.string dd) := q0
            have q1 : wr.cell? ⟨sb, so + k * 3 + 1, none⟩ = some (.int .i64 kk) := q1
            have qs : Sl wr tv es := qs
            obtain ⟨ta, tc, rfl⟩ := qs.form
            obtain ⟨ys, hys⟩ : ∃ x, es.map (ren m.slots) = x := ⟨_, rfl⟩
            have HY : Hid (es.map (ren m.slots) = ys) := hys
            have hE40 : es.length ≤ 40 ∧ ∀ e ∈ es, EntP m.slots e := by
              have hmem : (dd, kk, es) ∈ rootsOf m := by rw [← hsk]; exact List.mem_cons_of_mem _ (List.getElem_mem _)
              obtain ⟨f1, f2, f3, f4⟩ := snap_fit HP.out.2.1 hmem
              have f2 : kk ≤ 16 := f2
              have f3 : (es.length : Int) = (kk + 3) / 4 := f3
              exact ⟨by omega, fun e he => rootE_EntP (roots_rootE HP.out.2.1 hmem e he)⟩
            have HAe : Hid (∀ W, Below wr.heap.size wr W → Calls Tryz.prog 47 #[.agg #[.int .i64 m.guest, .slice ra m.root.length rc, .slice sa m.slots.length sc, .slice fa m.refs.length fc, .slice na m.snaps.length nc], .slice ta es.length tc] W fun r w' => ∃ va, r = .returned va ∧ w'.ownsRow (W.heap.size + 1) 3 1 va ys.length (ints ys) ∧ Below W.heap.size W w') := fun W hW => allRen_is ((HI.out.below bl).below hW) (qs.below hW) h40 hE40.1 hE40.2 hys
            have n0' := cells_alloc n0 (.cells #[.string dd, .int .i64 kk, .slice ta es.length tc] 64)
            obtain ⟨n00, n01, n02, n03, n04⟩ := five n0'
            clear hps hsk n0 n0' hys hE40 qs
            have HX : Hid (OX wr w1.heap.size val (pkB m k) ∧ (∀ a, LiveX (pkB m k) a → (val a).ownBlock ≠ some D) ∧ Below w1.heap.size w1 wr ∧ val .snaps = .slice pa kn pc ∧ (pkB m k).snaps.length = kn ∧ wr.heap[D]? = some (.cells #[.int .i64 (pkB m k).guest, val .root, val .slots, val .refs, val .snaps] 27)) := ⟨hX, hfar, bl, hp, hkn, hbox⟩
            rw [hp] at hbox hrow
            obtain ⟨d0, d1, d2, d3, d4⟩ := five hbox
            have f2 := cells_frozen hbox 4
            have hfD : (Value.slice pa kn pc).ownBlock ≠ some D := by rw [← hp]; exact hfar .snaps (LiveX.snaps _)
            have nD1 : ¬ D = wr.heap.size := by omega
            have nD2 : ¬ wr.heap.size = D := by omega
            clear hX hfar hp hkn
            go_wp2_with (first | (go_at_call 47; refine (HAe.out _ ((Below.refl _ _).alloc (Nat.le_refl _) _)).mono ?_; rintro e9 w6 ⟨v6, rfl, r1, b6⟩; obtain ⟨xa, xc, rfl⟩ := row_slice r1; have s6 := b6.size; have HW : Hid (OX w6 w1.heap.size val (pkB m k) ∧ Below w1.heap.size w1 w6 ∧ w6.heap[D]? = some (.cells #[.int .i64 (pkB m k).guest, val .root, val .slots, val .refs, val .snaps] 27) ∧ (∀ a, LiveX (pkB m k) a → (val a).ownBlock ≠ some wr.heap.size) ∧ (Value.slice xa ys.length xc).ownBlock ≠ some wr.heap.size ∧ (∀ g, (Value.slice xa ys.length xc).ownBlock = some g → wr.heap.size ≤ g) ∧ (Value.slice xa ys.length xc).ownBlock ≠ some D ∧ wr.heap.size + 1 ≤ w6.heap.size) := hw6_pk HX.out.1 HX.out.2.2.1 HX.out.2.2.2.2.2 b6 r1; have u5 := cells_below (World.alloc_heap_new wr (.cells #[.string dd, .int .i64 kk, .slice ta es.length tc] 64)) b6 (by simp); obtain ⟨t0, t1, t2⟩ := three u5; have tf := cells_frozen u5 2; have z6 := cells_below (cells_alloc hbox (.cells #[.string dd, .int .i64 kk, .slice ta es.length tc] 64)) b6 (by simp; omega); obtain ⟨x0, x1, x2, x3, x4⟩ := five z6; have y2 := cells_frozen z6 4; have hrow6 := row_blkS (hrow.alloc (.cells #[.string dd, .int .i64 kk, .slice ta es.length tc] 64)) (W' := w6) (fun q hq => b6.block q ((hrow.alloc (.cells #[.string dd, .int .i64 kk, .slice ta es.length tc] 64)).lt q hq).2); have r6 := row_mono r1 (B' := w1.heap.size) (by have := bl.size; simp; omega)) | (at_builtin; refine wpList_app3 (by rfl) _ _ 25 64 _ Tryz.underlying25 infoSnap (by rfl) (by rfl) (B := w1.heap.size) (v := .slice pa kn pc) (c0 := .string dd) (c1 := .int .i64 kk) (c2 := .slice xa ys.length xc) (by rfl) (by rfl) (by rfl) (by rfl) (by rfl) (by simp) (ownsRow_setCell_other hrow6 (fun e => Nat.lt_irrefl _ (hrow.lt _ e).2) _) (by omega) (by have := bl.size; have := HW.out.2.1.size; simp; omega) ?_; intro v1 w8 h1 h2 h3; obtain ⟨g1, cap1, hv1⟩ := row_some h1.out; subst hv1; have z2 := (h2.block D (by simp; have := HW.out.2.2.2.2.2.2.2; omega) (fun e => hfD e.symm)).trans (cells_alloc (cells_other (by have := HW.out.2.2.1; exact this) nD1 _ _) _); obtain ⟨s0, s1, s2, s3, s4⟩ := five z2; have s22 := cells_frozen z2 4))
            have HN : Hid (OwR w1 (w8.setCell ⟨D, 4, none⟩ (.slice (some ⟨g1, 0, none⟩) (kn + 1) cap1)) D (pkB m (k + 1))) := by
              rw [pkB_succ m hlk, HS.out]
              unfold packN
              dsimp only
              rw [HY.out]
              obtain ⟨hX, hfar, bl, hp, hkn, hbox⟩ := HX.out
              refine ow_snap (es := ys) ((HW.out.1.far HW.out.2.2.2.1).alloc _) ((HW.out.2.1.setCell bl.size _).alloc (by have := bl.size; have := HW.out.2.2.2.2.2.2; simp; omega) _) (cells_alloc (cells_other HW.out.2.2.1 nD1 _ _) _) hge hfar ((ownsRow_setCell_other r6 HW.out.2.2.2.2.1 _).alloc _) (farX_new hX _ HW.out.2.2.2.2.2.1) (HW.out.2.2.2.2.2.2.1) (by rw [hp]; exact h2) (by rw [hkn]; exact h1.out) ?_
              rw [hp]
              rcases h3.out with x | x
              · exact .inl x
              · refine .inr (fun g e => ?_)
                rw [x] at e
                cases e
                simp
            go_roundw
            case rel => exact ⟨k + 1, by omega, by go_num, HN⟩
            case measure => simp [intOf]; omega
          · have ek : k = m.snaps.length := by omega
            subst ek
            obtain ⟨val, hX, hbox, hfar⟩ := HC.out.ex
            obtain ⟨MP, hMP⟩ : ∃ X, packD m = X := ⟨_, rfl⟩
            rw [pkB_end, hMP] at hX hbox hfar
            have hgM : MP.guest = m.guest := by rw [← hMP]; rfl
            obtain ⟨pa0, pc0, hp0, _⟩ := hX.forms .root (LiveX.root _)
            obtain ⟨pa1, pc1, hp1, _⟩ := hX.forms .slots (LiveX.slots _)
            obtain ⟨pa2, pc2, hp2, _⟩ := hX.forms .refs (LiveX.refs _)
            obtain ⟨pa3, pc3, hp3, _⟩ := hX.forms .snaps (LiveX.snaps _)
            have HX : Hid (OX wr w1.heap.size val MP ∧ val .root = .slice pa0 MP.root.length pc0 ∧ val .slots = .slice pa1 MP.slots.length pc1 ∧ val .refs = .slice pa2 MP.refs.length pc2 ∧ val .snaps = .slice pa3 MP.snaps.length pc3) := ⟨hX, hp0, hp1, hp2, hp3⟩
            rw [HX.out.2.1, HX.out.2.2.1, HX.out.2.2.2.1, HX.out.2.2.2.2, hgM] at hbox
            obtain ⟨d0, d1, d2, d3, d4⟩ := five hbox
            have n1 := cells_below HM.out.2.1 bl (by omega)
            obtain ⟨z0, z1, z2, z3, z4⟩ := five n1
            have y0 := cells_frozen n1 0
            have y1 := cells_frozen n1 1
            have y2 := cells_frozen n1 2
            have y3 := cells_frozen n1 3
            have y4 := cells_frozen n1 4
            have hge := HC.out.ge
            have g1 : ¬ D = w.heap.size + 1 := by omega
            have g2 : ¬ w.heap.size + 1 = D := by omega
            have hfr : ∀ a, LiveX MP a → (val a).ownBlock ≠ some (w.heap.size + 1) := fun a ha e => by
              have := ((hX.row a ha).lt _ e).1
              omega
            have HB : Hid (Below w.heap.size w wr) := HM.out.2.2.trans (bl.mono (by omega))
            have HMP : Hid (packD m = MP) := hMP
            clear hX hp0 hp1 hp2 hp3 hfar hMP hgM hbox n1 n0
            go_wp2_with fail
            have i1 : w.heap.size ≤ w.heap.size + 1 := Nat.le_succ _
            refine bodyPost_ret (v := .agg #[.int .i64 m.guest, .slice pa0 MP.root.length pc0, .slice pa1 MP.slots.length pc1, .slice pa2 MP.refs.length pc2, .slice pa3 MP.snaps.length pc3]) (by simp [results, Tryz.results19, go_sem, z0, z1, z2, z3, z4]) rfl ⟨val, by unfold imgV; rw [HX.out.2.1, HX.out.2.2.1, HX.out.2.2.2.1, HX.out.2.2.2.2], by rw [HMP.out]; exact OX.mono (((((HX.out.1.far hfr).far hfr).far hfr).far hfr).far hfr) (by omega), ((((HB.out.setCell i1 _).setCell i1 _).setCell i1 _).setCell i1 _).setCell i1 _⟩
theorem packOf_is {w : World} {v : Value} {m : ImgD} (h : Img w v m) (hC : checkE m = 0) {M : ImgD} (hM : pkM m = M) :
    Calls Tryz.prog 19 #[v] w fun r w' => ∃ val, r = .returned (imgV M.guest val) ∧ OX w' w.heap.size val M ∧ Below w.heap.size w w' := by
  have h' := h
  obtain ⟨ra, rc, sa, sc, fa, fc, na, nc, rfl, _⟩ := h.parts
  have e : pkM m = packD m := by unfold pkM; rw [if_pos hC]
  rw [e] at hM
  subst hM
  exact packOf_at ra rc sa sc fa fc na nc m w h' hC _ rfl
end Go.Proofs.YtehleeibgkpjmafGreat
