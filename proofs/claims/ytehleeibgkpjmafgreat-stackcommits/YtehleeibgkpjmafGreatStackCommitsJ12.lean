/- Texts joined: SkF. -/
import Derived.Test.YtehleeibgkpjmafGreatStackCommitsJ11
import Derived.Test.YtehleeibgkpjmafGreatStackCommitsJ1
import Derived.Test.YtehleeibgkpjmafGreatStackCommitsJ3
/- Contract of the document's fresh. -/
namespace Go.Proofs.YtehleeibgkpjmafGreat
open Go.RowKit Go.Shelf
set_option maxRecDepth 20000
set_option linter.unusedVariables false
set_option linter.unusedSimpArgs false


theorem heap_fiveF {W : World} {D : Nat} (a0 a1 a2 a3 a4 : Value) (q : Nat) (hq : q ≠ D) : (((((W.setCell ⟨D, 0, none⟩ a0).setCell ⟨D, 1, none⟩ a1).setCell ⟨D, 2, none⟩ a2).setCell ⟨D, 3, none⟩ a3).setCell ⟨D, 4, none⟩ a4).heap[q]? = W.heap[q]? := by
  rw [Below.heap_setCell _ _ _ q hq, Below.heap_setCell _ _ _ q hq, Below.heap_setCell _ _ _ q hq, Below.heap_setCell _ _ _ q hq, Below.heap_setCell _ _ _ q hq]
theorem below_fiveF {w W : World} {B D : Nat} (h : Below B w W) (hD : B ≤ D) (a0 a1 a2 a3 a4 : Value) : Below B w (((((W.setCell ⟨D, 0, none⟩ a0).setCell ⟨D, 1, none⟩ a1).setCell ⟨D, 2, none⟩ a2).setCell ⟨D, 3, none⟩ a3).setCell ⟨D, 4, none⟩ a4) :=
  ((((h.setCell (p := ⟨D, 0, none⟩) hD _).setCell (p := ⟨D, 1, none⟩) hD _).setCell (p := ⟨D, 2, none⟩) hD _).setCell (p := ⟨D, 3, none⟩) hD _).setCell (p := ⟨D, 4, none⟩) hD _
set_option maxHeartbeats 16000000 in
theorem freshOf_at (g wn : Nat) (w : World) (hwn : wn ≤ 40) (HWa : Hid (∀ W, Calls Tryz.prog 49 #[.int .i64 (g : Int)] W fun r w' => r = .returned (.int .i64 (wn : Int)) ∧ w' = W)) : Calls Tryz.prog 24 #[.int .i64 (g : Int)] w (fun r w' => ∃ gr gs gf, r = .returned (.agg #[.int .i64 (g : Int), .slice (some ⟨gr, 0, none⟩) wn wn, .slice (some ⟨gs, 0, none⟩) 1 1, .slice (some ⟨gf, 0, none⟩) 1 1, .slice none 0 0]) ∧ w'.heap[gr]? = some (.cells (Array.replicate wn (.int .i64 0)) 3) ∧ w'.heap[gs]? = some (.cells #[.int .i64 0, .string ⟨#[]⟩, .slice none 0 0] 61) ∧ w'.heap[gf]? = some (.cells #[.int .i64 0] 3) ∧ w.heap.size ≤ gr ∧ w.heap.size ≤ gs ∧ w.heap.size ≤ gf ∧ Below w.heap.size w w') := by
  have mz : (w.alloc (.cells #[.int .i64 0, .slice none 0 0, .slice none 0 0, .slice none 0 0, .slice none 0 0] 27)).heap[w.heap.size]? = some (.cells #[.int .i64 0, .slice none 0 0, .slice none 0 0, .slice none 0 0, .slice none 0 0] 27) := World.alloc_heap_new _ _
  have b0 : Below w.heap.size w (w.alloc (.cells #[.int .i64 0, .slice none 0 0, .slice none 0 0, .slice none 0 0, .slice none 0 0] 27)) := (Below.refl _ _).alloc (Nat.le_refl _) _
  have p0 : w.heap.size + 1 ≤ (w.alloc (.cells #[.int .i64 0, .slice none 0 0, .slice none 0 0, .slice none 0 0, .slice none 0 0] 27)).heap.size := by simp
  have hmR : ∀ W, (Instr.makeSlice 23 (.int .i64 (wn : Int)) (.int .i64 (wn : Int))).run Tryz.prog W = .ok (.slice (some ⟨W.heap.size, 0, none⟩) wn wn) (W.alloc (.cells (Array.replicate wn (.int .i64 0)) 3)) := fun W => by have := mk_ints wn hwn W; simpa using this
  have hm1 : ∀ w, (Instr.makeSlice 24 (.int .i64 1) (.int .i64 1)).run Tryz.prog w = .ok (.slice (some ⟨w.heap.size, 0, none⟩) 1 1) (w.alloc (.cells #[.int .i64 0, .string ⟨#[]⟩, .slice none 0 0] 61)) := fun _ => by kernel_rfl
  have hm2 : ∀ w, (Instr.makeSlice 23 (.int .i64 1) (.int .i64 1)).run Tryz.prog w = .ok (.slice (some ⟨w.heap.size, 0, none⟩) 1 1) (w.alloc (.cells #[.int .i64 0] 3)) := fun _ => by kernel_rfl
  go_enter Tryz.func24, Tryz.ntmps24
  go_upto_region 1 with fail
  refine wp_region_held_drew (S := (fun X : World => True)) (by kernel_rfl) trivial (fun hHeld => ?_)
  refine wpAnyH_take (i := 0) (v := .int .i64 (g : Int)) rfl (by kernel_rfl) (by kernel_rfl) (by kernel_rfl) (fun _ _ _ h => h) (Or.inl ⟨by rfl, fun w' hSw => by go_simp⟩) hHeld ?_
  simp only [Act.put, List.getElem_toArray, List.getElem_cons_succ, List.getElem_cons_zero, List.setIfInBounds_toArray, List.set_cons_zero, List.set_cons_succ]
  refine wpAnyH_take (i := 1) (v := .int .i64 (g : Int)) rfl (by kernel_rfl) (by kernel_rfl) (by kernel_rfl) (fun _ _ _ h => h) (Or.inl ⟨by rfl, fun w' hSw => by go_simp⟩) hHeld ?_
  simp only [Act.put, List.getElem_toArray, List.getElem_cons_succ, List.getElem_cons_zero, List.setIfInBounds_toArray, List.set_cons_zero, List.set_cons_succ]
  refine wpAnyH_ready (rs := [2, 4, 5]) (by kernel_rfl) (by simp) ?_
  refine AllReadyH.cons rfl (fun K hK => ?_) (AllReadyH.cons rfl (fun K hK => ?_) (AllReadyH.cons rfl (fun K hK => ?_) AllReadyH.nil))
  · clear hHeld
    simp only [Act.put, List.getElem_toArray, List.getElem_cons_succ, List.getElem_cons_zero, List.setIfInBounds_toArray, List.set_cons_zero, List.set_cons_succ]
    rw [if_pos (by rfl)]
    go_wp2_with (go_at_call 49; refine (HWa.out _).mono ?_; rintro e9 w9 ⟨rfl, hw⟩; rw [hw]; clear hw)
    obtain ⟨X1, hX⟩ : ∃ Z, (w.alloc (.cells #[.int .i64 0, .slice none 0 0, .slice none 0 0, .slice none 0 0, .slice none 0 0] 27)).drew = Z := ⟨_, rfl⟩
    have z_1 : X1.heap[w.heap.size]? = some (.cells #[.int .i64 0, .slice none 0 0, .slice none 0 0, .slice none 0 0, .slice none 0 0] 27) := by rw [← hX]; exact mz
    have b_1 : Below w.heap.size w X1 := by rw [← hX]; exact to_drew b0
    have g_1 : (w.alloc (.cells #[.int .i64 0, .slice none 0 0, .slice none 0 0, .slice none 0 0, .slice none 0 0] 27)).heap.size ≤ X1.heap.size := by rw [← hX]; exact Nat.le_refl _
    have p_1 : w.heap.size + 1 ≤ X1.heap.size := by omega
    rw [hX]
    clear hX
    refine hK.out _ _ trivial (fun hHeld => ?_)
    clear hK K
    try simp only [Act.put, List.getElem_toArray, List.getElem_cons_succ, List.getElem_cons_zero, List.setIfInBounds_toArray, List.set_cons_zero, List.set_cons_succ]
    refine wpAnyH_ready (rs := [3, 4, 5]) (by kernel_rfl) (by simp) ?_
    refine AllReadyH.cons rfl (fun K hK => ?_) (AllReadyH.cons rfl (fun K hK => ?_) (AllReadyH.cons rfl (fun K hK => ?_) AllReadyH.nil))
    · clear hHeld
      simp only [Act.put, List.getElem_toArray, List.getElem_cons_succ, List.getElem_cons_zero, List.setIfInBounds_toArray, List.set_cons_zero, List.set_cons_succ]
      rw [if_pos (by rfl)]
      go_simp
      obtain ⟨X2, hX⟩ : ∃ Z, (X1.alloc (.cells (Array.replicate wn (.int .i64 0)) 3)) = Z := ⟨_, rfl⟩
      have z_2 : X2.heap[w.heap.size]? = some (.cells #[.int .i64 0, .slice none 0 0, .slice none 0 0, .slice none 0 0, .slice none 0 0] 27) := by rw [← hX]; exact cells_alloc z_1 _
      have fR2 : X2.heap[X1.heap.size]? = some (.cells (Array.replicate wn (.int .i64 0)) 3) := by rw [← hX]; exact World.alloc_heap_new _ _
      have b_2 : Below w.heap.size w X2 := by rw [← hX]; exact b_1.alloc b_1.size _
      have g_2 : X1.heap.size ≤ X2.heap.size := by rw [← hX]; simp
      have p_2 : w.heap.size + 1 ≤ X2.heap.size := by omega
      rw [hX]
      clear hX
      refine hK.out _ _ trivial (fun hHeld => ?_)
      clear hK K
      try simp only [Act.put, List.getElem_toArray, List.getElem_cons_succ, List.getElem_cons_zero, List.setIfInBounds_toArray, List.set_cons_zero, List.set_cons_succ]
      refine wpAnyH_ready (rs := [4, 5]) (by kernel_rfl) (by simp) ?_
      refine AllReadyH.cons rfl (fun K hK => ?_) (AllReadyH.cons rfl (fun K hK => ?_) AllReadyH.nil)
      · clear hHeld
        simp only [Act.put, List.getElem_toArray, List.getElem_cons_succ, List.getElem_cons_zero, List.setIfInBounds_toArray, List.set_cons_zero, List.set_cons_succ]
        rw [if_pos (by rfl)]
        go_simp
        obtain ⟨X3, hX⟩ : ∃ Z, (X2.alloc (.cells #[.int .i64 0, .string ⟨#[]⟩, .slice none 0 0] 61)) = Z := ⟨_, rfl⟩
        have fR3 : X3.heap[X1.heap.size]? = some (.cells (Array.replicate wn (.int .i64 0)) 3) := by rw [← hX]; exact cells_alloc fR2 _
        have z_3 : X3.heap[w.heap.size]? = some (.cells #[.int .i64 0, .slice none 0 0, .slice none 0 0, .slice none 0 0, .slice none 0 0] 27) := by rw [← hX]; exact cells_alloc z_2 _
        have fS3 : X3.heap[X2.heap.size]? = some (.cells #[.int .i64 0, .string ⟨#[]⟩, .slice none 0 0] 61) := by rw [← hX]; exact World.alloc_heap_new _ _
        have b_3 : Below w.heap.size w X3 := by rw [← hX]; exact b_2.alloc b_2.size _
        have g_3 : X2.heap.size ≤ X3.heap.size := by rw [← hX]; simp
        have p_3 : w.heap.size + 1 ≤ X3.heap.size := by omega
        rw [hX]
        clear hX
        refine hK.out _ _ trivial (fun hHeld => ?_)
        clear hK K
        try simp only [Act.put, List.getElem_toArray, List.getElem_cons_succ, List.getElem_cons_zero, List.setIfInBounds_toArray, List.set_cons_zero, List.set_cons_succ]
        refine wpAnyH_ready (rs := [5]) (by kernel_rfl) (by simp) ?_
        refine AllReadyH.cons rfl (fun K hK => ?_) AllReadyH.nil
        · clear hHeld
          simp only [Act.put, List.getElem_toArray, List.getElem_cons_succ, List.getElem_cons_zero, List.setIfInBounds_toArray, List.set_cons_zero, List.set_cons_succ]
          rw [if_pos (by rfl)]
          go_simp
          obtain ⟨X4, hX⟩ : ∃ Z, (X3.alloc (.cells #[.int .i64 0] 3)) = Z := ⟨_, rfl⟩
          have fR4 : X4.heap[X1.heap.size]? = some (.cells (Array.replicate wn (.int .i64 0)) 3) := by rw [← hX]; exact cells_alloc fR3 _
          have fS4 : X4.heap[X2.heap.size]? = some (.cells #[.int .i64 0, .string ⟨#[]⟩, .slice none 0 0] 61) := by rw [← hX]; exact cells_alloc fS3 _
          have z_4 : X4.heap[w.heap.size]? = some (.cells #[.int .i64 0, .slice none 0 0, .slice none 0 0, .slice none 0 0, .slice none 0 0] 27) := by rw [← hX]; exact cells_alloc z_3 _
          have fF4 : X4.heap[X3.heap.size]? = some (.cells #[.int .i64 0] 3) := by rw [← hX]; exact World.alloc_heap_new _ _
          have b_4 : Below w.heap.size w X4 := by rw [← hX]; exact b_3.alloc b_3.size _
          have g_4 : X3.heap.size ≤ X4.heap.size := by rw [← hX]; simp
          have p_4 : w.heap.size + 1 ≤ X4.heap.size := by omega
          rw [hX]
          clear hX
          refine hK.out _ _ trivial (fun hHeld => ?_)
          clear hK K
          try simp only [Act.put, List.getElem_toArray, List.getElem_cons_succ, List.getElem_cons_zero, List.setIfInBounds_toArray, List.set_cons_zero, List.set_cons_succ]
          refine wpAnyH_take (i := 6) (v := .agg #[.int .i64 (g : Int), .slice (some ⟨X1.heap.size, 0, none⟩) wn wn, .slice (some ⟨X2.heap.size, 0, none⟩) 1 1, .slice (some ⟨X3.heap.size, 0, none⟩) 1 1, .slice none 0 0]) rfl (by kernel_rfl) (by kernel_rfl) (by kernel_rfl) (fun _ _ _ h => h) (Or.inl ⟨by rfl, fun w' hSw => by go_simp⟩) hHeld ?_
          simp only [Act.put, List.getElem_toArray, List.getElem_cons_succ, List.getElem_cons_zero, List.setIfInBounds_toArray, List.set_cons_zero, List.set_cons_succ]
          refine wpAnyH_ready (rs := [7]) (by kernel_rfl) (by simp) ?_
          refine AllReadyH.cons rfl (fun K hK => ?_) AllReadyH.nil
          · clear hHeld
            simp only [Act.put, List.getElem_toArray, List.getElem_cons_succ, List.getElem_cons_zero, List.setIfInBounds_toArray, List.set_cons_zero, List.set_cons_succ]
            rw [if_pos (by rfl)]
            obtain ⟨z0, z1, z2, z3, z4⟩ := five z_4
            have y0 := cells_frozen z_4 0
            have y1 := cells_frozen z_4 1
            have y2 := cells_frozen z_4 2
            have y3 := cells_frozen z_4 3
            have y4 := cells_frozen z_4 4
            go_simp
            refine hK.out _ _ trivial (fun hHeld => ?_)
            clear hK K hHeld
            refine wpAnyH_done (by kernel_rfl) ?_ _
            go_wp2_with fail
            refine bodyPost_ret (v := .agg #[.int .i64 (g : Int), .slice (some ⟨X1.heap.size, 0, none⟩) wn wn, .slice (some ⟨X2.heap.size, 0, none⟩) 1 1, .slice (some ⟨X3.heap.size, 0, none⟩) 1 1, .slice none 0 0]) (by simp [results, Tryz.results24, go_sem, z0, z1, z2, z3, z4]) rfl ⟨_, _, _, rfl, (heap_fiveF _ _ _ _ _ _ (by first | omega | (simp <;> omega))).trans fR4, (heap_fiveF _ _ _ _ _ _ (by first | omega | (simp <;> omega))).trans fS4, (heap_fiveF _ _ _ _ _ _ (by first | omega | (simp <;> omega))).trans fF4, by (first | omega | (simp <;> omega)), by (first | omega | (simp <;> omega)), by (first | omega | (simp <;> omega)), below_fiveF b_4 (Nat.le_refl _) _ _ _ _ _⟩
      · clear hHeld
        simp only [Act.put, List.getElem_toArray, List.getElem_cons_succ, List.getElem_cons_zero, List.setIfInBounds_toArray, List.set_cons_zero, List.set_cons_succ]
        rw [if_pos (by rfl)]
        go_simp
        obtain ⟨X6, hX⟩ : ∃ Z, (X2.alloc (.cells #[.int .i64 0] 3)) = Z := ⟨_, rfl⟩
        have fR6 : X6.heap[X1.heap.size]? = some (.cells (Array.replicate wn (.int .i64 0)) 3) := by rw [← hX]; exact cells_alloc fR2 _
        have z_6 : X6.heap[w.heap.size]? = some (.cells #[.int .i64 0, .slice none 0 0, .slice none 0 0, .slice none 0 0, .slice none 0 0] 27) := by rw [← hX]; exact cells_alloc z_2 _
        have fF6 : X6.heap[X2.heap.size]? = some (.cells #[.int .i64 0] 3) := by rw [← hX]; exact World.alloc_heap_new _ _
        have b_6 : Below w.heap.size w X6 := by rw [← hX]; exact b_2.alloc b_2.size _
        have g_6 : X2.heap.size ≤ X6.heap.size := by rw [← hX]; simp
        have p_6 : w.heap.size + 1 ≤ X6.heap.size := by omega
        rw [hX]
        clear hX
        refine hK.out _ _ trivial (fun hHeld => ?_)
        clear hK K
        try simp only [Act.put, List.getElem_toArray, List.getElem_cons_succ, List.getElem_cons_zero, List.setIfInBounds_toArray, List.set_cons_zero, List.set_cons_succ]
        refine wpAnyH_ready (rs := [4]) (by kernel_rfl) (by simp) ?_
        refine AllReadyH.cons rfl (fun K hK => ?_) AllReadyH.nil
        · clear hHeld
          simp only [Act.put, List.getElem_toArray, List.getElem_cons_succ, List.getElem_cons_zero, List.setIfInBounds_toArray, List.set_cons_zero, List.set_cons_succ]
          rw [if_pos (by rfl)]
          go_simp
          obtain ⟨X7, hX⟩ : ∃ Z, (X6.alloc (.cells #[.int .i64 0, .string ⟨#[]⟩, .slice none 0 0] 61)) = Z := ⟨_, rfl⟩
          have fR7 : X7.heap[X1.heap.size]? = some (.cells (Array.replicate wn (.int .i64 0)) 3) := by rw [← hX]; exact cells_alloc fR6 _
          have fF7 : X7.heap[X2.heap.size]? = some (.cells #[.int .i64 0] 3) := by rw [← hX]; exact cells_alloc fF6 _
          have z_7 : X7.heap[w.heap.size]? = some (.cells #[.int .i64 0, .slice none 0 0, .slice none 0 0, .slice none 0 0, .slice none 0 0] 27) := by rw [← hX]; exact cells_alloc z_6 _
          have fS7 : X7.heap[X6.heap.size]? = some (.cells #[.int .i64 0, .string ⟨#[]⟩, .slice none 0 0] 61) := by rw [← hX]; exact World.alloc_heap_new _ _
          have b_7 : Below w.heap.size w X7 := by rw [← hX]; exact b_6.alloc b_6.size _
          have g_7 : X6.heap.size ≤ X7.heap.size := by rw [← hX]; simp
          have p_7 : w.heap.size + 1 ≤ X7.heap.size := by omega
          rw [hX]
          clear hX
          refine hK.out _ _ trivial (fun hHeld => ?_)
          clear hK K
          try simp only [Act.put, List.getElem_toArray, List.getElem_cons_succ, List.getElem_cons_zero, List.setIfInBounds_toArray, List.set_cons_zero, List.set_cons_succ]
          refine wpAnyH_take (i := 6) (v := .agg #[.int .i64 (g : Int), .slice (some ⟨X1.heap.size, 0, none⟩) wn wn, .slice (some ⟨X6.heap.size, 0, none⟩) 1 1, .slice (some ⟨X2.heap.size, 0, none⟩) 1 1, .slice none 0 0]) rfl (by kernel_rfl) (by kernel_rfl) (by kernel_rfl) (fun _ _ _ h => h) (Or.inl ⟨by rfl, fun w' hSw => by go_simp⟩) hHeld ?_
          simp only [Act.put, List.getElem_toArray, List.getElem_cons_succ, List.getElem_cons_zero, List.setIfInBounds_toArray, List.set_cons_zero, List.set_cons_succ]
          refine wpAnyH_ready (rs := [7]) (by kernel_rfl) (by simp) ?_
          refine AllReadyH.cons rfl (fun K hK => ?_) AllReadyH.nil
          · clear hHeld
            simp only [Act.put, List.getElem_toArray, List.getElem_cons_succ, List.getElem_cons_zero, List.setIfInBounds_toArray, List.set_cons_zero, List.set_cons_succ]
            rw [if_pos (by rfl)]
            obtain ⟨z0, z1, z2, z3, z4⟩ := five z_7
            have y0 := cells_frozen z_7 0
            have y1 := cells_frozen z_7 1
            have y2 := cells_frozen z_7 2
            have y3 := cells_frozen z_7 3
            have y4 := cells_frozen z_7 4
            go_simp
            refine hK.out _ _ trivial (fun hHeld => ?_)
            clear hK K hHeld
            refine wpAnyH_done (by kernel_rfl) ?_ _
            go_wp2_with fail
            refine bodyPost_ret (v := .agg #[.int .i64 (g : Int), .slice (some ⟨X1.heap.size, 0, none⟩) wn wn, .slice (some ⟨X6.heap.size, 0, none⟩) 1 1, .slice (some ⟨X2.heap.size, 0, none⟩) 1 1, .slice none 0 0]) (by simp [results, Tryz.results24, go_sem, z0, z1, z2, z3, z4]) rfl ⟨_, _, _, rfl, (heap_fiveF _ _ _ _ _ _ (by first | omega | (simp <;> omega))).trans fR7, (heap_fiveF _ _ _ _ _ _ (by first | omega | (simp <;> omega))).trans fS7, (heap_fiveF _ _ _ _ _ _ (by first | omega | (simp <;> omega))).trans fF7, by (first | omega | (simp <;> omega)), by (first | omega | (simp <;> omega)), by (first | omega | (simp <;> omega)), below_fiveF b_7 (Nat.le_refl _) _ _ _ _ _⟩
    · clear hHeld
      simp only [Act.put, List.getElem_toArray, List.getElem_cons_succ, List.getElem_cons_zero, List.setIfInBounds_toArray, List.set_cons_zero, List.set_cons_succ]
      rw [if_pos (by rfl)]
      go_simp
      obtain ⟨X9, hX⟩ : ∃ Z, (X1.alloc (.cells #[.int .i64 0, .string ⟨#[]⟩, .slice none 0 0] 61)) = Z := ⟨_, rfl⟩
      have z_9 : X9.heap[w.heap.size]? = some (.cells #[.int .i64 0, .slice none 0 0, .slice none 0 0, .slice none 0 0, .slice none 0 0] 27) := by rw [← hX]; exact cells_alloc z_1 _
      have fS9 : X9.heap[X1.heap.size]? = some (.cells #[.int .i64 0, .string ⟨#[]⟩, .slice none 0 0] 61) := by rw [← hX]; exact World.alloc_heap_new _ _
      have b_9 : Below w.heap.size w X9 := by rw [← hX]; exact b_1.alloc b_1.size _
      have g_9 : X1.heap.size ≤ X9.heap.size := by rw [← hX]; simp
      have p_9 : w.heap.size + 1 ≤ X9.heap.size := by omega
      rw [hX]
      clear hX
      refine hK.out _ _ trivial (fun hHeld => ?_)
      clear hK K
      try simp only [Act.put, List.getElem_toArray, List.getElem_cons_succ, List.getElem_cons_zero, List.setIfInBounds_toArray, List.set_cons_zero, List.set_cons_succ]
      refine wpAnyH_ready (rs := [3, 5]) (by kernel_rfl) (by simp) ?_
      refine AllReadyH.cons rfl (fun K hK => ?_) (AllReadyH.cons rfl (fun K hK => ?_) AllReadyH.nil)
      · clear hHeld
        simp only [Act.put, List.getElem_toArray, List.getElem_cons_succ, List.getElem_cons_zero, List.setIfInBounds_toArray, List.set_cons_zero, List.set_cons_succ]
        rw [if_pos (by rfl)]
        go_simp
        obtain ⟨X10, hX⟩ : ∃ Z, (X9.alloc (.cells (Array.replicate wn (.int .i64 0)) 3)) = Z := ⟨_, rfl⟩
        have fS10 : X10.heap[X1.heap.size]? = some (.cells #[.int .i64 0, .string ⟨#[]⟩, .slice none 0 0] 61) := by rw [← hX]; exact cells_alloc fS9 _
        have z_10 : X10.heap[w.heap.size]? = some (.cells #[.int .i64 0, .slice none 0 0, .slice none 0 0, .slice none 0 0, .slice none 0 0] 27) := by rw [← hX]; exact cells_alloc z_9 _
        have fR10 : X10.heap[X9.heap.size]? = some (.cells (Array.replicate wn (.int .i64 0)) 3) := by rw [← hX]; exact World.alloc_heap_new _ _
        have b_10 : Below w.heap.size w X10 := by rw [← hX]; exact b_9.alloc b_9.size _
        have g_10 : X9.heap.size ≤ X10.heap.size := by rw [← hX]; simp
        have p_10 : w.heap.size + 1 ≤ X10.heap.size := by omega
        rw [hX]
        clear hX
        refine hK.out _ _ trivial (fun hHeld => ?_)
        clear hK K
        try simp only [Act.put, List.getElem_toArray, List.getElem_cons_succ, List.getElem_cons_zero, List.setIfInBounds_toArray, List.set_cons_zero, List.set_cons_succ]
        refine wpAnyH_ready (rs := [5]) (by kernel_rfl) (by simp) ?_
        refine AllReadyH.cons rfl (fun K hK => ?_) AllReadyH.nil
        · clear hHeld
          simp only [Act.put, List.getElem_toArray, List.getElem_cons_succ, List.getElem_cons_zero, List.setIfInBounds_toArray, List.set_cons_zero, List.set_cons_succ]
          rw [if_pos (by rfl)]
          go_simp
          obtain ⟨X11, hX⟩ : ∃ Z, (X10.alloc (.cells #[.int .i64 0] 3)) = Z := ⟨_, rfl⟩
          have fS11 : X11.heap[X1.heap.size]? = some (.cells #[.int .i64 0, .string ⟨#[]⟩, .slice none 0 0] 61) := by rw [← hX]; exact cells_alloc fS10 _
          have fR11 : X11.heap[X9.heap.size]? = some (.cells (Array.replicate wn (.int .i64 0)) 3) := by rw [← hX]; exact cells_alloc fR10 _
          have z_11 : X11.heap[w.heap.size]? = some (.cells #[.int .i64 0, .slice none 0 0, .slice none 0 0, .slice none 0 0, .slice none 0 0] 27) := by rw [← hX]; exact cells_alloc z_10 _
          have fF11 : X11.heap[X10.heap.size]? = some (.cells #[.int .i64 0] 3) := by rw [← hX]; exact World.alloc_heap_new _ _
          have b_11 : Below w.heap.size w X11 := by rw [← hX]; exact b_10.alloc b_10.size _
          have g_11 : X10.heap.size ≤ X11.heap.size := by rw [← hX]; simp
          have p_11 : w.heap.size + 1 ≤ X11.heap.size := by omega
          rw [hX]
          clear hX
          refine hK.out _ _ trivial (fun hHeld => ?_)
          clear hK K
          try simp only [Act.put, List.getElem_toArray, List.getElem_cons_succ, List.getElem_cons_zero, List.setIfInBounds_toArray, List.set_cons_zero, List.set_cons_succ]
          refine wpAnyH_take (i := 6) (v := .agg #[.int .i64 (g : Int), .slice (some ⟨X9.heap.size, 0, none⟩) wn wn, .slice (some ⟨X1.heap.size, 0, none⟩) 1 1, .slice (some ⟨X10.heap.size, 0, none⟩) 1 1, .slice none 0 0]) rfl (by kernel_rfl) (by kernel_rfl) (by kernel_rfl) (fun _ _ _ h => h) (Or.inl ⟨by rfl, fun w' hSw => by go_simp⟩) hHeld ?_
          simp only [Act.put, List.getElem_toArray, List.getElem_cons_succ, List.getElem_cons_zero, List.setIfInBounds_toArray, List.set_cons_zero, List.set_cons_succ]
          refine wpAnyH_ready (rs := [7]) (by kernel_rfl) (by simp) ?_
          refine AllReadyH.cons rfl (fun K hK => ?_) AllReadyH.nil
          · clear hHeld
            simp only [Act.put, List.getElem_toArray, List.getElem_cons_succ, List.getElem_cons_zero, List.setIfInBounds_toArray, List.set_cons_zero, List.set_cons_succ]
            rw [if_pos (by rfl)]
            obtain ⟨z0, z1, z2, z3, z4⟩ := five z_11
            have y0 := cells_frozen z_11 0
            have y1 := cells_frozen z_11 1
            have y2 := cells_frozen z_11 2
            have y3 := cells_frozen z_11 3
            have y4 := cells_frozen z_11 4
            go_simp
            refine hK.out _ _ trivial (fun hHeld => ?_)
            clear hK K hHeld
            refine wpAnyH_done (by kernel_rfl) ?_ _
            go_wp2_with fail
            refine bodyPost_ret (v := .agg #[.int .i64 (g : Int), .slice (some ⟨X9.heap.size, 0, none⟩) wn wn, .slice (some ⟨X1.heap.size, 0, none⟩) 1 1, .slice (some ⟨X10.heap.size, 0, none⟩) 1 1, .slice none 0 0]) (by simp [results, Tryz.results24, go_sem, z0, z1, z2, z3, z4]) rfl ⟨_, _, _, rfl, (heap_fiveF _ _ _ _ _ _ (by first | omega | (simp <;> omega))).trans fR11, (heap_fiveF _ _ _ _ _ _ (by first | omega | (simp <;> omega))).trans fS11, (heap_fiveF _ _ _ _ _ _ (by first | omega | (simp <;> omega))).trans fF11, by (first | omega | (simp <;> omega)), by (first | omega | (simp <;> omega)), by (first | omega | (simp <;> omega)), below_fiveF b_11 (Nat.le_refl _) _ _ _ _ _⟩
      · clear hHeld
        simp only [Act.put, List.getElem_toArray, List.getElem_cons_succ, List.getElem_cons_zero, List.setIfInBounds_toArray, List.set_cons_zero, List.set_cons_succ]
        rw [if_pos (by rfl)]
        go_simp
        obtain ⟨X13, hX⟩ : ∃ Z, (X9.alloc (.cells #[.int .i64 0] 3)) = Z := ⟨_, rfl⟩
        have fS13 : X13.heap[X1.heap.size]? = some (.cells #[.int .i64 0, .string ⟨#[]⟩, .slice none 0 0] 61) := by rw [← hX]; exact cells_alloc fS9 _
        have z_13 : X13.heap[w.heap.size]? = some (.cells #[.int .i64 0, .slice none 0 0, .slice none 0 0, .slice none 0 0, .slice none 0 0] 27) := by rw [← hX]; exact cells_alloc z_9 _
        have fF13 : X13.heap[X9.heap.size]? = some (.cells #[.int .i64 0] 3) := by rw [← hX]; exact World.alloc_heap_new _ _
        have b_13 : Below w.heap.size w X13 := by rw [← hX]; exact b_9.alloc b_9.size _
        have g_13 : X9.heap.size ≤ X13.heap.size := by rw [← hX]; simp
        have p_13 : w.heap.size + 1 ≤ X13.heap.size := by omega
        rw [hX]
        clear hX
        refine hK.out _ _ trivial (fun hHeld => ?_)
        clear hK K
        try simp only [Act.put, List.getElem_toArray, List.getElem_cons_succ, List.getElem_cons_zero, List.setIfInBounds_toArray, List.set_cons_zero, List.set_cons_succ]
        refine wpAnyH_ready (rs := [3]) (by kernel_rfl) (by simp) ?_
        refine AllReadyH.cons rfl (fun K hK => ?_) AllReadyH.nil
        · clear hHeld
          simp only [Act.put, List.getElem_toArray, List.getElem_cons_succ, List.getElem_cons_zero, List.setIfInBounds_toArray, List.set_cons_zero, List.set_cons_succ]
          rw [if_pos (by rfl)]
          go_simp
          obtain ⟨X14, hX⟩ : ∃ Z, (X13.alloc (.cells (Array.replicate wn (.int .i64 0)) 3)) = Z := ⟨_, rfl⟩
          have fS14 : X14.heap[X1.heap.size]? = some (.cells #[.int .i64 0, .string ⟨#[]⟩, .slice none 0 0] 61) := by rw [← hX]; exact cells_alloc fS13 _
          have fF14 : X14.heap[X9.heap.size]? = some (.cells #[.int .i64 0] 3) := by rw [← hX]; exact cells_alloc fF13 _
          have z_14 : X14.heap[w.heap.size]? = some (.cells #[.int .i64 0, .slice none 0 0, .slice none 0 0, .slice none 0 0, .slice none 0 0] 27) := by rw [← hX]; exact cells_alloc z_13 _
          have fR14 : X14.heap[X13.heap.size]? = some (.cells (Array.replicate wn (.int .i64 0)) 3) := by rw [← hX]; exact World.alloc_heap_new _ _
          have b_14 : Below w.heap.size w X14 := by rw [← hX]; exact b_13.alloc b_13.size _
          have g_14 : X13.heap.size ≤ X14.heap.size := by rw [← hX]; simp
          have p_14 : w.heap.size + 1 ≤ X14.heap.size := by omega
          rw [hX]
          clear hX
          refine hK.out _ _ trivial (fun hHeld => ?_)
          clear hK K
          try simp only [Act.put, List.getElem_toArray, List.getElem_cons_succ, List.getElem_cons_zero, List.setIfInBounds_toArray, List.set_cons_zero, List.set_cons_succ]
          refine wpAnyH_take (i := 6) (v := .agg #[.int .i64 (g : Int), .slice (some ⟨X13.heap.size, 0, none⟩) wn wn, .slice (some ⟨X1.heap.size, 0, none⟩) 1 1, .slice (some ⟨X9.heap.size, 0, none⟩) 1 1, .slice none 0 0]) rfl (by kernel_rfl) (by kernel_rfl) (by kernel_rfl) (fun _ _ _ h => h) (Or.inl ⟨by rfl, fun w' hSw => by go_simp⟩) hHeld ?_
          simp only [Act.put, List.getElem_toArray, List.getElem_cons_succ, List.getElem_cons_zero, List.setIfInBounds_toArray, List.set_cons_zero, List.set_cons_succ]
          refine wpAnyH_ready (rs := [7]) (by kernel_rfl) (by simp) ?_
          refine AllReadyH.cons rfl (fun K hK => ?_) AllReadyH.nil
          · clear hHeld
            simp only [Act.put, List.getElem_toArray, List.getElem_cons_succ, List.getElem_cons_zero, List.setIfInBounds_toArray, List.set_cons_zero, List.set_cons_succ]
            rw [if_pos (by rfl)]
            obtain ⟨z0, z1, z2, z3, z4⟩ := five z_14
            have y0 := cells_frozen z_14 0
            have y1 := cells_frozen z_14 1
            have y2 := cells_frozen z_14 2
            have y3 := cells_frozen z_14 3
            have y4 := cells_frozen z_14 4
            go_simp
            refine hK.out _ _ trivial (fun hHeld => ?_)
            clear hK K hHeld
            refine wpAnyH_done (by kernel_rfl) ?_ _
            go_wp2_with fail
            refine bodyPost_ret (v := .agg #[.int .i64 (g : Int), .slice (some ⟨X13.heap.size, 0, none⟩) wn wn, .slice (some ⟨X1.heap.size, 0, none⟩) 1 1, .slice (some ⟨X9.heap.size, 0, none⟩) 1 1, .slice none 0 0]) (by simp [results, Tryz.results24, go_sem, z0, z1, z2, z3, z4]) rfl ⟨_, _, _, rfl, (heap_fiveF _ _ _ _ _ _ (by first | omega | (simp <;> omega))).trans fR14, (heap_fiveF _ _ _ _ _ _ (by first | omega | (simp <;> omega))).trans fS14, (heap_fiveF _ _ _ _ _ _ (by first | omega | (simp <;> omega))).trans fF14, by (first | omega | (simp <;> omega)), by (first | omega | (simp <;> omega)), by (first | omega | (simp <;> omega)), below_fiveF b_14 (Nat.le_refl _) _ _ _ _ _⟩
    · clear hHeld
      simp only [Act.put, List.getElem_toArray, List.getElem_cons_succ, List.getElem_cons_zero, List.setIfInBounds_toArray, List.set_cons_zero, List.set_cons_succ]
      rw [if_pos (by rfl)]
      go_simp
      obtain ⟨X16, hX⟩ : ∃ Z, (X1.alloc (.cells #[.int .i64 0] 3)) = Z := ⟨_, rfl⟩
      have z_16 : X16.heap[w.heap.size]? = some (.cells #[.int .i64 0, .slice none 0 0, .slice none 0 0, .slice none 0 0, .slice none 0 0] 27) := by rw [← hX]; exact cells_alloc z_1 _
      have fF16 : X16.heap[X1.heap.size]? = some (.cells #[.int .i64 0] 3) := by rw [← hX]; exact World.alloc_heap_new _ _
      have b_16 : Below w.heap.size w X16 := by rw [← hX]; exact b_1.alloc b_1.size _
      have g_16 : X1.heap.size ≤ X16.heap.size := by rw [← hX]; simp
      have p_16 : w.heap.size + 1 ≤ X16.heap.size := by omega
      rw [hX]
      clear hX
      refine hK.out _ _ trivial (fun hHeld => ?_)
      clear hK K
      try simp only [Act.put, List.getElem_toArray, List.getElem_cons_succ, List.getElem_cons_zero, List.setIfInBounds_toArray, List.set_cons_zero, List.set_cons_succ]
      refine wpAnyH_ready (rs := [3, 4]) (by kernel_rfl) (by simp) ?_
      refine AllReadyH.cons rfl (fun K hK => ?_) (AllReadyH.cons rfl (fun K hK => ?_) AllReadyH.nil)
      · clear hHeld
        simp only [Act.put, List.getElem_toArray, List.getElem_cons_succ, List.getElem_cons_zero, List.setIfInBounds_toArray, List.set_cons_zero, List.set_cons_succ]
        rw [if_pos (by rfl)]
        go_simp
        obtain ⟨X17, hX⟩ : ∃ Z, (X16.alloc (.cells (Array.replicate wn (.int .i64 0)) 3)) = Z := ⟨_, rfl⟩
        have fF17 : X17.heap[X1.heap.size]? = some (.cells #[.int .i64 0] 3) := by rw [← hX]; exact cells_alloc fF16 _
        have z_17 : X17.heap[w.heap.size]? = some (.cells #[.int .i64 0, .slice none 0 0, .slice none 0 0, .slice none 0 0, .slice none 0 0] 27) := by rw [← hX]; exact cells_alloc z_16 _
        have fR17 : X17.heap[X16.heap.size]? = some (.cells (Array.replicate wn (.int .i64 0)) 3) := by rw [← hX]; exact World.alloc_heap_new _ _
        have b_17 : Below w.heap.size w X17 := by rw [← hX]; exact b_16.alloc b_16.size _
        have g_17 : X16.heap.size ≤ X17.heap.size := by rw [← hX]; simp
        have p_17 : w.heap.size + 1 ≤ X17.heap.size := by omega
        rw [hX]
        clear hX
        refine hK.out _ _ trivial (fun hHeld => ?_)
        clear hK K
        try simp only [Act.put, List.getElem_toArray, List.getElem_cons_succ, List.getElem_cons_zero, List.setIfInBounds_toArray, List.set_cons_zero, List.set_cons_succ]
        refine wpAnyH_ready (rs := [4]) (by kernel_rfl) (by simp) ?_
        refine AllReadyH.cons rfl (fun K hK => ?_) AllReadyH.nil
        · clear hHeld
          simp only [Act.put, List.getElem_toArray, List.getElem_cons_succ, List.getElem_cons_zero, List.setIfInBounds_toArray, List.set_cons_zero, List.set_cons_succ]
          rw [if_pos (by rfl)]
          go_simp
          obtain ⟨X18, hX⟩ : ∃ Z, (X17.alloc (.cells #[.int .i64 0, .string ⟨#[]⟩, .slice none 0 0] 61)) = Z := ⟨_, rfl⟩
          have fF18 : X18.heap[X1.heap.size]? = some (.cells #[.int .i64 0] 3) := by rw [← hX]; exact cells_alloc fF17 _
          have fR18 : X18.heap[X16.heap.size]? = some (.cells (Array.replicate wn (.int .i64 0)) 3) := by rw [← hX]; exact cells_alloc fR17 _
          have z_18 : X18.heap[w.heap.size]? = some (.cells #[.int .i64 0, .slice none 0 0, .slice none 0 0, .slice none 0 0, .slice none 0 0] 27) := by rw [← hX]; exact cells_alloc z_17 _
          have fS18 : X18.heap[X17.heap.size]? = some (.cells #[.int .i64 0, .string ⟨#[]⟩, .slice none 0 0] 61) := by rw [← hX]; exact World.alloc_heap_new _ _
          have b_18 : Below w.heap.size w X18 := by rw [← hX]; exact b_17.alloc b_17.size _
          have g_18 : X17.heap.size ≤ X18.heap.size := by rw [← hX]; simp
          have p_18 : w.heap.size + 1 ≤ X18.heap.size := by omega
          rw [hX]
          clear hX
          refine hK.out _ _ trivial (fun hHeld => ?_)
          clear hK K
          try simp only [Act.put, List.getElem_toArray, List.getElem_cons_succ, List.getElem_cons_zero, List.setIfInBounds_toArray, List.set_cons_zero, List.set_cons_succ]
          refine wpAnyH_take (i := 6) (v := .agg #[.int .i64 (g : Int), .slice (some ⟨X16.heap.size, 0, none⟩) wn wn, .slice (some ⟨X17.heap.size, 0, none⟩) 1 1, .slice (some ⟨X1.heap.size, 0, none⟩) 1 1, .slice none 0 0]) rfl (by kernel_rfl) (by kernel_rfl) (by kernel_rfl) (fun _ _ _ h => h) (Or.inl ⟨by rfl, fun w' hSw => by go_simp⟩) hHeld ?_
          simp only [Act.put, List.getElem_toArray, List.getElem_cons_succ, List.getElem_cons_zero, List.setIfInBounds_toArray, List.set_cons_zero, List.set_cons_succ]
          refine wpAnyH_ready (rs := [7]) (by kernel_rfl) (by simp) ?_
          refine AllReadyH.cons rfl (fun K hK => ?_) AllReadyH.nil
          · clear hHeld
            simp only [Act.put, List.getElem_toArray, List.getElem_cons_succ, List.getElem_cons_zero, List.setIfInBounds_toArray, List.set_cons_zero, List.set_cons_succ]
            rw [if_pos (by rfl)]
            obtain ⟨z0, z1, z2, z3, z4⟩ := five z_18
            have y0 := cells_frozen z_18 0
            have y1 := cells_frozen z_18 1
            have y2 := cells_frozen z_18 2
            have y3 := cells_frozen z_18 3
            have y4 := cells_frozen z_18 4
            go_simp
            refine hK.out _ _ trivial (fun hHeld => ?_)
            clear hK K hHeld
            refine wpAnyH_done (by kernel_rfl) ?_ _
            go_wp2_with fail
            refine bodyPost_ret (v := .agg #[.int .i64 (g : Int), .slice (some ⟨X16.heap.size, 0, none⟩) wn wn, .slice (some ⟨X17.heap.size, 0, none⟩) 1 1, .slice (some ⟨X1.heap.size, 0, none⟩) 1 1, .slice none 0 0]) (by simp [results, Tryz.results24, go_sem, z0, z1, z2, z3, z4]) rfl ⟨_, _, _, rfl, (heap_fiveF _ _ _ _ _ _ (by first | omega | (simp <;> omega))).trans fR18, (heap_fiveF _ _ _ _ _ _ (by first | omega | (simp <;> omega))).trans fS18, (heap_fiveF _ _ _ _ _ _ (by first | omega | (simp <;> omega))).trans fF18, by (first | omega | (simp <;> omega)), by (first | omega | (simp <;> omega)), by (first | omega | (simp <;> omega)), below_fiveF b_18 (Nat.le_refl _) _ _ _ _ _⟩
      · clear hHeld
        simp only [Act.put, List.getElem_toArray, List.getElem_cons_succ, List.getElem_cons_zero, List.setIfInBounds_toArray, List.set_cons_zero, List.set_cons_succ]
        rw [if_pos (by rfl)]
        go_simp
        obtain ⟨X20, hX⟩ : ∃ Z, (X16.alloc (.cells #[.int .i64 0, .string ⟨#[]⟩, .slice none 0 0] 61)) = Z := ⟨_, rfl⟩
        have fF20 : X20.heap[X1.heap.size]? = some (.cells #[.int .i64 0] 3) := by rw [← hX]; exact cells_alloc fF16 _
        have z_20 : X20.heap[w.heap.size]? = some (.cells #[.int .i64 0, .slice none 0 0, .slice none 0 0, .slice none 0 0, .slice none 0 0] 27) := by rw [← hX]; exact cells_alloc z_16 _
        have fS20 : X20.heap[X16.heap.size]? = some (.cells #[.int .i64 0, .string ⟨#[]⟩, .slice none 0 0] 61) := by rw [← hX]; exact World.alloc_heap_new _ _
        have b_20 : Below w.heap.size w X20 := by rw [← hX]; exact b_16.alloc b_16.size _
        have g_20 : X16.heap.size ≤ X20.heap.size := by rw [← hX]; simp
        have p_20 : w.heap.size + 1 ≤ X20.heap.size := by omega
        rw [hX]
        clear hX
        refine hK.out _ _ trivial (fun hHeld => ?_)
        clear hK K
        try simp only [Act.put, List.getElem_toArray, List.getElem_cons_succ, List.getElem_cons_zero, List.setIfInBounds_toArray, List.set_cons_zero, List.set_cons_succ]
        refine wpAnyH_ready (rs := [3]) (by kernel_rfl) (by simp) ?_
        refine AllReadyH.cons rfl (fun K hK => ?_) AllReadyH.nil
        · clear hHeld
          simp only [Act.put, List.getElem_toArray, List.getElem_cons_succ, List.getElem_cons_zero, List.setIfInBounds_toArray, List.set_cons_zero, List.set_cons_succ]
          rw [if_pos (by rfl)]
          go_simp
          obtain ⟨X21, hX⟩ : ∃ Z, (X20.alloc (.cells (Array.replicate wn (.int .i64 0)) 3)) = Z := ⟨_, rfl⟩
          have fF21 : X21.heap[X1.heap.size]? = some (.cells #[.int .i64 0] 3) := by rw [← hX]; exact cells_alloc fF20 _
          have fS21 : X21.heap[X16.heap.size]? = some (.cells #[.int .i64 0, .string ⟨#[]⟩, .slice none 0 0] 61) := by rw [← hX]; exact cells_alloc fS20 _
          have z_21 : X21.heap[w.heap.size]? = some (.cells #[.int .i64 0, .slice none 0 0, .slice none 0 0, .slice none 0 0, .slice none 0 0] 27) := by rw [← hX]; exact cells_alloc z_20 _
          have fR21 : X21.heap[X20.heap.size]? = some (.cells (Array.replicate wn (.int .i64 0)) 3) := by rw [← hX]; exact World.alloc_heap_new _ _
          have b_21 : Below w.heap.size w X21 := by rw [← hX]; exact b_20.alloc b_20.size _
          have g_21 : X20.heap.size ≤ X21.heap.size := by rw [← hX]; simp
          have p_21 : w.heap.size + 1 ≤ X21.heap.size := by omega
          rw [hX]
          clear hX
          refine hK.out _ _ trivial (fun hHeld => ?_)
          clear hK K
          try simp only [Act.put, List.getElem_toArray, List.getElem_cons_succ, List.getElem_cons_zero, List.setIfInBounds_toArray, List.set_cons_zero, List.set_cons_succ]
          refine wpAnyH_take (i := 6) (v := .agg #[.int .i64 (g : Int), .slice (some ⟨X20.heap.size, 0, none⟩) wn wn, .slice (some ⟨X16.heap.size, 0, none⟩) 1 1, .slice (some ⟨X1.heap.size, 0, none⟩) 1 1, .slice none 0 0]) rfl (by kernel_rfl) (by kernel_rfl) (by kernel_rfl) (fun _ _ _ h => h) (Or.inl ⟨by rfl, fun w' hSw => by go_simp⟩) hHeld ?_
          simp only [Act.put, List.getElem_toArray, List.getElem_cons_succ, List.getElem_cons_zero, List.setIfInBounds_toArray, List.set_cons_zero, List.set_cons_succ]
          refine wpAnyH_ready (rs := [7]) (by kernel_rfl) (by simp) ?_
          refine AllReadyH.cons rfl (fun K hK => ?_) AllReadyH.nil
          · clear hHeld
            simp only [Act.put, List.getElem_toArray, List.getElem_cons_succ, List.getElem_cons_zero, List.setIfInBounds_toArray, List.set_cons_zero, List.set_cons_succ]
            rw [if_pos (by rfl)]
            obtain ⟨z0, z1, z2, z3, z4⟩ := five z_21
            have y0 := cells_frozen z_21 0
            have y1 := cells_frozen z_21 1
            have y2 := cells_frozen z_21 2
            have y3 := cells_frozen z_21 3
            have y4 := cells_frozen z_21 4
            go_simp
            refine hK.out _ _ trivial (fun hHeld => ?_)
            clear hK K hHeld
            refine wpAnyH_done (by kernel_rfl) ?_ _
            go_wp2_with fail
            refine bodyPost_ret (v := .agg #[.int .i64 (g : Int), .slice (some ⟨X20.heap.size, 0, none⟩) wn wn, .slice (some ⟨X16.heap.size, 0, none⟩) 1 1, .slice (some ⟨X1.heap.size, 0, none⟩) 1 1, .slice none 0 0]) (by simp [results, Tryz.results24, go_sem, z0, z1, z2, z3, z4]) rfl ⟨_, _, _, rfl, (heap_fiveF _ _ _ _ _ _ (by first | omega | (simp <;> omega))).trans fR21, (heap_fiveF _ _ _ _ _ _ (by first | omega | (simp <;> omega))).trans fS21, (heap_fiveF _ _ _ _ _ _ (by first | omega | (simp <;> omega))).trans fF21, by (first | omega | (simp <;> omega)), by (first | omega | (simp <;> omega)), by (first | omega | (simp <;> omega)), below_fiveF b_21 (Nat.le_refl _) _ _ _ _ _⟩
  · clear hHeld
    simp only [Act.put, List.getElem_toArray, List.getElem_cons_succ, List.getElem_cons_zero, List.setIfInBounds_toArray, List.set_cons_zero, List.set_cons_succ]
    rw [if_pos (by rfl)]
    go_simp
    obtain ⟨X23, hX⟩ : ∃ Z, ((w.alloc (.cells #[.int .i64 0, .slice none 0 0, .slice none 0 0, .slice none 0 0, .slice none 0 0] 27)).alloc (.cells #[.int .i64 0, .string ⟨#[]⟩, .slice none 0 0] 61)).drew = Z := ⟨_, rfl⟩
    have z_23 : X23.heap[w.heap.size]? = some (.cells #[.int .i64 0, .slice none 0 0, .slice none 0 0, .slice none 0 0, .slice none 0 0] 27) := by rw [← hX]; exact cells_alloc mz _
    have fS23 : X23.heap[(w.alloc (.cells #[.int .i64 0, .slice none 0 0, .slice none 0 0, .slice none 0 0, .slice none 0 0] 27)).heap.size]? = some (.cells #[.int .i64 0, .string ⟨#[]⟩, .slice none 0 0] 61) := by rw [← hX]; exact World.alloc_heap_new _ _
    have b_23 : Below w.heap.size w X23 := by rw [← hX]; exact to_drew (b0.alloc b0.size _)
    have g_23 : (w.alloc (.cells #[.int .i64 0, .slice none 0 0, .slice none 0 0, .slice none 0 0, .slice none 0 0] 27)).heap.size ≤ X23.heap.size := by rw [← hX]; show _ ≤ (World.alloc _ _).heap.size; simp
    have p_23 : w.heap.size + 1 ≤ X23.heap.size := by omega
    rw [hX]
    clear hX
    refine hK.out _ _ trivial (fun hHeld => ?_)
    clear hK K
    try simp only [Act.put, List.getElem_toArray, List.getElem_cons_succ, List.getElem_cons_zero, List.setIfInBounds_toArray, List.set_cons_zero, List.set_cons_succ]
    refine wpAnyH_ready (rs := [2, 5]) (by kernel_rfl) (by simp) ?_
    refine AllReadyH.cons rfl (fun K hK => ?_) (AllReadyH.cons rfl (fun K hK => ?_) AllReadyH.nil)
    · clear hHeld
      simp only [Act.put, List.getElem_toArray, List.getElem_cons_succ, List.getElem_cons_zero, List.setIfInBounds_toArray, List.set_cons_zero, List.set_cons_succ]
      rw [if_pos (by rfl)]
      go_wp2_with (go_at_call 49; refine (HWa.out _).mono ?_; rintro e9 w9 ⟨rfl, hw⟩; rw [hw]; clear hw)
      refine hK.out _ _ trivial (fun hHeld => ?_)
      clear hK K
      try simp only [Act.put, List.getElem_toArray, List.getElem_cons_succ, List.getElem_cons_zero, List.setIfInBounds_toArray, List.set_cons_zero, List.set_cons_succ]
      refine wpAnyH_ready (rs := [3, 5]) (by kernel_rfl) (by simp) ?_
      refine AllReadyH.cons rfl (fun K hK => ?_) (AllReadyH.cons rfl (fun K hK => ?_) AllReadyH.nil)
      · clear hHeld
        simp only [Act.put, List.getElem_toArray, List.getElem_cons_succ, List.getElem_cons_zero, List.setIfInBounds_toArray, List.set_cons_zero, List.set_cons_succ]
        rw [if_pos (by rfl)]
        go_simp
        obtain ⟨X25, hX⟩ : ∃ Z, (X23.alloc (.cells (Array.replicate wn (.int .i64 0)) 3)) = Z := ⟨_, rfl⟩
        have fS25 : X25.heap[(w.alloc (.cells #[.int .i64 0, .slice none 0 0, .slice none 0 0, .slice none 0 0, .slice none 0 0] 27)).heap.size]? = some (.cells #[.int .i64 0, .string ⟨#[]⟩, .slice none 0 0] 61) := by rw [← hX]; exact cells_alloc fS23 _
        have z_25 : X25.heap[w.heap.size]? = some (.cells #[.int .i64 0, .slice none 0 0, .slice none 0 0, .slice none 0 0, .slice none 0 0] 27) := by rw [← hX]; exact cells_alloc z_23 _
        have fR25 : X25.heap[X23.heap.size]? = some (.cells (Array.replicate wn (.int .i64 0)) 3) := by rw [← hX]; exact World.alloc_heap_new _ _
        have b_25 : Below w.heap.size w X25 := by rw [← hX]; exact b_23.alloc b_23.size _
        have g_25 : X23.heap.size ≤ X25.heap.size := by rw [← hX]; simp
        have p_25 : w.heap.size + 1 ≤ X25.heap.size := by omega
        rw [hX]
        clear hX
        refine hK.out _ _ trivial (fun hHeld => ?_)
        clear hK K
        try simp only [Act.put, List.getElem_toArray, List.getElem_cons_succ, List.getElem_cons_zero, List.setIfInBounds_toArray, List.set_cons_zero, List.set_cons_succ]
        refine wpAnyH_ready (rs := [5]) (by kernel_rfl) (by simp) ?_
        refine AllReadyH.cons rfl (fun K hK => ?_) AllReadyH.nil
        · clear hHeld
          simp only [Act.put, List.getElem_toArray, List.getElem_cons_succ, List.getElem_cons_zero, List.setIfInBounds_toArray, List.set_cons_zero, List.set_cons_succ]
          rw [if_pos (by rfl)]
          go_simp
          obtain ⟨X26, hX⟩ : ∃ Z, (X25.alloc (.cells #[.int .i64 0] 3)) = Z := ⟨_, rfl⟩
          have fS26 : X26.heap[(w.alloc (.cells #[.int .i64 0, .slice none 0 0, .slice none 0 0, .slice none 0 0, .slice none 0 0] 27)).heap.size]? = some (.cells #[.int .i64 0, .string ⟨#[]⟩, .slice none 0 0] 61) := by rw [← hX]; exact cells_alloc fS25 _
          have fR26 : X26.heap[X23.heap.size]? = some (.cells (Array.replicate wn (.int .i64 0)) 3) := by rw [← hX]; exact cells_alloc fR25 _
          have z_26 : X26.heap[w.heap.size]? = some (.cells #[.int .i64 0, .slice none 0 0, .slice none 0 0, .slice none 0 0, .slice none 0 0] 27) := by rw [← hX]; exact cells_alloc z_25 _
          have fF26 : X26.heap[X25.heap.size]? = some (.cells #[.int .i64 0] 3) := by rw [← hX]; exact World.alloc_heap_new _ _
          have b_26 : Below w.heap.size w X26 := by rw [← hX]; exact b_25.alloc b_25.size _
          have g_26 : X25.heap.size ≤ X26.heap.size := by rw [← hX]; simp
          have p_26 : w.heap.size + 1 ≤ X26.heap.size := by omega
          rw [hX]
          clear hX
          refine hK.out _ _ trivial (fun hHeld => ?_)
          clear hK K
          try simp only [Act.put, List.getElem_toArray, List.getElem_cons_succ, List.getElem_cons_zero, List.setIfInBounds_toArray, List.set_cons_zero, List.set_cons_succ]
          refine wpAnyH_take (i := 6) (v := .agg #[.int .i64 (g : Int), .slice (some ⟨X23.heap.size, 0, none⟩) wn wn, .slice (some ⟨(w.alloc (.cells #[.int .i64 0, .slice none 0 0, .slice none 0 0, .slice none 0 0, .slice none 0 0] 27)).heap.size, 0, none⟩) 1 1, .slice (some ⟨X25.heap.size, 0, none⟩) 1 1, .slice none 0 0]) rfl (by kernel_rfl) (by kernel_rfl) (by kernel_rfl) (fun _ _ _ h => h) (Or.inl ⟨by rfl, fun w' hSw => by go_simp⟩) hHeld ?_
          simp only [Act.put, List.getElem_toArray, List.getElem_cons_succ, List.getElem_cons_zero, List.setIfInBounds_toArray, List.set_cons_zero, List.set_cons_succ]
          refine wpAnyH_ready (rs := [7]) (by kernel_rfl) (by simp) ?_
          refine AllReadyH.cons rfl (fun K hK => ?_) AllReadyH.nil
          · clear hHeld
            simp only [Act.put, List.getElem_toArray, List.getElem_cons_succ, List.getElem_cons_zero, List.setIfInBounds_toArray, List.set_cons_zero, List.set_cons_succ]
            rw [if_pos (by rfl)]
            obtain ⟨z0, z1, z2, z3, z4⟩ := five z_26
            have y0 := cells_frozen z_26 0
            have y1 := cells_frozen z_26 1
            have y2 := cells_frozen z_26 2
            have y3 := cells_frozen z_26 3
            have y4 := cells_frozen z_26 4
            go_simp
            refine hK.out _ _ trivial (fun hHeld => ?_)
            clear hK K hHeld
            refine wpAnyH_done (by kernel_rfl) ?_ _
            go_wp2_with fail
            refine bodyPost_ret (v := .agg #[.int .i64 (g : Int), .slice (some ⟨X23.heap.size, 0, none⟩) wn wn, .slice (some ⟨(w.alloc (.cells #[.int .i64 0, .slice none 0 0, .slice none 0 0, .slice none 0 0, .slice none 0 0] 27)).heap.size, 0, none⟩) 1 1, .slice (some ⟨X25.heap.size, 0, none⟩) 1 1, .slice none 0 0]) (by simp [results, Tryz.results24, go_sem, z0, z1, z2, z3, z4]) rfl ⟨_, _, _, rfl, (heap_fiveF _ _ _ _ _ _ (by first | omega | (simp <;> omega))).trans fR26, (heap_fiveF _ _ _ _ _ _ (by first | omega | (simp <;> omega))).trans fS26, (heap_fiveF _ _ _ _ _ _ (by first | omega | (simp <;> omega))).trans fF26, by (first | omega | (simp <;> omega)), by (first | omega | (simp <;> omega)), by (first | omega | (simp <;> omega)), below_fiveF b_26 (Nat.le_refl _) _ _ _ _ _⟩
      · clear hHeld
        simp only [Act.put, List.getElem_toArray, List.getElem_cons_succ, List.getElem_cons_zero, List.setIfInBounds_toArray, List.set_cons_zero, List.set_cons_succ]
        rw [if_pos (by rfl)]
        go_simp
        obtain ⟨X28, hX⟩ : ∃ Z, (X23.alloc (.cells #[.int .i64 0] 3)) = Z := ⟨_, rfl⟩
        have fS28 : X28.heap[(w.alloc (.cells #[.int .i64 0, .slice none 0 0, .slice none 0 0, .slice none 0 0, .slice none 0 0] 27)).heap.size]? = some (.cells #[.int .i64 0, .string ⟨#[]⟩, .slice none 0 0] 61) := by rw [← hX]; exact cells_alloc fS23 _
        have z_28 : X28.heap[w.heap.size]? = some (.cells #[.int .i64 0, .slice none 0 0, .slice none 0 0, .slice none 0 0, .slice none 0 0] 27) := by rw [← hX]; exact cells_alloc z_23 _
        have fF28 : X28.heap[X23.heap.size]? = some (.cells #[.int .i64 0] 3) := by rw [← hX]; exact World.alloc_heap_new _ _
        have b_28 : Below w.heap.size w X28 := by rw [← hX]; exact b_23.alloc b_23.size _
        have g_28 : X23.heap.size ≤ X28.heap.size := by rw [← hX]; simp
        have p_28 : w.heap.size + 1 ≤ X28.heap.size := by omega
        rw [hX]
        clear hX
        refine hK.out _ _ trivial (fun hHeld => ?_)
        clear hK K
        try simp only [Act.put, List.getElem_toArray, List.getElem_cons_succ, List.getElem_cons_zero, List.setIfInBounds_toArray, List.set_cons_zero, List.set_cons_succ]
        refine wpAnyH_ready (rs := [3]) (by kernel_rfl) (by simp) ?_
        refine AllReadyH.cons rfl (fun K hK => ?_) AllReadyH.nil
        · clear hHeld
          simp only [Act.put, List.getElem_toArray, List.getElem_cons_succ, List.getElem_cons_zero, List.setIfInBounds_toArray, List.set_cons_zero, List.set_cons_succ]
          rw [if_pos (by rfl)]
          go_simp
          obtain ⟨X29, hX⟩ : ∃ Z, (X28.alloc (.cells (Array.replicate wn (.int .i64 0)) 3)) = Z := ⟨_, rfl⟩
          have fS29 : X29.heap[(w.alloc (.cells #[.int .i64 0, .slice none 0 0, .slice none 0 0, .slice none 0 0, .slice none 0 0] 27)).heap.size]? = some (.cells #[.int .i64 0, .string ⟨#[]⟩, .slice none 0 0] 61) := by rw [← hX]; exact cells_alloc fS28 _
          have fF29 : X29.heap[X23.heap.size]? = some (.cells #[.int .i64 0] 3) := by rw [← hX]; exact cells_alloc fF28 _
          have z_29 : X29.heap[w.heap.size]? = some (.cells #[.int .i64 0, .slice none 0 0, .slice none 0 0, .slice none 0 0, .slice none 0 0] 27) := by rw [← hX]; exact cells_alloc z_28 _
          have fR29 : X29.heap[X28.heap.size]? = some (.cells (Array.replicate wn (.int .i64 0)) 3) := by rw [← hX]; exact World.alloc_heap_new _ _
          have b_29 : Below w.heap.size w X29 := by rw [← hX]; exact b_28.alloc b_28.size _
          have g_29 : X28.heap.size ≤ X29.heap.size := by rw [← hX]; simp
          have p_29 : w.heap.size + 1 ≤ X29.heap.size := by omega
          rw [hX]
          clear hX
          refine hK.out _ _ trivial (fun hHeld => ?_)
          clear hK K
          try simp only [Act.put, List.getElem_toArray, List.getElem_cons_succ, List.getElem_cons_zero, List.setIfInBounds_toArray, List.set_cons_zero, List.set_cons_succ]
          refine wpAnyH_take (i := 6) (v := .agg #[.int .i64 (g : Int), .slice (some ⟨X28.heap.size, 0, none⟩) wn wn, .slice (some ⟨(w.alloc (.cells #[.int .i64 0, .slice none 0 0, .slice none 0 0, .slice none 0 0, .slice none 0 0] 27)).heap.size, 0, none⟩) 1 1, .slice (some ⟨X23.heap.size, 0, none⟩) 1 1, .slice none 0 0]) rfl (by kernel_rfl) (by kernel_rfl) (by kernel_rfl) (fun _ _ _ h => h) (Or.inl ⟨by rfl, fun w' hSw => by go_simp⟩) hHeld ?_
          simp only [Act.put, List.getElem_toArray, List.getElem_cons_succ, List.getElem_cons_zero, List.setIfInBounds_toArray, List.set_cons_zero, List.set_cons_succ]
          refine wpAnyH_ready (rs := [7]) (by kernel_rfl) (by simp) ?_
          refine AllReadyH.cons rfl (fun K hK => ?_) AllReadyH.nil
          · clear hHeld
            simp only [Act.put, List.getElem_toArray, List.getElem_cons_succ, List.getElem_cons_zero, List.setIfInBounds_toArray, List.set_cons_zero, List.set_cons_succ]
            rw [if_pos (by rfl)]
            obtain ⟨z0, z1, z2, z3, z4⟩ := five z_29
            have y0 := cells_frozen z_29 0
            have y1 := cells_frozen z_29 1
            have y2 := cells_frozen z_29 2
            have y3 := cells_frozen z_29 3
            have y4 := cells_frozen z_29 4
            go_simp
            refine hK.out _ _ trivial (fun hHeld => ?_)
            clear hK K hHeld
            refine wpAnyH_done (by kernel_rfl) ?_ _
            go_wp2_with fail
            refine bodyPost_ret (v := .agg #[.int .i64 (g : Int), .slice (some ⟨X28.heap.size, 0, none⟩) wn wn, .slice (some ⟨(w.alloc (.cells #[.int .i64 0, .slice none 0 0, .slice none 0 0, .slice none 0 0, .slice none 0 0] 27)).heap.size, 0, none⟩) 1 1, .slice (some ⟨X23.heap.size, 0, none⟩) 1 1, .slice none 0 0]) (by simp [results, Tryz.results24, go_sem, z0, z1, z2, z3, z4]) rfl ⟨_, _, _, rfl, (heap_fiveF _ _ _ _ _ _ (by first | omega | (simp <;> omega))).trans fR29, (heap_fiveF _ _ _ _ _ _ (by first | omega | (simp <;> omega))).trans fS29, (heap_fiveF _ _ _ _ _ _ (by first | omega | (simp <;> omega))).trans fF29, by (first | omega | (simp <;> omega)), by (first | omega | (simp <;> omega)), by (first | omega | (simp <;> omega)), below_fiveF b_29 (Nat.le_refl _) _ _ _ _ _⟩
    · clear hHeld
      simp only [Act.put, List.getElem_toArray, List.getElem_cons_succ, List.getElem_cons_zero, List.setIfInBounds_toArray, List.set_cons_zero, List.set_cons_succ]
      rw [if_pos (by rfl)]
      go_simp
      obtain ⟨X31, hX⟩ : ∃ Z, (X23.alloc (.cells #[.int .i64 0] 3)) = Z := ⟨_, rfl⟩
      have fS31 : X31.heap[(w.alloc (.cells #[.int .i64 0, .slice none 0 0, .slice none 0 0, .slice none 0 0, .slice none 0 0] 27)).heap.size]? = some (.cells #[.int .i64 0, .string ⟨#[]⟩, .slice none 0 0] 61) := by rw [← hX]; exact cells_alloc fS23 _
      have z_31 : X31.heap[w.heap.size]? = some (.cells #[.int .i64 0, .slice none 0 0, .slice none 0 0, .slice none 0 0, .slice none 0 0] 27) := by rw [← hX]; exact cells_alloc z_23 _
      have fF31 : X31.heap[X23.heap.size]? = some (.cells #[.int .i64 0] 3) := by rw [← hX]; exact World.alloc_heap_new _ _
      have b_31 : Below w.heap.size w X31 := by rw [← hX]; exact b_23.alloc b_23.size _
      have g_31 : X23.heap.size ≤ X31.heap.size := by rw [← hX]; simp
      have p_31 : w.heap.size + 1 ≤ X31.heap.size := by omega
      rw [hX]
      clear hX
      refine hK.out _ _ trivial (fun hHeld => ?_)
      clear hK K
      try simp only [Act.put, List.getElem_toArray, List.getElem_cons_succ, List.getElem_cons_zero, List.setIfInBounds_toArray, List.set_cons_zero, List.set_cons_succ]
      refine wpAnyH_ready (rs := [2]) (by kernel_rfl) (by simp) ?_
      refine AllReadyH.cons rfl (fun K hK => ?_) AllReadyH.nil
      · clear hHeld
        simp only [Act.put, List.getElem_toArray, List.getElem_cons_succ, List.getElem_cons_zero, List.setIfInBounds_toArray, List.set_cons_zero, List.set_cons_succ]
        rw [if_pos (by rfl)]
        go_wp2_with (go_at_call 49; refine (HWa.out _).mono ?_; rintro e9 w9 ⟨rfl, hw⟩; rw [hw]; clear hw)
        refine hK.out _ _ trivial (fun hHeld => ?_)
        clear hK K
        try simp only [Act.put, List.getElem_toArray, List.getElem_cons_succ, List.getElem_cons_zero, List.setIfInBounds_toArray, List.set_cons_zero, List.set_cons_succ]
        refine wpAnyH_ready (rs := [3]) (by kernel_rfl) (by simp) ?_
        refine AllReadyH.cons rfl (fun K hK => ?_) AllReadyH.nil
        · clear hHeld
          simp only [Act.put, List.getElem_toArray, List.getElem_cons_succ, List.getElem_cons_zero, List.setIfInBounds_toArray, List.set_cons_zero, List.set_cons_succ]
          rw [if_pos (by rfl)]
          go_simp
          obtain ⟨X33, hX⟩ : ∃ Z, (X31.alloc (.cells (Array.replicate wn (.int .i64 0)) 3)) = Z := ⟨_, rfl⟩
          have fS33 : X33.heap[(w.alloc (.cells #[.int .i64 0, .slice none 0 0, .slice none 0 0, .slice none 0 0, .slice none 0 0] 27)).heap.size]? = some (.cells #[.int .i64 0, .string ⟨#[]⟩, .slice none 0 0] 61) := by rw [← hX]; exact cells_alloc fS31 _
          have fF33 : X33.heap[X23.heap.size]? = some (.cells #[.int .i64 0] 3) := by rw [← hX]; exact cells_alloc fF31 _
          have z_33 : X33.heap[w.heap.size]? = some (.cells #[.int .i64 0, .slice none 0 0, .slice none 0 0, .slice none 0 0, .slice none 0 0] 27) := by rw [← hX]; exact cells_alloc z_31 _
          have fR33 : X33.heap[X31.heap.size]? = some (.cells (Array.replicate wn (.int .i64 0)) 3) := by rw [← hX]; exact World.alloc_heap_new _ _
          have b_33 : Below w.heap.size w X33 := by rw [← hX]; exact b_31.alloc b_31.size _
          have g_33 : X31.heap.size ≤ X33.heap.size := by rw [← hX]; simp
          have p_33 : w.heap.size + 1 ≤ X33.heap.size := by omega
          rw [hX]
          clear hX
          refine hK.out _ _ trivial (fun hHeld => ?_)
          clear hK K
          try simp only [Act.put, List.getElem_toArray, List.getElem_cons_succ, List.getElem_cons_zero, List.setIfInBounds_toArray, List.set_cons_zero, List.set_cons_succ]
          refine wpAnyH_take (i := 6) (v := .agg #[.int .i64 (g : Int), .slice (some ⟨X31.heap.size, 0, none⟩) wn wn, .slice (some ⟨(w.alloc (.cells #[.int .i64 0, .slice none 0 0, .slice none 0 0, .slice none 0 0, .slice none 0 0] 27)).heap.size, 0, none⟩) 1 1, .slice (some ⟨X23.heap.size, 0, none⟩) 1 1, .slice none 0 0]) rfl (by kernel_rfl) (by kernel_rfl) (by kernel_rfl) (fun _ _ _ h => h) (Or.inl ⟨by rfl, fun w' hSw => by go_simp⟩) hHeld ?_
          simp only [Act.put, List.getElem_toArray, List.getElem_cons_succ, List.getElem_cons_zero, List.setIfInBounds_toArray, List.set_cons_zero, List.set_cons_succ]
          refine wpAnyH_ready (rs := [7]) (by kernel_rfl) (by simp) ?_
          refine AllReadyH.cons rfl (fun K hK => ?_) AllReadyH.nil
          · clear hHeld
            simp only [Act.put, List.getElem_toArray, List.getElem_cons_succ, List.getElem_cons_zero, List.setIfInBounds_toArray, List.set_cons_zero, List.set_cons_succ]
            rw [if_pos (by rfl)]
            obtain ⟨z0, z1, z2, z3, z4⟩ := five z_33
            have y0 := cells_frozen z_33 0
            have y1 := cells_frozen z_33 1
            have y2 := cells_frozen z_33 2
            have y3 := cells_frozen z_33 3
            have y4 := cells_frozen z_33 4
            go_simp
            refine hK.out _ _ trivial (fun hHeld => ?_)
            clear hK K hHeld
            refine wpAnyH_done (by kernel_rfl) ?_ _
            go_wp2_with fail
            refine bodyPost_ret (v := .agg #[.int .i64 (g : Int), .slice (some ⟨X31.heap.size, 0, none⟩) wn wn, .slice (some ⟨(w.alloc (.cells #[.int .i64 0, .slice none 0 0, .slice none 0 0, .slice none 0 0, .slice none 0 0] 27)).heap.size, 0, none⟩) 1 1, .slice (some ⟨X23.heap.size, 0, none⟩) 1 1, .slice none 0 0]) (by simp [results, Tryz.results24, go_sem, z0, z1, z2, z3, z4]) rfl ⟨_, _, _, rfl, (heap_fiveF _ _ _ _ _ _ (by first | omega | (simp <;> omega))).trans fR33, (heap_fiveF _ _ _ _ _ _ (by first | omega | (simp <;> omega))).trans fS33, (heap_fiveF _ _ _ _ _ _ (by first | omega | (simp <;> omega))).trans fF33, by (first | omega | (simp <;> omega)), by (first | omega | (simp <;> omega)), by (first | omega | (simp <;> omega)), below_fiveF b_33 (Nat.le_refl _) _ _ _ _ _⟩
  · clear hHeld
    simp only [Act.put, List.getElem_toArray, List.getElem_cons_succ, List.getElem_cons_zero, List.setIfInBounds_toArray, List.set_cons_zero, List.set_cons_succ]
    rw [if_pos (by rfl)]
    go_simp
    obtain ⟨X35, hX⟩ : ∃ Z, ((w.alloc (.cells #[.int .i64 0, .slice none 0 0, .slice none 0 0, .slice none 0 0, .slice none 0 0] 27)).alloc (.cells #[.int .i64 0] 3)).drew = Z := ⟨_, rfl⟩
    have z_35 : X35.heap[w.heap.size]? = some (.cells #[.int .i64 0, .slice none 0 0, .slice none 0 0, .slice none 0 0, .slice none 0 0] 27) := by rw [← hX]; exact cells_alloc mz _
    have fF35 : X35.heap[(w.alloc (.cells #[.int .i64 0, .slice none 0 0, .slice none 0 0, .slice none 0 0, .slice none 0 0] 27)).heap.size]? = some (.cells #[.int .i64 0] 3) := by rw [← hX]; exact World.alloc_heap_new _ _
    have b_35 : Below w.heap.size w X35 := by rw [← hX]; exact to_drew (b0.alloc b0.size _)
    have g_35 : (w.alloc (.cells #[.int .i64 0, .slice none 0 0, .slice none 0 0, .slice none 0 0, .slice none 0 0] 27)).heap.size ≤ X35.heap.size := by rw [← hX]; show _ ≤ (World.alloc _ _).heap.size; simp
    have p_35 : w.heap.size + 1 ≤ X35.heap.size := by omega
    rw [hX]
    clear hX
    refine hK.out _ _ trivial (fun hHeld => ?_)
    clear hK K
    try simp only [Act.put, List.getElem_toArray, List.getElem_cons_succ, List.getElem_cons_zero, List.setIfInBounds_toArray, List.set_cons_zero, List.set_cons_succ]
    refine wpAnyH_ready (rs := [2, 4]) (by kernel_rfl) (by simp) ?_
    refine AllReadyH.cons rfl (fun K hK => ?_) (AllReadyH.cons rfl (fun K hK => ?_) AllReadyH.nil)
    · clear hHeld
      simp only [Act.put, List.getElem_toArray, List.getElem_cons_succ, List.getElem_cons_zero, List.setIfInBounds_toArray, List.set_cons_zero, List.set_cons_succ]
      rw [if_pos (by rfl)]
      go_wp2_with (go_at_call 49; refine (HWa.out _).mono ?_; rintro e9 w9 ⟨rfl, hw⟩; rw [hw]; clear hw)
      refine hK.out _ _ trivial (fun hHeld => ?_)
      clear hK K
      try simp only [Act.put, List.getElem_toArray, List.getElem_cons_succ, List.getElem_cons_zero, List.setIfInBounds_toArray, List.set_cons_zero, List.set_cons_succ]
      refine wpAnyH_ready (rs := [3, 4]) (by kernel_rfl) (by simp) ?_
      refine AllReadyH.cons rfl (fun K hK => ?_) (AllReadyH.cons rfl (fun K hK => ?_) AllReadyH.nil)
      · clear hHeld
        simp only [Act.put, List.getElem_toArray, List.getElem_cons_succ, List.getElem_cons_zero, List.setIfInBounds_toArray, List.set_cons_zero, List.set_cons_succ]
        rw [if_pos (by rfl)]
        go_simp
        obtain ⟨X37, hX⟩ : ∃ Z, (X35.alloc (.cells (Array.replicate wn (.int .i64 0)) 3)) = Z := ⟨_, rfl⟩
        have fF37 : X37.heap[(w.alloc (.cells #[.int .i64 0, .slice none 0 0, .slice none 0 0, .slice none 0 0, .slice none 0 0] 27)).heap.size]? = some (.cells #[.int .i64 0] 3) := by rw [← hX]; exact cells_alloc fF35 _
        have z_37 : X37.heap[w.heap.size]? = some (.cells #[.int .i64 0, .slice none 0 0, .slice none 0 0, .slice none 0 0, .slice none 0 0] 27) := by rw [← hX]; exact cells_alloc z_35 _
        have fR37 : X37.heap[X35.heap.size]? = some (.cells (Array.replicate wn (.int .i64 0)) 3) := by rw [← hX]; exact World.alloc_heap_new _ _
        have b_37 : Below w.heap.size w X37 := by rw [← hX]; exact b_35.alloc b_35.size _
        have g_37 : X35.heap.size ≤ X37.heap.size := by rw [← hX]; simp
        have p_37 : w.heap.size + 1 ≤ X37.heap.size := by omega
        rw [hX]
        clear hX
        refine hK.out _ _ trivial (fun hHeld => ?_)
        clear hK K
        try simp only [Act.put, List.getElem_toArray, List.getElem_cons_succ, List.getElem_cons_zero, List.setIfInBounds_toArray, List.set_cons_zero, List.set_cons_succ]
        refine wpAnyH_ready (rs := [4]) (by kernel_rfl) (by simp) ?_
        refine AllReadyH.cons rfl (fun K hK => ?_) AllReadyH.nil
        · clear hHeld
          simp only [Act.put, List.getElem_toArray, List.getElem_cons_succ, List.getElem_cons_zero, List.setIfInBounds_toArray, List.set_cons_zero, List.set_cons_succ]
          rw [if_pos (by rfl)]
          go_simp
          obtain ⟨X38, hX⟩ : ∃ Z, (X37.alloc (.cells #[.int .i64 0, .string ⟨#[]⟩, .slice none 0 0] 61)) = Z := ⟨_, rfl⟩
          have fF38 : X38.heap[(w.alloc (.cells #[.int .i64 0, .slice none 0 0, .slice none 0 0, .slice none 0 0, .slice none 0 0] 27)).heap.size]? = some (.cells #[.int .i64 0] 3) := by rw [← hX]; exact cells_alloc fF37 _
          have fR38 : X38.heap[X35.heap.size]? = some (.cells (Array.replicate wn (.int .i64 0)) 3) := by rw [← hX]; exact cells_alloc fR37 _
          have z_38 : X38.heap[w.heap.size]? = some (.cells #[.int .i64 0, .slice none 0 0, .slice none 0 0, .slice none 0 0, .slice none 0 0] 27) := by rw [← hX]; exact cells_alloc z_37 _
          have fS38 : X38.heap[X37.heap.size]? = some (.cells #[.int .i64 0, .string ⟨#[]⟩, .slice none 0 0] 61) := by rw [← hX]; exact World.alloc_heap_new _ _
          have b_38 : Below w.heap.size w X38 := by rw [← hX]; exact b_37.alloc b_37.size _
          have g_38 : X37.heap.size ≤ X38.heap.size := by rw [← hX]; simp
          have p_38 : w.heap.size + 1 ≤ X38.heap.size := by omega
          rw [hX]
          clear hX
          refine hK.out _ _ trivial (fun hHeld => ?_)
          clear hK K
          try simp only [Act.put, List.getElem_toArray, List.getElem_cons_succ, List.getElem_cons_zero, List.setIfInBounds_toArray, List.set_cons_zero, List.set_cons_succ]
          refine wpAnyH_take (i := 6) (v := .agg #[.int .i64 (g : Int), .slice (some ⟨X35.heap.size, 0, none⟩) wn wn, .slice (some ⟨X37.heap.size, 0, none⟩) 1 1, .slice (some ⟨(w.alloc (.cells #[.int .i64 0, .slice none 0 0, .slice none 0 0, .slice none 0 0, .slice none 0 0] 27)).heap.size, 0, none⟩) 1 1, .slice none 0 0]) rfl (by kernel_rfl) (by kernel_rfl) (by kernel_rfl) (fun _ _ _ h => h) (Or.inl ⟨by rfl, fun w' hSw => by go_simp⟩) hHeld ?_
          simp only [Act.put, List.getElem_toArray, List.getElem_cons_succ, List.getElem_cons_zero, List.setIfInBounds_toArray, List.set_cons_zero, List.set_cons_succ]
          refine wpAnyH_ready (rs := [7]) (by kernel_rfl) (by simp) ?_
          refine AllReadyH.cons rfl (fun K hK => ?_) AllReadyH.nil
          · clear hHeld
            simp only [Act.put, List.getElem_toArray, List.getElem_cons_succ, List.getElem_cons_zero, List.setIfInBounds_toArray, List.set_cons_zero, List.set_cons_succ]
            rw [if_pos (by rfl)]
            obtain ⟨z0, z1, z2, z3, z4⟩ := five z_38
            have y0 := cells_frozen z_38 0
            have y1 := cells_frozen z_38 1
            have y2 := cells_frozen z_38 2
            have y3 := cells_frozen z_38 3
            have y4 := cells_frozen z_38 4
            go_simp
            refine hK.out _ _ trivial (fun hHeld => ?_)
            clear hK K hHeld
            refine wpAnyH_done (by kernel_rfl) ?_ _
            go_wp2_with fail
            refine bodyPost_ret (v := .agg #[.int .i64 (g : Int), .slice (some ⟨X35.heap.size, 0, none⟩) wn wn, .slice (some ⟨X37.heap.size, 0, none⟩) 1 1, .slice (some ⟨(w.alloc (.cells #[.int .i64 0, .slice none 0 0, .slice none 0 0, .slice none 0 0, .slice none 0 0] 27)).heap.size, 0, none⟩) 1 1, .slice none 0 0]) (by simp [results, Tryz.results24, go_sem, z0, z1, z2, z3, z4]) rfl ⟨_, _, _, rfl, (heap_fiveF _ _ _ _ _ _ (by first | omega | (simp <;> omega))).trans fR38, (heap_fiveF _ _ _ _ _ _ (by first | omega | (simp <;> omega))).trans fS38, (heap_fiveF _ _ _ _ _ _ (by first | omega | (simp <;> omega))).trans fF38, by (first | omega | (simp <;> omega)), by (first | omega | (simp <;> omega)), by (first | omega | (simp <;> omega)), below_fiveF b_38 (Nat.le_refl _) _ _ _ _ _⟩
      · clear hHeld
        simp only [Act.put, List.getElem_toArray, List.getElem_cons_succ, List.getElem_cons_zero, List.setIfInBounds_toArray, List.set_cons_zero, List.set_cons_succ]
        rw [if_pos (by rfl)]
        go_simp
        obtain ⟨X40, hX⟩ : ∃ Z, (X35.alloc (.cells #[.int .i64 0, .string ⟨#[]⟩, .slice none 0 0] 61)) = Z := ⟨_, rfl⟩
        have fF40 : X40.heap[(w.alloc (.cells #[.int .i64 0, .slice none 0 0, .slice none 0 0, .slice none 0 0, .slice none 0 0] 27)).heap.size]? = some (.cells #[.int .i64 0] 3) := by rw [← hX]; exact cells_alloc fF35 _
        have z_40 : X40.heap[w.heap.size]? = some (.cells #[.int .i64 0, .slice none 0 0, .slice none 0 0, .slice none 0 0, .slice none 0 0] 27) := by rw [← hX]; exact cells_alloc z_35 _
        have fS40 : X40.heap[X35.heap.size]? = some (.cells #[.int .i64 0, .string ⟨#[]⟩, .slice none 0 0] 61) := by rw [← hX]; exact World.alloc_heap_new _ _
        have b_40 : Below w.heap.size w X40 := by rw [← hX]; exact b_35.alloc b_35.size _
        have g_40 : X35.heap.size ≤ X40.heap.size := by rw [← hX]; simp
        have p_40 : w.heap.size + 1 ≤ X40.heap.size := by omega
        rw [hX]
        clear hX
        refine hK.out _ _ trivial (fun hHeld => ?_)
        clear hK K
        try simp only [Act.put, List.getElem_toArray, List.getElem_cons_succ, List.getElem_cons_zero, List.setIfInBounds_toArray, List.set_cons_zero, List.set_cons_succ]
        refine wpAnyH_ready (rs := [3]) (by kernel_rfl) (by simp) ?_
        refine AllReadyH.cons rfl (fun K hK => ?_) AllReadyH.nil
        · clear hHeld
          simp only [Act.put, List.getElem_toArray, List.getElem_cons_succ, List.getElem_cons_zero, List.setIfInBounds_toArray, List.set_cons_zero, List.set_cons_succ]
          rw [if_pos (by rfl)]
          go_simp
          obtain ⟨X41, hX⟩ : ∃ Z, (X40.alloc (.cells (Array.replicate wn (.int .i64 0)) 3)) = Z := ⟨_, rfl⟩
          have fF41 : X41.heap[(w.alloc (.cells #[.int .i64 0, .slice none 0 0, .slice none 0 0, .slice none 0 0, .slice none 0 0] 27)).heap.size]? = some (.cells #[.int .i64 0] 3) := by rw [← hX]; exact cells_alloc fF40 _
          have fS41 : X41.heap[X35.heap.size]? = some (.cells #[.int .i64 0, .string ⟨#[]⟩, .slice none 0 0] 61) := by rw [← hX]; exact cells_alloc fS40 _
          have z_41 : X41.heap[w.heap.size]? = some (.cells #[.int .i64 0, .slice none 0 0, .slice none 0 0, .slice none 0 0, .slice none 0 0] 27) := by rw [← hX]; exact cells_alloc z_40 _
          have fR41 : X41.heap[X40.heap.size]? = some (.cells (Array.replicate wn (.int .i64 0)) 3) := by rw [← hX]; exact World.alloc_heap_new _ _
          have b_41 : Below w.heap.size w X41 := by rw [← hX]; exact b_40.alloc b_40.size _
          have g_41 : X40.heap.size ≤ X41.heap.size := by rw [← hX]; simp
          have p_41 : w.heap.size + 1 ≤ X41.heap.size := by omega
          rw [hX]
          clear hX
          refine hK.out _ _ trivial (fun hHeld => ?_)
          clear hK K
          try simp only [Act.put, List.getElem_toArray, List.getElem_cons_succ, List.getElem_cons_zero, List.setIfInBounds_toArray, List.set_cons_zero, List.set_cons_succ]
          refine wpAnyH_take (i := 6) (v := .agg #[.int .i64 (g : Int), .slice (some ⟨X40.heap.size, 0, none⟩) wn wn, .slice (some ⟨X35.heap.size, 0, none⟩) 1 1, .slice (some ⟨(w.alloc (.cells #[.int .i64 0, .slice none 0 0, .slice none 0 0, .slice none 0 0, .slice none 0 0] 27)).heap.size, 0, none⟩) 1 1, .slice none 0 0]) rfl (by kernel_rfl) (by kernel_rfl) (by kernel_rfl) (fun _ _ _ h => h) (Or.inl ⟨by rfl, fun w' hSw => by go_simp⟩) hHeld ?_
          simp only [Act.put, List.getElem_toArray, List.getElem_cons_succ, List.getElem_cons_zero, List.setIfInBounds_toArray, List.set_cons_zero, List.set_cons_succ]
          refine wpAnyH_ready (rs := [7]) (by kernel_rfl) (by simp) ?_
          refine AllReadyH.cons rfl (fun K hK => ?_) AllReadyH.nil
          · clear hHeld
            simp only [Act.put, List.getElem_toArray, List.getElem_cons_succ, List.getElem_cons_zero, List.setIfInBounds_toArray, List.set_cons_zero, List.set_cons_succ]
            rw [if_pos (by rfl)]
            obtain ⟨z0, z1, z2, z3, z4⟩ := five z_41
            have y0 := cells_frozen z_41 0
            have y1 := cells_frozen z_41 1
            have y2 := cells_frozen z_41 2
            have y3 := cells_frozen z_41 3
            have y4 := cells_frozen z_41 4
            go_simp
            refine hK.out _ _ trivial (fun hHeld => ?_)
            clear hK K hHeld
            refine wpAnyH_done (by kernel_rfl) ?_ _
            go_wp2_with fail
            refine bodyPost_ret (v := .agg #[.int .i64 (g : Int), .slice (some ⟨X40.heap.size, 0, none⟩) wn wn, .slice (some ⟨X35.heap.size, 0, none⟩) 1 1, .slice (some ⟨(w.alloc (.cells #[.int .i64 0, .slice none 0 0, .slice none 0 0, .slice none 0 0, .slice none 0 0] 27)).heap.size, 0, none⟩) 1 1, .slice none 0 0]) (by simp [results, Tryz.results24, go_sem, z0, z1, z2, z3, z4]) rfl ⟨_, _, _, rfl, (heap_fiveF _ _ _ _ _ _ (by first | omega | (simp <;> omega))).trans fR41, (heap_fiveF _ _ _ _ _ _ (by first | omega | (simp <;> omega))).trans fS41, (heap_fiveF _ _ _ _ _ _ (by first | omega | (simp <;> omega))).trans fF41, by (first | omega | (simp <;> omega)), by (first | omega | (simp <;> omega)), by (first | omega | (simp <;> omega)), below_fiveF b_41 (Nat.le_refl _) _ _ _ _ _⟩
    · clear hHeld
      simp only [Act.put, List.getElem_toArray, List.getElem_cons_succ, List.getElem_cons_zero, List.setIfInBounds_toArray, List.set_cons_zero, List.set_cons_succ]
      rw [if_pos (by rfl)]
      go_simp
      obtain ⟨X43, hX⟩ : ∃ Z, (X35.alloc (.cells #[.int .i64 0, .string ⟨#[]⟩, .slice none 0 0] 61)) = Z := ⟨_, rfl⟩
      have fF43 : X43.heap[(w.alloc (.cells #[.int .i64 0, .slice none 0 0, .slice none 0 0, .slice none 0 0, .slice none 0 0] 27)).heap.size]? = some (.cells #[.int .i64 0] 3) := by rw [← hX]; exact cells_alloc fF35 _
      have z_43 : X43.heap[w.heap.size]? = some (.cells #[.int .i64 0, .slice none 0 0, .slice none 0 0, .slice none 0 0, .slice none 0 0] 27) := by rw [← hX]; exact cells_alloc z_35 _
      have fS43 : X43.heap[X35.heap.size]? = some (.cells #[.int .i64 0, .string ⟨#[]⟩, .slice none 0 0] 61) := by rw [← hX]; exact World.alloc_heap_new _ _
      have b_43 : Below w.heap.size w X43 := by rw [← hX]; exact b_35.alloc b_35.size _
      have g_43 : X35.heap.size ≤ X43.heap.size := by rw [← hX]; simp
      have p_43 : w.heap.size + 1 ≤ X43.heap.size := by omega
      rw [hX]
      clear hX
      refine hK.out _ _ trivial (fun hHeld => ?_)
      clear hK K
      try simp only [Act.put, List.getElem_toArray, List.getElem_cons_succ, List.getElem_cons_zero, List.setIfInBounds_toArray, List.set_cons_zero, List.set_cons_succ]
      refine wpAnyH_ready (rs := [2]) (by kernel_rfl) (by simp) ?_
      refine AllReadyH.cons rfl (fun K hK => ?_) AllReadyH.nil
      · clear hHeld
        simp only [Act.put, List.getElem_toArray, List.getElem_cons_succ, List.getElem_cons_zero, List.setIfInBounds_toArray, List.set_cons_zero, List.set_cons_succ]
        rw [if_pos (by rfl)]
        go_wp2_with (go_at_call 49; refine (HWa.out _).mono ?_; rintro e9 w9 ⟨rfl, hw⟩; rw [hw]; clear hw)
        refine hK.out _ _ trivial (fun hHeld => ?_)
        clear hK K
        try simp only [Act.put, List.getElem_toArray, List.getElem_cons_succ, List.getElem_cons_zero, List.setIfInBounds_toArray, List.set_cons_zero, List.set_cons_succ]
        refine wpAnyH_ready (rs := [3]) (by kernel_rfl) (by simp) ?_
        refine AllReadyH.cons rfl (fun K hK => ?_) AllReadyH.nil
        · clear hHeld
          simp only [Act.put, List.getElem_toArray, List.getElem_cons_succ, List.getElem_cons_zero, List.setIfInBounds_toArray, List.set_cons_zero, List.set_cons_succ]
          rw [if_pos (by rfl)]
          go_simp
          obtain ⟨X45, hX⟩ : ∃ Z, (X43.alloc (.cells (Array.replicate wn (.int .i64 0)) 3)) = Z := ⟨_, rfl⟩
          have fF45 : X45.heap[(w.alloc (.cells #[.int .i64 0, .slice none 0 0, .slice none 0 0, .slice none 0 0, .slice none 0 0] 27)).heap.size]? = some (.cells #[.int .i64 0] 3) := by rw [← hX]; exact cells_alloc fF43 _
          have fS45 : X45.heap[X35.heap.size]? = some (.cells #[.int .i64 0, .string ⟨#[]⟩, .slice none 0 0] 61) := by rw [← hX]; exact cells_alloc fS43 _
          have z_45 : X45.heap[w.heap.size]? = some (.cells #[.int .i64 0, .slice none 0 0, .slice none 0 0, .slice none 0 0, .slice none 0 0] 27) := by rw [← hX]; exact cells_alloc z_43 _
          have fR45 : X45.heap[X43.heap.size]? = some (.cells (Array.replicate wn (.int .i64 0)) 3) := by rw [← hX]; exact World.alloc_heap_new _ _
          have b_45 : Below w.heap.size w X45 := by rw [← hX]; exact b_43.alloc b_43.size _
          have g_45 : X43.heap.size ≤ X45.heap.size := by rw [← hX]; simp
          have p_45 : w.heap.size + 1 ≤ X45.heap.size := by omega
          rw [hX]
          clear hX
          refine hK.out _ _ trivial (fun hHeld => ?_)
          clear hK K
          try simp only [Act.put, List.getElem_toArray, List.getElem_cons_succ, List.getElem_cons_zero, List.setIfInBounds_toArray, List.set_cons_zero, List.set_cons_succ]
          refine wpAnyH_take (i := 6) (v := .agg #[.int .i64 (g : Int), .slice (some ⟨X43.heap.size, 0, none⟩) wn wn, .slice (some ⟨X35.heap.size, 0, none⟩) 1 1, .slice (some ⟨(w.alloc (.cells #[.int .i64 0, .slice none 0 0, .slice none 0 0, .slice none 0 0, .slice none 0 0] 27)).heap.size, 0, none⟩) 1 1, .slice none 0 0]) rfl (by kernel_rfl) (by kernel_rfl) (by kernel_rfl) (fun _ _ _ h => h) (Or.inl ⟨by rfl, fun w' hSw => by go_simp⟩) hHeld ?_
          simp only [Act.put, List.getElem_toArray, List.getElem_cons_succ, List.getElem_cons_zero, List.setIfInBounds_toArray, List.set_cons_zero, List.set_cons_succ]
          refine wpAnyH_ready (rs := [7]) (by kernel_rfl) (by simp) ?_
          refine AllReadyH.cons rfl (fun K hK => ?_) AllReadyH.nil
          · clear hHeld
            simp only [Act.put, List.getElem_toArray, List.getElem_cons_succ, List.getElem_cons_zero, List.setIfInBounds_toArray, List.set_cons_zero, List.set_cons_succ]
            rw [if_pos (by rfl)]
            obtain ⟨z0, z1, z2, z3, z4⟩ := five z_45
            have y0 := cells_frozen z_45 0
            have y1 := cells_frozen z_45 1
            have y2 := cells_frozen z_45 2
            have y3 := cells_frozen z_45 3
            have y4 := cells_frozen z_45 4
            go_simp
            refine hK.out _ _ trivial (fun hHeld => ?_)
            clear hK K hHeld
            refine wpAnyH_done (by kernel_rfl) ?_ _
            go_wp2_with fail
            refine bodyPost_ret (v := .agg #[.int .i64 (g : Int), .slice (some ⟨X43.heap.size, 0, none⟩) wn wn, .slice (some ⟨X35.heap.size, 0, none⟩) 1 1, .slice (some ⟨(w.alloc (.cells #[.int .i64 0, .slice none 0 0, .slice none 0 0, .slice none 0 0, .slice none 0 0] 27)).heap.size, 0, none⟩) 1 1, .slice none 0 0]) (by simp [results, Tryz.results24, go_sem, z0, z1, z2, z3, z4]) rfl ⟨_, _, _, rfl, (heap_fiveF _ _ _ _ _ _ (by first | omega | (simp <;> omega))).trans fR45, (heap_fiveF _ _ _ _ _ _ (by first | omega | (simp <;> omega))).trans fS45, (heap_fiveF _ _ _ _ _ _ (by first | omega | (simp <;> omega))).trans fF45, by (first | omega | (simp <;> omega)), by (first | omega | (simp <;> omega)), by (first | omega | (simp <;> omega)), below_fiveF b_45 (Nat.le_refl _) _ _ _ _ _⟩
end Go.Proofs.YtehleeibgkpjmafGreat
