/- Texts joined: CpyS, SkF, SkO, UpO, RdC, DnO, SameI. -/
import Derived.Test.YtehleeibgkpjmafGreatMoveTellsJ15
import Derived.Test.YtehleeibgkpjmafGreatMoveTellsJ5
import Derived.Test.YtehleeibgkpjmafGreatMoveTellsJ1
import Derived.Test.YtehleeibgkpjmafGreatMoveTellsJ2
import Derived.Test.YtehleeibgkpjmafGreatMoveTellsJ10
import Derived.Test.YtehleeibgkpjmafGreatMoveTellsJ11
import Derived.Test.YtehleeibgkpjmafGreatMoveTellsJ3
import Derived.Deep.RegionHeld3
set_option linter.unusedVariables false
set_option linter.unusedSimpArgs false
namespace Go.Proofs.YtehleeibgkpjmafGreat
open Go.RowKit Go.Shelf
set_option maxRecDepth 20000
set_option linter.unusedVariables false
set_option linter.unusedSimpArgs false
theorem heap_fiveF {W:World}{D:Nat}(a0 a1 a2 a3 a4:Value)(q:Nat)(hq:q≠D):(((((W.setCell ⟨D,0,none⟩ a0).setCell ⟨D,1,none⟩ a1).setCell ⟨D,2,none⟩ a2).setCell ⟨D,3,none⟩ a3).setCell ⟨D,4,none⟩ a4).heap[q]? = W.heap[q]?:=by
 rw [Below.heap_setCell _ _ _ q hq,Below.heap_setCell _ _ _ q hq,Below.heap_setCell _ _ _ q hq,Below.heap_setCell _ _ _ q hq,Below.heap_setCell _ _ _ q hq]
theorem below_fiveF {w W:World}{B D:Nat}(h:Below B w W)(hD:B≤D)(a0 a1 a2 a3 a4:Value):Below B w (((((W.setCell ⟨D,0,none⟩ a0).setCell ⟨D,1,none⟩ a1).setCell ⟨D,2,none⟩ a2).setCell ⟨D,3,none⟩ a3).setCell ⟨D,4,none⟩ a4):=
 ((((h.setCell (p:=⟨D,0,none⟩) hD _).setCell (p:=⟨D,1,none⟩) hD _).setCell (p:=⟨D,2,none⟩) hD _).setCell (p:=⟨D,3,none⟩) hD _).setCell (p:=⟨D,4,none⟩) hD _
set_option maxHeartbeats 16000000 in
theorem freshOf_at (g wn:Nat)(w:World)(hwn:wn≤40)(HWa:Hid (∀W,Calls Tryz.prog 49 #[.int .i64 (g:Int)] W fun r w'=>r=.returned (.int .i64 (wn:Int))∧w'=W)):Calls Tryz.prog 24 #[.int .i64 (g:Int)] w (fun r w'=>∃gr gs gf,r=.returned (.agg #[.int .i64 (g:Int),.slice (some ⟨gr,0,none⟩) wn wn,.slice (some ⟨gs,0,none⟩) 1 1,.slice (some ⟨gf,0,none⟩) 1 1,.slice none 0 0])∧w'.heap[gr]? = some (.cells (Array.replicate wn (.int .i64 0)) 3)∧w'.heap[gs]? = some (.cells #[.int .i64 0,.string ⟨#[]⟩,.slice none 0 0] 61)∧w'.heap[gf]? = some (.cells #[.int .i64 0] 3)∧w.heap.size≤gr∧w.heap.size≤gs∧w.heap.size≤gf∧Below w.heap.size w w'):=by
 have mz:(w.alloc (.cells #[.int .i64 0,.slice none 0 0,.slice none 0 0,.slice none 0 0,.slice none 0 0] 27)).heap[w.heap.size]? = some (.cells #[.int .i64 0,.slice none 0 0,.slice none 0 0,.slice none 0 0,.slice none 0 0] 27):=World.alloc_heap_new _ _
 have b0:Below w.heap.size w (w.alloc (.cells #[.int .i64 0,.slice none 0 0,.slice none 0 0,.slice none 0 0,.slice none 0 0] 27)):=(Below.refl _ _).alloc (Nat.le_refl _) _
 have p0:w.heap.size+1≤(w.alloc (.cells #[.int .i64 0,.slice none 0 0,.slice none 0 0,.slice none 0 0,.slice none 0 0] 27)).heap.size:=by simp
 have hmR:∀W,(Instr.makeSlice 23 (.int .i64 (wn:Int)) (.int .i64 (wn:Int))).run Tryz.prog W=.ok (.slice (some ⟨W.heap.size,0,none⟩) wn wn) (W.alloc (.cells (Array.replicate wn (.int .i64 0)) 3)):=fun W=>by have:=mk_ints wn hwn W;simpa using this
 have hm1:∀w,(Instr.makeSlice 24 (.int .i64 1) (.int .i64 1)).run Tryz.prog w=.ok (.slice (some ⟨w.heap.size,0,none⟩) 1 1) (w.alloc (.cells #[.int .i64 0,.string ⟨#[]⟩,.slice none 0 0] 61)):=fun _=>by kernel_rfl
 have hm2:∀w,(Instr.makeSlice 23 (.int .i64 1) (.int .i64 1)).run Tryz.prog w=.ok (.slice (some ⟨w.heap.size,0,none⟩) 1 1) (w.alloc (.cells #[.int .i64 0] 3)):=fun _=>by kernel_rfl
 go_enter Tryz.func24,Tryz.ntmps24
 go_upto_region 1 with fail
 refine wp_region_held_drew (S:=(fun X:World=>True)) (by kernel_rfl) trivial (fun hHeld=>?_)
 refine tkH 0 (.int .i64 (g:Int)) rfl (Or.inl ⟨by rfl,fun w' hSw=>by go_simp⟩) hHeld ?_
 simp only [lays]
 refine tkH 1 (.int .i64 (g:Int)) rfl (Or.inl ⟨by rfl,fun w' hSw=>by go_simp⟩) hHeld ?_
 simp only [lays]
 refine wpAnyH_ready (rs:=[2,4,5]) (by kernel_rfl) (by simp) ?_
 refine AllReadyH.cons rfl (fun K hK=>?_) (AllReadyH.cons rfl (fun K hK=>?_) (AllReadyH.cons rfl (fun K hK=>?_) AllReadyH.nil))
 ·clear hHeld
  simp only [lays]
  rw [if_pos (by rfl)]
  go_wp2_with (go_at_call 49;refine (HWa.out _).mono ?_;rintro e9 w9 ⟨rfl,hw⟩;rw [hw];clear hw)
  obtain⟨X1,hX⟩:∃Z,(w.alloc (.cells #[.int .i64 0,.slice none 0 0,.slice none 0 0,.slice none 0 0,.slice none 0 0] 27)).drew=Z:=⟨_,rfl⟩
  have z_1:X1.heap[w.heap.size]? = some (.cells #[.int .i64 0,.slice none 0 0,.slice none 0 0,.slice none 0 0,.slice none 0 0] 27):=by rw [←hX];exact mz
  have b_1:Below w.heap.size w X1:=by rw [←hX];exact to_drew b0
  have g_1:(w.alloc (.cells #[.int .i64 0,.slice none 0 0,.slice none 0 0,.slice none 0 0,.slice none 0 0] 27)).heap.size≤X1.heap.size:=by rw [←hX];exact Nat.le_refl _
  have p_1:w.heap.size+1≤X1.heap.size:=by omega
  rw [hX]
  clear hX
  refine hK.out _ _ trivial (fun hHeld=>?_)
  clear hK K
  try simp only [lays]
  refine wpAnyH_ready (rs:=[3,4,5]) (by kernel_rfl) (by simp) ?_
  refine AllReadyH.cons rfl (fun K hK=>?_) (AllReadyH.cons rfl (fun K hK=>?_) (AllReadyH.cons rfl (fun K hK=>?_) AllReadyH.nil))
  ·clear hHeld
   simp only [lays]
   rw [if_pos (by rfl)]
   go_simp
   obtain⟨X2,hX⟩:∃Z,(X1.alloc (.cells (Array.replicate wn (.int .i64 0)) 3))=Z:=⟨_,rfl⟩
   have z_2:X2.heap[w.heap.size]? = some (.cells #[.int .i64 0,.slice none 0 0,.slice none 0 0,.slice none 0 0,.slice none 0 0] 27):=by rw [←hX];exact cells_alloc z_1 _
   have fR2:X2.heap[X1.heap.size]? = some (.cells (Array.replicate wn (.int .i64 0)) 3):=by rw [←hX];exact World.alloc_heap_new _ _
   have b_2:Below w.heap.size w X2:=by rw [←hX];exact b_1.alloc b_1.size _
   have g_2:X1.heap.size≤X2.heap.size:=by rw [←hX];simp
   have p_2:w.heap.size+1≤X2.heap.size:=by omega
   rw [hX]
   clear hX
   refine hK.out _ _ trivial (fun hHeld=>?_)
   clear hK K
   try simp only [lays]
   refine wpAnyH_ready (rs:=[4,5]) (by kernel_rfl) (by simp) ?_
   refine AllReadyH.cons rfl (fun K hK=>?_) (AllReadyH.cons rfl (fun K hK=>?_) AllReadyH.nil)
   ·clear hHeld
    simp only [lays]
    rw [if_pos (by rfl)]
    go_simp
    obtain⟨X3,hX⟩:∃Z,(X2.alloc (.cells #[.int .i64 0,.string ⟨#[]⟩,.slice none 0 0] 61))=Z:=⟨_,rfl⟩
    have fR3:X3.heap[X1.heap.size]? = some (.cells (Array.replicate wn (.int .i64 0)) 3):=by rw [←hX];exact cells_alloc fR2 _
    have z_3:X3.heap[w.heap.size]? = some (.cells #[.int .i64 0,.slice none 0 0,.slice none 0 0,.slice none 0 0,.slice none 0 0] 27):=by rw [←hX];exact cells_alloc z_2 _
    have fS3:X3.heap[X2.heap.size]? = some (.cells #[.int .i64 0,.string ⟨#[]⟩,.slice none 0 0] 61):=by rw [←hX];exact World.alloc_heap_new _ _
    have b_3:Below w.heap.size w X3:=by rw [←hX];exact b_2.alloc b_2.size _
    have g_3:X2.heap.size≤X3.heap.size:=by rw [←hX];simp
    have p_3:w.heap.size+1≤X3.heap.size:=by omega
    rw [hX]
    clear hX
    refine hK.out _ _ trivial (fun hHeld=>?_)
    clear hK K
    try simp only [lays]
    refine wpAnyH_ready (rs:=[5]) (by kernel_rfl) (by simp) ?_
    refine AllReadyH.cons rfl (fun K hK=>?_) AllReadyH.nil
    ·clear hHeld
     simp only [lays]
     rw [if_pos (by rfl)]
     go_simp
     obtain⟨X4,hX⟩:∃Z,(X3.alloc (.cells #[.int .i64 0] 3))=Z:=⟨_,rfl⟩
     have fR4:X4.heap[X1.heap.size]? = some (.cells (Array.replicate wn (.int .i64 0)) 3):=by rw [←hX];exact cells_alloc fR3 _
     have fS4:X4.heap[X2.heap.size]? = some (.cells #[.int .i64 0,.string ⟨#[]⟩,.slice none 0 0] 61):=by rw [←hX];exact cells_alloc fS3 _
     have z_4:X4.heap[w.heap.size]? = some (.cells #[.int .i64 0,.slice none 0 0,.slice none 0 0,.slice none 0 0,.slice none 0 0] 27):=by rw [←hX];exact cells_alloc z_3 _
     have fF4:X4.heap[X3.heap.size]? = some (.cells #[.int .i64 0] 3):=by rw [←hX];exact World.alloc_heap_new _ _
     have b_4:Below w.heap.size w X4:=by rw [←hX];exact b_3.alloc b_3.size _
     have g_4:X3.heap.size≤X4.heap.size:=by rw [←hX];simp
     have p_4:w.heap.size+1≤X4.heap.size:=by omega
     rw [hX]
     clear hX
     refine hK.out _ _ trivial (fun hHeld=>?_)
     clear hK K
     try simp only [lays]
     refine tkH 6 (.agg #[.int .i64 (g:Int),.slice (some ⟨X1.heap.size,0,none⟩) wn wn,.slice (some ⟨X2.heap.size,0,none⟩) 1 1,.slice (some ⟨X3.heap.size,0,none⟩) 1 1,.slice none 0 0]) rfl (Or.inl ⟨by rfl,fun w' hSw=>by go_simp⟩) hHeld ?_
     simp only [lays]
     refine wpAnyH_ready (rs:=[7]) (by kernel_rfl) (by simp) ?_
     refine AllReadyH.cons rfl (fun K hK=>?_) AllReadyH.nil
     ·clear hHeld
      simp only [lays]
      rw [if_pos (by rfl)]
      obtain⟨z0,z1,z2,z3,z4⟩:=five z_4
      have y0:=cells_frozen z_4 0
      have y1:=cells_frozen z_4 1
      have y2:=cells_frozen z_4 2
      have y3:=cells_frozen z_4 3
      have y4:=cells_frozen z_4 4
      go_simp
      refine hK.out _ _ trivial (fun hHeld=>?_)
      clear hK K hHeld
      refine wpAnyH_done (by kernel_rfl) ?_ _
      go_wp2_with fail
      refine bodyPost_ret (v:=.agg #[.int .i64 (g:Int),.slice (some ⟨X1.heap.size,0,none⟩) wn wn,.slice (some ⟨X2.heap.size,0,none⟩) 1 1,.slice (some ⟨X3.heap.size,0,none⟩) 1 1,.slice none 0 0]) (by simp [results,Tryz.results24,go_sem,z0,z1,z2,z3,z4]) rfl ⟨_,_,_,rfl,(heap_fiveF _ _ _ _ _ _ (by first | omega | (simp <;> omega))).trans fR4,(heap_fiveF _ _ _ _ _ _ (by first | omega | (simp <;> omega))).trans fS4,(heap_fiveF _ _ _ _ _ _ (by first | omega | (simp <;> omega))).trans fF4,by (first | omega | (simp <;> omega)),by (first | omega | (simp <;> omega)),by (first | omega | (simp <;> omega)),below_fiveF b_4 (Nat.le_refl _) _ _ _ _ _⟩
   ·clear hHeld
    simp only [lays]
    rw [if_pos (by rfl)]
    go_simp
    obtain⟨X6,hX⟩:∃Z,(X2.alloc (.cells #[.int .i64 0] 3))=Z:=⟨_,rfl⟩
    have fR6:X6.heap[X1.heap.size]? = some (.cells (Array.replicate wn (.int .i64 0)) 3):=by rw [←hX];exact cells_alloc fR2 _
    have z_6:X6.heap[w.heap.size]? = some (.cells #[.int .i64 0,.slice none 0 0,.slice none 0 0,.slice none 0 0,.slice none 0 0] 27):=by rw [←hX];exact cells_alloc z_2 _
    have fF6:X6.heap[X2.heap.size]? = some (.cells #[.int .i64 0] 3):=by rw [←hX];exact World.alloc_heap_new _ _
    have b_6:Below w.heap.size w X6:=by rw [←hX];exact b_2.alloc b_2.size _
    have g_6:X2.heap.size≤X6.heap.size:=by rw [←hX];simp
    have p_6:w.heap.size+1≤X6.heap.size:=by omega
    rw [hX]
    clear hX
    refine hK.out _ _ trivial (fun hHeld=>?_)
    clear hK K
    try simp only [lays]
    refine wpAnyH_ready (rs:=[4]) (by kernel_rfl) (by simp) ?_
    refine AllReadyH.cons rfl (fun K hK=>?_) AllReadyH.nil
    ·clear hHeld
     simp only [lays]
     rw [if_pos (by rfl)]
     go_simp
     obtain⟨X7,hX⟩:∃Z,(X6.alloc (.cells #[.int .i64 0,.string ⟨#[]⟩,.slice none 0 0] 61))=Z:=⟨_,rfl⟩
     have fR7:X7.heap[X1.heap.size]? = some (.cells (Array.replicate wn (.int .i64 0)) 3):=by rw [←hX];exact cells_alloc fR6 _
     have fF7:X7.heap[X2.heap.size]? = some (.cells #[.int .i64 0] 3):=by rw [←hX];exact cells_alloc fF6 _
     have z_7:X7.heap[w.heap.size]? = some (.cells #[.int .i64 0,.slice none 0 0,.slice none 0 0,.slice none 0 0,.slice none 0 0] 27):=by rw [←hX];exact cells_alloc z_6 _
     have fS7:X7.heap[X6.heap.size]? = some (.cells #[.int .i64 0,.string ⟨#[]⟩,.slice none 0 0] 61):=by rw [←hX];exact World.alloc_heap_new _ _
     have b_7:Below w.heap.size w X7:=by rw [←hX];exact b_6.alloc b_6.size _
     have g_7:X6.heap.size≤X7.heap.size:=by rw [←hX];simp
     have p_7:w.heap.size+1≤X7.heap.size:=by omega
     rw [hX]
     clear hX
     refine hK.out _ _ trivial (fun hHeld=>?_)
     clear hK K
     try simp only [lays]
     refine tkH 6 (.agg #[.int .i64 (g:Int),.slice (some ⟨X1.heap.size,0,none⟩) wn wn,.slice (some ⟨X6.heap.size,0,none⟩) 1 1,.slice (some ⟨X2.heap.size,0,none⟩) 1 1,.slice none 0 0]) rfl (Or.inl ⟨by rfl,fun w' hSw=>by go_simp⟩) hHeld ?_
     simp only [lays]
     refine wpAnyH_ready (rs:=[7]) (by kernel_rfl) (by simp) ?_
     refine AllReadyH.cons rfl (fun K hK=>?_) AllReadyH.nil
     ·clear hHeld
      simp only [lays]
      rw [if_pos (by rfl)]
      obtain⟨z0,z1,z2,z3,z4⟩:=five z_7
      have y0:=cells_frozen z_7 0
      have y1:=cells_frozen z_7 1
      have y2:=cells_frozen z_7 2
      have y3:=cells_frozen z_7 3
      have y4:=cells_frozen z_7 4
      go_simp
      refine hK.out _ _ trivial (fun hHeld=>?_)
      clear hK K hHeld
      refine wpAnyH_done (by kernel_rfl) ?_ _
      go_wp2_with fail
      refine bodyPost_ret (v:=.agg #[.int .i64 (g:Int),.slice (some ⟨X1.heap.size,0,none⟩) wn wn,.slice (some ⟨X6.heap.size,0,none⟩) 1 1,.slice (some ⟨X2.heap.size,0,none⟩) 1 1,.slice none 0 0]) (by simp [results,Tryz.results24,go_sem,z0,z1,z2,z3,z4]) rfl ⟨_,_,_,rfl,(heap_fiveF _ _ _ _ _ _ (by first | omega | (simp <;> omega))).trans fR7,(heap_fiveF _ _ _ _ _ _ (by first | omega | (simp <;> omega))).trans fS7,(heap_fiveF _ _ _ _ _ _ (by first | omega | (simp <;> omega))).trans fF7,by (first | omega | (simp <;> omega)),by (first | omega | (simp <;> omega)),by (first | omega | (simp <;> omega)),below_fiveF b_7 (Nat.le_refl _) _ _ _ _ _⟩
  ·clear hHeld
   simp only [lays]
   rw [if_pos (by rfl)]
   go_simp
   obtain⟨X9,hX⟩:∃Z,(X1.alloc (.cells #[.int .i64 0,.string ⟨#[]⟩,.slice none 0 0] 61))=Z:=⟨_,rfl⟩
   have z_9:X9.heap[w.heap.size]? = some (.cells #[.int .i64 0,.slice none 0 0,.slice none 0 0,.slice none 0 0,.slice none 0 0] 27):=by rw [←hX];exact cells_alloc z_1 _
   have fS9:X9.heap[X1.heap.size]? = some (.cells #[.int .i64 0,.string ⟨#[]⟩,.slice none 0 0] 61):=by rw [←hX];exact World.alloc_heap_new _ _
   have b_9:Below w.heap.size w X9:=by rw [←hX];exact b_1.alloc b_1.size _
   have g_9:X1.heap.size≤X9.heap.size:=by rw [←hX];simp
   have p_9:w.heap.size+1≤X9.heap.size:=by omega
   rw [hX]
   clear hX
   refine hK.out _ _ trivial (fun hHeld=>?_)
   clear hK K
   try simp only [lays]
   refine wpAnyH_ready (rs:=[3,5]) (by kernel_rfl) (by simp) ?_
   refine AllReadyH.cons rfl (fun K hK=>?_) (AllReadyH.cons rfl (fun K hK=>?_) AllReadyH.nil)
   ·clear hHeld
    simp only [lays]
    rw [if_pos (by rfl)]
    go_simp
    obtain⟨X10,hX⟩:∃Z,(X9.alloc (.cells (Array.replicate wn (.int .i64 0)) 3))=Z:=⟨_,rfl⟩
    have fS10:X10.heap[X1.heap.size]? = some (.cells #[.int .i64 0,.string ⟨#[]⟩,.slice none 0 0] 61):=by rw [←hX];exact cells_alloc fS9 _
    have z_10:X10.heap[w.heap.size]? = some (.cells #[.int .i64 0,.slice none 0 0,.slice none 0 0,.slice none 0 0,.slice none 0 0] 27):=by rw [←hX];exact cells_alloc z_9 _
    have fR10:X10.heap[X9.heap.size]? = some (.cells (Array.replicate wn (.int .i64 0)) 3):=by rw [←hX];exact World.alloc_heap_new _ _
    have b_10:Below w.heap.size w X10:=by rw [←hX];exact b_9.alloc b_9.size _
    have g_10:X9.heap.size≤X10.heap.size:=by rw [←hX];simp
    have p_10:w.heap.size+1≤X10.heap.size:=by omega
    rw [hX]
    clear hX
    refine hK.out _ _ trivial (fun hHeld=>?_)
    clear hK K
    try simp only [lays]
    refine wpAnyH_ready (rs:=[5]) (by kernel_rfl) (by simp) ?_
    refine AllReadyH.cons rfl (fun K hK=>?_) AllReadyH.nil
    ·clear hHeld
     simp only [lays]
     rw [if_pos (by rfl)]
     go_simp
     obtain⟨X11,hX⟩:∃Z,(X10.alloc (.cells #[.int .i64 0] 3))=Z:=⟨_,rfl⟩
     have fS11:X11.heap[X1.heap.size]? = some (.cells #[.int .i64 0,.string ⟨#[]⟩,.slice none 0 0] 61):=by rw [←hX];exact cells_alloc fS10 _
     have fR11:X11.heap[X9.heap.size]? = some (.cells (Array.replicate wn (.int .i64 0)) 3):=by rw [←hX];exact cells_alloc fR10 _
     have z_11:X11.heap[w.heap.size]? = some (.cells #[.int .i64 0,.slice none 0 0,.slice none 0 0,.slice none 0 0,.slice none 0 0] 27):=by rw [←hX];exact cells_alloc z_10 _
     have fF11:X11.heap[X10.heap.size]? = some (.cells #[.int .i64 0] 3):=by rw [←hX];exact World.alloc_heap_new _ _
     have b_11:Below w.heap.size w X11:=by rw [←hX];exact b_10.alloc b_10.size _
     have g_11:X10.heap.size≤X11.heap.size:=by rw [←hX];simp
     have p_11:w.heap.size+1≤X11.heap.size:=by omega
     rw [hX]
     clear hX
     refine hK.out _ _ trivial (fun hHeld=>?_)
     clear hK K
     try simp only [lays]
     refine tkH 6 (.agg #[.int .i64 (g:Int),.slice (some ⟨X9.heap.size,0,none⟩) wn wn,.slice (some ⟨X1.heap.size,0,none⟩) 1 1,.slice (some ⟨X10.heap.size,0,none⟩) 1 1,.slice none 0 0]) rfl (Or.inl ⟨by rfl,fun w' hSw=>by go_simp⟩) hHeld ?_
     simp only [lays]
     refine wpAnyH_ready (rs:=[7]) (by kernel_rfl) (by simp) ?_
     refine AllReadyH.cons rfl (fun K hK=>?_) AllReadyH.nil
     ·clear hHeld
      simp only [lays]
      rw [if_pos (by rfl)]
      obtain⟨z0,z1,z2,z3,z4⟩:=five z_11
      have y0:=cells_frozen z_11 0
      have y1:=cells_frozen z_11 1
      have y2:=cells_frozen z_11 2
      have y3:=cells_frozen z_11 3
      have y4:=cells_frozen z_11 4
      go_simp
      refine hK.out _ _ trivial (fun hHeld=>?_)
      clear hK K hHeld
      refine wpAnyH_done (by kernel_rfl) ?_ _
      go_wp2_with fail
      refine bodyPost_ret (v:=.agg #[.int .i64 (g:Int),.slice (some ⟨X9.heap.size,0,none⟩) wn wn,.slice (some ⟨X1.heap.size,0,none⟩) 1 1,.slice (some ⟨X10.heap.size,0,none⟩) 1 1,.slice none 0 0]) (by simp [results,Tryz.results24,go_sem,z0,z1,z2,z3,z4]) rfl ⟨_,_,_,rfl,(heap_fiveF _ _ _ _ _ _ (by first | omega | (simp <;> omega))).trans fR11,(heap_fiveF _ _ _ _ _ _ (by first | omega | (simp <;> omega))).trans fS11,(heap_fiveF _ _ _ _ _ _ (by first | omega | (simp <;> omega))).trans fF11,by (first | omega | (simp <;> omega)),by (first | omega | (simp <;> omega)),by (first | omega | (simp <;> omega)),below_fiveF b_11 (Nat.le_refl _) _ _ _ _ _⟩
   ·clear hHeld
    simp only [lays]
    rw [if_pos (by rfl)]
    go_simp
    obtain⟨X13,hX⟩:∃Z,(X9.alloc (.cells #[.int .i64 0] 3))=Z:=⟨_,rfl⟩
    have fS13:X13.heap[X1.heap.size]? = some (.cells #[.int .i64 0,.string ⟨#[]⟩,.slice none 0 0] 61):=by rw [←hX];exact cells_alloc fS9 _
    have z_13:X13.heap[w.heap.size]? = some (.cells #[.int .i64 0,.slice none 0 0,.slice none 0 0,.slice none 0 0,.slice none 0 0] 27):=by rw [←hX];exact cells_alloc z_9 _
    have fF13:X13.heap[X9.heap.size]? = some (.cells #[.int .i64 0] 3):=by rw [←hX];exact World.alloc_heap_new _ _
    have b_13:Below w.heap.size w X13:=by rw [←hX];exact b_9.alloc b_9.size _
    have g_13:X9.heap.size≤X13.heap.size:=by rw [←hX];simp
    have p_13:w.heap.size+1≤X13.heap.size:=by omega
    rw [hX]
    clear hX
    refine hK.out _ _ trivial (fun hHeld=>?_)
    clear hK K
    try simp only [lays]
    refine wpAnyH_ready (rs:=[3]) (by kernel_rfl) (by simp) ?_
    refine AllReadyH.cons rfl (fun K hK=>?_) AllReadyH.nil
    ·clear hHeld
     simp only [lays]
     rw [if_pos (by rfl)]
     go_simp
     obtain⟨X14,hX⟩:∃Z,(X13.alloc (.cells (Array.replicate wn (.int .i64 0)) 3))=Z:=⟨_,rfl⟩
     have fS14:X14.heap[X1.heap.size]? = some (.cells #[.int .i64 0,.string ⟨#[]⟩,.slice none 0 0] 61):=by rw [←hX];exact cells_alloc fS13 _
     have fF14:X14.heap[X9.heap.size]? = some (.cells #[.int .i64 0] 3):=by rw [←hX];exact cells_alloc fF13 _
     have z_14:X14.heap[w.heap.size]? = some (.cells #[.int .i64 0,.slice none 0 0,.slice none 0 0,.slice none 0 0,.slice none 0 0] 27):=by rw [←hX];exact cells_alloc z_13 _
     have fR14:X14.heap[X13.heap.size]? = some (.cells (Array.replicate wn (.int .i64 0)) 3):=by rw [←hX];exact World.alloc_heap_new _ _
     have b_14:Below w.heap.size w X14:=by rw [←hX];exact b_13.alloc b_13.size _
     have g_14:X13.heap.size≤X14.heap.size:=by rw [←hX];simp
     have p_14:w.heap.size+1≤X14.heap.size:=by omega
     rw [hX]
     clear hX
     refine hK.out _ _ trivial (fun hHeld=>?_)
     clear hK K
     try simp only [lays]
     refine tkH 6 (.agg #[.int .i64 (g:Int),.slice (some ⟨X13.heap.size,0,none⟩) wn wn,.slice (some ⟨X1.heap.size,0,none⟩) 1 1,.slice (some ⟨X9.heap.size,0,none⟩) 1 1,.slice none 0 0]) rfl (Or.inl ⟨by rfl,fun w' hSw=>by go_simp⟩) hHeld ?_
     simp only [lays]
     refine wpAnyH_ready (rs:=[7]) (by kernel_rfl) (by simp) ?_
     refine AllReadyH.cons rfl (fun K hK=>?_) AllReadyH.nil
     ·clear hHeld
      simp only [lays]
      rw [if_pos (by rfl)]
      obtain⟨z0,z1,z2,z3,z4⟩:=five z_14
      have y0:=cells_frozen z_14 0
      have y1:=cells_frozen z_14 1
      have y2:=cells_frozen z_14 2
      have y3:=cells_frozen z_14 3
      have y4:=cells_frozen z_14 4
      go_simp
      refine hK.out _ _ trivial (fun hHeld=>?_)
      clear hK K hHeld
      refine wpAnyH_done (by kernel_rfl) ?_ _
      go_wp2_with fail
      refine bodyPost_ret (v:=.agg #[.int .i64 (g:Int),.slice (some ⟨X13.heap.size,0,none⟩) wn wn,.slice (some ⟨X1.heap.size,0,none⟩) 1 1,.slice (some ⟨X9.heap.size,0,none⟩) 1 1,.slice none 0 0]) (by simp [results,Tryz.results24,go_sem,z0,z1,z2,z3,z4]) rfl ⟨_,_,_,rfl,(heap_fiveF _ _ _ _ _ _ (by first | omega | (simp <;> omega))).trans fR14,(heap_fiveF _ _ _ _ _ _ (by first | omega | (simp <;> omega))).trans fS14,(heap_fiveF _ _ _ _ _ _ (by first | omega | (simp <;> omega))).trans fF14,by (first | omega | (simp <;> omega)),by (first | omega | (simp <;> omega)),by (first | omega | (simp <;> omega)),below_fiveF b_14 (Nat.le_refl _) _ _ _ _ _⟩
  ·clear hHeld
   simp only [lays]
   rw [if_pos (by rfl)]
   go_simp
   obtain⟨X16,hX⟩:∃Z,(X1.alloc (.cells #[.int .i64 0] 3))=Z:=⟨_,rfl⟩
   have z_16:X16.heap[w.heap.size]? = some (.cells #[.int .i64 0,.slice none 0 0,.slice none 0 0,.slice none 0 0,.slice none 0 0] 27):=by rw [←hX];exact cells_alloc z_1 _
   have fF16:X16.heap[X1.heap.size]? = some (.cells #[.int .i64 0] 3):=by rw [←hX];exact World.alloc_heap_new _ _
   have b_16:Below w.heap.size w X16:=by rw [←hX];exact b_1.alloc b_1.size _
   have g_16:X1.heap.size≤X16.heap.size:=by rw [←hX];simp
   have p_16:w.heap.size+1≤X16.heap.size:=by omega
   rw [hX]
   clear hX
   refine hK.out _ _ trivial (fun hHeld=>?_)
   clear hK K
   try simp only [lays]
   refine wpAnyH_ready (rs:=[3,4]) (by kernel_rfl) (by simp) ?_
   refine AllReadyH.cons rfl (fun K hK=>?_) (AllReadyH.cons rfl (fun K hK=>?_) AllReadyH.nil)
   ·clear hHeld
    simp only [lays]
    rw [if_pos (by rfl)]
    go_simp
    obtain⟨X17,hX⟩:∃Z,(X16.alloc (.cells (Array.replicate wn (.int .i64 0)) 3))=Z:=⟨_,rfl⟩
    have fF17:X17.heap[X1.heap.size]? = some (.cells #[.int .i64 0] 3):=by rw [←hX];exact cells_alloc fF16 _
    have z_17:X17.heap[w.heap.size]? = some (.cells #[.int .i64 0,.slice none 0 0,.slice none 0 0,.slice none 0 0,.slice none 0 0] 27):=by rw [←hX];exact cells_alloc z_16 _
    have fR17:X17.heap[X16.heap.size]? = some (.cells (Array.replicate wn (.int .i64 0)) 3):=by rw [←hX];exact World.alloc_heap_new _ _
    have b_17:Below w.heap.size w X17:=by rw [←hX];exact b_16.alloc b_16.size _
    have g_17:X16.heap.size≤X17.heap.size:=by rw [←hX];simp
    have p_17:w.heap.size+1≤X17.heap.size:=by omega
    rw [hX]
    clear hX
    refine hK.out _ _ trivial (fun hHeld=>?_)
    clear hK K
    try simp only [lays]
    refine wpAnyH_ready (rs:=[4]) (by kernel_rfl) (by simp) ?_
    refine AllReadyH.cons rfl (fun K hK=>?_) AllReadyH.nil
    ·clear hHeld
     simp only [lays]
     rw [if_pos (by rfl)]
     go_simp
     obtain⟨X18,hX⟩:∃Z,(X17.alloc (.cells #[.int .i64 0,.string ⟨#[]⟩,.slice none 0 0] 61))=Z:=⟨_,rfl⟩
     have fF18:X18.heap[X1.heap.size]? = some (.cells #[.int .i64 0] 3):=by rw [←hX];exact cells_alloc fF17 _
     have fR18:X18.heap[X16.heap.size]? = some (.cells (Array.replicate wn (.int .i64 0)) 3):=by rw [←hX];exact cells_alloc fR17 _
     have z_18:X18.heap[w.heap.size]? = some (.cells #[.int .i64 0,.slice none 0 0,.slice none 0 0,.slice none 0 0,.slice none 0 0] 27):=by rw [←hX];exact cells_alloc z_17 _
     have fS18:X18.heap[X17.heap.size]? = some (.cells #[.int .i64 0,.string ⟨#[]⟩,.slice none 0 0] 61):=by rw [←hX];exact World.alloc_heap_new _ _
     have b_18:Below w.heap.size w X18:=by rw [←hX];exact b_17.alloc b_17.size _
     have g_18:X17.heap.size≤X18.heap.size:=by rw [←hX];simp
     have p_18:w.heap.size+1≤X18.heap.size:=by omega
     rw [hX]
     clear hX
     refine hK.out _ _ trivial (fun hHeld=>?_)
     clear hK K
     try simp only [lays]
     refine tkH 6 (.agg #[.int .i64 (g:Int),.slice (some ⟨X16.heap.size,0,none⟩) wn wn,.slice (some ⟨X17.heap.size,0,none⟩) 1 1,.slice (some ⟨X1.heap.size,0,none⟩) 1 1,.slice none 0 0]) rfl (Or.inl ⟨by rfl,fun w' hSw=>by go_simp⟩) hHeld ?_
     simp only [lays]
     refine wpAnyH_ready (rs:=[7]) (by kernel_rfl) (by simp) ?_
     refine AllReadyH.cons rfl (fun K hK=>?_) AllReadyH.nil
     ·clear hHeld
      simp only [lays]
      rw [if_pos (by rfl)]
      obtain⟨z0,z1,z2,z3,z4⟩:=five z_18
      have y0:=cells_frozen z_18 0
      have y1:=cells_frozen z_18 1
      have y2:=cells_frozen z_18 2
      have y3:=cells_frozen z_18 3
      have y4:=cells_frozen z_18 4
      go_simp
      refine hK.out _ _ trivial (fun hHeld=>?_)
      clear hK K hHeld
      refine wpAnyH_done (by kernel_rfl) ?_ _
      go_wp2_with fail
      refine bodyPost_ret (v:=.agg #[.int .i64 (g:Int),.slice (some ⟨X16.heap.size,0,none⟩) wn wn,.slice (some ⟨X17.heap.size,0,none⟩) 1 1,.slice (some ⟨X1.heap.size,0,none⟩) 1 1,.slice none 0 0]) (by simp [results,Tryz.results24,go_sem,z0,z1,z2,z3,z4]) rfl ⟨_,_,_,rfl,(heap_fiveF _ _ _ _ _ _ (by first | omega | (simp <;> omega))).trans fR18,(heap_fiveF _ _ _ _ _ _ (by first | omega | (simp <;> omega))).trans fS18,(heap_fiveF _ _ _ _ _ _ (by first | omega | (simp <;> omega))).trans fF18,by (first | omega | (simp <;> omega)),by (first | omega | (simp <;> omega)),by (first | omega | (simp <;> omega)),below_fiveF b_18 (Nat.le_refl _) _ _ _ _ _⟩
   ·clear hHeld
    simp only [lays]
    rw [if_pos (by rfl)]
    go_simp
    obtain⟨X20,hX⟩:∃Z,(X16.alloc (.cells #[.int .i64 0,.string ⟨#[]⟩,.slice none 0 0] 61))=Z:=⟨_,rfl⟩
    have fF20:X20.heap[X1.heap.size]? = some (.cells #[.int .i64 0] 3):=by rw [←hX];exact cells_alloc fF16 _
    have z_20:X20.heap[w.heap.size]? = some (.cells #[.int .i64 0,.slice none 0 0,.slice none 0 0,.slice none 0 0,.slice none 0 0] 27):=by rw [←hX];exact cells_alloc z_16 _
    have fS20:X20.heap[X16.heap.size]? = some (.cells #[.int .i64 0,.string ⟨#[]⟩,.slice none 0 0] 61):=by rw [←hX];exact World.alloc_heap_new _ _
    have b_20:Below w.heap.size w X20:=by rw [←hX];exact b_16.alloc b_16.size _
    have g_20:X16.heap.size≤X20.heap.size:=by rw [←hX];simp
    have p_20:w.heap.size+1≤X20.heap.size:=by omega
    rw [hX]
    clear hX
    refine hK.out _ _ trivial (fun hHeld=>?_)
    clear hK K
    try simp only [lays]
    refine wpAnyH_ready (rs:=[3]) (by kernel_rfl) (by simp) ?_
    refine AllReadyH.cons rfl (fun K hK=>?_) AllReadyH.nil
    ·clear hHeld
     simp only [lays]
     rw [if_pos (by rfl)]
     go_simp
     obtain⟨X21,hX⟩:∃Z,(X20.alloc (.cells (Array.replicate wn (.int .i64 0)) 3))=Z:=⟨_,rfl⟩
     have fF21:X21.heap[X1.heap.size]? = some (.cells #[.int .i64 0] 3):=by rw [←hX];exact cells_alloc fF20 _
     have fS21:X21.heap[X16.heap.size]? = some (.cells #[.int .i64 0,.string ⟨#[]⟩,.slice none 0 0] 61):=by rw [←hX];exact cells_alloc fS20 _
     have z_21:X21.heap[w.heap.size]? = some (.cells #[.int .i64 0,.slice none 0 0,.slice none 0 0,.slice none 0 0,.slice none 0 0] 27):=by rw [←hX];exact cells_alloc z_20 _
     have fR21:X21.heap[X20.heap.size]? = some (.cells (Array.replicate wn (.int .i64 0)) 3):=by rw [←hX];exact World.alloc_heap_new _ _
     have b_21:Below w.heap.size w X21:=by rw [←hX];exact b_20.alloc b_20.size _
     have g_21:X20.heap.size≤X21.heap.size:=by rw [←hX];simp
     have p_21:w.heap.size+1≤X21.heap.size:=by omega
     rw [hX]
     clear hX
     refine hK.out _ _ trivial (fun hHeld=>?_)
     clear hK K
     try simp only [lays]
     refine tkH 6 (.agg #[.int .i64 (g:Int),.slice (some ⟨X20.heap.size,0,none⟩) wn wn,.slice (some ⟨X16.heap.size,0,none⟩) 1 1,.slice (some ⟨X1.heap.size,0,none⟩) 1 1,.slice none 0 0]) rfl (Or.inl ⟨by rfl,fun w' hSw=>by go_simp⟩) hHeld ?_
     simp only [lays]
     refine wpAnyH_ready (rs:=[7]) (by kernel_rfl) (by simp) ?_
     refine AllReadyH.cons rfl (fun K hK=>?_) AllReadyH.nil
     ·clear hHeld
      simp only [lays]
      rw [if_pos (by rfl)]
      obtain⟨z0,z1,z2,z3,z4⟩:=five z_21
      have y0:=cells_frozen z_21 0
      have y1:=cells_frozen z_21 1
      have y2:=cells_frozen z_21 2
      have y3:=cells_frozen z_21 3
      have y4:=cells_frozen z_21 4
      go_simp
      refine hK.out _ _ trivial (fun hHeld=>?_)
      clear hK K hHeld
      refine wpAnyH_done (by kernel_rfl) ?_ _
      go_wp2_with fail
      refine bodyPost_ret (v:=.agg #[.int .i64 (g:Int),.slice (some ⟨X20.heap.size,0,none⟩) wn wn,.slice (some ⟨X16.heap.size,0,none⟩) 1 1,.slice (some ⟨X1.heap.size,0,none⟩) 1 1,.slice none 0 0]) (by simp [results,Tryz.results24,go_sem,z0,z1,z2,z3,z4]) rfl ⟨_,_,_,rfl,(heap_fiveF _ _ _ _ _ _ (by first | omega | (simp <;> omega))).trans fR21,(heap_fiveF _ _ _ _ _ _ (by first | omega | (simp <;> omega))).trans fS21,(heap_fiveF _ _ _ _ _ _ (by first | omega | (simp <;> omega))).trans fF21,by (first | omega | (simp <;> omega)),by (first | omega | (simp <;> omega)),by (first | omega | (simp <;> omega)),below_fiveF b_21 (Nat.le_refl _) _ _ _ _ _⟩
 ·clear hHeld
  simp only [lays]
  rw [if_pos (by rfl)]
  go_simp
  obtain⟨X23,hX⟩:∃Z,((w.alloc (.cells #[.int .i64 0,.slice none 0 0,.slice none 0 0,.slice none 0 0,.slice none 0 0] 27)).alloc (.cells #[.int .i64 0,.string ⟨#[]⟩,.slice none 0 0] 61)).drew=Z:=⟨_,rfl⟩
  have z_23:X23.heap[w.heap.size]? = some (.cells #[.int .i64 0,.slice none 0 0,.slice none 0 0,.slice none 0 0,.slice none 0 0] 27):=by rw [←hX];exact cells_alloc mz _
  have fS23:X23.heap[(w.alloc (.cells #[.int .i64 0,.slice none 0 0,.slice none 0 0,.slice none 0 0,.slice none 0 0] 27)).heap.size]? = some (.cells #[.int .i64 0,.string ⟨#[]⟩,.slice none 0 0] 61):=by rw [←hX];exact World.alloc_heap_new _ _
  have b_23:Below w.heap.size w X23:=by rw [←hX];exact to_drew (b0.alloc b0.size _)
  have g_23:(w.alloc (.cells #[.int .i64 0,.slice none 0 0,.slice none 0 0,.slice none 0 0,.slice none 0 0] 27)).heap.size≤X23.heap.size:=by rw [←hX];show _≤(World.alloc _ _).heap.size;simp
  have p_23:w.heap.size+1≤X23.heap.size:=by omega
  rw [hX]
  clear hX
  refine hK.out _ _ trivial (fun hHeld=>?_)
  clear hK K
  try simp only [lays]
  refine wpAnyH_ready (rs:=[2,5]) (by kernel_rfl) (by simp) ?_
  refine AllReadyH.cons rfl (fun K hK=>?_) (AllReadyH.cons rfl (fun K hK=>?_) AllReadyH.nil)
  ·clear hHeld
   simp only [lays]
   rw [if_pos (by rfl)]
   go_wp2_with (go_at_call 49;refine (HWa.out _).mono ?_;rintro e9 w9 ⟨rfl,hw⟩;rw [hw];clear hw)
   refine hK.out _ _ trivial (fun hHeld=>?_)
   clear hK K
   try simp only [lays]
   refine wpAnyH_ready (rs:=[3,5]) (by kernel_rfl) (by simp) ?_
   refine AllReadyH.cons rfl (fun K hK=>?_) (AllReadyH.cons rfl (fun K hK=>?_) AllReadyH.nil)
   ·clear hHeld
    simp only [lays]
    rw [if_pos (by rfl)]
    go_simp
    obtain⟨X25,hX⟩:∃Z,(X23.alloc (.cells (Array.replicate wn (.int .i64 0)) 3))=Z:=⟨_,rfl⟩
    have fS25:X25.heap[(w.alloc (.cells #[.int .i64 0,.slice none 0 0,.slice none 0 0,.slice none 0 0,.slice none 0 0] 27)).heap.size]? = some (.cells #[.int .i64 0,.string ⟨#[]⟩,.slice none 0 0] 61):=by rw [←hX];exact cells_alloc fS23 _
    have z_25:X25.heap[w.heap.size]? = some (.cells #[.int .i64 0,.slice none 0 0,.slice none 0 0,.slice none 0 0,.slice none 0 0] 27):=by rw [←hX];exact cells_alloc z_23 _
    have fR25:X25.heap[X23.heap.size]? = some (.cells (Array.replicate wn (.int .i64 0)) 3):=by rw [←hX];exact World.alloc_heap_new _ _
    have b_25:Below w.heap.size w X25:=by rw [←hX];exact b_23.alloc b_23.size _
    have g_25:X23.heap.size≤X25.heap.size:=by rw [←hX];simp
    have p_25:w.heap.size+1≤X25.heap.size:=by omega
    rw [hX]
    clear hX
    refine hK.out _ _ trivial (fun hHeld=>?_)
    clear hK K
    try simp only [lays]
    refine wpAnyH_ready (rs:=[5]) (by kernel_rfl) (by simp) ?_
    refine AllReadyH.cons rfl (fun K hK=>?_) AllReadyH.nil
    ·clear hHeld
     simp only [lays]
     rw [if_pos (by rfl)]
     go_simp
     obtain⟨X26,hX⟩:∃Z,(X25.alloc (.cells #[.int .i64 0] 3))=Z:=⟨_,rfl⟩
     have fS26:X26.heap[(w.alloc (.cells #[.int .i64 0,.slice none 0 0,.slice none 0 0,.slice none 0 0,.slice none 0 0] 27)).heap.size]? = some (.cells #[.int .i64 0,.string ⟨#[]⟩,.slice none 0 0] 61):=by rw [←hX];exact cells_alloc fS25 _
     have fR26:X26.heap[X23.heap.size]? = some (.cells (Array.replicate wn (.int .i64 0)) 3):=by rw [←hX];exact cells_alloc fR25 _
     have z_26:X26.heap[w.heap.size]? = some (.cells #[.int .i64 0,.slice none 0 0,.slice none 0 0,.slice none 0 0,.slice none 0 0] 27):=by rw [←hX];exact cells_alloc z_25 _
     have fF26:X26.heap[X25.heap.size]? = some (.cells #[.int .i64 0] 3):=by rw [←hX];exact World.alloc_heap_new _ _
     have b_26:Below w.heap.size w X26:=by rw [←hX];exact b_25.alloc b_25.size _
     have g_26:X25.heap.size≤X26.heap.size:=by rw [←hX];simp
     have p_26:w.heap.size+1≤X26.heap.size:=by omega
     rw [hX]
     clear hX
     refine hK.out _ _ trivial (fun hHeld=>?_)
     clear hK K
     try simp only [lays]
     refine tkH 6 (.agg #[.int .i64 (g:Int),.slice (some ⟨X23.heap.size,0,none⟩) wn wn,.slice (some ⟨(w.alloc (.cells #[.int .i64 0,.slice none 0 0,.slice none 0 0,.slice none 0 0,.slice none 0 0] 27)).heap.size,0,none⟩) 1 1,.slice (some ⟨X25.heap.size,0,none⟩) 1 1,.slice none 0 0]) rfl (Or.inl ⟨by rfl,fun w' hSw=>by go_simp⟩) hHeld ?_
     simp only [lays]
     refine wpAnyH_ready (rs:=[7]) (by kernel_rfl) (by simp) ?_
     refine AllReadyH.cons rfl (fun K hK=>?_) AllReadyH.nil
     ·clear hHeld
      simp only [lays]
      rw [if_pos (by rfl)]
      obtain⟨z0,z1,z2,z3,z4⟩:=five z_26
      have y0:=cells_frozen z_26 0
      have y1:=cells_frozen z_26 1
      have y2:=cells_frozen z_26 2
      have y3:=cells_frozen z_26 3
      have y4:=cells_frozen z_26 4
      go_simp
      refine hK.out _ _ trivial (fun hHeld=>?_)
      clear hK K hHeld
      refine wpAnyH_done (by kernel_rfl) ?_ _
      go_wp2_with fail
      refine bodyPost_ret (v:=.agg #[.int .i64 (g:Int),.slice (some ⟨X23.heap.size,0,none⟩) wn wn,.slice (some ⟨(w.alloc (.cells #[.int .i64 0,.slice none 0 0,.slice none 0 0,.slice none 0 0,.slice none 0 0] 27)).heap.size,0,none⟩) 1 1,.slice (some ⟨X25.heap.size,0,none⟩) 1 1,.slice none 0 0]) (by simp [results,Tryz.results24,go_sem,z0,z1,z2,z3,z4]) rfl ⟨_,_,_,rfl,(heap_fiveF _ _ _ _ _ _ (by first | omega | (simp <;> omega))).trans fR26,(heap_fiveF _ _ _ _ _ _ (by first | omega | (simp <;> omega))).trans fS26,(heap_fiveF _ _ _ _ _ _ (by first | omega | (simp <;> omega))).trans fF26,by (first | omega | (simp <;> omega)),by (first | omega | (simp <;> omega)),by (first | omega | (simp <;> omega)),below_fiveF b_26 (Nat.le_refl _) _ _ _ _ _⟩
   ·clear hHeld
    simp only [lays]
    rw [if_pos (by rfl)]
    go_simp
    obtain⟨X28,hX⟩:∃Z,(X23.alloc (.cells #[.int .i64 0] 3))=Z:=⟨_,rfl⟩
    have fS28:X28.heap[(w.alloc (.cells #[.int .i64 0,.slice none 0 0,.slice none 0 0,.slice none 0 0,.slice none 0 0] 27)).heap.size]? = some (.cells #[.int .i64 0,.string ⟨#[]⟩,.slice none 0 0] 61):=by rw [←hX];exact cells_alloc fS23 _
    have z_28:X28.heap[w.heap.size]? = some (.cells #[.int .i64 0,.slice none 0 0,.slice none 0 0,.slice none 0 0,.slice none 0 0] 27):=by rw [←hX];exact cells_alloc z_23 _
    have fF28:X28.heap[X23.heap.size]? = some (.cells #[.int .i64 0] 3):=by rw [←hX];exact World.alloc_heap_new _ _
    have b_28:Below w.heap.size w X28:=by rw [←hX];exact b_23.alloc b_23.size _
    have g_28:X23.heap.size≤X28.heap.size:=by rw [←hX];simp
    have p_28:w.heap.size+1≤X28.heap.size:=by omega
    rw [hX]
    clear hX
    refine hK.out _ _ trivial (fun hHeld=>?_)
    clear hK K
    try simp only [lays]
    refine wpAnyH_ready (rs:=[3]) (by kernel_rfl) (by simp) ?_
    refine AllReadyH.cons rfl (fun K hK=>?_) AllReadyH.nil
    ·clear hHeld
     simp only [lays]
     rw [if_pos (by rfl)]
     go_simp
     obtain⟨X29,hX⟩:∃Z,(X28.alloc (.cells (Array.replicate wn (.int .i64 0)) 3))=Z:=⟨_,rfl⟩
     have fS29:X29.heap[(w.alloc (.cells #[.int .i64 0,.slice none 0 0,.slice none 0 0,.slice none 0 0,.slice none 0 0] 27)).heap.size]? = some (.cells #[.int .i64 0,.string ⟨#[]⟩,.slice none 0 0] 61):=by rw [←hX];exact cells_alloc fS28 _
     have fF29:X29.heap[X23.heap.size]? = some (.cells #[.int .i64 0] 3):=by rw [←hX];exact cells_alloc fF28 _
     have z_29:X29.heap[w.heap.size]? = some (.cells #[.int .i64 0,.slice none 0 0,.slice none 0 0,.slice none 0 0,.slice none 0 0] 27):=by rw [←hX];exact cells_alloc z_28 _
     have fR29:X29.heap[X28.heap.size]? = some (.cells (Array.replicate wn (.int .i64 0)) 3):=by rw [←hX];exact World.alloc_heap_new _ _
     have b_29:Below w.heap.size w X29:=by rw [←hX];exact b_28.alloc b_28.size _
     have g_29:X28.heap.size≤X29.heap.size:=by rw [←hX];simp
     have p_29:w.heap.size+1≤X29.heap.size:=by omega
     rw [hX]
     clear hX
     refine hK.out _ _ trivial (fun hHeld=>?_)
     clear hK K
     try simp only [lays]
     refine tkH 6 (.agg #[.int .i64 (g:Int),.slice (some ⟨X28.heap.size,0,none⟩) wn wn,.slice (some ⟨(w.alloc (.cells #[.int .i64 0,.slice none 0 0,.slice none 0 0,.slice none 0 0,.slice none 0 0] 27)).heap.size,0,none⟩) 1 1,.slice (some ⟨X23.heap.size,0,none⟩) 1 1,.slice none 0 0]) rfl (Or.inl ⟨by rfl,fun w' hSw=>by go_simp⟩) hHeld ?_
     simp only [lays]
     refine wpAnyH_ready (rs:=[7]) (by kernel_rfl) (by simp) ?_
     refine AllReadyH.cons rfl (fun K hK=>?_) AllReadyH.nil
     ·clear hHeld
      simp only [lays]
      rw [if_pos (by rfl)]
      obtain⟨z0,z1,z2,z3,z4⟩:=five z_29
      have y0:=cells_frozen z_29 0
      have y1:=cells_frozen z_29 1
      have y2:=cells_frozen z_29 2
      have y3:=cells_frozen z_29 3
      have y4:=cells_frozen z_29 4
      go_simp
      refine hK.out _ _ trivial (fun hHeld=>?_)
      clear hK K hHeld
      refine wpAnyH_done (by kernel_rfl) ?_ _
      go_wp2_with fail
      refine bodyPost_ret (v:=.agg #[.int .i64 (g:Int),.slice (some ⟨X28.heap.size,0,none⟩) wn wn,.slice (some ⟨(w.alloc (.cells #[.int .i64 0,.slice none 0 0,.slice none 0 0,.slice none 0 0,.slice none 0 0] 27)).heap.size,0,none⟩) 1 1,.slice (some ⟨X23.heap.size,0,none⟩) 1 1,.slice none 0 0]) (by simp [results,Tryz.results24,go_sem,z0,z1,z2,z3,z4]) rfl ⟨_,_,_,rfl,(heap_fiveF _ _ _ _ _ _ (by first | omega | (simp <;> omega))).trans fR29,(heap_fiveF _ _ _ _ _ _ (by first | omega | (simp <;> omega))).trans fS29,(heap_fiveF _ _ _ _ _ _ (by first | omega | (simp <;> omega))).trans fF29,by (first | omega | (simp <;> omega)),by (first | omega | (simp <;> omega)),by (first | omega | (simp <;> omega)),below_fiveF b_29 (Nat.le_refl _) _ _ _ _ _⟩
  ·clear hHeld
   simp only [lays]
   rw [if_pos (by rfl)]
   go_simp
   obtain⟨X31,hX⟩:∃Z,(X23.alloc (.cells #[.int .i64 0] 3))=Z:=⟨_,rfl⟩
   have fS31:X31.heap[(w.alloc (.cells #[.int .i64 0,.slice none 0 0,.slice none 0 0,.slice none 0 0,.slice none 0 0] 27)).heap.size]? = some (.cells #[.int .i64 0,.string ⟨#[]⟩,.slice none 0 0] 61):=by rw [←hX];exact cells_alloc fS23 _
   have z_31:X31.heap[w.heap.size]? = some (.cells #[.int .i64 0,.slice none 0 0,.slice none 0 0,.slice none 0 0,.slice none 0 0] 27):=by rw [←hX];exact cells_alloc z_23 _
   have fF31:X31.heap[X23.heap.size]? = some (.cells #[.int .i64 0] 3):=by rw [←hX];exact World.alloc_heap_new _ _
   have b_31:Below w.heap.size w X31:=by rw [←hX];exact b_23.alloc b_23.size _
   have g_31:X23.heap.size≤X31.heap.size:=by rw [←hX];simp
   have p_31:w.heap.size+1≤X31.heap.size:=by omega
   rw [hX]
   clear hX
   refine hK.out _ _ trivial (fun hHeld=>?_)
   clear hK K
   try simp only [lays]
   refine wpAnyH_ready (rs:=[2]) (by kernel_rfl) (by simp) ?_
   refine AllReadyH.cons rfl (fun K hK=>?_) AllReadyH.nil
   ·clear hHeld
    simp only [lays]
    rw [if_pos (by rfl)]
    go_wp2_with (go_at_call 49;refine (HWa.out _).mono ?_;rintro e9 w9 ⟨rfl,hw⟩;rw [hw];clear hw)
    refine hK.out _ _ trivial (fun hHeld=>?_)
    clear hK K
    try simp only [lays]
    refine wpAnyH_ready (rs:=[3]) (by kernel_rfl) (by simp) ?_
    refine AllReadyH.cons rfl (fun K hK=>?_) AllReadyH.nil
    ·clear hHeld
     simp only [lays]
     rw [if_pos (by rfl)]
     go_simp
     obtain⟨X33,hX⟩:∃Z,(X31.alloc (.cells (Array.replicate wn (.int .i64 0)) 3))=Z:=⟨_,rfl⟩
     have fS33:X33.heap[(w.alloc (.cells #[.int .i64 0,.slice none 0 0,.slice none 0 0,.slice none 0 0,.slice none 0 0] 27)).heap.size]? = some (.cells #[.int .i64 0,.string ⟨#[]⟩,.slice none 0 0] 61):=by rw [←hX];exact cells_alloc fS31 _
     have fF33:X33.heap[X23.heap.size]? = some (.cells #[.int .i64 0] 3):=by rw [←hX];exact cells_alloc fF31 _
     have z_33:X33.heap[w.heap.size]? = some (.cells #[.int .i64 0,.slice none 0 0,.slice none 0 0,.slice none 0 0,.slice none 0 0] 27):=by rw [←hX];exact cells_alloc z_31 _
     have fR33:X33.heap[X31.heap.size]? = some (.cells (Array.replicate wn (.int .i64 0)) 3):=by rw [←hX];exact World.alloc_heap_new _ _
     have b_33:Below w.heap.size w X33:=by rw [←hX];exact b_31.alloc b_31.size _
     have g_33:X31.heap.size≤X33.heap.size:=by rw [←hX];simp
     have p_33:w.heap.size+1≤X33.heap.size:=by omega
     rw [hX]
     clear hX
     refine hK.out _ _ trivial (fun hHeld=>?_)
     clear hK K
     try simp only [lays]
     refine tkH 6 (.agg #[.int .i64 (g:Int),.slice (some ⟨X31.heap.size,0,none⟩) wn wn,.slice (some ⟨(w.alloc (.cells #[.int .i64 0,.slice none 0 0,.slice none 0 0,.slice none 0 0,.slice none 0 0] 27)).heap.size,0,none⟩) 1 1,.slice (some ⟨X23.heap.size,0,none⟩) 1 1,.slice none 0 0]) rfl (Or.inl ⟨by rfl,fun w' hSw=>by go_simp⟩) hHeld ?_
     simp only [lays]
     refine wpAnyH_ready (rs:=[7]) (by kernel_rfl) (by simp) ?_
     refine AllReadyH.cons rfl (fun K hK=>?_) AllReadyH.nil
     ·clear hHeld
      simp only [lays]
      rw [if_pos (by rfl)]
      obtain⟨z0,z1,z2,z3,z4⟩:=five z_33
      have y0:=cells_frozen z_33 0
      have y1:=cells_frozen z_33 1
      have y2:=cells_frozen z_33 2
      have y3:=cells_frozen z_33 3
      have y4:=cells_frozen z_33 4
      go_simp
      refine hK.out _ _ trivial (fun hHeld=>?_)
      clear hK K hHeld
      refine wpAnyH_done (by kernel_rfl) ?_ _
      go_wp2_with fail
      refine bodyPost_ret (v:=.agg #[.int .i64 (g:Int),.slice (some ⟨X31.heap.size,0,none⟩) wn wn,.slice (some ⟨(w.alloc (.cells #[.int .i64 0,.slice none 0 0,.slice none 0 0,.slice none 0 0,.slice none 0 0] 27)).heap.size,0,none⟩) 1 1,.slice (some ⟨X23.heap.size,0,none⟩) 1 1,.slice none 0 0]) (by simp [results,Tryz.results24,go_sem,z0,z1,z2,z3,z4]) rfl ⟨_,_,_,rfl,(heap_fiveF _ _ _ _ _ _ (by first | omega | (simp <;> omega))).trans fR33,(heap_fiveF _ _ _ _ _ _ (by first | omega | (simp <;> omega))).trans fS33,(heap_fiveF _ _ _ _ _ _ (by first | omega | (simp <;> omega))).trans fF33,by (first | omega | (simp <;> omega)),by (first | omega | (simp <;> omega)),by (first | omega | (simp <;> omega)),below_fiveF b_33 (Nat.le_refl _) _ _ _ _ _⟩
 ·clear hHeld
  simp only [lays]
  rw [if_pos (by rfl)]
  go_simp
  obtain⟨X35,hX⟩:∃Z,((w.alloc (.cells #[.int .i64 0,.slice none 0 0,.slice none 0 0,.slice none 0 0,.slice none 0 0] 27)).alloc (.cells #[.int .i64 0] 3)).drew=Z:=⟨_,rfl⟩
  have z_35:X35.heap[w.heap.size]? = some (.cells #[.int .i64 0,.slice none 0 0,.slice none 0 0,.slice none 0 0,.slice none 0 0] 27):=by rw [←hX];exact cells_alloc mz _
  have fF35:X35.heap[(w.alloc (.cells #[.int .i64 0,.slice none 0 0,.slice none 0 0,.slice none 0 0,.slice none 0 0] 27)).heap.size]? = some (.cells #[.int .i64 0] 3):=by rw [←hX];exact World.alloc_heap_new _ _
  have b_35:Below w.heap.size w X35:=by rw [←hX];exact to_drew (b0.alloc b0.size _)
  have g_35:(w.alloc (.cells #[.int .i64 0,.slice none 0 0,.slice none 0 0,.slice none 0 0,.slice none 0 0] 27)).heap.size≤X35.heap.size:=by rw [←hX];show _≤(World.alloc _ _).heap.size;simp
  have p_35:w.heap.size+1≤X35.heap.size:=by omega
  rw [hX]
  clear hX
  refine hK.out _ _ trivial (fun hHeld=>?_)
  clear hK K
  try simp only [lays]
  refine wpAnyH_ready (rs:=[2,4]) (by kernel_rfl) (by simp) ?_
  refine AllReadyH.cons rfl (fun K hK=>?_) (AllReadyH.cons rfl (fun K hK=>?_) AllReadyH.nil)
  ·clear hHeld
   simp only [lays]
   rw [if_pos (by rfl)]
   go_wp2_with (go_at_call 49;refine (HWa.out _).mono ?_;rintro e9 w9 ⟨rfl,hw⟩;rw [hw];clear hw)
   refine hK.out _ _ trivial (fun hHeld=>?_)
   clear hK K
   try simp only [lays]
   refine wpAnyH_ready (rs:=[3,4]) (by kernel_rfl) (by simp) ?_
   refine AllReadyH.cons rfl (fun K hK=>?_) (AllReadyH.cons rfl (fun K hK=>?_) AllReadyH.nil)
   ·clear hHeld
    simp only [lays]
    rw [if_pos (by rfl)]
    go_simp
    obtain⟨X37,hX⟩:∃Z,(X35.alloc (.cells (Array.replicate wn (.int .i64 0)) 3))=Z:=⟨_,rfl⟩
    have fF37:X37.heap[(w.alloc (.cells #[.int .i64 0,.slice none 0 0,.slice none 0 0,.slice none 0 0,.slice none 0 0] 27)).heap.size]? = some (.cells #[.int .i64 0] 3):=by rw [←hX];exact cells_alloc fF35 _
    have z_37:X37.heap[w.heap.size]? = some (.cells #[.int .i64 0,.slice none 0 0,.slice none 0 0,.slice none 0 0,.slice none 0 0] 27):=by rw [←hX];exact cells_alloc z_35 _
    have fR37:X37.heap[X35.heap.size]? = some (.cells (Array.replicate wn (.int .i64 0)) 3):=by rw [←hX];exact World.alloc_heap_new _ _
    have b_37:Below w.heap.size w X37:=by rw [←hX];exact b_35.alloc b_35.size _
    have g_37:X35.heap.size≤X37.heap.size:=by rw [←hX];simp
    have p_37:w.heap.size+1≤X37.heap.size:=by omega
    rw [hX]
    clear hX
    refine hK.out _ _ trivial (fun hHeld=>?_)
    clear hK K
    try simp only [lays]
    refine wpAnyH_ready (rs:=[4]) (by kernel_rfl) (by simp) ?_
    refine AllReadyH.cons rfl (fun K hK=>?_) AllReadyH.nil
    ·clear hHeld
     simp only [lays]
     rw [if_pos (by rfl)]
     go_simp
     obtain⟨X38,hX⟩:∃Z,(X37.alloc (.cells #[.int .i64 0,.string ⟨#[]⟩,.slice none 0 0] 61))=Z:=⟨_,rfl⟩
     have fF38:X38.heap[(w.alloc (.cells #[.int .i64 0,.slice none 0 0,.slice none 0 0,.slice none 0 0,.slice none 0 0] 27)).heap.size]? = some (.cells #[.int .i64 0] 3):=by rw [←hX];exact cells_alloc fF37 _
     have fR38:X38.heap[X35.heap.size]? = some (.cells (Array.replicate wn (.int .i64 0)) 3):=by rw [←hX];exact cells_alloc fR37 _
     have z_38:X38.heap[w.heap.size]? = some (.cells #[.int .i64 0,.slice none 0 0,.slice none 0 0,.slice none 0 0,.slice none 0 0] 27):=by rw [←hX];exact cells_alloc z_37 _
     have fS38:X38.heap[X37.heap.size]? = some (.cells #[.int .i64 0,.string ⟨#[]⟩,.slice none 0 0] 61):=by rw [←hX];exact World.alloc_heap_new _ _
     have b_38:Below w.heap.size w X38:=by rw [←hX];exact b_37.alloc b_37.size _
     have g_38:X37.heap.size≤X38.heap.size:=by rw [←hX];simp
     have p_38:w.heap.size+1≤X38.heap.size:=by omega
     rw [hX]
     clear hX
     refine hK.out _ _ trivial (fun hHeld=>?_)
     clear hK K
     try simp only [lays]
     refine tkH 6 (.agg #[.int .i64 (g:Int),.slice (some ⟨X35.heap.size,0,none⟩) wn wn,.slice (some ⟨X37.heap.size,0,none⟩) 1 1,.slice (some ⟨(w.alloc (.cells #[.int .i64 0,.slice none 0 0,.slice none 0 0,.slice none 0 0,.slice none 0 0] 27)).heap.size,0,none⟩) 1 1,.slice none 0 0]) rfl (Or.inl ⟨by rfl,fun w' hSw=>by go_simp⟩) hHeld ?_
     simp only [lays]
     refine wpAnyH_ready (rs:=[7]) (by kernel_rfl) (by simp) ?_
     refine AllReadyH.cons rfl (fun K hK=>?_) AllReadyH.nil
     ·clear hHeld
      simp only [lays]
      rw [if_pos (by rfl)]
      obtain⟨z0,z1,z2,z3,z4⟩:=five z_38
      have y0:=cells_frozen z_38 0
      have y1:=cells_frozen z_38 1
      have y2:=cells_frozen z_38 2
      have y3:=cells_frozen z_38 3
      have y4:=cells_frozen z_38 4
      go_simp
      refine hK.out _ _ trivial (fun hHeld=>?_)
      clear hK K hHeld
      refine wpAnyH_done (by kernel_rfl) ?_ _
      go_wp2_with fail
      refine bodyPost_ret (v:=.agg #[.int .i64 (g:Int),.slice (some ⟨X35.heap.size,0,none⟩) wn wn,.slice (some ⟨X37.heap.size,0,none⟩) 1 1,.slice (some ⟨(w.alloc (.cells #[.int .i64 0,.slice none 0 0,.slice none 0 0,.slice none 0 0,.slice none 0 0] 27)).heap.size,0,none⟩) 1 1,.slice none 0 0]) (by simp [results,Tryz.results24,go_sem,z0,z1,z2,z3,z4]) rfl ⟨_,_,_,rfl,(heap_fiveF _ _ _ _ _ _ (by first | omega | (simp <;> omega))).trans fR38,(heap_fiveF _ _ _ _ _ _ (by first | omega | (simp <;> omega))).trans fS38,(heap_fiveF _ _ _ _ _ _ (by first | omega | (simp <;> omega))).trans fF38,by (first | omega | (simp <;> omega)),by (first | omega | (simp <;> omega)),by (first | omega | (simp <;> omega)),below_fiveF b_38 (Nat.le_refl _) _ _ _ _ _⟩
   ·clear hHeld
    simp only [lays]
    rw [if_pos (by rfl)]
    go_simp
    obtain⟨X40,hX⟩:∃Z,(X35.alloc (.cells #[.int .i64 0,.string ⟨#[]⟩,.slice none 0 0] 61))=Z:=⟨_,rfl⟩
    have fF40:X40.heap[(w.alloc (.cells #[.int .i64 0,.slice none 0 0,.slice none 0 0,.slice none 0 0,.slice none 0 0] 27)).heap.size]? = some (.cells #[.int .i64 0] 3):=by rw [←hX];exact cells_alloc fF35 _
    have z_40:X40.heap[w.heap.size]? = some (.cells #[.int .i64 0,.slice none 0 0,.slice none 0 0,.slice none 0 0,.slice none 0 0] 27):=by rw [←hX];exact cells_alloc z_35 _
    have fS40:X40.heap[X35.heap.size]? = some (.cells #[.int .i64 0,.string ⟨#[]⟩,.slice none 0 0] 61):=by rw [←hX];exact World.alloc_heap_new _ _
    have b_40:Below w.heap.size w X40:=by rw [←hX];exact b_35.alloc b_35.size _
    have g_40:X35.heap.size≤X40.heap.size:=by rw [←hX];simp
    have p_40:w.heap.size+1≤X40.heap.size:=by omega
    rw [hX]
    clear hX
    refine hK.out _ _ trivial (fun hHeld=>?_)
    clear hK K
    try simp only [lays]
    refine wpAnyH_ready (rs:=[3]) (by kernel_rfl) (by simp) ?_
    refine AllReadyH.cons rfl (fun K hK=>?_) AllReadyH.nil
    ·clear hHeld
     simp only [lays]
     rw [if_pos (by rfl)]
     go_simp
     obtain⟨X41,hX⟩:∃Z,(X40.alloc (.cells (Array.replicate wn (.int .i64 0)) 3))=Z:=⟨_,rfl⟩
     have fF41:X41.heap[(w.alloc (.cells #[.int .i64 0,.slice none 0 0,.slice none 0 0,.slice none 0 0,.slice none 0 0] 27)).heap.size]? = some (.cells #[.int .i64 0] 3):=by rw [←hX];exact cells_alloc fF40 _
     have fS41:X41.heap[X35.heap.size]? = some (.cells #[.int .i64 0,.string ⟨#[]⟩,.slice none 0 0] 61):=by rw [←hX];exact cells_alloc fS40 _
     have z_41:X41.heap[w.heap.size]? = some (.cells #[.int .i64 0,.slice none 0 0,.slice none 0 0,.slice none 0 0,.slice none 0 0] 27):=by rw [←hX];exact cells_alloc z_40 _
     have fR41:X41.heap[X40.heap.size]? = some (.cells (Array.replicate wn (.int .i64 0)) 3):=by rw [←hX];exact World.alloc_heap_new _ _
     have b_41:Below w.heap.size w X41:=by rw [←hX];exact b_40.alloc b_40.size _
     have g_41:X40.heap.size≤X41.heap.size:=by rw [←hX];simp
     have p_41:w.heap.size+1≤X41.heap.size:=by omega
     rw [hX]
     clear hX
     refine hK.out _ _ trivial (fun hHeld=>?_)
     clear hK K
     try simp only [lays]
     refine tkH 6 (.agg #[.int .i64 (g:Int),.slice (some ⟨X40.heap.size,0,none⟩) wn wn,.slice (some ⟨X35.heap.size,0,none⟩) 1 1,.slice (some ⟨(w.alloc (.cells #[.int .i64 0,.slice none 0 0,.slice none 0 0,.slice none 0 0,.slice none 0 0] 27)).heap.size,0,none⟩) 1 1,.slice none 0 0]) rfl (Or.inl ⟨by rfl,fun w' hSw=>by go_simp⟩) hHeld ?_
     simp only [lays]
     refine wpAnyH_ready (rs:=[7]) (by kernel_rfl) (by simp) ?_
     refine AllReadyH.cons rfl (fun K hK=>?_) AllReadyH.nil
     ·clear hHeld
      simp only [lays]
      rw [if_pos (by rfl)]
      obtain⟨z0,z1,z2,z3,z4⟩:=five z_41
      have y0:=cells_frozen z_41 0
      have y1:=cells_frozen z_41 1
      have y2:=cells_frozen z_41 2
      have y3:=cells_frozen z_41 3
      have y4:=cells_frozen z_41 4
      go_simp
      refine hK.out _ _ trivial (fun hHeld=>?_)
      clear hK K hHeld
      refine wpAnyH_done (by kernel_rfl) ?_ _
      go_wp2_with fail
      refine bodyPost_ret (v:=.agg #[.int .i64 (g:Int),.slice (some ⟨X40.heap.size,0,none⟩) wn wn,.slice (some ⟨X35.heap.size,0,none⟩) 1 1,.slice (some ⟨(w.alloc (.cells #[.int .i64 0,.slice none 0 0,.slice none 0 0,.slice none 0 0,.slice none 0 0] 27)).heap.size,0,none⟩) 1 1,.slice none 0 0]) (by simp [results,Tryz.results24,go_sem,z0,z1,z2,z3,z4]) rfl ⟨_,_,_,rfl,(heap_fiveF _ _ _ _ _ _ (by first | omega | (simp <;> omega))).trans fR41,(heap_fiveF _ _ _ _ _ _ (by first | omega | (simp <;> omega))).trans fS41,(heap_fiveF _ _ _ _ _ _ (by first | omega | (simp <;> omega))).trans fF41,by (first | omega | (simp <;> omega)),by (first | omega | (simp <;> omega)),by (first | omega | (simp <;> omega)),below_fiveF b_41 (Nat.le_refl _) _ _ _ _ _⟩
  ·clear hHeld
   simp only [lays]
   rw [if_pos (by rfl)]
   go_simp
   obtain⟨X43,hX⟩:∃Z,(X35.alloc (.cells #[.int .i64 0,.string ⟨#[]⟩,.slice none 0 0] 61))=Z:=⟨_,rfl⟩
   have fF43:X43.heap[(w.alloc (.cells #[.int .i64 0,.slice none 0 0,.slice none 0 0,.slice none 0 0,.slice none 0 0] 27)).heap.size]? = some (.cells #[.int .i64 0] 3):=by rw [←hX];exact cells_alloc fF35 _
   have z_43:X43.heap[w.heap.size]? = some (.cells #[.int .i64 0,.slice none 0 0,.slice none 0 0,.slice none 0 0,.slice none 0 0] 27):=by rw [←hX];exact cells_alloc z_35 _
   have fS43:X43.heap[X35.heap.size]? = some (.cells #[.int .i64 0,.string ⟨#[]⟩,.slice none 0 0] 61):=by rw [←hX];exact World.alloc_heap_new _ _
   have b_43:Below w.heap.size w X43:=by rw [←hX];exact b_35.alloc b_35.size _
   have g_43:X35.heap.size≤X43.heap.size:=by rw [←hX];simp
   have p_43:w.heap.size+1≤X43.heap.size:=by omega
   rw [hX]
   clear hX
   refine hK.out _ _ trivial (fun hHeld=>?_)
   clear hK K
   try simp only [lays]
   refine wpAnyH_ready (rs:=[2]) (by kernel_rfl) (by simp) ?_
   refine AllReadyH.cons rfl (fun K hK=>?_) AllReadyH.nil
   ·clear hHeld
    simp only [lays]
    rw [if_pos (by rfl)]
    go_wp2_with (go_at_call 49;refine (HWa.out _).mono ?_;rintro e9 w9 ⟨rfl,hw⟩;rw [hw];clear hw)
    refine hK.out _ _ trivial (fun hHeld=>?_)
    clear hK K
    try simp only [lays]
    refine wpAnyH_ready (rs:=[3]) (by kernel_rfl) (by simp) ?_
    refine AllReadyH.cons rfl (fun K hK=>?_) AllReadyH.nil
    ·clear hHeld
     simp only [lays]
     rw [if_pos (by rfl)]
     go_simp
     obtain⟨X45,hX⟩:∃Z,(X43.alloc (.cells (Array.replicate wn (.int .i64 0)) 3))=Z:=⟨_,rfl⟩
     have fF45:X45.heap[(w.alloc (.cells #[.int .i64 0,.slice none 0 0,.slice none 0 0,.slice none 0 0,.slice none 0 0] 27)).heap.size]? = some (.cells #[.int .i64 0] 3):=by rw [←hX];exact cells_alloc fF43 _
     have fS45:X45.heap[X35.heap.size]? = some (.cells #[.int .i64 0,.string ⟨#[]⟩,.slice none 0 0] 61):=by rw [←hX];exact cells_alloc fS43 _
     have z_45:X45.heap[w.heap.size]? = some (.cells #[.int .i64 0,.slice none 0 0,.slice none 0 0,.slice none 0 0,.slice none 0 0] 27):=by rw [←hX];exact cells_alloc z_43 _
     have fR45:X45.heap[X43.heap.size]? = some (.cells (Array.replicate wn (.int .i64 0)) 3):=by rw [←hX];exact World.alloc_heap_new _ _
     have b_45:Below w.heap.size w X45:=by rw [←hX];exact b_43.alloc b_43.size _
     have g_45:X43.heap.size≤X45.heap.size:=by rw [←hX];simp
     have p_45:w.heap.size+1≤X45.heap.size:=by omega
     rw [hX]
     clear hX
     refine hK.out _ _ trivial (fun hHeld=>?_)
     clear hK K
     try simp only [lays]
     refine tkH 6 (.agg #[.int .i64 (g:Int),.slice (some ⟨X43.heap.size,0,none⟩) wn wn,.slice (some ⟨X35.heap.size,0,none⟩) 1 1,.slice (some ⟨(w.alloc (.cells #[.int .i64 0,.slice none 0 0,.slice none 0 0,.slice none 0 0,.slice none 0 0] 27)).heap.size,0,none⟩) 1 1,.slice none 0 0]) rfl (Or.inl ⟨by rfl,fun w' hSw=>by go_simp⟩) hHeld ?_
     simp only [lays]
     refine wpAnyH_ready (rs:=[7]) (by kernel_rfl) (by simp) ?_
     refine AllReadyH.cons rfl (fun K hK=>?_) AllReadyH.nil
     ·clear hHeld
      simp only [lays]
      rw [if_pos (by rfl)]
      obtain⟨z0,z1,z2,z3,z4⟩:=five z_45
      have y0:=cells_frozen z_45 0
      have y1:=cells_frozen z_45 1
      have y2:=cells_frozen z_45 2
      have y3:=cells_frozen z_45 3
      have y4:=cells_frozen z_45 4
      go_simp
      refine hK.out _ _ trivial (fun hHeld=>?_)
      clear hK K hHeld
      refine wpAnyH_done (by kernel_rfl) ?_ _
      go_wp2_with fail
      refine bodyPost_ret (v:=.agg #[.int .i64 (g:Int),.slice (some ⟨X43.heap.size,0,none⟩) wn wn,.slice (some ⟨X35.heap.size,0,none⟩) 1 1,.slice (some ⟨(w.alloc (.cells #[.int .i64 0,.slice none 0 0,.slice none 0 0,.slice none 0 0,.slice none 0 0] 27)).heap.size,0,none⟩) 1 1,.slice none 0 0]) (by simp [results,Tryz.results24,go_sem,z0,z1,z2,z3,z4]) rfl ⟨_,_,_,rfl,(heap_fiveF _ _ _ _ _ _ (by first | omega | (simp <;> omega))).trans fR45,(heap_fiveF _ _ _ _ _ _ (by first | omega | (simp <;> omega))).trans fS45,(heap_fiveF _ _ _ _ _ _ (by first | omega | (simp <;> omega))).trans fF45,by (first | omega | (simp <;> omega)),by (first | omega | (simp <;> omega)),by (first | omega | (simp <;> omega)),below_fiveF b_45 (Nat.le_refl _) _ _ _ _ _⟩
theorem fresh_img {W:World}{g wn gr gs gf:Nat}(hw:(g+3) / 4=wn)(h40:wn≤40)(hr:W.heap[gr]? = some (.cells (Array.replicate wn (.int .i64 0)) 3))(hs:W.heap[gs]? = some (.cells #[.int .i64 0,.string ⟨#[]⟩,.slice none 0 0] 61))(hf:W.heap[gf]? = some (.cells #[.int .i64 0] 3)):Img W (.agg #[.int .i64 (g:Int),.slice (some ⟨gr,0,none⟩) wn wn,.slice (some ⟨gs,0,none⟩) 1 1,.slice (some ⟨gf,0,none⟩) 1 1,.slice none 0 0]) (freshD g):=by
 refine⟨_,_,_,_,rfl,?_,?_,?_,?_⟩
 ·show Sl W (.slice (some ⟨gr,0,none⟩) wn wn) (List.replicate ((g+3) / 4) 0)
  rw [hw]
  refine⟨some ⟨gr,0,none⟩,wn,by simp,by simp;unfold maxLen;omega,by simp,fun _=>⟨gr,0,rfl,(szH hr),fun j hj=>?_⟩⟩
  have hj':j<wn:=by simpa using hj
  simp [World.cell?,hr,List.getD,hj']
 ·exact (zD_img hs hf).four.2.1
 ·exact (zD_img hs hf).four.2.2.1
 ·exact (zD_img hs hf).four.2.2.2
structure UqR (w wr:World) (D:Nat) (M:ImgD):Prop where
 ex:∃a0 c0 a1 c1 a2 c2 a3 c3,wr.heap[D]? = some (.cells #[.int .i64 M.guest,.slice a0 M.root.length c0,.slice a1 M.slots.length c1,.slice a2 M.refs.length c2,.slice a3 M.snaps.length c3] 27)∧∀W':World,(∀q,w.heap.size<q→q≠D→W'.heap[q]? = wr.heap[q]?)→Img W' (.agg #[.int .i64 M.guest,.slice a0 M.root.length c0,.slice a1 M.slots.length c1,.slice a2 M.refs.length c2,.slice a3 M.snaps.length c3]) M
 bel:Below w.heap.size w wr
 res:wr.heap[w.heap.size]? = some (.cells #[.int .i64 0,.slice none 0 0,.slice none 0 0,.slice none 0 0,.slice none 0 0] 27)
theorem uq_fresh {w W:World}{g wn gr gs gf:Nat}(hw:(g+3) / 4=wn)(h40:wn≤40)(hr:W.heap[gr]? = some (.cells (Array.replicate wn (.int .i64 0)) 3))(hs:W.heap[gs]? = some (.cells #[.int .i64 0,.string ⟨#[]⟩,.slice none 0 0] 61))(hf:W.heap[gf]? = some (.cells #[.int .i64 0] 3))(lr:w.heap.size<gr)(ls:w.heap.size<gs)(lf:w.heap.size<gf)(bel:Below w.heap.size w W)(res:W.heap[w.heap.size]? = some (.cells #[.int .i64 0,.slice none 0 0,.slice none 0 0,.slice none 0 0,.slice none 0 0] 27)):UqR w (W.alloc (.cells #[.int .i64 (g:Int),.slice (some ⟨gr,0,none⟩) wn wn,.slice (some ⟨gs,0,none⟩) 1 1,.slice (some ⟨gf,0,none⟩) 1 1,.slice none 0 0] 27)) W.heap.size (freshD g):=by
 have e:(freshD g).root.length=wn:=by unfold freshD;simp [hw]
 have kr:=(szH hr)
 have ks:=(szH hs)
 have kf:=(szH hf)
 refine⟨⟨some ⟨gr,0,none⟩,wn,some ⟨gs,0,none⟩,1,some ⟨gf,0,none⟩,1,none,0,?_,?_⟩,bel.alloc bel.size _,cells_alloc res _⟩
 ·rw [e];exact World.alloc_heap_new _ _
 ·intro W' hW'
  rw [e]
  exact fresh_img hw h40 ((hW' gr lr (by omega)).trans (cells_alloc hr _)) ((hW' gs ls (by omega)).trans (cells_alloc hs _)) ((hW' gf lf (by omega)).trans (cells_alloc hf _))
theorem UqR.put {w wr wx:World}{D:Nat}{M M':ImgD}{a0 a1 a2 a3:Option Addr}{c0 c1 c2 c3:Nat}(h:UqR w wr D M)(hD:w.heap.size<D)(hI:∀W':World,(∀q,wr.heap.size≤q→W'.heap[q]? = wx.heap[q]?)→Img W' (.agg #[.int .i64 M'.guest,.slice a0 M'.root.length c0,.slice a1 M'.slots.length c1,.slice a2 M'.refs.length c2,.slice a3 M'.snaps.length c3]) M')(hb:Below wr.heap.size wr wx):UqR w (((((wx.setCell ⟨D,0,none⟩ (.int .i64 M'.guest)).setCell ⟨D,1,none⟩ (.slice a0 M'.root.length c0)).setCell ⟨D,2,none⟩ (.slice a1 M'.slots.length c1)).setCell ⟨D,3,none⟩ (.slice a2 M'.refs.length c2)).setCell ⟨D,4,none⟩ (.slice a3 M'.snaps.length c3)) D M':=by
 obtain⟨x0,y0,x1,y1,x2,y2,x3,y3,hbox,_⟩:=h.ex
 have hDl:=(szH hbox)
 have hsz:=h.bel.size
 have hbx:=(hb.block D hDl).trans hbox
 have hge:w.heap.size≤D:=by omega
 refine⟨⟨a0,c0,a1,c1,a2,c2,a3,c3,five_setU hbx _ _ _ _ _,fun W' hW'=>hI W' (fun q hq=>?_)⟩,?_,?_⟩
 ·exact (hW' q (by omega) (by omega)).trans (five_farU _ _ _ _ _ (by omega))
 ·exact (((((Below.on h.bel hb).setCell (p:=⟨D,0,none⟩) hge _).setCell (p:=⟨D,1,none⟩) hge _).setCell (p:=⟨D,2,none⟩) hge _).setCell (p:=⟨D,3,none⟩) hge _).setCell (p:=⟨D,4,none⟩) hge _
 ·exact (five_farU _ _ _ _ _ (by omega)).trans ((hb.block _ (Array.getElem?_eq_some_iff.1 h.res).1).trans h.res)
theorem z4_list:Z4.toList=[0,0,0,0]:=by decide +kernel
theorem UqR.same {w wr wx:World}{D:Nat}{M:ImgD}(h:UqR w wr D M)(e:wx.heap=wr.heap)(hb:Below w.heap.size w wx):UqR w wx D M:=by
 obtain⟨x0,y0,x1,y1,x2,y2,x3,y3,hbox,hI⟩:=h.ex
 exact⟨⟨x0,y0,x1,y1,x2,y2,x3,y3,by rw [e];exact hbox,fun W' hW'=>hI W' (fun q h1 h2=>by rw [hW' q h1 h2,e])⟩,hb,by rw [e];exact h.res⟩
set_option maxHeartbeats 4000000 in
theorem upo_bad_at (ao:Option Addr)(cap:Nat)(l:List ByteArray)(E:Int)(w:World)(h:Ss w (.slice ao l.length cap) l)(hE:ckP l=E)(hne:(E != 0)=true) :
  Calls Tryz.prog 12 #[.slice ao l.length cap] w (AnsJ w imgZ E):=by
 have b0:Below w.heap.size w (w.alloc (.cells #[.int .i64 0,.slice none 0 0,.slice none 0 0,.slice none 0 0,.slice none 0 0] 27)):=(Below.refl _ _).alloc (Nat.le_refl _) _
 have m0:(w.alloc (.cells #[.int .i64 0,.slice none 0 0,.slice none 0 0,.slice none 0 0,.slice none 0 0] 27)).heap[w.heap.size]? = some (.cells #[.int .i64 0,.slice none 0 0,.slice none 0 0,.slice none 0 0,.slice none 0 0] 27):=World.alloc_heap_new _ _
 have hS:=h.below b0
 obtain⟨z0,z1,z2,z3,z4⟩:=five m0
 have y0:=cells_frozen m0 0;have y1:=cells_frozen m0 1;have y2:=cells_frozen m0 2;have y3:=cells_frozen m0 3;have y4:=cells_frozen m0 4
 have HB:Hid (Below w.heap.size w (w.alloc (.cells #[.int .i64 0,.slice none 0 0,.slice none 0 0,.slice none 0 0,.slice none 0 0] 27))):=b0
 clear h m0 b0
 go_enter Tryz.func12,Tryz.ntmps12
 go_wp2_with (go_at_call 33;refine (checkPages_is hS hE).mono ?_;rintro e w' ⟨rfl,hw⟩;subst hw)
 refine bodyPost_ret (v:=.tuple #[.agg #[.int .i64 0,.slice none 0 0,.slice none 0 0,.slice none 0 0,.slice none 0 0],.int .i64 E]) (by simp [results,Tryz.results12,go_sem,z0,z1,z2,z3,z4]) rfl ?_
 first
  | exact⟨none,0,none,0,none,0,none,0,rfl,fun W' _=>imgZ_im W',below_five HB.out (Nat.le_refl _) _ _ _ _ _⟩
  | exact⟨none,0,none,0,none,0,none,0,rfl,fun W' _=>imgZ_im W',HB.out⟩
set_option maxHeartbeats 16000000 in
theorem upo_ok_at (ao:Option Addr)(cap:Nat)(l:List ByteArray)(wn:Nat)(w:World)(h:Ss w (.slice ao l.length cap) l)(hE:ckP l=0)(hwn:(l.length+3) / 4=wn)(M:ImgD)(hM:upS l l.length=M) :
  Calls Tryz.prog 12 #[.slice ao l.length cap] w (AnsJ w M 0):=by
 have b0:Below w.heap.size w (w.alloc (.cells #[.int .i64 0,.slice none 0 0,.slice none 0 0,.slice none 0 0,.slice none 0 0] 27)):=(Below.refl _ _).alloc (Nat.le_refl _) _
 have m0:(w.alloc (.cells #[.int .i64 0,.slice none 0 0,.slice none 0 0,.slice none 0 0,.slice none 0 0] 27)).heap[w.heap.size]? = some (.cells #[.int .i64 0,.slice none 0 0,.slice none 0 0,.slice none 0 0,.slice none 0 0] 27):=World.alloc_heap_new _ _
 have hS:=h.below b0
 obtain⟨h16,h4⟩:=ckP_zero hE
 have HWn:Hid ((l.length+3) / 4=wn∧wn≤40):=⟨hwn,by omega⟩
 have HFr:Hid (∀W:World,Calls Tryz.prog 24 #[.int .i64 (l.length:Int)] W (fun r w'=>∃gr gs gf,r=.returned (.agg #[.int .i64 (l.length:Int),.slice (some ⟨gr,0,none⟩) wn wn,.slice (some ⟨gs,0,none⟩) 1 1,.slice (some ⟨gf,0,none⟩) 1 1,.slice none 0 0])∧w'.heap[gr]? = some (.cells (Array.replicate wn (.int .i64 0)) 3)∧w'.heap[gs]? = some (.cells #[.int .i64 0,.string ⟨#[]⟩,.slice none 0 0] 61)∧w'.heap[gf]? = some (.cells #[.int .i64 0] 3)∧W.heap.size≤gr∧W.heap.size≤gs∧W.heap.size≤gf∧Below W.heap.size W w')):=fun W=>freshOf_at l.length wn W HWn.out.2 (fun W'=>by
  have:=wants_any (l.length:Int) W' (by omega)
  rw [show ((l.length:Int)+3) / 4=(wn:Int) by omega] at this
  exact this)
 have HM0:Hid ((w.alloc (.cells #[.int .i64 0,.slice none 0 0,.slice none 0 0,.slice none 0 0,.slice none 0 0] 27)).heap[w.heap.size]? = some (.cells #[.int .i64 0,.slice none 0 0,.slice none 0 0,.slice none 0 0,.slice none 0 0] 27)∧Below w.heap.size w (w.alloc (.cells #[.int .i64 0,.slice none 0 0,.slice none 0 0,.slice none 0 0,.slice none 0 0] 27))):=⟨m0,b0⟩
 have HP:Hid (ckP l=0∧upS l l.length=M):=⟨hE,hM⟩
 have HSs:Hid (Ss w (.slice ao l.length cap) l):=h
 clear h m0 b0 hM h4 hwn
 go_enter Tryz.func12,Tryz.ntmps12
 go_wp2_with (first | (go_at_call 24;refine (HFr.out _).mono ?_;rintro e w2 ⟨gr,gs,gf,rfl,hgr,hgs,hgf,lr,ls,lf,b2⟩) | (go_at_call 33;refine (checkPages_is hS hE).mono ?_;rintro e w' ⟨rfl,hw⟩;subst hw))
 clear hS
 have hz0:(w.alloc (.cells #[.int .i64 0,.slice none 0 0,.slice none 0 0,.slice none 0 0,.slice none 0 0] 27)).heap.size=w.heap.size+1:=by simp
 have HR0:Hid (UqR w (w2.alloc (.cells #[.int .i64 (l.length:Int),.slice (some ⟨gr,0,none⟩) wn wn,.slice (some ⟨gs,0,none⟩) 1 1,.slice (some ⟨gf,0,none⟩) 1 1,.slice none 0 0] 27)) w2.heap.size (freshD l.length)):=by
  rw [hz0] at lr ls lf
  exact uq_fresh HWn.out.1 HWn.out.2 hgr hgs hgf lr ls lf (Below.on HM0.out.2 b2) (cells_below HM0.out.1 b2 (by rw [hz0];omega))
 have hDw:w.heap.size+1≤w2.heap.size:=by have:=b2.size;rw [hz0] at this;exact this
 clear hgr hgs hgf lr ls lf b2 HFr hz0
 obtain⟨w3,hw3⟩:∃X,X=w2.alloc (.cells #[.int .i64 (l.length:Int),.slice (some ⟨gr,0,none⟩) wn wn,.slice (some ⟨gs,0,none⟩) 1 1,.slice (some ⟨gf,0,none⟩) 1 1,.slice none 0 0] 27):=⟨_,rfl⟩
 rw [←hw3] at HR0
 first | rw [←hw3] | skip
 clear hw3
 go_loopw [6] (fun i wr=>∃k:Nat,k≤l.length∧i=.int .i64 k∧Hid (UqR w wr w2.heap.size (upS l k))) (fun i _=>l.length - (intOf i).toNat)
 case atStart=>exact⟨0,Nat.zero_le _,rfl,HR0⟩
 case round=>
  obtain⟨k,hk,rfl,HC⟩:=hrel
  obtain⟨MK,hMK⟩:∃X,upS l k=X:=⟨_,rfl⟩
  rw [hMK] at HC
  obtain⟨p0,q0,p1,q1,p2,q2,p3,q3,hbx,hIm⟩:=HC.out.ex
  have HMK:Hid (upS l k=MK):=hMK
  clear hMK
  have HI:Hid (∀W':World,(∀q,w.heap.size<q→q≠w2.heap.size→W'.heap[q]? = wr.heap[q]?)→Img W' (.agg #[.int .i64 MK.guest,.slice p0 MK.root.length q0,.slice p1 MK.slots.length q1,.slice p2 MK.refs.length q2,.slice p3 MK.snaps.length q3]) MK):=hIm
  clear hIm
  by_cases hkl:k<l.length
  ·have hki:(k:Int)<(l.length:Int):=by omega
   obtain⟨b,off,hao,hbl,hcp⟩:=ss_openU HSs.out hkl
   subst hao
   have cp:wr.cell? ⟨b,off+k,none⟩=some (.string (pgA l k)):=(HC.out.bel.cell (p:=⟨b,off+k,none⟩) hbl).trans hcp
   clear hcp
   obtain⟨pg,hpg⟩:∃p,pgA l k=p:=⟨_,rfl⟩
   rw [hpg] at cp
   have hst:=up_step HP.out.1 hkl (up_facts HP.out.1 k hk)
   rw [hpg,HMK.out] at hst
   have hsucc:upS l (k+1)=if isZ pg=true then MK else wrM MK (k:Int) pg:=by show (if isZ (pgA l k)=true then upS l k else wrM (upS l k) (k:Int) (pgA l k))=_;rw [hpg,HMK.out]
   rcases Bool.eq_false_or_eq_true (isZ pg) with hz | hz
   ·have hzc:(pg.toList == (⟨#[0,0,0,0]⟩:ByteArray).toList)=true:=hz
    have hzl:(pg.toList == [0,0,0,0])=true:=by rw [←z4_list];exact hz
    have hzn:(pg.toList != (⟨#[0,0,0,0]⟩:ByteArray).toList)=false:=by simp only [bne,hzc];rfl
    rw [if_pos hz] at hsucc
    have HN:Hid (UqR w wr w2.heap.size (upS l (k+1))):=by rw [hsucc];exact HC.out
    clear hbx hst hsucc hz hpg
    go_upto_region 8 with fail
    go_quiet ((go_at_call 34;exact Calls.quiet_of_same (zeroPage_any _)))
    go_wp2_with fail
    go_roundw
    case rel=>exact⟨k+1,by omega,by go_num,HN.out.same rfl (below_drewN HN.out.bel _)⟩
    case measure=>first | (simp [intOf];done) | (simp [intOf];omega)
   ·have hzc:(pg.toList == (⟨#[0,0,0,0]⟩:ByteArray).toList)=false:=hz
    have hzl:(pg.toList == [0,0,0,0])=false:=by rw [←z4_list];exact hz
    have hzn:(pg.toList != (⟨#[0,0,0,0]⟩:ByteArray).toList)=true:=by simp only [bne,hzc];rfl
    rw [if_neg (by rw [hz];decide)] at hsucc
    obtain⟨MN,hMN⟩:∃X,wrM MK (k:Int) pg=X:=⟨_,rfl⟩
    have hwe:=hst.2 hz
    have HWr:Hid (∀wx:World,wx.heap=wr.heap→Calls Tryz.prog 35 #[.agg #[.int .i64 MK.guest,.slice p0 MK.root.length q0,.slice p1 MK.slots.length q1,.slice p2 MK.refs.length q2,.slice p3 MK.snaps.length q3],.int .i64 (k:Int),.string pg] wx (AnsJ wx MN 0)):=fun wx hx=>writeOf_is (HI.out wx (fun _ _ _=>by rw [hx])) (k:Int) pg hMN hwe
    have hDl:=(szH hbx)
    have HBx:Hid (wr.heap[w2.heap.size]? = some (.cells #[.int .i64 MK.guest,.slice p0 MK.root.length q0,.slice p1 MK.slots.length q1,.slice p2 MK.refs.length q2,.slice p3 MK.snaps.length q3] 27)):=hbx
    have HUN:Hid (upS l (k+1)=MN):=hsucc.trans hMN
    clear hbx hst hsucc hz hpg hMN hwe
    go_upto_region 8 with fail
    go_quiet ((go_at_call 34;exact Calls.quiet_of_same (zeroPage_any _)))
    go_upto_region 9 with fail
    refine wp_region_held_drew (S:=(fun X:World=>X.cell? ⟨b,off+k,none⟩=some (.string pg))) (by kernel_rfl) cp (fun hHeld=>?_)
    refine tkH 1 (.int .i64 (k:Int)) rfl (Or.inl ⟨by rfl,fun w' hSw=>by go_simp⟩) hHeld ?_
    simp only [lays]
    refine tkH 2 (.slice (some ⟨b,off,none⟩) l.length cap) rfl (Or.inl ⟨by rfl,fun w' hSw=>by go_simp⟩) hHeld ?_
    simp only [lays]
    refine tkH 3 (.int .i64 (k:Int)) rfl (Or.inl ⟨by rfl,fun w' hSw=>by go_simp⟩) hHeld ?_
    simp only [lays]
    refine tkH 4 (.pointer (some ⟨b,off+k,none⟩)) rfl (Or.inl ⟨by rfl,fun w' hSw=>by go_simp⟩) hHeld ?_
    simp only [lays]
    refine tkH 5 (.string pg) rfl (Or.inl ⟨by rfl,fun w' hSw=>by go_simp⟩) hHeld ?_
    simp only [lays]
    refine wpAnyH_ready (rs:=[0]) (by kernel_rfl) (by simp) ?_
    refine AllReadyH.cons rfl (fun K hK=>?_) AllReadyH.nil
    clear hHeld
    simp only [lays]
    rw [if_pos (by rfl)]
    have xd:=HBx.out
    obtain⟨xb0,xb1,xb2,xb3,xb4⟩:=five xd
    go_simp
    refine hK.out _ _ (by exact cp) (fun hHeld=>?_)
    clear hK K xb0 xb1 xb2 xb3 xb4
    try simp only [lays]
    refine wpAnyH_ready (rs:=[6]) (by kernel_rfl) (by simp) ?_
    refine AllReadyH.cons rfl (fun K hK=>?_) AllReadyH.nil
    clear hHeld
    simp only [lays]
    rw [if_pos (by rfl)]
    go_wp2_with (go_at_call 35;refine (HWr.out _ (by rfl)).mono ?_;rintro e' w6 ⟨r0,s0,r1,s1,r2,s2,r3,s3,rfl,hI6,b6⟩)
    replace b6:Below wr.heap.size wr w6:=⟨b6.os,b6.tape,b6.output,b6.size,b6.block⟩
    replace hI6:∀W':World,(∀q,wr.heap.size≤q→W'.heap[q]? = w6.heap[q]?)→Img W' (.agg #[.int .i64 MN.guest,.slice r0 MN.root.length s0,.slice r1 MN.slots.length s1,.slice r2 MN.refs.length s2,.slice r3 MN.snaps.length s3]) MN:=hI6
    have cp6:w6.cell? ⟨b,off+k,none⟩=some (.string pg):=(b6.cell (p:=⟨b,off+k,none⟩) (Nat.lt_of_lt_of_le hbl HC.out.bel.size)).trans cp
    have x6:=cells_below HBx.out b6 hDl
    refine hK.out _ _ cp6 (fun hHeld=>?_)
    clear hK K
    try simp only [lays]
    refine tkH 7 (.tuple #[.agg #[.int .i64 MN.guest,.slice r0 MN.root.length s0,.slice r1 MN.slots.length s1,.slice r2 MN.refs.length s2,.slice r3 MN.snaps.length s3],.int .i64 0]) rfl (Or.inl ⟨by rfl,fun w' hSw=>by go_simp⟩) hHeld ?_
    simp only [lays]
    refine tkH 8 (.agg #[.int .i64 MN.guest,.slice r0 MN.root.length s0,.slice r1 MN.slots.length s1,.slice r2 MN.refs.length s2,.slice r3 MN.snaps.length s3]) rfl (Or.inl ⟨by rfl,fun w' hSw=>by go_simp⟩) hHeld ?_
    simp only [lays]
    refine tkH 9 (.int .i64 0) rfl (Or.inl ⟨by rfl,fun w' hSw=>by go_simp⟩) hHeld ?_
    simp only [lays]
    refine wpAnyH_ready (rs:=[10]) (by kernel_rfl) (by simp) ?_
    refine AllReadyH.cons rfl (fun K hK=>?_) AllReadyH.nil
    clear hHeld
    simp only [lays]
    rw [if_pos (by rfl)]
    obtain⟨xa0,xa1,xa2,xa3,xa4⟩:=five x6
    have xf0:=cells_frozen x6 0;have xf1:=cells_frozen x6 1;have xf2:=cells_frozen x6 2;have xf3:=cells_frozen x6 3;have xf4:=cells_frozen x6 4
    go_simp
    have nbD:¬b=w2.heap.size:=by have:=hbl;omega
    refine hK.out _ _ ((World.cell?_of_block (a:=⟨b,off+k,none⟩) (five_farU _ _ _ _ _ nbD)).trans cp6) (fun hHeld=>?_)
    clear hK K hHeld xa0 xa1 xa2 xa3 xa4 xf0 xf1 xf2 xf3 xf4
    refine wpAnyH_done (by kernel_rfl) ?_ _
    have HW:Hid (UqR w (((((w6.setCell ⟨w2.heap.size,0,none⟩ (.int .i64 MN.guest)).setCell ⟨w2.heap.size,1,none⟩ (.slice r0 MN.root.length s0)).setCell ⟨w2.heap.size,2,none⟩ (.slice r1 MN.slots.length s1)).setCell ⟨w2.heap.size,3,none⟩ (.slice r2 MN.refs.length s2)).setCell ⟨w2.heap.size,4,none⟩ (.slice r3 MN.snaps.length s3)) w2.heap.size (upS l (k+1))):=by
     rw [HUN.out]
     exact HC.out.put (by omega) hI6 b6
    clear x6 cp6 hI6 b6
    go_wp2_with fail
    go_roundw
    case rel=>exact⟨k+1,by omega,by go_num,HW⟩
    case measure=>first | (simp [intOf];done) | (simp [intOf];omega)
  ·have e:k=l.length:=by omega
   subst e
   have hres:=HC.out.res
   obtain⟨z0,z1,z2,z3,z4⟩:=five hbx
   obtain⟨o0,o1,o2,o3,o4⟩:=five hres
   have of0:=cells_frozen hres 0;have of1:=cells_frozen hres 1;have of2:=cells_frozen hres 2;have of3:=cells_frozen hres 3;have of4:=cells_frozen hres 4
   have nD1:¬w2.heap.size=w.heap.size:=by omega
   have nD2:¬w.heap.size=w2.heap.size:=by omega
   have HE:Hid (Below w.heap.size w wr∧MK=M):=⟨HC.out.bel,HMK.out.symm.trans HP.out.2⟩
   clear hbx hres
   go_wp2_with fail
   obtain⟨hb9,hM9⟩:=HE.out
   subst hM9
   refine bodyPost_ret (v:=.tuple #[.agg #[.int .i64 MK.guest,.slice p0 MK.root.length q0,.slice p1 MK.slots.length q1,.slice p2 MK.refs.length q2,.slice p3 MK.snaps.length q3],.int .i64 0]) (by simp [results,Tryz.results12,go_sem,o0,o1,o2,o3,o4]) rfl ⟨p0,q0,p1,q1,p2,q2,p3,q3,rfl,fun W' hW'=>HI.out W' (fun q hq hn=>(hW' q (by omega)).trans (five_farU _ _ _ _ _ (by omega))),below_five hb9 (Nat.le_refl _) _ _ _ _ _⟩
theorem upOf_is {w:World}{v:Value}{l:List ByteArray}(h:Ss w v l){M:ImgD}{E:Int}(hM:upM l=M)(hE:ckP l=E):Calls Tryz.prog 12 #[v] w (AnsJ w M E):=by
 obtain⟨ao,cap,rfl⟩:=h.form
 by_cases h0:ckP l=0
 ·have e:E=0:=hE.symm.trans h0
  subst e
  exact upo_ok_at ao cap l _ w h h0 rfl M (by unfold upM at hM;rw [if_pos h0] at hM;exact hM)
 ·have:M=imgZ:=by unfold upM at hM;rw [if_neg h0] at hM;exact hM.symm
  subst this
  exact upo_bad_at ao cap l E w h hE (by rw [←hE];simpa using h0)
set_option maxHeartbeats 2000000 in
theorem dno_bad (ra:Option Addr)(rc:Nat)(sa:Option Addr)(sc:Nat)(fa:Option Addr)(fc:Nat)(na:Option Addr)(nc:Nat)(m:ImgD)(w:World)(h:Img w (.agg #[.int .i64 m.guest,.slice ra m.root.length rc,.slice sa m.slots.length sc,.slice fa m.refs.length fc,.slice na m.snaps.length nc]) m)(E:Int)(hE:checkE m=E)(hne:(E != 0)=true) :
  Calls Tryz.prog 13 #[.agg #[.int .i64 m.guest,.slice ra m.root.length rc,.slice sa m.slots.length sc,.slice fa m.refs.length fc,.slice na m.snaps.length nc]] w fun r w'=>(∃lv,r=.returned (.tuple #[lv,.int .i64 E])∧Ss w' lv [])∧Below w.heap.size w w':=by
 have b0:Below w.heap.size w (w.alloc (.cells #[.int .i64 m.guest,.slice ra m.root.length rc,.slice sa m.slots.length sc,.slice fa m.refs.length fc,.slice na m.snaps.length nc] 27)):=(Below.refl _ _).alloc (Nat.le_refl _) _
 have m0:(w.alloc (.cells #[.int .i64 m.guest,.slice ra m.root.length rc,.slice sa m.slots.length sc,.slice fa m.refs.length fc,.slice na m.snaps.length nc] 27)).heap[w.heap.size]? = some (.cells #[.int .i64 m.guest,.slice ra m.root.length rc,.slice sa m.slots.length sc,.slice fa m.refs.length fc,.slice na m.snaps.length nc] 27):=World.alloc_heap_new _ _
 have hck:=checkImage_is (h.below b0) hE
 obtain⟨c0,c1,c2,c3,c4⟩:=five m0
 have HM:Hid ((w.alloc (.cells #[.int .i64 m.guest,.slice ra m.root.length rc,.slice sa m.slots.length sc,.slice fa m.refs.length fc,.slice na m.snaps.length nc] 27)).heap[w.heap.size]? = some (.cells #[.int .i64 m.guest,.slice ra m.root.length rc,.slice sa m.slots.length sc,.slice fa m.refs.length fc,.slice na m.snaps.length nc] 27)∧Below w.heap.size w (w.alloc (.cells #[.int .i64 m.guest,.slice ra m.root.length rc,.slice sa m.slots.length sc,.slice fa m.refs.length fc,.slice na m.snaps.length nc] 27))):=⟨m0,b0⟩
 have HI:Hid (Img (w.alloc (.cells #[.int .i64 m.guest,.slice ra m.root.length rc,.slice sa m.slots.length sc,.slice fa m.refs.length fc,.slice na m.snaps.length nc] 27)) (.agg #[.int .i64 m.guest,.slice ra m.root.length rc,.slice sa m.slots.length sc,.slice fa m.refs.length fc,.slice na m.snaps.length nc]) m∧checkE m=E):=⟨h.below b0,hE⟩
 clear h m0 b0 hE
 go_enter Tryz.func13,Tryz.ntmps13
 go_wp2_with (go_at_call 18;refine hck.mono ?_;rintro e w1 ⟨rfl,b1⟩;have k0:=cells_below HM.out.1 b1 (by simp);obtain⟨d0,d1,d2,d3,d4⟩:=five k0;have HB:Hid (Below w.heap.size w w1∧Below (w.alloc (.cells #[.int .i64 m.guest,.slice ra m.root.length rc,.slice sa m.slots.length sc,.slice fa m.refs.length fc,.slice na m.snaps.length nc] 27)).heap.size (w.alloc (.cells #[.int .i64 m.guest,.slice ra m.root.length rc,.slice sa m.slots.length sc,.slice fa m.refs.length fc,.slice na m.snaps.length nc] 27)) w1):=⟨Below.on HM.out.2 b1,b1⟩;clear b1 k0)
 go_ret2
 exact⟨⟨_,rfl,Ss.nil _⟩,HB.out.1⟩
set_option maxHeartbeats 2000000 in
theorem dno_busy (ra:Option Addr)(rc:Nat)(sa:Option Addr)(sc:Nat)(fa:Option Addr)(fc:Nat)(na:Option Addr)(nc:Nat)(m:ImgD)(w:World)(h:Img w (.agg #[.int .i64 m.guest,.slice ra m.root.length rc,.slice sa m.slots.length sc,.slice fa m.refs.length fc,.slice na m.snaps.length nc]) m)(hE:checkE m=0)(hn:decide (0<m.snaps.length)=true) :
  Calls Tryz.prog 13 #[.agg #[.int .i64 m.guest,.slice ra m.root.length rc,.slice sa m.slots.length sc,.slice fa m.refs.length fc,.slice na m.snaps.length nc]] w fun r w'=>(∃lv,r=.returned (.tuple #[lv,.int .i64 8])∧Ss w' lv [])∧Below w.heap.size w w':=by
 have b0:Below w.heap.size w (w.alloc (.cells #[.int .i64 m.guest,.slice ra m.root.length rc,.slice sa m.slots.length sc,.slice fa m.refs.length fc,.slice na m.snaps.length nc] 27)):=(Below.refl _ _).alloc (Nat.le_refl _) _
 have m0:(w.alloc (.cells #[.int .i64 m.guest,.slice ra m.root.length rc,.slice sa m.slots.length sc,.slice fa m.refs.length fc,.slice na m.snaps.length nc] 27)).heap[w.heap.size]? = some (.cells #[.int .i64 m.guest,.slice ra m.root.length rc,.slice sa m.slots.length sc,.slice fa m.refs.length fc,.slice na m.snaps.length nc] 27):=World.alloc_heap_new _ _
 have hck:=checkImage_is (h.below b0) hE
 obtain⟨c0,c1,c2,c3,c4⟩:=five m0
 have HM:Hid ((w.alloc (.cells #[.int .i64 m.guest,.slice ra m.root.length rc,.slice sa m.slots.length sc,.slice fa m.refs.length fc,.slice na m.snaps.length nc] 27)).heap[w.heap.size]? = some (.cells #[.int .i64 m.guest,.slice ra m.root.length rc,.slice sa m.slots.length sc,.slice fa m.refs.length fc,.slice na m.snaps.length nc] 27)∧Below w.heap.size w (w.alloc (.cells #[.int .i64 m.guest,.slice ra m.root.length rc,.slice sa m.slots.length sc,.slice fa m.refs.length fc,.slice na m.snaps.length nc] 27))):=⟨m0,b0⟩
 have HI:Hid (Img (w.alloc (.cells #[.int .i64 m.guest,.slice ra m.root.length rc,.slice sa m.slots.length sc,.slice fa m.refs.length fc,.slice na m.snaps.length nc] 27)) (.agg #[.int .i64 m.guest,.slice ra m.root.length rc,.slice sa m.slots.length sc,.slice fa m.refs.length fc,.slice na m.snaps.length nc]) m∧checkE m=0):=⟨h.below b0,hE⟩
 clear h m0 b0 hE
 go_enter Tryz.func13,Tryz.ntmps13
 go_wp2_with (go_at_call 18;refine hck.mono ?_;rintro e w1 ⟨rfl,b1⟩;have k0:=cells_below HM.out.1 b1 (by simp);obtain⟨d0,d1,d2,d3,d4⟩:=five k0;have HB:Hid (Below w.heap.size w w1∧Below (w.alloc (.cells #[.int .i64 m.guest,.slice ra m.root.length rc,.slice sa m.slots.length sc,.slice fa m.refs.length fc,.slice na m.snaps.length nc] 27)).heap.size (w.alloc (.cells #[.int .i64 m.guest,.slice ra m.root.length rc,.slice sa m.slots.length sc,.slice fa m.refs.length fc,.slice na m.snaps.length nc] 27)) w1):=⟨Below.on HM.out.2 b1,b1⟩;clear b1 k0)
 go_ret2
 exact⟨⟨_,rfl,Ss.nil _⟩,HB.out.1⟩
set_option maxHeartbeats 2000000 in
theorem dno_ok (ra:Option Addr)(rc:Nat)(sa:Option Addr)(sc:Nat)(fa:Option Addr)(fc:Nat)(na:Option Addr)(nc:Nat)(m:ImgD)(w:World)(h:Img w (.agg #[.int .i64 m.guest,.slice ra m.root.length rc,.slice sa m.slots.length sc,.slice fa m.refs.length fc,.slice na m.snaps.length nc]) m)(hE:checkE m=0)(hn:decide (0<m.snaps.length)=false) :
  Calls Tryz.prog 13 #[.agg #[.int .i64 m.guest,.slice ra m.root.length rc,.slice sa m.slots.length sc,.slice fa m.refs.length fc,.slice na m.snaps.length nc]] w fun r w'=>(∃lv,r=.returned (.tuple #[lv,.int .i64 0])∧Ss w' lv (allV m))∧Below w.heap.size w w':=by
 have b0:Below w.heap.size w (w.alloc (.cells #[.int .i64 m.guest,.slice ra m.root.length rc,.slice sa m.slots.length sc,.slice fa m.refs.length fc,.slice na m.snaps.length nc] 27)):=(Below.refl _ _).alloc (Nat.le_refl _) _
 have m0:(w.alloc (.cells #[.int .i64 m.guest,.slice ra m.root.length rc,.slice sa m.slots.length sc,.slice fa m.refs.length fc,.slice na m.snaps.length nc] 27)).heap[w.heap.size]? = some (.cells #[.int .i64 m.guest,.slice ra m.root.length rc,.slice sa m.slots.length sc,.slice fa m.refs.length fc,.slice na m.snaps.length nc] 27):=World.alloc_heap_new _ _
 have hck:=checkImage_is (h.below b0) hE
 obtain⟨c0,c1,c2,c3,c4⟩:=five m0
 have HM:Hid ((w.alloc (.cells #[.int .i64 m.guest,.slice ra m.root.length rc,.slice sa m.slots.length sc,.slice fa m.refs.length fc,.slice na m.snaps.length nc] 27)).heap[w.heap.size]? = some (.cells #[.int .i64 m.guest,.slice ra m.root.length rc,.slice sa m.slots.length sc,.slice fa m.refs.length fc,.slice na m.snaps.length nc] 27)∧Below w.heap.size w (w.alloc (.cells #[.int .i64 m.guest,.slice ra m.root.length rc,.slice sa m.slots.length sc,.slice fa m.refs.length fc,.slice na m.snaps.length nc] 27))):=⟨m0,b0⟩
 have HI:Hid (Img (w.alloc (.cells #[.int .i64 m.guest,.slice ra m.root.length rc,.slice sa m.slots.length sc,.slice fa m.refs.length fc,.slice na m.snaps.length nc] 27)) (.agg #[.int .i64 m.guest,.slice ra m.root.length rc,.slice sa m.slots.length sc,.slice fa m.refs.length fc,.slice na m.snaps.length nc]) m∧checkE m=0):=⟨h.below b0,hE⟩
 clear h m0 b0 hE
 go_enter Tryz.func13,Tryz.ntmps13
 go_wp2_with (first | (go_at_call 36;refine (allOf_is (HI.out.1.below HB.out.2) HI.out.2 rfl).mono ?_;rintro e w2 ⟨⟨lv,rfl,hS⟩,b2⟩;have HS:Hid (Below w.heap.size w w2∧Ss w2 lv (allV m)):=⟨Below.on HB.out.1 b2,hS⟩;clear b2 hS) | (go_at_call 18;refine hck.mono ?_;rintro e w1 ⟨rfl,b1⟩;have k0:=cells_below HM.out.1 b1 (by simp);obtain⟨d0,d1,d2,d3,d4⟩:=five k0;have HB:Hid (Below w.heap.size w w1∧Below (w.alloc (.cells #[.int .i64 m.guest,.slice ra m.root.length rc,.slice sa m.slots.length sc,.slice fa m.refs.length fc,.slice na m.snaps.length nc] 27)).heap.size (w.alloc (.cells #[.int .i64 m.guest,.slice ra m.root.length rc,.slice sa m.slots.length sc,.slice fa m.refs.length fc,.slice na m.snaps.length nc] 27)) w1):=⟨Below.on HM.out.2 b1,b1⟩;clear b1 k0))
 go_ret2
 exact⟨⟨_,rfl,HS.out.2⟩,HS.out.1⟩
theorem dno_is {w:World}{v:Value}{m:ImgD}(h:Img w v m){E:Int}{l:List ByteArray}(hE:dnE m=E)(hl:dnV m=l) :
  Calls Tryz.prog 13 #[v] w fun r w'=>(∃lv,r=.returned (.tuple #[lv,.int .i64 E])∧Ss w' lv l)∧Below w.heap.size w w':=by
 have h':=h
 obtain⟨ra,rc,sa,sc,fa,fc,na,nc,rfl,_⟩:=h.parts
 subst hE hl
 by_cases hC:checkE m=0
 ·by_cases hn:0<m.snaps.length
  ·have e:dnE m=8:=by unfold dnE;rw [if_neg (fun x=>x hC),if_pos hn]
   have e2:dnV m=[]:=by unfold dnV;rw [e,if_neg (by decide)]
   rw [e,e2]
   exact dno_busy ra rc sa sc fa fc na nc m w h' hC (by simpa using hn)
  ·have e:dnE m=0:=by unfold dnE;rw [if_neg (fun x=>x hC),if_neg hn]
   have e2:dnV m=allV m:=by unfold dnV;rw [if_pos e]
   rw [e,e2]
   exact dno_ok ra rc sa sc fa fc na nc m w h' hC (by simpa using hn)
 ·have e:dnE m=checkE m:=by unfold dnE;rw [if_pos hC]
  have e2:dnV m=[]:=by unfold dnV;rw [e,if_neg hC]
  rw [e,e2]
  exact dno_bad ra rc sa sc fa fc na nc m w h' _ rfl (by simpa using hC)
set_option maxHeartbeats 4000000 in
theorem sameI_at (m:ImgD)(ra:Option Addr)(rc:Nat)(sa:Option Addr)(sc:Nat)(fa:Option Addr)(fc:Nat)(na:Option Addr)(nc:Nat)(rb:Option Addr)(rd:Nat)(sb:Option Addr)(sd:Nat)(fb:Option Addr)(fd:Nat)(nb:Option Addr)(nd:Nat)(w:World)
  (h1:Sl w (.slice ra m.root.length rc) m.root) (h2:Slots w (.slice sa m.slots.length sc) m.slots) (h3:Sl w (.slice fa m.refs.length fc) m.refs) (h4:Snaps w (.slice na m.snaps.length nc) m.snaps)
  (k1:Sl w (.slice rb m.root.length rd) m.root) (k2:Slots w (.slice sb m.slots.length sd) m.slots) (k3:Sl w (.slice fb m.refs.length fd) m.refs) (k4:Snaps w (.slice nb m.snaps.length nd) m.snaps) :
  Calls Tryz.prog 15 #[.agg #[.int .i64 m.guest,.slice ra m.root.length rc,.slice sa m.slots.length sc,.slice fa m.refs.length fc,.slice na m.snaps.length nc],.agg #[.int .i64 m.guest,.slice rb m.root.length rd,.slice sb m.slots.length sd,.slice fb m.refs.length fd,.slice nb m.snaps.length nd]] w fun r w'=>r=.returned (.bool true)∧Below w.heap.size w w':=by
 have b0:Below w.heap.size w ((w.alloc (.cells #[.int .i64 m.guest,.slice ra m.root.length rc,.slice sa m.slots.length sc,.slice fa m.refs.length fc,.slice na m.snaps.length nc] 27)).alloc (.cells #[.int .i64 m.guest,.slice rb m.root.length rd,.slice sb m.slots.length sd,.slice fb m.refs.length fd,.slice nb m.snaps.length nd] 27)):=((Below.refl _ _).alloc (Nat.le_refl _) _).alloc (by simp) _
 have m0:((w.alloc (.cells #[.int .i64 m.guest,.slice ra m.root.length rc,.slice sa m.slots.length sc,.slice fa m.refs.length fc,.slice na m.snaps.length nc] 27)).alloc (.cells #[.int .i64 m.guest,.slice rb m.root.length rd,.slice sb m.slots.length sd,.slice fb m.refs.length fd,.slice nb m.snaps.length nd] 27)).heap[w.heap.size]? = some (.cells #[.int .i64 m.guest,.slice ra m.root.length rc,.slice sa m.slots.length sc,.slice fa m.refs.length fc,.slice na m.snaps.length nc] 27):=cells_alloc (World.alloc_heap_new _ _) _
 have m1:((w.alloc (.cells #[.int .i64 m.guest,.slice ra m.root.length rc,.slice sa m.slots.length sc,.slice fa m.refs.length fc,.slice na m.snaps.length nc] 27)).alloc (.cells #[.int .i64 m.guest,.slice rb m.root.length rd,.slice sb m.slots.length sd,.slice fb m.refs.length fd,.slice nb m.snaps.length nd] 27)).heap[w.heap.size+1]? = some (.cells #[.int .i64 m.guest,.slice rb m.root.length rd,.slice sb m.slots.length sd,.slice fb m.refs.length fd,.slice nb m.snaps.length nd] 27):=by have:=World.alloc_heap_new (w.alloc (.cells #[.int .i64 m.guest,.slice ra m.root.length rc,.slice sa m.slots.length sc,.slice fa m.refs.length fc,.slice na m.snaps.length nc] 27)) (.cells #[.int .i64 m.guest,.slice rb m.root.length rd,.slice sb m.slots.length sd,.slice fb m.refs.length fd,.slice nb m.snaps.length nd] 27);simpa using this
 obtain⟨c0,c1,c2,c3,c4⟩:=five m0
 obtain⟨d0,d1,d2,d3,d4⟩:=five m1
 have HR:=same_any (h1.below b0) (k1.below b0)
 have HF:=fun W (hW:Below w.heap.size w W)=>same_any (h3.below hW) (k3.below hW)
 have HS:Hid (Slots w (.slice sa m.slots.length sc) m.slots∧Slots w (.slice sb m.slots.length sd) m.slots∧Snaps w (.slice na m.snaps.length nc) m.snaps∧Snaps w (.slice nb m.snaps.length nd) m.snaps):=⟨h2,k2,h4,k4⟩
 have HL:Hid (m.slots.length≤9223372036854775807∧m.snaps.length≤9223372036854775807):=⟨h2.small,h4.small⟩
 clear h1 h2 h3 h4 k1 k2 k3 k4
 go_enter Tryz.func15,Tryz.ntmps15
 go_wp2_with (first
  | (go_at_call 37;refine (HF _ bw1).mono ?_;rintro e w2 ⟨rfl,b2⟩;have m4:=cells_below m2 b2 (szH m2);have m5:=cells_below m3 b2 (szH m3);obtain⟨g0,g1,g2,g3,g4⟩:=five m4;obtain⟨i0,i1,i2,i3,i4⟩:=five m5;have bw2:=Below.on bw1 b2)
  | (go_at_call 37;refine HR.mono ?_;rintro e w1 ⟨rfl,b1⟩;have m2:=cells_below m0 b1 (by simp <;> omega);have m3:=cells_below m1 b1 (by simp <;> omega);obtain⟨e0,e1,e2,e3,e4⟩:=five m2;obtain⟨f0,f1,f2,f3,f4⟩:=five m3;have bw1:=Below.on b0 b1))
 have HB:Hid (w2.heap[w.heap.size]? = some (.cells #[.int .i64 m.guest,.slice ra m.root.length rc,.slice sa m.slots.length sc,.slice fa m.refs.length fc,.slice na m.snaps.length nc] 27)∧w2.heap[w.heap.size+1]? = some (.cells #[.int .i64 m.guest,.slice rb m.root.length rd,.slice sb m.slots.length sd,.slice fb m.refs.length fd,.slice nb m.snaps.length nd] 27)∧Below w.heap.size w w2):=⟨m4,m5,bw2⟩
 clear c0 c1 c2 c3 c4 d0 d1 d2 d3 d4 e0 e1 e2 e3 e4 f0 f1 f2 f3 f4 g0 g1 g2 g3 g4 i0 i1 i2 i3 i4 m0 m1 m2 m3 m4 m5 b0 b1 b2 bw1 bw2 HR HF
 go_loopw [5] (fun i wr=>∃k:Nat,k≤m.slots.length∧i=.int .i64 k∧Hid (wr.heap[w.heap.size]? = some (.cells #[.int .i64 m.guest,.slice ra m.root.length rc,.slice sa m.slots.length sc,.slice fa m.refs.length fc,.slice na m.snaps.length nc] 27)∧wr.heap[w.heap.size+1]? = some (.cells #[.int .i64 m.guest,.slice rb m.root.length rd,.slice sb m.slots.length sd,.slice fb m.refs.length fd,.slice nb m.snaps.length nd] 27)∧Below w.heap.size w wr)) (fun i _=>m.slots.length - (intOf i).toNat)
 case atStart=>exact⟨0,Nat.zero_le _,rfl,HB⟩
 case round=>
  obtain⟨k,hk,rfl,HC⟩:=hrel
  obtain⟨mA,mB,hb⟩:=HC.out
  obtain⟨c0,c1,c2,c3,c4⟩:=five mA
  obtain⟨d0,d1,d2,d3,d4⟩:=five mB
  have hL:=HL.out.1
  by_cases hlk:k<m.slots.length
  ·have hki:(k:Int)<(m.slots.length:Int):=by omega
   have hL1:(k:Int)+1≤9223372036854775807:=by omega
   obtain⟨pb,po,pc,e,_,hpl,hps⟩:=HS.out.1.open (by omega)
   simp at e
   obtain⟨rfl,rfl⟩:=e
   obtain⟨qb,qo,qc,e,_,hql,hqs⟩:=HS.out.2.1.open (by omega)
   simp at e
   obtain⟨rfl,rfl⟩:=e
   obtain⟨s,hs⟩:∃s,m.slots[k]=s:=⟨_,rfl⟩
   obtain⟨kk,dd,tt⟩:=s
   obtain⟨tv,p0,p1,p2,ps⟩:=hps k hlk
   obtain⟨uv,q0,q1,q2,qs⟩:=hqs k hlk
   rw [hs] at p0 p1 ps q0 q1 qs
   obtain⟨ta,tc,rfl⟩:=ps.form
   obtain⟨ua,uc,rfl⟩:=qs.form
   have p0:wr.cell? ⟨pb,po+k*3,none⟩=some (.int .i64 kk):=(hb.cell (p:=⟨pb,po+k*3,none⟩) hpl).trans p0
   have p1:wr.cell? ⟨pb,po+k*3+1,none⟩=some (.string dd):=(hb.cell (p:=⟨pb,po+k*3+1,none⟩) hpl).trans p1
   have p2:wr.cell? ⟨pb,po+k*3+1+1,none⟩=some (.slice ta tt.length tc):=(hb.cell (p:=⟨pb,po+k*3+1+1,none⟩) hpl).trans p2
   have q0:wr.cell? ⟨qb,qo+k*3,none⟩=some (.int .i64 kk):=(hb.cell (p:=⟨qb,qo+k*3,none⟩) hql).trans q0
   have q1:wr.cell? ⟨qb,qo+k*3+1,none⟩=some (.string dd):=(hb.cell (p:=⟨qb,qo+k*3+1,none⟩) hql).trans q1
   have q2:wr.cell? ⟨qb,qo+k*3+1+1,none⟩=some (.slice ua tt.length uc):=(hb.cell (p:=⟨qb,qo+k*3+1+1,none⟩) hql).trans q2
   have hcall:=same_any (w:=wr.drew) (ps.below (to_drew hb)) (qs.below (to_drew hb))
   have hpw:pb<wr.heap.size:=Nat.lt_of_lt_of_le hpl hb.size
   have hqw:qb<wr.heap.size:=Nat.lt_of_lt_of_le hql hb.size
   have HN:Hid (∀W,Below wr.heap.size wr W→W.heap[w.heap.size]? = some (.cells #[.int .i64 m.guest,.slice ra m.root.length rc,.slice (some ⟨pb,po,none⟩) m.slots.length sc,.slice fa m.refs.length fc,.slice na m.snaps.length nc] 27)∧W.heap[w.heap.size+1]? = some (.cells #[.int .i64 m.guest,.slice rb m.root.length rd,.slice (some ⟨qb,qo,none⟩) m.slots.length sd,.slice fb m.refs.length fd,.slice nb m.snaps.length nd] 27)∧Below w.heap.size w W):=fun W hW=>⟨cells_below mA hW (szH mA),cells_below mB hW (szH mB),Below.on hb hW⟩
   have HK:Hid (∀W,Below wr.heap.size wr W→W.cell? ⟨w.heap.size,0+1+1,none⟩=some (.slice (some ⟨pb,po,none⟩) m.slots.length sc)∧W.cell? ⟨w.heap.size+1,0+1+1,none⟩=some (.slice (some ⟨qb,qo,none⟩) m.slots.length sd)∧W.cell? ⟨pb,po+k*3,none⟩=some (.int .i64 kk)∧W.cell? ⟨pb,po+k*3+1,none⟩=some (.string dd)∧W.cell? ⟨pb,po+k*3+1+1,none⟩=some (.slice ta tt.length tc)∧W.cell? ⟨qb,qo+k*3,none⟩=some (.int .i64 kk)∧W.cell? ⟨qb,qo+k*3+1,none⟩=some (.string dd)∧W.cell? ⟨qb,qo+k*3+1+1,none⟩=some (.slice ua tt.length uc)):=fun W hW=>⟨(hW.cell (p:=⟨w.heap.size,0+1+1,none⟩) (szH mA)).trans c2,(hW.cell (p:=⟨w.heap.size+1,0+1+1,none⟩) (szH mB)).trans d2,(hW.cell (p:=⟨pb,po+k*3,none⟩) hpw).trans p0,(hW.cell (p:=⟨pb,po+k*3+1,none⟩) hpw).trans p1,(hW.cell (p:=⟨pb,po+k*3+1+1,none⟩) hpw).trans p2,(hW.cell (p:=⟨qb,qo+k*3,none⟩) hqw).trans q0,(hW.cell (p:=⟨qb,qo+k*3+1,none⟩) hqw).trans q1,(hW.cell (p:=⟨qb,qo+k*3+1+1,none⟩) hqw).trans q2⟩
   clear hs mA mB ps qs hps hqs
   go_wp2_with fail
   go_region_held3 (fun W=>W.cell? ⟨w.heap.size,0+1+1,none⟩=some (.slice (some ⟨pb,po,none⟩) m.slots.length sc)∧W.cell? ⟨w.heap.size+1,0+1+1,none⟩=some (.slice (some ⟨qb,qo,none⟩) m.slots.length sd)∧W.cell? ⟨pb,po+k*3,none⟩=some (.int .i64 kk)∧W.cell? ⟨pb,po+k*3+1,none⟩=some (.string dd)∧W.cell? ⟨pb,po+k*3+1+1,none⟩=some (.slice ta tt.length tc)∧W.cell? ⟨qb,qo+k*3,none⟩=some (.int .i64 kk)∧W.cell? ⟨qb,qo+k*3+1,none⟩=some (.string dd)∧W.cell? ⟨qb,qo+k*3+1+1,none⟩=some (.slice ua tt.length uc)) (first | exact HK.out _ b3 | exact HK.out _ (to_drew (Below.refl _ _)))
    (first | (go_at_call 37;refine hcall.mono ?_;rintro e w3 ⟨rfl,b3⟩;have b3:=below_drew b3))
   go_wp2_with fail
   go_roundw
   case rel=>exact⟨k+1,by omega,by go_num,HN.out _ b3⟩
   case measure=>simp [intOf];omega
  ·have ek:k=m.slots.length:=by omega
   subst ek
   obtain⟨x,hrn⟩:∃X,X=wr:=⟨_,rfl⟩
   subst hrn
   go_wp2_with fail
   clear c0 c1 c2 c3 c4 d0 d1 d2 d3 d4 mA mB hb hL
   go_loopw [6] (fun i wr=>∃l:Nat,l≤m.snaps.length∧i=.int .i64 l∧Hid (wr.heap[w.heap.size]? = some (.cells #[.int .i64 m.guest,.slice ra m.root.length rc,.slice sa m.slots.length sc,.slice fa m.refs.length fc,.slice na m.snaps.length nc] 27)∧wr.heap[w.heap.size+1]? = some (.cells #[.int .i64 m.guest,.slice rb m.root.length rd,.slice sb m.slots.length sd,.slice fb m.refs.length fd,.slice nb m.snaps.length nd] 27)∧Below w.heap.size w wr)) (fun i _=>m.snaps.length - (intOf i).toNat)
   case atStart=>exact⟨0,Nat.zero_le _,rfl,HC⟩
   case round=>
    obtain⟨l,hl,rfl,HD⟩:=hrel
    obtain⟨mA,mB,hb⟩:=HD.out
    obtain⟨c0,c1,c2,c3,c4⟩:=five mA
    obtain⟨d0,d1,d2,d3,d4⟩:=five mB
    have hL:=HL.out.2
    by_cases hll:l<m.snaps.length
    ·have hki:(l:Int)<(m.snaps.length:Int):=by omega
     have hL1:(l:Int)+1≤9223372036854775807:=by omega
     obtain⟨pb,po,pc,e,_,hpl,hps⟩:=HS.out.2.2.1.open (by omega)
     simp at e
     obtain⟨rfl,rfl⟩:=e
     obtain⟨qb,qo,qc,e,_,hql,hqs⟩:=HS.out.2.2.2.open (by omega)
     simp at e
     obtain⟨rfl,rfl⟩:=e
     obtain⟨s,hs⟩:∃s,m.snaps[l]=s:=⟨_,rfl⟩
     obtain⟨nm,sg,tt⟩:=s
     obtain⟨tv,p0,p1,p2,ps⟩:=hps l hll
     obtain⟨uv,q0,q1,q2,qs⟩:=hqs l hll
     rw [hs] at p0 p1 ps q0 q1 qs
     obtain⟨ta,tc,rfl⟩:=ps.form
     obtain⟨ua,uc,rfl⟩:=qs.form
     have p0:wr.cell? ⟨pb,po+l*3,none⟩=some (.string nm):=(hb.cell (p:=⟨pb,po+l*3,none⟩) hpl).trans p0
     have p1:wr.cell? ⟨pb,po+l*3+1,none⟩=some (.int .i64 sg):=(hb.cell (p:=⟨pb,po+l*3+1,none⟩) hpl).trans p1
     have p2:wr.cell? ⟨pb,po+l*3+1+1,none⟩=some (.slice ta tt.length tc):=(hb.cell (p:=⟨pb,po+l*3+1+1,none⟩) hpl).trans p2
     have q0:wr.cell? ⟨qb,qo+l*3,none⟩=some (.string nm):=(hb.cell (p:=⟨qb,qo+l*3,none⟩) hql).trans q0
     have q1:wr.cell? ⟨qb,qo+l*3+1,none⟩=some (.int .i64 sg):=(hb.cell (p:=⟨qb,qo+l*3+1,none⟩) hql).trans q1
     have q2:wr.cell? ⟨qb,qo+l*3+1+1,none⟩=some (.slice ua tt.length uc):=(hb.cell (p:=⟨qb,qo+l*3+1+1,none⟩) hql).trans q2
     have hcall:=same_any (w:=wr.drew) (ps.below (to_drew hb)) (qs.below (to_drew hb))
     have hpw:pb<wr.heap.size:=Nat.lt_of_lt_of_le hpl hb.size
     have hqw:qb<wr.heap.size:=Nat.lt_of_lt_of_le hql hb.size
     have HN:Hid (∀W,Below wr.heap.size wr W→W.heap[w.heap.size]? = some (.cells #[.int .i64 m.guest,.slice ra m.root.length rc,.slice sa m.slots.length sc,.slice fa m.refs.length fc,.slice (some ⟨pb,po,none⟩) m.snaps.length nc] 27)∧W.heap[w.heap.size+1]? = some (.cells #[.int .i64 m.guest,.slice rb m.root.length rd,.slice sb m.slots.length sd,.slice fb m.refs.length fd,.slice (some ⟨qb,qo,none⟩) m.snaps.length nd] 27)∧Below w.heap.size w W):=fun W hW=>⟨cells_below mA hW (szH mA),cells_below mB hW (szH mB),Below.on hb hW⟩
     have HK:Hid (∀W,Below wr.heap.size wr W→W.cell? ⟨w.heap.size,0+1+1+1+1,none⟩=some (.slice (some ⟨pb,po,none⟩) m.snaps.length nc)∧W.cell? ⟨w.heap.size+1,0+1+1+1+1,none⟩=some (.slice (some ⟨qb,qo,none⟩) m.snaps.length nd)∧W.cell? ⟨pb,po+l*3,none⟩=some (.string nm)∧W.cell? ⟨pb,po+l*3+1,none⟩=some (.int .i64 sg)∧W.cell? ⟨pb,po+l*3+1+1,none⟩=some (.slice ta tt.length tc)∧W.cell? ⟨qb,qo+l*3,none⟩=some (.string nm)∧W.cell? ⟨qb,qo+l*3+1,none⟩=some (.int .i64 sg)∧W.cell? ⟨qb,qo+l*3+1+1,none⟩=some (.slice ua tt.length uc)):=fun W hW=>⟨(hW.cell (p:=⟨w.heap.size,0+1+1+1+1,none⟩) (szH mA)).trans c4,(hW.cell (p:=⟨w.heap.size+1,0+1+1+1+1,none⟩) (szH mB)).trans d4,(hW.cell (p:=⟨pb,po+l*3,none⟩) hpw).trans p0,(hW.cell (p:=⟨pb,po+l*3+1,none⟩) hpw).trans p1,(hW.cell (p:=⟨pb,po+l*3+1+1,none⟩) hpw).trans p2,(hW.cell (p:=⟨qb,qo+l*3,none⟩) hqw).trans q0,(hW.cell (p:=⟨qb,qo+l*3+1,none⟩) hqw).trans q1,(hW.cell (p:=⟨qb,qo+l*3+1+1,none⟩) hqw).trans q2⟩
     clear hs mA mB ps qs hps hqs
     go_wp2_with fail
     go_region_held3 (fun W=>W.cell? ⟨w.heap.size,0+1+1+1+1,none⟩=some (.slice (some ⟨pb,po,none⟩) m.snaps.length nc)∧W.cell? ⟨w.heap.size+1,0+1+1+1+1,none⟩=some (.slice (some ⟨qb,qo,none⟩) m.snaps.length nd)∧W.cell? ⟨pb,po+l*3,none⟩=some (.string nm)∧W.cell? ⟨pb,po+l*3+1,none⟩=some (.int .i64 sg)∧W.cell? ⟨pb,po+l*3+1+1,none⟩=some (.slice ta tt.length tc)∧W.cell? ⟨qb,qo+l*3,none⟩=some (.string nm)∧W.cell? ⟨qb,qo+l*3+1,none⟩=some (.int .i64 sg)∧W.cell? ⟨qb,qo+l*3+1+1,none⟩=some (.slice ua tt.length uc)) (first | exact HK.out _ b3 | exact HK.out _ (to_drew (Below.refl _ _)))
      (first | (go_at_call 37;refine hcall.mono ?_;rintro e w3 ⟨rfl,b3⟩;have b3:=below_drew b3))
     go_wp2_with fail
     go_roundw
     case rel=>exact⟨l+1,by omega,by go_num,HN.out _ b3⟩
     case measure=>simp [intOf];omega
    ·have el:l=m.snaps.length:=by omega
     subst el
     go_wp2_with fail
     go_ret
     exact⟨rfl,hb⟩
theorem sameI_is {w:World}{v u:Value}{m:ImgD}(h:Img w v m)(k:Img w u m):Calls Tryz.prog 15 #[v,u] w fun r w'=>r=.returned (.bool true)∧Below w.heap.size w w':=by
 obtain⟨ra,rc,sa,sc,fa,fc,na,nc,rfl,h1,h2,h3,h4⟩:=h.parts
 obtain⟨rb,rd,sb,sd,fb,fd,nb,nd,rfl,k1,k2,k3,k4⟩:=k.parts
 exact sameI_at m ra rc sa sc fa fc na nc rb rd sb sd fb fd nb nd w h1 h2 h3 h4 k1 k2 k3 k4
end Go.Proofs.YtehleeibgkpjmafGreat
