/- Texts joined: WiV, WbK, WiO, WiC. -/
import Derived.Test.YtehleeibgkpjmagWireWritesJ9
import Derived.Deep.RegionHeld
import Derived.Test.YtehleeibgkpjmagWireWritesJ7
import Derived.Test.YtehleeibgkpjmagWireWritesJ6
import Derived.Deep.CutRange
import Derived.Deep.RegionLaw
set_option linter.unusedVariables false
set_option linter.unusedSimpArgs false
/- wireBegun answers true. -/
namespace Go.Proofs.Ytehleeibgkpjmag
open Go.RowKit Go.Shelf Go.Lib
set_option maxRecDepth 20000
set_option linter.unusedVariables false
set_option linter.unusedSimpArgs false

theorem wb_len : (imgB pD).length = 32 := by decide +kernel
theorem wb_more : parse (imgB pD ++ [120]) = none := by kernel_rfl
theorem wb_read {S : ByteArray} (hS : bstr (imgB pD) = S) : rdE S = (pD, 0) := by
  have hb : bytes S = imgB pD := by rw [← hS]; exact bytes_bstr _
  refine rdE_some ?_ (by rw [hb]; exact rdO_of pD_check)
  rw [← hS, bstr_size, wb_len]; omega
theorem wb_bad {S : ByteArray} (hS : bstr (imgB pD) = S) : rdE (S ++ ⟨#[120]⟩) = (imgZ, 1) := by
  have hb : bytes (S ++ ⟨#[120]⟩) = imgB pD ++ [120] := by rw [← hS]; unfold bytes bstr; simp
  refine rdE_none ?_ (by rw [hb]; unfold rdO; rw [wb_more]; rfl)
  rw [ByteArray.size_append, ← hS, bstr_size, wb_len]; show ¬ 4096 < 32 + 1; omega
set_option maxHeartbeats 4000000 in
theorem wireBegun_any (w : World) : Calls Try.prog 15 #[] w fun r w' => r = .returned (.bool true) ∧ Below w.heap.size w w' := by
  obtain ⟨S, hS⟩ : ∃ x, bstr (imgB pD) = x := ⟨_, rfl⟩
  have HS := Hid_mkG hS
  have h32 : ((S.size : Int) == 32) = true := by rw [← hS, bstr_size, wb_len]; rfl
  have hc32 : (S.size : Int) = 32 := by simpa using h32
  have hcc : ¬ (9223372036854775807 : Int) < (S.size : Int) + 1 := by omega
  have hcc2 : (S.size : Int) + 1 ≤ 9223372036854775807 := by omega
  clear hc32
  clear hS
  go_enter Try.func15, Try.ntmps15
  go_wp2_with fail
  refine (pair_is w).mono ?_
  rintro e w1 ⟨⟨v, rfl, I1⟩, b1⟩
  have I1 := Hid_mkG (show Img w1 v pD from I1)
  have B1 := Hid_mkG b1
  clear b1
  dsimp only
  go_wp2_with fail
  refine (wwr_is I1.out (S := S) (E := 0) (by unfold wiV; rw [if_pos pD_check]; exact HS.out) pD_check).mono ?_
  rintro e w2 ⟨rfl, b2⟩
  have B2 := Hid_mkG (Below.on B1.out b2)
  clear b2 I1
  have HR := Hid_mkG (show Calls Try.prog 14 #[.string S] w2 (AnsR w2 pD 0) by have := wread_is S w2; rw [wb_read HS.out] at this; exact this)
  go_wp2_with fail
  refine HR.out.mono ?_
  rintro e w3 ⟨d0, e0, d1, e1, d2, e2, d3, e3, rfl, I3, b3⟩
  have B3 := Hid_mkG (Below.on B2.out b3)
  have I4 := Hid_mkG (I3.below ((Below.refl w3.heap.size w3).alloc (Nat.le_refl _) (.cells #[.int .i64 pD.guest, .slice d0 pD.root.length e0, .slice d1 pD.slots.length e1, .slice d2 pD.refs.length e2, .slice d3 pD.snaps.length e3] 26)))
  have k4 : (w3.alloc (.cells #[.int .i64 pD.guest, .slice d0 pD.root.length e0, .slice d1 pD.slots.length e1, .slice d2 pD.refs.length e2, .slice d3 pD.snaps.length e3] 26)).heap[w3.heap.size]? = some (.cells #[.int .i64 pD.guest, .slice d0 pD.root.length e0, .slice d1 pD.slots.length e1, .slice d2 pD.refs.length e2, .slice d3 pD.snaps.length e3] 26) := World.alloc_heap_new _ _
  have B4 := Hid_mkG (B3.out.alloc B3.out.size (.cells #[.int .i64 pD.guest, .slice d0 pD.root.length e0, .slice d1 pD.slots.length e1, .slice d2 pD.refs.length e2, .slice d3 pD.snaps.length e3] 26))
  have hz : (w3.alloc (.cells #[.int .i64 pD.guest, .slice d0 pD.root.length e0, .slice d1 pD.slots.length e1, .slice d2 pD.refs.length e2, .slice d3 pD.snaps.length e3] 26)).heap.size = w3.heap.size + 1 := by simp
  have K4 := Hid_mkG (And.intro k4 hz)
  have HR2 := Hid_mkG (show Calls Try.prog 14 #[.string (S ++ ⟨#[120]⟩)] (w3.alloc (.cells #[.int .i64 pD.guest, .slice d0 pD.root.length e0, .slice d1 pD.slots.length e1, .slice d2 pD.refs.length e2, .slice d3 pD.snaps.length e3] 26)) (AnsR (w3.alloc (.cells #[.int .i64 pD.guest, .slice d0 pD.root.length e0, .slice d1 pD.slots.length e1, .slice d2 pD.refs.length e2, .slice d3 pD.snaps.length e3] 26)) imgZ 1) by have := wread_is (S ++ ⟨#[120]⟩) (w3.alloc (.cells #[.int .i64 pD.guest, .slice d0 pD.root.length e0, .slice d1 pD.slots.length e1, .slice d2 pD.refs.length e2, .slice d3 pD.snaps.length e3] 26)); rw [wb_bad HS.out] at this; exact this)
  clear b3 I3 HR hz k4
  go_wp2_with fail
  refine HR2.out.mono ?_
  rintro e w5 ⟨f0, g0, f1, g1, f2, g2, f3, g3, rfl, _, b5⟩
  have B5 := Hid_mkG (Below.on B4.out b5)
  have I5 := Hid_mkG (I4.out.below b5)
  have k5 := cells_below K4.out.1 b5 (Array.getElem?_eq_some_iff.1 K4.out.1).1
  have K5 := Hid_mkG k5
  clear b5 k5 HR2 I4 K4
  obtain ⟨wd, hwd⟩ : ∃ X, (w5.alloc (.cells #[.int .i64 imgZ.guest, .slice f0 imgZ.root.length g0, .slice f1 imgZ.slots.length g1, .slice f2 imgZ.refs.length g2, .slice f3 imgZ.snaps.length g3] 26)).drew = X := ⟨_, rfl⟩
  have kd : wd.heap[w3.heap.size]? = some (.cells #[.int .i64 pD.guest, .slice d0 pD.root.length e0, .slice d1 pD.slots.length e1, .slice d2 pD.refs.length e2, .slice d3 pD.snaps.length e3] 26) := by rw [← hwd]; exact cells_alloc K5.out _
  have Bd := Hid_mkG (show Below w.heap.size w wd by rw [← hwd]; exact to_drew (B5.out.alloc B5.out.size _))
  have Id := Hid_mkG (show Img wd (.agg #[.int .i64 pD.guest, .slice d0 pD.root.length e0, .slice d1 pD.slots.length e1, .slice d2 pD.refs.length e2, .slice d3 pD.snaps.length e3]) pD by rw [← hwd]; exact I5.out.below (to_drew ((Below.refl _ _).alloc (Nat.le_refl _) _)))
  have HWd := Hid_mkG hwd
  clear hwd
  go_upto_region 4 with fail
  clear hcc hcc2
  refine wp_region_held_drew (S := (fun X : World => X.heap[w3.heap.size]? = some (.cells #[.int .i64 pD.guest, .slice d0 pD.root.length e0, .slice d1 pD.slots.length e1, .slice d2 pD.refs.length e2, .slice d3 pD.snaps.length e3] 26))) (by kernel_rfl) (cells_alloc K5.out _) (fun hHeld => ?_)
  rw [HWd.out] at hHeld ⊢
  refine wpAnyH_take (i := 0) (v := .int .i64 0) rfl (by kernel_rfl) (by kernel_rfl) (by kernel_rfl) (fun _ _ _ h => h) (Or.inl ⟨by rfl, fun w' hSw => by obtain ⟨j0, j1, j2, j3, j4⟩ := five hSw; go_simp⟩) hHeld ?_
  simp only [Act.put, List.getElem_toArray, List.getElem_cons_succ, List.getElem_cons_zero, List.setIfInBounds_toArray, List.set_cons_zero, List.set_cons_succ]
  refine wpAnyH_take (i := 1) (v := .bool true) rfl (by kernel_rfl) (by kernel_rfl) (by kernel_rfl) (fun _ _ _ h => h) (Or.inl ⟨by rfl, fun w' hSw => by obtain ⟨j0, j1, j2, j3, j4⟩ := five hSw; go_simp⟩) hHeld ?_
  simp only [Act.put, List.getElem_toArray, List.getElem_cons_succ, List.getElem_cons_zero, List.setIfInBounds_toArray, List.set_cons_zero, List.set_cons_succ]
  refine wpAnyH_take (i := 2) (v := .bool true) rfl (by kernel_rfl) (by kernel_rfl) (by kernel_rfl) (fun _ _ _ h => h) (Or.inl ⟨by rfl, fun w' hSw => by obtain ⟨j0, j1, j2, j3, j4⟩ := five hSw; go_simp⟩) hHeld ?_
  simp only [Act.put, List.getElem_toArray, List.getElem_cons_succ, List.getElem_cons_zero, List.setIfInBounds_toArray, List.set_cons_zero, List.set_cons_succ]
  refine wpAnyH_take (i := 3) (v := .int .i64 0) rfl (by kernel_rfl) (by kernel_rfl) (by kernel_rfl) (fun _ _ _ h => h) (Or.inl ⟨by rfl, fun w' hSw => by obtain ⟨j0, j1, j2, j3, j4⟩ := five hSw; go_simp⟩) hHeld ?_
  simp only [Act.put, List.getElem_toArray, List.getElem_cons_succ, List.getElem_cons_zero, List.setIfInBounds_toArray, List.set_cons_zero, List.set_cons_succ]
  refine wpAnyH_take (i := 4) (v := .bool true) rfl (by kernel_rfl) (by kernel_rfl) (by kernel_rfl) (fun _ _ _ h => h) (Or.inl ⟨by rfl, fun w' hSw => by obtain ⟨j0, j1, j2, j3, j4⟩ := five hSw; go_simp⟩) hHeld ?_
  simp only [Act.put, List.getElem_toArray, List.getElem_cons_succ, List.getElem_cons_zero, List.setIfInBounds_toArray, List.set_cons_zero, List.set_cons_succ]
  refine wpAnyH_take (i := 5) (v := .bool true) rfl (by kernel_rfl) (by kernel_rfl) (by kernel_rfl) (fun _ _ _ h => h) (Or.inl ⟨by rfl, fun w' hSw => by obtain ⟨j0, j1, j2, j3, j4⟩ := five hSw; go_simp⟩) hHeld ?_
  simp only [Act.put, List.getElem_toArray, List.getElem_cons_succ, List.getElem_cons_zero, List.setIfInBounds_toArray, List.set_cons_zero, List.set_cons_succ]
  refine wpAnyH_take (i := 6) (v := .bool true) rfl (by kernel_rfl) (by kernel_rfl) (by kernel_rfl) (fun _ _ _ h => h) (Or.inl ⟨by rfl, fun w' hSw => by obtain ⟨j0, j1, j2, j3, j4⟩ := five hSw; go_simp⟩) hHeld ?_
  simp only [Act.put, List.getElem_toArray, List.getElem_cons_succ, List.getElem_cons_zero, List.setIfInBounds_toArray, List.set_cons_zero, List.set_cons_succ]
  refine wpAnyH_take (i := 7) (v := .int .i64 1) rfl (by kernel_rfl) (by kernel_rfl) (by kernel_rfl) (fun _ _ _ h => h) (Or.inl ⟨by rfl, fun w' hSw => by obtain ⟨j0, j1, j2, j3, j4⟩ := five hSw; go_simp⟩) hHeld ?_
  simp only [Act.put, List.getElem_toArray, List.getElem_cons_succ, List.getElem_cons_zero, List.setIfInBounds_toArray, List.set_cons_zero, List.set_cons_succ]
  refine wpAnyH_take (i := 8) (v := .bool true) rfl (by kernel_rfl) (by kernel_rfl) (by kernel_rfl) (fun _ _ _ h => h) (Or.inl ⟨by rfl, fun w' hSw => by obtain ⟨j0, j1, j2, j3, j4⟩ := five hSw; go_simp⟩) hHeld ?_
  simp only [Act.put, List.getElem_toArray, List.getElem_cons_succ, List.getElem_cons_zero, List.setIfInBounds_toArray, List.set_cons_zero, List.set_cons_succ]
  refine wpAnyH_take (i := 9) (v := .bool true) rfl (by kernel_rfl) (by kernel_rfl) (by kernel_rfl) (fun _ _ _ h => h) (Or.inl ⟨by rfl, fun w' hSw => by obtain ⟨j0, j1, j2, j3, j4⟩ := five hSw; go_simp⟩) hHeld ?_
  simp only [Act.put, List.getElem_toArray, List.getElem_cons_succ, List.getElem_cons_zero, List.setIfInBounds_toArray, List.set_cons_zero, List.set_cons_succ]
  refine wpAnyH_take (i := 10) (v := .bool true) rfl (by kernel_rfl) (by kernel_rfl) (by kernel_rfl) (fun _ _ _ h => h) (Or.inl ⟨by rfl, fun w' hSw => by obtain ⟨j0, j1, j2, j3, j4⟩ := five hSw; go_simp⟩) hHeld ?_
  simp only [Act.put, List.getElem_toArray, List.getElem_cons_succ, List.getElem_cons_zero, List.setIfInBounds_toArray, List.set_cons_zero, List.set_cons_succ]
  refine wpAnyH_take (i := 11) (v := .string S) rfl (by kernel_rfl) (by kernel_rfl) (by kernel_rfl) (fun _ _ _ h => h) (Or.inl ⟨by rfl, fun w' hSw => by obtain ⟨j0, j1, j2, j3, j4⟩ := five hSw; go_simp⟩) hHeld ?_
  simp only [Act.put, List.getElem_toArray, List.getElem_cons_succ, List.getElem_cons_zero, List.setIfInBounds_toArray, List.set_cons_zero, List.set_cons_succ]
  refine wpAnyH_take (i := 12) (v := .int .i64 (S.size : Int)) rfl (by kernel_rfl) (by kernel_rfl) (by kernel_rfl) (fun _ _ _ h => h) (Or.inl ⟨by rfl, fun w' hSw => by obtain ⟨j0, j1, j2, j3, j4⟩ := five hSw; go_simp⟩) hHeld ?_
  simp only [Act.put, List.getElem_toArray, List.getElem_cons_succ, List.getElem_cons_zero, List.setIfInBounds_toArray, List.set_cons_zero, List.set_cons_succ]
  refine wpAnyH_take (i := 13) (v := .bool true) rfl (by kernel_rfl) (by kernel_rfl) (by kernel_rfl) (fun _ _ _ h => h) (Or.inl ⟨by rfl, fun w' hSw => by obtain ⟨j0, j1, j2, j3, j4⟩ := five hSw; go_simp⟩) hHeld ?_
  simp only [Act.put, List.getElem_toArray, List.getElem_cons_succ, List.getElem_cons_zero, List.setIfInBounds_toArray, List.set_cons_zero, List.set_cons_succ]
  refine wpAnyH_take (i := 14) (v := .bool true) rfl (by kernel_rfl) (by kernel_rfl) (by kernel_rfl) (fun _ _ _ h => h) (Or.inl ⟨by rfl, fun w' hSw => by obtain ⟨j0, j1, j2, j3, j4⟩ := five hSw; go_simp⟩) hHeld ?_
  simp only [Act.put, List.getElem_toArray, List.getElem_cons_succ, List.getElem_cons_zero, List.setIfInBounds_toArray, List.set_cons_zero, List.set_cons_succ]
  refine wpAnyH_take (i := 15) (v := .bool true) rfl (by kernel_rfl) (by kernel_rfl) (by kernel_rfl) (fun _ _ _ h => h) (Or.inl ⟨by rfl, fun w' hSw => by obtain ⟨j0, j1, j2, j3, j4⟩ := five hSw; go_simp⟩) hHeld ?_
  simp only [Act.put, List.getElem_toArray, List.getElem_cons_succ, List.getElem_cons_zero, List.setIfInBounds_toArray, List.set_cons_zero, List.set_cons_succ]
  refine wpAnyH_take (i := 16) (v := .agg #[.int .i64 pD.guest, .slice d0 pD.root.length e0, .slice d1 pD.slots.length e1, .slice d2 pD.refs.length e2, .slice d3 pD.snaps.length e3]) rfl (by kernel_rfl) (by kernel_rfl) (by kernel_rfl) (fun _ _ _ h => h) (Or.inl ⟨by rfl, fun w' hSw => by obtain ⟨j0, j1, j2, j3, j4⟩ := five hSw; go_simp⟩) hHeld ?_
  simp only [Act.put, List.getElem_toArray, List.getElem_cons_succ, List.getElem_cons_zero, List.setIfInBounds_toArray, List.set_cons_zero, List.set_cons_succ]
  refine wpAnyH_ready (rs := [17]) (by kernel_rfl) (by simp) ?_
  refine AllReadyH.cons rfl (fun K hK => ?_) AllReadyH.nil
  clear hHeld
  simp only [Act.put, List.getElem_toArray, List.getElem_cons_succ, List.getElem_cons_zero, List.setIfInBounds_toArray, List.set_cons_zero, List.set_cons_succ]
  rw [if_pos (by rfl)]
  go_wp2_with fail
  refine (pair_is wd).mono ?_
  rintro e w6 ⟨⟨v2, rfl, I6⟩, b6⟩
  have I6 := Hid_mkG (show Img w6 v2 pD from I6)
  have B6 := Hid_mkG (Below.on Bd.out b6)
  have J6 := Hid_mkG (Id.out.below b6)
  have k6 := cells_below kd b6 (Array.getElem?_eq_some_iff.1 kd).1
  clear b6
  dsimp only
  refine hK.out _ _ k6 (fun hHeld => ?_)
  clear hK K
  try simp only [Act.put, List.getElem_toArray, List.getElem_cons_succ, List.getElem_cons_zero, List.setIfInBounds_toArray, List.set_cons_zero, List.set_cons_succ]
  refine wpAnyH_ready (rs := [18]) (by kernel_rfl) (by simp) ?_
  refine AllReadyH.cons rfl (fun K hK => ?_) AllReadyH.nil
  clear hHeld
  simp only [Act.put, List.getElem_toArray, List.getElem_cons_succ, List.getElem_cons_zero, List.setIfInBounds_toArray, List.set_cons_zero, List.set_cons_succ]
  rw [if_pos (by rfl)]
  go_wp2_with fail
  refine (sameI_is J6.out I6.out).mono ?_
  rintro e w7 ⟨rfl, b7⟩
  have B7 := Hid_mkG (Below.on B6.out b7)
  have k7 := cells_below k6 b7 (Array.getElem?_eq_some_iff.1 k6).1
  clear b7
  dsimp only
  refine hK.out _ _ k7 (fun hHeld => ?_)
  clear hK K
  try simp only [Act.put, List.getElem_toArray, List.getElem_cons_succ, List.getElem_cons_zero, List.setIfInBounds_toArray, List.set_cons_zero, List.set_cons_succ]
  refine wpAnyH_take (i := 19) (v := .bool true) rfl (by kernel_rfl) (by kernel_rfl) (by kernel_rfl) (fun _ _ _ h => h) (Or.inl ⟨by rfl, fun w' hSw => by obtain ⟨j0, j1, j2, j3, j4⟩ := five hSw; go_simp⟩) hHeld ?_
  simp only [Act.put, List.getElem_toArray, List.getElem_cons_succ, List.getElem_cons_zero, List.setIfInBounds_toArray, List.set_cons_zero, List.set_cons_succ]
  refine wpAnyH_take (i := 20) (v := .bool true) rfl (by kernel_rfl) (by kernel_rfl) (by kernel_rfl) (fun _ _ _ h => h) (Or.inl ⟨by rfl, fun w' hSw => by obtain ⟨j0, j1, j2, j3, j4⟩ := five hSw; go_simp⟩) hHeld ?_
  simp only [Act.put, List.getElem_toArray, List.getElem_cons_succ, List.getElem_cons_zero, List.setIfInBounds_toArray, List.set_cons_zero, List.set_cons_succ]
  refine wpAnyH_done (by kernel_rfl) ?_ _
  go_wp2_with fail
  go_ret
  exact ⟨rfl, B7.out⟩
end Go.Proofs.Ytehleeibgkpjmag
/- The walk of WireBack. -/
namespace Go.Proofs.Ytehleeibgkpjmag
open Go.RowKit Go.Shelf Go.Lib
set_option maxRecDepth 20000
set_option linter.unusedVariables false
set_option linter.unusedSimpArgs false

theorem rd_ok {u : ByteArray} {m : ImgD} {w : World} (h : rdE u = (m, 0)) : Calls Try.prog 14 #[.string u] w (AnsR w m 0) := by
  have := wread_is u w; rw [h] at this; exact this
theorem rd_no {u : ByteArray} {E : Int} {w : World} (h : rdE u = (imgZ, E)) : Calls Try.prog 14 #[.string u] w (AnsR w imgZ E) := by
  have := wread_is u w; rw [h] at this; exact this
end Go.Proofs.Ytehleeibgkpjmag
/- What stands while an image is read: the document's nose. -/
namespace Go.Proofs.Ytehleeibgkpjmag
open Go.RowKit Go.Shelf Go.Lib
set_option maxRecDepth 20000
set_option linter.unusedVariables false
set_option linter.unusedSimpArgs false

structure NoM (w X : World) (R D : Nat) (l : List UInt8) (M : ImgD) : Prop where
  t : NoX w X R l
  hR : R < w.heap.size
  hD : w.heap.size ≤ D
  ex : ∃ val, OX X (D + 1) val M ∧ X.heap[D]? = some (.cells #[.int .i64 M.guest, val .root, val .slots, val .refs, val .snaps] 26)
theorem NoX.drew {W X : World} {R : Nat} {l : List UInt8} (h : NoX W X R l) : NoX W X.drew R l := ⟨h.os, h.tape, h.output, h.size, h.keep, h.box⟩
theorem NoM.drew {w X : World} {R D : Nat} {l : List UInt8} {M : ImgD} (h : NoM w X R D l M) : NoM w X.drew R D l M := by
  obtain ⟨val, hX, hb⟩ := h.ex
  exact ⟨h.t.drew, h.hR, h.hD, val, hX.drew, hb⟩
theorem NoM.read {w X Y : World} {R D : Nat} {l l' : List UInt8} {M : ImgD} (h : NoM w X R D l M) (t : NoX X Y R l') : NoM w Y R D l' M := by
  obtain ⟨val, hX, hb⟩ := h.ex
  have hR := h.hR
  have hD := h.hD
  exact ⟨h.t.trans t, h.hR, h.hD, val, hX.keep (fun g hg hl => t.keep g hl (by omega)), (t.keep D (Array.getElem?_eq_some_iff.1 hb).1 (by omega)).trans hb⟩
theorem NoM.alloc {w X : World} {R D : Nat} {l : List UInt8} {M : ImgD} (h : NoM w X R D l M) (o : Obj) : NoM w (X.alloc o) R D l M := h.read ((NoX.refl h.t.box).alloc o)
theorem NoM.start {w X : World} {R : Nat} {l : List UInt8} (t : NoX w X R l) (hR : R < w.heap.size) (g : Int) : NoM w (X.alloc (.cells #[.int .i64 g, .slice none 0 0, .slice none 0 0, .slice none 0 0, .slice none 0 0] 26)) R X.heap.size l ⟨g, [], [], [], []⟩ := by
  have h0 := OX.zero (X.alloc (.cells #[.int .i64 g, .slice none 0 0, .slice none 0 0, .slice none 0 0, .slice none 0 0] 26)) (X.heap.size + 1)
  have h1 := h0.swapRoot (v := .slice none 0 0) (r := []) (World.ownsRow_nil _ _ _ _) (fun b _ _ g hg _ => by cases hg) g
  refine ⟨t.alloc _, hR, t.size, _, h1, ?_⟩
  rw [World.alloc_heap_new, upd_same, upd_other _ _ (b := .slots) (by intro x; cases x), upd_other _ _ (b := .refs) (by intro x; cases x), upd_other _ _ (b := .snaps) (by intro x; cases x)]
  rfl
theorem NoM.slot {w Wa w' : World} {R D : Nat} {l : List UInt8} {val : Nm → Value} {M : ImgD} {kk : Int} {dd : ByteArray} {es : List Int} {ev sv : Value} (t : NoX w Wa R l) (hR : R < w.heap.size) (hD : w.heap.size ≤ D) (hX : OX Wa (D + 1) val M) (hbox : Wa.heap[D]? = some (.cells #[.int .i64 M.guest, val .root, val .slots, val .refs, val .snaps] 26))
    (hev : Wa.ownsRow (D + 1) 3 1 ev es.length (ints es)) (hfe : FarX M val (.tab M.slots.length) ev) (h2 : Wa.grownBy w' (val .slots).ownBlock) (h1 : w'.ownsRow (D + 1) 60 3 sv (M.slots.length + 1) (flatS M.slots (fun j => val (.tab j)) ++ [.int .i64 kk, .string dd, ev])) (hblk : sv.ownBlock = (val .slots).ownBlock ∨ ∀ g, sv.ownBlock = some g → Wa.heap.size ≤ g) :
    NoM w (w'.setCell ⟨D, 2, none⟩ sv) R D l { M with slots := M.slots ++ [(kk, dd, es)] } := by
  have hDl := (Array.getElem?_eq_some_iff.1 hbox).1
  have hlt := fun q e => ((hX.row .slots (LiveX.slots M)).lt q e).1
  have hN := hX.addSlot (fun _ => hev) (row_loose0 hev) (fun _ => hfe) h2 h1 hblk
  have hb2 := (h2.block D hDl (fun e => by have := hlt D e.symm; omega)).trans hbox
  have hb3 := cells_set hb2 2 sv
  refine ⟨(t.grow hR h2 (fun q e => by have := hlt q e; omega)).other hD hR _, hR, hD, _, hN.far (fun a ha e => by have := ((hN.row a ha).lt D e).1; omega), ?_⟩
  rw [hb3, upd_same, upd_other _ sv (a := .slots) (b := .root) (by intro x; cases x), upd_other _ ev (b := .root) (by intro x; cases x), upd_other _ sv (a := .slots) (b := .refs) (by intro x; cases x), upd_other _ ev (b := .refs) (by intro x; cases x), upd_other _ sv (a := .slots) (b := .snaps) (by intro x; cases x), upd_other _ ev (b := .snaps) (by intro x; cases x)]
  rfl
theorem NoM.snap {w Wa w' : World} {R D : Nat} {l : List UInt8} {val : Nm → Value} {M : ImgD} {kk : Int} {dd : ByteArray} {es : List Int} {ev sv : Value} (t : NoX w Wa R l) (hR : R < w.heap.size) (hD : w.heap.size ≤ D) (hX : OX Wa (D + 1) val M) (hbox : Wa.heap[D]? = some (.cells #[.int .i64 M.guest, val .root, val .slots, val .refs, val .snaps] 26))
    (hev : Wa.ownsRow (D + 1) 3 1 ev es.length (ints es)) (hfe : FarX M val (.sr M.snaps.length) ev) (h2 : Wa.grownBy w' (val .snaps).ownBlock) (h1 : w'.ownsRow (D + 1) 74 3 sv (M.snaps.length + 1) (flatN M.snaps (fun j => val (.sr j)) ++ [.string dd, .int .i64 kk, ev])) (hblk : sv.ownBlock = (val .snaps).ownBlock ∨ ∀ g, sv.ownBlock = some g → Wa.heap.size ≤ g) :
    NoM w (w'.setCell ⟨D, 4, none⟩ sv) R D l { M with snaps := M.snaps ++ [(dd, kk, es)] } := by
  have hDl := (Array.getElem?_eq_some_iff.1 hbox).1
  have hlt := fun q e => ((hX.row .snaps (LiveX.snaps M)).lt q e).1
  have hN := hX.addSnap hev hfe h2 h1 hblk
  have hb2 := (h2.block D hDl (fun e => by have := hlt D e.symm; omega)).trans hbox
  have hb3 := cells_set hb2 4 sv
  refine ⟨(t.grow hR h2 (fun q e => by have := hlt q e; omega)).other hD hR _, hR, hD, _, hN.far (fun a ha e => by have := ((hN.row a ha).lt D e).1; omega), ?_⟩
  rw [hb3, upd_same, upd_other _ sv (a := .snaps) (b := .root) (by intro x; cases x), upd_other _ ev (b := .root) (by intro x; cases x), upd_other _ sv (a := .snaps) (b := .slots) (by intro x; cases x), upd_other _ ev (b := .slots) (by intro x; cases x), upd_other _ sv (a := .snaps) (b := .refs) (by intro x; cases x), upd_other _ ev (b := .refs) (by intro x; cases x)]
  rfl
theorem NoM.root {w X : World} {R D : Nat} {l : List UInt8} {val : Nm → Value} {M : ImgD} {es : List Int} {ev : Value} (t : NoX w X R l) (hR : R < w.heap.size) (hD : w.heap.size ≤ D) (hX : OX X (D + 1) val M) (hbox : X.heap[D]? = some (.cells #[.int .i64 M.guest, val .root, val .slots, val .refs, val .snaps] 26))
    (hev : X.ownsRow (D + 1) 3 1 ev es.length (ints es)) (hfe : FarX M val .root ev) : NoM w (X.setCell ⟨D, 1, none⟩ ev) R D l { M with root := es } := by
  have hN := hX.swapRoot hev hfe M.guest
  have hb3 := cells_set hbox 1 ev
  refine ⟨t.other hD hR _, hR, hD, _, hN.far (fun a ha e => by have := ((hN.row a ha).lt D e).1; omega), ?_⟩
  rw [hb3, upd_same, upd_other _ _ (b := .slots) (by intro x; cases x), upd_other _ _ (b := .refs) (by intro x; cases x), upd_other _ _ (b := .snaps) (by intro x; cases x)]
  rfl
theorem NoM.refs {w X : World} {R D : Nat} {l : List UInt8} {val : Nm → Value} {M : ImgD} {es : List Int} {ev : Value} (t : NoX w X R l) (hR : R < w.heap.size) (hD : w.heap.size ≤ D) (hX : OX X (D + 1) val M) (hbox : X.heap[D]? = some (.cells #[.int .i64 M.guest, val .root, val .slots, val .refs, val .snaps] 26))
    (hev : X.ownsRow (D + 1) 3 1 ev es.length (ints es)) (hfe : FarX M val .refs ev) : NoM w (X.setCell ⟨D, 3, none⟩ ev) R D l { M with refs := es } := by
  have hN := hX.swapRefs hev hfe
  have hb3 := cells_set hbox 3 ev
  refine ⟨t.other hD hR _, hR, hD, _, hN.far (fun a ha e => by have := ((hN.row a ha).lt D e).1; omega), ?_⟩
  rw [hb3, upd_same, upd_other _ _ (b := .slots) (by intro x; cases x), upd_other _ _ (b := .root) (by intro x; cases x), upd_other _ _ (b := .snaps) (by intro x; cases x)]
  rfl
theorem NoM.img {w X : World} {R D : Nat} {l : List UInt8} {M : ImgD} (h : NoM w X R D l M) : ∃ a0 c0 a1 c1 a2 c2 a3 c3, X.heap[D]? = some (.cells #[.int .i64 M.guest, .slice a0 M.root.length c0, .slice a1 M.slots.length c1, .slice a2 M.refs.length c2, .slice a3 M.snaps.length c3] 26) ∧ Img X (.agg #[.int .i64 M.guest, .slice a0 M.root.length c0, .slice a1 M.slots.length c1, .slice a2 M.refs.length c2, .slice a3 M.snaps.length c3]) M ∧ ∀ Y, (∀ q, D < q → q < X.heap.size → Y.heap[q]? = X.heap[q]?) → Img Y (.agg #[.int .i64 M.guest, .slice a0 M.root.length c0, .slice a1 M.slots.length c1, .slice a2 M.refs.length c2, .slice a3 M.snaps.length c3]) M := by
  obtain ⟨val, hX, hb⟩ := h.ex
  obtain ⟨a0, c0, e0, _⟩ := hX.forms .root (LiveX.root _)
  obtain ⟨a1, c1, e1, _⟩ := hX.forms .slots (LiveX.slots _)
  obtain ⟨a2, c2, e2, _⟩ := hX.forms .refs (LiveX.refs _)
  obtain ⟨a3, c3, e3, _⟩ := hX.forms .snaps (LiveX.snaps _)
  have hI := hX.img
  have hF : ∀ Y : World, (∀ q, D < q → q < X.heap.size → Y.heap[q]? = X.heap[q]?) → Img Y (imgV M.guest val) M := fun Y hY => (hX.keep (fun g hg hl => hY g hg hl)).img
  unfold imgV at hI hF
  rw [e0, e1, e2, e3] at hb hI hF
  exact ⟨a0, c0, a1, c1, a2, c2, a3, c3, hb, hI, hF⟩
end Go.Proofs.Ytehleeibgkpjmag
/- The document's ImageBytes. -/
namespace Go.Proofs.Ytehleeibgkpjmag
open Go.RowKit Go.Shelf Go.Lib
set_option maxRecDepth 20000
set_option linter.unusedVariables false
set_option linter.unusedSimpArgs false

theorem by8_mod (x : Int) : ((by8 x).toNat : Int) = x % 256 := by
  unfold by8
  rw [UInt8.toNat_ofNat']
  omega
theorem by8_small {x : Int} (h0 : 0 ≤ x) (h : x < 256) : ((by8 x).toNat : Int) = x := by rw [by8_mod]; omega
theorem Hid_mkC {p : Prop} (h : p) : Hid p := h
theorem not_row {W : World} {B n size q : Nat} {e : TypeId} {v : Value} {xs : List Value} {c : Array Value} {T : TypeId} {z : Nat × Nat} (h : W.ownsRow B e size v n xs) (hq : W.heap[q]? = some (.cells c T z)) (hne : T ≠ e) : v.ownBlock ≠ some q := fun x => by
  obtain ⟨c', h'⟩ := row_typeW h x
  rw [hq] at h'
  injection h' with h'
  injection h' with _ h' _
  exact hne h'
set_option maxHeartbeats 3000000 in
theorem imgBytes_at (ra : Option Addr) (rc : Nat) (sa : Option Addr) (sc : Nat) (fa : Option Addr) (fc : Nat) (na : Option Addr) (nc : Nat) (m : ImgD) (w : World) (h : Img w (.agg #[.int .i64 m.guest, .slice ra m.root.length rc, .slice sa m.slots.length sc, .slice fa m.refs.length fc, .slice na m.snaps.length nc]) m) (hs : shapeE m = 0) :
    Calls Try.prog 13 #[.agg #[.int .i64 m.guest, .slice ra m.root.length rc, .slice sa m.slots.length sc, .slice fa m.refs.length fc, .slice na m.snaps.length nc]] w fun r w' => r = .returned (.string (bstr (imgB m))) ∧ Below w.heap.size w w' := by
  have b0 : Below w.heap.size w (w.alloc (.cells #[.int .i64 m.guest, .slice ra m.root.length rc, .slice sa m.slots.length sc, .slice fa m.refs.length fc, .slice na m.snaps.length nc] 26)) := (Below.refl _ _).alloc (Nat.le_refl _) _
  have m0 : (w.alloc (.cells #[.int .i64 m.guest, .slice ra m.root.length rc, .slice sa m.slots.length sc, .slice fa m.refs.length fc, .slice na m.snaps.length nc] 26)).heap[w.heap.size]? = some (.cells #[.int .i64 m.guest, .slice ra m.root.length rc, .slice sa m.slots.length sc, .slice fa m.refs.length fc, .slice na m.snaps.length nc] 26) := World.alloc_heap_new _ _
  have h40 := (slotsE_parts (shapeE_zero hs).2.1).2
  have hn3 := (shapeE_zero hs).1
  have hgt := guest_ok hs
  have hrt := root_ok hs
  have hr4 : m.root.length ≤ 4 := by omega
  have HP : Hid (True ∧ shapeE m = 0) := ⟨trivial, hs⟩
  have HOk : Hid (m.slots.all okD = true) := slots_ok hs
  have HI : Hid (Img w (.agg #[.int .i64 m.guest, .slice ra m.root.length rc, .slice sa m.slots.length sc, .slice fa m.refs.length fc, .slice na m.snaps.length nc]) m) := h
  have n1 : ((w.alloc (.cells #[.int .i64 m.guest, .slice ra m.root.length rc, .slice sa m.slots.length sc, .slice fa m.refs.length fc, .slice na m.snaps.length nc] 26)).alloc (.cells #[.int .u8 (m.guest % 256), .int .u8 (m.slots.length : Int)] 5)).heap[w.heap.size + 1]? = some (.cells #[.int .u8 (m.guest % 256), .int .u8 (m.slots.length : Int)] 5) := by have := World.alloc_heap_new (w.alloc (.cells #[.int .i64 m.guest, .slice ra m.root.length rc, .slice sa m.slots.length sc, .slice fa m.refs.length fc, .slice na m.snaps.length nc] 26)) (.cells #[.int .u8 (m.guest % 256), .int .u8 (m.slots.length : Int)] 5); simpa using this
  have HA0 : Hid (IbS w ((w.alloc (.cells #[.int .i64 m.guest, .slice ra m.root.length rc, .slice sa m.slots.length sc, .slice fa m.refs.length fc, .slice na m.snaps.length nc] 26)).alloc (.cells #[.int .u8 (m.guest % 256), .int .u8 (m.slots.length : Int)] 5)) (.cells #[.int .i64 m.guest, .slice ra m.root.length rc, .slice sa m.slots.length sc, .slice fa m.refs.length fc, .slice na m.snaps.length nc] 26) (.slice (some ⟨w.heap.size + 1, 0, none⟩) 2 2) ((by8 m.guest :: by8 (m.slots.length : Int) :: []) ++ (m.slots.take 0).flatMap slotB)) := by
    refine ⟨⟨rfl, .inr ⟨w.heap.size + 1, 2, _, rfl, Nat.le_refl _, n1, Nat.le_refl _, by unfold maxLen; omega, rfl, ?_⟩⟩, b0.alloc (by simp) _, cells_alloc m0 _⟩
    show [Value.int .u8 (m.guest % 256), Value.int .u8 (m.slots.length : Int)] = [Value.int .u8 ((by8 m.guest).toNat : Int), Value.int .u8 ((by8 (m.slots.length : Int)).toNat : Int)]
    rw [by8_mod, by8_small (by omega) (by omega)]
  obtain ⟨c0, c1, c2, c3, c4⟩ := five m0
  have m0' := cells_alloc m0 (.cells #[.int .u8 (m.guest % 256), .int .u8 (m.slots.length : Int)] 5)
  obtain ⟨d0, d1, d2, d3, d4⟩ := five m0'
  clear h m0 m0' b0 n1 hs hgt hrt
  go_enter Try.func13, Try.ntmps13
  go_wp2_with fail
  clear c0 c1 c2 c3 c4 d0 d1 d2 d3 d4
  obtain ⟨W0, hW0⟩ : ∃ X, (w.alloc (.cells #[.int .i64 m.guest, .slice ra m.root.length rc, .slice sa m.slots.length sc, .slice fa m.refs.length fc, .slice na m.snaps.length nc] 26)).alloc (.cells #[.int .u8 (m.guest % 256), .int .u8 (m.slots.length : Int)] 5) = X := ⟨_, rfl⟩
  rw [hW0] at HA0 ⊢
  clear hW0
  go_loopw [3, 4, 5] (fun b i _ wr => ∃ (k : Nat) (v : Value), k ≤ m.slots.length ∧ i = .int .i64 k ∧ b = v ∧ Hid (IbS w wr (.cells #[.int .i64 m.guest, .slice ra m.root.length rc, .slice sa m.slots.length sc, .slice fa m.refs.length fc, .slice na m.snaps.length nc] 26) v ((by8 m.guest :: by8 (m.slots.length : Int) :: []) ++ (m.slots.take k).flatMap slotB))) (fun _ i _ _ => m.slots.length - (intOf i).toNat)
  case atStart => exact ⟨0, _, Nat.zero_le _, rfl, rfl, HA0⟩
  case round =>
    obtain ⟨k, v, hk, rfl, rfl, HC⟩ := hrel
    by_cases hlk : k < m.slots.length
    · have hki : (k : Int) < (m.slots.length : Int) := by omega
      have hbw := HC.out.bel
      have hn0 := HC.out.box
      obtain ⟨c0, c1, c2, c3, c4⟩ := five hn0
      obtain ⟨sb, so, sc', e, _, hbl, hps⟩ := HI.out.four.2.1.open (by omega)
      simp only [Value.slice.injEq] at e
      obtain ⟨hsa, _, hsc⟩ := e
      rw [hsa] at c2
      clear hsa hsc
      obtain ⟨tv, q0, q1, q2, qs⟩ := hps k hlk
      obtain ⟨⟨kk, dd, es⟩, hsk⟩ : ∃ s, m.slots[k] = s := ⟨_, rfl⟩
      rw [hsk] at q0 q1 qs
      have q0 : wr.cell? ⟨sb, so + k * 3, none⟩ = some (.int .i64 kk) := (hbw.cell (p := ⟨sb, so + k * 3, none⟩) hbl).trans q0
      have q1 : wr.cell? ⟨sb, so + k * 3 + 1, none⟩ = some (.string dd) := (hbw.cell (p := ⟨sb, so + k * 3 + 1, none⟩) hbl).trans q1
      have qs : Sl w tv es := qs
      obtain ⟨ta, tc, rfl⟩ := qs.form
      have q2 : wr.cell? ⟨sb, so + k * 3 + 1 + 1, none⟩ = some (.slice ta es.length tc) := (hbw.cell (p := ⟨sb, so + k * 3 + 1 + 1, none⟩) hbl).trans q2
      have hb1 : (((by8 m.guest :: by8 (m.slots.length : Int) :: []) ++ (m.slots.take k).flatMap slotB)).length ≤ 1000 := by
        have := flatB_len (c := 9) (B := slotB) (m.slots.take k) (fun s hs => slotB_len (List.all_eq_true.1 HOk.out s (List.mem_of_mem_take hs)))
        simp only [List.length_append, List.length_cons, List.length_nil, List.length_take] at this ⊢
        have : 9 * min k m.slots.length ≤ 360 := by omega
        omega
      have hb2 : dd.size + es.length ≤ 100 := by
        have hmem : (kk, dd, es) ∈ m.slots := by rw [← hsk]; exact List.getElem_mem _
        have := slotB_len (List.all_eq_true.1 HOk.out (kk, dd, es) hmem)
        unfold slotB at this
        simp only [List.length_cons, List.length_append, List.length_map] at this
        have e : dd.data.toList.length = dd.size := rfl
        omega
      have HN0 : Hid (((by8 m.guest :: by8 (m.slots.length : Int) :: []) ++ (m.slots.take (k + 1)).flatMap slotB) = ((by8 m.guest :: by8 (m.slots.length : Int) :: []) ++ (m.slots.take k).flatMap slotB) ++ slotB (kk, dd, es)) := by
        show _ = _
        rw [show m.slots.take (k + 1) = m.slots.take k ++ [m.slots[k]] from (List.take_append_getElem hlk).symm, List.flatMap_append, hsk]
        simp
      obtain ⟨L, hL⟩ : ∃ X, ((by8 m.guest :: by8 (m.slots.length : Int) :: []) ++ (m.slots.take k).flatMap slotB) = X := ⟨_, rfl⟩
      rw [hL] at HC HN0 hb1
      obtain ⟨N, hN⟩ : ∃ X, L.length = X := ⟨_, rfl⟩
      rw [hN] at hb1
      have hrow := HC.out.row
      rw [hN] at hrow
      obtain ⟨pa, pc, rfl⟩ := row_slice hrow
      have HL : Hid (L.length = N) := hN
      have hlt := HC.out.lt
      have HQ : Hid (Sl w (.slice ta es.length tc) es) := qs
      have hbox : (wr.alloc (.cells #[.int .i64 kk, .string dd, .slice ta es.length tc] 60)).heap[wr.heap.size]? = some (.cells #[.int .i64 kk, .string dd, .slice ta es.length tc] 60) := World.alloc_heap_new _ _
      have hB1 := cells_alloc hn0 (.cells #[.int .i64 kk, .string dd, .slice ta es.length tc] 60)
      obtain ⟨x0, x1, x2⟩ := three hbox
      clear hps hsk qs hL hN hn0 hbl
      go_upto_region 7 with (at_builtin; refine wpList_addB (by rfl) _ _ (by rfl) (W := (wr.alloc (.cells #[.int .i64 kk, .string dd, .slice ta es.length tc] 60))) (B := w.heap.size + 1) (n := N) (v := .slice pa N pc) (xs := L) (by8 kk) (by first | exact (by8_mod _).symm | exact (by8_small (by omega) (by omega)).symm) (by rfl) (N := wr.heap.size + 1) (by first | rfl | simp) (by first | rfl | simp) (hrow.alloc _) (by omega) (by have := hlt; first | omega | (simp <;> omega)) ?_; intro v6 w6 g1 g2; obtain ⟨ga6, gc6, hv⟩ := row_slice g1.out; subst hv)
      have I6 : IbS w w6 (.cells #[.int .i64 m.guest, .slice ra m.root.length rc, .slice sa m.slots.length sc, .slice fa m.refs.length fc, .slice na m.snaps.length nc] 26) (.slice ga6 (N + 1) gc6) (L ++ [by8 kk]) := ((HC.out.on ((Below.refl _ _).alloc (Nat.le_refl _) _)).on ((Below.refl _ _).alloc (Nat.le_refl _) _)).grow (by simp [HL.out]) g1.out g2.out
      have sb6 : w6.heap[wr.heap.size]? = some (.cells #[.int .i64 kk, .string dd, .slice ta es.length tc] 60) := (g2.out.block wr.heap.size (by first | (simp; done) | (simp; omega)) (fun e => by have := (hrow.lt _ e.symm).2; omega)).trans (cells_alloc hbox _)
      clear g1 g2 x0 x1 x2 c0 c1 c2 c3 c4 q0 q1 q2 hrow hbox hB1 HC hbw
      obtain ⟨x0, x1, x2⟩ := three sb6
      have hr6 : w6.ownsRow (w.heap.size + 1) 5 1 (.slice ga6 (N + 1) gc6) (N + 1) (bys (L ++ [by8 kk])) := by have := I6.row; rw [show (L ++ [by8 kk]).length = N + 1 by simp [HL.out]] at this; exact this
      have hlt6 := I6.lt
      have H6 : Hid (IbS w w6 (.cells #[.int .i64 m.guest, .slice ra m.root.length rc, .slice sa m.slots.length sc, .slice fa m.refs.length fc, .slice na m.snaps.length nc] 26) (.slice ga6 (N + 1) gc6) (L ++ [by8 kk]) ∧ w6.heap[wr.heap.size]? = some (.cells #[.int .i64 kk, .string dd, .slice ta es.length tc] 60)) := ⟨I6, sb6⟩
      clear I6 sb6
      go_upto_region 8 with (at_builtin; refine wpList_addT (by rfl) _ _ (by rfl) (B := w.heap.size + 1) (n := N + 1) (v := .slice ga6 (N + 1) gc6) (xs := L ++ [by8 kk]) dd (by rfl) (by rfl) hr6 (by omega) (by omega) ?_; intro v7 w7 g1 g2; obtain ⟨ga7, gc7, hv⟩ := row_slice g1.out; subst hv)
      have sb7 : w7.heap[wr.heap.size]? = some (.cells #[.int .i64 kk, .string dd, .slice ta es.length tc] 60) := (g2.out.block wr.heap.size (by have := (Array.getElem?_eq_some_iff.1 H6.out.2).1; exact this) (fun e => not_row hr6 H6.out.2 (by decide) e.symm)).trans H6.out.2
      have I7 : IbS w w7 (.cells #[.int .i64 m.guest, .slice ra m.root.length rc, .slice sa m.slots.length sc, .slice fa m.refs.length fc, .slice na m.snaps.length nc] 26) (.slice ga7 (N + 1 + dd.size) gc7) (L ++ [by8 kk] ++ dd.data.toList) := H6.out.1.grow (by simp [HL.out]; have : dd.data.toList.length = dd.size := rfl; omega) g1.out g2.out
      have hr7 := g1.out
      clear g1 g2 x0 x1 x2 hr6
      obtain ⟨x0, x1, x2⟩ := three sb7
      have hlt7 := I7.lt
      have hq7 : Sl w7 (.slice ta es.length tc) es := HQ.out.below I7.bel
      have H7 : Hid (IbS w w7 (.cells #[.int .i64 m.guest, .slice ra m.root.length rc, .slice sa m.slots.length sc, .slice fa m.refs.length fc, .slice na m.snaps.length nc] 26) (.slice ga7 (N + 1 + dd.size) gc7) (L ++ [by8 kk] ++ dd.data.toList)) := I7
      clear I7 sb7 H6
      have HBo : Hid (Calls Try.prog 40 #[.slice ta es.length tc] w7 fun r w' => ∃ va, r = .returned va ∧ BoS w7 w' va (es.map by8)) := bytesOf_is hq7 (by omega)
      clear hq7
      go_wp2_with (first | (at_builtin; refine wpList_addR (by rfl) _ _ (by rfl) (B := w.heap.size + 1) (n := (N + 1 + dd.size)) (v := .slice ga7 (N + 1 + dd.size) gc7) (xs := (L ++ [by8 kk] ++ dd.data.toList)) (by rfl) (by rfl) hv9 hr9 (by rw [List.length_map]; omega) (by omega) ?_; intro vA wA g1 g2; obtain ⟨gaA, gcA, hv⟩ := row_slice g1.out; subst hv) | (go_at_call 40; refine HBo.out.mono ?_; rintro e9 w9 ⟨va, rfl, hBo⟩; have hv9 := hBo.row; have hr9 := row_blkW hr7 (W' := w9) (fun q hq => hBo.bel.block q (hr7.lt q hq).2); have I9 := H7.out.on hBo.bel; have hlt9 := I9.lt; have HI9 := Hid_mkC I9; clear I9 hBo))
      have HN : Hid (IbS w wA (.cells #[.int .i64 m.guest, .slice ra m.root.length rc, .slice sa m.slots.length sc, .slice fa m.refs.length fc, .slice na m.snaps.length nc] 26) (.slice gaA ((N + 1 + dd.size) + es.length) gcA) ((by8 m.guest :: by8 (m.slots.length : Int) :: []) ++ (m.slots.take (k + 1)).flatMap slotB)) := by
        rw [HN0.out]
        have e1 : L ++ slotB (kk, dd, es) = (L ++ [by8 kk] ++ dd.data.toList) ++ es.map by8 := by unfold slotB; simp
        rw [e1]
        have key := HI9.out.grow (l' := (L ++ [by8 kk] ++ dd.data.toList) ++ es.map by8) (by simp [HL.out]; have : dd.data.toList.length = dd.size := rfl; omega) g1.out g2.out
        rw [List.length_map] at key
        exact key
      go_roundw
      case rel => exact ⟨k + 1, _, by omega, by go_num, rfl, HN⟩
      case measure => simp [intOf]; omega
    · have hki : ¬ (k : Int) < (m.slots.length : Int) := by omega
      have ek : k = m.slots.length := by omega
      have hI := HC.out
      rw [show m.slots.take k = m.slots by rw [ek, List.take_length]] at hI
      obtain ⟨w3, hrn⟩ : ∃ X, X = wr := ⟨_, rfl⟩
      subst hrn
      obtain ⟨L, hL⟩ : ∃ X, ((by8 m.guest :: by8 (m.slots.length : Int) :: []) ++ m.slots.flatMap slotB) = X := ⟨_, rfl⟩
      have hlen : L.length ≤ 1000 := by
        rw [← hL]
        have := flatB_len (c := 9) (B := slotB) m.slots (fun s hs => slotB_len (List.all_eq_true.1 HOk.out s hs))
        simp only [List.length_append, List.length_cons, List.length_nil]
        omega
      rw [hL] at hI
      have HLe : Hid (((by8 m.guest :: by8 (m.slots.length : Int) :: []) ++ m.slots.flatMap slotB) = L) := hL
      obtain ⟨N, hN⟩ : ∃ X, L.length = X := ⟨_, rfl⟩
      have hrow := hI.row
      rw [hN] at hrow hlen
      obtain ⟨pa, pc, rfl⟩ := row_slice hrow
      have HL : Hid (L.length = N) := hN
      have hlt := hI.lt
      have hn0 := hI.box
      obtain ⟨c0, c1, c2, c3, c4⟩ := five hn0
      have HI3 : Hid (IbS w w3 (.cells #[.int .i64 m.guest, .slice ra m.root.length rc, .slice sa m.slots.length sc, .slice fa m.refs.length fc, .slice na m.snaps.length nc] 26) (.slice pa N pc) L) := hI
      clear hI hN hL HC HA0 hn0 ek hlk hk
      go_upto_region 10 with (at_builtin; refine wpList_addB (by rfl) _ _ (by rfl) (W := w3) (B := w.heap.size + 1) (n := N) (v := .slice pa N pc) (xs := L) (by8 (m.snaps.length : Int)) (by first | exact (by8_mod _).symm | exact (by8_small (by omega) (by omega)).symm) (by rfl) (N := w3.heap.size) (by first | rfl | simp) (by first | rfl | simp) hrow (by omega) (by have := hlt; first | omega | (simp <;> omega)) ?_; intro v4 w4 g1 g2; obtain ⟨ga4, gc4, hv⟩ := row_slice g1.out; subst hv)
      have HB0 : Hid (IbS w w4 (.cells #[.int .i64 m.guest, .slice ra m.root.length rc, .slice sa m.slots.length sc, .slice fa m.refs.length fc, .slice na m.snaps.length nc] 26) (.slice ga4 (N + 1) gc4) (((by8 m.guest :: by8 (m.slots.length : Int) :: []) ++ m.slots.flatMap slotB ++ [by8 (m.snaps.length : Int)]) ++ (m.snaps.take 0).flatMap snapB)) := by
        have e1 : (((by8 m.guest :: by8 (m.slots.length : Int) :: []) ++ m.slots.flatMap slotB ++ [by8 (m.snaps.length : Int)]) ++ (m.snaps.take 0).flatMap snapB) = L ++ [by8 (m.snaps.length : Int)] := by rw [HLe.out]; simp
        rw [e1]
        exact (HI3.out.on ((Below.refl _ _).alloc (Nat.le_refl _) _)).grow (by simp [HL.out]) g1.out g2.out
      clear g1 g2 c0 c1 c2 c3 c4 hrow HI3 hki hlt hlen HL
      go_wp2_with fail
      go_loopw [3, 6, 7] (fun b i _ wr => ∃ (k : Nat) (v : Value), k ≤ m.snaps.length ∧ i = .int .i64 k ∧ b = v ∧ Hid (IbS w wr (.cells #[.int .i64 m.guest, .slice ra m.root.length rc, .slice sa m.slots.length sc, .slice fa m.refs.length fc, .slice na m.snaps.length nc] 26) v (((by8 m.guest :: by8 (m.slots.length : Int) :: []) ++ m.slots.flatMap slotB ++ [by8 (m.snaps.length : Int)]) ++ (m.snaps.take k).flatMap snapB))) (fun _ i _ _ => m.snaps.length - (intOf i).toNat)
      case atStart => exact ⟨0, _, Nat.zero_le _, rfl, rfl, HB0⟩
      case round =>
        obtain ⟨k, v, hk, rfl, rfl, HC⟩ := hrel
        by_cases hlk : k < m.snaps.length
        · have hki : (k : Int) < (m.snaps.length : Int) := by omega
          have hbw := HC.out.bel
          have hn0 := HC.out.box
          obtain ⟨c0, c1, c2, c3, c4⟩ := five hn0
          obtain ⟨sb, so, sc', e, _, hbl, hps⟩ := HI.out.four.2.2.2.open (by omega)
          simp only [Value.slice.injEq] at e
          obtain ⟨hsa, _, hsc⟩ := e
          rw [hsa] at c4
          clear hsa hsc
          obtain ⟨tv, q0, q1, q2, qs⟩ := hps k hlk
          obtain ⟨⟨dd, kk, es⟩, hsk⟩ : ∃ s, m.snaps[k] = s := ⟨_, rfl⟩
          rw [hsk] at q0 q1 qs
          have q0 : wr.cell? ⟨sb, so + k * 3, none⟩ = some (.string dd) := (hbw.cell (p := ⟨sb, so + k * 3, none⟩) hbl).trans q0
          have q1 : wr.cell? ⟨sb, so + k * 3 + 1, none⟩ = some (.int .i64 kk) := (hbw.cell (p := ⟨sb, so + k * 3 + 1, none⟩) hbl).trans q1
          have qs : Sl w tv es := qs
          obtain ⟨ta, tc, rfl⟩ := qs.form
          have q2 : wr.cell? ⟨sb, so + k * 3 + 1 + 1, none⟩ = some (.slice ta es.length tc) := (hbw.cell (p := ⟨sb, so + k * 3 + 1 + 1, none⟩) hbl).trans q2
          have hb1 : ((((by8 m.guest :: by8 (m.slots.length : Int) :: []) ++ m.slots.flatMap slotB ++ [by8 (m.snaps.length : Int)]) ++ (m.snaps.take k).flatMap snapB)).length ≤ 1000 := by
            have h1 := flatB_len (c := 9) (B := slotB) m.slots (fun s hs => slotB_len (List.all_eq_true.1 HOk.out s hs))
            have h2 := flatB_len (c := 14) (B := snapB) (m.snaps.take k) (fun s hs => snapB_len HP.out.2 (List.mem_of_mem_take hs))
            simp only [List.length_append, List.length_cons, List.length_nil, List.length_take] at h2 ⊢
            have : 14 * min k m.snaps.length ≤ 42 := by omega
            omega
          have hb2 : dd.size + es.length ≤ 100 := by
            have hmem : (dd, kk, es) ∈ m.snaps := by rw [← hsk]; exact List.getElem_mem _
            obtain ⟨f1, f2, f3, f4⟩ := snap_fit HP.out.2 (s := (dd, kk, es)) (List.mem_cons_of_mem _ hmem)
            have f2 : kk ≤ 16 := f2
            have f3 : (es.length : Int) = (kk + 3) / 4 := f3
            have h8 : dd.size ≤ 8 := nm_size (shapeE_zero HP.out.2).2.2.2.1 hmem
            omega
          have HN0 : Hid ((((by8 m.guest :: by8 (m.slots.length : Int) :: []) ++ m.slots.flatMap slotB ++ [by8 (m.snaps.length : Int)]) ++ (m.snaps.take (k + 1)).flatMap snapB) = (((by8 m.guest :: by8 (m.slots.length : Int) :: []) ++ m.slots.flatMap slotB ++ [by8 (m.snaps.length : Int)]) ++ (m.snaps.take k).flatMap snapB) ++ snapB (dd, kk, es)) := by
            show _ = _
            rw [show m.snaps.take (k + 1) = m.snaps.take k ++ [m.snaps[k]] from (List.take_append_getElem hlk).symm, List.flatMap_append, hsk]
            simp
          obtain ⟨L, hL⟩ : ∃ X, (((by8 m.guest :: by8 (m.slots.length : Int) :: []) ++ m.slots.flatMap slotB ++ [by8 (m.snaps.length : Int)]) ++ (m.snaps.take k).flatMap snapB) = X := ⟨_, rfl⟩
          rw [hL] at HC HN0 hb1
          obtain ⟨N, hN⟩ : ∃ X, L.length = X := ⟨_, rfl⟩
          rw [hN] at hb1
          have hrow := HC.out.row
          rw [hN] at hrow
          obtain ⟨pa, pc, rfl⟩ := row_slice hrow
          have HL : Hid (L.length = N) := hN
          have hlt := HC.out.lt
          have HQ : Hid (Sl w (.slice ta es.length tc) es) := qs
          have hbox : (wr.alloc (.cells #[.string dd, .int .i64 kk, .slice ta es.length tc] 74)).heap[wr.heap.size]? = some (.cells #[.string dd, .int .i64 kk, .slice ta es.length tc] 74) := World.alloc_heap_new _ _
          have hB1 := cells_alloc hn0 (.cells #[.string dd, .int .i64 kk, .slice ta es.length tc] 74)
          obtain ⟨x0, x1, x2⟩ := three hbox
          clear hps hsk qs hL hN hn0 hbl
          go_upto_region 15 with (at_builtin; refine wpList_addB (by rfl) _ _ (by rfl) (W := (wr.alloc (.cells #[.string dd, .int .i64 kk, .slice ta es.length tc] 74))) (B := w.heap.size + 1) (n := N) (v := .slice pa N pc) (xs := L) (by8 (dd.size : Int)) (by first | exact (by8_mod _).symm | exact (by8_small (by omega) (by omega)).symm) (by rfl) (N := wr.heap.size + 1) (by first | rfl | simp) (by first | rfl | simp) (hrow.alloc _) (by omega) (by have := hlt; first | omega | (simp <;> omega)) ?_; intro v6 w6 g1 g2; obtain ⟨ga6, gc6, hv⟩ := row_slice g1.out; subst hv)
          have I6 : IbS w w6 (.cells #[.int .i64 m.guest, .slice ra m.root.length rc, .slice sa m.slots.length sc, .slice fa m.refs.length fc, .slice na m.snaps.length nc] 26) (.slice ga6 (N + 1) gc6) (L ++ [by8 (dd.size : Int)]) := ((HC.out.on ((Below.refl _ _).alloc (Nat.le_refl _) _)).on ((Below.refl _ _).alloc (Nat.le_refl _) _)).grow (by simp [HL.out]) g1.out g2.out
          have sb6 : w6.heap[wr.heap.size]? = some (.cells #[.string dd, .int .i64 kk, .slice ta es.length tc] 74) := (g2.out.block wr.heap.size (by first | (simp; done) | (simp; omega)) (fun e => by have := (hrow.lt _ e.symm).2; omega)).trans (cells_alloc hbox _)
          clear g1 g2 x0 x1 x2 c0 c1 c2 c3 c4 q0 q1 q2 hrow hbox hB1 HC hbw
          obtain ⟨x0, x1, x2⟩ := three sb6
          have hr6 : w6.ownsRow (w.heap.size + 1) 5 1 (.slice ga6 (N + 1) gc6) (N + 1) (bys (L ++ [by8 (dd.size : Int)])) := by have := I6.row; rw [show (L ++ [by8 (dd.size : Int)]).length = N + 1 by simp [HL.out]] at this; exact this
          have hlt6 := I6.lt
          have H6 : Hid (IbS w w6 (.cells #[.int .i64 m.guest, .slice ra m.root.length rc, .slice sa m.slots.length sc, .slice fa m.refs.length fc, .slice na m.snaps.length nc] 26) (.slice ga6 (N + 1) gc6) (L ++ [by8 (dd.size : Int)]) ∧ w6.heap[wr.heap.size]? = some (.cells #[.string dd, .int .i64 kk, .slice ta es.length tc] 74)) := ⟨I6, sb6⟩
          clear I6 sb6
          go_upto_region 16 with (at_builtin; refine wpList_addT (by rfl) _ _ (by rfl) (B := w.heap.size + 1) (n := N + 1) (v := .slice ga6 (N + 1) gc6) (xs := L ++ [by8 (dd.size : Int)]) dd (by rfl) (by rfl) hr6 (by omega) (by omega) ?_; intro v7 w7 g1 g2; obtain ⟨ga7, gc7, hv⟩ := row_slice g1.out; subst hv)
          have sb7 : w7.heap[wr.heap.size]? = some (.cells #[.string dd, .int .i64 kk, .slice ta es.length tc] 74) := (g2.out.block wr.heap.size (by have := (Array.getElem?_eq_some_iff.1 H6.out.2).1; exact this) (fun e => not_row hr6 H6.out.2 (by decide) e.symm)).trans H6.out.2
          have I7 : IbS w w7 (.cells #[.int .i64 m.guest, .slice ra m.root.length rc, .slice sa m.slots.length sc, .slice fa m.refs.length fc, .slice na m.snaps.length nc] 26) (.slice ga7 (N + 1 + dd.size) gc7) (L ++ [by8 (dd.size : Int)] ++ dd.data.toList) := H6.out.1.grow (by simp [HL.out]; have : dd.data.toList.length = dd.size := rfl; omega) g1.out g2.out
          have hr7 := g1.out
          clear g1 g2 x0 x1 x2 hr6
          obtain ⟨x0, x1, x2⟩ := three sb7
          have hlt7 := I7.lt
          have H7 : Hid (IbS w w7 (.cells #[.int .i64 m.guest, .slice ra m.root.length rc, .slice sa m.slots.length sc, .slice fa m.refs.length fc, .slice na m.snaps.length nc] 26) (.slice ga7 (N + 1 + dd.size) gc7) (L ++ [by8 (dd.size : Int)] ++ dd.data.toList) ∧ w7.heap[wr.heap.size]? = some (.cells #[.string dd, .int .i64 kk, .slice ta es.length tc] 74)) := ⟨I7, sb7⟩
          clear I7 sb7 H6
          go_upto_region 17 with (at_builtin; refine wpList_addB (by rfl) _ _ (by rfl) (W := w7) (B := w.heap.size + 1) (n := (N + 1 + dd.size)) (v := .slice ga7 (N + 1 + dd.size) gc7) (xs := (L ++ [by8 (dd.size : Int)] ++ dd.data.toList)) (by8 kk) (by first | exact (by8_mod _).symm | exact (by8_small (by omega) (by omega)).symm) (by rfl) (N := w7.heap.size) (by first | rfl | simp) (by first | rfl | simp) hr7 (by omega) (by have := hlt7; first | omega | (simp <;> omega)) ?_; intro v8 w8 g1 g2; obtain ⟨ga8, gc8, hv⟩ := row_slice g1.out; subst hv)
          have sb8 : w8.heap[wr.heap.size]? = some (.cells #[.string dd, .int .i64 kk, .slice ta es.length tc] 74) := (g2.out.block wr.heap.size (by have := (Array.getElem?_eq_some_iff.1 H7.out.2).1; simp; omega) (fun e => not_row hr7 H7.out.2 (by decide) e.symm)).trans (cells_alloc H7.out.2 _)
          have I8 : IbS w w8 (.cells #[.int .i64 m.guest, .slice ra m.root.length rc, .slice sa m.slots.length sc, .slice fa m.refs.length fc, .slice na m.snaps.length nc] 26) (.slice ga8 (N + 1 + dd.size + 1) gc8) (L ++ [by8 (dd.size : Int)] ++ dd.data.toList ++ [by8 kk]) := (H7.out.1.on ((Below.refl _ _).alloc (Nat.le_refl _) _)).grow (by simp [HL.out]; have : dd.data.toList.length = dd.size := rfl; omega) g1.out g2.out
          have hr8 := g1.out
          clear g1 g2 x0 x1 x2 hr7
          obtain ⟨x0, x1, x2⟩ := three sb8
          have hlt8 := I8.lt
          have hq8 : Sl w8 (.slice ta es.length tc) es := HQ.out.below I8.bel
          have H8 : Hid (IbS w w8 (.cells #[.int .i64 m.guest, .slice ra m.root.length rc, .slice sa m.slots.length sc, .slice fa m.refs.length fc, .slice na m.snaps.length nc] 26) (.slice ga8 (N + 1 + dd.size + 1) gc8) (L ++ [by8 (dd.size : Int)] ++ dd.data.toList ++ [by8 kk])) := I8
          clear I8 sb8 H7
          have HBo : Hid (Calls Try.prog 40 #[.slice ta es.length tc] w8 fun r w' => ∃ va, r = .returned va ∧ BoS w8 w' va (es.map by8)) := bytesOf_is hq8 (by omega)
          clear hq8
          go_wp2_with (first | (at_builtin; refine wpList_addR (by rfl) _ _ (by rfl) (B := w.heap.size + 1) (n := (N + 1 + dd.size + 1)) (v := .slice ga8 (N + 1 + dd.size + 1) gc8) (xs := (L ++ [by8 (dd.size : Int)] ++ dd.data.toList ++ [by8 kk])) (by rfl) (by rfl) hv9 hr9 (by rw [List.length_map]; omega) (by omega) ?_; intro vA wA g1 g2; obtain ⟨gaA, gcA, hv⟩ := row_slice g1.out; subst hv) | (go_at_call 40; refine HBo.out.mono ?_; rintro e9 w9 ⟨va, rfl, hBo⟩; have hv9 := hBo.row; have hr9 := row_blkW hr8 (W' := w9) (fun q hq => hBo.bel.block q (hr8.lt q hq).2); have I9 := H8.out.on hBo.bel; have hlt9 := I9.lt; have HI9 := Hid_mkC I9; clear I9 hBo))
          have HN : Hid (IbS w wA (.cells #[.int .i64 m.guest, .slice ra m.root.length rc, .slice sa m.slots.length sc, .slice fa m.refs.length fc, .slice na m.snaps.length nc] 26) (.slice gaA ((N + 1 + dd.size + 1) + es.length) gcA) (((by8 m.guest :: by8 (m.slots.length : Int) :: []) ++ m.slots.flatMap slotB ++ [by8 (m.snaps.length : Int)]) ++ (m.snaps.take (k + 1)).flatMap snapB)) := by
            rw [HN0.out]
            have e1 : L ++ snapB (dd, kk, es) = (L ++ [by8 (dd.size : Int)] ++ dd.data.toList ++ [by8 kk]) ++ es.map by8 := by unfold snapB; simp
            rw [e1]
            have key := HI9.out.grow (l' := (L ++ [by8 (dd.size : Int)] ++ dd.data.toList ++ [by8 kk]) ++ es.map by8) (by simp [HL.out]; have : dd.data.toList.length = dd.size := rfl; omega) g1.out g2.out
            rw [List.length_map] at key
            exact key
          go_roundw
          case rel => exact ⟨k + 1, _, by omega, by go_num, rfl, HN⟩
          case measure => simp [intOf]; omega
        · have hki : ¬ (k : Int) < (m.snaps.length : Int) := by omega
          have ek : k = m.snaps.length := by omega
          have hI := HC.out
          rw [show m.snaps.take k = m.snaps by rw [ek, List.take_length]] at hI
          obtain ⟨w5, hrn⟩ : ∃ X, X = wr := ⟨_, rfl⟩
          subst hrn
          obtain ⟨L5, hL⟩ : ∃ X, (((by8 m.guest :: by8 (m.slots.length : Int) :: []) ++ m.slots.flatMap slotB ++ [by8 (m.snaps.length : Int)]) ++ m.snaps.flatMap snapB) = X := ⟨_, rfl⟩
          have hlen : L5.length ≤ 1000 := by
            rw [← hL]
            have h1 := flatB_len (c := 9) (B := slotB) m.slots (fun s hs => slotB_len (List.all_eq_true.1 HOk.out s hs))
            have h2 := flatB_len (c := 14) (B := snapB) m.snaps (fun s hs => snapB_len HP.out.2 hs)
            simp only [List.length_append, List.length_cons, List.length_nil]
            omega
          rw [hL] at hI
          have HLe : Hid (imgB m = L5 ++ m.root.map by8) := by show _ = _; rw [← hL]; unfold imgB; simp
          obtain ⟨N, hN⟩ : ∃ X, L5.length = X := ⟨_, rfl⟩
          have hrow := hI.row
          rw [hN] at hrow hlen
          obtain ⟨pa, pc, rfl⟩ := row_slice hrow
          have HL : Hid (L5.length = N) := hN
          have hlt := hI.lt
          have hn0 := hI.box
          obtain ⟨c0, c1, c2, c3, c4⟩ := five hn0
          have HI5 : Hid (IbS w w5 (.cells #[.int .i64 m.guest, .slice ra m.root.length rc, .slice sa m.slots.length sc, .slice fa m.refs.length fc, .slice na m.snaps.length nc] 26) (.slice pa N pc) L5) := hI
          have HBo : Hid (Calls Try.prog 40 #[.slice ra m.root.length rc] w5 fun r w' => ∃ va, r = .returned va ∧ BoS w5 w' va (m.root.map by8)) := bytesOf_is (HI.out.four.1.below hI.bel) (by omega)
          clear hI hN hL HC HB0 hn0 ek hlk hk
          go_wp2_with (first | (at_builtin; refine wpList_addR (by rfl) _ _ (by rfl) (B := w.heap.size + 1) (n := N) (v := .slice pa N pc) (xs := L5) (by rfl) (by rfl) hv9 hr9 (by rw [List.length_map]; omega) (by omega) ?_; intro vA wA g1 g2; obtain ⟨gaA, gcA, hv⟩ := row_slice g1.out; subst hv; have IA : IbS w wA (.cells #[.int .i64 m.guest, .slice ra m.root.length rc, .slice sa m.slots.length sc, .slice fa m.refs.length fc, .slice na m.snaps.length nc] 26) (.slice gaA (N + (m.root.map by8).length) gcA) (imgB m) := (by rw [HLe.out]; exact HI9.out.grow (by simp [HL.out]) g1.out g2.out); have hcv : (convert 68 9 (.slice gaA (N + m.root.length) gcA)).run Try.prog wA = .ok (.string (bstr (imgB m))) wA := (by have h9 := conv_row IA.row; rw [List.length_map] at h9; exact h9); have HBA : Hid (Below w.heap.size w wA) := IA.bel; clear IA g1 g2) | (go_at_call 40; refine HBo.out.mono ?_; rintro e9 w9 ⟨va, rfl, hBo⟩; have hv9 := hBo.row; have hr9 := row_blkW hrow (W' := w9) (fun q hq => hBo.bel.block q (hrow.lt q hq).2); have I9 := HI5.out.on hBo.bel; have hlt9 := I9.lt; have HI9 := Hid_mkC I9; clear I9 hBo))
          go_ret
          exact ⟨rfl, HBA.out⟩
theorem imgBytes_is {w : World} {v : Value} {m : ImgD} (h : Img w v m) (hs : shapeE m = 0) {S : ByteArray} (hS : bstr (imgB m) = S) :
    Calls Try.prog 13 #[v] w fun r w' => r = .returned (.string S) ∧ Below w.heap.size w w' := by
  have h' := h
  obtain ⟨ra, rc, sa, sc, fa, fc, na, nc, rfl, _⟩ := h.parts
  subst hS
  exact imgBytes_at ra rc sa sc fa fc na nc m w h' hs
end Go.Proofs.Ytehleeibgkpjmag
