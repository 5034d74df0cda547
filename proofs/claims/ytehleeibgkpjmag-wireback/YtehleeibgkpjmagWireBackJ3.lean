/- Texts joined: Counts, TCheck, TChk2, RefA, RefB, CntF, RefP, RefC, BareIn, SlotErr, RefD, RefE, TLook, Z4, RtI, Cted, ExtP, Grab, WrP, WrQ, OwnI, OwnJ, CopyI. -/
import Derived.Test.YtehleeibgkpjmagWireBackJ2
import Derived.Deep.QuietTactic
import Derived.BigQuiet
import Derived.Test.YtehleeibgkpjmagWireBackJ1
import Derived.Deep.RegionHeld3
import Derived.WalkKit
import Derived.OneCell
import Derived.Laws.OwnMore
import Derived.Maps.AppendAt
import Derived.Deep.AppendLies
set_option linter.unusedVariables false
set_option linter.unusedSimpArgs false
/- Contract of Counts. -/
namespace Go.Proofs.Ytehleeibgkpjmag
open Go.RowKit Go.Shelf
set_option maxRecDepth 20000
attribute [local go_sem] Oper.semAt_some

theorem info3 : (Try.prog.info? 3).map (fun i => (i.zero, i.size, i.bytes)) = some (some (.int .i64 0), 1, 8) := by kernel_rfl
theorem mk_ints (n : Nat) (hn : n ≤ 40) (W : World) : (Instr.makeSlice 22 (.int .i64 (n : Int)) (.int .i64 (n : Int))).run Try.prog W = .ok (.slice (some ⟨W.heap.size, 0, none⟩) n n) (W.alloc (.cells ((List.replicate n (0 : Int)).map (Value.int .i64)).toArray 3)) := by
  have hi := info3
  cases h : Try.prog.info? 3 with
  | none => rw [h] at hi; cases hi
  | some i =>
    rw [h] at hi
    simp at hi
    have := run_make (P := Try.prog) W 22 3 i (.int .i64 0) Try.underlying22 h hi.1 .i64 .i64 n n (by omega) (by omega) (by rw [hi.2.2]; omega) (by omega)
    rw [this, hi.2.1]
    have e : madeCells (Value.int .i64 0).cells (((n : Int)).toNat * 1) = ((List.replicate n (0 : Int)).map (Value.int .i64)).toArray := by
      apply Array.ext
      · simp [madeCells]
      · intro j h1 h2
        simp [madeCells, Value.cells, Nat.mod_one]
    rw [e]
    simp

abbrev RootC (w : World) (L : List SlotD) : Type := { p : RootV × SnapD // Rt w p.1 p.2 ∧ rootFit L p.2.2.1 p.2.2.2 = true ∧ guestOK p.2.2.1 = true }
theorem rootsC_of {w : World} {L : List SlotD} : ∀ (zs : List (RootA w)), (∀ x ∈ zs, rootFit L x.1.2.2.1 x.1.2.2.2 = true ∧ guestOK x.1.2.2.1 = true) → ∃ ys : List (RootC w L), ys.map (fun x => x.1.1) = zs.map (fun x => x.1.1) ∧ ys.map (fun x => x.1.2) = zs.map (fun x => x.1.2)
  | [], _ => ⟨[], rfl, rfl⟩
  | x :: zs, h => by
    obtain ⟨ys, h1, h2⟩ := rootsC_of zs (fun y hy => h y (List.mem_cons_of_mem _ hy))
    exact ⟨⟨x.1, x.2, h x List.mem_cons_self⟩ :: ys, by rw [List.map_cons, List.map_cons, h1], by rw [List.map_cons, List.map_cons, h2]⟩
def goneC {w : World} (L : List SlotD) (pre : List (RootC w L)) : List Int := (pre.flatMap (fun x => x.1.2.2.2)).foldl (stepC L) (List.replicate L.length 0)
theorem goneC_snoc {w : World} (L : List SlotD) (pre : List (RootC w L)) (x : RootC w L) : goneC L (pre ++ [x]) = x.1.2.2.2.foldl (stepC L) (goneC L pre) := by
  unfold goneC
  rw [List.flatMap_append, List.foldl_append]
  simp
theorem fold_length (L : List SlotD) (r : List Int) : ∀ l : List Int, (r.foldl (stepC L) l).length = l.length := by
  induction r with
  | nil => exact fun l => rfl
  | cons k r ih => exact fun l => by rw [List.foldl_cons, ih, stepC_length]
theorem goneC_length {w : World} (L : List SlotD) (pre : List (RootC w L)) : (goneC L pre).length = L.length := by unfold goneC; rw [fold_length]; simp
theorem tab4 {L : List SlotD} (h : slotsE L = 0) (k : Int) : (tabOf L k).length ≤ 4 := by
  unfold tabOf
  by_cases hk : k.toNat < L.length
  · have := slotsE_all h hk
    have e : L.getD k.toNat default = L[k.toNat] := by simp [List.getD, hk]
    rw [e]
    unfold okD slotOK at this
    split at this
    · simp at this; rw [this.2]; exact Nat.zero_le _
    · split at this
      · simp at this; rw [this.2]; exact Nat.zero_le _
      · split at this
        · simp at this; have := ckE_len this.1; omega
        · cases this
  · have e : L.getD k.toNat default = default := by simp [List.getD, hk]
    rw [e]
    exact Nat.zero_le _
theorem Bnd.stepC {L : List SlotD} (h : slotsE L = 0) {l : List Int} {B : Nat} (hb : Bnd l B) (k : Int) : Bnd (stepC L l k) (B + 5) := by
  unfold Go.Proofs.Ytehleeibgkpjmag.stepC
  split
  · exact hb.mono (by omega)
  · split
    · exact ((hb.inc k).pagesC).mono (by have := tab4 h k; omega)
    · exact (hb.inc k).mono (by omega)
theorem Bnd.fold {L : List SlotD} (h : slotsE L = 0) : ∀ {r l : List Int} {B : Nat}, Bnd l B → Bnd (r.foldl (Go.Proofs.Ytehleeibgkpjmag.stepC L) l) (B + 5 * r.length)
  | [], _, _, hb => hb
  | k :: r, l, B, hb => by
    have := Bnd.fold h (r := r) (hb.stepC h k)
    exact this.mono (by simp; omega)
theorem root4 {w : World} {L : List SlotD} (x : RootC w L) : x.1.2.2.2.length ≤ 4 := by
  have h := x.2.2.1
  have hg := x.2.2.2
  unfold rootFit at h
  unfold guestOK at hg
  simp only [Bool.and_eq_true, decide_eq_true_eq] at h hg
  omega
theorem rootEs {w : World} {L : List SlotD} (x : RootC w L) : x.1.2.2.2.all (rootE L) = true := by
  have h := x.2.2.1
  unfold rootFit at h
  simp only [Bool.and_eq_true] at h
  exact h.2.1
theorem flat_len {w : World} {L : List SlotD} : ∀ pre : List (RootC w L), (pre.flatMap (fun x => x.1.2.2.2)).length ≤ 4 * pre.length
  | [] => Nat.zero_le _
  | x :: pre => by
    have h1 := flat_len pre
    have h2 := root4 x
    rw [List.flatMap_cons, List.length_append, List.length_cons]
    omega
theorem Bnd.gone {w : World} {L : List SlotD} (h : slotsE L = 0) (pre : List (RootC w L)) : Bnd (goneC L pre) (20 * pre.length) := by
  unfold goneC
  exact (Bnd.fold h (Bnd.zero L.length)).mono (by have := flat_len pre; omega)
theorem fold_take (L : List SlotD) (l r : List Int) (k : Nat) (hk : k < r.length) : (r.take (k + 1)).foldl (stepC L) l = stepC L ((r.take k).foldl (stepC L) l) (r.getD k 0) := by
  have e : r.getD k 0 = r[k] := by simp [List.getD, hk]
  rw [List.take_add_one, List.getElem?_eq_getElem hk, Option.toList_some, List.foldl_append, e]
  rfl
theorem Only.keepsFrom {g n : Nat} {l : List Int} {W W' : World} (h : Only g W W') (hl : LAt W g l) : KeepsFrom n W W' := ⟨Nat.le_of_eq h.size.symm, fun k o _ hk ho => by
  by_cases e : k = g
  · subst e
    rw [show W.heap[k]? = _ from hl] at hk
    cases hk
    cases ho
  · exact (h.block k e).trans hk⟩

structure CI (w : World) (sn g : Nat) (box : Obj) (l : List Int) (W : World) : Prop where
  l : LAt W g l
  x : Boxed W (g + 1) 22 (.slice (some ⟨g, 0, none⟩) sn sn)
  m : W.heap[w.heap.size]? = some box
  k : W.heap[g + 1 + 1]? = some box
  b : Below w.heap.size w W
  z : g + 1 + 1 + 1 ≤ W.heap.size
theorem CI.own {w : World} {sn g : Nat} {box : Obj} {l : List Int} {X Y : World} {row : Option Nat} (h : CI w sn g box l X) (hg : X.grownBy Y row) (hr : ∀ r, row = some r → ∃ o : Obj, X.heap[r]? = some o ∧ o.isCells = false) (hz : ∀ r, row = some r → g + 1 + 1 < r ∧ w.heap.size < r) : CI w sn g box l Y := by
  refine ⟨cells_kept h.l hg hr, cells_kept h.x hg hr, (hg.block _ (Array.getElem?_eq_some_iff.1 h.m).1 (fun e => ?_)).trans h.m, (hg.block _ (Array.getElem?_eq_some_iff.1 h.k).1 (fun e => ?_)).trans h.k, h.b.grown hg h.b.size (fun k e => Nat.le_of_lt (hz k e).2), Nat.le_trans h.z hg.size⟩
  · have := (hz _ e.symm).2; omega
  · have := (hz _ e.symm).1; omega
theorem CI.alloc {w : World} {sn g : Nat} {box : Obj} {l : List Int} {X : World} (h : CI w sn g box l X) (o : Obj) : CI w sn g box l (X.alloc o) := h.own (World.grownBy_alloc X o none) (by simp) (by simp)
theorem CI.only {w : World} {sn g : Nat} {box : Obj} {l l' : List Int} {X Y : World} (h : CI w sn g box l X) (ho : Only g X Y) (hl : LAt Y g l') (hg : w.heap.size < g) : CI w sn g box l' Y :=
  ⟨hl, (ho.block _ (by omega)).trans h.x, (ho.block _ (by omega)).trans h.m, (ho.block _ (by omega)).trans h.k, h.b.trans (ho.below (Nat.le_of_lt hg)), by rw [ho.size]; exact h.z⟩

theorem counts_bad (gm : Int) (ra : Option Addr) (rn rc : Nat) (sa : Option Addr) (sn sc : Nat) (fa : Option Addr) (fn fc : Nat) (na : Option Addr) (nn nc : Nat) (m : ImgD) (E : Int) (w : World) (h : Img w (Value.agg #[.int .i64 gm, .slice ra rn rc, .slice sa sn sc, .slice fa fn fc, .slice na nn nc]) m) (hE : shapeE m = E) (hne : (E != 0) = true) :
    Calls Try.prog 47 #[Value.agg #[.int .i64 gm, .slice ra rn rc, .slice sa sn sc, .slice fa fn fc, .slice na nn nc]] w fun r w' => r = .returned (.tuple #[.slice none 0 0, .int .i64 E]) ∧ Below w.heap.size w w' := by
  have b0 : Below w.heap.size w (w.alloc (.cells #[.int .i64 gm, .slice ra rn rc, .slice sa sn sc, .slice fa fn fc, .slice na nn nc] 26)) := (Below.refl _ _).alloc (Nat.le_refl _) _
  have hcall := shape_is (h.below b0) hE
  clear h hE
  refine (callsIn_wide (n := 9)).1 ?_
  refine callsIn_of_wp_marks Try.func47 rfl trivial ?_ rfl
  simp only [Try.ntmps47, List.size_toArray, List.length_cons, List.length_nil, Nat.reduceAdd, Nat.reduceSub, Array.replicate_succ, Array.replicate_zero, List.push_toArray, List.append_toArray, List.nil_append, List.cons_append]
  gi_wp2_with (refine ⟨trivial, ?_⟩; gi_at_call 72; refine (callsIn_wide.2 hcall).mono ?_; rintro e w1 ⟨rfl, b1⟩)
  refine ⟨_, results_tmp2 rfl _ _ _, rfl, Below.on b0 b1⟩

set_option maxRecDepth 100000 in
set_option maxHeartbeats 8000000 in
theorem counts_at (gm : Int) (ra : Option Addr) (rn rc : Nat) (sb so : Nat) (sn sc : Nat) (fa : Option Addr) (fn fc : Nat) (na : Option Addr) (nn nc : Nat) (r : List Int) (L : List SlotD) (S : List SnapD) (refs : List Int) (w : World) (hr : Sl w (.slice ra rn rc) r) (hs : Slots w (.slice (some ⟨sb, so, none⟩) sn sc) L) (hf : Sl w (.slice fa fn fc) refs) (hS : Snaps w (.slice na nn nc) S) (hsn : L.length = sn) (hsn40 : sn ≤ 40) (hsb : sb < w.heap.size) (hcl : ∀ j, (h : j < L.length) → SlAt w sb (so + j * 3) L[j])
    (hE : shapeE ⟨gm, r, L, refs, S⟩ = 0) (hLs : slotsE L = 0) (hS3 : S.length ≤ 3) (hT : tabFit L = true) (hG : ((⟨#[]⟩, gm, r) :: S).all (fun s => guestOK s.2.1) = true) (hF : ((⟨#[]⟩, gm, r) :: S).all (fun s => rootFit L s.2.1 s.2.2) = true) :
    Calls Try.prog 47 #[Value.agg #[.int .i64 gm, .slice ra rn rc, .slice (some ⟨sb, so, none⟩) sn sc, .slice fa fn fc, .slice na nn nc]] w fun e w' => (∃ g, w.heap.size ≤ g ∧ e = .returned (.tuple #[.slice (some ⟨g, 0, none⟩) sn sn, .int .i64 0]) ∧ LAt w' g ((((⟨#[]⟩, gm, r) :: S).flatMap (fun s => s.2.2)).foldl (stepC L) (List.replicate L.length 0))) ∧ Below w.heap.size w w' := by
  have b0 : Below w.heap.size w (w.alloc (.cells #[.int .i64 gm, .slice ra rn rc, .slice (some ⟨sb, so, none⟩) sn sc, .slice fa fn fc, .slice na nn nc] 26)) := (Below.refl _ _).alloc (Nat.le_refl _) _
  have m0 : (w.alloc (.cells #[.int .i64 gm, .slice ra rn rc, .slice (some ⟨sb, so, none⟩) sn sc, .slice fa fn fc, .slice na nn nc] 26)).heap[w.heap.size]? = some (.cells #[.int .i64 gm, .slice ra rn rc, .slice (some ⟨sb, so, none⟩) sn sc, .slice fa fn fc, .slice na nn nc] 26) := World.alloc_heap_new _ _
  have hI : Img w (Value.agg #[.int .i64 gm, .slice ra rn rc, .slice (some ⟨sb, so, none⟩) sn sc, .slice fa fn fc, .slice na nn nc]) ⟨gm, r, L, refs, S⟩ := ⟨_, _, _, _, rfl, hr, hs, hf, hS⟩
  have hcall := shape_is (hI.below b0) hE
  have hmk := mk_ints sn hsn40
  clear hI hE hf
  refine (callsIn_wide (n := 9)).1 ?_
  refine callsIn_of_wp_marks Try.func47 rfl trivial ?_ rfl
  simp only [Try.ntmps47, List.size_toArray, List.length_cons, List.length_nil, Nat.reduceAdd, Nat.reduceSub, Array.replicate_succ, Array.replicate_zero, List.push_toArray, List.append_toArray, List.nil_append, List.cons_append]
  gi_wp2_with (first
    | (refine ⟨trivial, ?_⟩; gi_at_call 72; refine (callsIn_wide.2 hcall).mono ?_; rintro e w1 ⟨rfl, b1⟩; have m1 := cells_below m0 b1 (by simp); obtain ⟨c0, c1, c2, c3, c4⟩ := five m1; have m2 := cells_alloc (cells_alloc m1 (.cells (Array.replicate sn (.int .i64 0)) 3)) (.cells #[.slice (some ⟨w1.heap.size, 0, none⟩) sn sn] 22); obtain ⟨d0, d1, d2, d3, d4⟩ := five m2)
    | (refine ⟨trivial, ?_⟩; gi_at_call 73; refine (roots_in Fence.wide _ trivial rfl _ _ _ _ _ _).mono ?_; rintro e w3 ⟨rfl, rfl⟩))
  have hbw1 := Below.on b0 b1
  have hmlt : w.heap.size < w1.heap.size := (Array.getElem?_eq_some_iff.1 m1).1
  obtain ⟨Wm, hWm⟩ : ∃ Wm, (w1.alloc (.cells (Array.replicate sn (.int .i64 0)) 3)).alloc (.cells #[.slice (some ⟨w1.heap.size, 0, none⟩) sn sn] 22) = Wm := ⟨_, rfl⟩
  have l2 : LAt Wm w1.heap.size (List.replicate sn 0) := by
    rw [← hWm]
    have := cells_alloc (World.alloc_heap_new w1 (.cells (Array.replicate sn (.int .i64 0)) 3)) (.cells #[.slice (some ⟨w1.heap.size, 0, none⟩) sn sn] 22)
    show _ = _
    rw [this]
    simp
  have x2 : Boxed Wm (w1.heap.size + 1) 22 (.slice (some ⟨w1.heap.size, 0, none⟩) sn sn) := by
    rw [← hWm]
    have := Boxed.new (w1.alloc (.cells (Array.replicate sn (.int .i64 0)) 3)) 22 (.slice (some ⟨w1.heap.size, 0, none⟩) sn sn)
    simpa using this
  have hb2 : Below w.heap.size w Wm := by
    rw [← hWm]
    exact (hbw1.alloc hbw1.size _).alloc (by have := hbw1.size; simp; omega) _
  have hz2 : Wm.heap.size = w1.heap.size + 1 + 1 := by rw [← hWm]; simp
  rw [hWm] at m2 d0 d1 d2 d3 d4 ⊢
  have hz2a := Nat.le_of_eq hz2
  have hz2b := Nat.le_of_eq hz2.symm
  have m3 : (Wm.alloc (.cells #[.int .i64 gm, .slice ra rn rc, .slice (some ⟨sb, so, none⟩) sn sc, .slice fa fn fc, .slice na nn nc] 26)).heap[w1.heap.size + 1 + 1]? = some (.cells #[.int .i64 gm, .slice ra rn rc, .slice (some ⟨sb, so, none⟩) sn sc, .slice fa fn fc, .slice na nn nc] 26) := by rw [← hz2]; exact World.alloc_heap_new _ _
  have m3' := cells_alloc m2 (.cells #[.int .i64 gm, .slice ra rn rc, .slice (some ⟨sb, so, none⟩) sn sc, .slice fa fn fc, .slice na nn nc] 26)
  have l3 : LAt (Wm.alloc (.cells #[.int .i64 gm, .slice ra rn rc, .slice (some ⟨sb, so, none⟩) sn sc, .slice fa fn fc, .slice na nn nc] 26)) w1.heap.size (List.replicate sn 0) := cells_alloc l2 _
  have x3 := x2.alloc (.cells #[.int .i64 gm, .slice ra rn rc, .slice (some ⟨sb, so, none⟩) sn sc, .slice fa fn fc, .slice na nn nc] 26)
  have hb3 : Below w.heap.size w (Wm.alloc (.cells #[.int .i64 gm, .slice ra rn rc, .slice (some ⟨sb, so, none⟩) sn sc, .slice fa fn fc, .slice na nn nc] 26)) := hb2.alloc hb2.size _
  have hz3a : (Wm.alloc (.cells #[.int .i64 gm, .slice ra rn rc, .slice (some ⟨sb, so, none⟩) sn sc, .slice fa fn fc, .slice na nn nc] 26)).heap.size ≤ w1.heap.size + 1 + 1 + 1 := by simp; omega
  have hz3b : w1.heap.size + 1 + 1 + 1 ≤ (Wm.alloc (.cells #[.int .i64 gm, .slice ra rn rc, .slice (some ⟨sb, so, none⟩) sn sc, .slice fa fn fc, .slice na nn nc] 26)).heap.size := by simp; omega
  obtain ⟨zs0, hL0, hzs0⟩ := rootsA_of hr hS hS3 hb3 m3
  obtain ⟨xs, hz1, hzx⟩ := rootsC_of (L := L) zs0 (fun x hx => by
    rw [← hzs0, List.all_eq_true] at hF hG
    exact ⟨hF x.1.2 (List.mem_map.2 ⟨x, hx, rfl⟩), hG x.1.2 (List.mem_map.2 ⟨x, hx, rfl⟩)⟩)
  have HxS : Hid (xs.map (fun x => x.1.2) = (⟨#[]⟩, gm, r) :: S) := hzx.trans hzs0
  have hxl : xs.length ≤ 4 := by
    have := congrArg List.length HxS.out
    simp at this
    omega
  rw [← hz1] at hL0
  obtain ⟨W0, hW0⟩ : ∃ W0, Wm.alloc (.cells #[.int .i64 gm, .slice ra rn rc, .slice (some ⟨sb, so, none⟩) sn sc, .slice fa fn fc, .slice na nn nc] 26) = W0 := ⟨_, rfl⟩
  rw [hW0] at m3 m3' l3 x3 hb3 hz3a hz3b hL0
  rw [hW0]
  have HN : Hid (L.length = sn) := hsn
  have hI0 : CI w sn w1.heap.size (.cells #[.int .i64 gm, .slice ra rn rc, .slice (some ⟨sb, so, none⟩) sn sc, .slice fa fn fc, .slice na nn nc] 26) (goneC L ([] : List (RootC w L))) W0 := ⟨by have := l3; rw [← HN.out] at this; exact this, x3, m3', m3, hb3, hz3b⟩
  have hslot : ∀ j, (h : j < L.length) → ∃ tv, w.cell? ⟨sb, so + j * 3 + 2, none⟩ = some tv ∧ Sl w tv L[j].2.2 := fun j h => by
    obtain ⟨tv, _, _, c3, hsl⟩ := hcl j h
    exact ⟨tv, c3, hsl⟩
  have HSl : Hid (∀ j, (h : j < L.length) → ∃ tv, w.cell? ⟨sb, so + j * 3 + 2, none⟩ = some tv ∧ Sl w tv L[j].2.2) := hslot
  clear hWm hW0 hcall hmk c0 c1 c2 c3 c4 d0 d1 d2 d3 d4 m0 m1 m2 l2 x2 b0 b1 hb2 hz2 hz2a hz2b m3 m3' l3 x3 hz1 hzx hzs0 hsn hslot hcl
  refine wpIn_rangeFunc_ownH rfl (by omega) (gf := 98) (lb := #[.pointer (some ⟨w1.heap.size + 1 + 1, 0, none⟩)]) rfl trivial (enters_of Try.func98 (by kernel_rfl) rfl)
    (roots_stops (fun x : RootC w L => x.1.1) Fence.wide 8 trivial rfl (by omega) (w1.heap.size + 1 + 1) w.heap.size xs W0 hL0 (by omega) (by omega)) KpR.trans (KpR.put (by omega) (by omega)) (Below.refl _ _) (fun _ => rfl)
    (fun pre W => CI w sn w1.heap.size (.cells #[.int .i64 gm, .slice ra rn rc, .slice (some ⟨sb, so, none⟩) sn sc, .slice fa fn fc, .slice na nn nc] 26) (goneC L pre) W)
    (fun _ _ _ => False)
    (fun pre X Y row hs hg hr => hs.own hg (fun r e => (hr r e).2) (fun r e => by have := (hr r e).1; omega))
    (fun _ _ _ _ _ hs _ _ => hs)
    hI0
    (fun x a' W => ∃ Bx, W.heap[Bx]? = some (.cells #[.string x.1.1.nm, .int .i64 x.1.1.g, .slice x.1.1.a x.1.1.n x.1.1.c] 74) ∧ w1.heap.size + 1 + 1 + 1 ≤ Bx ∧ a' = { tmps := #[Value.agg #[.int .i64 gm, .slice ra rn rc, .slice (some ⟨sb, so, none⟩) sn sc, .slice fa fn fc, .slice na nn nc], .pointer (some ⟨w.heap.size, 0, none⟩), .slice none 0 0, .int .i64 0, .int .i64 0, .pointer (some ⟨w1.heap.size + 1, 0, none⟩), .pointer (some ⟨Bx, 0, none⟩), undef, undef, Value.agg #[.int .i64 gm, .slice ra rn rc, .slice (some ⟨sb, so, none⟩) sn sc, .slice fa fn fc, .slice na nn nc], .int .i64 0, .int .i64 0, .bool false, undef, .pointer (some ⟨w.heap.size, 2, none⟩), .slice (some ⟨sb, so, none⟩) sn sc, .int .i64 sn, .slice (some ⟨w1.heap.size, 0, none⟩) sn sn, Value.agg #[.int .i64 gm, .slice ra rn rc, .slice (some ⟨sb, so, none⟩) sn sc, .slice fa fn fc, .slice na nn nc], .func (.func 98) #[] #[.pointer (some ⟨w1.heap.size + 1 + 1, 0, none⟩)], .agg #[.string x.1.1.nm, .int .i64 x.1.1.g, .slice x.1.1.a x.1.1.n x.1.1.c], undef, undef, undef, undef, undef, undef, undef, undef, undef, undef, undef, undef, undef, undef, undef, undef, undef, undef, undef, undef, undef, undef, undef, undef, undef, undef, undef, undef, undef, undef], defers := [] })
    (fun x a' _ X Y row hs hg hr => by obtain ⟨Bx, e1, e2, e3⟩ := hs; exact ⟨Bx, cells_kept e1 hg (fun r e => (hr r e).2), e2, e3⟩)
    ?assign ?body ?done ?stop
  case assign =>
    rintro l pre x W K hI hK
    unfold encRoot
    gi_wp2
    exact hK _ _ ((KeepsOthers.alloc _ _).from _) (KpR.alloc (by have := hI.z; omega) (by have := hI.z; omega) _) (hI.alloc _) ⟨W.heap.size, World.alloc_heap_new _ _, hI.z, rfl⟩
  case stop =>
    rintro D c pre W _ _ h _
    exact h.elim
  case done =>
    rintro D ys W hD rfl hI hK
    have cX := hI.x.cell
    have hfin : LAt (W.putObj D (.deferred none)) w1.heap.size ((((⟨#[]⟩, gm, r) :: S).flatMap (fun s => s.2.2)).foldl (stepC L) (List.replicate L.length 0)) := by
      have := hI.l
      unfold goneC at this
      rw [show ys.flatMap (fun x => x.1.2.2.2) = (ys.map (fun x => x.1.2)).flatMap (fun s => s.2.2) by rw [List.flatMap_map], HxS.out] at this
      exact (World.putObj_heap_other (by omega)).trans this
    gi_wp2
    refine ⟨by simp, .inl ⟨_, _, rfl, run_takeDeferred hK, ?_⟩⟩
    exact ⟨_, results_tmp2 rfl _ _ _, ⟨w1.heap.size, by omega, rfl, hfin⟩, below_put hI.b (by omega) _⟩
  case body =>
    rintro l pre x a' W hl ⟨rr, hrr⟩ hI ⟨Bx, hBx, hBlt, rfl⟩ hlt
    obtain ⟨e0, e1, e2⟩ := three hBx
    have h4 := root4 x
    obtain ⟨hrl, hrm, _, hcc⟩ := x.2.1.2.2.cells
    have HR : Hid (x.1.2.2.2.length = x.1.1.n) := hrl
    have hn4 : x.1.1.n ≤ 4 := by omega
    have HC : Hid (∀ j, j < x.1.1.n → ∃ b off, x.1.1.a = some ⟨b, off, none⟩ ∧ b < w.heap.size ∧ w.cell? ⟨b, off + j, none⟩ = some (.int .i64 (x.1.2.2.2.getD j 0))) := hcc
    have HI : Hid (CI w sn w1.heap.size (.cells #[.int .i64 gm, .slice ra rn rc, .slice (some ⟨sb, so, none⟩) sn sc, .slice fa fn fc, .slice na nn nc] 26) (goneC L pre) W) := hI
    have hp4 : pre.length ≤ 4 := by omega
    obtain ⟨xa, hxa⟩ : ∃ xa, x.1.1.a = xa := ⟨_, rfl⟩
    obtain ⟨xn, hxn⟩ : ∃ xn, x.1.1.n = xn := ⟨_, rfl⟩
    rw [hxa, hxn] at HC e2 ⊢
    rw [hxn] at hn4 HR
    clear hcc hrl h4 hI hxa hxn
    gi_wp2
    gi_loopw [8, 24] (fun _ i wr => ∃ k : Nat, k ≤ xn ∧ i = .int .i64 k ∧ Hid (LAt wr w1.heap.size ((x.1.2.2.2.take k).foldl (stepC L) (goneC L pre))) ∧ Only w1.heap.size W wr) (fun _ i _ => xn - (intOf i).toNat)
    case atStart => exact ⟨0, Nat.zero_le _, rfl, HI.out.l, Only.refl _ _⟩
    case round =>
      obtain ⟨k, hk, rfl, HLk, hon⟩ := hrel
      by_cases hlk : k < xn
      · obtain ⟨b, off, rfl, hbl, hcell⟩ := HC.out k hlk
        have hki : (k : Int) < (xn : Int) := by omega
        have hkr : k < x.1.2.2.2.length := by rw [HR.out]; exact hlk
        have hE := all_at (rootEs x) hkr
        have hstep := fold_take L (goneC L pre) x.1.2.2.2 k hkr
        obtain ⟨q, hq⟩ : ∃ q, x.1.2.2.2.getD k 0 = q := ⟨_, rfl⟩
        rw [hq] at hE hstep hcell
        obtain ⟨lk, hlke⟩ : ∃ lk, (x.1.2.2.2.take k).foldl (stepC L) (goneC L pre) = lk := ⟨_, rfl⟩
        have hlen : lk.length = sn := by rw [← hlke, fold_length, goneC_length, HN.out]
        have hbd : Bnd lk 100 := by
          rw [← hlke]
          refine (Bnd.fold hLs (Bnd.gone hLs pre)).mono ?_
          have : (x.1.2.2.2.take k).length ≤ 4 := by simp; omega
          omega
        rw [hlke] at hstep
        have HLk' : Hid (LAt wr w1.heap.size lk) := by rw [← hlke]; exact HLk
        have hbr : Below w.heap.size w wr := HI.out.b.trans (hon.below (Nat.le_of_lt hmlt))
        have c1 : wr.cell? ⟨b, off + k, none⟩ = some (.int .i64 q) := (hbr.cell (p := ⟨b, off + k, none⟩) hbl).trans hcell
        have HCI : Hid (CI w sn w1.heap.size (.cells #[.int .i64 gm, .slice ra rn rc, .slice (some ⟨sb, so, none⟩) sn sc, .slice fa fn fc, .slice na nn nc] 26) lk wr) := HI.out.only hon HLk'.out hmlt
        have HS : Hid ((x.1.2.2.2.take (k + 1)).foldl (stepC L) (goneC L pre) = stepC L lk q) := hstep
        clear hstep hlke hcell hq hkr HLk
        by_cases h0 : q = 0
        · have h0' : (q == 0) = true := by simp [h0]
          have H0 : Hid (q = 0) := h0
          clear h0 hE
          gi_wp2
          go_roundw
          case rel => exact ⟨k + 1, by omega, by go_num, by show LAt _ _ _; rw [HS.out]; unfold stepC; rw [if_pos H0.out]; exact HLk'.out, hon⟩
          case measure => simp [intOf]; omega
        · have h0' : (q == 0) = false := by simp [h0]
          rw [rootE_x h0] at hE
          obtain ⟨j, rfl, hj, hkd⟩ := isKd_yes hE
          have hjn : j < sn := by rw [← HN.out]; exact hj
          have hji : (j : Int) < (sn : Int) := by omega
          obtain ⟨c, hc⟩ : ∃ c, lk.getD j 0 = c := ⟨_, rfl⟩
          have cq : wr.cell? ⟨w1.heap.size, j, none⟩ = some (.int .i64 c) := by rw [← hc]; exact HLk'.out.cell (by omega)
          have fq : wr.frozen? ⟨w1.heap.size, j, none⟩ = false := HLk'.out.frozen j
          have hcb := hbd j
          rw [hc] at hcb
          have hcb1 := hcb.1
          have hcb2 := hcb.2
          have cX := HCI.out.x.cell
          have HL1 : Hid (LAt (wr.setCell ⟨w1.heap.size, j, none⟩ (.int .i64 (c + 1))) w1.heap.size (inc lk j)) := by
            show LAt _ _ _
            unfold inc
            rw [Int.toNat_natCast, hc]
            exact HLk'.out.set j (c + 1)
          have HO1 : Hid (Only w1.heap.size wr (wr.setCell ⟨w1.heap.size, j, none⟩ (.int .i64 (c + 1)))) := Only.set _ _ _ _
          have HC1 : Hid (CI w sn w1.heap.size (.cells #[.int .i64 gm, .slice ra rn rc, .slice (some ⟨sb, so, none⟩) sn sc, .slice fa fn fc, .slice na nn nc] 26) (inc lk j) (wr.setCell ⟨w1.heap.size, j, none⟩ (.int .i64 (c + 1)))) := HCI.out.only HO1.out HL1.out hmlt
          have cX1 := HC1.out.x.cell
          have cq1 : (wr.setCell ⟨w1.heap.size, j, none⟩ (.int .i64 (c + 1))).cell? ⟨w1.heap.size, j, none⟩ = some (.int .i64 (c + 1)) := by
            have := HL1.out.cell (j := j) (by rw [inc_length]; omega)
            rw [this]
            unfold inc
            rw [Int.toNat_natCast, getD_set, if_pos ⟨rfl, by omega⟩, hc]
          have hinc : (inc lk j).getD j 0 = c + 1 := by
            unfold inc
            rw [Int.toNat_natCast, getD_set, if_pos ⟨rfl, by omega⟩, hc]
          obtain ⟨f0, f1, f2, f3, f4⟩ := five HC1.out.m
          obtain ⟨tv, ct, hsl⟩ := HSl.out j hj
          have hok := okD_tab (slotsE_all hLs hj) hkd
          obtain ⟨tb, tw, tc, rfl, htc, htb, _⟩ := hsl.four hok.1
          have ct1 : (wr.setCell ⟨w1.heap.size, j, none⟩ (.int .i64 (c + 1))).cell? ⟨sb, so + j * 3 + 2, none⟩ = some (.slice (some ⟨tb, tw, none⟩) 4 tc) := (HC1.out.b.cell (p := ⟨sb, so + j * 3 + 2, none⟩) hsb).trans ct
          have HTb : Hid (tabOf L (j : Int) = L[j].2.2) := by show _ = _; unfold tabOf; simp [List.getD, hj]
          by_cases hc0 : c = 0
          · have hcz : (c + 1 == 1) = true := by simp [hc0]
            have HZ : Hid (stepC L lk j = pagesC (inc lk j) L[j].2.2) := by
              show _ = _
              unfold stepC
              rw [if_neg h0, Int.toNat_natCast, hinc, if_pos (by omega), HTb.out]
            have hent : ∀ e ∈ L[j].2.2, e = 0 ∨ e = -1 ∨ (1 ≤ e ∧ e < (sn : Int)) := fun e he => by
              unfold tabFit at hT
              rw [List.all_eq_true] at hT
              have h1 := hT _ (List.getElem_mem hj)
              rw [List.all_eq_true] at h1
              have h2 := h1 e he
              by_cases e0 : e = 0
              · exact .inl e0
              by_cases e1 : e = -1
              · exact .inr (.inl e1)
              rw [tabE_x e0 e1] at h2
              obtain ⟨i, rfl, hi, _⟩ := isKd_yes h2
              exact .inr (.inr ⟨by omega, by have := HN.out; omega⟩)
            have hcall : ∀ V : World, LAt V w1.heap.size (inc lk j) → Below w.heap.size w V → Calls Try.prog 74 #[.slice (some ⟨w1.heap.size, 0, none⟩) sn sn, .slice (some ⟨tb, tw, none⟩) 4 tc] V fun r w' => (∃ v, r = .returned v) ∧ LAt w' w1.heap.size (pagesC (inc lk j) L[j].2.2) ∧ Only w1.heap.size V w' :=
              fun V h1 h2 => countPages_at w1.heap.size sn (inc lk j) _ 4 tc L[j].2.2 101 V w (by rw [inc_length, hlen]) hsn40 hok.1 (Nat.le_refl _) (by omega) h1 (hbd.inc j) h2 (by omega) hsl hent
            clear hc hc0 h0 hE hcb hok hsl hent ct hinc hbd
            have hmix : Try.prog.follows .mixedOrders = true := by kernel_rfl
            gi_wp2
            gi_region_with_o (first | (refine ⟨trivial, ?_⟩; gi_at_call 74; refine (CallsIn.inRound l (callsIn_wide.2 (hcall _ ?_ ?_))).mono ?_; (first | exact HL1.out | skip); (first | exact ⟨HC1.out.b.os, HC1.out.b.tape, HC1.out.b.output, HC1.out.b.size, HC1.out.b.block⟩ | skip); rintro e w6 ⟨⟨v6, rfl⟩, l6, o6⟩) | (gi_at_call 74; refine (CallsIn.inRound l (callsIn_wide.2 (hcall _ ?_ ?_))).mono ?_; (first | exact HL1.out | skip); (first | exact ⟨HC1.out.b.os, HC1.out.b.tape, HC1.out.b.output, HC1.out.b.size, HC1.out.b.block⟩ | skip); rintro e w6 ⟨⟨v6, rfl⟩, l6, o6⟩))
            all_goals gi_wp2
            all_goals
              go_roundw
              case rel => exact ⟨k + 1, by omega, by go_num, by show LAt _ _ _; rw [HS.out, HZ.out]; exact l6, hon.trans (HO1.out.trans ⟨o6.os, o6.tape, o6.output, o6.size, o6.block⟩)⟩
              case measure => simp [intOf]; omega
          · have hcz : (c + 1 == 1) = false := by simp; omega
            have HZ : Hid (stepC L lk j = inc lk j) := by
              show _ = _
              unfold stepC
              rw [if_neg h0, Int.toNat_natCast, hinc, if_neg (by omega)]
            clear hc hc0 h0 hE hcb hok hsl ct hinc hbd
            gi_wp2
            go_roundw
            case rel => exact ⟨k + 1, by omega, by go_num, by show LAt _ _ _; rw [HS.out, HZ.out]; exact HL1.out, hon.trans HO1.out⟩
            case measure => simp [intOf]; omega
      · have e4 : k = xn := by omega
        subst e4
        have HE : Hid (CI w sn w1.heap.size (.cells #[.int .i64 gm, .slice ra rn rc, .slice (some ⟨sb, so, none⟩) sn sc, .slice fa fn fc, .slice na nn nc] 26) (goneC L (pre ++ [x])) wr) := HI.out.only hon (by
          have := HLk.out
          rw [List.take_of_length_le (by rw [HR.out]; exact Nat.le_refl _)] at this
          rw [goneC_snoc]
          exact this) hmlt
        have HK : Hid (KeepsFrom W0.heap.size W wr ∧ KpR w.heap.size (w1.heap.size + 1 + 1) W wr) := ⟨hon.keepsFrom HI.out.l, hon.below (by omega), hon.block _ (by omega)⟩
        gi_wp2
        exact ⟨HK.out.1, HK.out.2, HE.out⟩
end Go.Proofs.Ytehleeibgkpjmag
/- Contracts of Counts, all ways together; of slices.Equal; of Check and Look. -/
namespace Go.Proofs.Ytehleeibgkpjmag
open Go.RowKit Go.Shelf
set_option maxRecDepth 20000

def cntL (m : ImgD) : List Int := ((rootsOf m).flatMap (fun s => s.2.2)).foldl (stepC m.slots) (List.replicate m.slots.length 0)
theorem cntL_length (m : ImgD) : (cntL m).length = m.slots.length := by unfold cntL; rw [fold_length]; simp

theorem LAt.sl {W : World} {g n : Nat} {l : List Int} (h : LAt W g l) (hn : l.length = n) (hm : n ≤ maxLen) : Sl W (.slice (some ⟨g, 0, none⟩) n n) l := by
  subst hn
  exact ⟨_, _, rfl, hm, Nat.le_refl _, fun _ => ⟨g, 0, rfl, h.lt, fun j hj => by rw [Nat.zero_add]; exact h.cell hj⟩⟩

theorem shapeE_zero {m : ImgD} (h : shapeE m = 0) : m.snaps.length ≤ 3 ∧ slotsE m.slots = 0 ∧ m.refs.length = m.slots.length ∧ namesOK m.snaps = true ∧ (rootsOf m).all (fun s => guestOK s.2.1) = true ∧ tabFit m.slots = true ∧ (rootsOf m).all (fun s => rootFit m.slots s.2.1 s.2.2) = true := by
  unfold shapeE at h
  split at h
  · simp at h
  rename_i h1
  split at h
  · rename_i h2; exact absurd h h2
  rename_i h2
  split at h
  · simp at h
  rename_i h3
  split at h
  · simp at h
  rename_i h4
  split at h
  · simp at h
  rename_i h5
  split at h
  · simp at h
  rename_i h6
  refine ⟨by omega, by simpa using h2, ?_, ?_, by simpa using h4, by simpa using h5, by simpa using h6⟩
  · exact Classical.byContradiction fun e => h3 (.inl e)
  · cases e : namesOK m.snaps with
    | true => rfl
    | false => exact absurd (.inr e) h3

theorem counts_own {w : World} {v : Value} {m : ImgD} (h : Img w v m) (hE : shapeE m = 0) :
    Calls Try.prog 47 #[v] w fun e w' => (∃ g, w.heap.size ≤ g ∧ e = .returned (.tuple #[.slice (some ⟨g, 0, none⟩) m.slots.length m.slots.length, .int .i64 0]) ∧ LAt w' g (cntL m)) ∧ Below w.heap.size w w' := by
  obtain ⟨z1, z2, z3, z4, z5, z6, z7⟩ := shapeE_zero hE
  obtain ⟨ra, rc, sa, sc, fa, fc, na, nc, rfl, h1, h2, h3, h4⟩ := h.parts
  have hp := slotsE_parts z2
  have h2' := h2
  obtain ⟨sb, so, sc', e, hcp, hlt, hcell⟩ := h2.open hp.1
  simp at e
  obtain ⟨rfl, rfl⟩ := e
  refine (counts_at m.guest ra _ rc sb so _ sc fa _ fc na _ nc m.root m.slots m.snaps m.refs w h1 h2' h3 h4 rfl hp.2 hlt hcell hE z2 z1 z6 z5 z7).mono fun e w' hr => ⟨?_, hr.2⟩
  obtain ⟨g, hg, e1, e2⟩ := hr.1
  exact ⟨g, hg, e1, e2⟩
theorem counts_ok {w : World} {v : Value} {m : ImgD} (h : Img w v m) (hE : shapeE m = 0) :
    Calls Try.prog 47 #[v] w fun e w' => (∃ lv, e = .returned (.tuple #[lv, .int .i64 0]) ∧ Sl w' lv (cntL m)) ∧ Below w.heap.size w w' := by
  have hp := slotsE_parts (shapeE_zero hE).2.1
  refine (counts_own h hE).mono fun e w' hr => ⟨?_, hr.2⟩
  obtain ⟨g, _, e1, e2⟩ := hr.1
  exact ⟨_, e1, LAt.sl e2 (cntL_length m) (by unfold maxLen; omega)⟩
theorem counts_err {w : World} {v : Value} {m : ImgD} (h : Img w v m) {E : Int} (hE : shapeE m = E) (hne : (E != 0) = true) :
    Calls Try.prog 47 #[v] w fun r w' => r = .returned (.tuple #[.slice none 0 0, .int .i64 E]) ∧ Below w.heap.size w w' := by
  have h' := h
  obtain ⟨ra, rc, sa, sc, fa, fc, na, nc, rfl, _⟩ := h.parts
  exact counts_bad m.guest ra _ rc sa _ sc fa _ fc na _ nc m E w h' hE hne

set_option maxHeartbeats 1000000 in
theorem equal_at (ao bo : Option Addr) (n cap cap' : Nat) (xs ys : List Int) (w : World) (hn : xs.length = n) (hn' : ys.length = n) (hm : n ≤ 9223372036854775807)
    (hc : ∀ j, j < n → ∃ b off, ao = some ⟨b, off, none⟩ ∧ w.cell? ⟨b, off + j, none⟩ = some (.int .i64 (xs.getD j 0))) (hd : ∀ j, j < n → ∃ b off, bo = some ⟨b, off, none⟩ ∧ w.cell? ⟨b, off + j, none⟩ = some (.int .i64 (ys.getD j 0))) :
    Calls Try.prog 48 #[.slice ao n cap, .slice bo n cap'] w fun r w' => r = .returned (.bool (xs == ys)) ∧ Below w.heap.size w w' := by
  have H : Hid (xs.length = n ∧ ys.length = n) := ⟨hn, hn'⟩
  have HC : Hid (∀ j, j < n → ∃ b off, ao = some ⟨b, off, none⟩ ∧ w.cell? ⟨b, off + j, none⟩ = some (.int .i64 (xs.getD j 0))) := hc
  have HD : Hid (∀ j, j < n → ∃ b off, bo = some ⟨b, off, none⟩ ∧ w.cell? ⟨b, off + j, none⟩ = some (.int .i64 (ys.getD j 0))) := hd
  clear hn hn' hc hd
  go_enter Try.func48, Try.ntmps48
  go_wp2
  go_loopw [5, 13] (fun _ i wr => ∃ k : Nat, k ≤ n ∧ i = .int .i64 k ∧ Hid (∀ j, j < k → xs.getD j 0 = ys.getD j 0) ∧ (Below w.heap.size w wr ∧ ∀ a, wr.cell? a = w.cell? a)) (fun _ i _ => n - (intOf i).toNat)
  case atStart => exact ⟨0, Nat.zero_le _, rfl, fun j hj => absurd hj (by omega), Below.refl _ _, fun _ => rfl⟩
  case round =>
    obtain ⟨k, hk, rfl, HA, hbel, hsame⟩ := hrel
    by_cases hlk : k < n
    · obtain ⟨b, off, rfl, c1⟩ := HC.out k hlk
      obtain ⟨b', off', rfl, c2⟩ := HD.out k hlk
      have hki : (k : Int) < (n : Int) := by omega
      obtain ⟨x, hx⟩ : ∃ x, xs.getD k 0 = x := ⟨_, rfl⟩
      obtain ⟨y, hy⟩ : ∃ y, ys.getD k 0 = y := ⟨_, rfl⟩
      rw [hx] at c1
      rw [hy] at c2
      have c1 : wr.cell? ⟨b, off + k, none⟩ = some (.int .i64 x) := (hsame _).trans c1
      have c2 : wr.cell? ⟨b', off' + k, none⟩ = some (.int .i64 y) := (hsame _).trans c2
      have HX : Hid (xs.getD k 0 = x ∧ ys.getD k 0 = y) := ⟨hx, hy⟩
      clear hx hy
      by_cases hxy : x = y
      · have hb : (x != y) = false := by simp [hxy]
        have HXY : Hid (x = y) := hxy
        clear hxy
        go_wp2
        go_region
        go_wp2
        go_roundw
        case rel => exact ⟨k + 1, by omega, by go_num, fun j hj => by
          by_cases e : j = k
          · subst e; rw [HX.out.1, HX.out.2, HXY.out]
          · exact HA.out j (by omega), ⟨hbel.os, hbel.tape, hbel.output, hbel.size, hbel.block⟩, fun a => hsame a⟩
        case measure => simp [intOf]; omega
      · have hb : (x != y) = true := by simp [hxy]
        have HXY : Hid (x ≠ y) := hxy
        clear hxy
        go_wp2
        go_region
        go_wp2
        go_ret
        refine ⟨ret_boolE ?_, ⟨hbel.os, hbel.tape, hbel.output, hbel.size, hbel.block⟩⟩
        symm
        rw [beq_eq_false_iff_ne]
        intro e
        exact HXY.out (by rw [← HX.out.1, ← HX.out.2, e])
    · have e4 : k = n := by omega
      subst e4
      go_wp2
      go_ret
      refine ⟨ret_boolE ?_, hbel⟩
      symm
      rw [beq_iff_eq]
      apply List.ext_getElem
      · rw [H.out.1, H.out.2]
      · intro j h1 h2
        have := HA.out j (by rw [H.out.1] at h1; exact h1)
        simpa [List.getD, h1, h2] using this
end Go.Proofs.Ytehleeibgkpjmag
/- Contracts of Check and Look. -/
namespace Go.Proofs.Ytehleeibgkpjmag
open Go.RowKit Go.Shelf
set_option maxRecDepth 20000

def freeAt (m : ImgD) (i : Nat) : Bool := ((m.slots.getD i default).1 == 0) == ((cntL m).getD i 0 == 0)
def checkE (m : ImgD) : Int := if shapeE m ≠ 0 then shapeE m else if cntL m ≠ m.refs then 9 else if (List.range m.slots.length).all (freeAt m) = true then 0 else 9

theorem tcheck_err (gm : Int) (ra : Option Addr) (rn rc : Nat) (sa : Option Addr) (sn sc : Nat) (fa : Option Addr) (fn fc : Nat) (na : Option Addr) (nn nc : Nat) (m : ImgD) (E : Int) (w : World) (h : Img w (.agg #[.int .i64 gm, .slice ra rn rc, .slice sa sn sc, .slice fa fn fc, .slice na nn nc]) m) (hE : shapeE m = E) (hne : (E != 0) = true) :
    Calls Try.prog 18 #[.agg #[.int .i64 gm, .slice ra rn rc, .slice sa sn sc, .slice fa fn fc, .slice na nn nc]] w fun r w' => r = .returned (.int .i64 E) ∧ Below w.heap.size w w' := by
  have b0 : Below w.heap.size w (w.alloc (.cells #[.int .i64 gm, .slice ra rn rc, .slice sa sn sc, .slice fa fn fc, .slice na nn nc] 26)) := (Below.refl _ _).alloc (Nat.le_refl _) _
  have hcall := counts_err (h.below b0) hE hne
  clear h hE
  go_enter Try.func18, Try.ntmps18
  go_wp2_with (go_at_call 47; refine hcall.mono ?_; rintro e w1 ⟨rfl, b1⟩)
  go_ret
  exact ⟨rfl, Below.on b0 b1⟩

theorem equal_is {w : World} {u v : Value} {xs ys : List Int} (h : Sl w u xs) (k : Sl w v ys) (hl : xs.length = ys.length) {B : Bool} (hB : (xs == ys) = B) :
    Calls Try.prog 48 #[u, v] w fun r w' => r = .returned (.bool B) ∧ Below w.heap.size w w' := by
  subst hB
  obtain ⟨ao, cap, rfl⟩ := h.form
  obtain ⟨bo, cap', rfl⟩ := k.form
  obtain ⟨_, hm, _, hc⟩ := h.cells
  obtain ⟨_, _, _, hd⟩ := k.cells
  rw [← hl] at hd ⊢
  refine equal_at ao bo _ cap cap' xs ys w rfl hl.symm hm (fun j hj => ?_) (fun j hj => ?_)
  · obtain ⟨b, off, e, _, c⟩ := hc j hj
    exact ⟨b, off, e, c⟩
  · obtain ⟨b, off, e, _, c⟩ := hd j hj
    exact ⟨b, off, e, c⟩

set_option maxHeartbeats 2000000 in
theorem tcheck_at (gm : Int) (ra : Option Addr) (rn rc : Nat) (sb so : Nat) (sn sc : Nat) (fa : Option Addr) (fn fc : Nat) (na : Option Addr) (nn nc : Nat) (m : ImgD) (E : Int) (w : World) (h : Img w (.agg #[.int .i64 gm, .slice ra rn rc, .slice (some ⟨sb, so, none⟩) sn sc, .slice fa fn fc, .slice na nn nc]) m)
    (hf : Sl w (.slice fa fn fc) m.refs) (hsn : m.slots.length = sn) (hsb : sb < w.heap.size) (h40 : sn ≤ 40) (hcl : ∀ j, (h : j < m.slots.length) → SlAt w sb (so + j * 3) m.slots[j]) (hE : shapeE m = 0) (hc : checkE m = E) :
    Calls Try.prog 18 #[.agg #[.int .i64 gm, .slice ra rn rc, .slice (some ⟨sb, so, none⟩) sn sc, .slice fa fn fc, .slice na nn nc]] w fun r w' => r = .returned (.int .i64 E) ∧ Below w.heap.size w w' := by
  have b0 : Below w.heap.size w (w.alloc (.cells #[.int .i64 gm, .slice ra rn rc, .slice (some ⟨sb, so, none⟩) sn sc, .slice fa fn fc, .slice na nn nc] 26)) := (Below.refl _ _).alloc (Nat.le_refl _) _
  have m0 : (w.alloc (.cells #[.int .i64 gm, .slice ra rn rc, .slice (some ⟨sb, so, none⟩) sn sc, .slice fa fn fc, .slice na nn nc] 26)).heap[w.heap.size]? = some (.cells #[.int .i64 gm, .slice ra rn rc, .slice (some ⟨sb, so, none⟩) sn sc, .slice fa fn fc, .slice na nn nc] 26) := World.alloc_heap_new _ _
  have hcall := counts_ok (h.below b0) hE
  have hz := (shapeE_zero hE).2.2.1
  have HLr : Hid ((cntL m).length = m.refs.length) := by show _ = _; rw [cntL_length, hz]
  have HN : Hid (m.slots.length = sn) := hsn
  have HCl : Hid (∀ j, (h : j < m.slots.length) → SlAt w sb (so + j * 3) m.slots[j]) := hcl
  have HE : Hid (checkE m = if cntL m ≠ m.refs then 9 else if (List.range m.slots.length).all (freeAt m) = true then 0 else 9) := by
    show _ = _
    unfold checkE
    rw [if_neg (by simpa using hE)]
  have Hc : Hid (checkE m = E) := hc
  clear h hE hz hsn hcl hc
  cases hq : cntL m == m.refs with
  | false =>
    have H9 : Hid (E = 9) := by
      show _ = _
      rw [← Hc.out, HE.out, if_pos (by simpa using hq)]
    go_enter Try.func18, Try.ntmps18
    go_wp2_with fail
    refine hcall.mono ?_
    rintro e w1 ⟨⟨lv, rfl, hlv⟩, b1⟩
    have m1 := cells_below m0 b1 (by simp)
    obtain ⟨c0, c1, c2, c3, c4⟩ := five m1
    have hf1 := hf.below (Below.on b0 b1)
    have hcall2 := equal_is hlv hf1 HLr.out hq
    obtain ⟨la, lc, rfl⟩ := hlv.form
    clear hcall hlv hf1
    go_wp2_with fail
    refine hcall2.mono ?_
    rintro e w2 ⟨rfl, b2⟩
    go_wp2_with fail
    go_ret
    exact ⟨by rw [H9.out]; rfl, Below.on' b0 b1 b2⟩
  | true =>
    have H9 : Hid (E = if (List.range m.slots.length).all (freeAt m) = true then 0 else 9) := by
      show _ = _
      rw [← Hc.out, HE.out, if_neg (by simpa using hq)]
    go_enter Try.func18, Try.ntmps18
    go_wp2_with fail
    refine hcall.mono ?_
    rintro e w1 ⟨⟨lv, rfl, hlv⟩, b1⟩
    have m1 := cells_below m0 b1 (by simp)
    obtain ⟨c0, c1, c2, c3, c4⟩ := five m1
    have hf1 := hf.below (Below.on b0 b1)
    have hcall2 := equal_is hlv hf1 HLr.out hq
    obtain ⟨la, lc, rfl⟩ := hlv.form
    clear hcall hf1
    go_wp2_with fail
    refine hcall2.mono ?_
    rintro e w2 ⟨rfl, b2⟩
    have m2 := cells_below m1 b2 (Array.getElem?_eq_some_iff.1 m1).1
    obtain ⟨d0, d1, d2, d3, d4⟩ := five m2
    have hlv2 := hlv.below b2
    have hbw := Below.on' b0 b1 b2
    obtain ⟨_, hlm, _, hlc⟩ := hlv2.cells
    have HLc : Hid (∀ j, j < (cntL m).length → ∃ b off, la = some ⟨b, off, none⟩ ∧ b < w2.heap.size ∧ w2.cell? ⟨b, off + j, none⟩ = some (.int .i64 ((cntL m).getD j 0))) := hlc
    have hle : (cntL m).length = sn := by rw [cntL_length, HN.out]
    have HLe : Hid ((cntL m).length = sn) := hle
    rw [hle] at HLc ⊢
    clear hcall2 hlv hlv2 hlc c0 c1 c2 c3 c4 hle hlm hf
    go_wp2_with fail
    go_loopw [5, 6, 23] (fun _ _ i wr => ∃ k : Nat, k ≤ sn ∧ i = .int .i64 k ∧ Hid (∀ j, j < k → freeAt m j = true) ∧ Below w2.heap.size w2 wr) (fun _ _ i _ => sn - (intOf i).toNat)
    case atStart => exact ⟨0, Nat.zero_le _, rfl, fun j hj => absurd hj (by omega), Below.refl _ _⟩
    case round =>
      obtain ⟨k, hk, rfl, HA, hbel⟩ := hrel
      by_cases hlk : k < sn
      · have hki : (k : Int) < (sn : Int) := by omega
        have hkm : k < m.slots.length := by rw [HN.out]; exact hlk
        obtain ⟨lb, lo, rfl, hlb, hlc⟩ := HLc.out k hlk
        obtain ⟨s, hs⟩ : ∃ s, s = m.slots[k]'hkm := ⟨_, rfl⟩
        obtain ⟨kk, dd, tt⟩ := s
        have hS : SlAt w sb (so + k * 3) (kk, dd, tt) := by rw [hs]; exact HCl.out k _
        obtain ⟨tv, e1, e2, e3, hsl⟩ := hS
        obtain ⟨ta, tc, rfl⟩ := hsl.form
        have hbr := Below.on hbw hbel
        obtain ⟨c, hc⟩ : ∃ c, (cntL m).getD k 0 = c := ⟨_, rfl⟩
        rw [hc] at hlc
        have e1 : wr.cell? ⟨sb, so + k * 3, none⟩ = some (.int .i64 kk) := (hbr.cell (p := ⟨sb, so + k * 3, none⟩) hsb).trans e1
        have e2 : wr.cell? ⟨sb, so + k * 3 + 1, none⟩ = some (.string dd) := (hbr.cell (p := ⟨sb, so + k * 3 + 1, none⟩) hsb).trans e2
        have e3 : wr.cell? ⟨sb, so + k * 3 + 1 + 1, none⟩ = some (.slice ta tt.length tc) := (hbr.cell (p := ⟨sb, so + k * 3 + 1 + 1, none⟩) hsb).trans e3
        have el : (wr.alloc (.cells #[.int .i64 kk, .string dd, .slice ta tt.length tc] 60)).cell? ⟨lb, lo + k, none⟩ = some (.int .i64 c) := ((hbel.alloc hbel.size _).cell (p := ⟨lb, lo + k, none⟩) hlb).trans hlc
        have HF : Hid (freeAt m k = ((kk == 0) == (c == 0))) := by
          show _ = _
          unfold freeAt
          rw [hc]
          simp [List.getD, hkm, ← hs]
        have hba : Below w2.heap.size w2 (wr.alloc (.cells #[.int .i64 kk, .string dd, .slice ta tt.length tc] 60)) := hbel.alloc hbel.size _
        clear hs hlc hc hsl
        cases hx : kk == 0 with
        | true =>
          cases hy : c == 0 with
          | true =>
            go_wp2_with fail
            go_region
            go_wp2_with fail
            go_roundw
            case rel => exact ⟨k + 1, by omega, by go_num, fun j hj => by
              by_cases e : j = k
              · subst e; rw [HF.out, hx, hy]; rfl
              · exact HA.out j (by omega), ⟨hba.os, hba.tape, hba.output, hba.size, hba.block⟩⟩
            case measure => simp [intOf]; omega
          | false =>
            have HB : Hid (E = 9) := by
              show _ = _
              rw [H9.out, if_neg]
              intro e
              rw [List.all_eq_true] at e
              have := e k (by simpa using hkm)
              rw [HF.out, hx, hy] at this
              cases this
            go_wp2_with fail
            go_region
            go_wp2_with fail
            go_ret
            exact ⟨ret_int HB.out.symm, Below.on hbw ⟨hba.os, hba.tape, hba.output, hba.size, hba.block⟩⟩
        | false =>
          cases hy : c == 0 with
          | true =>
            have HB : Hid (E = 9) := by
              show _ = _
              rw [H9.out, if_neg]
              intro e
              rw [List.all_eq_true] at e
              have := e k (by simpa using hkm)
              rw [HF.out, hx, hy] at this
              cases this
            go_wp2_with fail
            go_region
            go_wp2_with fail
            go_ret
            exact ⟨ret_int HB.out.symm, Below.on hbw ⟨hba.os, hba.tape, hba.output, hba.size, hba.block⟩⟩
          | false =>
            go_wp2_with fail
            go_region
            go_wp2_with fail
            go_roundw
            case rel => exact ⟨k + 1, by omega, by go_num, fun j hj => by
              by_cases e : j = k
              · subst e; rw [HF.out, hx, hy]; rfl
              · exact HA.out j (by omega), ⟨hba.os, hba.tape, hba.output, hba.size, hba.block⟩⟩
            case measure => simp [intOf]; omega
      · have e4 : k = sn := by omega
        subst e4
        go_wp2_with fail
        go_ret
        refine ⟨ret_int ?_, Below.on hbw hbel⟩
        rw [H9.out, if_pos]
        rw [List.all_eq_true]
        intro j hj
        exact HA.out j (by rw [← HN.out]; simpa using hj)

theorem tcheck_is {w : World} {v : Value} {m : ImgD} (h : Img w v m) {E : Int} (hE : checkE m = E) :
    Calls Try.prog 18 #[v] w fun r w' => r = .returned (.int .i64 E) ∧ Below w.heap.size w w' := by
  have h' := h
  obtain ⟨ra, rc, sa, sc, fa, fc, na, nc, rfl, h1, h2, h3, h4⟩ := h.parts
  by_cases h0 : shapeE m = 0
  · have z2 := (shapeE_zero h0).2.1
    have hp := slotsE_parts z2
    obtain ⟨sb, so, sc', e, hcp, hlt, hcell⟩ := h2.open hp.1
    simp at e
    obtain ⟨rfl, rfl⟩ := e
    exact tcheck_at m.guest ra _ rc sb so _ sc fa _ fc na _ nc m E w h' h3 rfl hlt hp.2 hcell h0 hE
  · have e : shapeE m = E := by rw [← hE]; unfold checkE; rw [if_pos h0]
    exact tcheck_err m.guest ra _ rc sa _ sc fa _ fc na _ nc m E w h' e (by rw [← e]; simpa using h0)
end Go.Proofs.Ytehleeibgkpjmag
/- Contracts of the document's IsName, wants, told. -/
namespace Go.Proofs.Ytehleeibgkpjmag
open Go.RowKit Go.Shelf
end Go.Proofs.Ytehleeibgkpjmag
/- Contracts of the document's IsName and kindOf. -/
namespace Go.Proofs.Ytehleeibgkpjmag
open Go.RowKit Go.Shelf
end Go.Proofs.Ytehleeibgkpjmag
/- What the counts are, told by a formula: how often a slot is told by Roots, and by the tables that Roots tell. -/
namespace Go.Proofs.Ytehleeibgkpjmag
open Go.RowKit Go.Shelf
set_option maxRecDepth 20000

def kd (L : List SlotD) (k : Nat) : Int := (L.getD k default).1
def toldT (L : List SlotD) (P : List Int) (i : Int) (k : Nat) : Nat := if kd L k = 2 ∧ (k : Int) ∈ P then (tabOf L k).count i else 0
def sumT (L : List SlotD) (P : List Int) (i : Int) : Nat := ((List.range L.length).map (toldT L P i)).sum
def cntI (L : List SlotD) (P : List Int) (i : Nat) : Int := if i = 0 then 0 else ((P.count (i : Int) + sumT L P i : Nat) : Int)

theorem sum_one {f g : Nat → Nat} {k d : Nat} : ∀ n, k < n → g k = f k + d → (∀ j, j ≠ k → g j = f j) → ((List.range n).map g).sum = ((List.range n).map f).sum + d
  | 0, h, _, _ => absurd h (by omega)
  | n + 1, h, hk, ho => by
    rw [List.range_succ, List.map_append, List.map_append, List.sum_append, List.sum_append]
    by_cases e : k = n
    · subst e
      have : (List.range k).map g = (List.range k).map f := List.map_congr_left fun j hj => ho j (by have := List.mem_range.1 hj; omega)
      rw [this]; simp [hk]; omega
    · rw [sum_one n (by omega) hk ho]
      simp [ho n (fun x => e x.symm)]; omega
theorem sum_same {f g : Nat → Nat} (n : Nat) (h : ∀ j, j < n → g j = f j) : ((List.range n).map g).sum = ((List.range n).map f).sum := by
  rw [List.map_congr_left fun j hj => h j (List.mem_range.1 hj)]

theorem inc_get (l : List Int) (k : Int) (j : Nat) (hj : j < l.length) : (inc l k).getD j 0 = l.getD j 0 + if k.toNat = j then 1 else 0 := by
  unfold inc
  rw [getD_set]
  by_cases e : k.toNat = j
  · subst e; rw [if_pos ⟨rfl, hj⟩, if_pos rfl]
  · rw [if_neg (fun h => e h.1), if_neg e]; simp
theorem pagesC_get (i : Nat) (hi : 1 ≤ i) : ∀ (t l : List Int), i < l.length → (∀ e ∈ t, e = 0 ∨ e = -1 ∨ 1 ≤ e) → (pagesC l t).getD i 0 = l.getD i 0 + (t.count (i : Int) : Nat)
  | [], l, _, _ => by simp [pagesC]
  | e :: t, l, hl, ht => by
    have : pagesC l (e :: t) = pagesC (incE l e) t := rfl
    rw [this, pagesC_get i hi t (incE l e) (by rw [incE_length]; exact hl) (fun x hx => ht x (List.mem_cons_of_mem _ hx)), List.count_cons]
    unfold incE
    rcases ht e List.mem_cons_self with h | h | h
    · rw [if_pos (.inl h), if_neg (by simp; omega)]; omega
    · rw [if_pos (.inr h), if_neg (by simp; omega)]; omega
    · rw [if_neg (by omega), inc_get l e i hl]
      by_cases g : e = i
      · rw [if_pos (by omega), if_pos (by simpa using g)]; omega
      · rw [if_neg (by omega), if_neg (by simpa using g)]; omega
theorem pagesC_get0 : ∀ (t l : List Int), (∀ e ∈ t, e = 0 ∨ e = -1 ∨ 1 ≤ e) → (pagesC l t).getD 0 0 = l.getD 0 0
  | [], l, _ => by simp [pagesC]
  | e :: t, l, ht => by
    have : pagesC l (e :: t) = pagesC (incE l e) t := rfl
    rw [this, pagesC_get0 t (incE l e) (fun x hx => ht x (List.mem_cons_of_mem _ hx))]
    unfold incE
    rcases ht e List.mem_cons_self with h | h | h
    · rw [if_pos (.inl h)]
    · rw [if_pos (.inr h)]
    · rw [if_neg (by omega)]
      unfold inc
      rw [getD_set, if_neg (by omega)]

theorem slot0 {L : List SlotD} (h : slotsE L = 0) : kd L 0 = 0 := by
  have hp := slotsE_parts h
  unfold slotsE at h
  rw [if_pos hp] at h
  split at h
  · rename_i g
    have := g.2
    cases L with
    | nil => simp at hp
    | cons a t => simpa [kd] using this
  · simp at h
theorem rootE_cases {L : List SlotD} {k : Int} (h : rootE L k = true) : k = 0 ∨ ∃ j : Nat, k = j ∧ j < L.length ∧ kd L j = 2 := by
  by_cases e : k = 0
  · exact .inl e
  · rw [rootE_x e] at h
    obtain ⟨j, rfl, hj, hk⟩ := isKd_yes h
    exact .inr ⟨j, rfl, hj, by unfold kd; simp [List.getD, hj, hk]⟩
theorem tabE_cases {L : List SlotD} {k : Int} (h : tabE L k = true) : k = 0 ∨ k = -1 ∨ ∃ j : Nat, k = j ∧ j < L.length ∧ kd L j = 1 := by
  by_cases e : k = 0
  · exact .inl e
  by_cases e1 : k = -1
  · exact .inr (.inl e1)
  · rw [tabE_x e e1] at h
    obtain ⟨j, rfl, hj, hk⟩ := isKd_yes h
    exact .inr (.inr ⟨j, rfl, hj, by unfold kd; simp [List.getD, hj, hk]⟩)
theorem tab_all {L : List SlotD} (h : tabFit L = true) (k : Int) : (tabOf L k).all (tabE L) = true := by
  unfold tabOf
  by_cases hk : k.toNat < L.length
  · unfold tabFit at h
    rw [List.all_eq_true] at h
    have := h _ (List.getElem_mem hk)
    simpa [List.getD, hk] using this
  · have : L.getD k.toNat default = default := by simp [List.getD, hk]
    rw [this]; rfl
theorem tab_ent {L : List SlotD} (h : tabFit L = true) (k : Int) {e : Int} (he : e ∈ tabOf L k) : e = 0 ∨ e = -1 ∨ ∃ j : Nat, e = j ∧ j < L.length ∧ kd L j = 1 :=
  tabE_cases (List.all_eq_true.1 (tab_all h k) e he)
theorem tab_ent' {L : List SlotD} (hs : slotsE L = 0) (h : tabFit L = true) (k : Int) : ∀ e ∈ tabOf L k, e = 0 ∨ e = -1 ∨ 1 ≤ e := fun e he => by
  rcases tab_ent h k he with h | h | ⟨j, rfl, _, h1⟩
  · exact .inl h
  · exact .inr (.inl h)
  · refine .inr (.inr ?_)
    rcases Nat.eq_zero_or_pos j with e | e
    · subst e; rw [slot0 hs] at h1; simp at h1
    · omega
theorem tab_no {L : List SlotD} (h : tabFit L = true) (k : Int) {i : Nat} (hi : 1 ≤ i) (hk : kd L i ≠ 1) : (tabOf L k).count (i : Int) = 0 := by
  rw [List.count_eq_zero]
  intro he
  rcases tab_ent h k he with h | h | ⟨j, e, _, h1⟩
  · omega
  · omega
  · have : i = j := by omega
    subst this; exact hk h1
theorem sumT_no {L : List SlotD} (h : tabFit L = true) (P : List Int) {i : Nat} (hi : 1 ≤ i) (hk : kd L i ≠ 1) : sumT L P i = 0 := by
  unfold sumT
  have : (List.range L.length).map (toldT L P i) = (List.range L.length).map (fun _ => 0) := List.map_congr_left fun j _ => by
    unfold toldT
    split
    · exact tab_no h j hi hk
    · rfl
  rw [this]
  generalize L.length = n
  induction n with
  | zero => rfl
  | succ n ih => rw [List.range_succ, List.map_append, List.sum_append, ih]; rfl
theorem cnt_step {L : List SlotD} (hs : slotsE L = 0) (ht : tabFit L = true) {P l : List Int} {k : Int} (hk : rootE L k = true) (hl : l.length = L.length) (h : ∀ i, i < L.length → l.getD i 0 = cntI L P i) :
    ∀ i, i < L.length → (stepC L l k).getD i 0 = cntI L (P ++ [k]) i := by
  intro i hi
  unfold stepC
  rcases rootE_cases hk with rfl | ⟨j, rfl, hj, hj2⟩
  · rw [if_pos rfl, h i hi]
    unfold cntI
    by_cases i0 : i = 0
    · rw [if_pos i0, if_pos i0]
    rw [if_neg i0, if_neg i0]
    have e1 : sumT L (P ++ [0]) i = sumT L P i := sum_same _ fun q _ => by
      unfold toldT
      by_cases q0 : q = 0
      · subst q0; rw [if_neg (by rw [slot0 hs]; simp), if_neg (by rw [slot0 hs]; simp)]
      · have : ((q : Int) ∈ P ++ [0]) ↔ (q : Int) ∈ P := by simp; omega
        simp only [this]
    rw [e1, List.count_append]
    have : List.count (i : Int) [0] = 0 := by rw [List.count_eq_zero]; simp; omega
    rw [this]; simp
  · have j0 : j ≠ 0 := fun e => by subst e; rw [slot0 hs] at hj2; simp at hj2
    rw [if_neg (by omega)]
    have hjj : (inc l (j : Int)).getD (j : Int).toNat 0 = ((P.count (j : Int) : Nat) : Int) + 1 := by
      rw [Int.toNat_natCast, inc_get l j j (by omega), h j hj, if_pos (by simp)]
      unfold cntI
      rw [if_neg j0, sumT_no ht P (by omega) (by rw [hj2]; decide)]
      omega
    rw [hjj]
    by_cases hP : (j : Int) ∈ P
    · have : 0 < P.count (j : Int) := List.count_pos_iff.2 hP
      rw [if_neg (by omega), inc_get l j i (by omega), h i hi]
      unfold cntI
      by_cases i0 : i = 0
      · subst i0; rw [if_pos rfl, if_pos rfl, if_neg (by simp; omega)]; rfl
      rw [if_neg i0, if_neg i0]
      have e1 : sumT L (P ++ [(j : Int)]) i = sumT L P i := sum_same _ fun q _ => by
        unfold toldT
        have : ((q : Int) ∈ P ++ [(j : Int)]) ↔ (q : Int) ∈ P := by
          simp only [List.mem_append, List.mem_singleton]
          exact ⟨fun x => x.elim id (fun e => e ▸ hP), .inl⟩
        simp only [this]
      rw [e1, List.count_append, List.count_singleton]
      by_cases e : j = i
      · subst e; simp; omega
      · rw [if_neg (by simp; omega), if_neg (by simp; omega)]; simp
    · have c0 : P.count (j : Int) = 0 := List.count_eq_zero.2 hP
      rw [if_pos (by omega)]
      unfold cntI
      by_cases i0 : i = 0
      · subst i0
        rw [if_pos rfl, pagesC_get0 _ _ (tab_ent' hs ht j), inc_get l j 0 (by omega), h 0 hi, if_neg (by simp; omega)]; rfl
      rw [if_neg i0, pagesC_get i (by omega) _ _ (by rw [inc_length, hl]; exact hi) (tab_ent' hs ht j), inc_get l j i (by omega), h i hi]
      unfold cntI
      rw [if_neg i0]
      have e1 : sumT L (P ++ [(j : Int)]) i = sumT L P i + (tabOf L j).count (i : Int) := by
        unfold sumT
        refine sum_one (k := j) _ hj ?_ ?_
        · unfold toldT
          rw [if_pos ⟨hj2, by simp⟩, if_neg (fun x => hP x.2)]; omega
        · intro q hq
          unfold toldT
          have : ((q : Int) ∈ P ++ [(j : Int)]) ↔ (q : Int) ∈ P := by
            simp only [List.mem_append, List.mem_singleton]
            exact ⟨fun x => x.elim id (fun e => absurd (by omega) hq), .inl⟩
          simp only [this]
      rw [e1, List.count_append, List.count_singleton]
      by_cases e : j = i
      · subst e; simp; omega
      · rw [if_neg (by simp; omega), if_neg (by simp; omega)]; omega

theorem cnt_fold {L : List SlotD} (hs : slotsE L = 0) (ht : tabFit L = true) : ∀ (Q P l : List Int), (∀ k ∈ Q, rootE L k = true) → l.length = L.length → (∀ i, i < L.length → l.getD i 0 = cntI L P i) →
    ∀ i, i < L.length → (Q.foldl (stepC L) l).getD i 0 = cntI L (P ++ Q) i
  | [], P, l, _, _, h, i, hi => by simpa using h i hi
  | k :: Q, P, l, hQ, hl, h, i, hi => by
    have := cnt_fold hs ht Q (P ++ [k]) (stepC L l k) (fun x hx => hQ x (List.mem_cons_of_mem _ hx)) (by rw [stepC_length, hl]) (cnt_step hs ht (hQ k List.mem_cons_self) hl h) i hi
    rw [List.foldl_cons, this, List.append_assoc]; rfl

def flatR (m : ImgD) : List Int := (rootsOf m).flatMap (fun s => s.2.2)
theorem flatR_root {m : ImgD} (h : shapeE m = 0) : ∀ k ∈ flatR m, rootE m.slots k = true := by
  intro k hk
  obtain ⟨z1, z2, z3, z4, z5, z6, z7⟩ := shapeE_zero h
  unfold flatR at hk
  rw [List.mem_flatMap] at hk
  obtain ⟨s, hs, hks⟩ := hk
  have := List.all_eq_true.1 z7 s hs
  unfold rootFit at this
  simp only [Bool.and_eq_true] at this
  exact List.all_eq_true.1 this.2.1 k hks
theorem cntL_get {m : ImgD} (h : shapeE m = 0) (i : Nat) (hi : i < m.slots.length) : (cntL m).getD i 0 = cntI m.slots (flatR m) i := by
  obtain ⟨z1, z2, z3, z4, z5, z6, z7⟩ := shapeE_zero h
  have := cnt_fold z2 z6 (flatR m) [] (List.replicate m.slots.length 0) (flatR_root h) (by simp) (fun i hi => ?_) i hi
  · simpa [cntL, flatR] using this
  · have e : (List.replicate m.slots.length (0 : Int)).getD i 0 = 0 := by simp [List.getD, hi]
    rw [e]
    unfold cntI
    split
    · rfl
    · have : sumT m.slots [] i = 0 := by
        have e : sumT m.slots [] i = ((List.range m.slots.length).map (fun _ => 0)).sum := sum_same _ fun q _ => by unfold toldT; rw [if_neg (by simp)]
        rw [e]
        generalize m.slots.length = n
        induction n with
        | zero => rfl
        | succ n ih => rw [List.range_succ, List.map_append, List.sum_append, ih]; rfl
      rw [this]; rfl
end Go.Proofs.Ytehleeibgkpjmag
/- What the document's ShapeOf and rootFine answer is what Shape answers: plain lists. -/
namespace Go.Proofs.Ytehleeibgkpjmag
open Go.RowKit Go.Shelf
theorem tab_len {L : List SlotD} (hs : slotsE L = 0) {k : Int} (h : isKd L k 2 = true) : (tabOf L k).length = 4 := by
  obtain ⟨j, rfl, hj, hk⟩ := isKd_yes h
  have := okD_tab (slotsE_all hs hj) hk
  unfold tabOf
  simpa [List.getD, hj] using this.1

theorem okD_ents {s : SlotD} (h : okD s = true) : ∀ e ∈ s.2.2, isE e = true := by
  unfold okD slotOK at h
  split at h
  · simp at h; rw [h.2]; intro e he; cases he
  split at h
  · simp at h; rw [h.2]; intro e he; cases he
  split at h
  · simp at h; exact List.all_eq_true.1 (ckE_all h.1)
  · cases h
end Go.Proofs.Ytehleeibgkpjmag
/- Contract of the document's rootFine. -/
namespace Go.Proofs.Ytehleeibgkpjmag
open Go.RowKit Go.Shelf
set_option maxRecDepth 20000

theorem to_drew {n : Nat} {w W : World} (h : Below n w W) : Below n w W.drew := ⟨h.os, h.tape, h.output, h.size, h.block⟩

end Go.Proofs.Ytehleeibgkpjmag
/- Contract of the document's bare. -/
namespace Go.Proofs.Ytehleeibgkpjmag
open Go.RowKit
end Go.Proofs.Ytehleeibgkpjmag
/- Contracts of the document's SlotFine, SlotsError. -/
namespace Go.Proofs.Ytehleeibgkpjmag
open Go.RowKit
end Go.Proofs.Ytehleeibgkpjmag
/- Contract of the document's ShapeOf. -/
namespace Go.Proofs.Ytehleeibgkpjmag
open Go.RowKit Go.Shelf
end Go.Proofs.Ytehleeibgkpjmag
/- Contract of the document's CountsOf, of an image of right shape. -/
namespace Go.Proofs.Ytehleeibgkpjmag
open Go.RowKit Go.Shelf
set_option maxRecDepth 20000

def rl (n : Nat) (f : Nat → Int) : List Int := (List.range n).map f
theorem rl_congr {n : Nat} {f g : Nat → Int} (h : ∀ j, j < n → f j = g j) : rl n f = rl n g := List.map_congr_left fun j hj => h j (List.mem_range.1 hj)
theorem rl_of {l : List Int} {n : Nat} (h : l.length = n) : l = rl n (fun j => l.getD j 0) := by
  subst h
  apply List.ext_getElem
  · simp [rl]
  · intro j h1 h2; simp [rl, List.getD, h1]

def f1 (P : List Int) (k j : Nat) : Int := if 1 ≤ j ∧ j < k then ((P.count (j : Int) : Nat) : Int) else 0
def g1 (P : List Int) (j : Nat) : Int := if 1 ≤ j then ((P.count (j : Int) : Nat) : Int) else 0
def g2 (L : List SlotD) (P : List Int) (n j : Nat) : Int := if 1 ≤ j ∧ j < n ∧ kd L j = 1 then ((sumT L P j : Nat) : Int) else 0
def f2 (L : List SlotD) (P : List Int) (n j : Nat) : Int := g1 P j + g2 L P n j
def sT (L : List SlotD) (P : List Int) (n k : Nat) : Nat := ((List.range k).map (toldT L P n)).sum
def f3 (L : List SlotD) (P : List Int) (n k j : Nat) : Int := if j = n then ((P.count (n : Int) + sT L P n k : Nat) : Int) else f2 L P n j

end Go.Proofs.Ytehleeibgkpjmag
/- Contract of Look. -/
namespace Go.Proofs.Ytehleeibgkpjmag
open Go.RowKit Go.Shelf
set_option maxRecDepth 20000

def lookV (m : ImgD) (root : List Int) (n : Nat) : Int := if root.getD (n / 4) 0 = 0 then 0 else (tabOf m.slots (root.getD (n / 4) 0)).getD (n % 4) 0
theorem checkE_shape {m : ImgD} (h : checkE m = 0) : shapeE m = 0 := by
  unfold checkE at h
  split at h
  · rename_i h1; exact absurd h h1
  · rename_i h1; simpa using h1

end Go.Proofs.Ytehleeibgkpjmag
/- The page of 0. -/
namespace Go.Proofs.Ytehleeibgkpjmag
def Z4 : ByteArray := ⟨#[0, 0, 0, 0]⟩
end Go.Proofs.Ytehleeibgkpjmag
/- What a right image says. -/
namespace Go.Proofs.Ytehleeibgkpjmag
open Go.RowKit Go.Shelf
set_option maxRecDepth 20000


theorem getD_at {l : List Int} {j : Nat} (h : j < l.length) : l.getD j 0 = l[j] := by simp [List.getD, h]
theorem guest_ok {m : ImgD} (h : shapeE m = 0) : 0 ≤ m.guest ∧ m.guest ≤ 16 := by
  have := List.all_eq_true.1 (shapeE_zero h).2.2.2.2.1 (⟨#[]⟩, m.guest, m.root) List.mem_cons_self
  unfold guestOK at this
  simpa using this
theorem root_ok {m : ImgD} (h : shapeE m = 0) : (m.root.length : Int) = (m.guest + 3) / 4 ∧ m.root.all (rootE m.slots) = true := by
  have := List.all_eq_true.1 (shapeE_zero h).2.2.2.2.2.2 (⟨#[]⟩, m.guest, m.root) List.mem_cons_self
  unfold rootFit at this
  simp only [Bool.and_eq_true, decide_eq_true_eq] at this
  exact ⟨this.1, this.2.1⟩
theorem lookV_ent {m : ImgD} (h : shapeE m = 0) {root : List Int} (hall : root.all (rootE m.slots) = true) (n : Nat) (hl : n / 4 < root.length) : lookV m root n = 0 ∨ lookV m root n = -1 ∨ ∃ j : Nat, lookV m root n = j ∧ 1 ≤ j ∧ j < m.slots.length ∧ kd m.slots j = 1 := by
  obtain ⟨z1, z2, z3, z4, z5, z6, z7⟩ := shapeE_zero h
  unfold lookV
  by_cases hz : root.getD (n / 4) 0 = 0
  · rw [if_pos hz]; exact .inl rfl
  rw [if_neg hz]
  have hE2 := all_at hall hl
  rw [rootE_x hz] at hE2
  have h4 := tab_len z2 hE2
  have hm : n % 4 < (tabOf m.slots (root.getD (n / 4) 0)).length := by omega
  have e : (tabOf m.slots (root.getD (n / 4) 0)).getD (n % 4) 0 = (tabOf m.slots (root.getD (n / 4) 0))[n % 4] := getD_at hm
  rw [e]
  rcases tab_ent z6 _ (List.getElem_mem hm) with g | g | ⟨j, g1, g2, g3⟩
  · exact .inl g
  · exact .inr (.inl g)
  · refine .inr (.inr ⟨j, g1, ?_, g2, g3⟩)
    rcases Nat.eq_zero_or_pos j with e | e
    · subst e; rw [slot0 z2] at g3; simp at g3
    · exact e

def pageV (L : List SlotD) (e : Int) : ByteArray := if e ≤ 0 then Z4 else (L.getD e.toNat default).2.1
def allP (m : ImgD) (root : List Int) (g : Nat) : List ByteArray := (List.range g).map (fun n => pageV m.slots (lookV m root n))
def allV (m : ImgD) : List ByteArray := if checkE m = 0 then allP m m.root m.guest.toNat else []
end Go.Proofs.Ytehleeibgkpjmag
/- An image that is counted: Refs are the counts, slots of which it is 0 are Free. What comes is right, and is read as before. Plain lists. -/
namespace Go.Proofs.Ytehleeibgkpjmag
open Go.RowKit Go.Shelf
set_option maxRecDepth 20000

def slotZ : SlotD := (0, ⟨#[]⟩, [])
def freeUn (L : List SlotD) (c : List Int) : List SlotD := (List.range L.length).map (fun j => if c.getD j 0 = 0 then slotZ else L.getD j default)
def countedD (m : ImgD) : ImgD := { m with refs := cntL m, slots := freeUn m.slots (cntL m) }

theorem freeUn_length (L : List SlotD) (c : List Int) : (freeUn L c).length = L.length := by simp [freeUn]
theorem freeUn_get {L : List SlotD} {c : List Int} {j : Nat} (hj : j < L.length) : (freeUn L c).getD j default = if c.getD j 0 = 0 then slotZ else L.getD j default := by
  unfold freeUn
  simp only [List.getD, List.getElem?_map, List.getElem?_range hj, Option.map_some, Option.getD_some]
theorem freeUn_kept {L : List SlotD} {c : List Int} {j : Nat} (hj : j < L.length) (hc : c.getD j 0 ≠ 0) : (freeUn L c).getD j default = L.getD j default := by
  rw [freeUn_get hj, if_neg hc]
theorem freeUn_gone {L : List SlotD} {c : List Int} {j : Nat} (hj : j < L.length) (hc : c.getD j 0 = 0) : (freeUn L c).getD j default = slotZ := by
  rw [freeUn_get hj, if_pos hc]


theorem le_sum {f : Nat → Nat} : ∀ {n k : Nat}, k < n → f k ≤ ((List.range n).map f).sum
  | 0, _, h => absurd h (by omega)
  | n + 1, k, h => by
    rw [List.range_succ, List.map_append, List.sum_append]
    by_cases e : k = n
    · subst e; simp
    · have := le_sum (f := f) (n := n) (k := k) (by omega); simp; omega
theorem sum_pos {f : Nat → Nat} : ∀ {n : Nat}, 0 < ((List.range n).map f).sum → ∃ k, k < n ∧ 0 < f k
  | 0, h => absurd h (by simp)
  | n + 1, h => by
    rw [List.range_succ, List.map_append, List.sum_append] at h
    by_cases e : 0 < f n
    · exact ⟨n, by omega, e⟩
    · obtain ⟨k, hk, hf⟩ := sum_pos (f := f) (n := n) (by simp at h; omega)
      exact ⟨k, by omega, hf⟩

theorem told_root {m : ImgD} (h : shapeE m = 0) {j : Nat} (hj : (j : Int) ∈ flatR m) (h1 : 1 ≤ j) : j < m.slots.length ∧ kd m.slots j = 2 ∧ (cntL m).getD j 0 ≠ 0 := by
  rcases rootE_cases (flatR_root h _ hj) with e | ⟨i, e, hi, hk⟩
  · omega
  · have : j = i := by omega
    subst this
    refine ⟨hi, hk, ?_⟩
    rw [cntL_get h j hi]
    unfold cntI
    have := List.count_pos_iff.2 hj
    rw [if_neg (by omega)]; omega
theorem told_ent {m : ImgD} (h : shapeE m = 0) {j : Nat} (hj : (j : Int) ∈ flatR m) (h1 : 1 ≤ j) {i : Nat} (hi : (i : Int) ∈ tabOf m.slots j) (hi1 : 1 ≤ i) : i < m.slots.length ∧ kd m.slots i = 1 ∧ (cntL m).getD i 0 ≠ 0 := by
  obtain ⟨hjl, hk, _⟩ := told_root h hj h1
  rcases tab_ent (shapeE_zero h).2.2.2.2.2.1 _ hi with e | e | ⟨q, e, hq, hk1⟩
  · omega
  · omega
  · have : i = q := by omega
    subst this
    refine ⟨hq, hk1, ?_⟩
    rw [cntL_get h i hq]
    unfold cntI
    rw [if_neg (by omega)]
    have h2 : toldT m.slots (flatR m) i j ≤ sumT m.slots (flatR m) i := le_sum hjl
    have h3 : toldT m.slots (flatR m) i j = (tabOf m.slots j).count (i : Int) := by unfold toldT; rw [if_pos ⟨hk, hj⟩]
    have := List.count_pos_iff.2 hi
    omega
theorem cnt_told {m : ImgD} (h : shapeE m = 0) {j : Nat} (hj : j < m.slots.length) (hc : (cntL m).getD j 0 ≠ 0) : 1 ≤ j ∧ ((kd m.slots j = 2 ∧ (j : Int) ∈ flatR m) ∨ (kd m.slots j = 1 ∧ ∃ k : Nat, 1 ≤ k ∧ (k : Int) ∈ flatR m ∧ kd m.slots k = 2 ∧ (j : Int) ∈ tabOf m.slots k)) := by
  obtain ⟨z1, z2, z3, z4, z5, z6, z7⟩ := shapeE_zero h
  rw [cntL_get h j hj] at hc
  unfold cntI at hc
  by_cases h0 : j = 0
  · rw [if_pos h0] at hc; exact absurd rfl hc
  rw [if_neg h0] at hc
  refine ⟨by omega, ?_⟩
  by_cases hp : 0 < (flatR m).count (j : Int)
  · have hm := List.count_pos_iff.1 hp
    exact .inl ⟨(told_root h hm (by omega)).2.1, hm⟩
  · obtain ⟨k, hk, hf⟩ := sum_pos (f := toldT m.slots (flatR m) j) (n := m.slots.length) (by
      have : 0 < sumT m.slots (flatR m) j := by omega
      exact this)
    unfold toldT at hf
    split at hf
    · rename_i hc2
      have hm := List.count_pos_iff.1 hf
      have k1 : 1 ≤ k := by
        rcases Nat.eq_zero_or_pos k with e | e
        · subst e; rw [slot0 z2] at hc2; simp at hc2
        · exact e
      exact .inr ⟨(told_ent h hc2.2 k1 hm (by omega)).2.1, k, k1, hc2.2, hc2.1, hm⟩
    · omega


theorem kd_kept {m : ImgD} {j : Nat} (hj : j < m.slots.length) (hc : (cntL m).getD j 0 ≠ 0) : kd (countedD m).slots j = kd m.slots j := by
  unfold kd countedD; dsimp only; rw [freeUn_kept hj hc]
theorem tab_kept {m : ImgD} {j : Nat} (hj : j < m.slots.length) (hc : (cntL m).getD j 0 ≠ 0) : tabOf (countedD m).slots j = tabOf m.slots j := by
  unfold tabOf countedD; dsimp only; rw [Int.toNat_natCast, freeUn_kept hj hc]
theorem isKd_of {L : List SlotD} {j : Nat} (hj : j < L.length) {k : Int} (hk : kd L j = k) : isKd L j k = true := by
  rw [isKd_in hj]
  unfold kd at hk
  simp [List.getD, hj] at hk
  simp [hk]
theorem rootsOf_counted (m : ImgD) : rootsOf (countedD m) = rootsOf m := rfl
theorem flatR_counted (m : ImgD) : flatR (countedD m) = flatR m := rfl

theorem okD_Z : okD slotZ = true := by decide
theorem getElem_getD {L : List SlotD} {j : Nat} (hj : j < L.length) : L[j] = L.getD j default := by simp [List.getD, hj]

theorem counted_shape {m : ImgD} (h : shapeE m = 0) : shapeE (countedD m) = 0 := by
  obtain ⟨z1, z2, z3, z4, z5, z6, z7⟩ := shapeE_zero h
  have hp := slotsE_parts z2
  have hlen : (countedD m).slots.length = m.slots.length := freeUn_length _ _
  have hs : slotsE (countedD m).slots = 0 := by
    refine slotsE_ok (by rw [hlen]; exact hp.1) (by rw [hlen]; exact hp.2) (fun j hj => ?_) ?_
    · rw [hlen] at hj
      rw [getElem_getD (by rw [hlen]; exact hj)]
      show okD ((freeUn m.slots (cntL m)).getD j default) = true
      rw [freeUn_get hj]
      split
      · exact okD_Z
      · rw [← getElem_getD hj]; exact slotsE_all z2 hj
    · rw [getElem_getD (by rw [hlen]; exact hp.1)]
      show ((freeUn m.slots (cntL m)).getD 0 default).1 = 0
      rw [freeUn_get hp.1]
      split
      · rfl
      · exact slot0 z2
  have ht : tabFit (countedD m).slots = true := by
    unfold tabFit
    rw [List.all_eq_true]
    intro s hsm
    obtain ⟨j, hj, rfl⟩ := List.getElem_of_mem hsm
    rw [hlen] at hj
    rw [getElem_getD (by rw [hlen]; exact hj), List.all_eq_true]
    show ∀ e ∈ ((freeUn m.slots (cntL m)).getD j default).2.2, tabE (countedD m).slots e = true
    intro e he
    by_cases hc : (cntL m).getD j 0 = 0
    · rw [freeUn_gone hj hc] at he; cases he
    · rw [freeUn_kept hj hc] at he
      have he' : e ∈ tabOf m.slots (j : Int) := by unfold tabOf; rw [Int.toNat_natCast]; exact he
      obtain ⟨j1, hcase⟩ := cnt_told h hj hc
      rcases hcase with ⟨hk, hjm⟩ | ⟨hk, _⟩
      · rcases tab_ent z6 _ he' with e0 | e1 | ⟨i, rfl, hi, hk1⟩
        · rw [e0]; rfl
        · rw [e1]; rfl
        · have i1 : 1 ≤ i := by
            rcases Nat.eq_zero_or_pos i with e | e
            · subst e; rw [slot0 z2] at hk1; simp at hk1
            · exact e
          obtain ⟨_, _, hci⟩ := told_ent h hjm j1 he' i1
          rw [tabE_x (by omega) (by omega)]
          exact isKd_of (by rw [hlen]; exact hi) (by rw [kd_kept hi hci]; exact hk1)
      · -- a page has no table
        exfalso
        have ok := slotsE_all z2 hj
        rw [getElem_getD hj] at ok
        unfold kd at hk
        unfold okD slotOK at ok
        rw [if_neg (by rw [hk]; decide), if_pos hk] at ok
        generalize m.slots.getD j default = s at hk ok he
        simp at ok
        rw [ok.2] at he; cases he
  have hr : (rootsOf (countedD m)).all (fun s => rootFit (countedD m).slots s.2.1 s.2.2) = true := by
    rw [rootsOf_counted, List.all_eq_true]
    intro s hsm
    have hf := List.all_eq_true.1 z7 s hsm
    have hmem : ∀ k ∈ s.2.2, k ∈ flatR m := fun k hk => by unfold flatR; rw [List.mem_flatMap]; exact ⟨s, hsm, hk⟩
    unfold rootFit at hf ⊢
    simp only [Bool.and_eq_true] at hf ⊢
    refine ⟨hf.1, ?_, ?_⟩
    · rw [List.all_eq_true]
      intro k hk
      rcases rootE_cases (List.all_eq_true.1 hf.2.1 k hk) with e | ⟨j, rfl, hj, hk2⟩
      · rw [e]; rfl
      · have j1 : 1 ≤ j := by
          rcases Nat.eq_zero_or_pos j with e | e
          · subst e; rw [slot0 z2] at hk2; simp at hk2
          · exact e
        rw [rootE_x (by omega)]
        obtain ⟨_, _, hc⟩ := told_root h (hmem _ hk) j1
        exact isKd_of (by rw [hlen]; exact hj) (by rw [kd_kept hj hc]; exact hk2)
    · have hl := hf.2.2
      unfold lastFit at hl ⊢
      by_cases hg : s.2.1 % 4 = 0
      · simp [hg]
      · have hg' : (s.2.1 % 4 == 0) = false := by simpa using hg
        rw [hg', Bool.false_or] at hl ⊢
        by_cases hx : s.2.2.getD (s.2.2.length - 1) 0 = 0
        · rw [hx]; rfl
        · have hx' : (s.2.2.getD (s.2.2.length - 1) 0 == 0) = false := by simpa using hx
          rw [hx', Bool.false_or] at hl ⊢
          have hne : s.2.2.length - 1 < s.2.2.length := by
            rcases Nat.eq_zero_or_pos s.2.2.length with e | e
            · exfalso; apply hx; rw [List.length_eq_zero_iff.1 e]; rfl
            · omega
          have hE := all_at hf.2.1 hne
          have hm2 : s.2.2.getD (s.2.2.length - 1) 0 ∈ flatR m := hmem _ (by rw [getD_at hne]; exact List.getElem_mem hne)
          generalize s.2.2.getD (s.2.2.length - 1) 0 = x at hE hm2 hl hx ⊢
          rcases rootE_cases hE with e | ⟨j, rfl, hj, hk2⟩
          · exact absurd e hx
          · obtain ⟨_, _, hc⟩ := told_root h hm2 (by omega)
            rw [tab_kept hj hc]; exact hl
  unfold shapeE
  rw [if_neg (by show ¬ 3 < m.snaps.length; omega), if_neg (by simpa using hs), if_neg, if_neg (by rw [rootsOf_counted, z5]; decide), if_neg (by rw [ht]; decide), if_neg (by rw [hr]; decide)]
  rintro (e | e)
  · exact e (by rw [hlen]; exact cntL_length m)
  · have : namesOK m.snaps = false := e
    rw [z4] at this; cases this

theorem counted_cnt {m : ImgD} (h : shapeE m = 0) : cntL (countedD m) = cntL m := by
  have hlen : (countedD m).slots.length = m.slots.length := freeUn_length _ _
  rw [rl_of (cntL_length (countedD m)), rl_of (cntL_length m), hlen]
  refine rl_congr fun j hj => ?_
  rw [cntL_get (counted_shape h) j (by rw [hlen]; exact hj), cntL_get h j hj, flatR_counted]
  unfold cntI
  by_cases h0 : j = 0
  · rw [if_pos h0, if_pos h0]
  rw [if_neg h0, if_neg h0]
  have e : sumT (countedD m).slots (flatR m) j = sumT m.slots (flatR m) j := by
    unfold sumT
    rw [hlen]
    refine sum_same _ fun k hk => ?_
    unfold toldT
    by_cases hm : (k : Int) ∈ flatR m
    · by_cases k0 : k = 0
      · subst k0
        rw [if_neg (by rw [slot0 (shapeE_zero (counted_shape h)).2.1]; simp), if_neg (by rw [slot0 (shapeE_zero h).2.1]; simp)]
      · obtain ⟨_, _, hc⟩ := told_root h hm (by omega)
        rw [kd_kept hk hc, tab_kept hk hc]
    · rw [if_neg (fun x => hm x.2), if_neg (fun x => hm x.2)]
  rw [e]

theorem counted_right {m : ImgD} (h : shapeE m = 0) : checkE (countedD m) = 0 := by
  have hlen : (countedD m).slots.length = m.slots.length := freeUn_length _ _
  unfold checkE
  rw [if_neg (by simpa using counted_shape h), counted_cnt h]
  have e : (countedD m).refs = cntL m := rfl
  rw [e, if_neg (by simp), if_pos]
  rw [List.all_eq_true]
  intro j hj
  have hj : j < m.slots.length := by rw [← hlen]; simpa using hj
  unfold freeAt
  rw [counted_cnt h]
  by_cases hc : (cntL m).getD j 0 = 0
  · have : ((countedD m).slots.getD j default).1 = 0 := by show ((freeUn m.slots (cntL m)).getD j default).1 = 0; rw [freeUn_gone hj hc]; rfl
    rw [this, hc]; rfl
  · obtain ⟨_, hk⟩ := cnt_told h hj hc
    have hne : kd m.slots j ≠ 0 := by
      rcases hk with ⟨e, _⟩ | ⟨e, _⟩
      · rw [e]; decide
      · rw [e]; decide
    have e1 : ((countedD m).slots.getD j default).1 = kd m.slots j := kd_kept hj hc
    have e2 : (((countedD m).slots.getD j default).1 == 0) = false := by rw [e1]; simpa using hne
    have e3 : ((cntL m).getD j 0 == 0) = false := by simpa using hc
    rw [e2, e3]; rfl

theorem lookV_counted {m : ImgD} (h : shapeE m = 0) {s : SnapD} (hs : s ∈ rootsOf m) {n : Nat} (hn : n / 4 < s.2.2.length) : lookV (countedD m) s.2.2 n = lookV m s.2.2 n := by
  unfold lookV
  by_cases hz : s.2.2.getD (n / 4) 0 = 0
  · rw [if_pos hz, if_pos hz]
  rw [if_neg hz, if_neg hz]
  have hm : s.2.2.getD (n / 4) 0 ∈ flatR m := by
    unfold flatR; rw [List.mem_flatMap]
    exact ⟨s, hs, by rw [getD_at hn]; exact List.getElem_mem hn⟩
  rcases rootE_cases (flatR_root h _ hm) with e | ⟨j, e, hj, hk⟩
  · exact absurd e hz
  · rw [e] at hm hz ⊢
    obtain ⟨_, _, hc⟩ := told_root h hm (by omega)
    rw [tab_kept hj hc]
theorem pageV_counted {m : ImgD} (h : shapeE m = 0) {s : SnapD} (hs : s ∈ rootsOf m) {n : Nat} (hn : n / 4 < s.2.2.length) : pageV (countedD m).slots (lookV m s.2.2 n) = pageV m.slots (lookV m s.2.2 n) := by
  have hf := List.all_eq_true.1 (shapeE_zero h).2.2.2.2.2.2 s hs
  unfold rootFit at hf
  simp only [Bool.and_eq_true] at hf
  have hent := lookV_ent h hf.2.1 n hn
  unfold pageV
  by_cases hz : lookV m s.2.2 n ≤ 0
  · rw [if_pos hz, if_pos hz]
  rw [if_neg hz, if_neg hz]
  rcases hent with e | e | ⟨j, e, j1, hj, hk⟩
  · omega
  · omega
  · rw [e, Int.toNat_natCast]
    have hr0 : s.2.2.getD (n / 4) 0 ≠ 0 := fun e0 => by
      unfold lookV at e; rw [if_pos e0] at e; omega
    have hm : s.2.2.getD (n / 4) 0 ∈ flatR m := by
      unfold flatR; rw [List.mem_flatMap]
      exact ⟨s, hs, by rw [getD_at hn]; exact List.getElem_mem hn⟩
    have e' : (tabOf m.slots (s.2.2.getD (n / 4) 0)).getD (n % 4) 0 = (j : Int) := by
      unfold lookV at e; rw [if_neg hr0] at e; exact e
    rcases rootE_cases (flatR_root h _ hm) with e0 | ⟨t, et, ht, hkt⟩
    · exact absurd e0 hr0
    · rw [et] at hm hr0 e'
      have hlt : n % 4 < (tabOf m.slots (t : Int)).length := by
        rw [tab_len (shapeE_zero h).2.1 (isKd_of ht hkt)]; omega
      have hmem : (j : Int) ∈ tabOf m.slots (t : Int) := by rw [← e', getD_at hlt]; exact List.getElem_mem hlt
      obtain ⟨_, _, hc⟩ := told_ent h hm (by omega) hmem j1
      have : (countedD m).slots.getD j default = m.slots.getD j default := freeUn_kept hj hc
      rw [this]
theorem allP_counted {m : ImgD} (h : shapeE m = 0) {s : SnapD} (hs : s ∈ rootsOf m) : allP (countedD m) s.2.2 s.2.1.toNat = allP m s.2.2 s.2.1.toNat := by
  unfold allP
  refine List.map_congr_left fun n hn => ?_
  have hn := List.mem_range.1 hn
  have hf := List.all_eq_true.1 (shapeE_zero h).2.2.2.2.2.2 s hs
  have hg := List.all_eq_true.1 (shapeE_zero h).2.2.2.2.1 s hs
  unfold rootFit at hf
  unfold guestOK at hg
  simp only [Bool.and_eq_true, decide_eq_true_eq] at hf hg
  have hl : n / 4 < s.2.2.length := by omega
  rw [lookV_counted h hs hl, pageV_counted h hs hl]
end Go.Proofs.Ytehleeibgkpjmag
/- A table is laid for one entry of Root: what the image is then. Plain lists. -/
namespace Go.Proofs.Ytehleeibgkpjmag
open Go.RowKit Go.Shelf
set_option maxRecDepth 20000

theorem kd_lt {L : List SlotD} {j : Nat} (h : kd L j ≠ 0) : j < L.length := by
  rcases Nat.lt_or_ge j L.length with h' | h'
  · exact h'
  · exfalso; apply h; unfold kd; rw [show L.getD j default = default by simp [List.getD, Nat.not_lt.2 h']]; rfl
structure Ext (L L' : List SlotD) (t : Nat) (es : List Int) : Prop where
  len : L'.length ≤ 40
  keep : ∀ j, j ≠ t → kd L j ≠ 0 → L'.getD j default = L.getD j default
  tab : L'.getD t default = (2, ⟨#[]⟩, es)
  page : kd L t ≠ 1
  ok : ∀ j, j < L'.length → okD (L'.getD j default) = true
  head : kd L' 0 = 0
  tabs : ∀ j, j ≠ t → kd L' j = 2 → kd L j = 2
  ents : ∀ e ∈ es, tabE L' e = true

theorem Ext.kdt {L L' : List SlotD} {t : Nat} {es : List Int} (h : Ext L L' t es) : kd L' t = 2 := by unfold kd; rw [h.tab]
theorem Ext.tlt {L L' : List SlotD} {t : Nat} {es : List Int} (h : Ext L L' t es) : t < L'.length := kd_lt (by rw [h.kdt]; decide)
theorem Ext.data {L L' : List SlotD} {t : Nat} {es : List Int} (h : Ext L L' t es) {j : Nat} (hj : kd L j = 1) : L'.getD j default = L.getD j default :=
  h.keep j (fun e => h.page (by rw [← e]; exact hj)) (by rw [hj]; decide)
theorem Ext.slots {L L' : List SlotD} {t : Nat} {es : List Int} (h : Ext L L' t es) : slotsE L' = 0 := by
  refine slotsE_ok (by have := h.tlt; omega) h.len (fun j hj => ?_) ?_
  · rw [getElem_getD hj]; exact h.ok j hj
  · rw [getElem_getD]; exact h.head
theorem getD_setI (l : List Int) (i j : Nat) (x : Int) : (l.set i x).getD j 0 = if i = j ∧ j < l.length then x else l.getD j 0 := getD_set l i j x

end Go.Proofs.Ytehleeibgkpjmag
/- Contract of Grab. -/
namespace Go.Proofs.Ytehleeibgkpjmag
open Go.RowKit
end Go.Proofs.Ytehleeibgkpjmag
/- Writing, wiping, punching: what the document's answer is, and that it has the form. Plain lists. -/
namespace Go.Proofs.Ytehleeibgkpjmag
open Go.RowKit Go.Shelf
set_option maxRecDepth 20000





def tableO (m : ImgD) (k : Nat) : List Int := if m.root.getD k 0 = 0 then [0, 0, 0, 0] else tabOf m.slots (m.root.getD k 0)
theorem tableO_ok {m : ImgD} (h : shapeE m = 0) {k : Nat} (hk : k < m.root.length) : ckE (tableO m k) = 0 ∧ ∀ e ∈ tableO m k, tabE m.slots e = true := by
  have hr := root_ok h
  unfold tableO
  by_cases hz : m.root.getD k 0 = 0
  · rw [if_pos hz]
    refine ⟨by decide, fun e he => ?_⟩
    have : e = 0 := by simpa using he
    rw [this]; rfl
  · rw [if_neg hz]
    have hE := all_at hr.2 hk
    rw [rootE_x hz] at hE
    obtain ⟨j, e, hj, hk2⟩ := isKd_yes hE
    rw [e]
    refine ⟨?_, fun x hx => List.all_eq_true.1 (tab_all (shapeE_zero h).2.2.2.2.2.1 _) x hx⟩
    have := okD_tab (slotsE_all (shapeE_zero h).2.1 hj) hk2
    unfold tabOf
    simpa [List.getD, hj] using this.2
theorem set_get {es : List Int} {i : Nat} (hi : i < es.length) (e : Int) : (es.set i e).getD i 0 = e := by rw [getD_setI, if_pos ⟨rfl, hi⟩]

def rfZ (L : List SlotD) : List Int := List.replicate L.length 0
theorem lookV_tableO (m : ImgD) (n : Nat) : lookV m m.root n = (tableO m (n / 4)).getD (n % 4) 0 := by
  unfold lookV tableO
  split
  · have h4 : n % 4 < 4 := Nat.mod_lt _ (by decide)
    have : ∀ i, i < 4 → ([0, 0, 0, 0] : List Int).getD i 0 = 0 := by decide
    rw [this _ h4]
  · rfl

end Go.Proofs.Ytehleeibgkpjmag
/- Writing, wiping, punching: what comes is right, and how it is read. Plain lists. -/
namespace Go.Proofs.Ytehleeibgkpjmag
open Go.RowKit Go.Shelf
set_option maxRecDepth 20000

def EntOK (L : List SlotD) (e : Int) : Prop := e = 0 ∨ e = -1 ∨ ∃ j : Nat, e = j ∧ 1 ≤ j ∧ j < L.length ∧ kd L j = 1
structure Laid (m M : ImgD) (k : Nat) (es : List Int) : Prop where
  shape : shapeE M = 0
  guest : M.guest = m.guest
  snaps : M.snaps = m.snaps
  rlen : M.root.length = m.root.length
  look : ∀ q, q / 4 < m.root.length → lookV M M.root q = if q / 4 = k then es.getD (q % 4) 0 else lookV m m.root q
  past : ∀ s ∈ m.snaps, ∀ q, q / 4 < s.2.2.length → lookV M s.2.2 q = lookV m s.2.2 q
  page : ∀ e, EntOK m.slots e → pageV M.slots e = pageV m.slots e


theorem snap_fit {m : ImgD} (h : shapeE m = 0) {s : SnapD} (hs : s ∈ rootsOf m) : 0 ≤ s.2.1 ∧ s.2.1 ≤ 16 ∧ (s.2.2.length : Int) = (s.2.1 + 3) / 4 ∧ s.2.2.all (rootE m.slots) = true := by
  have hf := List.all_eq_true.1 (shapeE_zero h).2.2.2.2.2.2 s hs
  have hg := List.all_eq_true.1 (shapeE_zero h).2.2.2.2.1 s hs
  unfold rootFit at hf
  unfold guestOK at hg
  simp only [Bool.and_eq_true, decide_eq_true_eq] at hf hg
  exact ⟨hg.1, hg.2, hf.1, hf.2.1⟩
theorem Laid.allV {m M : ImgD} {k : Nat} {es : List Int} (hL : Laid m M k es) : Go.Proofs.Ytehleeibgkpjmag.allV (countedD M) = allP M M.root m.guest.toNat := by
  unfold Go.Proofs.Ytehleeibgkpjmag.allV
  rw [if_pos (counted_right hL.shape)]
  have := allP_counted hL.shape (s := (⟨#[]⟩, M.guest, M.root)) List.mem_cons_self
  show allP (countedD M) M.root M.guest.toNat = _
  rw [this, hL.guest]
theorem Laid.put {m M : ImgD} {n : Nat} {x : Int} (hC : checkE m = 0) (hn : (n : Int) < m.guest) (hL : Laid m M (n / 4) ((tableO m (n / 4)).set (n % 4) x)) : Go.Proofs.Ytehleeibgkpjmag.allV (countedD M) = (Go.Proofs.Ytehleeibgkpjmag.allV m).set n (pageV M.slots x) := by
  have h := checkE_shape hC
  have hr := root_ok h
  have hg := guest_ok h
  rw [hL.allV]
  unfold Go.Proofs.Ytehleeibgkpjmag.allV
  rw [if_pos hC]
  unfold allP
  apply List.ext_getElem
  · simp
  · intro q h1 h2
    have hq : q < m.guest.toNat := by simpa using h1
    rw [List.getElem_set, List.getElem_map, List.getElem_range]
    rw [hL.look q (by omega)]
    have hlen : (tableO m (n / 4)).length = 4 := ckE_len (tableO_ok h (by omega)).1
    by_cases e : n = q
    · subst e
      rw [if_pos rfl, if_pos rfl, set_get (by rw [hlen]; omega)]
    · rw [if_neg e]
      simp only [List.getElem_map, List.getElem_range]
      by_cases e4 : q / 4 = n / 4
      · rw [if_pos e4, getD_setI, if_neg (fun z => e (by omega)), ← e4, ← lookV_tableO]
        exact hL.page _ (lookV_ent h hr.2 q (by omega))
      · rw [if_neg e4]
        exact hL.page _ (lookV_ent h hr.2 q (by omega))



end Go.Proofs.Ytehleeibgkpjmag
/- An image of one's own: each of its lists, each table and each snapshot's Root lies in a row of its own, in memory that came since B. What stays, and what turns, when something is stored. -/
namespace Go.Proofs.Ytehleeibgkpjmag
open Go.RowKit
set_option maxRecDepth 20000

structure Nm where
  kind : Nat
  ix : Nat
abbrev Nm.root : Nm := ⟨0, 0⟩
abbrev Nm.slots : Nm := ⟨1, 0⟩
abbrev Nm.refs : Nm := ⟨2, 0⟩
abbrev Nm.snaps : Nm := ⟨3, 0⟩
abbrev Nm.tab (j : Nat) : Nm := ⟨4, j⟩
abbrev Nm.sr (j : Nat) : Nm := ⟨5, j⟩
def Live (m : ImgD) (a : Nm) : Prop := (a.kind < 4 ∧ a.ix = 0) ∨ (a.kind = 4 ∧ a.ix < m.slots.length) ∨ (a.kind = 5 ∧ a.ix < m.snaps.length)
theorem Live.cases {m : ImgD} {a : Nm} (h : Live m a) : a = .root ∨ a = .slots ∨ a = .refs ∨ a = .snaps ∨ (∃ j, a = .tab j ∧ j < m.slots.length) ∨ ∃ j, a = .sr j ∧ j < m.snaps.length := by
  obtain ⟨k, j⟩ := a
  rcases h with ⟨h1, h2⟩ | ⟨h1, h2⟩ | ⟨h1, h2⟩
  · dsimp only at h1 h2
    subst h2
    match k, h1 with
    | 0, _ => exact .inl rfl
    | 1, _ => exact .inr (.inl rfl)
    | 2, _ => exact .inr (.inr (.inl rfl))
    | 3, _ => exact .inr (.inr (.inr (.inl rfl)))
  · dsimp only at h1 h2; subst h1; exact .inr (.inr (.inr (.inr (.inl ⟨j, rfl, h2⟩))))
  · dsimp only at h1 h2; subst h1; exact .inr (.inr (.inr (.inr (.inr ⟨j, rfl, h2⟩))))
theorem Live.root (m : ImgD) : Live m .root := .inl ⟨by decide, rfl⟩
theorem Live.slots (m : ImgD) : Live m .slots := .inl ⟨by decide, rfl⟩
theorem Live.refs (m : ImgD) : Live m .refs := .inl ⟨by decide, rfl⟩
theorem Live.snaps (m : ImgD) : Live m .snaps := .inl ⟨by decide, rfl⟩
theorem Live.tab {m : ImgD} {j : Nat} (h : j < m.slots.length) : Live m (.tab j) := .inr (.inl ⟨rfl, h⟩)
theorem Live.sr {m : ImgD} {j : Nat} (h : j < m.snaps.length) : Live m (.sr j) := .inr (.inr ⟨rfl, h⟩)
theorem live_iff {m m' : ImgD} (h1 : m'.slots.length = m.slots.length) (h2 : m'.snaps.length = m.snaps.length) (b : Nm) : Live m' b ↔ Live m b := by unfold Live; rw [h1, h2]
def flatS (L : List SlotD) (tv : Nat → Value) : List Value := (List.range L.length).flatMap (fun j => [.int .i64 (L.getD j default).1, .string (L.getD j default).2.1, tv j])
def flatN (S : List SnapD) (qv : Nat → Value) : List Value := (List.range S.length).flatMap (fun j => [.string (S.getD j default).1, .int .i64 (S.getD j default).2.1, qv j])
def ints (l : List Int) : List Value := l.map (Value.int .i64)
def rowT (a : Nm) : TypeId := match a.kind with | 1 => 60 | 3 => 74 | _ => 3
def rowS (a : Nm) : Nat := match a.kind with | 1 => 3 | 3 => 3 | _ => 1
def rowN (m : ImgD) (a : Nm) : Nat := match a.kind with
  | 0 => m.root.length
  | 1 => m.slots.length
  | 2 => m.refs.length
  | 3 => m.snaps.length
  | 4 => (m.slots.getD a.ix default).2.2.length
  | _ => (m.snaps.getD a.ix default).2.2.length
def rowV (m : ImgD) (val : Nm → Value) (a : Nm) : List Value := match a.kind with
  | 0 => ints m.root
  | 1 => flatS m.slots (fun j => val (.tab j))
  | 2 => ints m.refs
  | 3 => flatN m.snaps (fun j => val (.sr j))
  | 4 => ints (m.slots.getD a.ix default).2.2
  | _ => ints (m.snaps.getD a.ix default).2.2
def imgV (g : Int) (val : Nm → Value) : Value := .agg #[.int .i64 g, val .root, val .slots, val .refs, val .snaps]

structure OI (W : World) (B : Nat) (val : Nm → Value) (m : ImgD) : Prop where
  row : ∀ a, Live m a → W.ownsRow B (rowT a) (rowS a) (val a) (rowN m a) (rowV m val a)
  apart : ∀ a b, Live m a → Live m b → a ≠ b → ∀ g, (val a).ownBlock = some g → (val b).ownBlock ≠ some g

theorem OI.keep {W W' : World} {B : Nat} {val : Nm → Value} {m : ImgD} (h : OI W B val m) (hk : ∀ g, B ≤ g → g < W.heap.size → W'.heap[g]? = W.heap[g]?) : OI W' B val m := by
  refine ⟨fun a ha => ?_, h.apart⟩
  have hr := h.row a ha
  refine ⟨hr.1, ?_⟩
  rcases hr.2 with hn | ⟨g, cap, cur, hv, hb, hg, rest⟩
  · exact .inl hn
  · exact .inr ⟨g, cap, cur, hv, hb, (hk g hb (Array.getElem?_eq_some_iff.1 hg).1).trans hg, rest⟩
theorem OI.below {W W' : World} {B : Nat} {val : Nm → Value} {m : ImgD} (h : OI W B val m) (hb : Below W.heap.size W W') : OI W' B val m := h.keep fun g _ hg => hb.block g hg
theorem OI.alloc {W : World} {B : Nat} {val : Nm → Value} {m : ImgD} (h : OI W B val m) (o : Obj) : OI (W.alloc o) B val m := h.below ((Below.refl _ _).alloc (Nat.le_refl _) o)
theorem OI.drew {W : World} {B : Nat} {val : Nm → Value} {m : ImgD} (h : OI W B val m) : OI W.drew B val m := ⟨fun a ha => (h.row a ha).drew, h.apart⟩


theorem ints_length (l : List Int) : (ints l).length = l.length := by simp [ints]
theorem row_sl {W : World} {B : Nat} {v : Value} {l : List Int} (h : W.ownsRow B 3 1 v l.length (ints l)) : Sl W v l := by
  rcases h.2 with ⟨rfl, hn⟩ | ⟨g, cap, cur, rfl, _⟩
  · have : l = [] := List.eq_nil_of_length_eq_zero hn
    subst this; exact Sl.nil W
  · exact Sl_of_own h
theorem flat3_get (f : Nat → Value × Value × Value) : ∀ (n j i : Nat), j < n → i < 3 → ((List.range n).flatMap (fun j => [(f j).1, (f j).2.1, (f j).2.2]))[j * 3 + i]? = some (if i = 0 then (f j).1 else if i = 1 then (f j).2.1 else (f j).2.2)
  | 0, j, i, hj, _ => absurd hj (by omega)
  | n + 1, j, i, hj, hi => by
    have hl : ∀ n, ((List.range n).flatMap (fun j => [(f j).1, (f j).2.1, (f j).2.2])).length = n * 3 := fun n => by
      induction n with
      | zero => rfl
      | succ n ih => rw [List.range_succ, List.flatMap_append, List.length_append, ih]; simp; omega
    rw [List.range_succ, List.flatMap_append]
    by_cases e : j < n
    · rw [List.getElem?_append_left (by rw [hl]; omega)]
      exact flat3_get f n j i e hi
    · have : j = n := by omega
      subst this
      rw [List.getElem?_append_right (by rw [hl]; omega), hl]
      match i, hi with
      | 0, _ => simp
      | 1, _ => simp
      | 2, _ => simp
theorem flatS_get {L : List SlotD} {tv : Nat → Value} {j : Nat} (hj : j < L.length) : (flatS L tv)[j * 3]? = some (.int .i64 (L.getD j default).1) ∧ (flatS L tv)[j * 3 + 1]? = some (.string (L.getD j default).2.1) ∧ (flatS L tv)[j * 3 + 2]? = some (tv j) := by
  have h := fun i hi => flat3_get (fun j => (.int .i64 (L.getD j default).1, .string (L.getD j default).2.1, tv j)) L.length j i hj hi
  exact ⟨h 0 (by omega), h 1 (by omega), h 2 (by omega)⟩
theorem flatN_get {S : List SnapD} {qv : Nat → Value} {j : Nat} (hj : j < S.length) : (flatN S qv)[j * 3]? = some (.string (S.getD j default).1) ∧ (flatN S qv)[j * 3 + 1]? = some (.int .i64 (S.getD j default).2.1) ∧ (flatN S qv)[j * 3 + 2]? = some (qv j) := by
  have h := fun i hi => flat3_get (fun j => (.string (S.getD j default).1, .int .i64 (S.getD j default).2.1, qv j)) S.length j i hj hi
  exact ⟨h 0 (by omega), h 1 (by omega), h 2 (by omega)⟩
theorem row_lt {W : World} {B : Nat} {e : TypeId} {size g n cap : Nat} {xs : List Value} (h : W.ownsRow B e size (.slice (some ⟨g, 0, none⟩) n cap) n xs) : B ≤ g ∧ g < W.heap.size ∧ n ≤ cap ∧ cap ≤ maxLen := by
  rcases h.2 with ⟨h', _⟩ | ⟨g', cap', cur, h', hb, hg, hnc, hcm, _⟩
  · simp at h'
  · simp only [Value.slice.injEq, Option.some.injEq, Addr.mk.injEq, and_true, true_and] at h'
    obtain ⟨rfl, rfl⟩ := h'
    exact ⟨hb, (Array.getElem?_eq_some_iff.1 hg).1, hnc, hcm⟩
theorem row_form {W : World} {B : Nat} {e : TypeId} {size n : Nat} {v : Value} {xs : List Value} (h : W.ownsRow B e size v n xs) : (v = .slice none 0 0 ∧ n = 0) ∨ ∃ g cap, v = .slice (some ⟨g, 0, none⟩) n cap ∧ B ≤ g ∧ g < W.heap.size ∧ n ≤ cap ∧ cap ≤ maxLen := by
  have h' := h
  rcases h.2 with hn | ⟨g, cap, cur, rfl, _⟩
  · exact .inl hn
  · exact .inr ⟨g, cap, rfl, row_lt h'⟩
theorem row_slots {W : World} {B : Nat} {v : Value} {L : List SlotD} {tv : Nat → Value} (h : W.ownsRow B 60 3 v L.length (flatS L tv)) (ht : ∀ j, j < L.length → Sl W (tv j) (L.getD j default).2.2) : Slots W v L := by
  have h' := h
  rcases row_form h with ⟨rfl, hn⟩ | ⟨g, cap, rfl, hb, hg, hnc, hcm⟩
  · have : L = [] := List.eq_nil_of_length_eq_zero hn
    subst this; exact ⟨none, 0, rfl, Nat.zero_le _, Nat.zero_le _, fun h => absurd rfl h⟩
  · refine ⟨_, cap, rfl, Nat.le_trans hnc hcm, hnc, fun _ => ⟨g, 0, rfl, hg, fun j hj => ?_⟩⟩
    have hc := fun i (hi : i < 3) => h'.cellAt (j * 3 + i) (by omega)
    obtain ⟨g0, g1, g2⟩ := flatS_get (tv := tv) hj
    have e : L[j] = L.getD j default := by simp [List.getD, hj]
    rw [e, Nat.zero_add]
    exact ⟨tv j, (hc 0 (by omega)).trans g0, (hc 1 (by omega)).trans g1, (hc 2 (by omega)).trans g2, ht j hj⟩
theorem row_snaps {W : World} {B : Nat} {v : Value} {S : List SnapD} {qv : Nat → Value} (h : W.ownsRow B 74 3 v S.length (flatN S qv)) (ht : ∀ j, j < S.length → Sl W (qv j) (S.getD j default).2.2) : Snaps W v S := by
  have h' := h
  rcases row_form h with ⟨rfl, hn⟩ | ⟨g, cap, rfl, hb, hg, hnc, hcm⟩
  · have : S = [] := List.eq_nil_of_length_eq_zero hn
    subst this; exact ⟨none, 0, rfl, Nat.zero_le _, Nat.zero_le _, fun h => absurd rfl h⟩
  · refine ⟨_, cap, rfl, Nat.le_trans hnc hcm, hnc, fun _ => ⟨g, 0, rfl, hg, fun j hj => ?_⟩⟩
    have hc := fun i (hi : i < 3) => h'.cellAt (j * 3 + i) (by omega)
    obtain ⟨g0, g1, g2⟩ := flatN_get (qv := qv) hj
    have e : S[j] = S.getD j default := by simp [List.getD, hj]
    rw [e, Nat.zero_add]
    exact ⟨qv j, (hc 0 (by omega)).trans g0, (hc 1 (by omega)).trans g1, (hc 2 (by omega)).trans g2, ht j hj⟩
theorem OI.img {W : World} {B : Nat} {val : Nm → Value} {m : ImgD} (h : OI W B val m) : Img W (imgV m.guest val) m :=
  ⟨_, _, _, _, rfl, row_sl (h.row .root (Live.root m)), row_slots (h.row .slots (Live.slots m)) (fun j hj => row_sl (h.row (.tab j) (Live.tab hj))), row_sl (h.row .refs (Live.refs m)), row_snaps (h.row .snaps (Live.snaps m)) (fun j hj => row_sl (h.row (.sr j) (Live.sr hj)))⟩


end Go.Proofs.Ytehleeibgkpjmag
/- An image of one's own: whole slots that are stored, slots that are put behind, lists that are exchanged. -/
namespace Go.Proofs.Ytehleeibgkpjmag
open Go.RowKit
set_option maxRecDepth 20000

def upd (val : Nm → Value) (a : Nm) (v : Value) : Nm → Value := fun b => if b.kind = a.kind ∧ b.ix = a.ix then v else val b
theorem upd_same (val : Nm → Value) (a : Nm) (v : Value) : upd val a v a = v := by unfold upd; rw [if_pos ⟨rfl, rfl⟩]
theorem upd_other (val : Nm → Value) {a b : Nm} (v : Value) (h : b ≠ a) : upd val a v b = val b := by
  unfold upd
  rw [if_neg]
  intro e
  apply h
  obtain ⟨k, i⟩ := a
  obtain ⟨k', i'⟩ := b
  obtain ⟨e1, e2⟩ := e
  dsimp only at e1 e2
  rw [e1, e2]
def Far (m : ImgD) (val : Nm → Value) (a : Nm) (v : Value) : Prop := ∀ b, Live m b → b ≠ a → ∀ g, v.ownBlock = some g → (val b).ownBlock ≠ some g
theorem OI.swap {W : World} {B : Nat} {val : Nm → Value} {m m' : ImgD} (h : OI W B val m) {a : Nm} (ha : Live m a) {v : Value} (hv : W.ownsRow B (rowT a) (rowS a) v (rowN m' a) (rowV m' (upd val a v) a)) (hfar : Far m val a v)
    (hlive : ∀ b, Live m' b ↔ Live m b) (hsame : ∀ b, Live m b → b ≠ a → rowN m' b = rowN m b ∧ rowV m' (upd val a v) b = rowV m val b) : OI W B (upd val a v) m' := by
  refine ⟨fun b hb => ?_, fun b c hb hc hne g hg => ?_⟩
  · have hb := (hlive b).1 hb
    by_cases e : b = a
    · subst e; rw [upd_same]; exact hv
    · rw [upd_other val v e, (hsame b hb e).1, (hsame b hb e).2]; exact h.row b hb
  · have hb := (hlive b).1 hb
    have hc := (hlive c).1 hc
    by_cases e : b = a
    · subst e
      rw [upd_same] at hg
      rw [upd_other val v (fun x => hne x.symm)]
      exact hfar c hc (fun x => hne x.symm) g hg
    · rw [upd_other val v e] at hg
      by_cases e2 : c = a
      · subst e2
        rw [upd_same]
        exact fun x => hfar b hb e g x hg
      · rw [upd_other val v e2]; exact h.apart b c hb hc hne g hg
theorem OI.swapRoot {W : World} {B : Nat} {val : Nm → Value} {m : ImgD} (h : OI W B val m) {v : Value} {r : List Int} (hv : W.ownsRow B 3 1 v r.length (ints r)) (hfar : Far m val .root v) (g : Int) : OI W B (upd val .root v) { m with guest := g, root := r } := by
  refine h.swap (a := .root) (Live.root m) hv hfar (live_iff rfl rfl) (fun b hb hne => ?_)
  rcases hb.cases with rfl | rfl | rfl | rfl | ⟨j, rfl, hj⟩ | ⟨j, rfl, hj⟩ <;> first | exact ⟨rfl, rfl⟩ | exact absurd rfl hne
theorem OI.swapRefs {W : World} {B : Nat} {val : Nm → Value} {m : ImgD} (h : OI W B val m) {v : Value} {r : List Int} (hv : W.ownsRow B 3 1 v r.length (ints r)) (hfar : Far m val .refs v) : OI W B (upd val .refs v) { m with refs := r } := by
  refine h.swap (a := .refs) (Live.refs m) hv hfar (live_iff rfl rfl) (fun b hb hne => ?_)
  rcases hb.cases with rfl | rfl | rfl | rfl | ⟨j, rfl, hj⟩ | ⟨j, rfl, hj⟩ <;> first | exact ⟨rfl, rfl⟩ | exact absurd rfl hne


theorem flat3_length (f : Nat → Value × Value × Value) (n : Nat) : ((List.range n).flatMap (fun j => [(f j).1, (f j).2.1, (f j).2.2])).length = n * 3 := by
  induction n with
  | zero => rfl
  | succ n ih => rw [List.range_succ, List.flatMap_append, List.length_append, ih]; simp; omega
theorem flatS_length (L : List SlotD) (tv : Nat → Value) : (flatS L tv).length = L.length * 3 := flat3_length (fun j => (.int .i64 (L.getD j default).1, .string (L.getD j default).2.1, tv j)) L.length
theorem flatN_length (S : List SnapD) (qv : Nat → Value) : (flatN S qv).length = S.length * 3 := flat3_length (fun j => (.string (S.getD j default).1, .int .i64 (S.getD j default).2.1, qv j)) S.length

theorem flatS_snoc (L : List SlotD) (tv tv' : Nat → Value) (s : SlotD) (htv : ∀ j, j < L.length → tv' j = tv j) : flatS (L ++ [s]) tv' = flatS L tv ++ [.int .i64 s.1, .string s.2.1, tv' L.length] := by
  unfold flatS
  rw [List.length_append, List.length_singleton, List.range_succ, List.flatMap_append]
  have e1 : (List.range L.length).flatMap (fun j => [Value.int .i64 ((L ++ [s]).getD j default).1, .string ((L ++ [s]).getD j default).2.1, tv' j]) = (List.range L.length).flatMap (fun j => [Value.int .i64 (L.getD j default).1, .string (L.getD j default).2.1, tv j]) := by
    refine congrArg List.flatten (List.map_congr_left fun j hj => ?_)
    have hj := List.mem_range.1 hj
    have e : (L ++ [s]).getD j default = L.getD j default := by simp [List.getD, List.getElem?_append, hj]
    rw [e, htv j hj]
  rw [e1]
  simp
theorem OI.addSlot {W W' : World} {B : Nat} {val : Nm → Value} {m : ImgD} (h : OI W B val m) {k : Int} {d : ByteArray} {es : List Int} {ev sv : Value} (hev : W.ownsRow B 3 1 ev es.length (ints es)) (hfar : Far m val (.tab m.slots.length) ev)
    (hgrow : W.grownBy W' (val .slots).ownBlock) (hrow : W'.ownsRow B 60 3 sv (m.slots.length + 1) (flatS m.slots (fun j => val (.tab j)) ++ [.int .i64 k, .string d, ev])) (hblk : sv.ownBlock = (val .slots).ownBlock ∨ ∀ g, sv.ownBlock = some g → W.heap.size ≤ g) :
    OI W' B (upd (upd val (.tab m.slots.length) ev) .slots sv) { m with slots := m.slots ++ [(k, d, es)] } := by
  have hval : ∀ b, b ≠ .slots → b ≠ .tab m.slots.length → upd (upd val (.tab m.slots.length) ev) .slots sv b = val b := fun b h1 h2 => by rw [upd_other _ sv h1, upd_other _ ev h2]
  have hvs : upd (upd val (.tab m.slots.length) ev) .slots sv .slots = sv := upd_same _ _ _
  have hvt : upd (upd val (.tab m.slots.length) ev) .slots sv (.tab m.slots.length) = ev := by rw [upd_other _ sv (by intro x; cases x), upd_same]
  have hcase : ∀ b, Live { m with slots := m.slots ++ [(k, d, es)] } b → b = .slots ∨ b = .tab m.slots.length ∨ (Live m b ∧ b ≠ .slots ∧ b ≠ .tab m.slots.length) := fun b hb => by
    rcases hb.cases with rfl | rfl | rfl | rfl | ⟨j, rfl, hj⟩ | ⟨j, rfl, hj⟩
    · exact .inr (.inr ⟨Live.root m, (by intro x; cases x), (by intro x; cases x)⟩)
    · exact .inl rfl
    · exact .inr (.inr ⟨Live.refs m, (by intro x; cases x), (by intro x; cases x)⟩)
    · exact .inr (.inr ⟨Live.snaps m, (by intro x; cases x), (by intro x; cases x)⟩)
    · by_cases e : j = m.slots.length
      · subst e; exact .inr (.inl rfl)
      · refine .inr (.inr ⟨Live.tab (by simp at hj; omega), (by intro x; cases x), ?_⟩)
        intro x; apply e; injection x
    · exact .inr (.inr ⟨Live.sr hj, (by intro x; cases x), (by intro x; cases x)⟩)
  have hnot : ∀ b, Live m b → b ≠ .slots → (val b).ownBlock = none ∨ (val b).ownBlock ≠ (val .slots).ownBlock := fun b hb hne => by
    cases hg : (val b).ownBlock with
    | none => exact .inl rfl
    | some g => exact .inr (fun x => h.apart b .slots hb (Live.slots m) hne g hg x.symm)
  have hevn : ev.ownBlock = none ∨ ev.ownBlock ≠ (val .slots).ownBlock := by
    cases hg : ev.ownBlock with
    | none => exact .inl rfl
    | some g => exact .inr (fun x => hfar .slots (Live.slots m) (by intro y; cases y) g hg x.symm)
  have hsvfar : ∀ b, Live m b → b ≠ .slots → ∀ g, sv.ownBlock = some g → (val b).ownBlock ≠ some g := fun b hb hne g hg hx => by
    rcases hblk with e | e
    · rw [e] at hg; exact h.apart b .slots hb (Live.slots m) hne g hx hg
    · have := ((h.row b hb).lt g hx).2
      have := e g hg
      omega
  have hsvev : ∀ g, sv.ownBlock = some g → ev.ownBlock ≠ some g := fun g hg hx => by
    rcases hblk with e | e
    · rw [e] at hg; exact hfar .slots (Live.slots m) (by intro y; cases y) g hx hg
    · have := (hev.lt g hx).2
      have := e g hg
      omega
  refine ⟨fun b hb => ?_, fun b c hb hc hne q hq => ?_⟩
  · rcases hcase b hb with rfl | rfl | ⟨hb', h1, h2⟩
    · rw [hvs]
      have e1 : rowV { m with slots := m.slots ++ [(k, d, es)] } (upd (upd val (.tab m.slots.length) ev) .slots sv) .slots = flatS m.slots (fun j => val (.tab j)) ++ [.int .i64 k, .string d, ev] := by
        have := flatS_snoc m.slots (fun j => val (.tab j)) (fun j => upd (upd val (.tab m.slots.length) ev) .slots sv (.tab j)) (k, d, es) (fun j hj => hval _ (by intro x; cases x) (by intro x; injection x with _ x; omega))
        rw [hvt] at this
        exact this
      have e2 : rowN { m with slots := m.slots ++ [(k, d, es)] } .slots = m.slots.length + 1 := by show (m.slots ++ [(k, d, es)]).length = _; simp
      rw [e1, e2]; exact hrow
    · rw [hvt]
      have e0 : (m.slots ++ [(k, d, es)]).getD m.slots.length default = (k, d, es) := by simp [List.getD]
      have e1 : rowV { m with slots := m.slots ++ [(k, d, es)] } (upd (upd val (.tab m.slots.length) ev) .slots sv) (.tab m.slots.length) = ints es := by
        show ints ((m.slots ++ [(k, d, es)]).getD m.slots.length default).2.2 = _
        rw [e0]
      have e2 : rowN { m with slots := m.slots ++ [(k, d, es)] } (.tab m.slots.length) = es.length := by
        show ((m.slots ++ [(k, d, es)]).getD m.slots.length default).2.2.length = _
        rw [e0]
      rw [e1, e2]
      exact hev.kept hgrow hevn
    · rw [hval b h1 h2]
      have e1 : rowV { m with slots := m.slots ++ [(k, d, es)] } (upd (upd val (.tab m.slots.length) ev) .slots sv) b = rowV m val b ∧ rowN { m with slots := m.slots ++ [(k, d, es)] } b = rowN m b := by
        rcases hb'.cases with rfl | rfl | rfl | rfl | ⟨j, rfl, hj⟩ | ⟨j, rfl, hj⟩
        · exact ⟨rfl, rfl⟩
        · exact absurd rfl h1
        · exact ⟨rfl, rfl⟩
        · refine ⟨?_, rfl⟩
          show flatN m.snaps _ = flatN m.snaps _
          unfold flatN
          refine congrArg List.flatten (List.map_congr_left fun j _ => ?_)
          dsimp only
          rw [hval (.sr j) (by intro x; cases x) (by intro x; cases x)]
        · have e : (m.slots ++ [(k, d, es)]).getD j default = m.slots.getD j default := by simp [List.getD, List.getElem?_append, hj]
          constructor
          · show ints ((m.slots ++ [(k, d, es)]).getD j default).2.2 = _
            rw [e]; rfl
          · show ((m.slots ++ [(k, d, es)]).getD j default).2.2.length = _
            rw [e]; rfl
        · exact ⟨rfl, rfl⟩
      rw [e1.1, e1.2]
      exact (h.row b hb').kept hgrow (hnot b hb' h1)
  · rcases hcase b hb with rfl | rfl | ⟨hb', h1, h2⟩
    · rw [hvs] at hq
      rcases hcase c hc with rfl | rfl | ⟨hc', g1, g2⟩
      · exact absurd rfl hne
      · rw [hvt]; exact hsvev q hq
      · rw [hval c g1 g2]; exact hsvfar c hc' g1 q hq
    · rw [hvt] at hq
      rcases hcase c hc with rfl | rfl | ⟨hc', g1, g2⟩
      · rw [hvs]; exact fun x => hsvev q x hq
      · exact absurd rfl hne
      · rw [hval c g1 g2]; exact hfar c hc' g2 q hq
    · rw [hval b h1 h2] at hq
      rcases hcase c hc with rfl | rfl | ⟨hc', g1, g2⟩
      · rw [hvs]; exact fun x => hsvfar b hb' h1 q x hq
      · rw [hvt]; exact fun x => hfar b hb' h2 q x hq
      · rw [hval c g1 g2]; exact h.apart b c hb' hc' hne q hq
end Go.Proofs.Ytehleeibgkpjmag
/- A list of integers is put behind a new empty one: a copy of one's own. A slot, a snapshot, is put behind. -/
namespace Go.Proofs.Ytehleeibgkpjmag
open Go.RowKit

theorem infoSlot : (Try.prog.info? 60).map (fun i => (i.zero, i.size, i.bytes)) = some (some (.agg #[.int .i64 0, .string ByteArray.empty, .slice none 0 0]), 3, 48) := by kernel_rfl
theorem infoSnap : (Try.prog.info? 74).map (fun i => (i.zero, i.size, i.bytes)) = some (some (.agg #[.string ByteArray.empty, .int .i64 0, .slice none 0 0]), 3, 48) := by kernel_rfl
theorem three_new (W : World) (T : TypeId) (x y z : Value) : ∀ (j : Nat) (u : Value), [x, y, z][j]? = some u → (W.alloc (.cells #[x, y, z] T)).cell? ((⟨W.heap.size, 0, none⟩ : Addr).add j) = some u := by
  intro j u hj
  rw [addr_add, World.cell?_alloc_at _ _ _ _ rfl]
  match j, hj with
  | 0, hj => simpa using hj
  | 1, hj => simpa using hj
  | 2, hj => simpa using hj
theorem wp_app3 {W : World} {o : Oper} {a : Act} {K : Act → World → Prop} {Q : Exit → Act → World → Prop} (s x : Operand) (t e : TypeId) (z0 : Value) (ht : Try.prog.underlying t = some (.slice e)) (hinfo : (Try.prog.info? e).map (fun i => (i.zero, i.size, i.bytes)) = some (some z0, 3, 48)) (hz3 : z0.cells.size = 3)
    (ho : o.op = .call { callee := .builtin .append, args := #[s, x], argTypes := #[t, t] }) {B n : Nat} {v : Value} {xs : List Value} {c0 c1 c2 : Value} (h1 : c0.oneCell' = true) (h2 : c1.oneCell' = true) (h3 : c2.oneCell' = true)
    (hs : a.eval s = v) {N : Nat} (hx : a.eval x = .slice (some ⟨N, 0, none⟩) 1 1) (hN : N = W.heap.size) (hown : W.ownsRow B e 3 v n xs) (hn : n ≤ 1000) (hB : B ≤ W.heap.size)
    (h : ∀ v' w', Hid (w'.ownsRow B e 3 v' (n + 1) (xs ++ [c0, c1, c2])) → (W.alloc (.cells #[c0, c1, c2] e)).grownBy w' v.ownBlock → Hid (v'.ownBlock = v.ownBlock ∨ v'.ownBlock = some (W.heap.size + 1)) → K (a.put o.dst v') w') : o.wp Try.prog a (W.alloc (.cells #[c0, c1, c2] e)) K Q := by
  subst hN
  obtain ⟨i0, hi, hz0, hz1, hz2⟩ := info_parts hinfo
  obtain ⟨v', w', hr, g2, g3, _, g5⟩ := run_append_own_at (P := Try.prog) (W.alloc (.cells #[c0, c1, c2] e)) B t o.type e i0 z0 3 48 ht hi hz0 hz1 hz2 hz3 (by decide) v n xs (hown.alloc _) ⟨W.heap.size, 0, none⟩ 1 1 [c0, c1, c2] rfl (three_new W e c0 c1 c2) (by intro u hu; simp at hu; rcases hu with rfl | rfl | rfl <;> assumption) (by unfold maxLen; omega) (by omega) (by simp; omega)
  unfold Oper.wp execOp
  simp only [ho, resolve, invoke, builtin, Sem.run_bind, Sem.run_pure, Result.andThen_ok, List.map_toArray, List.map_cons, List.map_nil, hs, hx, hr]
  have g6 : v'.ownBlock = v.ownBlock ∨ v'.ownBlock = some (W.heap.size + 1) := by simpa using g5
  exact h v' w' g2 g3 g6
end Go.Proofs.Ytehleeibgkpjmag
