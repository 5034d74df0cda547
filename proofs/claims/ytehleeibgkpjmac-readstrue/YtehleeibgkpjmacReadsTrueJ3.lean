/- Texts joined: Counts, TCheck, CntF, RefP, RefC, BareIn, SlotErr. -/
import Derived.Test.YtehleeibgkpjmacReadsTrueJ2
import Derived.Deep.QuietTactic
import Derived.BigQuiet
import Derived.Deep.RegionHeld3
import Derived.Test.YtehleeibgkpjmacReadsTrueJ1
set_option linter.unusedVariables false
set_option linter.unusedSimpArgs false
/- Contract of Counts. -/
namespace Go.Proofs.Ytehleeibgkpjmac
open Go.RowKit Go.Shelf
set_option maxRecDepth 20000
attribute [local go_sem] Oper.semAt_some

theorem info3 : (Try.prog.info? 3).map (fun i => (i.zero, i.size, i.bytes)) = some (some (.int .i64 0), 1, 8) := by kernel_rfl
theorem mk_ints (n : Nat) (hn : n ≤ 40) (W : World) : (Instr.makeSlice 22 (.int .i64 (n : Int)) (.int .i64 (n : Int))).run Try.prog W = .ok (.slice (some ⟨W.heap.size, 0, none⟩) n n) (W.alloc (.cells ((List.replicate n (0 : Int)).map (Value.int .i64)).toArray 3)) := by
  have hi := info3
  cases h : Try.prog.info? 3 with
  | none => rw [h] at hi; cases hi
  | some i =>
    rw [h] at hi
    simp at hi
    have := run_make (P := Try.prog) W 22 3 i (.int .i64 0) Try.underlying22 h hi.1 .i64 .i64 n n (by omega) (by omega) (by rw [hi.2.2]; omega) (by omega)
    rw [this, hi.2.1]
    have e : madeCells (Value.int .i64 0).cells (((n : Int)).toNat * 1) = ((List.replicate n (0 : Int)).map (Value.int .i64)).toArray := by
      apply Array.ext
      · simp [madeCells]
      · intro j h1 h2
        simp [madeCells, Value.cells, Nat.mod_one]
    rw [e]
    simp

abbrev RootC (w : World) (L : List SlotD) : Type := { p : RootV × SnapD // Rt w p.1 p.2 ∧ rootFit L p.2.2.1 p.2.2.2 = true ∧ guestOK p.2.2.1 = true }
theorem rootsC_of {w : World} {L : List SlotD} : ∀ (zs : List (RootA w)), (∀ x ∈ zs, rootFit L x.1.2.2.1 x.1.2.2.2 = true ∧ guestOK x.1.2.2.1 = true) → ∃ ys : List (RootC w L), ys.map (fun x => x.1.1) = zs.map (fun x => x.1.1) ∧ ys.map (fun x => x.1.2) = zs.map (fun x => x.1.2)
  | [], _ => ⟨[], rfl, rfl⟩
  | x :: zs, h => by
    obtain ⟨ys, h1, h2⟩ := rootsC_of zs (fun y hy => h y (List.mem_cons_of_mem _ hy))
    exact ⟨⟨x.1, x.2, h x List.mem_cons_self⟩ :: ys, by rw [List.map_cons, List.map_cons, h1], by rw [List.map_cons, List.map_cons, h2]⟩
/-- The Roots of a prefix, gone through. -/
def goneC {w : World} (L : List SlotD) (pre : List (RootC w L)) : List Int := (pre.flatMap (fun x => x.1.2.2.2)).foldl (stepC L) (List.replicate L.length 0)
theorem goneC_snoc {w : World} (L : List SlotD) (pre : List (RootC w L)) (x : RootC w L) : goneC L (pre ++ [x]) = x.1.2.2.2.foldl (stepC L) (goneC L pre) := by
  unfold goneC
  rw [List.flatMap_append, List.foldl_append]
  simp
theorem fold_length (L : List SlotD) (r : List Int) : ∀ l : List Int, (r.foldl (stepC L) l).length = l.length := by
  induction r with
  | nil => exact fun l => rfl
  | cons k r ih => exact fun l => by rw [List.foldl_cons, ih, stepC_length]
theorem goneC_length {w : World} (L : List SlotD) (pre : List (RootC w L)) : (goneC L pre).length = L.length := by unfold goneC; rw [fold_length]; simp
theorem tab4 {L : List SlotD} (h : slotsE L = 0) (k : Int) : (tabOf L k).length ≤ 4 := by
  unfold tabOf
  by_cases hk : k.toNat < L.length
  · have := slotsE_all h hk
    have e : L.getD k.toNat default = L[k.toNat] := by simp [List.getD, hk]
    rw [e]
    unfold okD slotOK at this
    split at this
    · simp at this; rw [this.2]; exact Nat.zero_le _
    · split at this
      · simp at this; rw [this.2]; exact Nat.zero_le _
      · split at this
        · simp at this; have := ckE_len this.1; omega
        · cases this
  · have e : L.getD k.toNat default = default := by simp [List.getD, hk]
    rw [e]
    exact Nat.zero_le _
theorem Bnd.stepC {L : List SlotD} (h : slotsE L = 0) {l : List Int} {B : Nat} (hb : Bnd l B) (k : Int) : Bnd (stepC L l k) (B + 5) := by
  unfold Go.Proofs.Ytehleeibgkpjmac.stepC
  split
  · exact hb.mono (by omega)
  · split
    · exact ((hb.inc k).pagesC).mono (by have := tab4 h k; omega)
    · exact (hb.inc k).mono (by omega)
theorem Bnd.fold {L : List SlotD} (h : slotsE L = 0) : ∀ {r l : List Int} {B : Nat}, Bnd l B → Bnd (r.foldl (Go.Proofs.Ytehleeibgkpjmac.stepC L) l) (B + 5 * r.length)
  | [], _, _, hb => hb
  | k :: r, l, B, hb => by
    have := Bnd.fold h (r := r) (hb.stepC h k)
    exact this.mono (by simp; omega)
theorem root4 {w : World} {L : List SlotD} (x : RootC w L) : x.1.2.2.2.length ≤ 4 := by
  have h := x.2.2.1
  have hg := x.2.2.2
  unfold rootFit at h
  unfold guestOK at hg
  simp only [Bool.and_eq_true, decide_eq_true_eq] at h hg
  omega
theorem rootEs {w : World} {L : List SlotD} (x : RootC w L) : x.1.2.2.2.all (rootE L) = true := by
  have h := x.2.2.1
  unfold rootFit at h
  simp only [Bool.and_eq_true] at h
  exact h.2.1
theorem flat_len {w : World} {L : List SlotD} : ∀ pre : List (RootC w L), (pre.flatMap (fun x => x.1.2.2.2)).length ≤ 4 * pre.length
  | [] => Nat.zero_le _
  | x :: pre => by
    have h1 := flat_len pre
    have h2 := root4 x
    rw [List.flatMap_cons, List.length_append, List.length_cons]
    omega
theorem Bnd.gone {w : World} {L : List SlotD} (h : slotsE L = 0) (pre : List (RootC w L)) : Bnd (goneC L pre) (20 * pre.length) := by
  unfold goneC
  exact (Bnd.fold h (Bnd.zero L.length)).mono (by have := flat_len pre; omega)
theorem fold_take (L : List SlotD) (l r : List Int) (k : Nat) (hk : k < r.length) : (r.take (k + 1)).foldl (stepC L) l = stepC L ((r.take k).foldl (stepC L) l) (r.getD k 0) := by
  have e : r.getD k 0 = r[k] := by simp [List.getD, hk]
  rw [List.take_add_one, List.getElem?_eq_getElem hk, Option.toList_some, List.foldl_append, e]
  rfl
theorem Only.cellsAt {g B : Nat} {W W' : World} {A : Array Value} {t : TypeId} {fr : Nat × Nat} (h : Only g W W') (hne : B ≠ g) (hb : W.heap[B]? = some (.cells A t fr)) : W'.heap[B]? = some (.cells A t fr) := (h.block B hne).trans hb
theorem Only.keepsFrom {g n : Nat} {l : List Int} {W W' : World} (h : Only g W W') (hl : LAt W g l) : KeepsFrom n W W' := ⟨Nat.le_of_eq h.size.symm, fun k o _ hk ho => by
  by_cases e : k = g
  · subst e
    rw [show W.heap[k]? = _ from hl] at hk
    cases hk
    cases ho
  · exact (h.block k e).trans hk⟩

/-- Between two rounds: the list lies whole, in its block; the boxes as they were. -/
structure CI (w : World) (sn g : Nat) (box : Obj) (l : List Int) (W : World) : Prop where
  l : LAt W g l
  x : Boxed W (g + 1) 22 (.slice (some ⟨g, 0, none⟩) sn sn)
  m : W.heap[w.heap.size]? = some box
  k : W.heap[g + 1 + 1]? = some box
  b : Below w.heap.size w W
  z : g + 1 + 1 + 1 ≤ W.heap.size
theorem CI.own {w : World} {sn g : Nat} {box : Obj} {l : List Int} {X Y : World} {row : Option Nat} (h : CI w sn g box l X) (hg : X.grownBy Y row) (hr : ∀ r, row = some r → ∃ o : Obj, X.heap[r]? = some o ∧ o.isCells = false) (hz : ∀ r, row = some r → g + 1 + 1 < r ∧ w.heap.size < r) : CI w sn g box l Y := by
  refine ⟨cells_kept h.l hg hr, cells_kept h.x hg hr, (hg.block _ (Array.getElem?_eq_some_iff.1 h.m).1 (fun e => ?_)).trans h.m, (hg.block _ (Array.getElem?_eq_some_iff.1 h.k).1 (fun e => ?_)).trans h.k, h.b.grown hg h.b.size (fun k e => Nat.le_of_lt (hz k e).2), Nat.le_trans h.z hg.size⟩
  · have := (hz _ e.symm).2; omega
  · have := (hz _ e.symm).1; omega
theorem CI.alloc {w : World} {sn g : Nat} {box : Obj} {l : List Int} {X : World} (h : CI w sn g box l X) (o : Obj) : CI w sn g box l (X.alloc o) := h.own (World.grownBy_alloc X o none) (by simp) (by simp)
theorem CI.only {w : World} {sn g : Nat} {box : Obj} {l l' : List Int} {X Y : World} (h : CI w sn g box l X) (ho : Only g X Y) (hl : LAt Y g l') (hg : w.heap.size < g) : CI w sn g box l' Y :=
  ⟨hl, (ho.block _ (by omega)).trans h.x, (ho.block _ (by omega)).trans h.m, (ho.block _ (by omega)).trans h.k, h.b.trans (ho.below (Nat.le_of_lt hg)), by rw [ho.size]; exact h.z⟩

theorem counts_bad (gm : Int) (ra : Option Addr) (rn rc : Nat) (sa : Option Addr) (sn sc : Nat) (fa : Option Addr) (fn fc : Nat) (na : Option Addr) (nn nc : Nat) (m : ImgD) (E : Int) (w : World) (h : Img w (Value.agg #[.int .i64 gm, .slice ra rn rc, .slice sa sn sc, .slice fa fn fc, .slice na nn nc]) m) (hE : shapeE m = E) (hne : (E != 0) = true) :
    Calls Try.prog 11 #[Value.agg #[.int .i64 gm, .slice ra rn rc, .slice sa sn sc, .slice fa fn fc, .slice na nn nc]] w fun r w' => r = .returned (.tuple #[.slice none 0 0, .int .i64 E]) ∧ Below w.heap.size w w' := by
  have b0 : Below w.heap.size w (w.alloc (.cells #[.int .i64 gm, .slice ra rn rc, .slice sa sn sc, .slice fa fn fc, .slice na nn nc] 26)) := (Below.refl _ _).alloc (Nat.le_refl _) _
  have hcall := shape_is (h.below b0) hE
  clear h hE
  refine (callsIn_wide (n := 9)).1 ?_
  refine callsIn_of_wp_marks Try.func11 rfl trivial ?_ rfl
  simp only [Try.ntmps11, List.size_toArray, List.length_cons, List.length_nil, Nat.reduceAdd, Nat.reduceSub, Array.replicate_succ, Array.replicate_zero, List.push_toArray, List.append_toArray, List.nil_append, List.cons_append]
  gi_wp2_with (refine ⟨trivial, ?_⟩; gi_at_call 38; refine (callsIn_wide.2 hcall).mono ?_; rintro e w1 ⟨rfl, b1⟩)
  refine ⟨_, results_tmp2 rfl _ _ _, rfl, Below.on b0 b1⟩

set_option maxRecDepth 100000 in
set_option maxHeartbeats 8000000 in
theorem counts_at (gm : Int) (ra : Option Addr) (rn rc : Nat) (sb so : Nat) (sn sc : Nat) (fa : Option Addr) (fn fc : Nat) (na : Option Addr) (nn nc : Nat) (r : List Int) (L : List SlotD) (S : List SnapD) (refs : List Int) (w : World) (hr : Sl w (.slice ra rn rc) r) (hs : Slots w (.slice (some ⟨sb, so, none⟩) sn sc) L) (hf : Sl w (.slice fa fn fc) refs) (hS : Snaps w (.slice na nn nc) S) (hsn : L.length = sn) (hsn40 : sn ≤ 40) (hsb : sb < w.heap.size) (hcl : ∀ j, (h : j < L.length) → SlAt w sb (so + j * 3) L[j])
    (hE : shapeE ⟨gm, r, L, refs, S⟩ = 0) (hLs : slotsE L = 0) (hS3 : S.length ≤ 3) (hT : tabFit L = true) (hG : ((⟨#[]⟩, gm, r) :: S).all (fun s => guestOK s.2.1) = true) (hF : ((⟨#[]⟩, gm, r) :: S).all (fun s => rootFit L s.2.1 s.2.2) = true) :
    Calls Try.prog 11 #[Value.agg #[.int .i64 gm, .slice ra rn rc, .slice (some ⟨sb, so, none⟩) sn sc, .slice fa fn fc, .slice na nn nc]] w fun e w' => (∃ g, w.heap.size ≤ g ∧ e = .returned (.tuple #[.slice (some ⟨g, 0, none⟩) sn sn, .int .i64 0]) ∧ LAt w' g ((((⟨#[]⟩, gm, r) :: S).flatMap (fun s => s.2.2)).foldl (stepC L) (List.replicate L.length 0))) ∧ Below w.heap.size w w' := by
  have b0 : Below w.heap.size w (w.alloc (.cells #[.int .i64 gm, .slice ra rn rc, .slice (some ⟨sb, so, none⟩) sn sc, .slice fa fn fc, .slice na nn nc] 26)) := (Below.refl _ _).alloc (Nat.le_refl _) _
  have m0 : (w.alloc (.cells #[.int .i64 gm, .slice ra rn rc, .slice (some ⟨sb, so, none⟩) sn sc, .slice fa fn fc, .slice na nn nc] 26)).heap[w.heap.size]? = some (.cells #[.int .i64 gm, .slice ra rn rc, .slice (some ⟨sb, so, none⟩) sn sc, .slice fa fn fc, .slice na nn nc] 26) := World.alloc_heap_new _ _
  have hI : Img w (Value.agg #[.int .i64 gm, .slice ra rn rc, .slice (some ⟨sb, so, none⟩) sn sc, .slice fa fn fc, .slice na nn nc]) ⟨gm, r, L, refs, S⟩ := ⟨_, _, _, _, rfl, hr, hs, hf, hS⟩
  have hcall := shape_is (hI.below b0) hE
  have hmk := mk_ints sn hsn40
  clear hI hE hf
  refine (callsIn_wide (n := 9)).1 ?_
  refine callsIn_of_wp_marks Try.func11 rfl trivial ?_ rfl
  simp only [Try.ntmps11, List.size_toArray, List.length_cons, List.length_nil, Nat.reduceAdd, Nat.reduceSub, Array.replicate_succ, Array.replicate_zero, List.push_toArray, List.append_toArray, List.nil_append, List.cons_append]
  gi_wp2_with (first
    | (refine ⟨trivial, ?_⟩; gi_at_call 38; refine (callsIn_wide.2 hcall).mono ?_; rintro e w1 ⟨rfl, b1⟩; have m1 := cells_below m0 b1 (by simp); obtain ⟨c0, c1, c2, c3, c4⟩ := five m1; have m2 := cells_alloc (cells_alloc m1 (.cells (Array.replicate sn (.int .i64 0)) 3)) (.cells #[.slice (some ⟨w1.heap.size, 0, none⟩) sn sn] 22); obtain ⟨d0, d1, d2, d3, d4⟩ := five m2)
    | (refine ⟨trivial, ?_⟩; gi_at_call 40; refine (roots_in Fence.wide _ trivial rfl _ _ _ _ _ _).mono ?_; rintro e w3 ⟨rfl, rfl⟩))
  have hbw1 := Below.on b0 b1
  have hmlt : w.heap.size < w1.heap.size := (Array.getElem?_eq_some_iff.1 m1).1
  obtain ⟨Wm, hWm⟩ : ∃ Wm, (w1.alloc (.cells (Array.replicate sn (.int .i64 0)) 3)).alloc (.cells #[.slice (some ⟨w1.heap.size, 0, none⟩) sn sn] 22) = Wm := ⟨_, rfl⟩
  have l2 : LAt Wm w1.heap.size (List.replicate sn 0) := by
    rw [← hWm]
    have := cells_alloc (World.alloc_heap_new w1 (.cells (Array.replicate sn (.int .i64 0)) 3)) (.cells #[.slice (some ⟨w1.heap.size, 0, none⟩) sn sn] 22)
    show _ = _
    rw [this]
    simp
  have x2 : Boxed Wm (w1.heap.size + 1) 22 (.slice (some ⟨w1.heap.size, 0, none⟩) sn sn) := by
    rw [← hWm]
    have := Boxed.new (w1.alloc (.cells (Array.replicate sn (.int .i64 0)) 3)) 22 (.slice (some ⟨w1.heap.size, 0, none⟩) sn sn)
    simpa using this
  have hb2 : Below w.heap.size w Wm := by
    rw [← hWm]
    exact (hbw1.alloc hbw1.size _).alloc (by have := hbw1.size; simp; omega) _
  have hz2 : Wm.heap.size = w1.heap.size + 1 + 1 := by rw [← hWm]; simp
  rw [hWm] at m2 d0 d1 d2 d3 d4 ⊢
  have hz2a := Nat.le_of_eq hz2
  have hz2b := Nat.le_of_eq hz2.symm
  have m3 : (Wm.alloc (.cells #[.int .i64 gm, .slice ra rn rc, .slice (some ⟨sb, so, none⟩) sn sc, .slice fa fn fc, .slice na nn nc] 26)).heap[w1.heap.size + 1 + 1]? = some (.cells #[.int .i64 gm, .slice ra rn rc, .slice (some ⟨sb, so, none⟩) sn sc, .slice fa fn fc, .slice na nn nc] 26) := by rw [← hz2]; exact World.alloc_heap_new _ _
  have m3' := cells_alloc m2 (.cells #[.int .i64 gm, .slice ra rn rc, .slice (some ⟨sb, so, none⟩) sn sc, .slice fa fn fc, .slice na nn nc] 26)
  have l3 : LAt (Wm.alloc (.cells #[.int .i64 gm, .slice ra rn rc, .slice (some ⟨sb, so, none⟩) sn sc, .slice fa fn fc, .slice na nn nc] 26)) w1.heap.size (List.replicate sn 0) := cells_alloc l2 _
  have x3 := x2.alloc (.cells #[.int .i64 gm, .slice ra rn rc, .slice (some ⟨sb, so, none⟩) sn sc, .slice fa fn fc, .slice na nn nc] 26)
  have hb3 : Below w.heap.size w (Wm.alloc (.cells #[.int .i64 gm, .slice ra rn rc, .slice (some ⟨sb, so, none⟩) sn sc, .slice fa fn fc, .slice na nn nc] 26)) := hb2.alloc hb2.size _
  have hz3a : (Wm.alloc (.cells #[.int .i64 gm, .slice ra rn rc, .slice (some ⟨sb, so, none⟩) sn sc, .slice fa fn fc, .slice na nn nc] 26)).heap.size ≤ w1.heap.size + 1 + 1 + 1 := by simp; omega
  have hz3b : w1.heap.size + 1 + 1 + 1 ≤ (Wm.alloc (.cells #[.int .i64 gm, .slice ra rn rc, .slice (some ⟨sb, so, none⟩) sn sc, .slice fa fn fc, .slice na nn nc] 26)).heap.size := by simp; omega
  obtain ⟨zs0, hL0, hzs0⟩ := rootsA_of hr hS hS3 hb3 m3
  obtain ⟨xs, hz1, hzx⟩ := rootsC_of (L := L) zs0 (fun x hx => by
    rw [← hzs0, List.all_eq_true] at hF hG
    exact ⟨hF x.1.2 (List.mem_map.2 ⟨x, hx, rfl⟩), hG x.1.2 (List.mem_map.2 ⟨x, hx, rfl⟩)⟩)
  have HxS : Hid (xs.map (fun x => x.1.2) = (⟨#[]⟩, gm, r) :: S) := hzx.trans hzs0
  have hxl : xs.length ≤ 4 := by
    have := congrArg List.length HxS.out
    simp at this
    omega
  rw [← hz1] at hL0
  obtain ⟨W0, hW0⟩ : ∃ W0, Wm.alloc (.cells #[.int .i64 gm, .slice ra rn rc, .slice (some ⟨sb, so, none⟩) sn sc, .slice fa fn fc, .slice na nn nc] 26) = W0 := ⟨_, rfl⟩
  rw [hW0] at m3 m3' l3 x3 hb3 hz3a hz3b hL0
  rw [hW0]
  have HN : Hid (L.length = sn) := hsn
  have hI0 : CI w sn w1.heap.size (.cells #[.int .i64 gm, .slice ra rn rc, .slice (some ⟨sb, so, none⟩) sn sc, .slice fa fn fc, .slice na nn nc] 26) (goneC L ([] : List (RootC w L))) W0 := ⟨by have := l3; rw [← HN.out] at this; exact this, x3, m3', m3, hb3, hz3b⟩
  have hslot : ∀ j, (h : j < L.length) → ∃ tv, w.cell? ⟨sb, so + j * 3 + 2, none⟩ = some tv ∧ Sl w tv L[j].2.2 := fun j h => by
    obtain ⟨tv, _, _, c3, hsl⟩ := hcl j h
    exact ⟨tv, c3, hsl⟩
  have HSl : Hid (∀ j, (h : j < L.length) → ∃ tv, w.cell? ⟨sb, so + j * 3 + 2, none⟩ = some tv ∧ Sl w tv L[j].2.2) := hslot
  clear hWm hW0 hcall hmk c0 c1 c2 c3 c4 d0 d1 d2 d3 d4 m0 m1 m2 l2 x2 b0 b1 hb2 hz2 hz2a hz2b m3 m3' l3 x3 hz1 hzx hzs0 hsn hslot hcl
  refine wpIn_rangeFunc_ownH rfl (by omega) (gf := 76) (lb := #[.pointer (some ⟨w1.heap.size + 1 + 1, 0, none⟩)]) rfl trivial (enters_of Try.func76 (by kernel_rfl) rfl)
    (roots_stops (fun x : RootC w L => x.1.1) Fence.wide 8 trivial rfl (by omega) (w1.heap.size + 1 + 1) w.heap.size xs W0 hL0 (by omega) (by omega)) KpR.trans (KpR.put (by omega) (by omega)) (Below.refl _ _) (fun _ => rfl)
    (fun pre W => CI w sn w1.heap.size (.cells #[.int .i64 gm, .slice ra rn rc, .slice (some ⟨sb, so, none⟩) sn sc, .slice fa fn fc, .slice na nn nc] 26) (goneC L pre) W)
    (fun _ _ _ => False)
    (fun pre X Y row hs hg hr => hs.own hg (fun r e => (hr r e).2) (fun r e => by have := (hr r e).1; omega))
    (fun _ _ _ _ _ hs _ _ => hs)
    hI0
    (fun x a' W => ∃ Bx, W.heap[Bx]? = some (.cells #[.string x.1.1.nm, .int .i64 x.1.1.g, .slice x.1.1.a x.1.1.n x.1.1.c] 61) ∧ w1.heap.size + 1 + 1 + 1 ≤ Bx ∧ a' = { tmps := #[Value.agg #[.int .i64 gm, .slice ra rn rc, .slice (some ⟨sb, so, none⟩) sn sc, .slice fa fn fc, .slice na nn nc], .pointer (some ⟨w.heap.size, 0, none⟩), .slice none 0 0, .int .i64 0, .int .i64 0, .pointer (some ⟨w1.heap.size + 1, 0, none⟩), .pointer (some ⟨Bx, 0, none⟩), undef, undef, Value.agg #[.int .i64 gm, .slice ra rn rc, .slice (some ⟨sb, so, none⟩) sn sc, .slice fa fn fc, .slice na nn nc], .int .i64 0, .int .i64 0, .bool false, undef, .pointer (some ⟨w.heap.size, 2, none⟩), .slice (some ⟨sb, so, none⟩) sn sc, .int .i64 sn, .slice (some ⟨w1.heap.size, 0, none⟩) sn sn, Value.agg #[.int .i64 gm, .slice ra rn rc, .slice (some ⟨sb, so, none⟩) sn sc, .slice fa fn fc, .slice na nn nc], .func (.func 76) #[] #[.pointer (some ⟨w1.heap.size + 1 + 1, 0, none⟩)], .agg #[.string x.1.1.nm, .int .i64 x.1.1.g, .slice x.1.1.a x.1.1.n x.1.1.c], undef, undef, undef, undef, undef, undef, undef, undef, undef, undef, undef, undef, undef, undef, undef, undef, undef, undef, undef, undef, undef, undef, undef, undef, undef, undef, undef, undef, undef, undef], defers := [] })
    (fun x a' _ X Y row hs hg hr => by obtain ⟨Bx, e1, e2, e3⟩ := hs; exact ⟨Bx, cells_kept e1 hg (fun r e => (hr r e).2), e2, e3⟩)
    ?assign ?body ?done ?stop
  case assign =>
    rintro l pre x W K hI hK
    unfold encRoot
    gi_wp2
    exact hK _ _ ((KeepsOthers.alloc _ _).from _) (KpR.alloc (by have := hI.z; omega) (by have := hI.z; omega) _) (hI.alloc _) ⟨W.heap.size, World.alloc_heap_new _ _, hI.z, rfl⟩
  case stop =>
    rintro D c pre W _ _ h _
    exact h.elim
  case done =>
    rintro D ys W hD rfl hI hK
    have cX := hI.x.cell
    have hfin : LAt (W.putObj D (.deferred none)) w1.heap.size ((((⟨#[]⟩, gm, r) :: S).flatMap (fun s => s.2.2)).foldl (stepC L) (List.replicate L.length 0)) := by
      have := hI.l
      unfold goneC at this
      rw [show ys.flatMap (fun x => x.1.2.2.2) = (ys.map (fun x => x.1.2)).flatMap (fun s => s.2.2) by rw [List.flatMap_map], HxS.out] at this
      exact (World.putObj_heap_other (by omega)).trans this
    gi_wp2
    refine ⟨by simp, .inl ⟨_, _, rfl, run_takeDeferred hK, ?_⟩⟩
    exact ⟨_, results_tmp2 rfl _ _ _, ⟨w1.heap.size, by omega, rfl, hfin⟩, below_put hI.b (by omega) _⟩
  case body =>
    rintro l pre x a' W hl ⟨rr, hrr⟩ hI ⟨Bx, hBx, hBlt, rfl⟩ hlt
    obtain ⟨e0, e1, e2⟩ := three hBx
    have h4 := root4 x
    obtain ⟨hrl, hrm, _, hcc⟩ := x.2.1.2.2.cells
    have HR : Hid (x.1.2.2.2.length = x.1.1.n) := hrl
    have hn4 : x.1.1.n ≤ 4 := by omega
    have HC : Hid (∀ j, j < x.1.1.n → ∃ b off, x.1.1.a = some ⟨b, off, none⟩ ∧ b < w.heap.size ∧ w.cell? ⟨b, off + j, none⟩ = some (.int .i64 (x.1.2.2.2.getD j 0))) := hcc
    have HI : Hid (CI w sn w1.heap.size (.cells #[.int .i64 gm, .slice ra rn rc, .slice (some ⟨sb, so, none⟩) sn sc, .slice fa fn fc, .slice na nn nc] 26) (goneC L pre) W) := hI
    have hp4 : pre.length ≤ 4 := by omega
    obtain ⟨xa, hxa⟩ : ∃ xa, x.1.1.a = xa := ⟨_, rfl⟩
    obtain ⟨xn, hxn⟩ : ∃ xn, x.1.1.n = xn := ⟨_, rfl⟩
    rw [hxa, hxn] at HC e2 ⊢
    rw [hxn] at hn4 HR
    clear hcc hrl h4 hI hxa hxn
    gi_wp2
    gi_loopw [8, 24] (fun _ i wr => ∃ k : Nat, k ≤ xn ∧ i = .int .i64 k ∧ Hid (LAt wr w1.heap.size ((x.1.2.2.2.take k).foldl (stepC L) (goneC L pre))) ∧ Only w1.heap.size W wr) (fun _ i _ => xn - (intOf i).toNat)
    case atStart => exact ⟨0, Nat.zero_le _, rfl, HI.out.l, Only.refl _ _⟩
    case round =>
      obtain ⟨k, hk, rfl, HLk, hon⟩ := hrel
      by_cases hlk : k < xn
      · obtain ⟨b, off, rfl, hbl, hcell⟩ := HC.out k hlk
        have hki : (k : Int) < (xn : Int) := by omega
        have hkr : k < x.1.2.2.2.length := by rw [HR.out]; exact hlk
        have hE := all_at (rootEs x) hkr
        have hstep := fold_take L (goneC L pre) x.1.2.2.2 k hkr
        obtain ⟨q, hq⟩ : ∃ q, x.1.2.2.2.getD k 0 = q := ⟨_, rfl⟩
        rw [hq] at hE hstep hcell
        obtain ⟨lk, hlke⟩ : ∃ lk, (x.1.2.2.2.take k).foldl (stepC L) (goneC L pre) = lk := ⟨_, rfl⟩
        have hlen : lk.length = sn := by rw [← hlke, fold_length, goneC_length, HN.out]
        have hbd : Bnd lk 100 := by
          rw [← hlke]
          refine (Bnd.fold hLs (Bnd.gone hLs pre)).mono ?_
          have : (x.1.2.2.2.take k).length ≤ 4 := by simp; omega
          omega
        rw [hlke] at hstep
        have HLk' : Hid (LAt wr w1.heap.size lk) := by rw [← hlke]; exact HLk
        have hbr : Below w.heap.size w wr := HI.out.b.trans (hon.below (Nat.le_of_lt hmlt))
        have c1 : wr.cell? ⟨b, off + k, none⟩ = some (.int .i64 q) := (hbr.cell (p := ⟨b, off + k, none⟩) hbl).trans hcell
        have HCI : Hid (CI w sn w1.heap.size (.cells #[.int .i64 gm, .slice ra rn rc, .slice (some ⟨sb, so, none⟩) sn sc, .slice fa fn fc, .slice na nn nc] 26) lk wr) := HI.out.only hon HLk'.out hmlt
        have HS : Hid ((x.1.2.2.2.take (k + 1)).foldl (stepC L) (goneC L pre) = stepC L lk q) := hstep
        clear hstep hlke hcell hq hkr HLk
        by_cases h0 : q = 0
        · have h0' : (q == 0) = true := by simp [h0]
          have H0 : Hid (q = 0) := h0
          clear h0 hE
          gi_wp2
          go_roundw
          case rel => exact ⟨k + 1, by omega, by go_num, by show LAt _ _ _; rw [HS.out]; unfold stepC; rw [if_pos H0.out]; exact HLk'.out, hon⟩
          case measure => simp [intOf]; omega
        · have h0' : (q == 0) = false := by simp [h0]
          rw [rootE_x h0] at hE
          obtain ⟨j, rfl, hj, hkd⟩ := isKd_yes hE
          have hjn : j < sn := by rw [← HN.out]; exact hj
          have hji : (j : Int) < (sn : Int) := by omega
          obtain ⟨c, hc⟩ : ∃ c, lk.getD j 0 = c := ⟨_, rfl⟩
          have cq : wr.cell? ⟨w1.heap.size, j, none⟩ = some (.int .i64 c) := by rw [← hc]; exact HLk'.out.cell (by omega)
          have fq : wr.frozen? ⟨w1.heap.size, j, none⟩ = false := HLk'.out.frozen j
          have hcb := hbd j
          rw [hc] at hcb
          have hcb1 := hcb.1
          have hcb2 := hcb.2
          have cX := HCI.out.x.cell
          have HL1 : Hid (LAt (wr.setCell ⟨w1.heap.size, j, none⟩ (.int .i64 (c + 1))) w1.heap.size (inc lk j)) := by
            show LAt _ _ _
            unfold inc
            rw [Int.toNat_natCast, hc]
            exact HLk'.out.set j (c + 1)
          have HO1 : Hid (Only w1.heap.size wr (wr.setCell ⟨w1.heap.size, j, none⟩ (.int .i64 (c + 1)))) := Only.set _ _ _ _
          have HC1 : Hid (CI w sn w1.heap.size (.cells #[.int .i64 gm, .slice ra rn rc, .slice (some ⟨sb, so, none⟩) sn sc, .slice fa fn fc, .slice na nn nc] 26) (inc lk j) (wr.setCell ⟨w1.heap.size, j, none⟩ (.int .i64 (c + 1)))) := HCI.out.only HO1.out HL1.out hmlt
          have cX1 := HC1.out.x.cell
          have cq1 : (wr.setCell ⟨w1.heap.size, j, none⟩ (.int .i64 (c + 1))).cell? ⟨w1.heap.size, j, none⟩ = some (.int .i64 (c + 1)) := by
            have := HL1.out.cell (j := j) (by rw [inc_length]; omega)
            rw [this]
            unfold inc
            rw [Int.toNat_natCast, getD_set, if_pos ⟨rfl, by omega⟩, hc]
          have hinc : (inc lk j).getD j 0 = c + 1 := by
            unfold inc
            rw [Int.toNat_natCast, getD_set, if_pos ⟨rfl, by omega⟩, hc]
          obtain ⟨f0, f1, f2, f3, f4⟩ := five HC1.out.m
          obtain ⟨tv, ct, hsl⟩ := HSl.out j hj
          have hok := okD_tab (slotsE_all hLs hj) hkd
          obtain ⟨tb, tw, tc, rfl, htc, htb, _⟩ := hsl.four hok.1
          have ct1 : (wr.setCell ⟨w1.heap.size, j, none⟩ (.int .i64 (c + 1))).cell? ⟨sb, so + j * 3 + 2, none⟩ = some (.slice (some ⟨tb, tw, none⟩) 4 tc) := (HC1.out.b.cell (p := ⟨sb, so + j * 3 + 2, none⟩) hsb).trans ct
          have HTb : Hid (tabOf L (j : Int) = L[j].2.2) := by show _ = _; unfold tabOf; simp [List.getD, hj]
          by_cases hc0 : c = 0
          · have hcz : (c + 1 == 1) = true := by simp [hc0]
            have HZ : Hid (stepC L lk j = pagesC (inc lk j) L[j].2.2) := by
              show _ = _
              unfold stepC
              rw [if_neg h0, Int.toNat_natCast, hinc, if_pos (by omega), HTb.out]
            have hent : ∀ e ∈ L[j].2.2, e = 0 ∨ e = -1 ∨ (1 ≤ e ∧ e < (sn : Int)) := fun e he => by
              unfold tabFit at hT
              rw [List.all_eq_true] at hT
              have h1 := hT _ (List.getElem_mem hj)
              rw [List.all_eq_true] at h1
              have h2 := h1 e he
              by_cases e0 : e = 0
              · exact .inl e0
              by_cases e1 : e = -1
              · exact .inr (.inl e1)
              rw [tabE_x e0 e1] at h2
              obtain ⟨i, rfl, hi, _⟩ := isKd_yes h2
              exact .inr (.inr ⟨by omega, by have := HN.out; omega⟩)
            have hcall : ∀ V : World, LAt V w1.heap.size (inc lk j) → Below w.heap.size w V → Calls Try.prog 41 #[.slice (some ⟨w1.heap.size, 0, none⟩) sn sn, .slice (some ⟨tb, tw, none⟩) 4 tc] V fun r w' => (∃ v, r = .returned v) ∧ LAt w' w1.heap.size (pagesC (inc lk j) L[j].2.2) ∧ Only w1.heap.size V w' :=
              fun V h1 h2 => countPages_at w1.heap.size sn (inc lk j) _ 4 tc L[j].2.2 101 V w (by rw [inc_length, hlen]) hsn40 hok.1 (Nat.le_refl _) (by omega) h1 (hbd.inc j) h2 (by omega) hsl hent
            clear hc hc0 h0 hE hcb hok hsl hent ct hinc hbd
            have hmix : Try.prog.follows .mixedOrders = true := by kernel_rfl
            gi_wp2
            gi_region_with_o (first | (refine ⟨trivial, ?_⟩; gi_at_call 41; refine (CallsIn.inRound l (callsIn_wide.2 (hcall _ ?_ ?_))).mono ?_; (first | exact HL1.out | skip); (first | exact ⟨HC1.out.b.os, HC1.out.b.tape, HC1.out.b.output, HC1.out.b.size, HC1.out.b.block⟩ | skip); rintro e w6 ⟨⟨v6, rfl⟩, l6, o6⟩) | (gi_at_call 41; refine (CallsIn.inRound l (callsIn_wide.2 (hcall _ ?_ ?_))).mono ?_; (first | exact HL1.out | skip); (first | exact ⟨HC1.out.b.os, HC1.out.b.tape, HC1.out.b.output, HC1.out.b.size, HC1.out.b.block⟩ | skip); rintro e w6 ⟨⟨v6, rfl⟩, l6, o6⟩))
            all_goals gi_wp2
            all_goals
              go_roundw
              case rel => exact ⟨k + 1, by omega, by go_num, by show LAt _ _ _; rw [HS.out, HZ.out]; exact l6, hon.trans (HO1.out.trans ⟨o6.os, o6.tape, o6.output, o6.size, o6.block⟩)⟩
              case measure => simp [intOf]; omega
          · have hcz : (c + 1 == 1) = false := by simp; omega
            have HZ : Hid (stepC L lk j = inc lk j) := by
              show _ = _
              unfold stepC
              rw [if_neg h0, Int.toNat_natCast, hinc, if_neg (by omega)]
            clear hc hc0 h0 hE hcb hok hsl ct hinc hbd
            gi_wp2
            go_roundw
            case rel => exact ⟨k + 1, by omega, by go_num, by show LAt _ _ _; rw [HS.out, HZ.out]; exact HL1.out, hon.trans HO1.out⟩
            case measure => simp [intOf]; omega
      · have e4 : k = xn := by omega
        subst e4
        have HE : Hid (CI w sn w1.heap.size (.cells #[.int .i64 gm, .slice ra rn rc, .slice (some ⟨sb, so, none⟩) sn sc, .slice fa fn fc, .slice na nn nc] 26) (goneC L (pre ++ [x])) wr) := HI.out.only hon (by
          have := HLk.out
          rw [List.take_of_length_le (by rw [HR.out]; exact Nat.le_refl _)] at this
          rw [goneC_snoc]
          exact this) hmlt
        have HK : Hid (KeepsFrom W0.heap.size W wr ∧ KpR w.heap.size (w1.heap.size + 1 + 1) W wr) := ⟨hon.keepsFrom HI.out.l, hon.below (by omega), hon.block _ (by omega)⟩
        gi_wp2
        exact ⟨HK.out.1, HK.out.2, HE.out⟩
end Go.Proofs.Ytehleeibgkpjmac
/- Contracts of Counts, all ways together; of slices.Equal; of Check and Look. -/
namespace Go.Proofs.Ytehleeibgkpjmac
open Go.RowKit Go.Shelf
set_option maxRecDepth 20000

def cntL (m : ImgD) : List Int := ((rootsOf m).flatMap (fun s => s.2.2)).foldl (stepC m.slots) (List.replicate m.slots.length 0)
theorem cntL_length (m : ImgD) : (cntL m).length = m.slots.length := by unfold cntL; rw [fold_length]; simp

theorem LAt.sl {W : World} {g n : Nat} {l : List Int} (h : LAt W g l) (hn : l.length = n) (hm : n ≤ maxLen) : Sl W (.slice (some ⟨g, 0, none⟩) n n) l := by
  subst hn
  exact ⟨_, _, rfl, hm, Nat.le_refl _, fun _ => ⟨g, 0, rfl, h.lt, fun j hj => by rw [Nat.zero_add]; exact h.cell hj⟩⟩

/-- What a right shape says. -/
theorem shapeE_zero {m : ImgD} (h : shapeE m = 0) : m.snaps.length ≤ 3 ∧ slotsE m.slots = 0 ∧ m.refs.length = m.slots.length ∧ namesOK m.snaps = true ∧ (rootsOf m).all (fun s => guestOK s.2.1) = true ∧ tabFit m.slots = true ∧ (rootsOf m).all (fun s => rootFit m.slots s.2.1 s.2.2) = true := by
  unfold shapeE at h
  split at h
  · simp at h
  rename_i h1
  split at h
  · rename_i h2; exact absurd h h2
  rename_i h2
  split at h
  · simp at h
  rename_i h3
  split at h
  · simp at h
  rename_i h4
  split at h
  · simp at h
  rename_i h5
  split at h
  · simp at h
  rename_i h6
  refine ⟨by omega, by simpa using h2, ?_, ?_, by simpa using h4, by simpa using h5, by simpa using h6⟩
  · exact Classical.byContradiction fun e => h3 (.inl e)
  · cases e : namesOK m.snaps with
    | true => rfl
    | false => exact absurd (.inr e) h3

theorem counts_own {w : World} {v : Value} {m : ImgD} (h : Img w v m) (hE : shapeE m = 0) :
    Calls Try.prog 11 #[v] w fun e w' => (∃ g, w.heap.size ≤ g ∧ e = .returned (.tuple #[.slice (some ⟨g, 0, none⟩) m.slots.length m.slots.length, .int .i64 0]) ∧ LAt w' g (cntL m)) ∧ Below w.heap.size w w' := by
  obtain ⟨z1, z2, z3, z4, z5, z6, z7⟩ := shapeE_zero hE
  obtain ⟨ra, rc, sa, sc, fa, fc, na, nc, rfl, h1, h2, h3, h4⟩ := h.parts
  have hp := slotsE_parts z2
  have h2' := h2
  obtain ⟨sb, so, sc', e, hcp, hlt, hcell⟩ := h2.open hp.1
  simp at e
  obtain ⟨rfl, rfl⟩ := e
  refine (counts_at m.guest ra _ rc sb so _ sc fa _ fc na _ nc m.root m.slots m.snaps m.refs w h1 h2' h3 h4 rfl hp.2 hlt hcell hE z2 z1 z6 z5 z7).mono fun e w' hr => ⟨?_, hr.2⟩
  obtain ⟨g, hg, e1, e2⟩ := hr.1
  exact ⟨g, hg, e1, e2⟩
theorem counts_ok {w : World} {v : Value} {m : ImgD} (h : Img w v m) (hE : shapeE m = 0) :
    Calls Try.prog 11 #[v] w fun e w' => (∃ lv, e = .returned (.tuple #[lv, .int .i64 0]) ∧ Sl w' lv (cntL m)) ∧ Below w.heap.size w w' := by
  have hp := slotsE_parts (shapeE_zero hE).2.1
  refine (counts_own h hE).mono fun e w' hr => ⟨?_, hr.2⟩
  obtain ⟨g, _, e1, e2⟩ := hr.1
  exact ⟨_, e1, LAt.sl e2 (cntL_length m) (by unfold maxLen; omega)⟩
theorem counts_err {w : World} {v : Value} {m : ImgD} (h : Img w v m) {E : Int} (hE : shapeE m = E) (hne : (E != 0) = true) :
    Calls Try.prog 11 #[v] w fun r w' => r = .returned (.tuple #[.slice none 0 0, .int .i64 E]) ∧ Below w.heap.size w w' := by
  have h' := h
  obtain ⟨ra, rc, sa, sc, fa, fc, na, nc, rfl, _⟩ := h.parts
  exact counts_bad m.guest ra _ rc sa _ sc fa _ fc na _ nc m E w h' hE hne

set_option maxHeartbeats 1000000 in
theorem equal_at (ao bo : Option Addr) (n cap cap' : Nat) (xs ys : List Int) (w : World) (hn : xs.length = n) (hn' : ys.length = n) (hm : n ≤ 9223372036854775807)
    (hc : ∀ j, j < n → ∃ b off, ao = some ⟨b, off, none⟩ ∧ w.cell? ⟨b, off + j, none⟩ = some (.int .i64 (xs.getD j 0))) (hd : ∀ j, j < n → ∃ b off, bo = some ⟨b, off, none⟩ ∧ w.cell? ⟨b, off + j, none⟩ = some (.int .i64 (ys.getD j 0))) :
    Calls Try.prog 36 #[.slice ao n cap, .slice bo n cap'] w fun r w' => r = .returned (.bool (xs == ys)) ∧ Below w.heap.size w w' := by
  have H : Hid (xs.length = n ∧ ys.length = n) := ⟨hn, hn'⟩
  have HC : Hid (∀ j, j < n → ∃ b off, ao = some ⟨b, off, none⟩ ∧ w.cell? ⟨b, off + j, none⟩ = some (.int .i64 (xs.getD j 0))) := hc
  have HD : Hid (∀ j, j < n → ∃ b off, bo = some ⟨b, off, none⟩ ∧ w.cell? ⟨b, off + j, none⟩ = some (.int .i64 (ys.getD j 0))) := hd
  clear hn hn' hc hd
  go_enter Try.func36, Try.ntmps36
  go_wp2
  go_loopw [5, 13] (fun _ i wr => ∃ k : Nat, k ≤ n ∧ i = .int .i64 k ∧ Hid (∀ j, j < k → xs.getD j 0 = ys.getD j 0) ∧ (Below w.heap.size w wr ∧ ∀ a, wr.cell? a = w.cell? a)) (fun _ i _ => n - (intOf i).toNat)
  case atStart => exact ⟨0, Nat.zero_le _, rfl, fun j hj => absurd hj (by omega), Below.refl _ _, fun _ => rfl⟩
  case round =>
    obtain ⟨k, hk, rfl, HA, hbel, hsame⟩ := hrel
    by_cases hlk : k < n
    · obtain ⟨b, off, rfl, c1⟩ := HC.out k hlk
      obtain ⟨b', off', rfl, c2⟩ := HD.out k hlk
      have hki : (k : Int) < (n : Int) := by omega
      obtain ⟨x, hx⟩ : ∃ x, xs.getD k 0 = x := ⟨_, rfl⟩
      obtain ⟨y, hy⟩ : ∃ y, ys.getD k 0 = y := ⟨_, rfl⟩
      rw [hx] at c1
      rw [hy] at c2
      have c1 : wr.cell? ⟨b, off + k, none⟩ = some (.int .i64 x) := (hsame _).trans c1
      have c2 : wr.cell? ⟨b', off' + k, none⟩ = some (.int .i64 y) := (hsame _).trans c2
      have HX : Hid (xs.getD k 0 = x ∧ ys.getD k 0 = y) := ⟨hx, hy⟩
      clear hx hy
      by_cases hxy : x = y
      · have hb : (x != y) = false := by simp [hxy]
        have HXY : Hid (x = y) := hxy
        clear hxy
        go_wp2
        go_region
        go_wp2
        go_roundw
        case rel => exact ⟨k + 1, by omega, by go_num, fun j hj => by
          by_cases e : j = k
          · subst e; rw [HX.out.1, HX.out.2, HXY.out]
          · exact HA.out j (by omega), ⟨hbel.os, hbel.tape, hbel.output, hbel.size, hbel.block⟩, fun a => hsame a⟩
        case measure => simp [intOf]; omega
      · have hb : (x != y) = true := by simp [hxy]
        have HXY : Hid (x ≠ y) := hxy
        clear hxy
        go_wp2
        go_region
        go_wp2
        go_ret
        refine ⟨ret_boolE ?_, ⟨hbel.os, hbel.tape, hbel.output, hbel.size, hbel.block⟩⟩
        symm
        rw [beq_eq_false_iff_ne]
        intro e
        exact HXY.out (by rw [← HX.out.1, ← HX.out.2, e])
    · have e4 : k = n := by omega
      subst e4
      go_wp2
      go_ret
      refine ⟨ret_boolE ?_, hbel⟩
      symm
      rw [beq_iff_eq]
      apply List.ext_getElem
      · rw [H.out.1, H.out.2]
      · intro j h1 h2
        have := HA.out j (by rw [H.out.1] at h1; exact h1)
        simpa [List.getD, h1, h2] using this
end Go.Proofs.Ytehleeibgkpjmac
/- What the counts are, told by a formula: how often a slot is told by Roots, and by the tables that Roots tell. -/
namespace Go.Proofs.Ytehleeibgkpjmac
open Go.RowKit Go.Shelf
set_option maxRecDepth 20000

def kd (L : List SlotD) (k : Nat) : Int := (L.getD k default).1
def toldT (L : List SlotD) (P : List Int) (i : Int) (k : Nat) : Nat := if kd L k = 2 ∧ (k : Int) ∈ P then (tabOf L k).count i else 0
def sumT (L : List SlotD) (P : List Int) (i : Int) : Nat := ((List.range L.length).map (toldT L P i)).sum
def cntI (L : List SlotD) (P : List Int) (i : Nat) : Int := if i = 0 then 0 else ((P.count (i : Int) + sumT L P i : Nat) : Int)

theorem sum_one {f g : Nat → Nat} {k d : Nat} : ∀ n, k < n → g k = f k + d → (∀ j, j ≠ k → g j = f j) → ((List.range n).map g).sum = ((List.range n).map f).sum + d
  | 0, h, _, _ => absurd h (by omega)
  | n + 1, h, hk, ho => by
    rw [List.range_succ, List.map_append, List.map_append, List.sum_append, List.sum_append]
    by_cases e : k = n
    · subst e
      have : (List.range k).map g = (List.range k).map f := List.map_congr_left fun j hj => ho j (by have := List.mem_range.1 hj; omega)
      rw [this]; simp [hk]; omega
    · rw [sum_one n (by omega) hk ho]
      simp [ho n (fun x => e x.symm)]; omega
theorem sum_same {f g : Nat → Nat} (n : Nat) (h : ∀ j, j < n → g j = f j) : ((List.range n).map g).sum = ((List.range n).map f).sum := by
  rw [List.map_congr_left fun j hj => h j (List.mem_range.1 hj)]

theorem inc_get (l : List Int) (k : Int) (j : Nat) (hj : j < l.length) : (inc l k).getD j 0 = l.getD j 0 + if k.toNat = j then 1 else 0 := by
  unfold inc
  rw [getD_set]
  by_cases e : k.toNat = j
  · subst e; rw [if_pos ⟨rfl, hj⟩, if_pos rfl]
  · rw [if_neg (fun h => e h.1), if_neg e]; simp
theorem pagesC_get (i : Nat) (hi : 1 ≤ i) : ∀ (t l : List Int), i < l.length → (∀ e ∈ t, e = 0 ∨ e = -1 ∨ 1 ≤ e) → (pagesC l t).getD i 0 = l.getD i 0 + (t.count (i : Int) : Nat)
  | [], l, _, _ => by simp [pagesC]
  | e :: t, l, hl, ht => by
    have : pagesC l (e :: t) = pagesC (incE l e) t := rfl
    rw [this, pagesC_get i hi t (incE l e) (by rw [incE_length]; exact hl) (fun x hx => ht x (List.mem_cons_of_mem _ hx)), List.count_cons]
    unfold incE
    rcases ht e List.mem_cons_self with h | h | h
    · rw [if_pos (.inl h), if_neg (by simp; omega)]; omega
    · rw [if_pos (.inr h), if_neg (by simp; omega)]; omega
    · rw [if_neg (by omega), inc_get l e i hl]
      by_cases g : e = i
      · rw [if_pos (by omega), if_pos (by simpa using g)]; omega
      · rw [if_neg (by omega), if_neg (by simpa using g)]; omega
theorem pagesC_get0 : ∀ (t l : List Int), (∀ e ∈ t, e = 0 ∨ e = -1 ∨ 1 ≤ e) → (pagesC l t).getD 0 0 = l.getD 0 0
  | [], l, _ => by simp [pagesC]
  | e :: t, l, ht => by
    have : pagesC l (e :: t) = pagesC (incE l e) t := rfl
    rw [this, pagesC_get0 t (incE l e) (fun x hx => ht x (List.mem_cons_of_mem _ hx))]
    unfold incE
    rcases ht e List.mem_cons_self with h | h | h
    · rw [if_pos (.inl h)]
    · rw [if_pos (.inr h)]
    · rw [if_neg (by omega)]
      unfold inc
      rw [getD_set, if_neg (by omega)]

/-- What right slots and right tables say of a table's entries, and of a Root's. -/
theorem slot0 {L : List SlotD} (h : slotsE L = 0) : kd L 0 = 0 := by
  have hp := slotsE_parts h
  unfold slotsE at h
  rw [if_pos hp] at h
  split at h
  · rename_i g
    have := g.2
    cases L with
    | nil => simp at hp
    | cons a t => simpa [kd] using this
  · simp at h
theorem rootE_cases {L : List SlotD} {k : Int} (h : rootE L k = true) : k = 0 ∨ ∃ j : Nat, k = j ∧ j < L.length ∧ kd L j = 2 := by
  by_cases e : k = 0
  · exact .inl e
  · rw [rootE_x e] at h
    obtain ⟨j, rfl, hj, hk⟩ := isKd_yes h
    exact .inr ⟨j, rfl, hj, by unfold kd; simp [List.getD, hj, hk]⟩
theorem tabE_cases {L : List SlotD} {k : Int} (h : tabE L k = true) : k = 0 ∨ k = -1 ∨ ∃ j : Nat, k = j ∧ j < L.length ∧ kd L j = 1 := by
  by_cases e : k = 0
  · exact .inl e
  by_cases e1 : k = -1
  · exact .inr (.inl e1)
  · rw [tabE_x e e1] at h
    obtain ⟨j, rfl, hj, hk⟩ := isKd_yes h
    exact .inr (.inr ⟨j, rfl, hj, by unfold kd; simp [List.getD, hj, hk]⟩)
theorem tab_all {L : List SlotD} (h : tabFit L = true) (k : Int) : (tabOf L k).all (tabE L) = true := by
  unfold tabOf
  by_cases hk : k.toNat < L.length
  · unfold tabFit at h
    rw [List.all_eq_true] at h
    have := h _ (List.getElem_mem hk)
    simpa [List.getD, hk] using this
  · have : L.getD k.toNat default = default := by simp [List.getD, hk]
    rw [this]; rfl
theorem tab_ent {L : List SlotD} (h : tabFit L = true) (k : Int) {e : Int} (he : e ∈ tabOf L k) : e = 0 ∨ e = -1 ∨ ∃ j : Nat, e = j ∧ j < L.length ∧ kd L j = 1 :=
  tabE_cases (List.all_eq_true.1 (tab_all h k) e he)
theorem tab_ent' {L : List SlotD} (hs : slotsE L = 0) (h : tabFit L = true) (k : Int) : ∀ e ∈ tabOf L k, e = 0 ∨ e = -1 ∨ 1 ≤ e := fun e he => by
  rcases tab_ent h k he with h | h | ⟨j, rfl, _, h1⟩
  · exact .inl h
  · exact .inr (.inl h)
  · refine .inr (.inr ?_)
    rcases Nat.eq_zero_or_pos j with e | e
    · subst e; rw [slot0 hs] at h1; simp at h1
    · omega
theorem tab_no {L : List SlotD} (h : tabFit L = true) (k : Int) {i : Nat} (hi : 1 ≤ i) (hk : kd L i ≠ 1) : (tabOf L k).count (i : Int) = 0 := by
  rw [List.count_eq_zero]
  intro he
  rcases tab_ent h k he with h | h | ⟨j, e, _, h1⟩
  · omega
  · omega
  · have : i = j := by omega
    subst this; exact hk h1
theorem sumT_no {L : List SlotD} (h : tabFit L = true) (P : List Int) {i : Nat} (hi : 1 ≤ i) (hk : kd L i ≠ 1) : sumT L P i = 0 := by
  unfold sumT
  have : (List.range L.length).map (toldT L P i) = (List.range L.length).map (fun _ => 0) := List.map_congr_left fun j _ => by
    unfold toldT
    split
    · exact tab_no h j hi hk
    · rfl
  rw [this]
  generalize L.length = n
  induction n with
  | zero => rfl
  | succ n ih => rw [List.range_succ, List.map_append, List.sum_append, ih]; rfl
theorem root_no {L : List SlotD} {P : List Int} (h : ∀ k ∈ P, rootE L k = true) {i : Nat} (hi : 1 ≤ i) (hk : kd L i ≠ 2) : P.count (i : Int) = 0 := by
  rw [List.count_eq_zero]
  intro he
  rcases rootE_cases (h _ he) with h | ⟨j, e, _, h1⟩
  · omega
  · have : i = j := by omega
    subst this; exact hk h1

theorem cnt_step {L : List SlotD} (hs : slotsE L = 0) (ht : tabFit L = true) {P l : List Int} {k : Int} (hk : rootE L k = true) (hl : l.length = L.length) (h : ∀ i, i < L.length → l.getD i 0 = cntI L P i) :
    ∀ i, i < L.length → (stepC L l k).getD i 0 = cntI L (P ++ [k]) i := by
  intro i hi
  unfold stepC
  rcases rootE_cases hk with rfl | ⟨j, rfl, hj, hj2⟩
  · rw [if_pos rfl, h i hi]
    unfold cntI
    by_cases i0 : i = 0
    · rw [if_pos i0, if_pos i0]
    rw [if_neg i0, if_neg i0]
    have e1 : sumT L (P ++ [0]) i = sumT L P i := sum_same _ fun q _ => by
      unfold toldT
      by_cases q0 : q = 0
      · subst q0; rw [if_neg (by rw [slot0 hs]; simp), if_neg (by rw [slot0 hs]; simp)]
      · have : ((q : Int) ∈ P ++ [0]) ↔ (q : Int) ∈ P := by simp; omega
        simp only [this]
    rw [e1, List.count_append]
    have : List.count (i : Int) [0] = 0 := by rw [List.count_eq_zero]; simp; omega
    rw [this]; simp
  · have j0 : j ≠ 0 := fun e => by subst e; rw [slot0 hs] at hj2; simp at hj2
    rw [if_neg (by omega)]
    have hjj : (inc l (j : Int)).getD (j : Int).toNat 0 = ((P.count (j : Int) : Nat) : Int) + 1 := by
      rw [Int.toNat_natCast, inc_get l j j (by omega), h j hj, if_pos (by simp)]
      unfold cntI
      rw [if_neg j0, sumT_no ht P (by omega) (by rw [hj2]; decide)]
      omega
    rw [hjj]
    by_cases hP : (j : Int) ∈ P
    · have : 0 < P.count (j : Int) := List.count_pos_iff.2 hP
      rw [if_neg (by omega), inc_get l j i (by omega), h i hi]
      unfold cntI
      by_cases i0 : i = 0
      · subst i0; rw [if_pos rfl, if_pos rfl, if_neg (by simp; omega)]; rfl
      rw [if_neg i0, if_neg i0]
      have e1 : sumT L (P ++ [(j : Int)]) i = sumT L P i := sum_same _ fun q _ => by
        unfold toldT
        have : ((q : Int) ∈ P ++ [(j : Int)]) ↔ (q : Int) ∈ P := by
          simp only [List.mem_append, List.mem_singleton]
          exact ⟨fun x => x.elim id (fun e => e ▸ hP), .inl⟩
        simp only [this]
      rw [e1, List.count_append, List.count_singleton]
      by_cases e : j = i
      · subst e; simp; omega
      · rw [if_neg (by simp; omega), if_neg (by simp; omega)]; simp
    · have c0 : P.count (j : Int) = 0 := List.count_eq_zero.2 hP
      rw [if_pos (by omega)]
      unfold cntI
      by_cases i0 : i = 0
      · subst i0
        rw [if_pos rfl, pagesC_get0 _ _ (tab_ent' hs ht j), inc_get l j 0 (by omega), h 0 hi, if_neg (by simp; omega)]; rfl
      rw [if_neg i0, pagesC_get i (by omega) _ _ (by rw [inc_length, hl]; exact hi) (tab_ent' hs ht j), inc_get l j i (by omega), h i hi]
      unfold cntI
      rw [if_neg i0]
      have e1 : sumT L (P ++ [(j : Int)]) i = sumT L P i + (tabOf L j).count (i : Int) := by
        unfold sumT
        refine sum_one (k := j) _ hj ?_ ?_
        · unfold toldT
          rw [if_pos ⟨hj2, by simp⟩, if_neg (fun x => hP x.2)]; omega
        · intro q hq
          unfold toldT
          have : ((q : Int) ∈ P ++ [(j : Int)]) ↔ (q : Int) ∈ P := by
            simp only [List.mem_append, List.mem_singleton]
            exact ⟨fun x => x.elim id (fun e => absurd (by omega) hq), .inl⟩
          simp only [this]
      rw [e1, List.count_append, List.count_singleton]
      by_cases e : j = i
      · subst e; simp; omega
      · rw [if_neg (by simp; omega), if_neg (by simp; omega)]; omega

theorem cnt_fold {L : List SlotD} (hs : slotsE L = 0) (ht : tabFit L = true) : ∀ (Q P l : List Int), (∀ k ∈ Q, rootE L k = true) → l.length = L.length → (∀ i, i < L.length → l.getD i 0 = cntI L P i) →
    ∀ i, i < L.length → (Q.foldl (stepC L) l).getD i 0 = cntI L (P ++ Q) i
  | [], P, l, _, _, h, i, hi => by simpa using h i hi
  | k :: Q, P, l, hQ, hl, h, i, hi => by
    have := cnt_fold hs ht Q (P ++ [k]) (stepC L l k) (fun x hx => hQ x (List.mem_cons_of_mem _ hx)) (by rw [stepC_length, hl]) (cnt_step hs ht (hQ k List.mem_cons_self) hl h) i hi
    rw [List.foldl_cons, this, List.append_assoc]; rfl

/-- All Roots' entries. -/
def flatR (m : ImgD) : List Int := (rootsOf m).flatMap (fun s => s.2.2)
theorem flatR_root {m : ImgD} (h : shapeE m = 0) : ∀ k ∈ flatR m, rootE m.slots k = true := by
  intro k hk
  obtain ⟨z1, z2, z3, z4, z5, z6, z7⟩ := shapeE_zero h
  unfold flatR at hk
  rw [List.mem_flatMap] at hk
  obtain ⟨s, hs, hks⟩ := hk
  have := List.all_eq_true.1 z7 s hs
  unfold rootFit at this
  simp only [Bool.and_eq_true] at this
  exact List.all_eq_true.1 this.2.1 k hks
theorem cntL_get {m : ImgD} (h : shapeE m = 0) (i : Nat) (hi : i < m.slots.length) : (cntL m).getD i 0 = cntI m.slots (flatR m) i := by
  obtain ⟨z1, z2, z3, z4, z5, z6, z7⟩ := shapeE_zero h
  have := cnt_fold z2 z6 (flatR m) [] (List.replicate m.slots.length 0) (flatR_root h) (by simp) (fun i hi => ?_) i hi
  · simpa [cntL, flatR] using this
  · have e : (List.replicate m.slots.length (0 : Int)).getD i 0 = 0 := by simp [List.getD, hi]
    rw [e]
    unfold cntI
    split
    · rfl
    · have : sumT m.slots [] i = 0 := by
        have e : sumT m.slots [] i = ((List.range m.slots.length).map (fun _ => 0)).sum := sum_same _ fun q _ => by unfold toldT; rw [if_neg (by simp)]
        rw [e]
        generalize m.slots.length = n
        induction n with
        | zero => rfl
        | succ n ih => rw [List.range_succ, List.map_append, List.sum_append, ih]; rfl
      rw [this]; rfl
end Go.Proofs.Ytehleeibgkpjmac
/- What the document's ShapeOf and rootFine answer is what Shape answers: plain lists. -/
namespace Go.Proofs.Ytehleeibgkpjmac
open Go.RowKit Go.Shelf
set_option maxRecDepth 20000

theorem kindN_kd {L : List SlotD} {k kind : Int} (h : k ≠ 0) (hk : 0 ≤ kind) : (kindN L k == kind) = isKd L k kind := by
  unfold kindN isKd
  by_cases h1 : 1 ≤ k ∧ k < L.length
  · rw [if_pos h1, decide_eq_true (by omega)]; rfl
  · rw [if_neg h1, decide_eq_false (by omega)]
    simp; omega
def fineAt (L : List SlotD) (g : Int) (r : List Int) (k : Nat) : Bool :=
  r.getD k 0 == 0 || (kindN L (r.getD k 0) == 2 && (List.range 4).all (fun i => decide (((k * 4 + i : Nat) : Int) < g) || (tabOf L (r.getD k 0)).getD i 0 == 0))
def fineR (L : List SlotD) (g : Int) (r : List Int) : Bool := decide ((r.length : Int) = (g + 3) / 4) && (List.range r.length).all (fineAt L g r)

theorem tab_len {L : List SlotD} (hs : slotsE L = 0) {k : Int} (h : isKd L k 2 = true) : (tabOf L k).length = 4 := by
  obtain ⟨j, rfl, hj, hk⟩ := isKd_yes h
  have := okD_tab (slotsE_all hs hj) hk
  unfold tabOf
  simpa [List.getD, hj] using this.1

theorem fineR_eq {L : List SlotD} {g : Int} {r : List Int} (hs : slotsE L = 0) (hg : guestOK g = true) : fineR L g r = rootFit L g r := by
  unfold guestOK at hg
  simp only [decide_eq_true_eq] at hg
  unfold fineR rootFit
  by_cases hl0 : ¬ ((r.length : Int) = (g + 3) / 4)
  · rw [decide_eq_false hl0]; rfl
  have hl : (r.length : Int) = (g + 3) / 4 := Classical.not_not.1 hl0
  rw [decide_eq_true hl, Bool.true_and, Bool.true_and, Bool.eq_iff_iff]
  simp only [List.all_eq_true, Bool.and_eq_true, List.mem_range]
  constructor
  · intro h
    refine ⟨fun x hx => ?_, ?_⟩
    · obtain ⟨j, hj, rfl⟩ := List.getElem_of_mem hx
      have := h j hj
      unfold fineAt at this
      have e : r.getD j 0 = r[j] := by simp [List.getD, hj]
      rw [e] at this
      by_cases e0 : r[j] = 0
      · rw [e0]; rfl
      · rw [rootE_x e0]
        rw [← kindN_kd e0 (by decide)]
        simp [e0] at this
        simpa using this.1
    · unfold lastFit
      by_cases g4 : g % 4 = 0
      · simp [g4]
      · have hlt : r.length - 1 < r.length := by omega
        have := h _ hlt
        unfold fineAt at this
        generalize r.getD (r.length - 1) 0 = x at this ⊢
        by_cases e0 : x = 0
        · simp [e0]
        · have hb : (x == 0) = false := by simpa using e0
          rw [hb, Bool.false_or] at this ⊢
          simp only [Bool.and_eq_true, List.all_eq_true, List.mem_range] at this
          have hk : isKd L x 2 = true := by rw [← kindN_kd e0 (by decide)]; exact this.1
          have h4 := tab_len hs hk
          simp only [Bool.or_eq_true, List.all_eq_true]
          refine .inr fun y hy => ?_
          obtain ⟨j, hj, rfl⟩ := List.getElem_of_mem hy
          rw [List.getElem_drop]
          simp at hj
          have := this.2 ((g % 4).toNat + j) (by omega)
          rw [decide_eq_false (by omega)] at this
          simpa [List.getD, show (g % 4).toNat + j < (tabOf L x).length by omega] using this
  · intro ⟨h1, h2⟩ k hk
    unfold fineAt
    have e : r.getD k 0 = r[k] := by simp [List.getD, hk]
    have hE := h1 _ (List.getElem_mem hk)
    rw [← e] at hE
    unfold lastFit at h2
    by_cases hlast : k = r.length - 1
    · rw [← hlast] at h2
      generalize r.getD k 0 = x at hE h2 ⊢
      by_cases e0 : x = 0
      · simp [e0]
      have hb : (x == 0) = false := by simpa using e0
      rw [rootE_x e0] at hE
      rw [hb, Bool.false_or, kindN_kd e0 (by decide), hE, Bool.true_and, List.all_eq_true]
      rw [hb, Bool.false_or] at h2
      have h4 := tab_len hs hE
      intro i hi
      have hi := List.mem_range.1 hi
      by_cases hlt : ((k * 4 + i : Nat) : Int) < g
      · rw [decide_eq_true hlt]; rfl
      · rw [decide_eq_false hlt, Bool.false_or]
        have g4 : g % 4 ≠ 0 := by omega
        have hg4 : (g % 4 == 0) = false := by simpa using g4
        rw [hg4, Bool.false_or, List.all_eq_true] at h2
        have hm : (tabOf L x).getD i 0 ∈ (tabOf L x).drop (g % 4).toNat := by
          have : i < (tabOf L x).length := by omega
          rw [List.mem_iff_getElem]
          refine ⟨i - (g % 4).toNat, by simp; omega, ?_⟩
          rw [List.getElem_drop]
          simp only [List.getD, List.getElem?_eq_getElem this, Option.getD_some]
          congr 1; omega
        exact h2 _ hm
    · by_cases e0 : r.getD k 0 = 0
      · rw [e0]; rfl
      have hb : (r.getD k 0 == 0) = false := by simpa using e0
      rw [rootE_x e0] at hE
      rw [hb, Bool.false_or, kindN_kd e0 (by decide), hE, Bool.true_and, List.all_eq_true]
      intro i hi
      have hi := List.mem_range.1 hi
      rw [decide_eq_true (by omega)]; rfl

/-- An entry as the document asks of it. -/
def entP (L : List SlotD) (e : Int) : Bool := !(decide (0 < e) && kindN L e != 1)
theorem entP_eq {L : List SlotD} {e : Int} (h : isE e = true) : entP L e = tabE L e := by
  rw [isE_iff] at h
  unfold entP
  rcases h with rfl | rfl | h
  · rfl
  · rfl
  · rw [tabE_x (by omega) (by omega), decide_eq_true (by omega), Bool.true_and, bne, Bool.not_not, kindN_kd (by omega) (by decide)]
theorem okD_ents {s : SlotD} (h : okD s = true) : ∀ e ∈ s.2.2, isE e = true := by
  unfold okD slotOK at h
  split at h
  · simp at h; rw [h.2]; intro e he; cases he
  split at h
  · simp at h; rw [h.2]; intro e he; cases he
  split at h
  · simp at h; exact List.all_eq_true.1 (ckE_all h.1)
  · cases h
theorem tabsP_eq {L : List SlotD} (hs : slotsE L = 0) : L.all (fun s => s.2.2.all (entP L)) = tabFit L := by
  unfold tabFit
  rw [Bool.eq_iff_iff, List.all_eq_true, List.all_eq_true]
  have : ∀ s ∈ L, s.2.2.all (entP L) = s.2.2.all (tabE L) := fun s hm => by
    have hE : ∀ e ∈ s.2.2, isE e = true := by
      obtain ⟨j, hj, rfl⟩ := List.getElem_of_mem hm
      exact okD_ents (slotsE_all hs hj)
    rw [Bool.eq_iff_iff, List.all_eq_true, List.all_eq_true]
    exact ⟨fun h e he => by rw [← entP_eq (hE e he)]; exact h e he, fun h e he => by rw [entP_eq (hE e he)]; exact h e he⟩
  exact ⟨fun h s hm => by rw [← this s hm]; exact h s hm, fun h s hm => by rw [this s hm]; exact h s hm⟩
end Go.Proofs.Ytehleeibgkpjmac
/- Contract of the document's rootFine. -/
namespace Go.Proofs.Ytehleeibgkpjmac
open Go.RowKit Go.Shelf
set_option maxRecDepth 20000

theorem to_drew {n : Nat} {w W : World} (h : Below n w W) : Below n w W.drew := ⟨h.os, h.tape, h.output, h.size, h.block⟩

theorem rootFine_len (gm : Int) (ra : Option Addr) (rn rc : Nat) (sa : Option Addr) (sn sc : Nat) (fa : Option Addr) (fn fc : Nat) (na : Option Addr) (nn nc : Nat) (g : Nat) (qa : Option Addr) (qn qc : Nat) (w : World) (hg : g ≤ 16) (_hq : qn ≤ 9223372036854775807) (hl : qn ≠ (g + 3) / 4) :
    Calls Try.prog 81 #[.agg #[.int .i64 gm, .slice ra rn rc, .slice sa sn sc, .slice fa fn fc, .slice na nn nc], .int .i64 g, .slice qa qn qc] w fun r w' => r = .returned (.bool false) ∧ Below w.heap.size w w' := by
  have b0 : Below w.heap.size w (w.alloc (.cells #[.int .i64 gm, .slice ra rn rc, .slice sa sn sc, .slice fa fn fc, .slice na nn nc] 26)) := (Below.refl _ _).alloc (Nat.le_refl _) _
  have hb : ((qn : Int) != ((g : Int) + 3) / 4) = true := by simp; omega
  clear hl
  go_enter Try.func81, Try.ntmps81
  go_wp2_with (go_at_call 71; refine (wants_any _ _ (by omega)).mono ?_; rintro e w' ⟨rfl, hw⟩; subst hw)
  go_ret
  exact ⟨rfl, b0⟩

set_option maxHeartbeats 2000000 in
theorem rootFine_at (gm : Int) (ra : Option Addr) (rn rc : Nat) (sa : Option Addr) (sn sc : Nat) (fa : Option Addr) (fn fc : Nat) (na : Option Addr) (nn nc : Nat) (m : ImgD) (g : Nat) (qa : Option Addr) (qn qc : Nat) (r : List Int) (B : Bool) (w : World)
    (h : Img w (.agg #[.int .i64 gm, .slice ra rn rc, .slice sa sn sc, .slice fa fn fc, .slice na nn nc]) m) (hsn : m.slots.length = sn) (hcl : ∀ j, (h : j < m.slots.length) → ∃ sb so, sa = some ⟨sb, so, none⟩ ∧ sb < w.heap.size ∧ SlAt w sb (so + j * 3) m.slots[j]) (hs : slotsE m.slots = 0)
    (hqn : r.length = qn) (hg : g ≤ 16) (hq4 : qn ≤ 4) (hl : ((qn : Int) != ((g : Int) + 3) / 4) = false)
    (hq : ∀ j, j < qn → ∃ b off, qa = some ⟨b, off, none⟩ ∧ b < w.heap.size ∧ w.cell? ⟨b, off + j, none⟩ = some (.int .i64 (r.getD j 0)))
    (hB : (List.range r.length).all (fineAt m.slots g r) = B) :
    Calls Try.prog 81 #[.agg #[.int .i64 gm, .slice ra rn rc, .slice sa sn sc, .slice fa fn fc, .slice na nn nc], .int .i64 g, .slice qa qn qc] w fun r w' => r = .returned (.bool B) ∧ Below w.heap.size w w' := by
  have b0 : Below w.heap.size w (w.alloc (.cells #[.int .i64 gm, .slice ra rn rc, .slice sa sn sc, .slice fa fn fc, .slice na nn nc] 26)) := (Below.refl _ _).alloc (Nat.le_refl _) _
  have m0 : (w.alloc (.cells #[.int .i64 gm, .slice ra rn rc, .slice sa sn sc, .slice fa fn fc, .slice na nn nc] 26)).heap[w.heap.size]? = some (.cells #[.int .i64 gm, .slice ra rn rc, .slice sa sn sc, .slice fa fn fc, .slice na nn nc] 26) := World.alloc_heap_new _ _
  have h40 : sn ≤ 40 := by rw [← hsn]; exact (slotsE_parts hs).2
  have H1 : Hid (r.length = qn ∧ m.slots.length = sn) := ⟨hqn, hsn⟩
  have H2 : Hid (∀ j, j < qn → ∃ b off, qa = some ⟨b, off, none⟩ ∧ b < w.heap.size ∧ w.cell? ⟨b, off + j, none⟩ = some (.int .i64 (r.getD j 0))) := hq
  have H3 : Hid (∀ j, (h : j < m.slots.length) → ∃ sb so, sa = some ⟨sb, so, none⟩ ∧ sb < w.heap.size ∧ SlAt w sb (so + j * 3) m.slots[j]) := hcl
  have H4 : Hid (slotsE m.slots = 0) := hs
  have H5 : Hid ((List.range r.length).all (fineAt m.slots g r) = B) := hB
  have H6 : Hid (Img w (.agg #[.int .i64 gm, .slice ra rn rc, .slice sa sn sc, .slice fa fn fc, .slice na nn nc]) m) := h
  have H7 : Hid (∀ k, k < qn → fineAt m.slots g r k = false → B = false) := fun k hk hf => by
    rw [← hB]
    cases e : (List.range r.length).all (fineAt m.slots g r) with
    | false => rfl
    | true =>
      rw [List.all_eq_true] at e
      have := e k (by rw [hqn]; simpa using hk)
      rw [hf] at this; cases this
  clear hqn hsn hq hcl hs hB h
  go_enter Try.func81, Try.ntmps81
  go_wp2_with (go_at_call 71; refine (wants_any _ _ (by omega)).mono ?_; rintro e w' ⟨rfl, hw⟩; subst hw)
  go_loopw [7, 8, 9] (fun k _ _ wr => ∃ q : Nat, q ≤ qn ∧ k = .int .i64 q ∧ Hid (∀ j, j < q → fineAt m.slots g r j = true) ∧ Below (w.alloc (.cells #[.int .i64 gm, .slice ra rn rc, .slice sa sn sc, .slice fa fn fc, .slice na nn nc] 26)).heap.size (w.alloc (.cells #[.int .i64 gm, .slice ra rn rc, .slice sa sn sc, .slice fa fn fc, .slice na nn nc] 26)) wr) (fun k _ _ _ => qn - (intOf k).toNat)
  case atStart => exact ⟨0, Nat.zero_le _, rfl, fun j hj => absurd hj (by omega), Below.refl _ _⟩
  case round =>
    obtain ⟨q, hqq, rfl, HA, hbel⟩ := hrel
    by_cases hlk : q < qn
    · obtain ⟨b, off, rfl, hlt, hcell⟩ := H2.out q hlk
      have hki : (q : Int) < (qn : Int) := by omega
      have hbw := Below.on b0 hbel
      obtain ⟨x, hx⟩ : ∃ x, r.getD q 0 = x := ⟨_, rfl⟩
      rw [hx] at hcell
      have hc1 : wr.cell? ⟨b, off + q, none⟩ = some (.int .i64 x) := (hbw.cell (p := ⟨b, off + q, none⟩) hlt).trans hcell
      have HF : Hid (fineAt m.slots g r q = (x == 0 || (kindN m.slots x == 2 && (List.range 4).all (fun i => decide (((q * 4 + i : Nat) : Int) < g) || (tabOf m.slots x).getD i 0 == 0)))) := by
        show _ = _
        unfold fineAt; rw [hx]
      clear hx hcell
      have mr := cells_below m0 hbel (by simp)
      obtain ⟨c0, c1, c2, c3, c4⟩ := five mr
      by_cases hx0 : x = 0
      · have hx0b : (x == 0) = true := by simp [hx0]
        have HX : Hid (x = 0) := hx0
        clear hx0
        go_wp2_with fail
        go_roundw
        case rel => exact ⟨q + 1, by omega, by go_num, fun j hj => by
          by_cases e : j = q
          · subst e; rw [HF.out, hx0b]; rfl
          · exact HA.out j (by omega), hbel⟩
        case measure => simp [intOf]; omega
      · have hx0b : (x == 0) = false := by simp [hx0]
        have HX : Hid (x ≠ 0) := hx0
        clear hx0
        obtain ⟨K, hK⟩ : ∃ K, kindN m.slots x = K := ⟨_, rfl⟩
        have hszr : w.heap.size < wr.heap.size := (Array.getElem?_eq_some_iff.1 mr).1
        have hbwr : b < wr.heap.size := Nat.lt_of_lt_of_le hlt hbw.size
        have hcall := fun W (hW : Below w.heap.size w W) => kindOf_is (H6.out.below hW) (by rw [H1.out.2]; omega) x hK
        have HK : Hid (kindN m.slots x = K) := hK
        clear hK
        go_wp2_with fail
        go_region_held3 (fun w' => w'.cell? ⟨w.heap.size, 0, none⟩ = some (.int .i64 gm) ∧ w'.cell? ⟨w.heap.size, 0 + 1, none⟩ = some (.slice ra rn rc) ∧ w'.cell? ⟨w.heap.size, 0 + 1 + 1, none⟩ = some (.slice sa sn sc) ∧ w'.cell? ⟨w.heap.size, 0 + 1 + 1 + 1, none⟩ = some (.slice fa fn fc) ∧ w'.cell? ⟨w.heap.size, 0 + 1 + 1 + 1 + 1, none⟩ = some (.slice na nn nc) ∧ w'.cell? ⟨b, off + q, none⟩ = some (.int .i64 x)) (first | exact ⟨c0, c1, c2, c3, c4, hc1⟩ | exact ⟨d0, d1, d2, d3, d4, e1⟩)
          (first | (go_at_call 80; refine (hcall _ (to_drew hbw)).mono ?_; rintro e w1 ⟨rfl, b1⟩; have b1 := below_drew b1; have m1 := cells_below mr b1 hszr; obtain ⟨d0, d1, d2, d3, d4⟩ := five m1; have e1 := (b1.cell (p := ⟨b, off + q, none⟩) hbwr).trans hc1))
        have hw1 := Below.on hbw b1
        have hbel1 := hbel.trans (b1.mono hbel.size)
        clear hcall hc1 c0 c1 c2 c3 c4 hbel hbw
        by_cases hK2 : K = 2
        · have hKb : (K != 2) = false := by simp [hK2]
          have hkd : isKd m.slots x 2 = true := by rw [← kindN_kd HX.out (by decide), HK.out, hK2]; rfl
          obtain ⟨t, ht, htl, hk2⟩ := isKd_yes hkd
          subst ht
          have hok := okD_tab (slotsE_all H4.out htl) hk2
          obtain ⟨sb, so, rfl, hsb, hSA⟩ := H3.out t htl
          obtain ⟨tv, _, _, c3, hsl⟩ := hSA
          obtain ⟨tb, tw, tc, rfl, _, htb, htc⟩ := hsl.four hok.1
          have hts : t < sn := by rw [← H1.out.2]; exact htl
          have hti : (t : Int) < (sn : Int) := by omega
          have ct : w1.cell? ⟨sb, so + t * 3 + 2, none⟩ = some (.slice (some ⟨tb, tw, none⟩) 4 tc) := (hw1.cell (p := ⟨sb, so + t * 3 + 2, none⟩) hsb).trans c3
          have HT : Hid (∀ j, j < 4 → w1.cell? ⟨tb, tw + j, none⟩ = some (.int .i64 ((tabOf m.slots t).getD j 0))) := fun j hj => by
            have := (hw1.cell (p := ⟨tb, tw + j, none⟩) htb).trans (htc j hj)
            rw [this]; unfold tabOf; simp [List.getD, htl]
          have HF2 : Hid (fineAt m.slots g r q = (List.range 4).all (fun i => decide (((q * 4 + i : Nat) : Int) < g) || (tabOf m.slots t).getD i 0 == 0)) := by
            show _ = _
            rw [HF.out, hx0b, HK.out, hK2]; rfl
          have HF3 : Hid (∀ i, i < 4 → ¬ ((q * 4 + i : Nat) : Int) < g → (tabOf m.slots t).getD i 0 ≠ 0 → B = false) := fun i hi h1 h2 => H7.out q hlk (by
            rw [HF2.out]
            cases e : (List.range 4).all (fun i => decide (((q * 4 + i : Nat) : Int) < g) || (tabOf m.slots t).getD i 0 == 0) with
            | false => rfl
            | true =>
              rw [List.all_eq_true] at e
              have := e i (by simpa using hi)
              rw [decide_eq_false h1, Bool.false_or] at this
              exact absurd (by simpa using this) h2)
          clear hsl htc c3 hok hk2 hkd hK2
          go_wp2_with fail
          go_region
          go_wp2_with fail
          go_loopw [9] (fun i wr => ∃ u : Nat, u ≤ 4 ∧ i = .int .i64 u ∧ Hid (∀ j, j < u → (decide (((q * 4 + j : Nat) : Int) < g) || (tabOf m.slots t).getD j 0 == 0) = true) ∧ wr = w1.drew) (fun i _ => 4 - (intOf i).toNat)
          case atStart => exact ⟨0, Nat.zero_le _, rfl, fun j hj => absurd hj (by omega), rfl⟩
          case round =>
            obtain ⟨u, hu, rfl, HI, hw⟩ := hrel
            subst hw
            by_cases hu4 : u < 4
            · have hui : (u : Int) < 4 := by omega
              have cx := HT.out u hu4
              obtain ⟨y, hy⟩ : ∃ y, (tabOf m.slots t).getD u 0 = y := ⟨_, rfl⟩
              rw [hy] at cx
              have HY : Hid ((tabOf m.slots t).getD u 0 = y) := hy
              clear hy
              by_cases hlt : (q : Int) * 4 + u < g
              · have hge : ¬ (g : Int) ≤ (q : Int) * 4 + u := by omega
                go_wp2_with fail
                go_roundw
                case rel => exact ⟨u + 1, by omega, by go_num, fun j hj => by
                  by_cases e : j = u
                  · subst e; rw [decide_eq_true (by omega)]; rfl
                  · exact HI.out j (by omega), trivial⟩
                case measure => simp [intOf]; omega
              · have hge : (g : Int) ≤ (q : Int) * 4 + u := by omega
                by_cases hy0 : y = 0
                · have hyb : (y != 0) = false := by simp [hy0]
                  have HY0 : Hid (y = 0) := hy0
                  clear hy0
                  go_wp2_with fail
                  go_roundw
                  case rel => exact ⟨u + 1, by omega, by go_num, fun j hj => by
                    by_cases e : j = u
                    · subst e; rw [HY.out, HY0.out]; simp
                    · exact HI.out j (by omega), trivial⟩
                  case measure => simp [intOf]; omega
                · have hyb : (y != 0) = true := by simp [hy0]
                  have HY0 : Hid (B = false) := HF3.out u hu4 (by omega) (by rw [HY.out]; exact hy0)
                  clear hy0
                  go_wp2_with fail
                  go_ret
                  exact ⟨ret_boolE HY0.out.symm, to_drew hw1⟩
            · have e4 : u = 4 := by omega
              subst e4
              go_wp2_with fail
              go_roundw
              case rel => exact ⟨q + 1, by omega, by go_num, fun j hj => by
                by_cases e : j = q
                · subst e; rw [HF2.out, List.all_eq_true]; intro i hi; exact HI.out i (by simpa using hi)
                · exact HA.out j (by omega), ⟨hbel1.os, hbel1.tape, hbel1.output, hbel1.size, hbel1.block⟩⟩
              case measure => simp [intOf]; omega
        · have hKb : (K != 2) = true := by simp [hK2]
          have HBf : Hid (B = false) := H7.out q hlk (by rw [HF.out, hx0b, HK.out]; simp [hK2])
          clear hK2
          go_wp2_with fail
          go_ret
          exact ⟨ret_boolE HBf.out.symm, hw1⟩
    · have e4 : q = qn := by omega
      subst e4
      have HE : Hid (B = true) := by
        show _ = _
        rw [← H5.out, List.all_eq_true]
        intro j hj
        exact HA.out j (by rw [← H1.out.1]; simpa using hj)
      go_wp2_with fail
      go_ret
      exact ⟨ret_boolE HE.out.symm, Below.on b0 hbel⟩

theorem Slots.at {w : World} {sa : Option Addr} {n sc : Nat} {L : List SlotD} (h : Slots w (.slice sa n sc) L) : ∀ j, (h : j < L.length) → ∃ sb so, sa = some ⟨sb, so, none⟩ ∧ sb < w.heap.size ∧ SlAt w sb (so + j * 3) L[j] := by
  intro j hj
  obtain ⟨sb, so, sc', e, _, hsb, hcl⟩ := h.open (by omega)
  simp at e
  exact ⟨sb, so, e.1, hsb, hcl j hj⟩
theorem rootFine_is {w : World} {v rv : Value} {m : ImgD} {g : Int} {r : List Int} (h : Img w v m) (hs : slotsE m.slots = 0) (hg : guestOK g = true) (hr : Sl w rv r) {B : Bool} (hB : rootFit m.slots g r = B) :
    Calls Try.prog 81 #[v, .int .i64 g, rv] w fun r w' => r = .returned (.bool B) ∧ Below w.heap.size w w' := by
  rw [← fineR_eq hs hg] at hB
  unfold guestOK at hg
  simp only [decide_eq_true_eq] at hg
  obtain ⟨k, rfl⟩ : ∃ k : Nat, g = k := ⟨g.toNat, by omega⟩
  have h' := h
  obtain ⟨ra, rc, sa, sc, fa, fc, na, nc, rfl, h1, h2, h3, h4⟩ := h.parts
  obtain ⟨qa, qc, rfl⟩ := hr.form
  obtain ⟨_, hm, _, hc⟩ := hr.cells
  unfold fineR at hB
  by_cases hl : (r.length : Int) = ((k : Int) + 3) / 4
  · rw [decide_eq_true hl, Bool.true_and] at hB
    exact rootFine_at m.guest ra _ rc sa _ sc fa _ fc na _ nc m k qa _ qc r B w h' rfl h2.at hs rfl (by omega) (by omega) (by simp [hl]) hc hB
  · rw [decide_eq_false hl, Bool.false_and] at hB
    subst hB
    exact rootFine_len m.guest ra _ rc sa _ sc fa _ fc na _ nc k qa _ qc w (by omega) hm (by omega)
end Go.Proofs.Ytehleeibgkpjmac
/- Contract of the document's bare. -/
namespace Go.Proofs.Ytehleeibgkpjmac
open Go.RowKit
set_option maxRecDepth 20000

theorem bareIn_at (ao : Option Addr) (n cap : Nat) (xs : List Int) (w : World) (hn : xs.length = n) (hm : n ≤ 9223372036854775807) (hc : ∀ j, j < n → ∃ b off, ao = some ⟨b, off, none⟩ ∧ w.cell? ⟨b, off + j, none⟩ = some (.int .i64 (xs.getD j 0))) :
    Calls Try.prog 96 #[.slice ao n cap] w fun r w' => r = .returned (.bool (bareL xs)) ∧ w' = w := by
  have HC : Hid (∀ j, j < n → ∃ b off, ao = some ⟨b, off, none⟩ ∧ w.cell? ⟨b, off + j, none⟩ = some (.int .i64 (xs.getD j 0))) := hc
  clear hc
  have HN : Hid (xs.length = n) := hn
  clear hn
  go_enter Try.func96, Try.ntmps96
  go_wp2
  go_loop [3] (fun i => ∃ k : Nat, k ≤ n ∧ i = .int .i64 k ∧ ∀ j, j < k → ((xs.getD j 0) == 0) = true) (fun i => n - (intOf i).toNat)
  case atStart => exact ⟨0, by omega, rfl, fun j hj => absurd hj (by omega)⟩
  case round =>
    obtain ⟨k, hk, rfl, hall⟩ := hrel
    have HA : Hid (∀ j, j < k → ((xs.getD j 0) == 0) = true) := hall
    clear hall
    by_cases hlt : k < n
    · obtain ⟨x, hx⟩ : ∃ x, xs.getD k 0 = x := ⟨_, rfl⟩
      obtain ⟨b, off, hao, hck⟩ := HC.out k hlt
      rw [hx] at hck
      have HX : Hid (xs.getD k 0 = x) := hx
      clear hx
      by_cases hE : x = 0
      · have hE' : (x != 0) = false := by simp [hE]
        have HE0 : Hid (x = 0) := hE
        clear hE
        go_wp2
        go_round
        case rel => exact ⟨k + 1, by omega, by go_num, upto_step (p := fun x => x == 0) HA.out HX.out (by simp [HE0.out])⟩
        case measure => simp [intOf]; omega
      · have hE' : (x != 0) = true := by simp [hE]
        go_wp2
        go_ret
        refine ⟨?_, rfl⟩
        rw [show bareL xs = false from not_all_of (j := k) (by rw [HN.out]; exact hlt) (by rw [HX.out]; simp [hE])]; rfl
    · have e4 : k = n := by omega
      subst e4
      go_wp2
      go_ret
      refine ⟨?_, rfl⟩
      rw [show bareL xs = true from all_of_upto (by rw [HN.out]; exact HA.out)]; rfl

theorem bareIn_any (v : Value) (xs : List Int) (w : World) (h : Sl w v xs) :
    Calls Try.prog 96 #[v] w fun r w' => r = .returned (.bool (bareL xs)) ∧ w' = w := by
  obtain ⟨ao, cap, rfl⟩ := h.form
  obtain ⟨hn, hm, hcp, hc⟩ := h.cells
  exact bareIn_at ao _ cap xs w hn hm (fun j hj => by obtain ⟨b, off, h1, _, h2⟩ := hc j hj; exact ⟨b, off, h1, h2⟩)

end Go.Proofs.Ytehleeibgkpjmac
/- Contracts of the document's SlotFine, SlotsError. -/
namespace Go.Proofs.Ytehleeibgkpjmac
open Go.RowKit
set_option maxRecDepth 20000

theorem slotOK_0 (d : ByteArray) (xs : List Int) : slotOK 0 d xs = decide (d.size = 0 ∧ xs.length = 0) := rfl
theorem slotOK_1 (d : ByteArray) (xs : List Int) : slotOK 1 d xs = decide (d.size = 4 ∧ xs.length = 0) := rfl
theorem slotOK_2 (d : ByteArray) (xs : List Int) : slotOK 2 d xs = decide (ckE xs = 0 ∧ bareE xs = false ∧ d.size = 0) := rfl
theorem slotOK_2' (d : ByteArray) (xs : List Int) : slotOK 2 d xs = true ↔ (d.size = 0 ∧ ckE xs = 0 ∧ bareL xs = false) := by
  rw [slotOK_2]
  by_cases h : ckE xs = 0 <;> simp [bareE, h, and_comm]

theorem beq_lit {k : Int} {c : Int} (h : k ≠ c) : (k == c) = false := by simpa using h

set_option maxHeartbeats 1000000 in
theorem slotFine_at (k : Int) (d : ByteArray) (ta : Option Addr) (tn tc : Nat) (xs : List Int) (w : World) (h : Sl w (.slice ta tn tc) xs) :
    Calls Try.prog 107 #[.agg #[.int .i64 k, .string d, .slice ta tn tc]] w fun r w' => r = .returned (.bool (slotOK k d xs)) ∧ Below w.heap.size w w' := by
  have hs := h.past (.cells #[.int .i64 k, .string d, .slice ta tn tc] 33)
  have hl : xs.length = tn := h.cells.1
  have HL : Hid (xs.length = tn) := hl
  have b0 : Below w.heap.size w (w.alloc (.cells #[.int .i64 k, .string d, .slice ta tn tc] 33)) := (Below.refl _ _).alloc (Nat.le_refl _) _
  clear hl
  by_cases h0 : k = 0
  · subst h0
    by_cases hd : d.size = 0
    · have hd1 : d.toList.isEmpty = true := by rw [ba_isEmpty]; simp [hd]
      have HD : Hid (d.size = 0) := hd
      clear hd
      go_enter Try.func107, Try.ntmps107
      go_wp2
      go_ret
      exact ⟨ret_bool (by rw [slotOK_0]; simp [HD.out, ← HL.out]), b0⟩
    · have hd1 : d.toList.isEmpty = false := by rw [ba_isEmpty]; simp [hd]
      go_enter Try.func107, Try.ntmps107
      go_wp2
      go_ret
      exact ⟨ret_bool (by rw [slotOK_0]; simp [hd]), b0⟩
  by_cases h1 : k = 1
  · subst h1
    clear h0
    by_cases hd : d.size = 4
    · have hd1 : ((d.size : Int) == 4) = true := by simp; omega
      have HD : Hid (d.size = 4) := hd
      clear hd
      go_enter Try.func107, Try.ntmps107
      go_wp2
      go_ret
      exact ⟨ret_bool (by rw [slotOK_1]; simp [HD.out, ← HL.out]), b0⟩
    · have hd1 : ((d.size : Int) == 4) = false := by simp; omega
      go_enter Try.func107, Try.ntmps107
      go_wp2
      go_ret
      exact ⟨ret_bool (by rw [slotOK_1]; simp [hd]), b0⟩
  by_cases h2 : k = 2
  · subst h2
    clear h0 h1
    by_cases hd : d.size = 0
    · have hd1 : d.toList.isEmpty = true := by rw [ba_isEmpty]; simp [hd]
      have HD : Hid (d.size = 0) := hd
      clear hd
      rcases ckE_01 xs with hc | hc
      · have HK : Hid (ckE xs = 0) := hc
        go_enter Try.func107, Try.ntmps107
        go_wp2_with (first | (go_at_call 95; refine (checkOf_any _ xs _ hs).mono ?_; rintro e w' ⟨rfl, rfl⟩) | (go_at_call 96; refine (bareIn_any _ xs _ hs).mono ?_; rintro e w' ⟨rfl, rfl⟩))
        go_ret
        exact ⟨ret_bool (by rw [slotOK_2']; simp [HD.out, HK.out]), b0⟩
      · have HK : Hid (ckE xs = 1) := hc
        go_enter Try.func107, Try.ntmps107
        go_wp2_with (first | (go_at_call 95; refine (checkOf_any _ xs _ hs).mono ?_; rintro e w' ⟨rfl, rfl⟩))
        go_ret
        exact ⟨ret_bool (by rw [slotOK_2']; simp [HK.out]), b0⟩
    · have hd1 : d.toList.isEmpty = false := by rw [ba_isEmpty]; simp [hd]
      go_enter Try.func107, Try.ntmps107
      go_wp2
      go_ret
      exact ⟨ret_bool (by rw [slotOK_2']; simp [hd]), b0⟩
  · have HF : Hid (slotOK k d xs = false) := by show _ = _; unfold slotOK; rw [if_neg h0, if_neg h1, if_neg h2]
    have e0 := beq_lit h0
    have e1 := beq_lit h1
    have e2 := beq_lit h2
    clear h0 h1 h2
    go_enter Try.func107, Try.ntmps107
    go_wp2
    go_ret
    exact ⟨by rw [HF.out]; rfl, b0⟩

theorem slotFine_any (k : Int) (d : ByteArray) (tv : Value) (xs : List Int) (w : World) (h : Sl w tv xs) :
    Calls Try.prog 107 #[.agg #[.int .i64 k, .string d, tv]] w fun r w' => r = .returned (.bool (slotOK k d xs)) ∧ Below w.heap.size w w' := by
  obtain ⟨ao, cap, rfl⟩ := h.form
  exact slotFine_at k d ao _ cap xs w h

set_option maxHeartbeats 1000000 in
theorem slotsError_at (b off cap n : Nat) (L : List SlotD) (w : World) (hn : L.length = n) (h1 : 1 ≤ n) (h40 : n ≤ 40) (hlt : b < w.heap.size) (hc : ∀ j, (h : j < L.length) → SlAt w b (off + j * 3) L[j]) :
    Calls Try.prog 78 #[.slice (some ⟨b, off, none⟩) n cap] w fun r w' => r = .returned (.int .i64 (slotsE L)) ∧ Below w.heap.size w w' := by
  have HC : Hid (∀ j, (h : j < L.length) → SlAt w b (off + j * 3) L[j]) := hc
  have HN : Hid (L.length = n) := hn
  clear hc hn
  have g1 : (1 : Int) ≤ (n : Int) := by omega
  have g2 : (n : Int) ≤ (40 : Int) := by omega
  go_enter Try.func78, Try.ntmps78
  go_wp2_with (go_at_call 46; refine (within_any _ _ _ _).mono ?_; rintro e w' ⟨rfl, hw⟩; subst hw)
  go_loopw [3] (fun i wr => ∃ k : Nat, k ≤ n ∧ i = .int .i64 k ∧ (∀ j, (h : j < L.length) → j < k → okD L[j] = true) ∧ Below w'.heap.size w' wr) (fun i _ => n - (intOf i).toNat)
  case atStart => exact ⟨0, Nat.zero_le _, rfl, fun j h hj => absurd hj (by omega), Below.refl _ _⟩
  case round =>
    obtain ⟨k, hk, rfl, hall, hbel⟩ := hrel
    have HA : Hid (∀ j, (h : j < L.length) → j < k → okD L[j] = true) := hall
    clear hall
    by_cases hlk : k < n
    · obtain ⟨s, hs⟩ : ∃ s, s = L[k]'(by rw [HN.out]; exact hlk) := ⟨_, rfl⟩
      obtain ⟨kk, dd, tt⟩ := s
      have hS : SlAt w' b (off + k * 3) (kk, dd, tt) := by rw [hs]; exact HC.out k _
      obtain ⟨tv, c1, c2, c3, hsl⟩ := hS
      obtain ⟨ta, tc, htv⟩ := hsl.form
      subst htv
      have HS : Hid ((kk, dd, tt) = L[k]'(by rw [HN.out]; exact hlk)) := hs
      have c1 : wr.cell? ⟨b, off + k * 3, none⟩ = some (.int .i64 kk) := (hbel.cell (p := ⟨b, off + k * 3, none⟩) hlt).trans c1
      have c2 : wr.cell? ⟨b, off + k * 3 + 1, none⟩ = some (.string dd) := (hbel.cell (p := ⟨b, off + k * 3 + 1, none⟩) hlt).trans c2
      have c3 : wr.cell? ⟨b, off + k * 3 + 1 + 1, none⟩ = some (.slice ta tt.length tc) := (hbel.cell (p := ⟨b, off + k * 3 + 1 + 1, none⟩) hlt).trans c3
      have hslr : Sl wr (.slice ta tt.length tc) tt := hsl.below hbel
      clear hs hsl
      cases hE : slotOK kk dd tt with
      | true =>
        go_wp2_with fail
        refine (slotFine_any kk dd _ tt _ hslr).mono ?_
        rintro e w2 ⟨rfl, b2⟩
        go_wp2_with fail
        go_roundw
        case rel => exact ⟨k + 1, by omega, by go_num, fun j h hj => by
          by_cases e : j = k
          · subst e; rw [← HS.out]; exact hE
          · exact HA.out j h (by omega), Below.on hbel b2⟩
        case measure => simp [intOf]; omega
      | false =>
        go_wp2_with fail
        refine (slotFine_any kk dd _ tt _ hslr).mono ?_
        rintro e w2 ⟨rfl, b2⟩
        go_wp2_with fail
        go_ret
        exact ⟨ret_int (slotsE_bad (by rw [HN.out]; exact h1) (by rw [HN.out]; exact h40) (by rw [HN.out]; exact hlk) (by rw [← HS.out]; exact hE)).symm, Below.on hbel b2⟩
    · have e4 : k = n := by omega
      subst e4
      obtain ⟨s, hs⟩ : ∃ s, s = L[0]'(by rw [HN.out]; exact h1) := ⟨_, rfl⟩
      obtain ⟨kk, dd, tt⟩ := s
      have hS : SlAt w' b (off + 0 * 3) (kk, dd, tt) := by rw [hs]; exact HC.out 0 _
      obtain ⟨tv, c1, _, _, _⟩ := hS
      have c1 : wr.cell? ⟨b, off, none⟩ = some (.int .i64 kk) := (hbel.cell (p := ⟨b, off, none⟩) hlt).trans (by simpa using c1)
      have HS : Hid ((kk, dd, tt) = L[0]'(by rw [HN.out]; exact h1)) := hs
      clear hs
      by_cases h0 : kk = 0
      · have h0' : (kk != 0) = false := by simp [h0]
        have H0 : Hid (kk = 0) := h0
        clear h0
        go_wp2_with fail
        go_ret
        exact ⟨ret_int (slotsE_ok (by rw [HN.out]; exact h1) (by rw [HN.out]; exact h40) (fun j h => HA.out j h (by rw [HN.out] at h; exact h)) (by rw [← HS.out]; exact H0.out)).symm, hbel⟩
      · have h0' : (kk != 0) = true := by simp [h0]
        go_wp2_with fail
        go_ret
        exact ⟨ret_int (slotsE_head (by rw [HN.out]; exact h1) (by rw [HN.out]; exact h40) (by rw [← HS.out]; exact h0)).symm, hbel⟩

theorem slotsError_no (ao : Option Addr) (n cap : Nat) (w : World) (h : decide ((1 : Int) ≤ (n : Int) ∧ (n : Int) ≤ 40) = false) :
    Calls Try.prog 78 #[.slice ao n cap] w fun r w' => r = .returned (.int .i64 2) ∧ Below w.heap.size w w' := by
  go_enter Try.func78, Try.ntmps78
  go_wp2_with (go_at_call 46; refine (within_any _ _ _ _).mono ?_; rintro e w' ⟨rfl, hw⟩; subst hw; rw [h])
  go_ret
  exact ⟨rfl, Below.refl _ _⟩

theorem slotsError_any (v : Value) (L : List SlotD) (w : World) (h : Slots w v L) :
    Calls Try.prog 78 #[v] w fun r w' => r = .returned (.int .i64 (slotsE L)) ∧ Below w.heap.size w w' := by
  obtain ⟨ao, cap, rfl, hm, hcp, hc⟩ := h
  by_cases hn : 1 ≤ L.length ∧ L.length ≤ 40
  · obtain ⟨b, off, rfl, hlt, hcell⟩ := hc (by intro e; rw [e] at hn; simp at hn)
    exact slotsError_at b off cap _ L w rfl hn.1 hn.2 hlt hcell
  · have e : slotsE L = 2 := by unfold slotsE; rw [if_neg hn]
    rw [e]
    exact slotsError_no ao _ cap w (by simp; omega)
theorem slotsError_is {v : Value} {L : List SlotD} {w : World} (h : Slots w v L) {E : Int} (hE : slotsE L = E) :
    Calls Try.prog 78 #[v] w fun r w' => r = .returned (.int .i64 E) ∧ Below w.heap.size w w' := by subst hE; exact slotsError_any v L w h

end Go.Proofs.Ytehleeibgkpjmac
