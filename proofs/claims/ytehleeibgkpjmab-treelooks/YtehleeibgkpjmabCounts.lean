/- Contract of Counts. -/
import Derived.Test.YtehleeibgkpjmabShape2
import Derived.Test.YtehleeibgkpjmabCntP
namespace Go.Proofs.Ytehleeibgkpjmab
open Go.RowKit Go.Shelf
set_option maxRecDepth 20000
attribute [local go_sem] Oper.semAt_some

theorem info3 : (Try.prog.info? 3).map (fun i => (i.zero, i.size, i.bytes)) = some (some (.int .i64 0), 1, 8) := by kernel_rfl
theorem mk_ints (n : Nat) (hn : n ≤ 40) (W : World) : (Instr.makeSlice 27 (.int .i64 (n : Int)) (.int .i64 (n : Int))).run Try.prog W = .ok (.slice (some ⟨W.heap.size, 0, none⟩) n n) (W.alloc (.cells ((List.replicate n (0 : Int)).map (Value.int .i64)).toArray 3)) := by
  have hi := info3
  cases h : Try.prog.info? 3 with
  | none => rw [h] at hi; cases hi
  | some i =>
    rw [h] at hi
    simp at hi
    have := run_make (P := Try.prog) W 27 3 i (.int .i64 0) Try.underlying27 h hi.1 .i64 .i64 n n (by omega) (by omega) (by rw [hi.2.2]; omega) (by omega)
    rw [this, hi.2.1]
    have e : madeCells (Value.int .i64 0).cells (((n : Int)).toNat * 1) = ((List.replicate n (0 : Int)).map (Value.int .i64)).toArray := by
      apply Array.ext
      · simp [madeCells]
      · intro j h1 h2
        simp [madeCells, Value.cells, Nat.mod_one]
    rw [e]
    simp

abbrev RootC (w : World) (L : List SlotD) : Type := { p : RootV × SnapD // Rt w p.1 p.2 ∧ rootFit L p.2.2.1 p.2.2.2 = true ∧ guestOK p.2.2.1 = true }
theorem rootsC_of {w : World} {L : List SlotD} : ∀ (zs : List (RootA w)), (∀ x ∈ zs, rootFit L x.1.2.2.1 x.1.2.2.2 = true ∧ guestOK x.1.2.2.1 = true) → ∃ ys : List (RootC w L), ys.map (fun x => x.1.1) = zs.map (fun x => x.1.1) ∧ ys.map (fun x => x.1.2) = zs.map (fun x => x.1.2)
  | [], _ => ⟨[], rfl, rfl⟩
  | x :: zs, h => by
    obtain ⟨ys, h1, h2⟩ := rootsC_of zs (fun y hy => h y (List.mem_cons_of_mem _ hy))
    exact ⟨⟨x.1, x.2, h x List.mem_cons_self⟩ :: ys, by rw [List.map_cons, List.map_cons, h1], by rw [List.map_cons, List.map_cons, h2]⟩
/-- The Roots of a prefix, gone through. -/
def goneC {w : World} (L : List SlotD) (pre : List (RootC w L)) : List Int := (pre.flatMap (fun x => x.1.2.2.2)).foldl (stepC L) (List.replicate L.length 0)
theorem goneC_snoc {w : World} (L : List SlotD) (pre : List (RootC w L)) (x : RootC w L) : goneC L (pre ++ [x]) = x.1.2.2.2.foldl (stepC L) (goneC L pre) := by
  unfold goneC
  rw [List.flatMap_append, List.foldl_append]
  simp
theorem fold_length (L : List SlotD) (r : List Int) : ∀ l : List Int, (r.foldl (stepC L) l).length = l.length := by
  induction r with
  | nil => exact fun l => rfl
  | cons k r ih => exact fun l => by rw [List.foldl_cons, ih, stepC_length]
theorem goneC_length {w : World} (L : List SlotD) (pre : List (RootC w L)) : (goneC L pre).length = L.length := by unfold goneC; rw [fold_length]; simp
theorem tab4 {L : List SlotD} (h : slotsE L = 0) (k : Int) : (tabOf L k).length ≤ 4 := by
  unfold tabOf
  by_cases hk : k.toNat < L.length
  · have := slotsE_all h hk
    have e : L.getD k.toNat default = L[k.toNat] := by simp [List.getD, hk]
    rw [e]
    unfold okD slotOK at this
    split at this
    · simp at this; rw [this.2]; exact Nat.zero_le _
    · split at this
      · simp at this; rw [this.2]; exact Nat.zero_le _
      · split at this
        · simp at this; have := ckE_len this.1; omega
        · cases this
  · have e : L.getD k.toNat default = default := by simp [List.getD, hk]
    rw [e]
    exact Nat.zero_le _
theorem Bnd.stepC {L : List SlotD} (h : slotsE L = 0) {l : List Int} {B : Nat} (hb : Bnd l B) (k : Int) : Bnd (stepC L l k) (B + 5) := by
  unfold Go.Proofs.Ytehleeibgkpjmab.stepC
  split
  · exact hb.mono (by omega)
  · split
    · exact ((hb.inc k).pagesC).mono (by have := tab4 h k; omega)
    · exact (hb.inc k).mono (by omega)
theorem Bnd.fold {L : List SlotD} (h : slotsE L = 0) : ∀ {r l : List Int} {B : Nat}, Bnd l B → Bnd (r.foldl (Go.Proofs.Ytehleeibgkpjmab.stepC L) l) (B + 5 * r.length)
  | [], _, _, hb => hb
  | k :: r, l, B, hb => by
    have := Bnd.fold h (r := r) (hb.stepC h k)
    exact this.mono (by simp; omega)
theorem root4 {w : World} {L : List SlotD} (x : RootC w L) : x.1.2.2.2.length ≤ 4 := by
  have h := x.2.2.1
  have hg := x.2.2.2
  unfold rootFit at h
  unfold guestOK at hg
  simp only [Bool.and_eq_true, decide_eq_true_eq] at h hg
  omega
theorem rootEs {w : World} {L : List SlotD} (x : RootC w L) : x.1.2.2.2.all (rootE L) = true := by
  have h := x.2.2.1
  unfold rootFit at h
  simp only [Bool.and_eq_true] at h
  exact h.2.1
theorem flat_len {w : World} {L : List SlotD} : ∀ pre : List (RootC w L), (pre.flatMap (fun x => x.1.2.2.2)).length ≤ 4 * pre.length
  | [] => Nat.zero_le _
  | x :: pre => by
    have h1 := flat_len pre
    have h2 := root4 x
    rw [List.flatMap_cons, List.length_append, List.length_cons]
    omega
theorem Bnd.gone {w : World} {L : List SlotD} (h : slotsE L = 0) (pre : List (RootC w L)) : Bnd (goneC L pre) (20 * pre.length) := by
  unfold goneC
  exact (Bnd.fold h (Bnd.zero L.length)).mono (by have := flat_len pre; omega)
theorem fold_take (L : List SlotD) (l r : List Int) (k : Nat) (hk : k < r.length) : (r.take (k + 1)).foldl (stepC L) l = stepC L ((r.take k).foldl (stepC L) l) (r.getD k 0) := by
  have e : r.getD k 0 = r[k] := by simp [List.getD, hk]
  rw [List.take_add_one, List.getElem?_eq_getElem hk, Option.toList_some, List.foldl_append, e]
  rfl
theorem Only.cellsAt {g B : Nat} {W W' : World} {A : Array Value} {t : TypeId} {fr : Nat × Nat} (h : Only g W W') (hne : B ≠ g) (hb : W.heap[B]? = some (.cells A t fr)) : W'.heap[B]? = some (.cells A t fr) := (h.block B hne).trans hb
theorem Only.keepsFrom {g n : Nat} {l : List Int} {W W' : World} (h : Only g W W') (hl : LAt W g l) : KeepsFrom n W W' := ⟨Nat.le_of_eq h.size.symm, fun k o _ hk ho => by
  by_cases e : k = g
  · subst e
    rw [show W.heap[k]? = _ from hl] at hk
    cases hk
    cases ho
  · exact (h.block k e).trans hk⟩

/-- Between two rounds: the list lies whole, in its block; the boxes as they were. -/
structure CI (w : World) (sn g : Nat) (box : Obj) (l : List Int) (W : World) : Prop where
  l : LAt W g l
  x : Boxed W (g + 1) 27 (.slice (some ⟨g, 0, none⟩) sn sn)
  m : W.heap[w.heap.size]? = some box
  k : W.heap[g + 1 + 1]? = some box
  b : Below w.heap.size w W
  z : g + 1 + 1 + 1 ≤ W.heap.size
theorem CI.own {w : World} {sn g : Nat} {box : Obj} {l : List Int} {X Y : World} {row : Option Nat} (h : CI w sn g box l X) (hg : X.grownBy Y row) (hr : ∀ r, row = some r → ∃ o : Obj, X.heap[r]? = some o ∧ o.isCells = false) (hz : ∀ r, row = some r → g + 1 + 1 < r ∧ w.heap.size < r) : CI w sn g box l Y := by
  refine ⟨cells_kept h.l hg hr, cells_kept h.x hg hr, (hg.block _ (Array.getElem?_eq_some_iff.1 h.m).1 (fun e => ?_)).trans h.m, (hg.block _ (Array.getElem?_eq_some_iff.1 h.k).1 (fun e => ?_)).trans h.k, h.b.grown hg h.b.size (fun k e => Nat.le_of_lt (hz k e).2), Nat.le_trans h.z hg.size⟩
  · have := (hz _ e.symm).2; omega
  · have := (hz _ e.symm).1; omega
theorem CI.alloc {w : World} {sn g : Nat} {box : Obj} {l : List Int} {X : World} (h : CI w sn g box l X) (o : Obj) : CI w sn g box l (X.alloc o) := h.own (World.grownBy_alloc X o none) (by simp) (by simp)
theorem CI.only {w : World} {sn g : Nat} {box : Obj} {l l' : List Int} {X Y : World} (h : CI w sn g box l X) (ho : Only g X Y) (hl : LAt Y g l') (hg : w.heap.size < g) : CI w sn g box l' Y :=
  ⟨hl, (ho.block _ (by omega)).trans h.x, (ho.block _ (by omega)).trans h.m, (ho.block _ (by omega)).trans h.k, h.b.trans (ho.below (Nat.le_of_lt hg)), by rw [ho.size]; exact h.z⟩

theorem counts_bad (gm : Int) (ra : Option Addr) (rn rc : Nat) (sa : Option Addr) (sn sc : Nat) (fa : Option Addr) (fn fc : Nat) (na : Option Addr) (nn nc : Nat) (m : ImgD) (E : Int) (w : World) (h : Img w (Value.agg #[.int .i64 gm, .slice ra rn rc, .slice sa sn sc, .slice fa fn fc, .slice na nn nc]) m) (hE : shapeE m = E) (hne : (E != 0) = true) :
    Calls Try.prog 26 #[Value.agg #[.int .i64 gm, .slice ra rn rc, .slice sa sn sc, .slice fa fn fc, .slice na nn nc]] w fun r w' => r = .returned (.tuple #[.slice none 0 0, .int .i64 E]) ∧ Below w.heap.size w w' := by
  have b0 : Below w.heap.size w (w.alloc (.cells #[.int .i64 gm, .slice ra rn rc, .slice sa sn sc, .slice fa fn fc, .slice na nn nc] 44)) := (Below.refl _ _).alloc (Nat.le_refl _) _
  have hcall := shape_is (h.below b0) hE
  clear h hE
  refine (callsIn_wide (n := 9)).1 ?_
  refine callsIn_of_wp_marks Try.func26 rfl trivial ?_ rfl
  simp only [Try.ntmps26, List.size_toArray, List.length_cons, List.length_nil, Nat.reduceAdd, Nat.reduceSub, Array.replicate_succ, Array.replicate_zero, List.push_toArray, List.append_toArray, List.nil_append, List.cons_append]
  gi_wp2_with (refine ⟨trivial, ?_⟩; gi_at_call 24; refine (callsIn_wide.2 hcall).mono ?_; rintro e w1 ⟨rfl, b1⟩)
  refine ⟨_, results_tmp2 rfl _ _ _, rfl, Below.on b0 b1⟩

set_option maxRecDepth 100000 in
set_option maxHeartbeats 8000000 in
theorem counts_at (gm : Int) (ra : Option Addr) (rn rc : Nat) (sb so : Nat) (sn sc : Nat) (fa : Option Addr) (fn fc : Nat) (na : Option Addr) (nn nc : Nat) (r : List Int) (L : List SlotD) (S : List SnapD) (refs : List Int) (w : World) (hr : Sl w (.slice ra rn rc) r) (hs : Slots w (.slice (some ⟨sb, so, none⟩) sn sc) L) (hf : Sl w (.slice fa fn fc) refs) (hS : Snaps w (.slice na nn nc) S) (hsn : L.length = sn) (hsn40 : sn ≤ 40) (hsb : sb < w.heap.size) (hcl : ∀ j, (h : j < L.length) → SlAt w sb (so + j * 3) L[j])
    (hE : shapeE ⟨gm, r, L, refs, S⟩ = 0) (hLs : slotsE L = 0) (hS3 : S.length ≤ 3) (hT : tabFit L = true) (hG : ((⟨#[]⟩, gm, r) :: S).all (fun s => guestOK s.2.1) = true) (hF : ((⟨#[]⟩, gm, r) :: S).all (fun s => rootFit L s.2.1 s.2.2) = true) :
    Calls Try.prog 26 #[Value.agg #[.int .i64 gm, .slice ra rn rc, .slice (some ⟨sb, so, none⟩) sn sc, .slice fa fn fc, .slice na nn nc]] w fun e w' => (∃ g, w.heap.size ≤ g ∧ e = .returned (.tuple #[.slice (some ⟨g, 0, none⟩) sn sn, .int .i64 0]) ∧ LAt w' g ((((⟨#[]⟩, gm, r) :: S).flatMap (fun s => s.2.2)).foldl (stepC L) (List.replicate L.length 0))) ∧ Below w.heap.size w w' := by
  have b0 : Below w.heap.size w (w.alloc (.cells #[.int .i64 gm, .slice ra rn rc, .slice (some ⟨sb, so, none⟩) sn sc, .slice fa fn fc, .slice na nn nc] 44)) := (Below.refl _ _).alloc (Nat.le_refl _) _
  have m0 : (w.alloc (.cells #[.int .i64 gm, .slice ra rn rc, .slice (some ⟨sb, so, none⟩) sn sc, .slice fa fn fc, .slice na nn nc] 44)).heap[w.heap.size]? = some (.cells #[.int .i64 gm, .slice ra rn rc, .slice (some ⟨sb, so, none⟩) sn sc, .slice fa fn fc, .slice na nn nc] 44) := World.alloc_heap_new _ _
  have hI : Img w (Value.agg #[.int .i64 gm, .slice ra rn rc, .slice (some ⟨sb, so, none⟩) sn sc, .slice fa fn fc, .slice na nn nc]) ⟨gm, r, L, refs, S⟩ := ⟨_, _, _, _, rfl, hr, hs, hf, hS⟩
  have hcall := shape_is (hI.below b0) hE
  have hmk := mk_ints sn hsn40
  clear hI hE hf
  refine (callsIn_wide (n := 9)).1 ?_
  refine callsIn_of_wp_marks Try.func26 rfl trivial ?_ rfl
  simp only [Try.ntmps26, List.size_toArray, List.length_cons, List.length_nil, Nat.reduceAdd, Nat.reduceSub, Array.replicate_succ, Array.replicate_zero, List.push_toArray, List.append_toArray, List.nil_append, List.cons_append]
  gi_wp2_with (first
    | (refine ⟨trivial, ?_⟩; gi_at_call 24; refine (callsIn_wide.2 hcall).mono ?_; rintro e w1 ⟨rfl, b1⟩; have m1 := cells_below m0 b1 (by simp); obtain ⟨c0, c1, c2, c3, c4⟩ := five m1; have m2 := cells_alloc (cells_alloc m1 (.cells (Array.replicate sn (.int .i64 0)) 3)) (.cells #[.slice (some ⟨w1.heap.size, 0, none⟩) sn sn] 27); obtain ⟨d0, d1, d2, d3, d4⟩ := five m2)
    | (refine ⟨trivial, ?_⟩; gi_at_call 42; refine (roots_in Fence.wide _ trivial rfl _ _ _ _ _ _).mono ?_; rintro e w3 ⟨rfl, rfl⟩))
  have hbw1 := Below.on b0 b1
  have hmlt : w.heap.size < w1.heap.size := (Array.getElem?_eq_some_iff.1 m1).1
  obtain ⟨Wm, hWm⟩ : ∃ Wm, (w1.alloc (.cells (Array.replicate sn (.int .i64 0)) 3)).alloc (.cells #[.slice (some ⟨w1.heap.size, 0, none⟩) sn sn] 27) = Wm := ⟨_, rfl⟩
  have l2 : LAt Wm w1.heap.size (List.replicate sn 0) := by
    rw [← hWm]
    have := cells_alloc (World.alloc_heap_new w1 (.cells (Array.replicate sn (.int .i64 0)) 3)) (.cells #[.slice (some ⟨w1.heap.size, 0, none⟩) sn sn] 27)
    show _ = _
    rw [this]
    simp
  have x2 : Boxed Wm (w1.heap.size + 1) 27 (.slice (some ⟨w1.heap.size, 0, none⟩) sn sn) := by
    rw [← hWm]
    have := Boxed.new (w1.alloc (.cells (Array.replicate sn (.int .i64 0)) 3)) 27 (.slice (some ⟨w1.heap.size, 0, none⟩) sn sn)
    simpa using this
  have hb2 : Below w.heap.size w Wm := by
    rw [← hWm]
    exact (hbw1.alloc hbw1.size _).alloc (by have := hbw1.size; simp; omega) _
  have hz2 : Wm.heap.size = w1.heap.size + 1 + 1 := by rw [← hWm]; simp
  rw [hWm] at m2 d0 d1 d2 d3 d4 ⊢
  have hz2a := Nat.le_of_eq hz2
  have hz2b := Nat.le_of_eq hz2.symm
  have m3 : (Wm.alloc (.cells #[.int .i64 gm, .slice ra rn rc, .slice (some ⟨sb, so, none⟩) sn sc, .slice fa fn fc, .slice na nn nc] 44)).heap[w1.heap.size + 1 + 1]? = some (.cells #[.int .i64 gm, .slice ra rn rc, .slice (some ⟨sb, so, none⟩) sn sc, .slice fa fn fc, .slice na nn nc] 44) := by rw [← hz2]; exact World.alloc_heap_new _ _
  have m3' := cells_alloc m2 (.cells #[.int .i64 gm, .slice ra rn rc, .slice (some ⟨sb, so, none⟩) sn sc, .slice fa fn fc, .slice na nn nc] 44)
  have l3 : LAt (Wm.alloc (.cells #[.int .i64 gm, .slice ra rn rc, .slice (some ⟨sb, so, none⟩) sn sc, .slice fa fn fc, .slice na nn nc] 44)) w1.heap.size (List.replicate sn 0) := cells_alloc l2 _
  have x3 := x2.alloc (.cells #[.int .i64 gm, .slice ra rn rc, .slice (some ⟨sb, so, none⟩) sn sc, .slice fa fn fc, .slice na nn nc] 44)
  have hb3 : Below w.heap.size w (Wm.alloc (.cells #[.int .i64 gm, .slice ra rn rc, .slice (some ⟨sb, so, none⟩) sn sc, .slice fa fn fc, .slice na nn nc] 44)) := hb2.alloc hb2.size _
  have hz3a : (Wm.alloc (.cells #[.int .i64 gm, .slice ra rn rc, .slice (some ⟨sb, so, none⟩) sn sc, .slice fa fn fc, .slice na nn nc] 44)).heap.size ≤ w1.heap.size + 1 + 1 + 1 := by simp; omega
  have hz3b : w1.heap.size + 1 + 1 + 1 ≤ (Wm.alloc (.cells #[.int .i64 gm, .slice ra rn rc, .slice (some ⟨sb, so, none⟩) sn sc, .slice fa fn fc, .slice na nn nc] 44)).heap.size := by simp; omega
  obtain ⟨zs0, hL0, hzs0⟩ := rootsA_of hr hS hS3 hb3 m3
  obtain ⟨xs, hz1, hzx⟩ := rootsC_of (L := L) zs0 (fun x hx => by
    rw [← hzs0, List.all_eq_true] at hF hG
    exact ⟨hF x.1.2 (List.mem_map.2 ⟨x, hx, rfl⟩), hG x.1.2 (List.mem_map.2 ⟨x, hx, rfl⟩)⟩)
  have HxS : Hid (xs.map (fun x => x.1.2) = (⟨#[]⟩, gm, r) :: S) := hzx.trans hzs0
  have hxl : xs.length ≤ 4 := by
    have := congrArg List.length HxS.out
    simp at this
    omega
  rw [← hz1] at hL0
  obtain ⟨W0, hW0⟩ : ∃ W0, Wm.alloc (.cells #[.int .i64 gm, .slice ra rn rc, .slice (some ⟨sb, so, none⟩) sn sc, .slice fa fn fc, .slice na nn nc] 44) = W0 := ⟨_, rfl⟩
  rw [hW0] at m3 m3' l3 x3 hb3 hz3a hz3b hL0
  rw [hW0]
  have HN : Hid (L.length = sn) := hsn
  have hI0 : CI w sn w1.heap.size (.cells #[.int .i64 gm, .slice ra rn rc, .slice (some ⟨sb, so, none⟩) sn sc, .slice fa fn fc, .slice na nn nc] 44) (goneC L ([] : List (RootC w L))) W0 := ⟨by have := l3; rw [← HN.out] at this; exact this, x3, m3', m3, hb3, hz3b⟩
  have hslot : ∀ j, (h : j < L.length) → ∃ tv, w.cell? ⟨sb, so + j * 3 + 2, none⟩ = some tv ∧ Sl w tv L[j].2.2 := fun j h => by
    obtain ⟨tv, _, _, c3, hsl⟩ := hcl j h
    exact ⟨tv, c3, hsl⟩
  have HSl : Hid (∀ j, (h : j < L.length) → ∃ tv, w.cell? ⟨sb, so + j * 3 + 2, none⟩ = some tv ∧ Sl w tv L[j].2.2) := hslot
  clear hWm hW0 hcall hmk c0 c1 c2 c3 c4 d0 d1 d2 d3 d4 m0 m1 m2 l2 x2 b0 b1 hb2 hz2 hz2a hz2b m3 m3' l3 x3 hz1 hzx hzs0 hsn hslot hcl
  refine wpIn_rangeFunc_ownH rfl (by omega) (gf := 56) (lb := #[.pointer (some ⟨w1.heap.size + 1 + 1, 0, none⟩)]) rfl trivial (enters_of Try.func56 (by kernel_rfl) rfl)
    (roots_stops (fun x : RootC w L => x.1.1) Fence.wide 8 trivial rfl (by omega) (w1.heap.size + 1 + 1) w.heap.size xs W0 hL0 (by omega) (by omega)) KpR.trans (KpR.put (by omega) (by omega)) (Below.refl _ _) (fun _ => rfl)
    (fun pre W => CI w sn w1.heap.size (.cells #[.int .i64 gm, .slice ra rn rc, .slice (some ⟨sb, so, none⟩) sn sc, .slice fa fn fc, .slice na nn nc] 44) (goneC L pre) W)
    (fun _ _ _ => False)
    (fun pre X Y row hs hg hr => hs.own hg (fun r e => (hr r e).2) (fun r e => by have := (hr r e).1; omega))
    (fun _ _ _ _ _ hs _ _ => hs)
    hI0
    (fun x a' W => ∃ Bx, W.heap[Bx]? = some (.cells #[.string x.1.1.nm, .int .i64 x.1.1.g, .slice x.1.1.a x.1.1.n x.1.1.c] 64) ∧ w1.heap.size + 1 + 1 + 1 ≤ Bx ∧ a' = { tmps := #[Value.agg #[.int .i64 gm, .slice ra rn rc, .slice (some ⟨sb, so, none⟩) sn sc, .slice fa fn fc, .slice na nn nc], .pointer (some ⟨w.heap.size, 0, none⟩), .slice none 0 0, .int .i64 0, .int .i64 0, .pointer (some ⟨w1.heap.size + 1, 0, none⟩), .pointer (some ⟨Bx, 0, none⟩), undef, undef, Value.agg #[.int .i64 gm, .slice ra rn rc, .slice (some ⟨sb, so, none⟩) sn sc, .slice fa fn fc, .slice na nn nc], .int .i64 0, .int .i64 0, .bool false, undef, .pointer (some ⟨w.heap.size, 2, none⟩), .slice (some ⟨sb, so, none⟩) sn sc, .int .i64 sn, .slice (some ⟨w1.heap.size, 0, none⟩) sn sn, Value.agg #[.int .i64 gm, .slice ra rn rc, .slice (some ⟨sb, so, none⟩) sn sc, .slice fa fn fc, .slice na nn nc], .func (.func 56) #[] #[.pointer (some ⟨w1.heap.size + 1 + 1, 0, none⟩)], .agg #[.string x.1.1.nm, .int .i64 x.1.1.g, .slice x.1.1.a x.1.1.n x.1.1.c], undef, undef, undef, undef, undef, undef, undef, undef, undef, undef, undef, undef, undef, undef, undef, undef, undef, undef, undef, undef, undef, undef, undef, undef, undef, undef, undef, undef, undef, undef], defers := [] })
    (fun x a' _ X Y row hs hg hr => by obtain ⟨Bx, e1, e2, e3⟩ := hs; exact ⟨Bx, cells_kept e1 hg (fun r e => (hr r e).2), e2, e3⟩)
    ?assign ?body ?done ?stop
  case assign =>
    rintro l pre x W K hI hK
    unfold encRoot
    gi_wp2
    exact hK _ _ ((KeepsOthers.alloc _ _).from _) (KpR.alloc (by have := hI.z; omega) (by have := hI.z; omega) _) (hI.alloc _) ⟨W.heap.size, World.alloc_heap_new _ _, hI.z, rfl⟩
  case stop =>
    rintro D c pre W _ _ h _
    exact h.elim
  case done =>
    rintro D ys W hD rfl hI hK
    have cX := hI.x.cell
    have hfin : LAt (W.putObj D (.deferred none)) w1.heap.size ((((⟨#[]⟩, gm, r) :: S).flatMap (fun s => s.2.2)).foldl (stepC L) (List.replicate L.length 0)) := by
      have := hI.l
      unfold goneC at this
      rw [show ys.flatMap (fun x => x.1.2.2.2) = (ys.map (fun x => x.1.2)).flatMap (fun s => s.2.2) by rw [List.flatMap_map], HxS.out] at this
      exact (World.putObj_heap_other (by omega)).trans this
    gi_wp2
    refine ⟨by simp, .inl ⟨_, _, rfl, run_takeDeferred hK, ?_⟩⟩
    exact ⟨_, results_tmp2 rfl _ _ _, ⟨w1.heap.size, by omega, rfl, hfin⟩, below_put hI.b (by omega) _⟩
  case body =>
    rintro l pre x a' W hl ⟨rr, hrr⟩ hI ⟨Bx, hBx, hBlt, rfl⟩ hlt
    obtain ⟨e0, e1, e2⟩ := three hBx
    have h4 := root4 x
    obtain ⟨hrl, hrm, _, hcc⟩ := x.2.1.2.2.cells
    have HR : Hid (x.1.2.2.2.length = x.1.1.n) := hrl
    have hn4 : x.1.1.n ≤ 4 := by omega
    have HC : Hid (∀ j, j < x.1.1.n → ∃ b off, x.1.1.a = some ⟨b, off, none⟩ ∧ b < w.heap.size ∧ w.cell? ⟨b, off + j, none⟩ = some (.int .i64 (x.1.2.2.2.getD j 0))) := hcc
    have HI : Hid (CI w sn w1.heap.size (.cells #[.int .i64 gm, .slice ra rn rc, .slice (some ⟨sb, so, none⟩) sn sc, .slice fa fn fc, .slice na nn nc] 44) (goneC L pre) W) := hI
    have hp4 : pre.length ≤ 4 := by omega
    obtain ⟨xa, hxa⟩ : ∃ xa, x.1.1.a = xa := ⟨_, rfl⟩
    obtain ⟨xn, hxn⟩ : ∃ xn, x.1.1.n = xn := ⟨_, rfl⟩
    rw [hxa, hxn] at HC e2 ⊢
    rw [hxn] at hn4 HR
    clear hcc hrl h4 hI hxa hxn
    gi_wp2
    gi_loopw [8, 24] (fun _ i wr => ∃ k : Nat, k ≤ xn ∧ i = .int .i64 k ∧ Hid (LAt wr w1.heap.size ((x.1.2.2.2.take k).foldl (stepC L) (goneC L pre))) ∧ Only w1.heap.size W wr) (fun _ i _ => xn - (intOf i).toNat)
    case atStart => exact ⟨0, Nat.zero_le _, rfl, HI.out.l, Only.refl _ _⟩
    case round =>
      obtain ⟨k, hk, rfl, HLk, hon⟩ := hrel
      by_cases hlk : k < xn
      · obtain ⟨b, off, rfl, hbl, hcell⟩ := HC.out k hlk
        have hki : (k : Int) < (xn : Int) := by omega
        have hkr : k < x.1.2.2.2.length := by rw [HR.out]; exact hlk
        have hE := all_at (rootEs x) hkr
        have hstep := fold_take L (goneC L pre) x.1.2.2.2 k hkr
        obtain ⟨q, hq⟩ : ∃ q, x.1.2.2.2.getD k 0 = q := ⟨_, rfl⟩
        rw [hq] at hE hstep hcell
        obtain ⟨lk, hlke⟩ : ∃ lk, (x.1.2.2.2.take k).foldl (stepC L) (goneC L pre) = lk := ⟨_, rfl⟩
        have hlen : lk.length = sn := by rw [← hlke, fold_length, goneC_length, HN.out]
        have hbd : Bnd lk 100 := by
          rw [← hlke]
          refine (Bnd.fold hLs (Bnd.gone hLs pre)).mono ?_
          have : (x.1.2.2.2.take k).length ≤ 4 := by simp; omega
          omega
        rw [hlke] at hstep
        have HLk' : Hid (LAt wr w1.heap.size lk) := by rw [← hlke]; exact HLk
        have hbr : Below w.heap.size w wr := HI.out.b.trans (hon.below (Nat.le_of_lt hmlt))
        have c1 : wr.cell? ⟨b, off + k, none⟩ = some (.int .i64 q) := (hbr.cell (p := ⟨b, off + k, none⟩) hbl).trans hcell
        have HCI : Hid (CI w sn w1.heap.size (.cells #[.int .i64 gm, .slice ra rn rc, .slice (some ⟨sb, so, none⟩) sn sc, .slice fa fn fc, .slice na nn nc] 44) lk wr) := HI.out.only hon HLk'.out hmlt
        have HS : Hid ((x.1.2.2.2.take (k + 1)).foldl (stepC L) (goneC L pre) = stepC L lk q) := hstep
        clear hstep hlke hcell hq hkr HLk
        by_cases h0 : q = 0
        · have h0' : (q == 0) = true := by simp [h0]
          have H0 : Hid (q = 0) := h0
          clear h0 hE
          gi_wp2
          go_roundw
          case rel => exact ⟨k + 1, by omega, by go_num, by show LAt _ _ _; rw [HS.out]; unfold stepC; rw [if_pos H0.out]; exact HLk'.out, hon⟩
          case measure => simp [intOf]; omega
        · have h0' : (q == 0) = false := by simp [h0]
          rw [rootE_x h0] at hE
          obtain ⟨j, rfl, hj, hkd⟩ := isKd_yes hE
          have hjn : j < sn := by rw [← HN.out]; exact hj
          have hji : (j : Int) < (sn : Int) := by omega
          obtain ⟨c, hc⟩ : ∃ c, lk.getD j 0 = c := ⟨_, rfl⟩
          have cq : wr.cell? ⟨w1.heap.size, j, none⟩ = some (.int .i64 c) := by rw [← hc]; exact HLk'.out.cell (by omega)
          have fq : wr.frozen? ⟨w1.heap.size, j, none⟩ = false := HLk'.out.frozen j
          have hcb := hbd j
          rw [hc] at hcb
          have hcb1 := hcb.1
          have hcb2 := hcb.2
          have cX := HCI.out.x.cell
          have HL1 : Hid (LAt (wr.setCell ⟨w1.heap.size, j, none⟩ (.int .i64 (c + 1))) w1.heap.size (inc lk j)) := by
            show LAt _ _ _
            unfold inc
            rw [Int.toNat_natCast, hc]
            exact HLk'.out.set j (c + 1)
          have HO1 : Hid (Only w1.heap.size wr (wr.setCell ⟨w1.heap.size, j, none⟩ (.int .i64 (c + 1)))) := Only.set _ _ _ _
          have HC1 : Hid (CI w sn w1.heap.size (.cells #[.int .i64 gm, .slice ra rn rc, .slice (some ⟨sb, so, none⟩) sn sc, .slice fa fn fc, .slice na nn nc] 44) (inc lk j) (wr.setCell ⟨w1.heap.size, j, none⟩ (.int .i64 (c + 1)))) := HCI.out.only HO1.out HL1.out hmlt
          have cX1 := HC1.out.x.cell
          have cq1 : (wr.setCell ⟨w1.heap.size, j, none⟩ (.int .i64 (c + 1))).cell? ⟨w1.heap.size, j, none⟩ = some (.int .i64 (c + 1)) := by
            have := HL1.out.cell (j := j) (by rw [inc_length]; omega)
            rw [this]
            unfold inc
            rw [Int.toNat_natCast, getD_set, if_pos ⟨rfl, by omega⟩, hc]
          have hinc : (inc lk j).getD j 0 = c + 1 := by
            unfold inc
            rw [Int.toNat_natCast, getD_set, if_pos ⟨rfl, by omega⟩, hc]
          obtain ⟨f0, f1, f2, f3, f4⟩ := five HC1.out.m
          obtain ⟨tv, ct, hsl⟩ := HSl.out j hj
          have hok := okD_tab (slotsE_all hLs hj) hkd
          obtain ⟨tb, tw, tc, rfl, htc, htb, _⟩ := hsl.four hok.1
          have ct1 : (wr.setCell ⟨w1.heap.size, j, none⟩ (.int .i64 (c + 1))).cell? ⟨sb, so + j * 3 + 2, none⟩ = some (.slice (some ⟨tb, tw, none⟩) 4 tc) := (HC1.out.b.cell (p := ⟨sb, so + j * 3 + 2, none⟩) hsb).trans ct
          have HTb : Hid (tabOf L (j : Int) = L[j].2.2) := by show _ = _; unfold tabOf; simp [List.getD, hj]
          by_cases hc0 : c = 0
          · have hcz : (c + 1 == 1) = true := by simp [hc0]
            have HZ : Hid (stepC L lk j = pagesC (inc lk j) L[j].2.2) := by
              show _ = _
              unfold stepC
              rw [if_neg h0, Int.toNat_natCast, hinc, if_pos (by omega), HTb.out]
            have hent : ∀ e ∈ L[j].2.2, e = 0 ∨ e = -1 ∨ (1 ≤ e ∧ e < (sn : Int)) := fun e he => by
              unfold tabFit at hT
              rw [List.all_eq_true] at hT
              have h1 := hT _ (List.getElem_mem hj)
              rw [List.all_eq_true] at h1
              have h2 := h1 e he
              by_cases e0 : e = 0
              · exact .inl e0
              by_cases e1 : e = -1
              · exact .inr (.inl e1)
              rw [tabE_x e0 e1] at h2
              obtain ⟨i, rfl, hi, _⟩ := isKd_yes h2
              exact .inr (.inr ⟨by omega, by have := HN.out; omega⟩)
            have hcall : ∀ V : World, LAt V w1.heap.size (inc lk j) → Below w.heap.size w V → Calls Try.prog 49 #[.slice (some ⟨w1.heap.size, 0, none⟩) sn sn, .slice (some ⟨tb, tw, none⟩) 4 tc] V fun r w' => (∃ v, r = .returned v) ∧ LAt w' w1.heap.size (pagesC (inc lk j) L[j].2.2) ∧ Only w1.heap.size V w' :=
              fun V h1 h2 => countPages_at w1.heap.size sn (inc lk j) _ 4 tc L[j].2.2 101 V w (by rw [inc_length, hlen]) hsn40 hok.1 (Nat.le_refl _) (by omega) h1 (hbd.inc j) h2 (by omega) hsl hent
            clear hc hc0 h0 hE hcb hok hsl hent ct hinc hbd
            have hmix : Try.prog.follows .mixedOrders = true := by kernel_rfl
            gi_wp2
            gi_region_with_o (first | (refine ⟨trivial, ?_⟩; gi_at_call 49; refine (CallsIn.inRound l (callsIn_wide.2 (hcall _ ?_ ?_))).mono ?_; (first | exact HL1.out | skip); (first | exact ⟨HC1.out.b.os, HC1.out.b.tape, HC1.out.b.output, HC1.out.b.size, HC1.out.b.block⟩ | skip); rintro e w6 ⟨⟨v6, rfl⟩, l6, o6⟩) | (gi_at_call 49; refine (CallsIn.inRound l (callsIn_wide.2 (hcall _ ?_ ?_))).mono ?_; (first | exact HL1.out | skip); (first | exact ⟨HC1.out.b.os, HC1.out.b.tape, HC1.out.b.output, HC1.out.b.size, HC1.out.b.block⟩ | skip); rintro e w6 ⟨⟨v6, rfl⟩, l6, o6⟩))
            all_goals gi_wp2
            all_goals
              go_roundw
              case rel => exact ⟨k + 1, by omega, by go_num, by show LAt _ _ _; rw [HS.out, HZ.out]; exact l6, hon.trans (HO1.out.trans ⟨o6.os, o6.tape, o6.output, o6.size, o6.block⟩)⟩
              case measure => simp [intOf]; omega
          · have hcz : (c + 1 == 1) = false := by simp; omega
            have HZ : Hid (stepC L lk j = inc lk j) := by
              show _ = _
              unfold stepC
              rw [if_neg h0, Int.toNat_natCast, hinc, if_neg (by omega)]
            clear hc hc0 h0 hE hcb hok hsl ct hinc hbd
            gi_wp2
            go_roundw
            case rel => exact ⟨k + 1, by omega, by go_num, by show LAt _ _ _; rw [HS.out, HZ.out]; exact HL1.out, hon.trans HO1.out⟩
            case measure => simp [intOf]; omega
      · have e4 : k = xn := by omega
        subst e4
        have HE : Hid (CI w sn w1.heap.size (.cells #[.int .i64 gm, .slice ra rn rc, .slice (some ⟨sb, so, none⟩) sn sc, .slice fa fn fc, .slice na nn nc] 44) (goneC L (pre ++ [x])) wr) := HI.out.only hon (by
          have := HLk.out
          rw [List.take_of_length_le (by rw [HR.out]; exact Nat.le_refl _)] at this
          rw [goneC_snoc]
          exact this) hmlt
        have HK : Hid (KeepsFrom W0.heap.size W wr ∧ KpR w.heap.size (w1.heap.size + 1 + 1) W wr) := ⟨hon.keepsFrom HI.out.l, hon.below (by omega), hon.block _ (by omega)⟩
        gi_wp2
        exact ⟨HK.out.1, HK.out.2, HE.out⟩
end Go.Proofs.Ytehleeibgkpjmab
