/- What the counts are, told by a formula: how often a slot is told by Roots, and by the tables that Roots tell. -/
import Derived.Test.YtehleeibgkpjmabTCheck
namespace Go.Proofs.Ytehleeibgkpjmab
open Go.RowKit Go.Shelf
set_option maxRecDepth 20000

def kd (L : List SlotD) (k : Nat) : Int := (L.getD k default).1
def toldT (L : List SlotD) (P : List Int) (i : Int) (k : Nat) : Nat := if kd L k = 2 ∧ (k : Int) ∈ P then (tabOf L k).count i else 0
def sumT (L : List SlotD) (P : List Int) (i : Int) : Nat := ((List.range L.length).map (toldT L P i)).sum
def cntI (L : List SlotD) (P : List Int) (i : Nat) : Int := if i = 0 then 0 else ((P.count (i : Int) + sumT L P i : Nat) : Int)

theorem sum_one {f g : Nat → Nat} {k d : Nat} : ∀ n, k < n → g k = f k + d → (∀ j, j ≠ k → g j = f j) → ((List.range n).map g).sum = ((List.range n).map f).sum + d
  | 0, h, _, _ => absurd h (by omega)
  | n + 1, h, hk, ho => by
    rw [List.range_succ, List.map_append, List.map_append, List.sum_append, List.sum_append]
    by_cases e : k = n
    · subst e
      have : (List.range k).map g = (List.range k).map f := List.map_congr_left fun j hj => ho j (by have := List.mem_range.1 hj; omega)
      rw [this]; simp [hk]; omega
    · rw [sum_one n (by omega) hk ho]
      simp [ho n (fun x => e x.symm)]; omega
theorem sum_same {f g : Nat → Nat} (n : Nat) (h : ∀ j, j < n → g j = f j) : ((List.range n).map g).sum = ((List.range n).map f).sum := by
  rw [List.map_congr_left fun j hj => h j (List.mem_range.1 hj)]

theorem inc_get (l : List Int) (k : Int) (j : Nat) (hj : j < l.length) : (inc l k).getD j 0 = l.getD j 0 + if k.toNat = j then 1 else 0 := by
  unfold inc
  rw [getD_set]
  by_cases e : k.toNat = j
  · subst e; rw [if_pos ⟨rfl, hj⟩, if_pos rfl]
  · rw [if_neg (fun h => e h.1), if_neg e]; simp
theorem pagesC_get (i : Nat) (hi : 1 ≤ i) : ∀ (t l : List Int), i < l.length → (∀ e ∈ t, e = 0 ∨ e = -1 ∨ 1 ≤ e) → (pagesC l t).getD i 0 = l.getD i 0 + (t.count (i : Int) : Nat)
  | [], l, _, _ => by simp [pagesC]
  | e :: t, l, hl, ht => by
    have : pagesC l (e :: t) = pagesC (incE l e) t := rfl
    rw [this, pagesC_get i hi t (incE l e) (by rw [incE_length]; exact hl) (fun x hx => ht x (List.mem_cons_of_mem _ hx)), List.count_cons]
    unfold incE
    rcases ht e List.mem_cons_self with h | h | h
    · rw [if_pos (.inl h), if_neg (by simp; omega)]; omega
    · rw [if_pos (.inr h), if_neg (by simp; omega)]; omega
    · rw [if_neg (by omega), inc_get l e i hl]
      by_cases g : e = i
      · rw [if_pos (by omega), if_pos (by simpa using g)]; omega
      · rw [if_neg (by omega), if_neg (by simpa using g)]; omega
theorem pagesC_get0 : ∀ (t l : List Int), (∀ e ∈ t, e = 0 ∨ e = -1 ∨ 1 ≤ e) → (pagesC l t).getD 0 0 = l.getD 0 0
  | [], l, _ => by simp [pagesC]
  | e :: t, l, ht => by
    have : pagesC l (e :: t) = pagesC (incE l e) t := rfl
    rw [this, pagesC_get0 t (incE l e) (fun x hx => ht x (List.mem_cons_of_mem _ hx))]
    unfold incE
    rcases ht e List.mem_cons_self with h | h | h
    · rw [if_pos (.inl h)]
    · rw [if_pos (.inr h)]
    · rw [if_neg (by omega)]
      unfold inc
      rw [getD_set, if_neg (by omega)]

/-- What right slots and right tables say of a table's entries, and of a Root's. -/
theorem slot0 {L : List SlotD} (h : slotsE L = 0) : kd L 0 = 0 := by
  have hp := slotsE_parts h
  unfold slotsE at h
  rw [if_pos hp] at h
  split at h
  · rename_i g
    have := g.2
    cases L with
    | nil => simp at hp
    | cons a t => simpa [kd] using this
  · simp at h
theorem rootE_cases {L : List SlotD} {k : Int} (h : rootE L k = true) : k = 0 ∨ ∃ j : Nat, k = j ∧ j < L.length ∧ kd L j = 2 := by
  by_cases e : k = 0
  · exact .inl e
  · rw [rootE_x e] at h
    obtain ⟨j, rfl, hj, hk⟩ := isKd_yes h
    exact .inr ⟨j, rfl, hj, by unfold kd; simp [List.getD, hj, hk]⟩
theorem tabE_cases {L : List SlotD} {k : Int} (h : tabE L k = true) : k = 0 ∨ k = -1 ∨ ∃ j : Nat, k = j ∧ j < L.length ∧ kd L j = 1 := by
  by_cases e : k = 0
  · exact .inl e
  by_cases e1 : k = -1
  · exact .inr (.inl e1)
  · rw [tabE_x e e1] at h
    obtain ⟨j, rfl, hj, hk⟩ := isKd_yes h
    exact .inr (.inr ⟨j, rfl, hj, by unfold kd; simp [List.getD, hj, hk]⟩)
theorem tab_all {L : List SlotD} (h : tabFit L = true) (k : Int) : (tabOf L k).all (tabE L) = true := by
  unfold tabOf
  by_cases hk : k.toNat < L.length
  · unfold tabFit at h
    rw [List.all_eq_true] at h
    have := h _ (List.getElem_mem hk)
    simpa [List.getD, hk] using this
  · have : L.getD k.toNat default = default := by simp [List.getD, hk]
    rw [this]; rfl
theorem tab_ent {L : List SlotD} (h : tabFit L = true) (k : Int) {e : Int} (he : e ∈ tabOf L k) : e = 0 ∨ e = -1 ∨ ∃ j : Nat, e = j ∧ j < L.length ∧ kd L j = 1 :=
  tabE_cases (List.all_eq_true.1 (tab_all h k) e he)
theorem tab_ent' {L : List SlotD} (hs : slotsE L = 0) (h : tabFit L = true) (k : Int) : ∀ e ∈ tabOf L k, e = 0 ∨ e = -1 ∨ 1 ≤ e := fun e he => by
  rcases tab_ent h k he with h | h | ⟨j, rfl, _, h1⟩
  · exact .inl h
  · exact .inr (.inl h)
  · refine .inr (.inr ?_)
    rcases Nat.eq_zero_or_pos j with e | e
    · subst e; rw [slot0 hs] at h1; simp at h1
    · omega
theorem tab_no {L : List SlotD} (h : tabFit L = true) (k : Int) {i : Nat} (hi : 1 ≤ i) (hk : kd L i ≠ 1) : (tabOf L k).count (i : Int) = 0 := by
  rw [List.count_eq_zero]
  intro he
  rcases tab_ent h k he with h | h | ⟨j, e, _, h1⟩
  · omega
  · omega
  · have : i = j := by omega
    subst this; exact hk h1
theorem sumT_no {L : List SlotD} (h : tabFit L = true) (P : List Int) {i : Nat} (hi : 1 ≤ i) (hk : kd L i ≠ 1) : sumT L P i = 0 := by
  unfold sumT
  have : (List.range L.length).map (toldT L P i) = (List.range L.length).map (fun _ => 0) := List.map_congr_left fun j _ => by
    unfold toldT
    split
    · exact tab_no h j hi hk
    · rfl
  rw [this]
  generalize L.length = n
  induction n with
  | zero => rfl
  | succ n ih => rw [List.range_succ, List.map_append, List.sum_append, ih]; rfl
theorem root_no {L : List SlotD} {P : List Int} (h : ∀ k ∈ P, rootE L k = true) {i : Nat} (hi : 1 ≤ i) (hk : kd L i ≠ 2) : P.count (i : Int) = 0 := by
  rw [List.count_eq_zero]
  intro he
  rcases rootE_cases (h _ he) with h | ⟨j, e, _, h1⟩
  · omega
  · have : i = j := by omega
    subst this; exact hk h1

theorem cnt_step {L : List SlotD} (hs : slotsE L = 0) (ht : tabFit L = true) {P l : List Int} {k : Int} (hk : rootE L k = true) (hl : l.length = L.length) (h : ∀ i, i < L.length → l.getD i 0 = cntI L P i) :
    ∀ i, i < L.length → (stepC L l k).getD i 0 = cntI L (P ++ [k]) i := by
  intro i hi
  unfold stepC
  rcases rootE_cases hk with rfl | ⟨j, rfl, hj, hj2⟩
  · rw [if_pos rfl, h i hi]
    unfold cntI
    by_cases i0 : i = 0
    · rw [if_pos i0, if_pos i0]
    rw [if_neg i0, if_neg i0]
    have e1 : sumT L (P ++ [0]) i = sumT L P i := sum_same _ fun q _ => by
      unfold toldT
      by_cases q0 : q = 0
      · subst q0; rw [if_neg (by rw [slot0 hs]; simp), if_neg (by rw [slot0 hs]; simp)]
      · have : ((q : Int) ∈ P ++ [0]) ↔ (q : Int) ∈ P := by simp; omega
        simp only [this]
    rw [e1, List.count_append]
    have : List.count (i : Int) [0] = 0 := by rw [List.count_eq_zero]; simp; omega
    rw [this]; simp
  · have j0 : j ≠ 0 := fun e => by subst e; rw [slot0 hs] at hj2; simp at hj2
    rw [if_neg (by omega)]
    have hjj : (inc l (j : Int)).getD (j : Int).toNat 0 = ((P.count (j : Int) : Nat) : Int) + 1 := by
      rw [Int.toNat_natCast, inc_get l j j (by omega), h j hj, if_pos (by simp)]
      unfold cntI
      rw [if_neg j0, sumT_no ht P (by omega) (by rw [hj2]; decide)]
      omega
    rw [hjj]
    by_cases hP : (j : Int) ∈ P
    · have : 0 < P.count (j : Int) := List.count_pos_iff.2 hP
      rw [if_neg (by omega), inc_get l j i (by omega), h i hi]
      unfold cntI
      by_cases i0 : i = 0
      · subst i0; rw [if_pos rfl, if_pos rfl, if_neg (by simp; omega)]; rfl
      rw [if_neg i0, if_neg i0]
      have e1 : sumT L (P ++ [(j : Int)]) i = sumT L P i := sum_same _ fun q _ => by
        unfold toldT
        have : ((q : Int) ∈ P ++ [(j : Int)]) ↔ (q : Int) ∈ P := by
          simp only [List.mem_append, List.mem_singleton]
          exact ⟨fun x => x.elim id (fun e => e ▸ hP), .inl⟩
        simp only [this]
      rw [e1, List.count_append, List.count_singleton]
      by_cases e : j = i
      · subst e; simp; omega
      · rw [if_neg (by simp; omega), if_neg (by simp; omega)]; simp
    · have c0 : P.count (j : Int) = 0 := List.count_eq_zero.2 hP
      rw [if_pos (by omega)]
      unfold cntI
      by_cases i0 : i = 0
      · subst i0
        rw [if_pos rfl, pagesC_get0 _ _ (tab_ent' hs ht j), inc_get l j 0 (by omega), h 0 hi, if_neg (by simp; omega)]; rfl
      rw [if_neg i0, pagesC_get i (by omega) _ _ (by rw [inc_length, hl]; exact hi) (tab_ent' hs ht j), inc_get l j i (by omega), h i hi]
      unfold cntI
      rw [if_neg i0]
      have e1 : sumT L (P ++ [(j : Int)]) i = sumT L P i + (tabOf L j).count (i : Int) := by
        unfold sumT
        refine sum_one (k := j) _ hj ?_ ?_
        · unfold toldT
          rw [if_pos ⟨hj2, by simp⟩, if_neg (fun x => hP x.2)]; omega
        · intro q hq
          unfold toldT
          have : ((q : Int) ∈ P ++ [(j : Int)]) ↔ (q : Int) ∈ P := by
            simp only [List.mem_append, List.mem_singleton]
            exact ⟨fun x => x.elim id (fun e => absurd (by omega) hq), .inl⟩
          simp only [this]
      rw [e1, List.count_append, List.count_singleton]
      by_cases e : j = i
      · subst e; simp; omega
      · rw [if_neg (by simp; omega), if_neg (by simp; omega)]; omega

theorem cnt_fold {L : List SlotD} (hs : slotsE L = 0) (ht : tabFit L = true) : ∀ (Q P l : List Int), (∀ k ∈ Q, rootE L k = true) → l.length = L.length → (∀ i, i < L.length → l.getD i 0 = cntI L P i) →
    ∀ i, i < L.length → (Q.foldl (stepC L) l).getD i 0 = cntI L (P ++ Q) i
  | [], P, l, _, _, h, i, hi => by simpa using h i hi
  | k :: Q, P, l, hQ, hl, h, i, hi => by
    have := cnt_fold hs ht Q (P ++ [k]) (stepC L l k) (fun x hx => hQ x (List.mem_cons_of_mem _ hx)) (by rw [stepC_length, hl]) (cnt_step hs ht (hQ k List.mem_cons_self) hl h) i hi
    rw [List.foldl_cons, this, List.append_assoc]; rfl

/-- All Roots' entries. -/
def flatR (m : ImgD) : List Int := (rootsOf m).flatMap (fun s => s.2.2)
theorem flatR_root {m : ImgD} (h : shapeE m = 0) : ∀ k ∈ flatR m, rootE m.slots k = true := by
  intro k hk
  obtain ⟨z1, z2, z3, z4, z5, z6, z7⟩ := shapeE_zero h
  unfold flatR at hk
  rw [List.mem_flatMap] at hk
  obtain ⟨s, hs, hks⟩ := hk
  have := List.all_eq_true.1 z7 s hs
  unfold rootFit at this
  simp only [Bool.and_eq_true] at this
  exact List.all_eq_true.1 this.2.1 k hks
theorem cntL_get {m : ImgD} (h : shapeE m = 0) (i : Nat) (hi : i < m.slots.length) : (cntL m).getD i 0 = cntI m.slots (flatR m) i := by
  obtain ⟨z1, z2, z3, z4, z5, z6, z7⟩ := shapeE_zero h
  have := cnt_fold z2 z6 (flatR m) [] (List.replicate m.slots.length 0) (flatR_root h) (by simp) (fun i hi => ?_) i hi
  · simpa [cntL, flatR] using this
  · have e : (List.replicate m.slots.length (0 : Int)).getD i 0 = 0 := by simp [List.getD, hi]
    rw [e]
    unfold cntI
    split
    · rfl
    · have : sumT m.slots [] i = 0 := by
        have e : sumT m.slots [] i = ((List.range m.slots.length).map (fun _ => 0)).sum := sum_same _ fun q _ => by unfold toldT; rw [if_neg (by simp)]
        rw [e]
        generalize m.slots.length = n
        induction n with
        | zero => rfl
        | succ n ih => rw [List.range_succ, List.map_append, List.sum_append, ih]; rfl
      rw [this]; rfl
end Go.Proofs.Ytehleeibgkpjmab
