/- What a right image says. -/
import Derived.Test.YtehleeibgkpjmabRefE
import Derived.Test.YtehleeibgkpjmabTLook
import Derived.Test.YtehleeibgkpjmabZ4
namespace Go.Proofs.Ytehleeibgkpjmab
open Go.RowKit Go.Shelf
set_option maxRecDepth 20000

/-! ### What a right image says -/
theorem checkE_zero {m : ImgD} (h : checkE m = 0) : shapeE m = 0 ∧ cntL m = m.refs ∧ ∀ j, j < m.slots.length → freeAt m j = true := by
  have hs := checkE_shape h
  unfold checkE at h
  rw [if_neg (by simpa using hs)] at h
  split at h
  · simp at h
  · rename_i hc
    split at h
    · rename_i ha
      exact ⟨hs, Classical.not_not.1 hc, fun j hj => List.all_eq_true.1 ha j (by simpa using hj)⟩
    · simp at h
def tabsN (L : List SlotD) (k : Nat) : Nat := ((List.range k).map (fun j => if kd L j = 2 then 1 else 0)).sum
theorem tabsN_succ (L : List SlotD) (k : Nat) : tabsN L (k + 1) = tabsN L k + if kd L k = 2 then 1 else 0 := by
  unfold tabsN; rw [List.range_succ, List.map_append, List.sum_append]; simp
theorem tabsN_le (L : List SlotD) : ∀ k, tabsN L k ≤ k
  | 0 => Nat.le_refl _
  | k + 1 => by rw [tabsN_succ]; have := tabsN_le L k; split <;> omega
theorem sT_tabs {L : List SlotD} (h : slotsE L = 0) (P : List Int) (n : Nat) : ∀ k, sT L P n k ≤ tabsN L k * 4
  | 0 => Nat.le_refl _
  | k + 1 => by
    rw [sT_succ, tabsN_succ]
    have := sT_tabs h P n k
    unfold toldT
    by_cases hk : kd L k = 2
    · rw [if_pos hk]
      have : (tabOf L k).count (n : Int) ≤ 4 := Nat.le_trans List.count_le_length (tab4 h k)
      split <;> omega
    · rw [if_neg hk, if_neg (fun x => hk x.1)]; omega
theorem cnt_data {m : ImgD} (h : shapeE m = 0) {j : Nat} (hj : j < m.slots.length) (hk : kd m.slots j = 1) : (cntL m).getD j 0 ≤ (tabsN m.slots m.slots.length : Int) * 4 := by
  rw [cntL_get h j hj]
  obtain ⟨z1, z2, z3, z4, z5, z6, z7⟩ := shapeE_zero h
  have j1 : 1 ≤ j := by
    rcases Nat.eq_zero_or_pos j with e | e
    · subst e; rw [slot0 z2] at hk; simp at hk
    · exact e
  unfold cntI
  rw [if_neg (by omega), root_no (flatR_root h) j1 (by rw [hk]; decide)]
  have : sumT m.slots (flatR m) j ≤ tabsN m.slots m.slots.length * 4 := sT_tabs z2 (flatR m) j m.slots.length
  omega
theorem cnt_nonneg (m : ImgD) (h : shapeE m = 0) (j : Nat) (hj : j < m.slots.length) : 0 ≤ (cntL m).getD j 0 := by
  rw [cntL_get h j hj]; unfold cntI; split <;> omega
theorem cnt_le {m : ImgD} (h : shapeE m = 0) (j : Nat) (hj : j < m.slots.length) : (cntL m).getD j 0 ≤ 1000 := by
  rw [cntL_get h j hj]
  obtain ⟨z1, z2, z3, z4, z5, z6, z7⟩ := shapeE_zero h
  have hp := slotsE_parts z2
  unfold cntI
  split
  · decide
  · have h1 : sumT m.slots (flatR m) j ≤ 4 * m.slots.length := sT_le z2 (flatR m) j m.slots.length
    have h2 : (flatR m).count (j : Int) ≤ (flatR m).length := List.count_le_length
    have h3 : (flatR m).length ≤ 4 * (rootsOf m).length := by
      unfold flatR
      have hr := roots4 h
      generalize rootsOf m = R at hr
      clear z1 z2 z3 z4 z5 z6 z7 h1 h2
      induction R with
      | nil => simp
      | cons a R ih =>
        rw [List.flatMap_cons, List.length_append]
        have h1 := hr a List.mem_cons_self
        have h2 := ih (fun s hs => hr s (List.mem_cons_of_mem _ hs))
        rw [List.length_cons]; omega
    have h4 : (rootsOf m).length ≤ 4 := by unfold rootsOf; simp; omega
    omega
theorem getD_at {l : List Int} {j : Nat} (h : j < l.length) : l.getD j 0 = l[j] := by simp [List.getD, h]
theorem guest_ok {m : ImgD} (h : shapeE m = 0) : 0 ≤ m.guest ∧ m.guest ≤ 16 := by
  have := List.all_eq_true.1 (shapeE_zero h).2.2.2.2.1 (⟨#[]⟩, m.guest, m.root) List.mem_cons_self
  unfold guestOK at this
  simpa using this
theorem root_ok {m : ImgD} (h : shapeE m = 0) : (m.root.length : Int) = (m.guest + 3) / 4 ∧ m.root.all (rootE m.slots) = true := by
  have := List.all_eq_true.1 (shapeE_zero h).2.2.2.2.2.2 (⟨#[]⟩, m.guest, m.root) List.mem_cons_self
  unfold rootFit at this
  simp only [Bool.and_eq_true, decide_eq_true_eq] at this
  exact ⟨this.1, this.2.1⟩
/-- An entry that is looked at. -/
theorem lookV_ent {m : ImgD} (h : shapeE m = 0) {root : List Int} (hall : root.all (rootE m.slots) = true) (n : Nat) (hl : n / 4 < root.length) : lookV m root n = 0 ∨ lookV m root n = -1 ∨ ∃ j : Nat, lookV m root n = j ∧ 1 ≤ j ∧ j < m.slots.length ∧ kd m.slots j = 1 := by
  obtain ⟨z1, z2, z3, z4, z5, z6, z7⟩ := shapeE_zero h
  unfold lookV
  by_cases hz : root.getD (n / 4) 0 = 0
  · rw [if_pos hz]; exact .inl rfl
  rw [if_neg hz]
  have hE2 := all_at hall hl
  rw [rootE_x hz] at hE2
  have h4 := tab_len z2 hE2
  have hm : n % 4 < (tabOf m.slots (root.getD (n / 4) 0)).length := by omega
  have e : (tabOf m.slots (root.getD (n / 4) 0)).getD (n % 4) 0 = (tabOf m.slots (root.getD (n / 4) 0))[n % 4] := getD_at hm
  rw [e]
  rcases tab_ent z6 _ (List.getElem_mem hm) with g | g | ⟨j, g1, g2, g3⟩
  · exact .inl g
  · exact .inr (.inl g)
  · refine .inr (.inr ⟨j, g1, ?_, g2, g3⟩)
    rcases Nat.eq_zero_or_pos j with e | e
    · subst e; rw [slot0 z2] at g3; simp at g3
    · exact e

theorem lookE_of {m : ImgD} (hC : checkE m = 0) {k : Nat} (hk : (k : Int) < m.guest) : lookE m k = 0 := by
  unfold lookE; rw [if_neg (by simpa using hC), if_pos ⟨by omega, hk⟩]
theorem int_bounds {n : Int} (h : (Lit.int .i64 n).wf = true) : -9223372036854775808 ≤ n ∧ n ≤ 9223372036854775807 := by
  simp only [Lit.wf, Bool.and_eq_true, decide_eq_true_eq] at h
  exact h

/-- The page of an entry; all pages of a Root. -/
def pageV (L : List SlotD) (e : Int) : ByteArray := if e ≤ 0 then Z4 else (L.getD e.toNat default).2.1
def allP (m : ImgD) (root : List Int) (g : Nat) : List ByteArray := (List.range g).map (fun n => pageV m.slots (lookV m root n))
def readV (m : ImgD) (n : Int) : ByteArray := if lookE m n = 0 then pageV m.slots (lookV m m.root n.toNat) else ByteArray.empty
def allV (m : ImgD) : List ByteArray := if checkE m = 0 then allP m m.root m.guest.toNat else []
def ixOf (o : Option Nat) : Int := match o with | some k => (k : Int) | none => -1
def snapIx (S : List SnapD) (nm : ByteArray) : Option Nat := S.findIdx? (fun s => s.1.toList == nm.toList)
def pastE (m : ImgD) (nm : ByteArray) : Int := if checkE m ≠ 0 then checkE m else match snapIx m.snaps nm with | some _ => 0 | none => 5
def pastV (m : ImgD) (nm : ByteArray) : List ByteArray := if checkE m ≠ 0 then [] else match snapIx m.snaps nm with | some k => allP m (m.snaps.getD k default).2.2 (m.snaps.getD k default).2.1.toNat | none => []

theorem snapIx_some {S : List SnapD} {nm : ByteArray} {k : Nat} (h : snapIx S nm = some k) : k < S.length := by
  unfold snapIx at h
  rw [List.findIdx?_eq_some_iff_getElem] at h
  exact h.1
end Go.Proofs.Ytehleeibgkpjmab
