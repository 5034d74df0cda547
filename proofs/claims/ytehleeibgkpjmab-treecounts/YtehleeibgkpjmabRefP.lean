/- What the document's ShapeOf and rootFine answer is what Shape answers: plain lists. -/
import Derived.Test.YtehleeibgkpjmabRefB
import Derived.Test.YtehleeibgkpjmabCntF
namespace Go.Proofs.Ytehleeibgkpjmab
open Go.RowKit Go.Shelf
set_option maxRecDepth 20000

theorem kindN_kd {L : List SlotD} {k kind : Int} (h : k ≠ 0) (hk : 0 ≤ kind) : (kindN L k == kind) = isKd L k kind := by
  unfold kindN isKd
  by_cases h1 : 1 ≤ k ∧ k < L.length
  · rw [if_pos h1, decide_eq_true (by omega)]; rfl
  · rw [if_neg h1, decide_eq_false (by omega)]
    simp; omega
def fineAt (L : List SlotD) (g : Int) (r : List Int) (k : Nat) : Bool :=
  r.getD k 0 == 0 || (kindN L (r.getD k 0) == 2 && (List.range 4).all (fun i => decide (((k * 4 + i : Nat) : Int) < g) || (tabOf L (r.getD k 0)).getD i 0 == 0))
def fineR (L : List SlotD) (g : Int) (r : List Int) : Bool := decide ((r.length : Int) = (g + 3) / 4) && (List.range r.length).all (fineAt L g r)

theorem tab_len {L : List SlotD} (hs : slotsE L = 0) {k : Int} (h : isKd L k 2 = true) : (tabOf L k).length = 4 := by
  obtain ⟨j, rfl, hj, hk⟩ := isKd_yes h
  have := okD_tab (slotsE_all hs hj) hk
  unfold tabOf
  simpa [List.getD, hj] using this.1

theorem fineR_eq {L : List SlotD} {g : Int} {r : List Int} (hs : slotsE L = 0) (hg : guestOK g = true) : fineR L g r = rootFit L g r := by
  unfold guestOK at hg
  simp only [decide_eq_true_eq] at hg
  unfold fineR rootFit
  by_cases hl0 : ¬ ((r.length : Int) = (g + 3) / 4)
  · rw [decide_eq_false hl0]; rfl
  have hl : (r.length : Int) = (g + 3) / 4 := Classical.not_not.1 hl0
  rw [decide_eq_true hl, Bool.true_and, Bool.true_and, Bool.eq_iff_iff]
  simp only [List.all_eq_true, Bool.and_eq_true, List.mem_range]
  constructor
  · intro h
    refine ⟨fun x hx => ?_, ?_⟩
    · obtain ⟨j, hj, rfl⟩ := List.getElem_of_mem hx
      have := h j hj
      unfold fineAt at this
      have e : r.getD j 0 = r[j] := by simp [List.getD, hj]
      rw [e] at this
      by_cases e0 : r[j] = 0
      · rw [e0]; rfl
      · rw [rootE_x e0]
        rw [← kindN_kd e0 (by decide)]
        simp [e0] at this
        simpa using this.1
    · unfold lastFit
      by_cases g4 : g % 4 = 0
      · simp [g4]
      · have hlt : r.length - 1 < r.length := by omega
        have := h _ hlt
        unfold fineAt at this
        generalize r.getD (r.length - 1) 0 = x at this ⊢
        by_cases e0 : x = 0
        · simp [e0]
        · have hb : (x == 0) = false := by simpa using e0
          rw [hb, Bool.false_or] at this ⊢
          simp only [Bool.and_eq_true, List.all_eq_true, List.mem_range] at this
          have hk : isKd L x 2 = true := by rw [← kindN_kd e0 (by decide)]; exact this.1
          have h4 := tab_len hs hk
          simp only [Bool.or_eq_true, List.all_eq_true]
          refine .inr fun y hy => ?_
          obtain ⟨j, hj, rfl⟩ := List.getElem_of_mem hy
          rw [List.getElem_drop]
          simp at hj
          have := this.2 ((g % 4).toNat + j) (by omega)
          rw [decide_eq_false (by omega)] at this
          simpa [List.getD, show (g % 4).toNat + j < (tabOf L x).length by omega] using this
  · intro ⟨h1, h2⟩ k hk
    unfold fineAt
    have e : r.getD k 0 = r[k] := by simp [List.getD, hk]
    have hE := h1 _ (List.getElem_mem hk)
    rw [← e] at hE
    unfold lastFit at h2
    by_cases hlast : k = r.length - 1
    · rw [← hlast] at h2
      generalize r.getD k 0 = x at hE h2 ⊢
      by_cases e0 : x = 0
      · simp [e0]
      have hb : (x == 0) = false := by simpa using e0
      rw [rootE_x e0] at hE
      rw [hb, Bool.false_or, kindN_kd e0 (by decide), hE, Bool.true_and, List.all_eq_true]
      rw [hb, Bool.false_or] at h2
      have h4 := tab_len hs hE
      intro i hi
      have hi := List.mem_range.1 hi
      by_cases hlt : ((k * 4 + i : Nat) : Int) < g
      · rw [decide_eq_true hlt]; rfl
      · rw [decide_eq_false hlt, Bool.false_or]
        have g4 : g % 4 ≠ 0 := by omega
        have hg4 : (g % 4 == 0) = false := by simpa using g4
        rw [hg4, Bool.false_or, List.all_eq_true] at h2
        have hm : (tabOf L x).getD i 0 ∈ (tabOf L x).drop (g % 4).toNat := by
          have : i < (tabOf L x).length := by omega
          rw [List.mem_iff_getElem]
          refine ⟨i - (g % 4).toNat, by simp; omega, ?_⟩
          rw [List.getElem_drop]
          simp only [List.getD, List.getElem?_eq_getElem this, Option.getD_some]
          congr 1; omega
        exact h2 _ hm
    · by_cases e0 : r.getD k 0 = 0
      · rw [e0]; rfl
      have hb : (r.getD k 0 == 0) = false := by simpa using e0
      rw [rootE_x e0] at hE
      rw [hb, Bool.false_or, kindN_kd e0 (by decide), hE, Bool.true_and, List.all_eq_true]
      intro i hi
      have hi := List.mem_range.1 hi
      rw [decide_eq_true (by omega)]; rfl

/-- An entry as the document asks of it. -/
def entP (L : List SlotD) (e : Int) : Bool := !(decide (0 < e) && kindN L e != 1)
theorem entP_eq {L : List SlotD} {e : Int} (h : isE e = true) : entP L e = tabE L e := by
  rw [isE_iff] at h
  unfold entP
  rcases h with rfl | rfl | h
  · rfl
  · rfl
  · rw [tabE_x (by omega) (by omega), decide_eq_true (by omega), Bool.true_and, bne, Bool.not_not, kindN_kd (by omega) (by decide)]
theorem okD_ents {s : SlotD} (h : okD s = true) : ∀ e ∈ s.2.2, isE e = true := by
  unfold okD slotOK at h
  split at h
  · simp at h; rw [h.2]; intro e he; cases he
  split at h
  · simp at h; rw [h.2]; intro e he; cases he
  split at h
  · simp at h; exact List.all_eq_true.1 (ckE_all h.1)
  · cases h
theorem tabsP_eq {L : List SlotD} (hs : slotsE L = 0) : L.all (fun s => s.2.2.all (entP L)) = tabFit L := by
  unfold tabFit
  rw [Bool.eq_iff_iff, List.all_eq_true, List.all_eq_true]
  have : ∀ s ∈ L, s.2.2.all (entP L) = s.2.2.all (tabE L) := fun s hm => by
    have hE : ∀ e ∈ s.2.2, isE e = true := by
      obtain ⟨j, hj, rfl⟩ := List.getElem_of_mem hm
      exact okD_ents (slotsE_all hs hj)
    rw [Bool.eq_iff_iff, List.all_eq_true, List.all_eq_true]
    exact ⟨fun h e he => by rw [← entP_eq (hE e he)]; exact h e he, fun h e he => by rw [entP_eq (hE e he)]; exact h e he⟩
  exact ⟨fun h s hm => by rw [← this s hm]; exact h s hm, fun h s hm => by rw [this s hm]; exact h s hm⟩
end Go.Proofs.Ytehleeibgkpjmab
