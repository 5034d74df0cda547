/- The plain notions of entries: what a right entry is, what Check, Bare, With and Cut answer, over lists of integers; and what it means that a slice value holds such a list in a world. -/
import Derived.WalkKit
namespace Go.Proofs.Ytjdccigmfainjab
open Go.RowKit

/-- May it be an entry? -/
def isE (e : Int) : Bool := e == 0 || (e == -1 || (decide (1 ≤ e) && decide (e < 40)))
/-- Check's answer. -/
def ckE (xs : List Int) : Int := if xs.length = 4 ∧ xs.all isE = true then 0 else 1
/-- Bare's answer, of whatever entries. -/
def bareL (xs : List Int) : Bool := xs.all (fun x => x == 0)
def bareE (xs : List Int) : Bool := if ckE xs = 0 then bareL xs else false
/-- With's error, With's list. -/
def withE (xs : List Int) (k e : Int) : Int := if ckE xs = 0 then (if 0 ≤ k ∧ k < 4 then (if isE e = true then 0 else 1) else 3) else 1
def withL (xs : List Int) (k e : Int) : List Int := if withE xs k e = 0 then xs.set k.toNat e else []
/-- Cut's error, Cut's list. -/
def cutE (xs : List Int) (n : Int) : Int := if ckE xs = 0 then (if 0 ≤ n ∧ n ≤ 4 then 0 else 3) else 1
def cutR (xs : List Int) (n : Nat) : List Int := xs.take n ++ List.replicate (4 - n) 0
def cutL (xs : List Int) (n : Int) : List Int := if cutE xs n = 0 then cutR xs n.toNat else []

/-- The slice value v holds the integers xs in the world w. -/
def Sl (w : World) (v : Value) (xs : List Int) : Prop :=
  ∃ ao cap, v = .slice ao xs.length cap ∧ xs.length ≤ maxLen ∧ xs.length ≤ cap ∧ (xs ≠ [] → ∃ b off, ao = some ⟨b, off, none⟩ ∧ b < w.heap.size ∧ ∀ j, j < xs.length → w.cell? ⟨b, off + j, none⟩ = some (.int .i64 (xs.getD j 0)))

theorem Sl.below {w w1 : World} {v : Value} {xs : List Int} (h : Sl w v xs) (hb : Below w.heap.size w w1) : Sl w1 v xs := by
  obtain ⟨ao, cap, hv, hm, hcp, hc⟩ := h
  refine ⟨ao, cap, hv, hm, hcp, fun hne => ?_⟩
  obtain ⟨b, off, ha, hlt, hcell⟩ := hc hne
  exact ⟨b, off, ha, Nat.lt_of_lt_of_le hlt hb.size, fun j hj => (hb.cell (p := ⟨b, off + j, none⟩) hlt).trans (hcell j hj)⟩

/-- From one world on to the next, and on. -/
theorem Below.on {w w1 w2 : World} (h : Below w.heap.size w w1) (k : Below w1.heap.size w1 w2) : Below w.heap.size w w2 := h.trans (k.mono h.size)

theorem Sl.nil (w : World) : Sl w (.slice none 0 0) [] := ⟨none, 0, rfl, Nat.zero_le _, Nat.zero_le _, fun h => absurd rfl h⟩

theorem ckE_yes {xs : List Int} (h4 : xs.length = 4) (h : xs.all isE = true) : ckE xs = 0 := by unfold ckE; rw [if_pos ⟨h4, h⟩]
theorem ckE_no {xs : List Int} (h : ¬ (xs.length = 4 ∧ xs.all isE = true)) : ckE xs = 1 := by unfold ckE; rw [if_neg h]
theorem ckE_len {xs : List Int} (h : ckE xs = 0) : xs.length = 4 := by
  unfold ckE at h; split at h
  · rename_i g; exact g.1
  · simp at h
theorem ckE_all {xs : List Int} (h : ckE xs = 0) : xs.all isE = true := by
  unfold ckE at h; split at h
  · rename_i g; exact g.2
  · simp at h
theorem ckE_01 (xs : List Int) : ckE xs = 0 ∨ ckE xs = 1 := by unfold ckE; split <;> simp

/-- The first k of them fit. -/
theorem all_of_upto {p : Int → Bool} {xs : List Int} (h : ∀ j, j < xs.length → p (xs.getD j 0) = true) : xs.all p = true := by
  rw [List.all_eq_true]
  intro x hx
  obtain ⟨j, hj, rfl⟩ := List.getElem_of_mem hx
  have := h j hj
  simpa [List.getD, hj] using this
theorem not_all_of {p : Int → Bool} {xs : List Int} {j : Nat} (hj : j < xs.length) (h : p (xs.getD j 0) = false) : xs.all p = false := by
  cases e : xs.all p with
  | false => rfl
  | true =>
    rw [List.all_eq_true] at e
    have := e _ (List.getElem_mem hj)
    simp [List.getD, hj] at h
    rw [h] at this; cases this
theorem upto_step {p : Int → Bool} {xs : List Int} {k : Nat} {x : Int} (h : ∀ j, j < k → p (xs.getD j 0) = true) (hx : xs.getD k 0 = x) (hp : p x = true) : ∀ j, j < k + 1 → p (xs.getD j 0) = true := by
  intro j hj
  by_cases e : j = k
  · subst e; rw [hx]; exact hp
  · exact h j (by omega)
theorem ret_int {k : IntKind} {a b : Int} (h : a = b) : Ending.returned (.int k a) = .returned (.int k b) := by rw [h]
theorem ret_bool {a b : Bool} (h : a = true ↔ b = true) : Ending.returned (.bool a) = .returned (.bool b) := by rw [Bool.eq_iff_iff.2 h]
theorem ret_boolE {a b : Bool} (h : a = b) : Ending.returned (.bool a) = .returned (.bool b) := by rw [h]
end Go.Proofs.Ytjdccigmfainjab
