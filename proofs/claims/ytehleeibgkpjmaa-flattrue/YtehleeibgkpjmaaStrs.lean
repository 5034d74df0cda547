/- Slices of strings: what it means that a slice value holds them in a world. -/
import Derived.Test.YtehleeibgkpjmaaPlain
namespace Go.Proofs.Ytehleeibgkpjmaa
open Go.RowKit
set_option maxRecDepth 20000

/-- The slice value v holds the strings xs in the world w. -/
def Ss (w : World) (v : Value) (xs : List ByteArray) : Prop :=
  ∃ ao cap, v = .slice ao xs.length cap ∧ xs.length ≤ maxLen ∧ xs.length ≤ cap ∧ (xs ≠ [] → ∃ b off, ao = some ⟨b, off, none⟩ ∧ b < w.heap.size ∧ ∀ j, j < xs.length → w.cell? ⟨b, off + j, none⟩ = some (.string (xs.getD j ByteArray.empty)))

theorem Ss.below {w w1 : World} {v : Value} {xs : List ByteArray} (h : Ss w v xs) (hb : Below w.heap.size w w1) : Ss w1 v xs := by
  obtain ⟨ao, cap, hv, hm, hcp, hc⟩ := h
  refine ⟨ao, cap, hv, hm, hcp, fun hne => ?_⟩
  obtain ⟨b, off, ha, hlt, hcell⟩ := hc hne
  exact ⟨b, off, ha, Nat.lt_of_lt_of_le hlt hb.size, fun j hj => (hb.cell (p := ⟨b, off + j, none⟩) hlt).trans (hcell j hj)⟩

theorem Ss.nil (w : World) : Ss w (.slice none 0 0) [] := ⟨none, 0, rfl, Nat.zero_le _, Nat.zero_le _, fun h => absurd rfl h⟩

theorem Ss.cells {w : World} {ao : Option Addr} {n cap : Nat} {xs : List ByteArray} (h : Ss w (.slice ao n cap) xs) :
    xs.length = n ∧ n ≤ 9223372036854775807 ∧ n ≤ cap ∧ ∀ j, j < n → ∃ b off, ao = some ⟨b, off, none⟩ ∧ b < w.heap.size ∧ w.cell? ⟨b, off + j, none⟩ = some (.string (xs.getD j ByteArray.empty)) := by
  obtain ⟨ao', cap', hv, hm, hcp, hc⟩ := h
  simp only [Value.slice.injEq] at hv
  obtain ⟨rfl, rfl, rfl⟩ := hv
  unfold maxLen at hm
  refine ⟨rfl, by omega, hcp, fun j hj => ?_⟩
  obtain ⟨b, off, rfl, hlt, hcell⟩ := hc (by intro e; rw [e] at hj; simp at hj)
  exact ⟨b, off, rfl, hlt, hcell j hj⟩

theorem Ss.form {w : World} {v : Value} {xs : List ByteArray} (h : Ss w v xs) : ∃ ao cap, v = .slice ao xs.length cap := by
  obtain ⟨ao, cap, hv, _⟩ := h; exact ⟨ao, cap, hv⟩

theorem Ss.at {w : World} {ao : Option Addr} {n cap : Nat} {xs : List ByteArray} (h : Ss w (.slice ao n cap) xs) (hpos : 0 < n) :
    ∃ b off, ao = some ⟨b, off, none⟩ ∧ b < w.heap.size ∧ ∀ j, j < n → w.cell? ⟨b, off + j, none⟩ = some (.string (xs.getD j ByteArray.empty)) := by
  obtain ⟨ao', cap', hv, hm, hcp, hc⟩ := h
  simp only [Value.slice.injEq] at hv
  obtain ⟨rfl, rfl, rfl⟩ := hv
  exact hc (by intro e; rw [e] at hpos; simp at hpos)

theorem Ss_of_own {w : World} {base : Nat} {g n cap : Nat} {xs : List ByteArray} (h : w.ownsRow base 9 1 (.slice (some ⟨g, 0, none⟩) n cap) n (xs.map Value.string)) : Ss w (.slice (some ⟨g, 0, none⟩) n cap) xs := by
  have hl : xs.length = n := by have := h.1; simpa using this
  have hc := fun j => h.cellAt j
  obtain ⟨_, h2⟩ := h
  rcases h2 with ⟨h', _⟩ | ⟨g', cap', cur, h', _, hg, hnc, hcm, _, _⟩
  · simp at h'
  · simp only [Value.slice.injEq, Option.some.injEq, Addr.mk.injEq, and_true, true_and] at h'
    obtain ⟨rfl, rfl⟩ := h'
    refine ⟨_, cap, by rw [hl], by rw [hl]; exact Nat.le_trans hnc hcm, by rw [hl]; exact hnc, fun _ => ⟨g, 0, rfl, (Array.getElem?_eq_some_iff.1 hg).1, fun j hj => ?_⟩⟩
    rw [Nat.zero_add, hc j (by omega)]
    simp [List.getD, hj]

theorem owns_cell {w : World} {base g n cap : Nat} {xs : List ByteArray} (h : w.ownsRow base 9 1 (.slice (some ⟨g, 0, none⟩) n cap) n (xs.map Value.string)) (k : Nat) (hk : k < n) : ∃ u, w.cell? ⟨g, k, none⟩ = some u := by
  rw [h.cellAt k (by omega)]
  have hl : xs.length = n := by have := h.1; simpa using this
  exact ⟨.string (xs[k]), by simp [show k < xs.length by omega]⟩
theorem owns_put {w : World} {base g n cap : Nat} {xs : List ByteArray} (h : w.ownsRow base 9 1 (.slice (some ⟨g, 0, none⟩) n cap) n (xs.map Value.string)) (k : Nat) (e : ByteArray) :
    (w.setCell ⟨g, k, none⟩ (.string e)).ownsRow base 9 1 (.slice (some ⟨g, 0, none⟩) n cap) n ((xs.set k e).map Value.string) := by
  have := (h.stored k (.string e)).1
  rw [List.map_set]; exact this
theorem owns_ge {w : World} {base g n cap : Nat} {xs : List Value} (h : w.ownsRow base 9 1 (.slice (some ⟨g, 0, none⟩) n cap) n xs) : base ≤ g := (h.lt g rfl).1

theorem Ss_new (w : World) (xs : List ByteArray) (n : Nat) (hn : xs.length = n) (hm : n ≤ maxLen) : Ss (w.alloc (.cells (xs.map Value.string).toArray 9)) (.slice (some ⟨w.heap.size, 0, none⟩) n n) xs := by
  subst hn
  refine ⟨_, _, rfl, hm, Nat.le_refl _, fun _ => ⟨w.heap.size, 0, rfl, by simp, fun j hj => ?_⟩⟩
  rw [Nat.zero_add, World.cell?_alloc_at _ _ _ _ rfl]
  simp [List.getD, hj]
theorem Ss.past {w : World} {v : Value} {xs : List ByteArray} (h : Ss w v xs) (o : Obj) : Ss (w.alloc o) v xs := h.below ((Below.refl _ _).alloc (Nat.le_refl _) o)


theorem owns_below {w w1 : World} {B : Nat} {v : Value} {n : Nat} {xs : List Value} (h : w.ownsRow B 9 1 v n xs) (hb : Below w.heap.size w w1) : w1.ownsRow B 9 1 v n xs := by
  refine ⟨h.1, ?_⟩
  rcases h.2 with h' | ⟨g, cap, cur, hv, hg, hh, r⟩
  · exact .inl h'
  · exact .inr ⟨g, cap, cur, hv, hg, (hb.block g (Array.getElem?_eq_some_iff.1 hh).1).trans hh, r⟩
theorem Below.on'' {B : Nat} {w w1 w2 : World} (h : Below B w w1) (k : Below w1.heap.size w1 w2) (hB : B ≤ w1.heap.size) : Below B w w2 := h.trans (k.mono hB)

theorem row_cell {w : World} {b k : Nat} {ys : List ByteArray} {T : TypeId} (h : w.heap[b]? = some (.cells (ys.map Value.string).toArray T (0, 0))) (hk : k < ys.length) : ∃ u, w.cell? ⟨b, k, none⟩ = some u := by
  rw [cell_of_row _ _ _ _ _ _ h]
  exact ⟨.string ys[k], by simp [hk]⟩

/-- Check's answer, of pages. -/
def ckP (xs : List ByteArray) : Int := if xs.length ≤ 16 then (if xs.all (fun p => decide (p.size = 4)) = true then 0 else 1) else 2
theorem ckP_many {xs : List ByteArray} (h : ¬ xs.length ≤ 16) : ckP xs = 2 := by unfold ckP; rw [if_neg h]
theorem ckP_bad {xs : List ByteArray} (h : xs.length ≤ 16) {j : Nat} (hj : j < xs.length) (hb : (xs.getD j ByteArray.empty).size ≠ 4) : ckP xs = 1 := by
  unfold ckP
  rw [if_pos h, if_neg]
  intro ha
  rw [List.all_eq_true] at ha
  have := ha _ (List.getElem_mem hj)
  simp [List.getD, hj] at hb
  simp [hb] at this
theorem ckP_ok {xs : List ByteArray} (h : xs.length ≤ 16) (ha : ∀ j, j < xs.length → (xs.getD j ByteArray.empty).size = 4) : ckP xs = 0 := by
  unfold ckP
  rw [if_pos h, if_pos]
  rw [List.all_eq_true]
  intro x hx
  obtain ⟨j, hj, rfl⟩ := List.getElem_of_mem hx
  have := ha j hj
  simpa [List.getD, hj] using this
theorem ckP_parts {xs : List ByteArray} (h : ckP xs = 0) : xs.length ≤ 16 ∧ ∀ x ∈ xs, x.size = 4 := by
  unfold ckP at h
  split at h
  · rename_i g
    split at h
    · rename_i g'
      rw [List.all_eq_true] at g'
      exact ⟨g, fun x hx => by simpa using g' x hx⟩
    · simp at h
  · simp at h
theorem ckP_012 (xs : List ByteArray) : ckP xs = 0 ∨ ckP xs = 1 ∨ ckP xs = 2 := by
  unfold ckP
  split
  · split <;> simp
  · simp
end Go.Proofs.Ytehleeibgkpjmaa
