/- The plain notions of entries: what a right entry is, what Check, Bare, With and Cut answer, over lists of integers; and what it means that a slice value holds such a list in a world. -/
import Derived.WalkKit
namespace Go.Proofs.Ytehleeibgkpjmab
open Go.RowKit
set_option maxRecDepth 20000

/-- May it be an entry? -/
def isE (e : Int) : Bool := e == 0 || (e == -1 || (decide (1 ≤ e) && decide (e < 40)))
/-- Check's answer. -/
def ckE (xs : List Int) : Int := if xs.length = 4 ∧ xs.all isE = true then 0 else 1
/-- Bare's answer, of whatever entries. -/
def bareL (xs : List Int) : Bool := xs.all (fun x => x == 0)
def bareE (xs : List Int) : Bool := if ckE xs = 0 then bareL xs else false
/-- With's error, With's list. -/
def withE (xs : List Int) (k e : Int) : Int := if ckE xs = 0 then (if 0 ≤ k ∧ k < 4 then (if isE e = true then 0 else 1) else 3) else 1
def withL (xs : List Int) (k e : Int) : List Int := if withE xs k e = 0 then xs.set k.toNat e else []
/-- Cut's error, Cut's list. -/
def cutE (xs : List Int) (n : Int) : Int := if ckE xs = 0 then (if 0 ≤ n ∧ n ≤ 4 then 0 else 3) else 1
def cutR (xs : List Int) (n : Nat) : List Int := xs.take n ++ List.replicate (4 - n) 0
def cutL (xs : List Int) (n : Int) : List Int := if cutE xs n = 0 then cutR xs n.toNat else []

/-- The slice value v holds the integers xs in the world w. -/
def Sl (w : World) (v : Value) (xs : List Int) : Prop :=
  ∃ ao cap, v = .slice ao xs.length cap ∧ xs.length ≤ maxLen ∧ xs.length ≤ cap ∧ (xs ≠ [] → ∃ b off, ao = some ⟨b, off, none⟩ ∧ b < w.heap.size ∧ ∀ j, j < xs.length → w.cell? ⟨b, off + j, none⟩ = some (.int .i64 (xs.getD j 0)))

theorem Sl.below {w w1 : World} {v : Value} {xs : List Int} (h : Sl w v xs) (hb : Below w.heap.size w w1) : Sl w1 v xs := by
  obtain ⟨ao, cap, hv, hm, hcp, hc⟩ := h
  refine ⟨ao, cap, hv, hm, hcp, fun hne => ?_⟩
  obtain ⟨b, off, ha, hlt, hcell⟩ := hc hne
  exact ⟨b, off, ha, Nat.lt_of_lt_of_le hlt hb.size, fun j hj => (hb.cell (p := ⟨b, off + j, none⟩) hlt).trans (hcell j hj)⟩

/-- From one world on to the next, and on. -/
theorem Below.on {w w1 w2 : World} (h : Below w.heap.size w w1) (k : Below w1.heap.size w1 w2) : Below w.heap.size w w2 := h.trans (k.mono h.size)

theorem Sl.nil (w : World) : Sl w (.slice none 0 0) [] := ⟨none, 0, rfl, Nat.zero_le _, Nat.zero_le _, fun h => absurd rfl h⟩

theorem ckE_yes {xs : List Int} (h4 : xs.length = 4) (h : xs.all isE = true) : ckE xs = 0 := by unfold ckE; rw [if_pos ⟨h4, h⟩]
theorem ckE_no {xs : List Int} (h : ¬ (xs.length = 4 ∧ xs.all isE = true)) : ckE xs = 1 := by unfold ckE; rw [if_neg h]
theorem ckE_len {xs : List Int} (h : ckE xs = 0) : xs.length = 4 := by
  unfold ckE at h; split at h
  · rename_i g; exact g.1
  · simp at h
theorem ckE_all {xs : List Int} (h : ckE xs = 0) : xs.all isE = true := by
  unfold ckE at h; split at h
  · rename_i g; exact g.2
  · simp at h
theorem ckE_01 (xs : List Int) : ckE xs = 0 ∨ ckE xs = 1 := by unfold ckE; split <;> simp

/-- The first k of them fit. -/
theorem all_of_upto {p : Int → Bool} {xs : List Int} (h : ∀ j, j < xs.length → p (xs.getD j 0) = true) : xs.all p = true := by
  rw [List.all_eq_true]
  intro x hx
  obtain ⟨j, hj, rfl⟩ := List.getElem_of_mem hx
  have := h j hj
  simpa [List.getD, hj] using this
theorem not_all_of {p : Int → Bool} {xs : List Int} {j : Nat} (hj : j < xs.length) (h : p (xs.getD j 0) = false) : xs.all p = false := by
  cases e : xs.all p with
  | false => rfl
  | true =>
    rw [List.all_eq_true] at e
    have := e _ (List.getElem_mem hj)
    simp [List.getD, hj] at h
    rw [h] at this; cases this
theorem upto_step {p : Int → Bool} {xs : List Int} {k : Nat} {x : Int} (h : ∀ j, j < k → p (xs.getD j 0) = true) (hx : xs.getD k 0 = x) (hp : p x = true) : ∀ j, j < k + 1 → p (xs.getD j 0) = true := by
  intro j hj
  by_cases e : j = k
  · subst e; rw [hx]; exact hp
  · exact h j (by omega)
theorem ret_int {k : IntKind} {a b : Int} (h : a = b) : Ending.returned (.int k a) = .returned (.int k b) := by rw [h]
theorem ret_bool {a b : Bool} (h : a = true ↔ b = true) : Ending.returned (.bool a) = .returned (.bool b) := by rw [Bool.eq_iff_iff.2 h]
theorem ret_boolE {a b : Bool} (h : a = b) : Ending.returned (.bool a) = .returned (.bool b) := by rw [h]

theorem addr_add (b off j : Nat) : (⟨b, off, none⟩ : Addr).add j = ⟨b, off + j, none⟩ := by
  unfold Addr.add; split
  · rename_i h; subst h; rfl
  · rfl

theorem Sl.cells {w : World} {ao : Option Addr} {n cap : Nat} {xs : List Int} (h : Sl w (.slice ao n cap) xs) :
    xs.length = n ∧ n ≤ 9223372036854775807 ∧ n ≤ cap ∧ ∀ j, j < n → ∃ b off, ao = some ⟨b, off, none⟩ ∧ b < w.heap.size ∧ w.cell? ⟨b, off + j, none⟩ = some (.int .i64 (xs.getD j 0)) := by
  obtain ⟨ao', cap', hv, hm, hcp, hc⟩ := h
  simp only [Value.slice.injEq] at hv
  obtain ⟨rfl, rfl, rfl⟩ := hv
  unfold maxLen at hm
  refine ⟨rfl, by omega, hcp, fun j hj => ?_⟩
  obtain ⟨b, off, rfl, hlt, hcell⟩ := hc (by intro e; rw [e] at hj; simp at hj)
  exact ⟨b, off, rfl, hlt, hcell j hj⟩

theorem Sl.form {w : World} {v : Value} {xs : List Int} (h : Sl w v xs) : ∃ ao cap, v = .slice ao xs.length cap := by
  obtain ⟨ao, cap, hv, _⟩ := h; exact ⟨ao, cap, hv⟩

theorem Sl_of_own {w : World} {base : Nat} {g n cap : Nat} {xs : List Int} (h : w.ownsRow base 3 1 (.slice (some ⟨g, 0, none⟩) n cap) n (xs.map (.int .i64))) : Sl w (.slice (some ⟨g, 0, none⟩) n cap) xs := by
  have hl : xs.length = n := by have := h.1; simpa using this
  have hc := fun j => h.cellAt j
  obtain ⟨_, h2⟩ := h
  rcases h2 with ⟨h', _⟩ | ⟨g', cap', cur, h', _, hg, hnc, hcm, _, _⟩
  · simp at h'
  · simp only [Value.slice.injEq, Option.some.injEq, Addr.mk.injEq, and_true, true_and] at h'
    obtain ⟨rfl, rfl⟩ := h'
    refine ⟨_, cap, by rw [hl], by rw [hl]; exact Nat.le_trans hnc hcm, by rw [hl]; exact hnc, fun _ => ⟨g, 0, rfl, (Array.getElem?_eq_some_iff.1 hg).1, fun j hj => ?_⟩⟩
    rw [Nat.zero_add, hc j (by omega)]
    simp [List.getD, hj]

theorem Sl.four {w : World} {v : Value} {xs : List Int} (h : Sl w v xs) (h4 : xs.length = 4) : ∃ b off cap, v = .slice (some ⟨b, off, none⟩) 4 cap ∧ 4 ≤ cap ∧ b < w.heap.size ∧ ∀ j, j < 4 → w.cell? ⟨b, off + j, none⟩ = some (.int .i64 (xs.getD j 0)) := by
  obtain ⟨ao, cap, rfl, hm, hcp, hc⟩ := h
  obtain ⟨b, off, rfl, hlt, hcell⟩ := hc (by intro e; rw [e] at h4; simp at h4)
  rw [h4] at hcell hcp ⊢
  exact ⟨b, off, cap, rfl, hcp, hlt, hcell⟩

/-- What is answered by With, WithOf, Cut, CutOf: a list, an error; new memory. -/
def Ans (w : World) (xs : List Int) (err : Int) (r : Ending) (w' : World) : Prop :=
  ∃ v', r = .returned (.tuple #[v', .int .i64 err]) ∧ Sl w' v' xs ∧ Below w.heap.size w w'

theorem Ans.bad (w : World) {xs : List Int} {err : Int} (hx : xs = []) : Ans w xs err (.returned (.tuple #[.slice none 0 0, .int .i64 err])) w :=
  ⟨_, rfl, hx ▸ Sl.nil w, Below.refl _ _⟩

theorem own_cell {w : World} {base g n cap : Nat} {xs : List Int} (h : w.ownsRow base 3 1 (.slice (some ⟨g, 0, none⟩) n cap) n (xs.map (.int .i64))) (k : Nat) (hk : k < n) : ∃ u, w.cell? ⟨g, k, none⟩ = some u := by
  rw [h.cellAt k (by omega)]
  have hl : xs.length = n := by have := h.1; simpa using this
  exact ⟨.int .i64 (xs[k]), by simp [show k < xs.length by omega]⟩
theorem own_put {w : World} {base g n cap : Nat} {xs : List Int} (h : w.ownsRow base 3 1 (.slice (some ⟨g, 0, none⟩) n cap) n (xs.map (.int .i64))) (k : Nat) (e : Int) :
    (w.setCell ⟨g, k, none⟩ (.int .i64 e)).ownsRow base 3 1 (.slice (some ⟨g, 0, none⟩) n cap) n ((xs.set k e).map (.int .i64)) := by
  have := (h.stored k (.int .i64 e)).1
  rw [List.map_set]; exact this
theorem own_ge {w : World} {base g n cap : Nat} {xs : List Value} (h : w.ownsRow base 3 1 (.slice (some ⟨g, 0, none⟩) n cap) n xs) : base ≤ g := (h.lt g rfl).1

/-- The last step of With and WithOf: the entry is put. -/
theorem Ans.put {w w1 : World} {g n cap k : Nat} {e : Int} {xs ys : List Int} (h : w1.ownsRow w.heap.size 3 1 (.slice (some ⟨g, 0, none⟩) n cap) n (xs.map (.int .i64))) (hb : Below w.heap.size w w1) (hy : xs = ys) :
    Ans w (ys.set k e) 0 (.returned (.tuple #[.slice (some ⟨g, 0, none⟩) n cap, .int .i64 0])) (w1.setCell ⟨g, k, none⟩ (.int .i64 e)) := by
  subst hy
  exact ⟨_, rfl, Sl_of_own (own_put h k e), hb.setCell (own_ge h) _⟩

theorem Ans.made {w w1 : World} {g n cap : Nat} {xs ys : List Int} (h : w1.ownsRow w.heap.size 3 1 (.slice (some ⟨g, 0, none⟩) n cap) n (xs.map (.int .i64))) (hb : Below w.heap.size w w1) (hy : xs = ys) :
    Ans w ys 0 (.returned (.tuple #[.slice (some ⟨g, 0, none⟩) n cap, .int .i64 0])) w1 := by
  subst hy
  exact ⟨_, rfl, Sl_of_own h, hb⟩

theorem Sl_new (w : World) (xs : List Int) (n : Nat) (hn : xs.length = n) (hm : n ≤ maxLen) : Sl (w.alloc (.cells (xs.map (Value.int .i64)).toArray 3)) (.slice (some ⟨w.heap.size, 0, none⟩) n n) xs := by
  subst hn
  refine ⟨_, _, rfl, hm, Nat.le_refl _, fun _ => ⟨w.heap.size, 0, rfl, by simp, fun j hj => ?_⟩⟩
  rw [Nat.zero_add, World.cell?_alloc_at _ _ _ _ rfl]
  simp [List.getD, hj]
theorem Sl_new4 (w : World) (g : Nat) (hg : g = w.heap.size) (a b c d : Int) : Sl (w.alloc (.cells #[.int .i64 a, .int .i64 b, .int .i64 c, .int .i64 d] 3)) (.slice (some ⟨g, 0, none⟩) 4 4) [a, b, c, d] := by subst hg; exact Sl_new w [a, b, c, d] 4 rfl (by decide)
theorem Sl_new1 (w : World) (g : Nat) (hg : g = w.heap.size) (a : Int) : Sl (w.alloc (.cells #[.int .i64 a] 3)) (.slice (some ⟨g, 0, none⟩) 1 1) [a] := by subst hg; exact Sl_new w [a] 1 rfl (by decide)

theorem Sl.past {w : World} {v : Value} {xs : List Int} (h : Sl w v xs) (o : Obj) : Sl (w.alloc o) v xs := h.below ((Below.refl _ _).alloc (Nat.le_refl _) o)

theorem Below.on' {w w1 w2 w3 : World} (h : Below w.heap.size w w1) (k : Below w1.heap.size w1 w2) (l : Below w2.heap.size w2 w3) : Below w.heap.size w w3 := Below.on (Below.on h k) l

end Go.Proofs.Ytehleeibgkpjmab
