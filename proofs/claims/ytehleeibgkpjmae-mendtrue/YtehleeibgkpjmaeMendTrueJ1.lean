/- Texts joined: Plain, Within, Leaf, Chk, Bare, Slot, Slots, Used, Img, OwnI, OwnJ, Roots, Idx, SIdx, Kind. -/
import Derived.WalkKit
import Derived.Test.YtehleeibgkpjmaeRows
import Derived.WalkLawsBesides
import Derived.Deep.QuietTactic
import Derived.BigQuiet
import Derived.MapKept
import Derived.OneCell
import Derived.Laws.OwnMore
import Derived.RangeFuncNested
import Derived.RangeFuncBound
import Derived.RangeFuncCalls
import Derived.RangeFuncLeaves
import Derived.Shelf.Abstract
import Derived.Shelf.RegionOpen
import Derived.OwnWalkIn
import Derived.TacticsInMore
import Derived.LoopNIn
import Derived.LoopIn
set_option linter.unusedVariables false
set_option linter.unusedSimpArgs false
/- The plain notions of entries: what a right entry is, what Check, Bare, With and Cut answer, over lists of integers; and what it means that a slice value holds such a list in a world. -/
namespace Go.Proofs.Ytehleeibgkpjmae
open Go.RowKit
set_option maxRecDepth 20000

/-- May it be an entry? -/
def isE (e : Int) : Bool := e == 0 || (e == -1 || (decide (1 ≤ e) && decide (e < 40)))
/-- Check's answer. -/
def ckE (xs : List Int) : Int := if xs.length = 4 ∧ xs.all isE = true then 0 else 1
/-- Bare's answer, of whatever entries. -/
def bareL (xs : List Int) : Bool := xs.all (fun x => x == 0)
def bareE (xs : List Int) : Bool := if ckE xs = 0 then bareL xs else false
/-- With's error, With's list. -/
def withE (xs : List Int) (k e : Int) : Int := if ckE xs = 0 then (if 0 ≤ k ∧ k < 4 then (if isE e = true then 0 else 1) else 3) else 1
def withL (xs : List Int) (k e : Int) : List Int := if withE xs k e = 0 then xs.set k.toNat e else []
/-- Cut's error, Cut's list. -/
def cutE (xs : List Int) (n : Int) : Int := if ckE xs = 0 then (if 0 ≤ n ∧ n ≤ 4 then 0 else 3) else 1
def cutR (xs : List Int) (n : Nat) : List Int := xs.take n ++ List.replicate (4 - n) 0
def cutL (xs : List Int) (n : Int) : List Int := if cutE xs n = 0 then cutR xs n.toNat else []

/-- The slice value v holds the integers xs in the world w. -/
def Sl (w : World) (v : Value) (xs : List Int) : Prop :=
  ∃ ao cap, v = .slice ao xs.length cap ∧ xs.length ≤ maxLen ∧ xs.length ≤ cap ∧ (xs ≠ [] → ∃ b off, ao = some ⟨b, off, none⟩ ∧ b < w.heap.size ∧ ∀ j, j < xs.length → w.cell? ⟨b, off + j, none⟩ = some (.int .i64 (xs.getD j 0)))

theorem Sl.below {w w1 : World} {v : Value} {xs : List Int} (h : Sl w v xs) (hb : Below w.heap.size w w1) : Sl w1 v xs := by
  obtain ⟨ao, cap, hv, hm, hcp, hc⟩ := h
  refine ⟨ao, cap, hv, hm, hcp, fun hne => ?_⟩
  obtain ⟨b, off, ha, hlt, hcell⟩ := hc hne
  exact ⟨b, off, ha, Nat.lt_of_lt_of_le hlt hb.size, fun j hj => (hb.cell (p := ⟨b, off + j, none⟩) hlt).trans (hcell j hj)⟩

/-- From one world on to the next, and on. -/
theorem Below.on {w w1 w2 : World} (h : Below w.heap.size w w1) (k : Below w1.heap.size w1 w2) : Below w.heap.size w w2 := h.trans (k.mono h.size)

theorem Sl.nil (w : World) : Sl w (.slice none 0 0) [] := ⟨none, 0, rfl, Nat.zero_le _, Nat.zero_le _, fun h => absurd rfl h⟩

theorem ckE_yes {xs : List Int} (h4 : xs.length = 4) (h : xs.all isE = true) : ckE xs = 0 := by unfold ckE; rw [if_pos ⟨h4, h⟩]
theorem ckE_no {xs : List Int} (h : ¬ (xs.length = 4 ∧ xs.all isE = true)) : ckE xs = 1 := by unfold ckE; rw [if_neg h]
theorem ckE_len {xs : List Int} (h : ckE xs = 0) : xs.length = 4 := by
  unfold ckE at h; split at h
  · rename_i g; exact g.1
  · simp at h
theorem ckE_all {xs : List Int} (h : ckE xs = 0) : xs.all isE = true := by
  unfold ckE at h; split at h
  · rename_i g; exact g.2
  · simp at h
theorem ckE_01 (xs : List Int) : ckE xs = 0 ∨ ckE xs = 1 := by unfold ckE; split <;> simp

/-- The first k of them fit. -/
theorem all_of_upto {p : Int → Bool} {xs : List Int} (h : ∀ j, j < xs.length → p (xs.getD j 0) = true) : xs.all p = true := by
  rw [List.all_eq_true]
  intro x hx
  obtain ⟨j, hj, rfl⟩ := List.getElem_of_mem hx
  have := h j hj
  simpa [List.getD, hj] using this
theorem not_all_of {p : Int → Bool} {xs : List Int} {j : Nat} (hj : j < xs.length) (h : p (xs.getD j 0) = false) : xs.all p = false := by
  cases e : xs.all p with
  | false => rfl
  | true =>
    rw [List.all_eq_true] at e
    have := e _ (List.getElem_mem hj)
    simp [List.getD, hj] at h
    rw [h] at this; cases this
theorem upto_step {p : Int → Bool} {xs : List Int} {k : Nat} {x : Int} (h : ∀ j, j < k → p (xs.getD j 0) = true) (hx : xs.getD k 0 = x) (hp : p x = true) : ∀ j, j < k + 1 → p (xs.getD j 0) = true := by
  intro j hj
  by_cases e : j = k
  · subst e; rw [hx]; exact hp
  · exact h j (by omega)
theorem ret_int {k : IntKind} {a b : Int} (h : a = b) : Ending.returned (.int k a) = .returned (.int k b) := by rw [h]
theorem ret_bool {a b : Bool} (h : a = true ↔ b = true) : Ending.returned (.bool a) = .returned (.bool b) := by rw [Bool.eq_iff_iff.2 h]
theorem ret_boolE {a b : Bool} (h : a = b) : Ending.returned (.bool a) = .returned (.bool b) := by rw [h]

theorem addr_add (b off j : Nat) : (⟨b, off, none⟩ : Addr).add j = ⟨b, off + j, none⟩ := by
  unfold Addr.add; split
  · rename_i h; subst h; rfl
  · rfl

theorem Sl.cells {w : World} {ao : Option Addr} {n cap : Nat} {xs : List Int} (h : Sl w (.slice ao n cap) xs) :
    xs.length = n ∧ n ≤ 9223372036854775807 ∧ n ≤ cap ∧ ∀ j, j < n → ∃ b off, ao = some ⟨b, off, none⟩ ∧ b < w.heap.size ∧ w.cell? ⟨b, off + j, none⟩ = some (.int .i64 (xs.getD j 0)) := by
  obtain ⟨ao', cap', hv, hm, hcp, hc⟩ := h
  simp only [Value.slice.injEq] at hv
  obtain ⟨rfl, rfl, rfl⟩ := hv
  unfold maxLen at hm
  refine ⟨rfl, by omega, hcp, fun j hj => ?_⟩
  obtain ⟨b, off, rfl, hlt, hcell⟩ := hc (by intro e; rw [e] at hj; simp at hj)
  exact ⟨b, off, rfl, hlt, hcell j hj⟩

theorem Sl.form {w : World} {v : Value} {xs : List Int} (h : Sl w v xs) : ∃ ao cap, v = .slice ao xs.length cap := by
  obtain ⟨ao, cap, hv, _⟩ := h; exact ⟨ao, cap, hv⟩

theorem Sl_of_own {w : World} {base : Nat} {g n cap : Nat} {xs : List Int} (h : w.ownsRow base 3 1 (.slice (some ⟨g, 0, none⟩) n cap) n (xs.map (.int .i64))) : Sl w (.slice (some ⟨g, 0, none⟩) n cap) xs := by
  have hl : xs.length = n := by have := h.1; simpa using this
  have hc := fun j => h.cellAt j
  obtain ⟨_, h2⟩ := h
  rcases h2 with ⟨h', _⟩ | ⟨g', cap', cur, h', _, hg, hnc, hcm, _, _⟩
  · simp at h'
  · simp only [Value.slice.injEq, Option.some.injEq, Addr.mk.injEq, and_true, true_and] at h'
    obtain ⟨rfl, rfl⟩ := h'
    refine ⟨_, cap, by rw [hl], by rw [hl]; exact Nat.le_trans hnc hcm, by rw [hl]; exact hnc, fun _ => ⟨g, 0, rfl, (Array.getElem?_eq_some_iff.1 hg).1, fun j hj => ?_⟩⟩
    rw [Nat.zero_add, hc j (by omega)]
    simp [List.getD, hj]

theorem Sl.four {w : World} {v : Value} {xs : List Int} (h : Sl w v xs) (h4 : xs.length = 4) : ∃ b off cap, v = .slice (some ⟨b, off, none⟩) 4 cap ∧ 4 ≤ cap ∧ b < w.heap.size ∧ ∀ j, j < 4 → w.cell? ⟨b, off + j, none⟩ = some (.int .i64 (xs.getD j 0)) := by
  obtain ⟨ao, cap, rfl, hm, hcp, hc⟩ := h
  obtain ⟨b, off, rfl, hlt, hcell⟩ := hc (by intro e; rw [e] at h4; simp at h4)
  rw [h4] at hcell hcp ⊢
  exact ⟨b, off, cap, rfl, hcp, hlt, hcell⟩

/-- What is answered by With, WithOf, Cut, CutOf: a list, an error; new memory. -/
def Ans (w : World) (xs : List Int) (err : Int) (r : Ending) (w' : World) : Prop :=
  ∃ v', r = .returned (.tuple #[v', .int .i64 err]) ∧ Sl w' v' xs ∧ Below w.heap.size w w'

theorem Ans.bad (w : World) {xs : List Int} {err : Int} (hx : xs = []) : Ans w xs err (.returned (.tuple #[.slice none 0 0, .int .i64 err])) w :=
  ⟨_, rfl, hx ▸ Sl.nil w, Below.refl _ _⟩

theorem own_cell {w : World} {base g n cap : Nat} {xs : List Int} (h : w.ownsRow base 3 1 (.slice (some ⟨g, 0, none⟩) n cap) n (xs.map (.int .i64))) (k : Nat) (hk : k < n) : ∃ u, w.cell? ⟨g, k, none⟩ = some u := by
  rw [h.cellAt k (by omega)]
  have hl : xs.length = n := by have := h.1; simpa using this
  exact ⟨.int .i64 (xs[k]), by simp [show k < xs.length by omega]⟩
theorem own_put {w : World} {base g n cap : Nat} {xs : List Int} (h : w.ownsRow base 3 1 (.slice (some ⟨g, 0, none⟩) n cap) n (xs.map (.int .i64))) (k : Nat) (e : Int) :
    (w.setCell ⟨g, k, none⟩ (.int .i64 e)).ownsRow base 3 1 (.slice (some ⟨g, 0, none⟩) n cap) n ((xs.set k e).map (.int .i64)) := by
  have := (h.stored k (.int .i64 e)).1
  rw [List.map_set]; exact this
theorem own_ge {w : World} {base g n cap : Nat} {xs : List Value} (h : w.ownsRow base 3 1 (.slice (some ⟨g, 0, none⟩) n cap) n xs) : base ≤ g := (h.lt g rfl).1

/-- The last step of With and WithOf: the entry is put. -/
theorem Ans.put {w w1 : World} {g n cap k : Nat} {e : Int} {xs ys : List Int} (h : w1.ownsRow w.heap.size 3 1 (.slice (some ⟨g, 0, none⟩) n cap) n (xs.map (.int .i64))) (hb : Below w.heap.size w w1) (hy : xs = ys) :
    Ans w (ys.set k e) 0 (.returned (.tuple #[.slice (some ⟨g, 0, none⟩) n cap, .int .i64 0])) (w1.setCell ⟨g, k, none⟩ (.int .i64 e)) := by
  subst hy
  exact ⟨_, rfl, Sl_of_own (own_put h k e), hb.setCell (own_ge h) _⟩

theorem Ans.made {w w1 : World} {g n cap : Nat} {xs ys : List Int} (h : w1.ownsRow w.heap.size 3 1 (.slice (some ⟨g, 0, none⟩) n cap) n (xs.map (.int .i64))) (hb : Below w.heap.size w w1) (hy : xs = ys) :
    Ans w ys 0 (.returned (.tuple #[.slice (some ⟨g, 0, none⟩) n cap, .int .i64 0])) w1 := by
  subst hy
  exact ⟨_, rfl, Sl_of_own h, hb⟩

theorem Sl_new (w : World) (xs : List Int) (n : Nat) (hn : xs.length = n) (hm : n ≤ maxLen) : Sl (w.alloc (.cells (xs.map (Value.int .i64)).toArray 3)) (.slice (some ⟨w.heap.size, 0, none⟩) n n) xs := by
  subst hn
  refine ⟨_, _, rfl, hm, Nat.le_refl _, fun _ => ⟨w.heap.size, 0, rfl, by simp, fun j hj => ?_⟩⟩
  rw [Nat.zero_add, World.cell?_alloc_at _ _ _ _ rfl]
  simp [List.getD, hj]
theorem Sl_new4 (w : World) (g : Nat) (hg : g = w.heap.size) (a b c d : Int) : Sl (w.alloc (.cells #[.int .i64 a, .int .i64 b, .int .i64 c, .int .i64 d] 3)) (.slice (some ⟨g, 0, none⟩) 4 4) [a, b, c, d] := by subst hg; exact Sl_new w [a, b, c, d] 4 rfl (by decide)
theorem Sl_new1 (w : World) (g : Nat) (hg : g = w.heap.size) (a : Int) : Sl (w.alloc (.cells #[.int .i64 a] 3)) (.slice (some ⟨g, 0, none⟩) 1 1) [a] := by subst hg; exact Sl_new w [a] 1 rfl (by decide)

theorem Sl.past {w : World} {v : Value} {xs : List Int} (h : Sl w v xs) (o : Obj) : Sl (w.alloc o) v xs := h.below ((Below.refl _ _).alloc (Nat.le_refl _) o)

theorem Below.on' {w w1 w2 w3 : World} (h : Below w.heap.size w w1) (k : Below w1.heap.size w1 w2) (l : Below w2.heap.size w2 w3) : Below w.heap.size w w3 := Below.on (Below.on h k) l

end Go.Proofs.Ytehleeibgkpjmae
/- Contract of the document's within. -/
namespace Go.Proofs.Ytehleeibgkpjmae
open Go.RowKit
set_option maxRecDepth 20000

theorem within_any (n lo hi : Int) (w : World) : Calls Try.prog 52 #[.int .i64 n, .int .i64 lo, .int .i64 hi] w fun r w' => r = .returned (.bool (decide (lo ≤ n ∧ n ≤ hi))) ∧ w' = w := by
  go_enter Try.func52, Try.ntmps52
  go_wp2
  all_goals (go_ret; exact ⟨ret_bool (by simp <;> omega), rfl⟩)

end Go.Proofs.Ytehleeibgkpjmae
/- Contracts of isEntry, and of the document's entry and within, over the landed translation. -/
namespace Go.Proofs.Ytehleeibgkpjmae
open Go.RowKit
set_option maxRecDepth 20000

theorem isE_iff (e : Int) : isE e = true ↔ (e = 0 ∨ e = -1 ∨ (1 ≤ e ∧ e < 40)) := by simp [isE]

theorem isEntry_any (e : Int) (w : World) : Calls Try.prog 103 #[.int .i64 e] w fun r w' => r = .returned (.bool (isE e)) ∧ w' = w := by
  go_enter Try.func103, Try.ntmps103
  go_wp2
  all_goals (go_ret; exact ⟨ret_bool (by rw [isE_iff]; simp <;> omega), rfl⟩)

theorem entry_any (e : Int) (w : World) : Calls Try.prog 118 #[.int .i64 e] w fun r w' => r = .returned (.bool (isE e)) ∧ w' = w := by
  go_enter Try.func118, Try.ntmps118
  go_wp2_with (go_at_call 52; refine (within_any _ _ _ _).mono ?_; rintro e w' ⟨rfl, rfl⟩)
  all_goals (go_ret; exact ⟨ret_bool (by rw [isE_iff]; simp <;> omega), rfl⟩)
end Go.Proofs.Ytehleeibgkpjmae
/- Contracts of Check, Bare and of the document's CheckEntries, Bare, SameInts. -/
namespace Go.Proofs.Ytehleeibgkpjmae
open Go.RowKit
set_option maxRecDepth 20000

theorem check_no (ao : Option Addr) (n cap : Nat) (w : World) (hn : ((n : Int) != 4) = true) : Calls Try.prog 102 #[.slice ao n cap] w fun r w' => r = .returned (.int .i64 1) ∧ w' = w := by
  go_enter Try.func102, Try.ntmps102
  go_wp2
  go_ret; exact ⟨rfl, rfl⟩

theorem check_at (b off cap : Nat) (xs : List Int) (w : World) (h4 : xs.length = 4) (hc : ∀ j, j < 4 → w.cell? ⟨b, off + j, none⟩ = some (.int .i64 (xs.getD j 0))) :
    Calls Try.prog 102 #[.slice (some ⟨b, off, none⟩) 4 cap] w fun r w' => r = .returned (.int .i64 (ckE xs)) ∧ w' = w := by
  have HC : Hid (∀ j, j < 4 → w.cell? ⟨b, off + j, none⟩ = some (.int .i64 (xs.getD j 0))) := hc
  clear hc
  go_enter Try.func102, Try.ntmps102
  go_wp2
  go_loop [10] (fun i => ∃ k : Nat, k ≤ 4 ∧ i = .int .i64 k ∧ ∀ j, j < k → isE (xs.getD j 0) = true) (fun i => 4 - (intOf i).toNat)
  case atStart => exact ⟨0, by omega, rfl, fun j hj => absurd hj (by omega)⟩
  case round =>
    obtain ⟨k, hk, rfl, hall⟩ := hrel
    have HA : Hid (∀ j, j < k → isE (xs.getD j 0) = true) := hall
    clear hall
    by_cases hlt : k < 4
    · obtain ⟨x, hx⟩ : ∃ x, xs.getD k 0 = x := ⟨_, rfl⟩
      have hck := HC.out k hlt
      rw [hx] at hck
      have HX : Hid (xs.getD k 0 = x) := hx
      clear hx
      cases hE : isE x with
      | true =>
        go_wp2_with (go_at_call 103; refine (isEntry_any _ _).mono ?_; rintro e w' ⟨rfl, rfl⟩)
        go_round
        case rel => exact ⟨k + 1, by omega, by go_num, upto_step HA.out HX.out hE⟩
        case measure => simp [intOf]; omega
      | false =>
        go_wp2_with (go_at_call 103; refine (isEntry_any _ _).mono ?_; rintro e w' ⟨rfl, rfl⟩)
        go_ret
        exact ⟨ret_int (by rw [ckE_no]; intro h; rw [not_all_of (j := k) (by omega) (by rw [HX.out]; exact hE)] at h; simp at h), rfl⟩
    · have e4 : k = 4 := by omega
      subst e4
      go_wp2
      go_ret
      exact ⟨ret_int (ckE_yes h4 (all_of_upto (by rw [h4]; exact HA.out))).symm, rfl⟩

theorem check_any (v : Value) (xs : List Int) (w : World) (h : Sl w v xs) : Calls Try.prog 102 #[v] w fun r w' => r = .returned (.int .i64 (ckE xs)) ∧ w' = w := by
  obtain ⟨ao, cap, rfl, hm, hcp, hc⟩ := h
  by_cases h4 : xs.length = 4
  · obtain ⟨b, off, rfl, hlt, hcell⟩ := hc (by intro e; rw [e] at h4; simp at h4)
    rw [h4] at hcell ⊢
    exact check_at b off cap xs w h4 hcell
  · rw [ckE_no (fun e => h4 e.1)]
    exact check_no ao _ cap w (by rw [bne_iff_ne]; omega)

theorem checkOf_no (ao : Option Addr) (n cap : Nat) (w : World) (hn : ((n : Int) != 4) = true) : Calls Try.prog 105 #[.slice ao n cap] w fun r w' => r = .returned (.int .i64 1) ∧ w' = w := by
  go_enter Try.func105, Try.ntmps105
  go_wp2
  go_ret; exact ⟨rfl, rfl⟩

theorem checkOf_at (b off cap : Nat) (xs : List Int) (w : World) (h4 : xs.length = 4) (hc : ∀ j, j < 4 → w.cell? ⟨b, off + j, none⟩ = some (.int .i64 (xs.getD j 0))) :
    Calls Try.prog 105 #[.slice (some ⟨b, off, none⟩) 4 cap] w fun r w' => r = .returned (.int .i64 (ckE xs)) ∧ w' = w := by
  have HC : Hid (∀ j, j < 4 → w.cell? ⟨b, off + j, none⟩ = some (.int .i64 (xs.getD j 0))) := hc
  clear hc
  go_enter Try.func105, Try.ntmps105
  go_wp2
  go_loop [3] (fun i => ∃ k : Nat, k ≤ 4 ∧ i = .int .i64 k ∧ ∀ j, j < k → isE (xs.getD j 0) = true) (fun i => 4 - (intOf i).toNat)
  case atStart => exact ⟨0, by omega, rfl, fun j hj => absurd hj (by omega)⟩
  case round =>
    obtain ⟨k, hk, rfl, hall⟩ := hrel
    have HA : Hid (∀ j, j < k → isE (xs.getD j 0) = true) := hall
    clear hall
    by_cases hlt : k < 4
    · obtain ⟨x, hx⟩ : ∃ x, xs.getD k 0 = x := ⟨_, rfl⟩
      have hck := HC.out k hlt
      rw [hx] at hck
      have HX : Hid (xs.getD k 0 = x) := hx
      clear hx
      cases hE : isE x with
      | true =>
        go_wp2_with (go_at_call 118; refine (entry_any _ _).mono ?_; rintro e w' ⟨rfl, rfl⟩)
        go_round
        case rel => exact ⟨k + 1, by omega, by go_num, upto_step HA.out HX.out hE⟩
        case measure => simp [intOf]; omega
      | false =>
        go_wp2_with (go_at_call 118; refine (entry_any _ _).mono ?_; rintro e w' ⟨rfl, rfl⟩)
        go_ret
        exact ⟨ret_int (by rw [ckE_no]; intro h; rw [not_all_of (j := k) (by omega) (by rw [HX.out]; exact hE)] at h; simp at h), rfl⟩
    · have e4 : k = 4 := by omega
      subst e4
      go_wp2
      go_ret
      exact ⟨ret_int (ckE_yes h4 (all_of_upto (by rw [h4]; exact HA.out))).symm, rfl⟩

theorem checkOf_any (v : Value) (xs : List Int) (w : World) (h : Sl w v xs) : Calls Try.prog 105 #[v] w fun r w' => r = .returned (.int .i64 (ckE xs)) ∧ w' = w := by
  obtain ⟨ao, cap, rfl, hm, hcp, hc⟩ := h
  by_cases h4 : xs.length = 4
  · obtain ⟨b, off, rfl, hlt, hcell⟩ := hc (by intro e; rw [e] at h4; simp at h4)
    rw [h4] at hcell ⊢
    exact checkOf_at b off cap xs w h4 hcell
  · rw [ckE_no (fun e => h4 e.1)]
    exact checkOf_no ao _ cap w (by rw [bne_iff_ne]; omega)
end Go.Proofs.Ytehleeibgkpjmae
/- Contracts of Bare, and of the document's bare, Bare and SameInts. -/
namespace Go.Proofs.Ytehleeibgkpjmae
open Go.RowKit
set_option maxRecDepth 20000

theorem bare_at (b off cap : Nat) (xs : List Int) (w : World) (hck0 : ckE xs = 0) (hc : ∀ j, j < 4 → w.cell? ⟨b, off + j, none⟩ = some (.int .i64 (xs.getD j 0))) (hs : Sl w (.slice (some ⟨b, off, none⟩) 4 cap) xs) :
    Calls Try.prog 97 #[.slice (some ⟨b, off, none⟩) 4 cap] w fun r w' => r = .returned (.tuple #[.bool (bareE xs), .int .i64 0]) ∧ w' = w := by
  have HC : Hid (∀ j, j < 4 → w.cell? ⟨b, off + j, none⟩ = some (.int .i64 (xs.getD j 0))) := hc
  clear hc
  have h4 := ckE_len hck0
  have HE : Hid (bareE xs = bareL xs) := by show _ = _; unfold bareE; rw [if_pos hck0]
  go_enter Try.func97, Try.ntmps97
  go_wp2_with (go_at_call 102; refine (check_any _ xs _ hs).mono ?_; rintro e w' ⟨rfl, rfl⟩)
  go_loop [14] (fun i => ∃ k : Nat, k ≤ 4 ∧ i = .int .i64 k ∧ ∀ j, j < k → ((xs.getD j 0) == 0) = true) (fun i => 4 - (intOf i).toNat)
  case atStart => exact ⟨0, by omega, rfl, fun j hj => absurd hj (by omega)⟩
  case round =>
    obtain ⟨k, hk, rfl, hall⟩ := hrel
    have HA : Hid (∀ j, j < k → ((xs.getD j 0) == 0) = true) := hall
    clear hall
    by_cases hlt : k < 4
    · obtain ⟨x, hx⟩ : ∃ x, xs.getD k 0 = x := ⟨_, rfl⟩
      have hck := HC.out k hlt
      rw [hx] at hck
      have HX : Hid (xs.getD k 0 = x) := hx
      clear hx
      by_cases hE : x = 0
      · have hE' : (x != 0) = false := by simp [hE]
        have HE0 : Hid (x = 0) := hE
        clear hE
        go_wp2
        go_round
        case rel => exact ⟨k + 1, by omega, by go_num, upto_step (p := fun x => x == 0) HA.out HX.out (by simp [HE0.out])⟩
        case measure => simp [intOf]; omega
      · have hE' : (x != 0) = true := by simp [hE]
        go_wp2
        go_ret2
        refine ⟨?_, rfl⟩
        rw [HE.out, show bareL xs = false from not_all_of (j := k) (by omega) (by rw [HX.out]; simp [hE])]; rfl
    · have e4 : k = 4 := by omega
      subst e4
      go_wp2
      go_ret2
      refine ⟨?_, rfl⟩
      rw [HE.out, show bareL xs = true from all_of_upto (by rw [h4]; exact HA.out)]; rfl

theorem bare_no (v : Value) (xs : List Int) (w : World) (h : Sl w v xs) (hck0 : ckE xs = 1) :
    Calls Try.prog 97 #[v] w fun r w' => r = .returned (.tuple #[.bool (bareE xs), .int .i64 1]) ∧ w' = w := by
  have HE : Hid (bareE xs = false) := by show _ = _; unfold bareE; rw [if_neg (by omega)]
  go_enter Try.func97, Try.ntmps97
  go_wp2_with (go_at_call 102; refine (check_any _ xs _ h).mono ?_; rintro e w' ⟨rfl, rfl⟩)
  go_ret2
  exact ⟨by rw [HE.out]; rfl, rfl⟩

theorem bare_any (v : Value) (xs : List Int) (w : World) (h : Sl w v xs) :
    Calls Try.prog 97 #[v] w fun r w' => r = .returned (.tuple #[.bool (bareE xs), .int .i64 (ckE xs)]) ∧ w' = w := by
  rcases ckE_01 xs with h0 | h1
  · rw [h0]
    have hs := h
    have h4 := ckE_len h0
    obtain ⟨ao, cap, rfl, hm, hcp, hc⟩ := h
    obtain ⟨b, off, rfl, hlt, hcell⟩ := hc (by intro e; rw [e] at h4; simp at h4)
    rw [h4] at hcell hs ⊢
    exact bare_at b off cap xs w h0 hcell hs
  · rw [h1]; exact bare_no v xs w h h1

theorem bare_is {v : Value} {xs : List Int} {w : World} (h : Sl w v xs) {b : Bool} {c : Int} (hb : bareE xs = b) (hc : ckE xs = c) :
    Calls Try.prog 97 #[v] w fun r w' => r = .returned (.tuple #[.bool b, .int .i64 c]) ∧ w' = w := by subst hb; subst hc; exact bare_any v xs w h
theorem check_is {v : Value} {xs : List Int} {w : World} (h : Sl w v xs) {c : Int} (hc : ckE xs = c) :
    Calls Try.prog 102 #[v] w fun r w' => r = .returned (.int .i64 c) ∧ w' = w := by subst hc; exact check_any v xs w h
end Go.Proofs.Ytehleeibgkpjmae
/- Slots: what a right slot is; contracts of the rules, of isRight and of Check. -/
namespace Go.Proofs.Ytehleeibgkpjmae
open Go.RowKit
set_option maxRecDepth 20000

/-- Is a slot right: its kind, its data, its table? -/
def slotOK (k : Int) (d : ByteArray) (xs : List Int) : Bool :=
  if k = 0 then decide (d.size = 0 ∧ xs.length = 0)
  else if k = 1 then decide (d.size = 4 ∧ xs.length = 0)
  else if k = 2 then decide (ckE xs = 0 ∧ bareE xs = false ∧ d.size = 0)
  else false

theorem ba_nil (d : ByteArray) : d.toList = [] ↔ d.size = 0 := by
  rw [ByteArray.toList_eq, ByteArray.size_eq_zero_iff]
  constructor
  · intro h; exact ByteArray.ext (Array.toList_inj.1 h)
  · rintro rfl; rfl
theorem ba_isEmpty (d : ByteArray) : d.toList.isEmpty = decide (d.size = 0) := by
  rw [Bool.eq_iff_iff, List.isEmpty_iff, ba_nil]; simp

theorem upd_ex {P : Program} {w0 w : World} {B : Nat} (mty kt et : TypeId) (r clock : Nat) (es : Array MapEntry) (k : Int) (val : Value) (hm : P.underlying mty = some (.map kt et)) (hk : P.underlying kt = some (.int .i64)) (hb : w.heap[r]? = some (.map es clock))
    (hf : Instr.findNow (.int .i64) (.int .i64 k) es.toList 0 = some none) (hB : B ≤ r) (hbel : Below B w0 w) :
    ∃ W, (Instr.mapUpdate mty (.map (some r)) (.int .i64 k) val).run P w = .ok () W ∧ W.heap[r]? = some (.map (es.push { key := .int .i64 k, val := val, born := clock }) (clock + 1)) ∧ Below B w0 W ∧ W.heap.size = w.heap.size := by
  have hc : (Instr.checkKey false 10000 kt (.int .i64 k)).run P w = .ok () w := MapKept.run_checkKey (k := .int .i64 k) hk (by simp [MapKept.IsKey]) false 9999
  refine ⟨{ w with heap := w.heap.setIfInBounds r (.map (es.push { key := .int .i64 k, val := val, born := clock }) (clock + 1)) }, ?_, ?_, ?_, by simp⟩
  · simp [Instr.mapUpdate, run_underlying hm, MapKept.run_getObj_map hb, hc, MapKept.run_findKey hk hf, MapKept.run_setObj_map _ hb, Result.andThen]
  · have hlt : r < w.heap.size := (Array.getElem?_eq_some_iff.1 hb).1
    simp [hlt]
  · refine hbel.trans ⟨rfl, rfl, rfl, by simp, fun j hj => ?_⟩
    show (w.heap.setIfInBounds r _)[j]? = _
    rw [Array.getElem?_setIfInBounds_ne (by omega)]

theorem look_run {P : Program} {w : World} (mty kt et : TypeId) (r clock : Nat) (es : Array MapEntry) (k : Int) (v : Value) (i : Nat) (hm : P.underlying mty = some (.map kt et)) (hk : P.underlying kt = some (.int .i64)) (hb : w.heap[r]? = some (.map es clock))
    (hf : Instr.findNow (.int .i64) (.int .i64 k) es.toList 0 = some (some (i, v))) :
    (Instr.lookup mty (.map (some r)) (.int .i64 k) true).run P w = .ok (.tuple #[v, .bool true]) w := by
  have hc : (Instr.checkKey es.isEmpty 10000 kt (.int .i64 k)).run P w = .ok () w := MapKept.run_checkKey (k := .int .i64 k) hk (by simp [MapKept.IsKey]) _ 9999
  simp [Instr.lookup, run_underlying hm, MapKept.run_getObj_map hb, hc, MapKept.run_findKey hk hf, Result.andThen]
theorem look_none {P : Program} {w : World} (mty kt et : TypeId) (r clock : Nat) (es : Array MapEntry) (k : Int) (z : Value) (hm : P.underlying mty = some (.map kt et)) (hk : P.underlying kt = some (.int .i64)) (hb : w.heap[r]? = some (.map es clock))
    (hf : Instr.findNow (.int .i64) (.int .i64 k) es.toList 0 = some none) (hz : (zeroValue et).run P w = .ok z w) :
    (Instr.lookup mty (.map (some r)) (.int .i64 k) true).run P w = .ok (.tuple #[z, .bool false]) w := by
  have hc : (Instr.checkKey es.isEmpty 10000 kt (.int .i64 k)).run P w = .ok () w := MapKept.run_checkKey (k := .int .i64 k) hk (by simp [MapKept.IsKey]) _ 9999
  simp [Instr.lookup, run_underlying hm, MapKept.run_getObj_map hb, hc, MapKept.run_findKey hk hf, hz, Result.andThen]

def RULES : Array MapEntry := #[{ key := .int .i64 0, val := .func (.func 94) #[] #[], born := 0 }, { key := .int .i64 1, val := .func (.func 95) #[] #[], born := 1 }, { key := .int .i64 2, val := .func (.func 96) #[] #[], born := 2 }]

theorem rules_any (w : World) : Calls Try.prog 74 #[] w fun r w' => r = .returned (.map (some w.heap.size)) ∧ w'.heap[w.heap.size]? = some (.map RULES 3) ∧ Below w.heap.size w w' ∧ w'.heap.size = w.heap.size + 1 := by
  have hmm := @run_makeMap Try.prog
  have g0 := heap_alloc_new w (.map #[] 0)
  obtain ⟨W1, u1, g1, b1, z1⟩ := upd_ex (P := Try.prog) (w := w.alloc (.map #[] 0)) 98 3 119 w.heap.size 0 #[] 0 (.func (.func 94) #[] #[]) Try.underlying98 Try.underlying3 g0 rfl (Nat.le_refl _) ((Below.refl _ w).alloc (Nat.le_refl _) _)
  obtain ⟨W2, u2, g2, b2, z2⟩ := upd_ex (P := Try.prog) (w := W1) 98 3 119 w.heap.size 1 _ 1 (.func (.func 95) #[] #[]) Try.underlying98 Try.underlying3 g1 rfl (Nat.le_refl _) b1
  obtain ⟨W3, u3, g3, b3, z3⟩ := upd_ex (P := Try.prog) (w := W2) 98 3 119 w.heap.size 2 _ 2 (.func (.func 96) #[] #[]) Try.underlying98 Try.underlying3 g2 rfl (Nat.le_refl _) b2
  have HZ : Hid (W3.heap.size = w.heap.size + 1) := by show _ = _; rw [z3, z2, z1]; simp
  have HG : Hid (W3.heap[w.heap.size]? = some (.map RULES 3)) := g3
  clear g0 g1 g2 g3 b1 b2 z1 z2 z3
  go_enter Try.func74, Try.ntmps74
  go_wp2
  go_ret
  exact ⟨rfl, HG.out, b3, HZ.out⟩

/-- The three rules. -/
theorem rule1_any (k : Int) (d : ByteArray) (ao : Option Addr) (n cap : Nat) (w : World) :
    Calls Try.prog 94 #[.agg #[.int .i64 k, .string d, .slice ao n cap]] w fun r w' => r = .returned (.bool (decide (d.size = 0 ∧ n = 0))) ∧ Below w.heap.size w w' := by
  by_cases hd : d.size = 0
  · have h1 : d.toList.isEmpty = true := by rw [ba_isEmpty]; simp [hd]
    have HD : Hid (d.size = 0) := hd
    clear hd
    go_enter Try.func94, Try.ntmps94
    go_wp2
    go_ret
    exact ⟨ret_bool (by simp [HD.out]), (Below.refl _ _).alloc (Nat.le_refl _) _⟩
  · have h1 : d.toList.isEmpty = false := by rw [ba_isEmpty]; simp [hd]
    go_enter Try.func94, Try.ntmps94
    go_wp2
    go_ret
    exact ⟨ret_bool (by simp [hd]), (Below.refl _ _).alloc (Nat.le_refl _) _⟩
theorem rule2_any (k : Int) (d : ByteArray) (ao : Option Addr) (n cap : Nat) (w : World) :
    Calls Try.prog 95 #[.agg #[.int .i64 k, .string d, .slice ao n cap]] w fun r w' => r = .returned (.bool (decide (d.size = 4 ∧ n = 0))) ∧ Below w.heap.size w w' := by
  go_enter Try.func95, Try.ntmps95
  go_wp2
  all_goals
    go_ret
    exact ⟨ret_bool (by simp <;> omega), (Below.refl _ _).alloc (Nat.le_refl _) _⟩
theorem rule3_any (k : Int) (d : ByteArray) (tv : Value) (xs : List Int) (w : World) (h : Sl w tv xs) :
    Calls Try.prog 96 #[.agg #[.int .i64 k, .string d, tv]] w fun r w' => r = .returned (.bool (decide (ckE xs = 0 ∧ bareE xs = false ∧ d.size = 0))) ∧ Below w.heap.size w w' := by
  have h1 := h.past (.cells #[.int .i64 k, .string d, tv] 72)
  go_enter Try.func96, Try.ntmps96
  go_wp2_with (go_at_call 97; refine (bare_any _ xs _ h1).mono ?_; rintro e w' ⟨rfl, rfl⟩)
  all_goals
    go_ret
    exact ⟨ret_bool (by simp_all [ba_nil]), (Below.refl _ _).alloc (Nat.le_refl _) _⟩

theorem findNow_0 : Instr.findNow (.int .i64) (.int .i64 0) RULES.toList 0 = some (some (0, .func (.func 94) #[] #[])) := rfl
theorem findNow_1 : Instr.findNow (.int .i64) (.int .i64 1) RULES.toList 0 = some (some (1, .func (.func 95) #[] #[])) := rfl
theorem findNow_2 : Instr.findNow (.int .i64) (.int .i64 2) RULES.toList 0 = some (some (2, .func (.func 96) #[] #[])) := rfl
theorem findNow_x (k : Int) (h0 : k ≠ 0) (h1 : k ≠ 1) (h2 : k ≠ 2) : Instr.findNow (.int .i64) (.int .i64 k) RULES.toList 0 = some none := by
  have e0 : (k == 0) = false := by simpa using h0
  have e1 : (k == 1) = false := by simpa using h1
  have e2 : (k == 2) = false := by simpa using h2
  simp [RULES, Instr.findNow, Instr.sameNow, e0, e1, e2]

theorem rule1_is (k : Int) (d : ByteArray) (tv : Value) (xs : List Int) (w : World) (h : Sl w tv xs) :
    Calls Try.prog 94 #[.agg #[.int .i64 k, .string d, tv]] w fun r w' => r = .returned (.bool (slotOK 0 d xs)) ∧ Below w.heap.size w w' := by
  obtain ⟨ao, cap, rfl⟩ := h.form
  exact rule1_any k d ao xs.length cap w
theorem rule2_is (k : Int) (d : ByteArray) (tv : Value) (xs : List Int) (w : World) (h : Sl w tv xs) :
    Calls Try.prog 95 #[.agg #[.int .i64 k, .string d, tv]] w fun r w' => r = .returned (.bool (slotOK 1 d xs)) ∧ Below w.heap.size w w' := by
  obtain ⟨ao, cap, rfl⟩ := h.form
  exact rule2_any k d ao xs.length cap w
theorem rule3_is (k : Int) (d : ByteArray) (tv : Value) (xs : List Int) (w : World) (h : Sl w tv xs) :
    Calls Try.prog 96 #[.agg #[.int .i64 k, .string d, tv]] w fun r w' => r = .returned (.bool (slotOK 2 d xs)) ∧ Below w.heap.size w w' := rule3_any k d tv xs w h

theorem isRight_any (r clock : Nat) (k : Int) (d : ByteArray) (tv : Value) (xs : List Int) (w : World) (hr : w.heap[r]? = some (.map RULES clock)) (h : Sl w tv xs) :
    Calls Try.prog 75 #[.map (some r), .agg #[.int .i64 k, .string d, tv]] w fun e w' => e = .returned (.bool (slotOK k d xs)) ∧ Below w.heap.size w w' := by
  have hlt : r < w.heap.size := (Array.getElem?_eq_some_iff.1 hr).1
  have HR : Hid ((w.alloc (.cells #[.int .i64 k, .string d, tv] 72)).heap[r]? = some (.map RULES clock)) := (Below.heap_alloc w _ r hlt).trans hr
  have hs := h.past (.cells #[.int .i64 k, .string d, tv] 72)
  clear hr
  have b0 : Below w.heap.size w (w.alloc (.cells #[.int .i64 k, .string d, tv] 72)) := (Below.refl _ _).alloc (Nat.le_refl _) _
  by_cases h0 : k = 0
  · subst h0
    have hl := look_run (P := Try.prog) 98 3 119 r clock RULES 0 _ _ Try.underlying98 Try.underlying3 HR.out findNow_0
    go_enter Try.func75, Try.ntmps75
    go_wp2_with (go_at_call 94; refine (rule1_is 0 d tv xs _ hs).mono ?_; rintro e w1 ⟨rfl, b1⟩)
    go_ret
    exact ⟨rfl, Below.on b0 b1⟩
  by_cases h1 : k = 1
  · subst h1
    clear h0
    have hl := look_run (P := Try.prog) 98 3 119 r clock RULES 1 _ _ Try.underlying98 Try.underlying3 HR.out findNow_1
    go_enter Try.func75, Try.ntmps75
    go_wp2_with (go_at_call 95; refine (rule2_is 1 d tv xs _ hs).mono ?_; rintro e w1 ⟨rfl, b1⟩)
    go_ret
    exact ⟨rfl, Below.on b0 b1⟩
  by_cases h2 : k = 2
  · subst h2
    clear h0 h1
    have hl := look_run (P := Try.prog) 98 3 119 r clock RULES 2 _ _ Try.underlying98 Try.underlying3 HR.out findNow_2
    go_enter Try.func75, Try.ntmps75
    go_wp2_with (go_at_call 96; refine (rule3_is 2 d tv xs _ hs).mono ?_; rintro e w1 ⟨rfl, b1⟩)
    go_ret
    exact ⟨rfl, Below.on b0 b1⟩
  · have hl := look_none (P := Try.prog) 98 3 119 r clock RULES k .nilFunc Try.underlying98 Try.underlying3 HR.out (findNow_x k h0 h1 h2) (by kernel_rfl)
    have HF : Hid (slotOK k d xs = false) := by show _ = _; unfold slotOK; rw [if_neg h0, if_neg h1, if_neg h2]
    go_enter Try.func75, Try.ntmps75
    go_wp2
    go_ret
    exact ⟨by rw [HF.out]; rfl, b0⟩
end Go.Proofs.Ytehleeibgkpjmae
/- Lists of slots: what it means that a slice value holds them; contracts of checkAll, Grab, Used. -/
namespace Go.Proofs.Ytehleeibgkpjmae
open Go.RowKit
set_option maxRecDepth 20000

/-- A slot as data: kind, data, table. -/
abbrev SlotD : Type := Int × ByteArray × List Int
def okD (s : SlotD) : Bool := slotOK s.1 s.2.1 s.2.2

/-- The slot s lies in the world w from place off of block b on. -/
def SlAt (w : World) (b off : Nat) (s : SlotD) : Prop :=
  ∃ tv, w.cell? ⟨b, off, none⟩ = some (.int .i64 s.1) ∧ w.cell? ⟨b, off + 1, none⟩ = some (.string s.2.1) ∧ w.cell? ⟨b, off + 1 + 1, none⟩ = some tv ∧ Sl w tv s.2.2

def Slots (w : World) (v : Value) (L : List SlotD) : Prop :=
  ∃ ao cap, v = .slice ao L.length cap ∧ L.length ≤ maxLen ∧ L.length ≤ cap ∧ (L ≠ [] → ∃ b off, ao = some ⟨b, off, none⟩ ∧ b < w.heap.size ∧ ∀ j, (h : j < L.length) → SlAt w b (off + j * 3) L[j])

theorem SlAt.below {w w1 : World} {b off : Nat} {s : SlotD} (h : SlAt w b off s) (hlt : b < w.heap.size) (hb : Below w.heap.size w w1) : SlAt w1 b off s := by
  obtain ⟨tv, h1, h2, h3, h4⟩ := h
  exact ⟨tv, (hb.cell (p := ⟨b, off, none⟩) hlt).trans h1, (hb.cell (p := ⟨b, off + 1, none⟩) hlt).trans h2, (hb.cell (p := ⟨b, off + 1 + 1, none⟩) hlt).trans h3, h4.below hb⟩
theorem Slots.below {w w1 : World} {v : Value} {L : List SlotD} (h : Slots w v L) (hb : Below w.heap.size w w1) : Slots w1 v L := by
  obtain ⟨ao, cap, hv, hm, hcp, hc⟩ := h
  refine ⟨ao, cap, hv, hm, hcp, fun hne => ?_⟩
  obtain ⟨b, off, ha, hlt, hcell⟩ := hc hne
  exact ⟨b, off, ha, Nat.lt_of_lt_of_le hlt hb.size, fun j hj => (hcell j hj).below hlt hb⟩

/-- checkAll's answer. -/
def slotsE (L : List SlotD) : Int := if 1 ≤ L.length ∧ L.length ≤ 40 then (if L.all okD = true ∧ (L.headD default).1 = 0 then 0 else 1) else 2

theorem slotsE_bad {L : List SlotD} (h1 : 1 ≤ L.length) (h40 : L.length ≤ 40) {j : Nat} (hj : j < L.length) (h : okD L[j] = false) : slotsE L = 1 := by
  unfold slotsE
  rw [if_pos ⟨h1, h40⟩, if_neg]
  rintro ⟨ha, _⟩
  rw [List.all_eq_true] at ha
  have := ha _ (List.getElem_mem hj)
  rw [h] at this; cases this
theorem headD_eq {L : List SlotD} (h : 0 < L.length) : L.headD default = L[0] := by
  cases L with
  | nil => simp at h
  | cons a r => rfl
theorem slotsE_ok {L : List SlotD} (h1 : 1 ≤ L.length) (h40 : L.length ≤ 40) (h : ∀ j, (hj : j < L.length) → okD L[j] = true) (h0 : (L[0]'h1).1 = 0) : slotsE L = 0 := by
  unfold slotsE
  rw [if_pos ⟨h1, h40⟩, if_pos]
  refine ⟨?_, by rw [headD_eq h1]; exact h0⟩
  rw [List.all_eq_true]
  intro x hx
  obtain ⟨j, hj, rfl⟩ := List.getElem_of_mem hx
  exact h j hj
theorem slotsE_head {L : List SlotD} (h1 : 1 ≤ L.length) (h40 : L.length ≤ 40) (h0 : (L[0]'h1).1 ≠ 0) : slotsE L = 1 := by
  unfold slotsE
  rw [if_pos ⟨h1, h40⟩, if_neg]
  rintro ⟨_, hh⟩
  rw [headD_eq h1] at hh
  exact h0 hh

set_option maxHeartbeats 1000000 in
theorem checkAll_at (b off cap n : Nat) (L : List SlotD) (w : World) (hn : L.length = n) (h1 : 1 ≤ n) (h40 : n ≤ 40) (hlt : b < w.heap.size) (hc : ∀ j, (h : j < L.length) → SlAt w b (off + j * 3) L[j]) :
    Calls Try.prog 39 #[.slice (some ⟨b, off, none⟩) n cap] w fun r w' => r = .returned (.int .i64 (slotsE L)) ∧ Below w.heap.size w w' := by
  have HC : Hid (∀ j, (h : j < L.length) → SlAt w b (off + j * 3) L[j]) := hc
  have HN : Hid (L.length = n) := hn
  clear hc hn
  have g1 : ¬ (n : Int) < 1 := by omega
  have g2 : ¬ (40 : Int) < (n : Int) := by omega
  go_enter Try.func39, Try.ntmps39
  go_wp2_with (go_at_call 74; refine (rules_any _).mono ?_; rintro e w1 ⟨rfl, hr, b1, z1⟩; have HR : Hid (w1.heap[w.heap.size]? = some (.map RULES 3)) := hr; clear hr)
  go_loopw [17] (fun i wr => ∃ k : Nat, k ≤ n ∧ i = .int .i64 k ∧ (∀ j, (h : j < L.length) → j < k → okD L[j] = true) ∧ Hid (wr.heap[w.heap.size]? = some (.map RULES 3)) ∧ Below w.heap.size w wr ∧ w.heap.size < wr.heap.size) (fun i _ => n - (intOf i).toNat)
  case atStart => exact ⟨0, Nat.zero_le _, rfl, fun j h hj => absurd hj (by omega), HR, b1, by omega⟩
  case round =>
    obtain ⟨k, hk, rfl, hall, HRr, hbel, hsz⟩ := hrel
    have HA : Hid (∀ j, (h : j < L.length) → j < k → okD L[j] = true) := hall
    clear hall
    by_cases hlk : k < n
    · obtain ⟨s, hs⟩ : ∃ s, s = L[k]'(by rw [HN.out]; exact hlk) := ⟨_, rfl⟩
      obtain ⟨kk, dd, tt⟩ := s
      have hS : SlAt w b (off + k * 3) (kk, dd, tt) := by rw [hs]; exact HC.out k _
      obtain ⟨tv, c1, c2, c3, hsl⟩ := hS
      obtain ⟨ta, tc, htv⟩ := hsl.form
      subst htv
      have HS : Hid ((kk, dd, tt) = L[k]'(by rw [HN.out]; exact hlk)) := hs
      have c1 : wr.cell? ⟨b, off + k * 3, none⟩ = some (.int .i64 kk) := (hbel.cell (p := ⟨b, off + k * 3, none⟩) hlt).trans c1
      have c2 : wr.cell? ⟨b, off + k * 3 + 1, none⟩ = some (.string dd) := (hbel.cell (p := ⟨b, off + k * 3 + 1, none⟩) hlt).trans c2
      have c3 : wr.cell? ⟨b, off + k * 3 + 1 + 1, none⟩ = some (.slice ta tt.length tc) := (hbel.cell (p := ⟨b, off + k * 3 + 1 + 1, none⟩) hlt).trans c3
      have hslr : Sl wr (.slice ta tt.length tc) tt := hsl.below hbel
      clear hs hsl
      have hr1 : (wr.alloc (.cells #[.int .i64 kk, .string dd, .slice ta tt.length tc] 72)).heap[w.heap.size]? = some (.map RULES 3) := (Below.heap_alloc wr _ _ hsz).trans HRr.out
      have HR1 : Hid ((wr.alloc (.cells #[.int .i64 kk, .string dd, .slice ta tt.length tc] 72)).heap[w.heap.size]? = some (.map RULES 3)) := hr1
      clear hr1
      cases hE : slotOK kk dd tt with
      | true =>
        go_wp2_with fail
        refine (isRight_any _ 3 kk dd _ tt _ HR1.out (hslr.past _)).mono ?_
        rintro e w2 ⟨rfl, b2⟩
        go_wp2_with fail
        go_roundw
        case rel => exact ⟨k + 1, by omega, by go_num, fun j h hj => by
          by_cases e : j = k
          · subst e; rw [← HS.out]; exact hE
          · exact HA.out j h (by omega), (b2.block _ (by simp; omega)).trans HR1.out, Below.on' hbel ((Below.refl _ _).alloc (Nat.le_refl _) _) b2, by have := b2.size; simp at this; omega⟩
        case measure => simp [intOf]; omega
      | false =>
        go_wp2_with fail
        refine (isRight_any _ 3 kk dd _ tt _ HR1.out (hslr.past _)).mono ?_
        rintro e w2 ⟨rfl, b2⟩
        go_wp2_with fail
        go_ret
        exact ⟨ret_int (slotsE_bad (by rw [HN.out]; exact h1) (by rw [HN.out]; exact h40) (by rw [HN.out]; exact hlk) (by rw [← HS.out]; exact hE)).symm, Below.on' hbel ((Below.refl _ _).alloc (Nat.le_refl _) _) b2⟩
    · have e4 : k = n := by omega
      subst e4
      obtain ⟨s, hs⟩ : ∃ s, s = L[0]'(by rw [HN.out]; exact h1) := ⟨_, rfl⟩
      obtain ⟨kk, dd, tt⟩ := s
      have hS : SlAt w b (off + 0 * 3) (kk, dd, tt) := by rw [hs]; exact HC.out 0 _
      obtain ⟨tv, c1, _, _, _⟩ := hS
      have c1 : wr.cell? ⟨b, off, none⟩ = some (.int .i64 kk) := (hbel.cell (p := ⟨b, off, none⟩) hlt).trans (by simpa using c1)
      have HS : Hid ((kk, dd, tt) = L[0]'(by rw [HN.out]; exact h1)) := hs
      clear hs
      by_cases h0 : kk = 0
      · have h0' : (kk != 0) = false := by simp [h0]
        have H0 : Hid (kk = 0) := h0
        clear h0
        go_wp2_with fail
        go_ret
        exact ⟨ret_int (slotsE_ok (by rw [HN.out]; exact h1) (by rw [HN.out]; exact h40) (fun j h => HA.out j h (by rw [HN.out] at h; exact h)) (by rw [← HS.out]; exact H0.out)).symm, hbel⟩
      · have h0' : (kk != 0) = true := by simp [h0]
        go_wp2_with fail
        go_ret
        exact ⟨ret_int (slotsE_head (by rw [HN.out]; exact h1) (by rw [HN.out]; exact h40) (by rw [← HS.out]; exact h0)).symm, hbel⟩

theorem checkAll_no (ao : Option Addr) (n cap : Nat) (w : World) (h : n < 1 ∨ 40 < n) (hm : n ≤ 9223372036854775807) :
    Calls Try.prog 39 #[.slice ao n cap] w fun r w' => r = .returned (.int .i64 2) ∧ Below w.heap.size w w' := by
  rcases h with h | h
  · have g : (n : Int) < 1 := by omega
    go_enter Try.func39, Try.ntmps39
    go_wp2
    go_ret
    exact ⟨rfl, Below.refl _ _⟩
  · have g : ¬ (n : Int) < 1 := by omega
    have g' : (40 : Int) < (n : Int) := by omega
    go_enter Try.func39, Try.ntmps39
    go_wp2
    go_ret
    exact ⟨rfl, Below.refl _ _⟩

theorem checkAll_any (v : Value) (L : List SlotD) (w : World) (h : Slots w v L) :
    Calls Try.prog 39 #[v] w fun r w' => r = .returned (.int .i64 (slotsE L)) ∧ Below w.heap.size w w' := by
  obtain ⟨ao, cap, rfl, hm, hcp, hc⟩ := h
  unfold maxLen at hm
  by_cases hn : 1 ≤ L.length ∧ L.length ≤ 40
  · obtain ⟨b, off, rfl, hlt, hcell⟩ := hc (by intro e; rw [e] at hn; simp at hn)
    exact checkAll_at b off cap _ L w rfl hn.1 hn.2 hlt hcell
  · have e : slotsE L = 2 := by unfold slotsE; rw [if_neg hn]
    rw [e]
    exact checkAll_no ao _ cap w (by omega) (by omega)
end Go.Proofs.Ytehleeibgkpjmae
/- Contract of Used. -/
namespace Go.Proofs.Ytehleeibgkpjmae
open Go.RowKit
set_option maxRecDepth 20000

theorem slotsE_parts {L : List SlotD} (h : slotsE L = 0) : 1 ≤ L.length ∧ L.length ≤ 40 := by
  unfold slotsE at h
  split at h
  · assumption
  · simp at h
theorem slotsE_012 (L : List SlotD) : slotsE L = 0 ∨ slotsE L = 1 ∨ slotsE L = 2 := by
  unfold slotsE
  split
  · split <;> simp
  · simp

theorem Slots.open {w : World} {v : Value} {L : List SlotD} (h : Slots w v L) (h1 : 1 ≤ L.length) : ∃ b off cap, v = .slice (some ⟨b, off, none⟩) L.length cap ∧ L.length ≤ cap ∧ b < w.heap.size ∧ ∀ j, (h : j < L.length) → SlAt w b (off + j * 3) L[j] := by
  obtain ⟨ao, cap, rfl, hm, hcp, hc⟩ := h
  obtain ⟨b, off, rfl, hlt, hcell⟩ := hc (by intro e; rw [e] at h1; simp at h1)
  exact ⟨b, off, cap, rfl, hcp, hlt, hcell⟩

theorem used_bad (v : Value) (L : List SlotD) (E : Int) (w : World) (h : Slots w v L) (hE : slotsE L = E) (hne : (E != 0) = true) :
    Calls Try.prog 11 #[v] w fun r w' => r = .returned (.tuple #[.int .i64 0, .int .i64 E]) ∧ Below w.heap.size w w' := by
  have HE : Hid (slotsE L = E) := hE
  clear hE
  go_enter Try.func11, Try.ntmps11
  go_wp2_with (go_at_call 39; refine (checkAll_any _ L _ h).mono ?_; rintro e w1 ⟨he, b1⟩; rw [HE.out] at he; subst he)
  go_ret2
  exact ⟨rfl, b1⟩

/-- How many are not free. -/
def usedN (L : List SlotD) : Nat := L.countP (fun s => s.1 != 0)
theorem usedN_take_succ {L : List SlotD} {k : Nat} (h : k < L.length) : usedN (L.take (k + 1)) = usedN (L.take k) + if (L[k].1 != 0) = true then 1 else 0 := by
  unfold usedN
  rw [List.take_succ_eq_append_getElem h, List.countP_append]
  simp [List.countP_cons]
theorem usedN_le (L : List SlotD) : usedN L ≤ L.length := List.countP_le_length

set_option maxHeartbeats 1000000 in
theorem used_at (b off cap n : Nat) (L : List SlotD) (w : World) (hn : L.length = n) (h1 : 1 ≤ n) (h40 : n ≤ 40) (hlt : b < w.heap.size) (hc : ∀ j, (h : j < L.length) → SlAt w b (off + j * 3) L[j]) (hs : Slots w (.slice (some ⟨b, off, none⟩) n cap) L) (hE : slotsE L = 0) :
    Calls Try.prog 11 #[.slice (some ⟨b, off, none⟩) n cap] w fun r w' => r = .returned (.tuple #[.int .i64 (usedN L), .int .i64 0]) ∧ Below w.heap.size w w' := by
  have HC : Hid (∀ j, (h : j < L.length) → SlAt w b (off + j * 3) L[j]) := hc
  have HN : Hid (L.length = n) := hn
  have HE : Hid (slotsE L = 0) := hE
  clear hc hn hE
  go_enter Try.func11, Try.ntmps11
  go_wp2_with (go_at_call 39; refine (checkAll_any _ L _ hs).mono ?_; rintro e w1 ⟨he, b1⟩; rw [HE.out] at he; subst he)
  go_loopw [5, 15] (fun m i wr => ∃ k u : Nat, k ≤ n ∧ u ≤ k ∧ i = .int .i64 k ∧ m = .int .i64 u ∧ Hid (u = usedN (L.take k)) ∧ Below w.heap.size w wr) (fun _ i _ => n - (intOf i).toNat)
  case atStart => exact ⟨0, 0, by omega, by omega, rfl, rfl, rfl, b1⟩
  case round =>
    obtain ⟨k, u, hk, hu, rfl, rfl, HU, hbel⟩ := hrel
    by_cases hlk : k < n
    · obtain ⟨s, hs'⟩ : ∃ s, s = L[k]'(by rw [HN.out]; exact hlk) := ⟨_, rfl⟩
      obtain ⟨kk, dd, tt⟩ := s
      have hS : SlAt w b (off + k * 3) (kk, dd, tt) := by rw [hs']; exact HC.out k _
      obtain ⟨tv, c1, c2, c3, hsl⟩ := hS
      obtain ⟨ta, tc, htv⟩ := hsl.form
      subst htv
      have c1 : wr.cell? ⟨b, off + k * 3, none⟩ = some (.int .i64 kk) := (hbel.cell (p := ⟨b, off + k * 3, none⟩) hlt).trans c1
      have c2 : wr.cell? ⟨b, off + k * 3 + 1, none⟩ = some (.string dd) := (hbel.cell (p := ⟨b, off + k * 3 + 1, none⟩) hlt).trans c2
      have c3 : wr.cell? ⟨b, off + k * 3 + 1 + 1, none⟩ = some (.slice ta tt.length tc) := (hbel.cell (p := ⟨b, off + k * 3 + 1 + 1, none⟩) hlt).trans c3
      have HS : Hid ((kk, dd, tt) = L[k]'(by rw [HN.out]; exact hlk)) := hs'
      have hstep := usedN_take_succ (L := L) (k := k) (by rw [HN.out]; exact hlk)
      rw [← hs'] at hstep
      have HT : Hid (usedN (L.take (k + 1)) = usedN (L.take k) + if (kk != 0) = true then 1 else 0) := hstep
      clear hs' hsl hstep
      by_cases h0 : kk = 0
      · have h0' : (kk != 0) = false := by simp [h0]
        have H0 : Hid (kk = 0) := h0
        clear h0
        go_wp2
        go_roundw
        case rel => exact ⟨k + 1, u, by omega, by omega, by go_num, rfl, by show _ = _; rw [HT.out, ← HU.out, H0.out]; rfl, hbel.alloc hbel.size _⟩
        case measure => simp [intOf]; omega
      · have h0' : (kk != 0) = true := by simp [h0]
        go_wp2
        go_roundw
        case rel => exact ⟨k + 1, u + 1, by omega, by omega, by go_num, by go_num, by show _ = _; rw [HT.out, ← HU.out, h0', if_pos rfl], hbel.alloc hbel.size _⟩
        case measure => simp [intOf]; omega
    · have e4 : k = n := by omega
      subst e4
      have HU' : Hid (u = usedN L) := by show _ = _; rw [HU.out, List.take_of_length_le (by rw [HN.out]; exact Nat.le_refl _)]
      clear HU
      go_wp2
      go_ret2
      exact ⟨by rw [← HU'.out]; rfl, hbel⟩

theorem used_ok (v : Value) (L : List SlotD) (w : World) (h : Slots w v L) (hE : slotsE L = 0) :
    Calls Try.prog 11 #[v] w fun r w' => r = .returned (.tuple #[.int .i64 (usedN L), .int .i64 0]) ∧ Below w.heap.size w w' := by
  have hs := h
  obtain ⟨b, off, cap, rfl, hcp, hlt, hcell⟩ := h.open (slotsE_parts hE).1
  exact used_at b off cap _ L w rfl (slotsE_parts hE).1 (slotsE_parts hE).2 hlt hcell hs hE
theorem used_is {v : Value} {L : List SlotD} {w : World} (h : Slots w v L) (hE : slotsE L = 0) {u : Nat} (hu : usedN L = u) :
    Calls Try.prog 11 #[v] w fun r w' => r = .returned (.tuple #[.int .i64 u, .int .i64 0]) ∧ Below w.heap.size w w' := by subst hu; exact used_ok v L w h hE

end Go.Proofs.Ytehleeibgkpjmae
/- Images: what they are as data, what it means that a value is one in a world, and what Shape, Counts, Check and Look answer of them. -/
namespace Go.Proofs.Ytehleeibgkpjmae
open Go.RowKit
set_option maxRecDepth 20000

/-- A snapshot as data: name, guest, root. -/
abbrev SnapD : Type := ByteArray × Int × List Int
structure ImgD where
  guest : Int
  root : List Int
  slots : List SlotD
  refs : List Int
  snaps : List SnapD

def SnAt (w : World) (b off : Nat) (s : SnapD) : Prop :=
  ∃ rv, w.cell? ⟨b, off, none⟩ = some (.string s.1) ∧ w.cell? ⟨b, off + 1, none⟩ = some (.int .i64 s.2.1) ∧ w.cell? ⟨b, off + 1 + 1, none⟩ = some rv ∧ Sl w rv s.2.2
def Snaps (w : World) (v : Value) (L : List SnapD) : Prop :=
  ∃ ao cap, v = .slice ao L.length cap ∧ L.length ≤ maxLen ∧ L.length ≤ cap ∧ (L ≠ [] → ∃ b off, ao = some ⟨b, off, none⟩ ∧ b < w.heap.size ∧ ∀ j, (h : j < L.length) → SnAt w b (off + j * 3) L[j])
def Img (w : World) (v : Value) (m : ImgD) : Prop :=
  ∃ rv sv fv nv, v = .agg #[.int .i64 m.guest, rv, sv, fv, nv] ∧ Sl w rv m.root ∧ Slots w sv m.slots ∧ Sl w fv m.refs ∧ Snaps w nv m.snaps

theorem SnAt.below {w w1 : World} {b off : Nat} {s : SnapD} (h : SnAt w b off s) (hlt : b < w.heap.size) (hb : Below w.heap.size w w1) : SnAt w1 b off s := by
  obtain ⟨tv, h1, h2, h3, h4⟩ := h
  exact ⟨tv, (hb.cell (p := ⟨b, off, none⟩) hlt).trans h1, (hb.cell (p := ⟨b, off + 1, none⟩) hlt).trans h2, (hb.cell (p := ⟨b, off + 1 + 1, none⟩) hlt).trans h3, h4.below hb⟩
theorem Snaps.below {w w1 : World} {v : Value} {L : List SnapD} (h : Snaps w v L) (hb : Below w.heap.size w w1) : Snaps w1 v L := by
  obtain ⟨ao, cap, hv, hm, hcp, hc⟩ := h
  refine ⟨ao, cap, hv, hm, hcp, fun hne => ?_⟩
  obtain ⟨b, off, ha, hlt, hcell⟩ := hc hne
  exact ⟨b, off, ha, Nat.lt_of_lt_of_le hlt hb.size, fun j hj => (hcell j hj).below hlt hb⟩
theorem Img.below {w w1 : World} {v : Value} {m : ImgD} (h : Img w v m) (hb : Below w.heap.size w w1) : Img w1 v m := by
  obtain ⟨rv, sv, fv, nv, hv, h1, h2, h3, h4⟩ := h
  exact ⟨rv, sv, fv, nv, hv, h1.below hb, h2.below hb, h3.below hb, h4.below hb⟩
theorem Slots.form {w : World} {v : Value} {L : List SlotD} (h : Slots w v L) : ∃ ao cap, v = .slice ao L.length cap := by
  obtain ⟨ao, cap, hv, _⟩ := h; exact ⟨ao, cap, hv⟩
theorem Snaps.form {w : World} {v : Value} {L : List SnapD} (h : Snaps w v L) : ∃ ao cap, v = .slice ao L.length cap := by
  obtain ⟨ao, cap, hv, _⟩ := h; exact ⟨ao, cap, hv⟩
theorem Snaps.small {w : World} {v : Value} {L : List SnapD} (h : Snaps w v L) : L.length ≤ 9223372036854775807 := by
  obtain ⟨ao, cap, hv, hm, _⟩ := h; unfold maxLen at hm; omega
theorem Slots.small {w : World} {v : Value} {L : List SlotD} (h : Slots w v L) : L.length ≤ 9223372036854775807 := by
  obtain ⟨ao, cap, hv, hm, _⟩ := h; unfold maxLen at hm; omega
theorem Sl.small {w : World} {v : Value} {xs : List Int} (h : Sl w v xs) : xs.length ≤ 9223372036854775807 := by
  obtain ⟨ao, cap, hv, hm, _⟩ := h; unfold maxLen at hm; omega
theorem Snaps.open {w : World} {v : Value} {L : List SnapD} (h : Snaps w v L) (h1 : 1 ≤ L.length) : ∃ b off cap, v = .slice (some ⟨b, off, none⟩) L.length cap ∧ L.length ≤ cap ∧ b < w.heap.size ∧ ∀ j, (h : j < L.length) → SnAt w b (off + j * 3) L[j] := by
  obtain ⟨ao, cap, rfl, hm, hcp, hc⟩ := h
  obtain ⟨b, off, rfl, hlt, hcell⟩ := hc (by intro e; rw [e] at h1; simp at h1)
  exact ⟨b, off, cap, rfl, hcp, hlt, hcell⟩
theorem Sl.open {w : World} {v : Value} {xs : List Int} (h : Sl w v xs) (h1 : 1 ≤ xs.length) : ∃ b off cap, v = .slice (some ⟨b, off, none⟩) xs.length cap ∧ xs.length ≤ cap ∧ b < w.heap.size ∧ ∀ j, j < xs.length → w.cell? ⟨b, off + j, none⟩ = some (.int .i64 (xs.getD j 0)) := by
  obtain ⟨ao, cap, rfl, hm, hcp, hc⟩ := h
  obtain ⟨b, off, rfl, hlt, hcell⟩ := hc (by intro e; rw [e] at h1; simp at h1)
  exact ⟨b, off, cap, rfl, hcp, hlt, hcell⟩

/-! ### What is answered -/
def isLetter (b : UInt8) : Bool := decide (97 ≤ b.toNat ∧ b.toNat ≤ 122)
def isNm (s : ByteArray) : Bool := decide (1 ≤ s.size ∧ s.size ≤ 8) && s.data.toList.all isLetter
/-- The first k names are right, and rise. -/
def nmAt (L : List SnapD) (k : Nat) : Bool := isNm (L.getD k default).1 && (k == 0 || Op.bytesLess (L.getD (k - 1) default).1.toList (L.getD k default).1.toList)
def namesOK (L : List SnapD) : Bool := (List.range L.length).all (nmAt L)
def isKd (L : List SlotD) (k kind : Int) : Bool := decide (0 ≤ k ∧ k < L.length) && ((L.getD k.toNat default).1 == kind)
def tabE (L : List SlotD) (e : Int) : Bool := !(e != 0 && e != -1 && !isKd L e 1)
def tabFit (L : List SlotD) : Bool := L.all (fun s => s.2.2.all (tabE L))
def rootE (L : List SlotD) (k : Int) : Bool := !(k != 0 && !isKd L k 2)
def tabOf (L : List SlotD) (k : Int) : List Int := (L.getD k.toNat default).2.2
def lastFit (L : List SlotD) (g : Int) (r : List Int) : Bool :=
  g % 4 == 0 || (r.getD (r.length - 1) 0 == 0 || ((tabOf L (r.getD (r.length - 1) 0)).drop (g % 4).toNat).all (fun k => k == 0))
def rootFit (L : List SlotD) (g : Int) (r : List Int) : Bool := decide ((r.length : Int) = (g + 3) / 4) && (r.all (rootE L) && lastFit L g r)
/-- All Roots: the image's, as if it were a snapshot without a name, and the snapshots'. -/
def rootsOf (m : ImgD) : List SnapD := (⟨#[]⟩, m.guest, m.root) :: m.snaps
def guestOK (g : Int) : Bool := decide (0 ≤ g ∧ g ≤ 16)
def shapeE (m : ImgD) : Int :=
  if 3 < m.snaps.length then 2 else if slotsE m.slots ≠ 0 then slotsE m.slots else if m.refs.length ≠ m.slots.length ∨ namesOK m.snaps = false then 1
  else if (rootsOf m).all (fun s => guestOK s.2.1) = false then 3 else if tabFit m.slots = false then 1 else if (rootsOf m).all (fun s => rootFit m.slots s.2.1 s.2.2) = false then 1 else 0
end Go.Proofs.Ytehleeibgkpjmae
/- An image of one's own: each of its lists, each table and each snapshot's Root lies in a row of its own, in memory that came since B. What stays, and what turns, when something is stored. -/
namespace Go.Proofs.Ytehleeibgkpjmae
open Go.RowKit
set_option maxRecDepth 20000

/-- The lists of an image, by name: Root, Slots, Refs, Snaps, a slot's table, a snapshot's Root. -/
structure Nm where
  kind : Nat
  ix : Nat
abbrev Nm.root : Nm := ⟨0, 0⟩
abbrev Nm.slots : Nm := ⟨1, 0⟩
abbrev Nm.refs : Nm := ⟨2, 0⟩
abbrev Nm.snaps : Nm := ⟨3, 0⟩
abbrev Nm.tab (j : Nat) : Nm := ⟨4, j⟩
abbrev Nm.sr (j : Nat) : Nm := ⟨5, j⟩
def Live (m : ImgD) (a : Nm) : Prop := (a.kind < 4 ∧ a.ix = 0) ∨ (a.kind = 4 ∧ a.ix < m.slots.length) ∨ (a.kind = 5 ∧ a.ix < m.snaps.length)
theorem Live.cases {m : ImgD} {a : Nm} (h : Live m a) : a = .root ∨ a = .slots ∨ a = .refs ∨ a = .snaps ∨ (∃ j, a = .tab j ∧ j < m.slots.length) ∨ ∃ j, a = .sr j ∧ j < m.snaps.length := by
  obtain ⟨k, j⟩ := a
  rcases h with ⟨h1, h2⟩ | ⟨h1, h2⟩ | ⟨h1, h2⟩
  · dsimp only at h1 h2
    subst h2
    match k, h1 with
    | 0, _ => exact .inl rfl
    | 1, _ => exact .inr (.inl rfl)
    | 2, _ => exact .inr (.inr (.inl rfl))
    | 3, _ => exact .inr (.inr (.inr (.inl rfl)))
  · dsimp only at h1 h2; subst h1; exact .inr (.inr (.inr (.inr (.inl ⟨j, rfl, h2⟩))))
  · dsimp only at h1 h2; subst h1; exact .inr (.inr (.inr (.inr (.inr ⟨j, rfl, h2⟩))))
theorem Live.root (m : ImgD) : Live m .root := .inl ⟨by decide, rfl⟩
theorem Live.slots (m : ImgD) : Live m .slots := .inl ⟨by decide, rfl⟩
theorem Live.refs (m : ImgD) : Live m .refs := .inl ⟨by decide, rfl⟩
theorem Live.snaps (m : ImgD) : Live m .snaps := .inl ⟨by decide, rfl⟩
theorem Live.tab {m : ImgD} {j : Nat} (h : j < m.slots.length) : Live m (.tab j) := .inr (.inl ⟨rfl, h⟩)
theorem Live.sr {m : ImgD} {j : Nat} (h : j < m.snaps.length) : Live m (.sr j) := .inr (.inr ⟨rfl, h⟩)
theorem live_iff {m m' : ImgD} (h1 : m'.slots.length = m.slots.length) (h2 : m'.snaps.length = m.snaps.length) (b : Nm) : Live m' b ↔ Live m b := by unfold Live; rw [h1, h2]
def flatS (L : List SlotD) (tv : Nat → Value) : List Value := (List.range L.length).flatMap (fun j => [.int .i64 (L.getD j default).1, .string (L.getD j default).2.1, tv j])
def flatN (S : List SnapD) (qv : Nat → Value) : List Value := (List.range S.length).flatMap (fun j => [.string (S.getD j default).1, .int .i64 (S.getD j default).2.1, qv j])
def ints (l : List Int) : List Value := l.map (Value.int .i64)
/-- What row a holds. -/
def rowT (a : Nm) : TypeId := match a.kind with | 1 => 72 | 3 => 64 | _ => 3
def rowS (a : Nm) : Nat := match a.kind with | 1 => 3 | 3 => 3 | _ => 1
def rowN (m : ImgD) (a : Nm) : Nat := match a.kind with
  | 0 => m.root.length
  | 1 => m.slots.length
  | 2 => m.refs.length
  | 3 => m.snaps.length
  | 4 => (m.slots.getD a.ix default).2.2.length
  | _ => (m.snaps.getD a.ix default).2.2.length
def rowV (m : ImgD) (val : Nm → Value) (a : Nm) : List Value := match a.kind with
  | 0 => ints m.root
  | 1 => flatS m.slots (fun j => val (.tab j))
  | 2 => ints m.refs
  | 3 => flatN m.snaps (fun j => val (.sr j))
  | 4 => ints (m.slots.getD a.ix default).2.2
  | _ => ints (m.snaps.getD a.ix default).2.2
def imgV (g : Int) (val : Nm → Value) : Value := .agg #[.int .i64 g, val .root, val .slots, val .refs, val .snaps]

structure OI (W : World) (B : Nat) (val : Nm → Value) (m : ImgD) : Prop where
  row : ∀ a, Live m a → W.ownsRow B (rowT a) (rowS a) (val a) (rowN m a) (rowV m val a)
  apart : ∀ a b, Live m a → Live m b → a ≠ b → ∀ g, (val a).ownBlock = some g → (val b).ownBlock ≠ some g

theorem OI.keep {W W' : World} {B : Nat} {val : Nm → Value} {m : ImgD} (h : OI W B val m) (hk : ∀ g, B ≤ g → g < W.heap.size → W'.heap[g]? = W.heap[g]?) : OI W' B val m := by
  refine ⟨fun a ha => ?_, h.apart⟩
  have hr := h.row a ha
  refine ⟨hr.1, ?_⟩
  rcases hr.2 with hn | ⟨g, cap, cur, hv, hb, hg, rest⟩
  · exact .inl hn
  · exact .inr ⟨g, cap, cur, hv, hb, (hk g hb (Array.getElem?_eq_some_iff.1 hg).1).trans hg, rest⟩
theorem OI.below {W W' : World} {B : Nat} {val : Nm → Value} {m : ImgD} (h : OI W B val m) (hb : Below W.heap.size W W') : OI W' B val m := h.keep fun g _ hg => hb.block g hg
theorem OI.alloc {W : World} {B : Nat} {val : Nm → Value} {m : ImgD} (h : OI W B val m) (o : Obj) : OI (W.alloc o) B val m := h.below ((Below.refl _ _).alloc (Nat.le_refl _) o)
theorem OI.drew {W : World} {B : Nat} {val : Nm → Value} {m : ImgD} (h : OI W B val m) : OI W.drew B val m := ⟨fun a ha => (h.row a ha).drew, h.apart⟩

/-! ### From rows to images -/
theorem ints_length (l : List Int) : (ints l).length = l.length := by simp [ints]
theorem row_sl {W : World} {B : Nat} {v : Value} {l : List Int} (h : W.ownsRow B 3 1 v l.length (ints l)) : Sl W v l := by
  rcases h.2 with ⟨rfl, hn⟩ | ⟨g, cap, cur, rfl, _⟩
  · have : l = [] := List.eq_nil_of_length_eq_zero hn
    subst this; exact Sl.nil W
  · exact Sl_of_own h
theorem flat3_get (f : Nat → Value × Value × Value) : ∀ (n j i : Nat), j < n → i < 3 → ((List.range n).flatMap (fun j => [(f j).1, (f j).2.1, (f j).2.2]))[j * 3 + i]? = some (if i = 0 then (f j).1 else if i = 1 then (f j).2.1 else (f j).2.2)
  | 0, j, i, hj, _ => absurd hj (by omega)
  | n + 1, j, i, hj, hi => by
    have hl : ∀ n, ((List.range n).flatMap (fun j => [(f j).1, (f j).2.1, (f j).2.2])).length = n * 3 := fun n => by
      induction n with
      | zero => rfl
      | succ n ih => rw [List.range_succ, List.flatMap_append, List.length_append, ih]; simp; omega
    rw [List.range_succ, List.flatMap_append]
    by_cases e : j < n
    · rw [List.getElem?_append_left (by rw [hl]; omega)]
      exact flat3_get f n j i e hi
    · have : j = n := by omega
      subst this
      rw [List.getElem?_append_right (by rw [hl]; omega), hl]
      match i, hi with
      | 0, _ => simp
      | 1, _ => simp
      | 2, _ => simp
theorem flatS_get {L : List SlotD} {tv : Nat → Value} {j : Nat} (hj : j < L.length) : (flatS L tv)[j * 3]? = some (.int .i64 (L.getD j default).1) ∧ (flatS L tv)[j * 3 + 1]? = some (.string (L.getD j default).2.1) ∧ (flatS L tv)[j * 3 + 2]? = some (tv j) := by
  have h := fun i hi => flat3_get (fun j => (.int .i64 (L.getD j default).1, .string (L.getD j default).2.1, tv j)) L.length j i hj hi
  exact ⟨h 0 (by omega), h 1 (by omega), h 2 (by omega)⟩
theorem flatN_get {S : List SnapD} {qv : Nat → Value} {j : Nat} (hj : j < S.length) : (flatN S qv)[j * 3]? = some (.string (S.getD j default).1) ∧ (flatN S qv)[j * 3 + 1]? = some (.int .i64 (S.getD j default).2.1) ∧ (flatN S qv)[j * 3 + 2]? = some (qv j) := by
  have h := fun i hi => flat3_get (fun j => (.string (S.getD j default).1, .int .i64 (S.getD j default).2.1, qv j)) S.length j i hj hi
  exact ⟨h 0 (by omega), h 1 (by omega), h 2 (by omega)⟩
theorem row_lt {W : World} {B : Nat} {e : TypeId} {size g n cap : Nat} {xs : List Value} (h : W.ownsRow B e size (.slice (some ⟨g, 0, none⟩) n cap) n xs) : B ≤ g ∧ g < W.heap.size ∧ n ≤ cap ∧ cap ≤ maxLen := by
  rcases h.2 with ⟨h', _⟩ | ⟨g', cap', cur, h', hb, hg, hnc, hcm, _⟩
  · simp at h'
  · simp only [Value.slice.injEq, Option.some.injEq, Addr.mk.injEq, and_true, true_and] at h'
    obtain ⟨rfl, rfl⟩ := h'
    exact ⟨hb, (Array.getElem?_eq_some_iff.1 hg).1, hnc, hcm⟩
theorem row_form {W : World} {B : Nat} {e : TypeId} {size n : Nat} {v : Value} {xs : List Value} (h : W.ownsRow B e size v n xs) : (v = .slice none 0 0 ∧ n = 0) ∨ ∃ g cap, v = .slice (some ⟨g, 0, none⟩) n cap ∧ B ≤ g ∧ g < W.heap.size ∧ n ≤ cap ∧ cap ≤ maxLen := by
  have h' := h
  rcases h.2 with hn | ⟨g, cap, cur, rfl, _⟩
  · exact .inl hn
  · exact .inr ⟨g, cap, rfl, row_lt h'⟩
theorem row_slots {W : World} {B : Nat} {v : Value} {L : List SlotD} {tv : Nat → Value} (h : W.ownsRow B 72 3 v L.length (flatS L tv)) (ht : ∀ j, j < L.length → Sl W (tv j) (L.getD j default).2.2) : Slots W v L := by
  have h' := h
  rcases row_form h with ⟨rfl, hn⟩ | ⟨g, cap, rfl, hb, hg, hnc, hcm⟩
  · have : L = [] := List.eq_nil_of_length_eq_zero hn
    subst this; exact ⟨none, 0, rfl, Nat.zero_le _, Nat.zero_le _, fun h => absurd rfl h⟩
  · refine ⟨_, cap, rfl, Nat.le_trans hnc hcm, hnc, fun _ => ⟨g, 0, rfl, hg, fun j hj => ?_⟩⟩
    have hc := fun i (hi : i < 3) => h'.cellAt (j * 3 + i) (by omega)
    obtain ⟨g0, g1, g2⟩ := flatS_get (tv := tv) hj
    have e : L[j] = L.getD j default := by simp [List.getD, hj]
    rw [e, Nat.zero_add]
    exact ⟨tv j, (hc 0 (by omega)).trans g0, (hc 1 (by omega)).trans g1, (hc 2 (by omega)).trans g2, ht j hj⟩
theorem row_snaps {W : World} {B : Nat} {v : Value} {S : List SnapD} {qv : Nat → Value} (h : W.ownsRow B 64 3 v S.length (flatN S qv)) (ht : ∀ j, j < S.length → Sl W (qv j) (S.getD j default).2.2) : Snaps W v S := by
  have h' := h
  rcases row_form h with ⟨rfl, hn⟩ | ⟨g, cap, rfl, hb, hg, hnc, hcm⟩
  · have : S = [] := List.eq_nil_of_length_eq_zero hn
    subst this; exact ⟨none, 0, rfl, Nat.zero_le _, Nat.zero_le _, fun h => absurd rfl h⟩
  · refine ⟨_, cap, rfl, Nat.le_trans hnc hcm, hnc, fun _ => ⟨g, 0, rfl, hg, fun j hj => ?_⟩⟩
    have hc := fun i (hi : i < 3) => h'.cellAt (j * 3 + i) (by omega)
    obtain ⟨g0, g1, g2⟩ := flatN_get (qv := qv) hj
    have e : S[j] = S.getD j default := by simp [List.getD, hj]
    rw [e, Nat.zero_add]
    exact ⟨qv j, (hc 0 (by omega)).trans g0, (hc 1 (by omega)).trans g1, (hc 2 (by omega)).trans g2, ht j hj⟩
/-- It is an image. -/
theorem OI.img {W : World} {B : Nat} {val : Nm → Value} {m : ImgD} (h : OI W B val m) : Img W (imgV m.guest val) m :=
  ⟨_, _, _, _, rfl, row_sl (h.row .root (Live.root m)), row_slots (h.row .slots (Live.slots m)) (fun j hj => row_sl (h.row (.tab j) (Live.tab hj))), row_sl (h.row .refs (Live.refs m)), row_snaps (h.row .snaps (Live.snaps m)) (fun j hj => row_sl (h.row (.sr j) (Live.sr hj)))⟩

/-! ### What turns -/
/-- One cell of row a is stored. -/
theorem OI.store {W : World} {B : Nat} {val : Nm → Value} {m m' : ImgD} (h : OI W B val m) {a : Nm} (ha : Live m a) {g n cap : Nat} (hv : val a = .slice (some ⟨g, 0, none⟩) n cap) (i : Nat) (u : Value)
    (hlive : ∀ b, Live m' b ↔ Live m b) (hn : ∀ b, Live m b → rowN m' b = rowN m b) (hsame : ∀ b, Live m b → b ≠ a → rowV m' val b = rowV m val b) (hset : rowV m' val a = (rowV m val a).set i u) : OI (W.setCell ⟨g, i, none⟩ u) B val m' := by
  refine ⟨fun b hb => ?_, fun b c hb hc => h.apart b c ((hlive b).1 hb) ((hlive c).1 hc)⟩
  have hb := (hlive b).1 hb
  rw [hn b hb]
  by_cases e : b = a
  · subst e
    have hr := h.row b hb
    rw [hset]
    have hnn : n = rowN m b := by
      rcases row_form hr with ⟨e, _⟩ | ⟨g', cap', e, _⟩
      · rw [hv] at e; simp at e
      · rw [hv] at e; simp at e; exact e.2.1
    subst hnn
    rw [hv] at hr ⊢
    exact (hr.stored i u).1
  · rw [hsame b hb e]
    exact ownsRow_setCell_other (h.row b hb) (h.apart a b ha hb (fun x => e x.symm) g (by rw [hv]; rfl)) u
theorem getD_setR (l : List SlotD) (i j : Nat) (s : SlotD) : (l.set i s).getD j default = if i = j ∧ j < l.length then s else l.getD j default := by
  by_cases hj : j < l.length
  · by_cases e : i = j
    · subst e; simp [List.getD, hj]
    · simp [List.getD, e]
  · simp [List.getD, hj]
theorem ints_set (l : List Int) (i : Nat) (x : Int) : ints (l.set i x) = (ints l).set i (.int .i64 x) := by unfold ints; rw [List.map_set]
theorem OI.setRoot {W : World} {B : Nat} {val : Nm → Value} {m : ImgD} (h : OI W B val m) {g n cap : Nat} (hv : val .root = .slice (some ⟨g, 0, none⟩) n cap) (i : Nat) (x : Int) : OI (W.setCell ⟨g, i, none⟩ (.int .i64 x)) B val { m with root := m.root.set i x } := by
  refine h.store (a := .root) (Live.root m) hv i _ (live_iff rfl rfl) (fun b hb => ?_) (fun b hb hne => ?_) (ints_set _ _ _)
  · rcases hb.cases with rfl | rfl | rfl | rfl | ⟨j, rfl, hj⟩ | ⟨j, rfl, hj⟩ <;> first | rfl | exact List.length_set
  · rcases hb.cases with rfl | rfl | rfl | rfl | ⟨j, rfl, hj⟩ | ⟨j, rfl, hj⟩ <;> first | rfl | exact absurd rfl hne
theorem OI.setRefs {W : World} {B : Nat} {val : Nm → Value} {m : ImgD} (h : OI W B val m) {g n cap : Nat} (hv : val .refs = .slice (some ⟨g, 0, none⟩) n cap) (i : Nat) (x : Int) : OI (W.setCell ⟨g, i, none⟩ (.int .i64 x)) B val { m with refs := m.refs.set i x } := by
  refine h.store (a := .refs) (Live.refs m) hv i _ (live_iff rfl rfl) (fun b hb => ?_) (fun b hb hne => ?_) (ints_set _ _ _)
  · rcases hb.cases with rfl | rfl | rfl | rfl | ⟨j, rfl, hj⟩ | ⟨j, rfl, hj⟩ <;> first | rfl | exact List.length_set
  · rcases hb.cases with rfl | rfl | rfl | rfl | ⟨j, rfl, hj⟩ | ⟨j, rfl, hj⟩ <;> first | rfl | exact absurd rfl hne
/-- An entry of the table of slot t. -/
theorem OI.setTab {W : World} {B : Nat} {val : Nm → Value} {m : ImgD} (h : OI W B val m) {t : Nat} (ht : t < m.slots.length) {g n cap : Nat} (hv : val (.tab t) = .slice (some ⟨g, 0, none⟩) n cap) (i : Nat) (x : Int) :
    OI (W.setCell ⟨g, i, none⟩ (.int .i64 x)) B val { m with slots := m.slots.set t ((m.slots.getD t default).1, (m.slots.getD t default).2.1, (m.slots.getD t default).2.2.set i x) } := by
  have hg := fun j => getD_setR m.slots t j ((m.slots.getD t default).1, (m.slots.getD t default).2.1, (m.slots.getD t default).2.2.set i x)
  refine h.store (a := .tab t) (Live.tab ht) hv i _ (live_iff List.length_set rfl) (fun b hb => ?_) (fun b hb hne => ?_) ?_
  · rcases hb.cases with rfl | rfl | rfl | rfl | ⟨j, rfl, hj⟩ | ⟨j, rfl, hj⟩ <;> first | rfl | exact List.length_set | skip
    show ((m.slots.set t _).getD j default).2.2.length = (m.slots.getD j default).2.2.length
    rw [hg]
    split
    · rename_i e; rw [← e.1]; exact List.length_set
    · rfl
  · rcases hb.cases with rfl | rfl | rfl | rfl | ⟨j, rfl, hj⟩ | ⟨j, rfl, hj⟩ <;> first | rfl | skip
    · show flatS (m.slots.set t _) _ = flatS m.slots _
      unfold flatS
      rw [List.length_set]
      refine congrArg List.flatten (List.map_congr_left fun j _ => ?_)
      rw [hg]
      split
      · rename_i e; rw [← e.1]
      · rfl
    · show ints ((m.slots.set t _).getD j default).2.2 = ints (m.slots.getD j default).2.2
      rw [hg, if_neg (fun e => hne (by rw [e.1]))]
  · show ints ((m.slots.set t _).getD t default).2.2 = (ints (m.slots.getD t default).2.2).set i _
    rw [hg, if_pos ⟨rfl, ht⟩]; exact ints_set _ _ _
end Go.Proofs.Ytehleeibgkpjmae
/- An image of one's own: whole slots that are stored, slots that are put behind, lists that are exchanged. -/
namespace Go.Proofs.Ytehleeibgkpjmae
open Go.RowKit
set_option maxRecDepth 20000

def upd (val : Nm → Value) (a : Nm) (v : Value) : Nm → Value := fun b => if b.kind = a.kind ∧ b.ix = a.ix then v else val b
theorem upd_same (val : Nm → Value) (a : Nm) (v : Value) : upd val a v a = v := by unfold upd; rw [if_pos ⟨rfl, rfl⟩]
theorem upd_other (val : Nm → Value) {a b : Nm} (v : Value) (h : b ≠ a) : upd val a v b = val b := by
  unfold upd
  rw [if_neg]
  intro e
  apply h
  obtain ⟨k, i⟩ := a
  obtain ⟨k', i'⟩ := b
  obtain ⟨e1, e2⟩ := e
  dsimp only at e1 e2
  rw [e1, e2]
/-- v's block is nobody's else. -/
def Far (m : ImgD) (val : Nm → Value) (a : Nm) (v : Value) : Prop := ∀ b, Live m b → b ≠ a → ∀ g, v.ownBlock = some g → (val b).ownBlock ≠ some g
theorem far_new {W : World} {B : Nat} {val : Nm → Value} {m : ImgD} (h : OI W B val m) (a : Nm) {v : Value} (hv : ∀ g, v.ownBlock = some g → W.heap.size ≤ g) : Far m val a v := fun b hb _ g hg e => by
  have := ((h.row b hb).lt g e).2
  have := hv g hg
  omega
theorem far_nil (m : ImgD) (val : Nm → Value) (a : Nm) (n cap : Nat) : Far m val a (.slice none n cap) := fun _ _ _ g hg => by cases hg

/-- Row a is another one. -/
theorem OI.swap {W : World} {B : Nat} {val : Nm → Value} {m m' : ImgD} (h : OI W B val m) {a : Nm} (ha : Live m a) {v : Value} (hv : W.ownsRow B (rowT a) (rowS a) v (rowN m' a) (rowV m' (upd val a v) a)) (hfar : Far m val a v)
    (hlive : ∀ b, Live m' b ↔ Live m b) (hsame : ∀ b, Live m b → b ≠ a → rowN m' b = rowN m b ∧ rowV m' (upd val a v) b = rowV m val b) : OI W B (upd val a v) m' := by
  refine ⟨fun b hb => ?_, fun b c hb hc hne g hg => ?_⟩
  · have hb := (hlive b).1 hb
    by_cases e : b = a
    · subst e; rw [upd_same]; exact hv
    · rw [upd_other val v e, (hsame b hb e).1, (hsame b hb e).2]; exact h.row b hb
  · have hb := (hlive b).1 hb
    have hc := (hlive c).1 hc
    by_cases e : b = a
    · subst e
      rw [upd_same] at hg
      rw [upd_other val v (fun x => hne x.symm)]
      exact hfar c hc (fun x => hne x.symm) g hg
    · rw [upd_other val v e] at hg
      by_cases e2 : c = a
      · subst e2
        rw [upd_same]
        exact fun x => hfar b hb e g x hg
      · rw [upd_other val v e2]; exact h.apart b c hb hc hne g hg
theorem OI.swapRoot {W : World} {B : Nat} {val : Nm → Value} {m : ImgD} (h : OI W B val m) {v : Value} {r : List Int} (hv : W.ownsRow B 3 1 v r.length (ints r)) (hfar : Far m val .root v) (g : Int) : OI W B (upd val .root v) { m with guest := g, root := r } := by
  refine h.swap (a := .root) (Live.root m) hv hfar (live_iff rfl rfl) (fun b hb hne => ?_)
  rcases hb.cases with rfl | rfl | rfl | rfl | ⟨j, rfl, hj⟩ | ⟨j, rfl, hj⟩ <;> first | exact ⟨rfl, rfl⟩ | exact absurd rfl hne
theorem OI.swapRefs {W : World} {B : Nat} {val : Nm → Value} {m : ImgD} (h : OI W B val m) {v : Value} {r : List Int} (hv : W.ownsRow B 3 1 v r.length (ints r)) (hfar : Far m val .refs v) : OI W B (upd val .refs v) { m with refs := r } := by
  refine h.swap (a := .refs) (Live.refs m) hv hfar (live_iff rfl rfl) (fun b hb hne => ?_)
  rcases hb.cases with rfl | rfl | rfl | rfl | ⟨j, rfl, hj⟩ | ⟨j, rfl, hj⟩ <;> first | exact ⟨rfl, rfl⟩ | exact absurd rfl hne

/-! ### A slot is stored -/
theorem flat3_length (f : Nat → Value × Value × Value) (n : Nat) : ((List.range n).flatMap (fun j => [(f j).1, (f j).2.1, (f j).2.2])).length = n * 3 := by
  induction n with
  | zero => rfl
  | succ n ih => rw [List.range_succ, List.flatMap_append, List.length_append, ih]; simp; omega
theorem flatS_length (L : List SlotD) (tv : Nat → Value) : (flatS L tv).length = L.length * 3 := flat3_length (fun j => (.int .i64 (L.getD j default).1, .string (L.getD j default).2.1, tv j)) L.length
theorem flatN_length (S : List SnapD) (qv : Nat → Value) : (flatN S qv).length = S.length * 3 := flat3_length (fun j => (.string (S.getD j default).1, .int .i64 (S.getD j default).2.1, qv j)) S.length
theorem flatS_set {L : List SlotD} {tv tv' : Nat → Value} {t : Nat} (k : Int) (d : ByteArray) (es : List Int) (htv : ∀ j, j ≠ t → tv' j = tv j) :
    flatS (L.set t (k, d, es)) tv' = (((flatS L tv).set (t * 3) (.int .i64 k)).set (t * 3 + 1) (.string d)).set (t * 3 + 2) (tv' t) := by
  apply List.ext_getElem?
  intro i
  rcases Nat.lt_or_ge i (L.length * 3) with hi | hi
  · obtain ⟨j, r, hj, hr, rfl⟩ : ∃ j r, j < L.length ∧ r < 3 ∧ i = j * 3 + r := ⟨i / 3, i % 3, by omega, Nat.mod_lt _ (by decide), by omega⟩
    obtain ⟨a0, a1, a2⟩ := flatS_get (L := L.set t (k, d, es)) (tv := tv') (j := j) (by rw [List.length_set]; exact hj)
    obtain ⟨b0, b1, b2⟩ := flatS_get (L := L) (tv := tv) hj
    rw [getD_setR] at a0 a1
    have hlen := flatS_length L tv
    by_cases e : t = j
    · subst e
      rw [if_pos ⟨rfl, hj⟩] at a0 a1
      match r, hr with
      | 0, _ => rw [Nat.add_zero, a0, List.getElem?_set_ne (by omega), List.getElem?_set_ne (by omega), List.getElem?_set_self (by rw [hlen]; omega)]
      | 1, _ => rw [a1, List.getElem?_set_ne (by omega), List.getElem?_set_self (by rw [List.length_set, hlen]; omega)]
      | 2, _ => rw [a2, List.getElem?_set_self (by rw [List.length_set, List.length_set, hlen]; omega)]
    · rw [if_neg (fun x => e x.1)] at a0 a1
      rw [htv j (fun x => e x.symm)] at a2
      rw [List.getElem?_set_ne (by omega), List.getElem?_set_ne (by omega), List.getElem?_set_ne (by omega)]
      match r, hr with
      | 0, _ => rw [Nat.add_zero, a0, b0]
      | 1, _ => rw [a1, b1]
      | 2, _ => rw [a2, b2]
  · rw [List.getElem?_eq_none (by rw [flatS_length, List.length_set]; exact hi), List.getElem?_eq_none (by rw [List.length_set, List.length_set, List.length_set, flatS_length]; exact hi)]
theorem OI.setSlot {W : World} {B : Nat} {val : Nm → Value} {m : ImgD} (h : OI W B val m) {t : Nat} (ht : t < m.slots.length) {g n cap : Nat} (hv : val .slots = .slice (some ⟨g, 0, none⟩) n cap) (k : Int) (d : ByteArray) (es : List Int) {ev : Value}
    (hev : W.ownsRow B 3 1 ev es.length (ints es)) (hfar : Far m val (.tab t) ev) :
    OI (((W.setCell ⟨g, t * 3, none⟩ (.int .i64 k)).setCell ⟨g, t * 3 + 1, none⟩ (.string d)).setCell ⟨g, t * 3 + 2, none⟩ ev) B (upd val (.tab t) ev) { m with slots := m.slots.set t (k, d, es) } := by
  have hgd := fun j => getD_setR m.slots t j (k, d, es)
  have hnn : n = m.slots.length := by
    rcases row_form (h.row .slots (Live.slots m)) with ⟨e, _⟩ | ⟨g', cap', e, _⟩
    · rw [hv] at e; simp at e
    · rw [hv] at e; simp at e; exact e.2.1
  have hoth : ∀ {e : TypeId} {size : Nat} {v : Value} {q : Nat} {xs : List Value}, W.ownsRow B e size v q xs → v.ownBlock ≠ some g →
      (((W.setCell ⟨g, t * 3, none⟩ (.int .i64 k)).setCell ⟨g, t * 3 + 1, none⟩ (.string d)).setCell ⟨g, t * 3 + 2, none⟩ ev).ownsRow B e size v q xs := fun hr hne =>
    ownsRow_setCell_other (ownsRow_setCell_other (ownsRow_setCell_other hr hne _) hne _) hne _
  refine ⟨fun b hb => ?_, fun b c hb hc hne q hq => ?_⟩
  · have hb' : Live m b := (live_iff (m := m) (m' := { m with slots := m.slots.set t (k, d, es) }) List.length_set rfl b).1 hb
    by_cases es0 : b = .slots
    · subst es0
      rw [upd_other val ev (by intro x; cases x)]
      have hr := h.row .slots hb'
      have e1 : rowV { m with slots := m.slots.set t (k, d, es) } (upd val (.tab t) ev) .slots = (((rowV m val .slots).set (t * 3) (.int .i64 k)).set (t * 3 + 1) (.string d)).set (t * 3 + 2) ev := by
        have := flatS_set (L := m.slots) (tv := fun j => val (.tab j)) (tv' := fun j => upd val (.tab t) ev (.tab j)) (t := t) k d es (fun j hj => upd_other val ev (by intro x; apply hj; injection x))
        rw [upd_same] at this
        exact this
      have e2 : rowN { m with slots := m.slots.set t (k, d, es) } .slots = rowN m .slots := List.length_set
      rw [e1, e2]
      have hN : rowN m .slots = n := hnn.symm
      rw [hN] at hr ⊢
      rw [hv] at hr ⊢
      exact ((((hr.stored (t * 3) (.int .i64 k)).1).stored (t * 3 + 1) (.string d)).1.stored (t * 3 + 2) ev).1
    · have hbg : (val b).ownBlock ≠ some g := h.apart .slots b (Live.slots m) hb' (fun x => es0 x.symm) g (by rw [hv]; rfl)
      by_cases et : b = .tab t
      · subst et
        rw [upd_same]
        have e1 : rowV { m with slots := m.slots.set t (k, d, es) } (upd val (.tab t) ev) (.tab t) = ints es := by
          show ints ((m.slots.set t (k, d, es)).getD t default).2.2 = _
          rw [hgd, if_pos ⟨rfl, ht⟩]
        have e2 : rowN { m with slots := m.slots.set t (k, d, es) } (.tab t) = es.length := by
          show ((m.slots.set t (k, d, es)).getD t default).2.2.length = _
          rw [hgd, if_pos ⟨rfl, ht⟩]
        rw [e1, e2]
        exact hoth hev (fun x => hfar .slots (Live.slots m) (by intro y; cases y) g x (by rw [hv]; rfl))
      · rw [upd_other val ev et]
        have e1 : rowV { m with slots := m.slots.set t (k, d, es) } (upd val (.tab t) ev) b = rowV m val b ∧ rowN { m with slots := m.slots.set t (k, d, es) } b = rowN m b := by
          rcases hb'.cases with rfl | rfl | rfl | rfl | ⟨j, rfl, hj⟩ | ⟨j, rfl, hj⟩
          · exact ⟨rfl, rfl⟩
          · exact absurd rfl es0
          · exact ⟨rfl, rfl⟩
          · exact ⟨rfl, rfl⟩
          · have hjt : t ≠ j := fun x => et (by rw [x])
            constructor
            · show ints ((m.slots.set t (k, d, es)).getD j default).2.2 = ints (m.slots.getD j default).2.2
              rw [hgd, if_neg (fun x => hjt x.1)]
            · show ((m.slots.set t (k, d, es)).getD j default).2.2.length = (m.slots.getD j default).2.2.length
              rw [hgd, if_neg (fun x => hjt x.1)]
          · exact ⟨rfl, rfl⟩
        rw [e1.1, e1.2]
        exact hoth (h.row b hb') hbg
  · have hb' : Live m b := (live_iff (m := m) (m' := { m with slots := m.slots.set t (k, d, es) }) List.length_set rfl b).1 hb
    have hc' : Live m c := (live_iff (m := m) (m' := { m with slots := m.slots.set t (k, d, es) }) List.length_set rfl c).1 hc
    by_cases e : b = .tab t
    · subst e
      rw [upd_same] at hq
      rw [upd_other val ev (fun x => hne x.symm)]
      exact hfar c hc' (fun x => hne x.symm) q hq
    · rw [upd_other val ev e] at hq
      by_cases e2 : c = .tab t
      · subst e2; rw [upd_same]; exact fun x => hfar b hb' e q x hq
      · rw [upd_other val ev e2]; exact h.apart b c hb' hc' hne q hq

/-! ### A slot is put behind -/
theorem flatS_snoc (L : List SlotD) (tv tv' : Nat → Value) (s : SlotD) (htv : ∀ j, j < L.length → tv' j = tv j) : flatS (L ++ [s]) tv' = flatS L tv ++ [.int .i64 s.1, .string s.2.1, tv' L.length] := by
  unfold flatS
  rw [List.length_append, List.length_singleton, List.range_succ, List.flatMap_append]
  have e1 : (List.range L.length).flatMap (fun j => [Value.int .i64 ((L ++ [s]).getD j default).1, .string ((L ++ [s]).getD j default).2.1, tv' j]) = (List.range L.length).flatMap (fun j => [Value.int .i64 (L.getD j default).1, .string (L.getD j default).2.1, tv j]) := by
    refine congrArg List.flatten (List.map_congr_left fun j hj => ?_)
    have hj := List.mem_range.1 hj
    have e : (L ++ [s]).getD j default = L.getD j default := by simp [List.getD, List.getElem?_append, hj]
    rw [e, htv j hj]
  rw [e1]
  simp
theorem OI.addSlot {W W' : World} {B : Nat} {val : Nm → Value} {m : ImgD} (h : OI W B val m) {k : Int} {d : ByteArray} {es : List Int} {ev sv : Value} (hev : W.ownsRow B 3 1 ev es.length (ints es)) (hfar : Far m val (.tab m.slots.length) ev)
    (hgrow : W.grownBy W' (val .slots).ownBlock) (hrow : W'.ownsRow B 72 3 sv (m.slots.length + 1) (flatS m.slots (fun j => val (.tab j)) ++ [.int .i64 k, .string d, ev])) (hblk : sv.ownBlock = (val .slots).ownBlock ∨ ∀ g, sv.ownBlock = some g → W.heap.size ≤ g) :
    OI W' B (upd (upd val (.tab m.slots.length) ev) .slots sv) { m with slots := m.slots ++ [(k, d, es)] } := by
  have hval : ∀ b, b ≠ .slots → b ≠ .tab m.slots.length → upd (upd val (.tab m.slots.length) ev) .slots sv b = val b := fun b h1 h2 => by rw [upd_other _ sv h1, upd_other _ ev h2]
  have hvs : upd (upd val (.tab m.slots.length) ev) .slots sv .slots = sv := upd_same _ _ _
  have hvt : upd (upd val (.tab m.slots.length) ev) .slots sv (.tab m.slots.length) = ev := by rw [upd_other _ sv (by intro x; cases x), upd_same]
  have hcase : ∀ b, Live { m with slots := m.slots ++ [(k, d, es)] } b → b = .slots ∨ b = .tab m.slots.length ∨ (Live m b ∧ b ≠ .slots ∧ b ≠ .tab m.slots.length) := fun b hb => by
    rcases hb.cases with rfl | rfl | rfl | rfl | ⟨j, rfl, hj⟩ | ⟨j, rfl, hj⟩
    · exact .inr (.inr ⟨Live.root m, (by intro x; cases x), (by intro x; cases x)⟩)
    · exact .inl rfl
    · exact .inr (.inr ⟨Live.refs m, (by intro x; cases x), (by intro x; cases x)⟩)
    · exact .inr (.inr ⟨Live.snaps m, (by intro x; cases x), (by intro x; cases x)⟩)
    · by_cases e : j = m.slots.length
      · subst e; exact .inr (.inl rfl)
      · refine .inr (.inr ⟨Live.tab (by simp at hj; omega), (by intro x; cases x), ?_⟩)
        intro x; apply e; injection x
    · exact .inr (.inr ⟨Live.sr hj, (by intro x; cases x), (by intro x; cases x)⟩)
  have hnot : ∀ b, Live m b → b ≠ .slots → (val b).ownBlock = none ∨ (val b).ownBlock ≠ (val .slots).ownBlock := fun b hb hne => by
    cases hg : (val b).ownBlock with
    | none => exact .inl rfl
    | some g => exact .inr (fun x => h.apart b .slots hb (Live.slots m) hne g hg x.symm)
  have hevn : ev.ownBlock = none ∨ ev.ownBlock ≠ (val .slots).ownBlock := by
    cases hg : ev.ownBlock with
    | none => exact .inl rfl
    | some g => exact .inr (fun x => hfar .slots (Live.slots m) (by intro y; cases y) g hg x.symm)
  have hsvfar : ∀ b, Live m b → b ≠ .slots → ∀ g, sv.ownBlock = some g → (val b).ownBlock ≠ some g := fun b hb hne g hg hx => by
    rcases hblk with e | e
    · rw [e] at hg; exact h.apart b .slots hb (Live.slots m) hne g hx hg
    · have := ((h.row b hb).lt g hx).2
      have := e g hg
      omega
  have hsvev : ∀ g, sv.ownBlock = some g → ev.ownBlock ≠ some g := fun g hg hx => by
    rcases hblk with e | e
    · rw [e] at hg; exact hfar .slots (Live.slots m) (by intro y; cases y) g hx hg
    · have := (hev.lt g hx).2
      have := e g hg
      omega
  refine ⟨fun b hb => ?_, fun b c hb hc hne q hq => ?_⟩
  · rcases hcase b hb with rfl | rfl | ⟨hb', h1, h2⟩
    · rw [hvs]
      have e1 : rowV { m with slots := m.slots ++ [(k, d, es)] } (upd (upd val (.tab m.slots.length) ev) .slots sv) .slots = flatS m.slots (fun j => val (.tab j)) ++ [.int .i64 k, .string d, ev] := by
        have := flatS_snoc m.slots (fun j => val (.tab j)) (fun j => upd (upd val (.tab m.slots.length) ev) .slots sv (.tab j)) (k, d, es) (fun j hj => hval _ (by intro x; cases x) (by intro x; injection x with _ x; omega))
        rw [hvt] at this
        exact this
      have e2 : rowN { m with slots := m.slots ++ [(k, d, es)] } .slots = m.slots.length + 1 := by show (m.slots ++ [(k, d, es)]).length = _; simp
      rw [e1, e2]; exact hrow
    · rw [hvt]
      have e0 : (m.slots ++ [(k, d, es)]).getD m.slots.length default = (k, d, es) := by simp [List.getD]
      have e1 : rowV { m with slots := m.slots ++ [(k, d, es)] } (upd (upd val (.tab m.slots.length) ev) .slots sv) (.tab m.slots.length) = ints es := by
        show ints ((m.slots ++ [(k, d, es)]).getD m.slots.length default).2.2 = _
        rw [e0]
      have e2 : rowN { m with slots := m.slots ++ [(k, d, es)] } (.tab m.slots.length) = es.length := by
        show ((m.slots ++ [(k, d, es)]).getD m.slots.length default).2.2.length = _
        rw [e0]
      rw [e1, e2]
      exact hev.kept hgrow hevn
    · rw [hval b h1 h2]
      have e1 : rowV { m with slots := m.slots ++ [(k, d, es)] } (upd (upd val (.tab m.slots.length) ev) .slots sv) b = rowV m val b ∧ rowN { m with slots := m.slots ++ [(k, d, es)] } b = rowN m b := by
        rcases hb'.cases with rfl | rfl | rfl | rfl | ⟨j, rfl, hj⟩ | ⟨j, rfl, hj⟩
        · exact ⟨rfl, rfl⟩
        · exact absurd rfl h1
        · exact ⟨rfl, rfl⟩
        · refine ⟨?_, rfl⟩
          show flatN m.snaps _ = flatN m.snaps _
          unfold flatN
          refine congrArg List.flatten (List.map_congr_left fun j _ => ?_)
          dsimp only
          rw [hval (.sr j) (by intro x; cases x) (by intro x; cases x)]
        · have e : (m.slots ++ [(k, d, es)]).getD j default = m.slots.getD j default := by simp [List.getD, List.getElem?_append, hj]
          constructor
          · show ints ((m.slots ++ [(k, d, es)]).getD j default).2.2 = _
            rw [e]; rfl
          · show ((m.slots ++ [(k, d, es)]).getD j default).2.2.length = _
            rw [e]; rfl
        · exact ⟨rfl, rfl⟩
      rw [e1.1, e1.2]
      exact (h.row b hb').kept hgrow (hnot b hb' h1)
  · rcases hcase b hb with rfl | rfl | ⟨hb', h1, h2⟩
    · rw [hvs] at hq
      rcases hcase c hc with rfl | rfl | ⟨hc', g1, g2⟩
      · exact absurd rfl hne
      · rw [hvt]; exact hsvev q hq
      · rw [hval c g1 g2]; exact hsvfar c hc' g1 q hq
    · rw [hvt] at hq
      rcases hcase c hc with rfl | rfl | ⟨hc', g1, g2⟩
      · rw [hvs]; exact fun x => hsvev q x hq
      · exact absurd rfl hne
      · rw [hval c g1 g2]; exact hfar c hc' g2 q hq
    · rw [hval b h1 h2] at hq
      rcases hcase c hc with rfl | rfl | ⟨hc', g1, g2⟩
      · rw [hvs]; exact fun x => hsvfar b hb' h1 q x hq
      · rw [hvt]; exact fun x => hfar b hb' h2 q x hq
      · rw [hval c g1 g2]; exact h.apart b c hb' hc' hne q hq
end Go.Proofs.Ytehleeibgkpjmae
/- Contracts of roots and of the function that it answers: all Roots come, one by one, or a part of them, if a round says 'no more'. -/
namespace Go.Proofs.Ytehleeibgkpjmae
open Go.RowKit Go.Shelf
set_option maxRecDepth 20000
attribute [local go_sem] Oper.semAt_some

/-- What a Root is handed on as: its three parts, the last one a slice value. -/
structure RootV where
  nm : ByteArray
  g : Int
  a : Option Addr
  n : Nat
  c : Nat
def encRoot (x : RootV) : Array Value := #[.agg #[.string x.nm, .int .i64 x.g, .slice x.a x.n x.c]]

/-- The Roots of an image as values: the image's own first. -/
structure RootsV (n₀ : Nat) (W : World) (Bm : Nat) (xs : List RootV) : Prop where
  ex : ∃ (g : Int) (ra : Option Addr) (rn rc : Nat) (sv fv : Value) (ao : Option Addr) (n cap : Nat) (ys : List RootV), xs = ⟨⟨#[]⟩, g, ra, rn, rc⟩ :: ys ∧ ys.length = n ∧ n ≤ 3 ∧
    W.cell? ⟨Bm, 0, none⟩ = some (.int .i64 g) ∧ W.cell? ⟨Bm, 1, none⟩ = some (.slice ra rn rc) ∧ W.cell? ⟨Bm, 2, none⟩ = some sv ∧ W.cell? ⟨Bm, 3, none⟩ = some fv ∧ W.cell? ⟨Bm, 4, none⟩ = some (.slice ao n cap) ∧
    (0 < n → ∃ b off, ao = some ⟨b, off, none⟩ ∧ b < n₀ ∧ ∀ j, (h : j < ys.length) → W.cell? ⟨b, off + j * 3, none⟩ = some (.string ys[j].nm) ∧ W.cell? ⟨b, off + j * 3 + 1, none⟩ = some (.int .i64 ys[j].g) ∧ W.cell? ⟨b, off + j * 3 + 1 + 1, none⟩ = some (.slice ys[j].a ys[j].n ys[j].c))
/-- What a round must keep: what lay below n₀, and the block Bm. -/
def KpR (n₀ Bm : Nat) (W W' : World) : Prop := Below n₀ W W' ∧ W'.heap[Bm]? = W.heap[Bm]?
theorem KpR.trans {n₀ Bm : Nat} {A B C : World} (h : KpR n₀ Bm A B) (k : KpR n₀ Bm B C) : KpR n₀ Bm A C := ⟨h.1.trans k.1, k.2.trans h.2⟩
theorem KpR.put {n₀ Bm : Nat} {w : World} (hn : n₀ ≤ w.heap.size) (hB : Bm < w.heap.size) (W : World) (l : Nat) (o o' : Obj) (hl : w.heap.size ≤ l) (h : W.heap[l]? = some o) (h1 : o.isCells = false) (h2 : o.isWalk = false) : KpR n₀ Bm W (W.putObj l o') :=
  ⟨belowK_b hn W l o o' hl h h1 h2, World.putObj_heap_other (by omega)⟩
theorem KpR.refl (n₀ Bm : Nat) (W : World) : KpR n₀ Bm W W := ⟨Below.refl _ _, rfl⟩
theorem KpR.of_below {n₀ Bm : Nat} {W W' : World} (h : Below W.heap.size W W') (hn : n₀ ≤ W.heap.size) (hB : Bm < W.heap.size) : KpR n₀ Bm W W' := ⟨h.mono hn, h.block _ hB⟩
theorem KpR.alloc {n₀ Bm : Nat} {W : World} (hn : n₀ ≤ W.heap.size) (hB : Bm < W.heap.size) (o : Obj) : KpR n₀ Bm W (W.alloc o) := KpR.of_below ((Below.refl _ W).alloc (Nat.le_refl _) o) hn hB
theorem cell_same {A B : World} {b : Nat} (h : B.heap[b]? = A.heap[b]?) (o : Nat) : B.cell? ⟨b, o, none⟩ = A.cell? ⟨b, o, none⟩ := by simp [World.cell?, h]
theorem RootsV.kept {n₀ Bm : Nat} {A B : World} {xs : List RootV} (h : RootsV n₀ A Bm xs) (hk : KpR n₀ Bm A B) : RootsV n₀ B Bm xs := by
  obtain ⟨g, ra, rn, rc, sv, fv, ao, n, cap, ys, h1, h2, h3, c0, c1, c2, c3, c4, h5⟩ := h.ex
  refine ⟨g, ra, rn, rc, sv, fv, ao, n, cap, ys, h1, h2, h3, (cell_same hk.2 _).trans c0, (cell_same hk.2 _).trans c1, (cell_same hk.2 _).trans c2, (cell_same hk.2 _).trans c3, (cell_same hk.2 _).trans c4, fun h0 => ?_⟩
  obtain ⟨b, off, e, hlt, hc⟩ := h5 h0
  exact ⟨b, off, e, hlt, fun j hj => ⟨(hk.1.cell (p := ⟨b, off + j * 3, none⟩) hlt).trans (hc j hj).1, (hk.1.cell (p := ⟨b, off + j * 3 + 1, none⟩) hlt).trans (hc j hj).2.1, (hk.1.cell (p := ⟨b, off + j * 3 + 1 + 1, none⟩) hlt).trans (hc j hj).2.2⟩⟩

theorem roots_in (F : Fence) (n : Nat) (h1 : F.fn 77) (hro : F.round = none) (a0 a1 a2 a3 a4 : Value) (w : World) :
    CallsIn F n Try.prog 77 #[.agg #[a0, a1, a2, a3, a4]] w fun e w' => e = .returned (.func (.func 101) #[] #[.pointer (some ⟨w.heap.size, 0, none⟩)]) ∧ w' = w.alloc (.cells #[a0, a1, a2, a3, a4] 26) := by
  refine callsIn_of_wp Try.func77 rfl h1 ?_ hro
  simp only [Try.ntmps77, List.size_toArray, List.length_cons, List.length_nil, Nat.reduceAdd, Nat.reduceSub, Array.replicate_succ, Array.replicate_zero, List.push_toArray, List.append_toArray, List.nil_append, List.cons_append]
  gi_wp2
  go_ret
  exact ⟨rfl, rfl⟩

set_option maxRecDepth 100000 in
set_option maxHeartbeats 2000000 in
theorem roots1_in {α : Type} (val : α → RootV) (F : Fence) (n : Nat) (h6 : F.fn 101) (hro : F.round = none) (hn : 1 ≤ n) (l Bm n₀ : Nat) (xs : List α) (J Jx : List α → World → Prop)
    (hY : ∀ pre x W, J pre W → pre.length < xs.length → YieldAt F (n - 1) Try.prog l (encRoot (val x)) W fun e W' =>
      (e = .returned (.bool true) ∧ J (pre ++ [x]) W' ∧ KpR n₀ Bm W W') ∨ (e = .returned (.bool false) ∧ Jx (pre ++ [x]) W'))
    (hJa : ∀ s W o, J s W → J s (W.alloc o)) (W : World) (hL : RootsV n₀ W Bm (xs.map val)) (hn₀ : n₀ ≤ W.heap.size) (hBm : Bm < W.heap.size) (h0 : J [] W) :
    CallsIn F n Try.prog 101 #[.func (.yield l) #[] #[], .pointer (some ⟨Bm, 0, none⟩)] W fun e W' => (∃ v, e = .returned v) ∧
      ((∃ ys, ys = xs ∧ J ys W') ∨ (∃ pre, pre <+: xs ∧ Jx pre W')) := by
  obtain ⟨g, ra, rn, rc, sv, fv, ao, m, cap, vs, hx, hz, hm3, c0, c1, c2, c3, c4, hc⟩ := hL.ex
  obtain ⟨x0, zs, rfl, hx0, hzs⟩ := List.map_eq_cons_iff.1 hx
  subst hzs
  have HZ : Hid (zs.length = m) := by show _ = _; simpa using hz
  have HC : Hid (0 < m → ∃ b off, ao = some ⟨b, off, none⟩ ∧ b < n₀ ∧ ∀ j, (h : j < zs.length) → W.cell? ⟨b, off + j * 3, none⟩ = some (.string (val zs[j]).nm) ∧ W.cell? ⟨b, off + j * 3 + 1, none⟩ = some (.int .i64 (val zs[j]).g) ∧ W.cell? ⟨b, off + j * 3 + 1 + 1, none⟩ = some (.slice (val zs[j]).a (val zs[j]).n (val zs[j]).c)) := fun h0 => by
    obtain ⟨b, off, e, hb, h⟩ := hc h0
    exact ⟨b, off, e, hb, fun j hj => by have := h j (by simpa using hj); rw [List.getElem_map] at this; exact this⟩
  obtain ⟨fn, tmps, assign, body, hy, hR⟩ := hY [] x0 W h0 (by simp)
  rw [hx0] at hy
  unfold encRoot at hy
  dsimp only at hy
  clear hx hz hc hL hx0
  refine callsIn_of_wp Try.func101 rfl h6 ?_ hro
  simp only [Try.ntmps101, List.size_toArray, List.length_cons, List.length_nil, Nat.reduceAdd, Nat.reduceSub, Array.replicate_succ, Array.replicate_zero, List.push_toArray, List.append_toArray, List.nil_append, List.cons_append]
  gi_wp2
  refine hR.mono ?_
  rintro e W1 (⟨rfl, hJ1, hk1⟩ | ⟨rfl, hJx1⟩)
  · have c4 : W1.cell? ⟨Bm, 4, none⟩ = some (.slice ao m cap) := (cell_same hk1.2 _).trans c4
    have hs1 : n₀ ≤ W1.heap.size := Nat.le_trans hn₀ hk1.1.size
    have hs2 : Bm < W1.heap.size := Nat.lt_of_lt_of_le hBm hk1.1.size
    gi_wp2
    gi_loopw [4, 16] (fun _ i wr => ∃ k : Nat, k ≤ m ∧ i = .int .i64 k ∧ J (x0 :: zs.take k) wr ∧ Below n₀ W wr ∧ n₀ ≤ wr.heap.size ∧ Bm < wr.heap.size) (fun _ i _ => m - (intOf i).toNat)
    case atStart => exact ⟨0, Nat.zero_le _, rfl, hJ1, hk1.1, hs1, hs2⟩
    case round =>
      obtain ⟨k, hk, rfl, hJk, hbel, hsz, hsB⟩ := hrel
      by_cases hlk : k < m
      · obtain ⟨b, off, rfl, hlt, hcell⟩ := HC.out (by omega)
        have hki : (k : Int) < (m : Int) := by omega
        obtain ⟨y, hyk⟩ : ∃ y, y = zs[k]'(by rw [HZ.out]; exact hlk) := ⟨_, rfl⟩
        have hcc := hcell k (by rw [HZ.out]; exact hlk)
        rw [← hyk] at hcc
        have HT : Hid (zs.take (k + 1) = zs.take k ++ [y]) := by show _ = _; rw [List.take_add_one, hyk]; simp [show k < zs.length by rw [HZ.out]; exact hlk]
        have hYk := hY (x0 :: zs.take k) y
        obtain ⟨s, hs⟩ : ∃ s, s = val y := ⟨_, rfl⟩
        rw [← hs] at hcc hYk
        obtain ⟨nm, gg, sa, sn, sc⟩ := s
        obtain ⟨d1, d2, d3⟩ := hcc
        have d1 : wr.cell? ⟨b, off + k * 3, none⟩ = some (.string nm) := (hbel.cell (p := ⟨b, off + k * 3, none⟩) hlt).trans d1
        have d2 : wr.cell? ⟨b, off + k * 3 + 1, none⟩ = some (.int .i64 gg) := (hbel.cell (p := ⟨b, off + k * 3 + 1, none⟩) hlt).trans d2
        have d3 : wr.cell? ⟨b, off + k * 3 + 1 + 1, none⟩ = some (.slice sa sn sc) := (hbel.cell (p := ⟨b, off + k * 3 + 1 + 1, none⟩) hlt).trans d3
        have hba : Below n₀ wr (wr.alloc (.cells #[.string nm, .int .i64 gg, .slice sa sn sc] 64)) := (Below.refl _ _).alloc hsz _
        obtain ⟨fn, tmps, assign, body, hy, hR⟩ := hYk (wr.alloc (.cells #[.string nm, .int .i64 gg, .slice sa sn sc] 64)) (hJa _ _ _ hJk) (by have := HZ.out; simp; omega)
        unfold encRoot at hy
        dsimp only at hy
        clear hs hcell hyk hYk
        gi_wp2
        refine hR.mono ?_
        rintro e W3 (⟨rfl, hJ3, hk3⟩ | ⟨rfl, hJx3⟩)
        · gi_wp2
          go_roundw
          case rel => exact ⟨k + 1, by omega, by go_num, by rw [HT.out]; exact hJ3, (hbel.trans hba).trans hk3.1, Nat.le_trans (Nat.le_trans hsz hba.size) hk3.1.size, Nat.lt_of_lt_of_le (Nat.lt_of_lt_of_le hsB hba.size) hk3.1.size⟩
          case measure => simp [intOf]; omega
        · gi_wp2
          refine bodyPost_ret (results_none rfl _ _ _) rfl ?_
          refine ⟨⟨_, rfl⟩, .inr ⟨_, ?_, hJx3⟩⟩
          rw [List.cons_append, ← HT.out]
          exact List.cons_prefix_cons.2 ⟨rfl, List.take_prefix _ _⟩
      · have e4 : k = m := by omega
        subst e4
        gi_wp2
        go_end0
        refine ⟨⟨_, rfl⟩, .inl ⟨_, ?_, hJk⟩⟩
        rw [List.take_of_length_le (by rw [HZ.out]; exact Nat.le_refl _)]
  · gi_wp2
    refine bodyPost_ret (results_none rfl _ _ _) rfl ?_
    refine ⟨⟨_, rfl⟩, .inr ⟨_, ?_, hJx1⟩⟩
    exact ⟨zs, rfl⟩

theorem roots_stops {α : Type} (val : α → RootV) (F : Fence) (n : Nat) (h6 : F.fn 101) (hro : F.round = none) (hn : 1 ≤ n) (Bm n₀ : Nat) (xs : List α) (w : World) (hL : RootsV n₀ w Bm (xs.map val)) (hn₀ : n₀ ≤ w.heap.size) (hBm : Bm < w.heap.size) :
    SeqStopsK F n Try.prog 101 #[.pointer (some ⟨Bm, 0, none⟩)] (fun x => encRoot (val x)) (KpR n₀ Bm) (fun ys => ys = xs) (fun pre => pre <+: xs) xs.length w := fun l J Jx W hW hJ _ hY h0 =>
  roots1_in val F n h6 hro hn l Bm n₀ xs J Jx hY (fun s A o h => hJ s A _ none h (World.grownBy_alloc A o none) (by simp)) W (hL.kept (KpR.of_below hW hn₀ hBm)) (Nat.le_trans hn₀ hW.size) (Nat.lt_of_lt_of_le hBm hW.size) h0

/-- A Root's value, and what it is as data. -/
def Rt (w : World) (x : RootV) (s : SnapD) : Prop := x.nm = s.1 ∧ x.g = s.2.1 ∧ Sl w (.slice x.a x.n x.c) s.2.2
abbrev RootA (w : World) : Type := { p : RootV × SnapD // Rt w p.1 p.2 }
end Go.Proofs.Ytehleeibgkpjmae
/- Contracts of slices.IndexFunc and slices.ContainsFunc, over integers and over slots, at whatever predicate. -/
namespace Go.Proofs.Ytehleeibgkpjmae
open Go.RowKit
set_option maxRecDepth 20000

/-- What is asked of a predicate: wherever all that lay lies, it answers p, and leaves all that lay. -/
def PredI (g : Nat) (lb : Array Value) (p : Int → Bool) (w : World) : Prop :=
  ∀ (W : World) (x : Int), Below w.heap.size w W → Calls Try.prog g (#[.int .i64 x] ++ lb) W fun e w' => e = .returned (.bool (p x)) ∧ Below W.heap.size W w'

theorem any_hit {p : Int → Bool} {xs : List Int} {k : Nat} (hk : k < xs.length) (h : p (xs.getD k 0) = true) : xs.any p = true := by
  rw [List.any_eq_true]
  exact ⟨xs[k], List.getElem_mem hk, by simpa [List.getD, hk] using h⟩
theorem any_none {p : Int → Bool} {xs : List Int} (h : ∀ j, j < xs.length → p (xs.getD j 0) = false) : xs.any p = false := by
  rw [List.any_eq_false]
  intro x hx
  obtain ⟨j, hj, rfl⟩ := List.getElem_of_mem hx
  have := h j hj
  simpa [List.getD, hj] using this

set_option maxHeartbeats 1000000 in
theorem indexI_at (g : Nat) (lb : Array Value) (eg : ∀ args w, (callFunc g args).run Try.prog w = .ok (.enter g args) w) (p : Int → Bool) (ao : Option Addr) (n cap : Nat) (xs : List Int) (w : World) (hn : xs.length = n) (hm : n ≤ 9223372036854775807)
    (hc : 0 < n → ∃ b off, ao = some ⟨b, off, none⟩ ∧ b < w.heap.size ∧ ∀ j, j < n → w.cell? ⟨b, off + j, none⟩ = some (.int .i64 (xs.getD j 0))) (hp : PredI g lb p w) :
    Calls Try.prog 121 #[.slice ao n cap, .func (.func g) #[] lb] w fun r w' => (∃ i : Int, r = .returned (.int .i64 i) ∧ (decide (0 ≤ i)) = xs.any p) ∧ Below w.heap.size w w' := by
  have HN : Hid (xs.length = n) := hn
  have HP : Hid (PredI g lb p w) := hp
  have HC : Hid (0 < n → ∃ b off, ao = some ⟨b, off, none⟩ ∧ b < w.heap.size ∧ ∀ j, j < n → w.cell? ⟨b, off + j, none⟩ = some (.int .i64 (xs.getD j 0))) := hc
  clear hn hp hc
  go_enter Try.func121, Try.ntmps121
  go_wp2
  go_loopw [5, 8] (fun _ i wr => ∃ k : Nat, k ≤ n ∧ i = .int .i64 k ∧ Hid (∀ j, j < k → p (xs.getD j 0) = false) ∧ Below w.heap.size w wr) (fun _ i _ => n - (intOf i).toNat)
  case atStart => exact ⟨0, Nat.zero_le _, rfl, fun j hj => absurd hj (by omega), Below.refl _ _⟩
  case round =>
    obtain ⟨k, hk, rfl, HA, hbel⟩ := hrel
    by_cases hlk : k < n
    · obtain ⟨b, off, rfl, hlt, hcell⟩ := HC.out (by omega)
      have hki : (k : Int) < (n : Int) := by omega
      obtain ⟨x, hx⟩ : ∃ x, x = xs.getD k 0 := ⟨_, rfl⟩
      have c1 : wr.cell? ⟨b, off + k, none⟩ = some (.int .i64 x) := by rw [hx]; exact (hbel.cell (p := ⟨b, off + k, none⟩) hlt).trans (hcell k hlk)
      have HX : Hid (x = xs.getD k 0) := hx
      have hcall := HP.out wr x hbel
      clear hx hcell
      cases hq : p x with
      | true =>
        rw [hq] at hcall
        go_wp2_with (go_at_fn g; refine hcall.mono ?_; rintro e w1 ⟨rfl, b1⟩)
        go_ret
        exact ⟨⟨k, rfl, by rw [any_hit (p := p) (xs := xs) (k := k) (by rw [HN.out]; exact hlk) (by rw [← HX.out]; exact hq)]; simp⟩, Below.on hbel b1⟩
      | false =>
        rw [hq] at hcall
        go_wp2_with (go_at_fn g; refine hcall.mono ?_; rintro e w1 ⟨rfl, b1⟩)
        go_roundw
        case rel => exact ⟨k + 1, by omega, by go_num, fun j hj => by
          by_cases e : j = k
          · subst e; rw [← HX.out]; exact hq
          · exact HA.out j (by omega), Below.on hbel b1⟩
        case measure => simp [intOf]; omega
    · have e4 : k = n := by omega
      subst e4
      go_wp2
      go_ret
      exact ⟨⟨-1, rfl, by rw [any_none (p := p) (xs := xs) (fun j hj => HA.out j (by rw [HN.out] at hj; exact hj))]; simp⟩, hbel⟩

theorem containsI_any {g : Nat} {lb : Array Value} (eg : ∀ args w, (callFunc g args).run Try.prog w = .ok (.enter g args) w) {p : Int → Bool} {v : Value} {xs : List Int} {w : World} (h : Sl w v xs) (hp : PredI g lb p w) {B : Bool} (hB : xs.any p = B) :
    Calls Try.prog 113 #[v, .func (.func g) #[] lb] w fun r w' => r = .returned (.bool B) ∧ Below w.heap.size w w' := by
  have hI : Calls Try.prog 121 #[v, .func (.func g) #[] lb] w fun r w' => (∃ i : Int, r = .returned (.int .i64 i) ∧ (decide (0 ≤ i)) = B) ∧ Below w.heap.size w w' := by
    subst hB
    obtain ⟨ao, cap, rfl⟩ := h.form
    obtain ⟨_, hm, _, hc⟩ := h.cells
    refine indexI_at g lb eg p ao _ cap xs w rfl hm (fun h0 => ?_) hp
    obtain ⟨b, off, rfl, hlt, _⟩ := hc 0 h0
    refine ⟨b, off, rfl, hlt, fun j hj => ?_⟩
    obtain ⟨b', off', e, _, hcell⟩ := hc j hj
    simp at e
    obtain ⟨rfl, rfl⟩ := e
    exact hcell
  clear h hp
  go_enter Try.func113, Try.ntmps113
  go_wp2_with (go_at_call 121; refine hI.mono ?_; rintro e w1 ⟨⟨i, rfl, hi⟩, b1⟩)
  go_ret
  exact ⟨ret_boolE (by rw [← hi]), b1⟩
end Go.Proofs.Ytehleeibgkpjmae
/- Contracts of slices.IndexFunc and slices.ContainsFunc over slots, at whatever predicate. -/
namespace Go.Proofs.Ytehleeibgkpjmae
open Go.RowKit
set_option maxRecDepth 20000

def PredS (g : Nat) (lb : Array Value) (p : SlotD → Bool) (w : World) : Prop :=
  ∀ (W : World) (s : SlotD) (tv : Value), Below w.heap.size w W → Sl W tv s.2.2 → Calls Try.prog g (#[.agg #[.int .i64 s.1, .string s.2.1, tv]] ++ lb) W fun e w' => e = .returned (.bool (p s)) ∧ Below W.heap.size W w'

theorem anyS_hit {p : SlotD → Bool} {xs : List SlotD} {k : Nat} (hk : k < xs.length) (h : p xs[k] = true) : xs.any p = true := by
  rw [List.any_eq_true]
  exact ⟨xs[k], List.getElem_mem hk, h⟩
theorem anyS_none {p : SlotD → Bool} {xs : List SlotD} (h : ∀ j, (hj : j < xs.length) → p xs[j] = false) : xs.any p = false := by
  rw [List.any_eq_false]
  intro x hx
  obtain ⟨j, hj, rfl⟩ := List.getElem_of_mem hx
  simp [h j hj]

set_option maxHeartbeats 1000000 in
theorem indexS_at (g : Nat) (lb : Array Value) (eg : ∀ args w, (callFunc g args).run Try.prog w = .ok (.enter g args) w) (p : SlotD → Bool) (ao : Option Addr) (n cap : Nat) (L : List SlotD) (w : World) (hn : L.length = n) (hm : n ≤ 9223372036854775807)
    (hc : 0 < n → ∃ b off, ao = some ⟨b, off, none⟩ ∧ b < w.heap.size ∧ ∀ j, (h : j < L.length) → SlAt w b (off + j * 3) L[j]) (hp : PredS g lb p w) :
    Calls Try.prog 120 #[.slice ao n cap, .func (.func g) #[] lb] w fun r w' => (∃ i : Int, r = .returned (.int .i64 i) ∧ (decide (0 ≤ i)) = L.any p) ∧ Below w.heap.size w w' := by
  have HN : Hid (L.length = n) := hn
  have HP : Hid (PredS g lb p w) := hp
  have HC : Hid (0 < n → ∃ b off, ao = some ⟨b, off, none⟩ ∧ b < w.heap.size ∧ ∀ j, (h : j < L.length) → SlAt w b (off + j * 3) L[j]) := hc
  clear hn hp hc
  go_enter Try.func120, Try.ntmps120
  go_wp2
  go_loopw [5, 8] (fun _ i wr => ∃ k : Nat, k ≤ n ∧ i = .int .i64 k ∧ Hid (∀ j, (h : j < L.length) → j < k → p L[j] = false) ∧ Below w.heap.size w wr) (fun _ i _ => n - (intOf i).toNat)
  case atStart => exact ⟨0, Nat.zero_le _, rfl, fun j h hj => absurd hj (by omega), Below.refl _ _⟩
  case round =>
    obtain ⟨k, hk, rfl, HA, hbel⟩ := hrel
    by_cases hlk : k < n
    · obtain ⟨b, off, rfl, hlt, hcell⟩ := HC.out (by omega)
      have hki : (k : Int) < (n : Int) := by omega
      obtain ⟨s, hs⟩ : ∃ s, s = L[k]'(by rw [HN.out]; exact hlk) := ⟨_, rfl⟩
      obtain ⟨kk, dd, tt⟩ := s
      have hS : SlAt w b (off + k * 3) (kk, dd, tt) := by rw [hs]; exact hcell k _
      obtain ⟨tv, c1, c2, c3, hsl⟩ := hS
      have HX : Hid ((kk, dd, tt) = L[k]'(by rw [HN.out]; exact hlk)) := hs
      have c1 : wr.cell? ⟨b, off + k * 3, none⟩ = some (.int .i64 kk) := (hbel.cell (p := ⟨b, off + k * 3, none⟩) hlt).trans c1
      have c2 : wr.cell? ⟨b, off + k * 3 + 1, none⟩ = some (.string dd) := (hbel.cell (p := ⟨b, off + k * 3 + 1, none⟩) hlt).trans c2
      have c3 : wr.cell? ⟨b, off + k * 3 + 1 + 1, none⟩ = some tv := (hbel.cell (p := ⟨b, off + k * 3 + 1 + 1, none⟩) hlt).trans c3
      have hcall := HP.out wr (kk, dd, tt) tv hbel (hsl.below hbel)
      dsimp only at hcall
      clear hs hcell hsl
      cases hq : p (kk, dd, tt) with
      | true =>
        rw [hq] at hcall
        go_wp2_with (go_at_fn g; refine hcall.mono ?_; rintro e w1 ⟨rfl, b1⟩)
        go_ret
        exact ⟨⟨k, rfl, by rw [anyS_hit (p := p) (xs := L) (k := k) (by rw [HN.out]; exact hlk) (by rw [← HX.out]; exact hq)]; simp⟩, Below.on hbel b1⟩
      | false =>
        rw [hq] at hcall
        go_wp2_with (go_at_fn g; refine hcall.mono ?_; rintro e w1 ⟨rfl, b1⟩)
        go_roundw
        case rel => exact ⟨k + 1, by omega, by go_num, fun j h hj => by
          by_cases e : j = k
          · subst e; rw [← HX.out]; exact hq
          · exact HA.out j h (by omega), Below.on hbel b1⟩
        case measure => simp [intOf]; omega
    · have e4 : k = n := by omega
      subst e4
      go_wp2
      go_ret
      exact ⟨⟨-1, rfl, by rw [anyS_none (p := p) (xs := L) (fun j hj => HA.out j hj (by rw [HN.out] at hj; exact hj))]; simp⟩, hbel⟩

theorem containsS_any {g : Nat} {lb : Array Value} (eg : ∀ args w, (callFunc g args).run Try.prog w = .ok (.enter g args) w) {p : SlotD → Bool} {v : Value} {L : List SlotD} {w : World} (h : Slots w v L) (hp : PredS g lb p w) {B : Bool} (hB : L.any p = B) :
    Calls Try.prog 111 #[v, .func (.func g) #[] lb] w fun r w' => r = .returned (.bool B) ∧ Below w.heap.size w w' := by
  have hI : Calls Try.prog 120 #[v, .func (.func g) #[] lb] w fun r w' => (∃ i : Int, r = .returned (.int .i64 i) ∧ (decide (0 ≤ i)) = B) ∧ Below w.heap.size w w' := by
    subst hB
    have hm := h.small
    obtain ⟨ao, cap, rfl, _, _, hc⟩ := h
    exact indexS_at g lb eg p ao _ cap L w rfl hm (fun h0 => hc (by intro e; rw [e] at h0; simp at h0)) hp
  clear h hp
  go_enter Try.func111, Try.ntmps111
  go_wp2_with (go_at_call 120; refine hI.mono ?_; rintro e w1 ⟨⟨i, rfl, hi⟩, b1⟩)
  go_ret
  exact ⟨ret_boolE (by rw [← hi]), b1⟩
end Go.Proofs.Ytehleeibgkpjmae
/- Contract of isKind. -/
namespace Go.Proofs.Ytehleeibgkpjmae
open Go.RowKit
set_option maxRecDepth 20000

theorem isKd_out {L : List SlotD} {k kind : Int} (h : ¬ (0 ≤ k ∧ k < L.length)) : isKd L k kind = false := by
  unfold isKd; rw [decide_eq_false h]; rfl
theorem isKd_in {L : List SlotD} {k : Nat} {kind : Int} (h : k < L.length) : isKd L (k : Int) kind = (L[k].1 == kind) := by
  unfold isKd
  rw [decide_eq_true (by omega)]
  simp [List.getD, h]

theorem isKind_out (ao : Option Addr) (n cap : Nat) (k kind : Int) (w : World) (h : ¬ (0 ≤ k ∧ k < (n : Int))) (_hm : n ≤ 9223372036854775807) :
    Calls Try.prog 115 #[.slice ao n cap, .int .i64 k, .int .i64 kind] w fun r w' => r = .returned (.bool false) ∧ w' = w := by
  by_cases h0 : 0 ≤ k
  · have h1 : ¬ k < (n : Int) := fun h1 => h ⟨h0, h1⟩
    clear h
    go_enter Try.func115, Try.ntmps115
    go_wp2
    go_ret
    exact ⟨rfl, rfl⟩
  · clear h
    go_enter Try.func115, Try.ntmps115
    go_wp2
    go_ret
    exact ⟨rfl, rfl⟩
theorem isKind_in (b off n cap k : Nat) (x kind : Int) (w : World) (h : k < n) (_hm : n ≤ 9223372036854775807) (hc : w.cell? ⟨b, off + k * 3, none⟩ = some (.int .i64 x)) :
    Calls Try.prog 115 #[.slice (some ⟨b, off, none⟩) n cap, .int .i64 k, .int .i64 kind] w fun r w' => r = .returned (.bool (x == kind)) ∧ w' = w := by
  have h0 : (0 : Int) ≤ (k : Int) := by omega
  have h1 : (k : Int) < (n : Int) := by omega
  go_enter Try.func115, Try.ntmps115
  go_wp2
  go_ret
  exact ⟨rfl, rfl⟩
theorem isKind_is {v : Value} {L : List SlotD} {w : World} (h : Slots w v L) (k kind : Int) {B : Bool} (hB : isKd L k kind = B) :
    Calls Try.prog 115 #[v, .int .i64 k, .int .i64 kind] w fun r w' => r = .returned (.bool B) ∧ w' = w := by
  subst hB
  have hm := h.small
  by_cases hk : 0 ≤ k ∧ k < L.length
  · obtain ⟨b, off, cap, rfl, hcp, hlt, hcell⟩ := h.open (by omega)
    obtain ⟨j, rfl⟩ : ∃ j : Nat, k = j := ⟨k.toNat, by omega⟩
    have hj : j < L.length := by omega
    obtain ⟨tv, c1, _⟩ := hcell j hj
    rw [isKd_in hj]
    exact isKind_in b off _ cap j _ kind w hj hm c1
  · rw [isKd_out hk]
    obtain ⟨ao, cap, rfl⟩ := h.form
    exact isKind_out ao _ cap k kind w hk hm
end Go.Proofs.Ytehleeibgkpjmae
