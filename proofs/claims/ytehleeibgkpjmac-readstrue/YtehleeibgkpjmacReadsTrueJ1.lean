/- Texts joined: Plain, Within, Leaf, Chk, Bare, Slot, Slots, Used, Img, Nm, RefA, Roots, Idx, SIdx, Kind, Fit, RFit, RFit2. -/
import Derived.WalkKit
import Derived.Test.YtehleeibgkpjmacRows
import Derived.WalkLawsBesides
import Derived.Deep.QuietTactic
import Derived.BigQuiet
import Derived.MapKept
import Derived.Shelf.Abstract
import Derived.Lib.OthersKept
import Derived.Laws.RangeAny
import Derived.RangeFuncNested
import Derived.RangeFuncBound
import Derived.RangeFuncCalls
import Derived.RangeFuncLeaves
import Derived.Shelf.RegionOpen
import Derived.OwnWalkIn
import Derived.TacticsInMore
import Derived.LoopNIn
import Derived.LoopIn
set_option linter.unusedVariables false
set_option linter.unusedSimpArgs false
/- The plain notions of entries: what a right entry is, what Check, Bare, With and Cut answer, over lists of integers; and what it means that a slice value holds such a list in a world. -/
namespace Go.Proofs.Ytehleeibgkpjmac
open Go.RowKit
set_option maxRecDepth 20000

/-- May it be an entry? -/
def isE (e : Int) : Bool := e == 0 || (e == -1 || (decide (1 ≤ e) && decide (e < 40)))
/-- Check's answer. -/
def ckE (xs : List Int) : Int := if xs.length = 4 ∧ xs.all isE = true then 0 else 1
/-- Bare's answer, of whatever entries. -/
def bareL (xs : List Int) : Bool := xs.all (fun x => x == 0)
def bareE (xs : List Int) : Bool := if ckE xs = 0 then bareL xs else false
/-- With's error, With's list. -/
def withE (xs : List Int) (k e : Int) : Int := if ckE xs = 0 then (if 0 ≤ k ∧ k < 4 then (if isE e = true then 0 else 1) else 3) else 1
def withL (xs : List Int) (k e : Int) : List Int := if withE xs k e = 0 then xs.set k.toNat e else []
/-- Cut's error, Cut's list. -/
def cutE (xs : List Int) (n : Int) : Int := if ckE xs = 0 then (if 0 ≤ n ∧ n ≤ 4 then 0 else 3) else 1
def cutR (xs : List Int) (n : Nat) : List Int := xs.take n ++ List.replicate (4 - n) 0
def cutL (xs : List Int) (n : Int) : List Int := if cutE xs n = 0 then cutR xs n.toNat else []

/-- The slice value v holds the integers xs in the world w. -/
def Sl (w : World) (v : Value) (xs : List Int) : Prop :=
  ∃ ao cap, v = .slice ao xs.length cap ∧ xs.length ≤ maxLen ∧ xs.length ≤ cap ∧ (xs ≠ [] → ∃ b off, ao = some ⟨b, off, none⟩ ∧ b < w.heap.size ∧ ∀ j, j < xs.length → w.cell? ⟨b, off + j, none⟩ = some (.int .i64 (xs.getD j 0)))

theorem Sl.below {w w1 : World} {v : Value} {xs : List Int} (h : Sl w v xs) (hb : Below w.heap.size w w1) : Sl w1 v xs := by
  obtain ⟨ao, cap, hv, hm, hcp, hc⟩ := h
  refine ⟨ao, cap, hv, hm, hcp, fun hne => ?_⟩
  obtain ⟨b, off, ha, hlt, hcell⟩ := hc hne
  exact ⟨b, off, ha, Nat.lt_of_lt_of_le hlt hb.size, fun j hj => (hb.cell (p := ⟨b, off + j, none⟩) hlt).trans (hcell j hj)⟩

/-- From one world on to the next, and on. -/
theorem Below.on {w w1 w2 : World} (h : Below w.heap.size w w1) (k : Below w1.heap.size w1 w2) : Below w.heap.size w w2 := h.trans (k.mono h.size)

theorem Sl.nil (w : World) : Sl w (.slice none 0 0) [] := ⟨none, 0, rfl, Nat.zero_le _, Nat.zero_le _, fun h => absurd rfl h⟩

theorem ckE_yes {xs : List Int} (h4 : xs.length = 4) (h : xs.all isE = true) : ckE xs = 0 := by unfold ckE; rw [if_pos ⟨h4, h⟩]
theorem ckE_no {xs : List Int} (h : ¬ (xs.length = 4 ∧ xs.all isE = true)) : ckE xs = 1 := by unfold ckE; rw [if_neg h]
theorem ckE_len {xs : List Int} (h : ckE xs = 0) : xs.length = 4 := by
  unfold ckE at h; split at h
  · rename_i g; exact g.1
  · simp at h
theorem ckE_all {xs : List Int} (h : ckE xs = 0) : xs.all isE = true := by
  unfold ckE at h; split at h
  · rename_i g; exact g.2
  · simp at h
theorem ckE_01 (xs : List Int) : ckE xs = 0 ∨ ckE xs = 1 := by unfold ckE; split <;> simp

/-- The first k of them fit. -/
theorem all_of_upto {p : Int → Bool} {xs : List Int} (h : ∀ j, j < xs.length → p (xs.getD j 0) = true) : xs.all p = true := by
  rw [List.all_eq_true]
  intro x hx
  obtain ⟨j, hj, rfl⟩ := List.getElem_of_mem hx
  have := h j hj
  simpa [List.getD, hj] using this
theorem not_all_of {p : Int → Bool} {xs : List Int} {j : Nat} (hj : j < xs.length) (h : p (xs.getD j 0) = false) : xs.all p = false := by
  cases e : xs.all p with
  | false => rfl
  | true =>
    rw [List.all_eq_true] at e
    have := e _ (List.getElem_mem hj)
    simp [List.getD, hj] at h
    rw [h] at this; cases this
theorem upto_step {p : Int → Bool} {xs : List Int} {k : Nat} {x : Int} (h : ∀ j, j < k → p (xs.getD j 0) = true) (hx : xs.getD k 0 = x) (hp : p x = true) : ∀ j, j < k + 1 → p (xs.getD j 0) = true := by
  intro j hj
  by_cases e : j = k
  · subst e; rw [hx]; exact hp
  · exact h j (by omega)
theorem ret_int {k : IntKind} {a b : Int} (h : a = b) : Ending.returned (.int k a) = .returned (.int k b) := by rw [h]
theorem ret_bool {a b : Bool} (h : a = true ↔ b = true) : Ending.returned (.bool a) = .returned (.bool b) := by rw [Bool.eq_iff_iff.2 h]
theorem ret_boolE {a b : Bool} (h : a = b) : Ending.returned (.bool a) = .returned (.bool b) := by rw [h]

theorem addr_add (b off j : Nat) : (⟨b, off, none⟩ : Addr).add j = ⟨b, off + j, none⟩ := by
  unfold Addr.add; split
  · rename_i h; subst h; rfl
  · rfl

theorem Sl.cells {w : World} {ao : Option Addr} {n cap : Nat} {xs : List Int} (h : Sl w (.slice ao n cap) xs) :
    xs.length = n ∧ n ≤ 9223372036854775807 ∧ n ≤ cap ∧ ∀ j, j < n → ∃ b off, ao = some ⟨b, off, none⟩ ∧ b < w.heap.size ∧ w.cell? ⟨b, off + j, none⟩ = some (.int .i64 (xs.getD j 0)) := by
  obtain ⟨ao', cap', hv, hm, hcp, hc⟩ := h
  simp only [Value.slice.injEq] at hv
  obtain ⟨rfl, rfl, rfl⟩ := hv
  unfold maxLen at hm
  refine ⟨rfl, by omega, hcp, fun j hj => ?_⟩
  obtain ⟨b, off, rfl, hlt, hcell⟩ := hc (by intro e; rw [e] at hj; simp at hj)
  exact ⟨b, off, rfl, hlt, hcell j hj⟩

theorem Sl.form {w : World} {v : Value} {xs : List Int} (h : Sl w v xs) : ∃ ao cap, v = .slice ao xs.length cap := by
  obtain ⟨ao, cap, hv, _⟩ := h; exact ⟨ao, cap, hv⟩

theorem Sl_of_own {w : World} {base : Nat} {g n cap : Nat} {xs : List Int} (h : w.ownsRow base 3 1 (.slice (some ⟨g, 0, none⟩) n cap) n (xs.map (.int .i64))) : Sl w (.slice (some ⟨g, 0, none⟩) n cap) xs := by
  have hl : xs.length = n := by have := h.1; simpa using this
  have hc := fun j => h.cellAt j
  obtain ⟨_, h2⟩ := h
  rcases h2 with ⟨h', _⟩ | ⟨g', cap', cur, h', _, hg, hnc, hcm, _, _⟩
  · simp at h'
  · simp only [Value.slice.injEq, Option.some.injEq, Addr.mk.injEq, and_true, true_and] at h'
    obtain ⟨rfl, rfl⟩ := h'
    refine ⟨_, cap, by rw [hl], by rw [hl]; exact Nat.le_trans hnc hcm, by rw [hl]; exact hnc, fun _ => ⟨g, 0, rfl, (Array.getElem?_eq_some_iff.1 hg).1, fun j hj => ?_⟩⟩
    rw [Nat.zero_add, hc j (by omega)]
    simp [List.getD, hj]

theorem Sl.four {w : World} {v : Value} {xs : List Int} (h : Sl w v xs) (h4 : xs.length = 4) : ∃ b off cap, v = .slice (some ⟨b, off, none⟩) 4 cap ∧ 4 ≤ cap ∧ b < w.heap.size ∧ ∀ j, j < 4 → w.cell? ⟨b, off + j, none⟩ = some (.int .i64 (xs.getD j 0)) := by
  obtain ⟨ao, cap, rfl, hm, hcp, hc⟩ := h
  obtain ⟨b, off, rfl, hlt, hcell⟩ := hc (by intro e; rw [e] at h4; simp at h4)
  rw [h4] at hcell hcp ⊢
  exact ⟨b, off, cap, rfl, hcp, hlt, hcell⟩

/-- What is answered by With, WithOf, Cut, CutOf: a list, an error; new memory. -/
def Ans (w : World) (xs : List Int) (err : Int) (r : Ending) (w' : World) : Prop :=
  ∃ v', r = .returned (.tuple #[v', .int .i64 err]) ∧ Sl w' v' xs ∧ Below w.heap.size w w'

theorem Ans.bad (w : World) {xs : List Int} {err : Int} (hx : xs = []) : Ans w xs err (.returned (.tuple #[.slice none 0 0, .int .i64 err])) w :=
  ⟨_, rfl, hx ▸ Sl.nil w, Below.refl _ _⟩

theorem own_cell {w : World} {base g n cap : Nat} {xs : List Int} (h : w.ownsRow base 3 1 (.slice (some ⟨g, 0, none⟩) n cap) n (xs.map (.int .i64))) (k : Nat) (hk : k < n) : ∃ u, w.cell? ⟨g, k, none⟩ = some u := by
  rw [h.cellAt k (by omega)]
  have hl : xs.length = n := by have := h.1; simpa using this
  exact ⟨.int .i64 (xs[k]), by simp [show k < xs.length by omega]⟩
theorem own_put {w : World} {base g n cap : Nat} {xs : List Int} (h : w.ownsRow base 3 1 (.slice (some ⟨g, 0, none⟩) n cap) n (xs.map (.int .i64))) (k : Nat) (e : Int) :
    (w.setCell ⟨g, k, none⟩ (.int .i64 e)).ownsRow base 3 1 (.slice (some ⟨g, 0, none⟩) n cap) n ((xs.set k e).map (.int .i64)) := by
  have := (h.stored k (.int .i64 e)).1
  rw [List.map_set]; exact this
theorem own_ge {w : World} {base g n cap : Nat} {xs : List Value} (h : w.ownsRow base 3 1 (.slice (some ⟨g, 0, none⟩) n cap) n xs) : base ≤ g := (h.lt g rfl).1

/-- The last step of With and WithOf: the entry is put. -/
theorem Ans.put {w w1 : World} {g n cap k : Nat} {e : Int} {xs ys : List Int} (h : w1.ownsRow w.heap.size 3 1 (.slice (some ⟨g, 0, none⟩) n cap) n (xs.map (.int .i64))) (hb : Below w.heap.size w w1) (hy : xs = ys) :
    Ans w (ys.set k e) 0 (.returned (.tuple #[.slice (some ⟨g, 0, none⟩) n cap, .int .i64 0])) (w1.setCell ⟨g, k, none⟩ (.int .i64 e)) := by
  subst hy
  exact ⟨_, rfl, Sl_of_own (own_put h k e), hb.setCell (own_ge h) _⟩

theorem Ans.made {w w1 : World} {g n cap : Nat} {xs ys : List Int} (h : w1.ownsRow w.heap.size 3 1 (.slice (some ⟨g, 0, none⟩) n cap) n (xs.map (.int .i64))) (hb : Below w.heap.size w w1) (hy : xs = ys) :
    Ans w ys 0 (.returned (.tuple #[.slice (some ⟨g, 0, none⟩) n cap, .int .i64 0])) w1 := by
  subst hy
  exact ⟨_, rfl, Sl_of_own h, hb⟩

theorem Sl_new (w : World) (xs : List Int) (n : Nat) (hn : xs.length = n) (hm : n ≤ maxLen) : Sl (w.alloc (.cells (xs.map (Value.int .i64)).toArray 3)) (.slice (some ⟨w.heap.size, 0, none⟩) n n) xs := by
  subst hn
  refine ⟨_, _, rfl, hm, Nat.le_refl _, fun _ => ⟨w.heap.size, 0, rfl, by simp, fun j hj => ?_⟩⟩
  rw [Nat.zero_add, World.cell?_alloc_at _ _ _ _ rfl]
  simp [List.getD, hj]
theorem Sl_new4 (w : World) (g : Nat) (hg : g = w.heap.size) (a b c d : Int) : Sl (w.alloc (.cells #[.int .i64 a, .int .i64 b, .int .i64 c, .int .i64 d] 3)) (.slice (some ⟨g, 0, none⟩) 4 4) [a, b, c, d] := by subst hg; exact Sl_new w [a, b, c, d] 4 rfl (by decide)
theorem Sl_new1 (w : World) (g : Nat) (hg : g = w.heap.size) (a : Int) : Sl (w.alloc (.cells #[.int .i64 a] 3)) (.slice (some ⟨g, 0, none⟩) 1 1) [a] := by subst hg; exact Sl_new w [a] 1 rfl (by decide)

theorem Sl.past {w : World} {v : Value} {xs : List Int} (h : Sl w v xs) (o : Obj) : Sl (w.alloc o) v xs := h.below ((Below.refl _ _).alloc (Nat.le_refl _) o)

theorem Below.on' {w w1 w2 w3 : World} (h : Below w.heap.size w w1) (k : Below w1.heap.size w1 w2) (l : Below w2.heap.size w2 w3) : Below w.heap.size w w3 := Below.on (Below.on h k) l

end Go.Proofs.Ytehleeibgkpjmac
/- Contract of the document's within. -/
namespace Go.Proofs.Ytehleeibgkpjmac
open Go.RowKit
set_option maxRecDepth 20000

theorem within_any (n lo hi : Int) (w : World) : Calls Try.prog 46 #[.int .i64 n, .int .i64 lo, .int .i64 hi] w fun r w' => r = .returned (.bool (decide (lo ≤ n ∧ n ≤ hi))) ∧ w' = w := by
  go_enter Try.func46, Try.ntmps46
  go_wp2
  all_goals (go_ret; exact ⟨ret_bool (by simp <;> omega), rfl⟩)

end Go.Proofs.Ytehleeibgkpjmac
/- Contracts of isEntry, and of the document's entry and within, over the landed translation. -/
namespace Go.Proofs.Ytehleeibgkpjmac
open Go.RowKit
set_option maxRecDepth 20000

theorem isE_iff (e : Int) : isE e = true ↔ (e = 0 ∨ e = -1 ∨ (1 ≤ e ∧ e < 40)) := by simp [isE]

theorem isEntry_any (e : Int) (w : World) : Calls Try.prog 116 #[.int .i64 e] w fun r w' => r = .returned (.bool (isE e)) ∧ w' = w := by
  go_enter Try.func116, Try.ntmps116
  go_wp2
  all_goals (go_ret; exact ⟨ret_bool (by rw [isE_iff]; simp <;> omega), rfl⟩)

theorem entry_any (e : Int) (w : World) : Calls Try.prog 118 #[.int .i64 e] w fun r w' => r = .returned (.bool (isE e)) ∧ w' = w := by
  go_enter Try.func118, Try.ntmps118
  go_wp2_with (go_at_call 46; refine (within_any _ _ _ _).mono ?_; rintro e w' ⟨rfl, rfl⟩)
  all_goals (go_ret; exact ⟨ret_bool (by rw [isE_iff]; simp <;> omega), rfl⟩)
end Go.Proofs.Ytehleeibgkpjmac
/- Contracts of Check, Bare and of the document's CheckEntries, Bare, SameInts. -/
namespace Go.Proofs.Ytehleeibgkpjmac
open Go.RowKit
set_option maxRecDepth 20000

theorem check_no (ao : Option Addr) (n cap : Nat) (w : World) (hn : ((n : Int) != 4) = true) : Calls Try.prog 115 #[.slice ao n cap] w fun r w' => r = .returned (.int .i64 1) ∧ w' = w := by
  go_enter Try.func115, Try.ntmps115
  go_wp2
  go_ret; exact ⟨rfl, rfl⟩

theorem check_at (b off cap : Nat) (xs : List Int) (w : World) (h4 : xs.length = 4) (hc : ∀ j, j < 4 → w.cell? ⟨b, off + j, none⟩ = some (.int .i64 (xs.getD j 0))) :
    Calls Try.prog 115 #[.slice (some ⟨b, off, none⟩) 4 cap] w fun r w' => r = .returned (.int .i64 (ckE xs)) ∧ w' = w := by
  have HC : Hid (∀ j, j < 4 → w.cell? ⟨b, off + j, none⟩ = some (.int .i64 (xs.getD j 0))) := hc
  clear hc
  go_enter Try.func115, Try.ntmps115
  go_wp2
  go_loop [10] (fun i => ∃ k : Nat, k ≤ 4 ∧ i = .int .i64 k ∧ ∀ j, j < k → isE (xs.getD j 0) = true) (fun i => 4 - (intOf i).toNat)
  case atStart => exact ⟨0, by omega, rfl, fun j hj => absurd hj (by omega)⟩
  case round =>
    obtain ⟨k, hk, rfl, hall⟩ := hrel
    have HA : Hid (∀ j, j < k → isE (xs.getD j 0) = true) := hall
    clear hall
    by_cases hlt : k < 4
    · obtain ⟨x, hx⟩ : ∃ x, xs.getD k 0 = x := ⟨_, rfl⟩
      have hck := HC.out k hlt
      rw [hx] at hck
      have HX : Hid (xs.getD k 0 = x) := hx
      clear hx
      cases hE : isE x with
      | true =>
        go_wp2_with (go_at_call 116; refine (isEntry_any _ _).mono ?_; rintro e w' ⟨rfl, rfl⟩)
        go_round
        case rel => exact ⟨k + 1, by omega, by go_num, upto_step HA.out HX.out hE⟩
        case measure => simp [intOf]; omega
      | false =>
        go_wp2_with (go_at_call 116; refine (isEntry_any _ _).mono ?_; rintro e w' ⟨rfl, rfl⟩)
        go_ret
        exact ⟨ret_int (by rw [ckE_no]; intro h; rw [not_all_of (j := k) (by omega) (by rw [HX.out]; exact hE)] at h; simp at h), rfl⟩
    · have e4 : k = 4 := by omega
      subst e4
      go_wp2
      go_ret
      exact ⟨ret_int (ckE_yes h4 (all_of_upto (by rw [h4]; exact HA.out))).symm, rfl⟩

theorem check_any (v : Value) (xs : List Int) (w : World) (h : Sl w v xs) : Calls Try.prog 115 #[v] w fun r w' => r = .returned (.int .i64 (ckE xs)) ∧ w' = w := by
  obtain ⟨ao, cap, rfl, hm, hcp, hc⟩ := h
  by_cases h4 : xs.length = 4
  · obtain ⟨b, off, rfl, hlt, hcell⟩ := hc (by intro e; rw [e] at h4; simp at h4)
    rw [h4] at hcell ⊢
    exact check_at b off cap xs w h4 hcell
  · rw [ckE_no (fun e => h4 e.1)]
    exact check_no ao _ cap w (by rw [bne_iff_ne]; omega)

theorem checkOf_no (ao : Option Addr) (n cap : Nat) (w : World) (hn : ((n : Int) != 4) = true) : Calls Try.prog 95 #[.slice ao n cap] w fun r w' => r = .returned (.int .i64 1) ∧ w' = w := by
  go_enter Try.func95, Try.ntmps95
  go_wp2
  go_ret; exact ⟨rfl, rfl⟩

theorem checkOf_at (b off cap : Nat) (xs : List Int) (w : World) (h4 : xs.length = 4) (hc : ∀ j, j < 4 → w.cell? ⟨b, off + j, none⟩ = some (.int .i64 (xs.getD j 0))) :
    Calls Try.prog 95 #[.slice (some ⟨b, off, none⟩) 4 cap] w fun r w' => r = .returned (.int .i64 (ckE xs)) ∧ w' = w := by
  have HC : Hid (∀ j, j < 4 → w.cell? ⟨b, off + j, none⟩ = some (.int .i64 (xs.getD j 0))) := hc
  clear hc
  go_enter Try.func95, Try.ntmps95
  go_wp2
  go_loop [3] (fun i => ∃ k : Nat, k ≤ 4 ∧ i = .int .i64 k ∧ ∀ j, j < k → isE (xs.getD j 0) = true) (fun i => 4 - (intOf i).toNat)
  case atStart => exact ⟨0, by omega, rfl, fun j hj => absurd hj (by omega)⟩
  case round =>
    obtain ⟨k, hk, rfl, hall⟩ := hrel
    have HA : Hid (∀ j, j < k → isE (xs.getD j 0) = true) := hall
    clear hall
    by_cases hlt : k < 4
    · obtain ⟨x, hx⟩ : ∃ x, xs.getD k 0 = x := ⟨_, rfl⟩
      have hck := HC.out k hlt
      rw [hx] at hck
      have HX : Hid (xs.getD k 0 = x) := hx
      clear hx
      cases hE : isE x with
      | true =>
        go_wp2_with (go_at_call 118; refine (entry_any _ _).mono ?_; rintro e w' ⟨rfl, rfl⟩)
        go_round
        case rel => exact ⟨k + 1, by omega, by go_num, upto_step HA.out HX.out hE⟩
        case measure => simp [intOf]; omega
      | false =>
        go_wp2_with (go_at_call 118; refine (entry_any _ _).mono ?_; rintro e w' ⟨rfl, rfl⟩)
        go_ret
        exact ⟨ret_int (by rw [ckE_no]; intro h; rw [not_all_of (j := k) (by omega) (by rw [HX.out]; exact hE)] at h; simp at h), rfl⟩
    · have e4 : k = 4 := by omega
      subst e4
      go_wp2
      go_ret
      exact ⟨ret_int (ckE_yes h4 (all_of_upto (by rw [h4]; exact HA.out))).symm, rfl⟩

theorem checkOf_any (v : Value) (xs : List Int) (w : World) (h : Sl w v xs) : Calls Try.prog 95 #[v] w fun r w' => r = .returned (.int .i64 (ckE xs)) ∧ w' = w := by
  obtain ⟨ao, cap, rfl, hm, hcp, hc⟩ := h
  by_cases h4 : xs.length = 4
  · obtain ⟨b, off, rfl, hlt, hcell⟩ := hc (by intro e; rw [e] at h4; simp at h4)
    rw [h4] at hcell ⊢
    exact checkOf_at b off cap xs w h4 hcell
  · rw [ckE_no (fun e => h4 e.1)]
    exact checkOf_no ao _ cap w (by rw [bne_iff_ne]; omega)
end Go.Proofs.Ytehleeibgkpjmac
/- Contracts of Bare, and of the document's bare, Bare and SameInts. -/
namespace Go.Proofs.Ytehleeibgkpjmac
open Go.RowKit
set_option maxRecDepth 20000

theorem bare_at (b off cap : Nat) (xs : List Int) (w : World) (hck0 : ckE xs = 0) (hc : ∀ j, j < 4 → w.cell? ⟨b, off + j, none⟩ = some (.int .i64 (xs.getD j 0))) (hs : Sl w (.slice (some ⟨b, off, none⟩) 4 cap) xs) :
    Calls Try.prog 111 #[.slice (some ⟨b, off, none⟩) 4 cap] w fun r w' => r = .returned (.tuple #[.bool (bareE xs), .int .i64 0]) ∧ w' = w := by
  have HC : Hid (∀ j, j < 4 → w.cell? ⟨b, off + j, none⟩ = some (.int .i64 (xs.getD j 0))) := hc
  clear hc
  have h4 := ckE_len hck0
  have HE : Hid (bareE xs = bareL xs) := by show _ = _; unfold bareE; rw [if_pos hck0]
  go_enter Try.func111, Try.ntmps111
  go_wp2_with (go_at_call 115; refine (check_any _ xs _ hs).mono ?_; rintro e w' ⟨rfl, rfl⟩)
  go_loop [14] (fun i => ∃ k : Nat, k ≤ 4 ∧ i = .int .i64 k ∧ ∀ j, j < k → ((xs.getD j 0) == 0) = true) (fun i => 4 - (intOf i).toNat)
  case atStart => exact ⟨0, by omega, rfl, fun j hj => absurd hj (by omega)⟩
  case round =>
    obtain ⟨k, hk, rfl, hall⟩ := hrel
    have HA : Hid (∀ j, j < k → ((xs.getD j 0) == 0) = true) := hall
    clear hall
    by_cases hlt : k < 4
    · obtain ⟨x, hx⟩ : ∃ x, xs.getD k 0 = x := ⟨_, rfl⟩
      have hck := HC.out k hlt
      rw [hx] at hck
      have HX : Hid (xs.getD k 0 = x) := hx
      clear hx
      by_cases hE : x = 0
      · have hE' : (x != 0) = false := by simp [hE]
        have HE0 : Hid (x = 0) := hE
        clear hE
        go_wp2
        go_round
        case rel => exact ⟨k + 1, by omega, by go_num, upto_step (p := fun x => x == 0) HA.out HX.out (by simp [HE0.out])⟩
        case measure => simp [intOf]; omega
      · have hE' : (x != 0) = true := by simp [hE]
        go_wp2
        go_ret2
        refine ⟨?_, rfl⟩
        rw [HE.out, show bareL xs = false from not_all_of (j := k) (by omega) (by rw [HX.out]; simp [hE])]; rfl
    · have e4 : k = 4 := by omega
      subst e4
      go_wp2
      go_ret2
      refine ⟨?_, rfl⟩
      rw [HE.out, show bareL xs = true from all_of_upto (by rw [h4]; exact HA.out)]; rfl

theorem bare_no (v : Value) (xs : List Int) (w : World) (h : Sl w v xs) (hck0 : ckE xs = 1) :
    Calls Try.prog 111 #[v] w fun r w' => r = .returned (.tuple #[.bool (bareE xs), .int .i64 1]) ∧ w' = w := by
  have HE : Hid (bareE xs = false) := by show _ = _; unfold bareE; rw [if_neg (by omega)]
  go_enter Try.func111, Try.ntmps111
  go_wp2_with (go_at_call 115; refine (check_any _ xs _ h).mono ?_; rintro e w' ⟨rfl, rfl⟩)
  go_ret2
  exact ⟨by rw [HE.out]; rfl, rfl⟩

theorem bare_any (v : Value) (xs : List Int) (w : World) (h : Sl w v xs) :
    Calls Try.prog 111 #[v] w fun r w' => r = .returned (.tuple #[.bool (bareE xs), .int .i64 (ckE xs)]) ∧ w' = w := by
  rcases ckE_01 xs with h0 | h1
  · rw [h0]
    have hs := h
    have h4 := ckE_len h0
    obtain ⟨ao, cap, rfl, hm, hcp, hc⟩ := h
    obtain ⟨b, off, rfl, hlt, hcell⟩ := hc (by intro e; rw [e] at h4; simp at h4)
    rw [h4] at hcell hs ⊢
    exact bare_at b off cap xs w h0 hcell hs
  · rw [h1]; exact bare_no v xs w h h1

theorem bare_is {v : Value} {xs : List Int} {w : World} (h : Sl w v xs) {b : Bool} {c : Int} (hb : bareE xs = b) (hc : ckE xs = c) :
    Calls Try.prog 111 #[v] w fun r w' => r = .returned (.tuple #[.bool b, .int .i64 c]) ∧ w' = w := by subst hb; subst hc; exact bare_any v xs w h
theorem check_is {v : Value} {xs : List Int} {w : World} (h : Sl w v xs) {c : Int} (hc : ckE xs = c) :
    Calls Try.prog 115 #[v] w fun r w' => r = .returned (.int .i64 c) ∧ w' = w := by subst hc; exact check_any v xs w h
end Go.Proofs.Ytehleeibgkpjmac
/- Slots: what a right slot is; contracts of the rules, of isRight and of Check. -/
namespace Go.Proofs.Ytehleeibgkpjmac
open Go.RowKit
set_option maxRecDepth 20000

/-- Is a slot right: its kind, its data, its table? -/
def slotOK (k : Int) (d : ByteArray) (xs : List Int) : Bool :=
  if k = 0 then decide (d.size = 0 ∧ xs.length = 0)
  else if k = 1 then decide (d.size = 4 ∧ xs.length = 0)
  else if k = 2 then decide (ckE xs = 0 ∧ bareE xs = false ∧ d.size = 0)
  else false

theorem ba_nil (d : ByteArray) : d.toList = [] ↔ d.size = 0 := by
  rw [ByteArray.toList_eq, ByteArray.size_eq_zero_iff]
  constructor
  · intro h; exact ByteArray.ext (Array.toList_inj.1 h)
  · rintro rfl; rfl
theorem ba_isEmpty (d : ByteArray) : d.toList.isEmpty = decide (d.size = 0) := by
  rw [Bool.eq_iff_iff, List.isEmpty_iff, ba_nil]; simp

theorem upd_ex {P : Program} {w0 w : World} {B : Nat} (mty kt et : TypeId) (r clock : Nat) (es : Array MapEntry) (k : Int) (val : Value) (hm : P.underlying mty = some (.map kt et)) (hk : P.underlying kt = some (.int .i64)) (hb : w.heap[r]? = some (.map es clock))
    (hf : Instr.findNow (.int .i64) (.int .i64 k) es.toList 0 = some none) (hB : B ≤ r) (hbel : Below B w0 w) :
    ∃ W, (Instr.mapUpdate mty (.map (some r)) (.int .i64 k) val).run P w = .ok () W ∧ W.heap[r]? = some (.map (es.push { key := .int .i64 k, val := val, born := clock }) (clock + 1)) ∧ Below B w0 W ∧ W.heap.size = w.heap.size := by
  have hc : (Instr.checkKey false 10000 kt (.int .i64 k)).run P w = .ok () w := MapKept.run_checkKey (k := .int .i64 k) hk (by simp [MapKept.IsKey]) false 9999
  refine ⟨{ w with heap := w.heap.setIfInBounds r (.map (es.push { key := .int .i64 k, val := val, born := clock }) (clock + 1)) }, ?_, ?_, ?_, by simp⟩
  · simp [Instr.mapUpdate, run_underlying hm, MapKept.run_getObj_map hb, hc, MapKept.run_findKey hk hf, MapKept.run_setObj_map _ hb, Result.andThen]
  · have hlt : r < w.heap.size := (Array.getElem?_eq_some_iff.1 hb).1
    simp [hlt]
  · refine hbel.trans ⟨rfl, rfl, rfl, by simp, fun j hj => ?_⟩
    show (w.heap.setIfInBounds r _)[j]? = _
    rw [Array.getElem?_setIfInBounds_ne (by omega)]

theorem look_run {P : Program} {w : World} (mty kt et : TypeId) (r clock : Nat) (es : Array MapEntry) (k : Int) (v : Value) (i : Nat) (hm : P.underlying mty = some (.map kt et)) (hk : P.underlying kt = some (.int .i64)) (hb : w.heap[r]? = some (.map es clock))
    (hf : Instr.findNow (.int .i64) (.int .i64 k) es.toList 0 = some (some (i, v))) :
    (Instr.lookup mty (.map (some r)) (.int .i64 k) true).run P w = .ok (.tuple #[v, .bool true]) w := by
  have hc : (Instr.checkKey es.isEmpty 10000 kt (.int .i64 k)).run P w = .ok () w := MapKept.run_checkKey (k := .int .i64 k) hk (by simp [MapKept.IsKey]) _ 9999
  simp [Instr.lookup, run_underlying hm, MapKept.run_getObj_map hb, hc, MapKept.run_findKey hk hf, Result.andThen]
theorem look_none {P : Program} {w : World} (mty kt et : TypeId) (r clock : Nat) (es : Array MapEntry) (k : Int) (z : Value) (hm : P.underlying mty = some (.map kt et)) (hk : P.underlying kt = some (.int .i64)) (hb : w.heap[r]? = some (.map es clock))
    (hf : Instr.findNow (.int .i64) (.int .i64 k) es.toList 0 = some none) (hz : (zeroValue et).run P w = .ok z w) :
    (Instr.lookup mty (.map (some r)) (.int .i64 k) true).run P w = .ok (.tuple #[z, .bool false]) w := by
  have hc : (Instr.checkKey es.isEmpty 10000 kt (.int .i64 k)).run P w = .ok () w := MapKept.run_checkKey (k := .int .i64 k) hk (by simp [MapKept.IsKey]) _ 9999
  simp [Instr.lookup, run_underlying hm, MapKept.run_getObj_map hb, hc, MapKept.run_findKey hk hf, hz, Result.andThen]

def RULES : Array MapEntry := #[{ key := .int .i64 0, val := .func (.func 108) #[] #[], born := 0 }, { key := .int .i64 1, val := .func (.func 109) #[] #[], born := 1 }, { key := .int .i64 2, val := .func (.func 110) #[] #[], born := 2 }]

theorem rules_any (w : World) : Calls Try.prog 85 #[] w fun r w' => r = .returned (.map (some w.heap.size)) ∧ w'.heap[w.heap.size]? = some (.map RULES 3) ∧ Below w.heap.size w w' ∧ w'.heap.size = w.heap.size + 1 := by
  have hmm := @run_makeMap Try.prog
  have g0 := heap_alloc_new w (.map #[] 0)
  obtain ⟨W1, u1, g1, b1, z1⟩ := upd_ex (P := Try.prog) (w := w.alloc (.map #[] 0)) 101 3 117 w.heap.size 0 #[] 0 (.func (.func 108) #[] #[]) Try.underlying101 Try.underlying3 g0 rfl (Nat.le_refl _) ((Below.refl _ w).alloc (Nat.le_refl _) _)
  obtain ⟨W2, u2, g2, b2, z2⟩ := upd_ex (P := Try.prog) (w := W1) 101 3 117 w.heap.size 1 _ 1 (.func (.func 109) #[] #[]) Try.underlying101 Try.underlying3 g1 rfl (Nat.le_refl _) b1
  obtain ⟨W3, u3, g3, b3, z3⟩ := upd_ex (P := Try.prog) (w := W2) 101 3 117 w.heap.size 2 _ 2 (.func (.func 110) #[] #[]) Try.underlying101 Try.underlying3 g2 rfl (Nat.le_refl _) b2
  have HZ : Hid (W3.heap.size = w.heap.size + 1) := by show _ = _; rw [z3, z2, z1]; simp
  have HG : Hid (W3.heap[w.heap.size]? = some (.map RULES 3)) := g3
  clear g0 g1 g2 g3 b1 b2 z1 z2 z3
  go_enter Try.func85, Try.ntmps85
  go_wp2
  go_ret
  exact ⟨rfl, HG.out, b3, HZ.out⟩

/-- The three rules. -/
theorem rule1_any (k : Int) (d : ByteArray) (ao : Option Addr) (n cap : Nat) (w : World) :
    Calls Try.prog 108 #[.agg #[.int .i64 k, .string d, .slice ao n cap]] w fun r w' => r = .returned (.bool (decide (d.size = 0 ∧ n = 0))) ∧ Below w.heap.size w w' := by
  by_cases hd : d.size = 0
  · have h1 : d.toList.isEmpty = true := by rw [ba_isEmpty]; simp [hd]
    have HD : Hid (d.size = 0) := hd
    clear hd
    go_enter Try.func108, Try.ntmps108
    go_wp2
    go_ret
    exact ⟨ret_bool (by simp [HD.out]), (Below.refl _ _).alloc (Nat.le_refl _) _⟩
  · have h1 : d.toList.isEmpty = false := by rw [ba_isEmpty]; simp [hd]
    go_enter Try.func108, Try.ntmps108
    go_wp2
    go_ret
    exact ⟨ret_bool (by simp [hd]), (Below.refl _ _).alloc (Nat.le_refl _) _⟩
theorem rule2_any (k : Int) (d : ByteArray) (ao : Option Addr) (n cap : Nat) (w : World) :
    Calls Try.prog 109 #[.agg #[.int .i64 k, .string d, .slice ao n cap]] w fun r w' => r = .returned (.bool (decide (d.size = 4 ∧ n = 0))) ∧ Below w.heap.size w w' := by
  go_enter Try.func109, Try.ntmps109
  go_wp2
  all_goals
    go_ret
    exact ⟨ret_bool (by simp <;> omega), (Below.refl _ _).alloc (Nat.le_refl _) _⟩
theorem rule3_any (k : Int) (d : ByteArray) (tv : Value) (xs : List Int) (w : World) (h : Sl w tv xs) :
    Calls Try.prog 110 #[.agg #[.int .i64 k, .string d, tv]] w fun r w' => r = .returned (.bool (decide (ckE xs = 0 ∧ bareE xs = false ∧ d.size = 0))) ∧ Below w.heap.size w w' := by
  have h1 := h.past (.cells #[.int .i64 k, .string d, tv] 33)
  go_enter Try.func110, Try.ntmps110
  go_wp2_with (go_at_call 111; refine (bare_any _ xs _ h1).mono ?_; rintro e w' ⟨rfl, rfl⟩)
  all_goals
    go_ret
    exact ⟨ret_bool (by simp_all [ba_nil]), (Below.refl _ _).alloc (Nat.le_refl _) _⟩

theorem findNow_0 : Instr.findNow (.int .i64) (.int .i64 0) RULES.toList 0 = some (some (0, .func (.func 108) #[] #[])) := rfl
theorem findNow_1 : Instr.findNow (.int .i64) (.int .i64 1) RULES.toList 0 = some (some (1, .func (.func 109) #[] #[])) := rfl
theorem findNow_2 : Instr.findNow (.int .i64) (.int .i64 2) RULES.toList 0 = some (some (2, .func (.func 110) #[] #[])) := rfl
theorem findNow_x (k : Int) (h0 : k ≠ 0) (h1 : k ≠ 1) (h2 : k ≠ 2) : Instr.findNow (.int .i64) (.int .i64 k) RULES.toList 0 = some none := by
  have e0 : (k == 0) = false := by simpa using h0
  have e1 : (k == 1) = false := by simpa using h1
  have e2 : (k == 2) = false := by simpa using h2
  simp [RULES, Instr.findNow, Instr.sameNow, e0, e1, e2]

theorem rule1_is (k : Int) (d : ByteArray) (tv : Value) (xs : List Int) (w : World) (h : Sl w tv xs) :
    Calls Try.prog 108 #[.agg #[.int .i64 k, .string d, tv]] w fun r w' => r = .returned (.bool (slotOK 0 d xs)) ∧ Below w.heap.size w w' := by
  obtain ⟨ao, cap, rfl⟩ := h.form
  exact rule1_any k d ao xs.length cap w
theorem rule2_is (k : Int) (d : ByteArray) (tv : Value) (xs : List Int) (w : World) (h : Sl w tv xs) :
    Calls Try.prog 109 #[.agg #[.int .i64 k, .string d, tv]] w fun r w' => r = .returned (.bool (slotOK 1 d xs)) ∧ Below w.heap.size w w' := by
  obtain ⟨ao, cap, rfl⟩ := h.form
  exact rule2_any k d ao xs.length cap w
theorem rule3_is (k : Int) (d : ByteArray) (tv : Value) (xs : List Int) (w : World) (h : Sl w tv xs) :
    Calls Try.prog 110 #[.agg #[.int .i64 k, .string d, tv]] w fun r w' => r = .returned (.bool (slotOK 2 d xs)) ∧ Below w.heap.size w w' := rule3_any k d tv xs w h

theorem isRight_any (r clock : Nat) (k : Int) (d : ByteArray) (tv : Value) (xs : List Int) (w : World) (hr : w.heap[r]? = some (.map RULES clock)) (h : Sl w tv xs) :
    Calls Try.prog 84 #[.map (some r), .agg #[.int .i64 k, .string d, tv]] w fun e w' => e = .returned (.bool (slotOK k d xs)) ∧ Below w.heap.size w w' := by
  have hlt : r < w.heap.size := (Array.getElem?_eq_some_iff.1 hr).1
  have HR : Hid ((w.alloc (.cells #[.int .i64 k, .string d, tv] 33)).heap[r]? = some (.map RULES clock)) := (Below.heap_alloc w _ r hlt).trans hr
  have hs := h.past (.cells #[.int .i64 k, .string d, tv] 33)
  clear hr
  have b0 : Below w.heap.size w (w.alloc (.cells #[.int .i64 k, .string d, tv] 33)) := (Below.refl _ _).alloc (Nat.le_refl _) _
  by_cases h0 : k = 0
  · subst h0
    have hl := look_run (P := Try.prog) 101 3 117 r clock RULES 0 _ _ Try.underlying101 Try.underlying3 HR.out findNow_0
    go_enter Try.func84, Try.ntmps84
    go_wp2_with (go_at_call 108; refine (rule1_is 0 d tv xs _ hs).mono ?_; rintro e w1 ⟨rfl, b1⟩)
    go_ret
    exact ⟨rfl, Below.on b0 b1⟩
  by_cases h1 : k = 1
  · subst h1
    clear h0
    have hl := look_run (P := Try.prog) 101 3 117 r clock RULES 1 _ _ Try.underlying101 Try.underlying3 HR.out findNow_1
    go_enter Try.func84, Try.ntmps84
    go_wp2_with (go_at_call 109; refine (rule2_is 1 d tv xs _ hs).mono ?_; rintro e w1 ⟨rfl, b1⟩)
    go_ret
    exact ⟨rfl, Below.on b0 b1⟩
  by_cases h2 : k = 2
  · subst h2
    clear h0 h1
    have hl := look_run (P := Try.prog) 101 3 117 r clock RULES 2 _ _ Try.underlying101 Try.underlying3 HR.out findNow_2
    go_enter Try.func84, Try.ntmps84
    go_wp2_with (go_at_call 110; refine (rule3_is 2 d tv xs _ hs).mono ?_; rintro e w1 ⟨rfl, b1⟩)
    go_ret
    exact ⟨rfl, Below.on b0 b1⟩
  · have hl := look_none (P := Try.prog) 101 3 117 r clock RULES k .nilFunc Try.underlying101 Try.underlying3 HR.out (findNow_x k h0 h1 h2) (by kernel_rfl)
    have HF : Hid (slotOK k d xs = false) := by show _ = _; unfold slotOK; rw [if_neg h0, if_neg h1, if_neg h2]
    go_enter Try.func84, Try.ntmps84
    go_wp2
    go_ret
    exact ⟨by rw [HF.out]; rfl, b0⟩
end Go.Proofs.Ytehleeibgkpjmac
/- Lists of slots: what it means that a slice value holds them; contracts of checkAll, Grab, Used. -/
namespace Go.Proofs.Ytehleeibgkpjmac
open Go.RowKit
set_option maxRecDepth 20000

/-- A slot as data: kind, data, table. -/
abbrev SlotD : Type := Int × ByteArray × List Int
def okD (s : SlotD) : Bool := slotOK s.1 s.2.1 s.2.2

/-- The slot s lies in the world w from place off of block b on. -/
def SlAt (w : World) (b off : Nat) (s : SlotD) : Prop :=
  ∃ tv, w.cell? ⟨b, off, none⟩ = some (.int .i64 s.1) ∧ w.cell? ⟨b, off + 1, none⟩ = some (.string s.2.1) ∧ w.cell? ⟨b, off + 1 + 1, none⟩ = some tv ∧ Sl w tv s.2.2

def Slots (w : World) (v : Value) (L : List SlotD) : Prop :=
  ∃ ao cap, v = .slice ao L.length cap ∧ L.length ≤ maxLen ∧ L.length ≤ cap ∧ (L ≠ [] → ∃ b off, ao = some ⟨b, off, none⟩ ∧ b < w.heap.size ∧ ∀ j, (h : j < L.length) → SlAt w b (off + j * 3) L[j])

theorem SlAt.below {w w1 : World} {b off : Nat} {s : SlotD} (h : SlAt w b off s) (hlt : b < w.heap.size) (hb : Below w.heap.size w w1) : SlAt w1 b off s := by
  obtain ⟨tv, h1, h2, h3, h4⟩ := h
  exact ⟨tv, (hb.cell (p := ⟨b, off, none⟩) hlt).trans h1, (hb.cell (p := ⟨b, off + 1, none⟩) hlt).trans h2, (hb.cell (p := ⟨b, off + 1 + 1, none⟩) hlt).trans h3, h4.below hb⟩
theorem Slots.below {w w1 : World} {v : Value} {L : List SlotD} (h : Slots w v L) (hb : Below w.heap.size w w1) : Slots w1 v L := by
  obtain ⟨ao, cap, hv, hm, hcp, hc⟩ := h
  refine ⟨ao, cap, hv, hm, hcp, fun hne => ?_⟩
  obtain ⟨b, off, ha, hlt, hcell⟩ := hc hne
  exact ⟨b, off, ha, Nat.lt_of_lt_of_le hlt hb.size, fun j hj => (hcell j hj).below hlt hb⟩

/-- checkAll's answer. -/
def slotsE (L : List SlotD) : Int := if 1 ≤ L.length ∧ L.length ≤ 40 then (if L.all okD = true ∧ (L.headD default).1 = 0 then 0 else 1) else 2

theorem slotsE_bad {L : List SlotD} (h1 : 1 ≤ L.length) (h40 : L.length ≤ 40) {j : Nat} (hj : j < L.length) (h : okD L[j] = false) : slotsE L = 1 := by
  unfold slotsE
  rw [if_pos ⟨h1, h40⟩, if_neg]
  rintro ⟨ha, _⟩
  rw [List.all_eq_true] at ha
  have := ha _ (List.getElem_mem hj)
  rw [h] at this; cases this
theorem headD_eq {L : List SlotD} (h : 0 < L.length) : L.headD default = L[0] := by
  cases L with
  | nil => simp at h
  | cons a r => rfl
theorem slotsE_ok {L : List SlotD} (h1 : 1 ≤ L.length) (h40 : L.length ≤ 40) (h : ∀ j, (hj : j < L.length) → okD L[j] = true) (h0 : (L[0]'h1).1 = 0) : slotsE L = 0 := by
  unfold slotsE
  rw [if_pos ⟨h1, h40⟩, if_pos]
  refine ⟨?_, by rw [headD_eq h1]; exact h0⟩
  rw [List.all_eq_true]
  intro x hx
  obtain ⟨j, hj, rfl⟩ := List.getElem_of_mem hx
  exact h j hj
theorem slotsE_head {L : List SlotD} (h1 : 1 ≤ L.length) (h40 : L.length ≤ 40) (h0 : (L[0]'h1).1 ≠ 0) : slotsE L = 1 := by
  unfold slotsE
  rw [if_pos ⟨h1, h40⟩, if_neg]
  rintro ⟨_, hh⟩
  rw [headD_eq h1] at hh
  exact h0 hh

set_option maxHeartbeats 1000000 in
theorem checkAll_at (b off cap n : Nat) (L : List SlotD) (w : World) (hn : L.length = n) (h1 : 1 ≤ n) (h40 : n ≤ 40) (hlt : b < w.heap.size) (hc : ∀ j, (h : j < L.length) → SlAt w b (off + j * 3) L[j]) :
    Calls Try.prog 97 #[.slice (some ⟨b, off, none⟩) n cap] w fun r w' => r = .returned (.int .i64 (slotsE L)) ∧ Below w.heap.size w w' := by
  have HC : Hid (∀ j, (h : j < L.length) → SlAt w b (off + j * 3) L[j]) := hc
  have HN : Hid (L.length = n) := hn
  clear hc hn
  have g1 : ¬ (n : Int) < 1 := by omega
  have g2 : ¬ (40 : Int) < (n : Int) := by omega
  go_enter Try.func97, Try.ntmps97
  go_wp2_with (go_at_call 85; refine (rules_any _).mono ?_; rintro e w1 ⟨rfl, hr, b1, z1⟩; have HR : Hid (w1.heap[w.heap.size]? = some (.map RULES 3)) := hr; clear hr)
  go_loopw [17] (fun i wr => ∃ k : Nat, k ≤ n ∧ i = .int .i64 k ∧ (∀ j, (h : j < L.length) → j < k → okD L[j] = true) ∧ Hid (wr.heap[w.heap.size]? = some (.map RULES 3)) ∧ Below w.heap.size w wr ∧ w.heap.size < wr.heap.size) (fun i _ => n - (intOf i).toNat)
  case atStart => exact ⟨0, Nat.zero_le _, rfl, fun j h hj => absurd hj (by omega), HR, b1, by omega⟩
  case round =>
    obtain ⟨k, hk, rfl, hall, HRr, hbel, hsz⟩ := hrel
    have HA : Hid (∀ j, (h : j < L.length) → j < k → okD L[j] = true) := hall
    clear hall
    by_cases hlk : k < n
    · obtain ⟨s, hs⟩ : ∃ s, s = L[k]'(by rw [HN.out]; exact hlk) := ⟨_, rfl⟩
      obtain ⟨kk, dd, tt⟩ := s
      have hS : SlAt w b (off + k * 3) (kk, dd, tt) := by rw [hs]; exact HC.out k _
      obtain ⟨tv, c1, c2, c3, hsl⟩ := hS
      obtain ⟨ta, tc, htv⟩ := hsl.form
      subst htv
      have HS : Hid ((kk, dd, tt) = L[k]'(by rw [HN.out]; exact hlk)) := hs
      have c1 : wr.cell? ⟨b, off + k * 3, none⟩ = some (.int .i64 kk) := (hbel.cell (p := ⟨b, off + k * 3, none⟩) hlt).trans c1
      have c2 : wr.cell? ⟨b, off + k * 3 + 1, none⟩ = some (.string dd) := (hbel.cell (p := ⟨b, off + k * 3 + 1, none⟩) hlt).trans c2
      have c3 : wr.cell? ⟨b, off + k * 3 + 1 + 1, none⟩ = some (.slice ta tt.length tc) := (hbel.cell (p := ⟨b, off + k * 3 + 1 + 1, none⟩) hlt).trans c3
      have hslr : Sl wr (.slice ta tt.length tc) tt := hsl.below hbel
      clear hs hsl
      have hr1 : (wr.alloc (.cells #[.int .i64 kk, .string dd, .slice ta tt.length tc] 33)).heap[w.heap.size]? = some (.map RULES 3) := (Below.heap_alloc wr _ _ hsz).trans HRr.out
      have HR1 : Hid ((wr.alloc (.cells #[.int .i64 kk, .string dd, .slice ta tt.length tc] 33)).heap[w.heap.size]? = some (.map RULES 3)) := hr1
      clear hr1
      cases hE : slotOK kk dd tt with
      | true =>
        go_wp2_with fail
        refine (isRight_any _ 3 kk dd _ tt _ HR1.out (hslr.past _)).mono ?_
        rintro e w2 ⟨rfl, b2⟩
        go_wp2_with fail
        go_roundw
        case rel => exact ⟨k + 1, by omega, by go_num, fun j h hj => by
          by_cases e : j = k
          · subst e; rw [← HS.out]; exact hE
          · exact HA.out j h (by omega), (b2.block _ (by simp; omega)).trans HR1.out, Below.on' hbel ((Below.refl _ _).alloc (Nat.le_refl _) _) b2, by have := b2.size; simp at this; omega⟩
        case measure => simp [intOf]; omega
      | false =>
        go_wp2_with fail
        refine (isRight_any _ 3 kk dd _ tt _ HR1.out (hslr.past _)).mono ?_
        rintro e w2 ⟨rfl, b2⟩
        go_wp2_with fail
        go_ret
        exact ⟨ret_int (slotsE_bad (by rw [HN.out]; exact h1) (by rw [HN.out]; exact h40) (by rw [HN.out]; exact hlk) (by rw [← HS.out]; exact hE)).symm, Below.on' hbel ((Below.refl _ _).alloc (Nat.le_refl _) _) b2⟩
    · have e4 : k = n := by omega
      subst e4
      obtain ⟨s, hs⟩ : ∃ s, s = L[0]'(by rw [HN.out]; exact h1) := ⟨_, rfl⟩
      obtain ⟨kk, dd, tt⟩ := s
      have hS : SlAt w b (off + 0 * 3) (kk, dd, tt) := by rw [hs]; exact HC.out 0 _
      obtain ⟨tv, c1, _, _, _⟩ := hS
      have c1 : wr.cell? ⟨b, off, none⟩ = some (.int .i64 kk) := (hbel.cell (p := ⟨b, off, none⟩) hlt).trans (by simpa using c1)
      have HS : Hid ((kk, dd, tt) = L[0]'(by rw [HN.out]; exact h1)) := hs
      clear hs
      by_cases h0 : kk = 0
      · have h0' : (kk != 0) = false := by simp [h0]
        have H0 : Hid (kk = 0) := h0
        clear h0
        go_wp2_with fail
        go_ret
        exact ⟨ret_int (slotsE_ok (by rw [HN.out]; exact h1) (by rw [HN.out]; exact h40) (fun j h => HA.out j h (by rw [HN.out] at h; exact h)) (by rw [← HS.out]; exact H0.out)).symm, hbel⟩
      · have h0' : (kk != 0) = true := by simp [h0]
        go_wp2_with fail
        go_ret
        exact ⟨ret_int (slotsE_head (by rw [HN.out]; exact h1) (by rw [HN.out]; exact h40) (by rw [← HS.out]; exact h0)).symm, hbel⟩

theorem checkAll_no (ao : Option Addr) (n cap : Nat) (w : World) (h : n < 1 ∨ 40 < n) (hm : n ≤ 9223372036854775807) :
    Calls Try.prog 97 #[.slice ao n cap] w fun r w' => r = .returned (.int .i64 2) ∧ Below w.heap.size w w' := by
  rcases h with h | h
  · have g : (n : Int) < 1 := by omega
    go_enter Try.func97, Try.ntmps97
    go_wp2
    go_ret
    exact ⟨rfl, Below.refl _ _⟩
  · have g : ¬ (n : Int) < 1 := by omega
    have g' : (40 : Int) < (n : Int) := by omega
    go_enter Try.func97, Try.ntmps97
    go_wp2
    go_ret
    exact ⟨rfl, Below.refl _ _⟩

theorem checkAll_any (v : Value) (L : List SlotD) (w : World) (h : Slots w v L) :
    Calls Try.prog 97 #[v] w fun r w' => r = .returned (.int .i64 (slotsE L)) ∧ Below w.heap.size w w' := by
  obtain ⟨ao, cap, rfl, hm, hcp, hc⟩ := h
  unfold maxLen at hm
  by_cases hn : 1 ≤ L.length ∧ L.length ≤ 40
  · obtain ⟨b, off, rfl, hlt, hcell⟩ := hc (by intro e; rw [e] at hn; simp at hn)
    exact checkAll_at b off cap _ L w rfl hn.1 hn.2 hlt hcell
  · have e : slotsE L = 2 := by unfold slotsE; rw [if_neg hn]
    rw [e]
    exact checkAll_no ao _ cap w (by omega) (by omega)
end Go.Proofs.Ytehleeibgkpjmac
/- Contract of Used. -/
namespace Go.Proofs.Ytehleeibgkpjmac
open Go.RowKit
set_option maxRecDepth 20000

theorem slotsE_parts {L : List SlotD} (h : slotsE L = 0) : 1 ≤ L.length ∧ L.length ≤ 40 := by
  unfold slotsE at h
  split at h
  · assumption
  · simp at h
theorem slotsE_012 (L : List SlotD) : slotsE L = 0 ∨ slotsE L = 1 ∨ slotsE L = 2 := by
  unfold slotsE
  split
  · split <;> simp
  · simp

theorem Slots.open {w : World} {v : Value} {L : List SlotD} (h : Slots w v L) (h1 : 1 ≤ L.length) : ∃ b off cap, v = .slice (some ⟨b, off, none⟩) L.length cap ∧ L.length ≤ cap ∧ b < w.heap.size ∧ ∀ j, (h : j < L.length) → SlAt w b (off + j * 3) L[j] := by
  obtain ⟨ao, cap, rfl, hm, hcp, hc⟩ := h
  obtain ⟨b, off, rfl, hlt, hcell⟩ := hc (by intro e; rw [e] at h1; simp at h1)
  exact ⟨b, off, cap, rfl, hcp, hlt, hcell⟩

theorem used_bad (v : Value) (L : List SlotD) (E : Int) (w : World) (h : Slots w v L) (hE : slotsE L = E) (hne : (E != 0) = true) :
    Calls Try.prog 72 #[v] w fun r w' => r = .returned (.tuple #[.int .i64 0, .int .i64 E]) ∧ Below w.heap.size w w' := by
  have HE : Hid (slotsE L = E) := hE
  clear hE
  go_enter Try.func72, Try.ntmps72
  go_wp2_with (go_at_call 97; refine (checkAll_any _ L _ h).mono ?_; rintro e w1 ⟨he, b1⟩; rw [HE.out] at he; subst he)
  go_ret2
  exact ⟨rfl, b1⟩

/-- How many are not free. -/
def usedN (L : List SlotD) : Nat := L.countP (fun s => s.1 != 0)
theorem usedN_take_succ {L : List SlotD} {k : Nat} (h : k < L.length) : usedN (L.take (k + 1)) = usedN (L.take k) + if (L[k].1 != 0) = true then 1 else 0 := by
  unfold usedN
  rw [List.take_succ_eq_append_getElem h, List.countP_append]
  simp [List.countP_cons]
theorem usedN_le (L : List SlotD) : usedN L ≤ L.length := List.countP_le_length

set_option maxHeartbeats 1000000 in
theorem used_at (b off cap n : Nat) (L : List SlotD) (w : World) (hn : L.length = n) (h1 : 1 ≤ n) (h40 : n ≤ 40) (hlt : b < w.heap.size) (hc : ∀ j, (h : j < L.length) → SlAt w b (off + j * 3) L[j]) (hs : Slots w (.slice (some ⟨b, off, none⟩) n cap) L) (hE : slotsE L = 0) :
    Calls Try.prog 72 #[.slice (some ⟨b, off, none⟩) n cap] w fun r w' => r = .returned (.tuple #[.int .i64 (usedN L), .int .i64 0]) ∧ Below w.heap.size w w' := by
  have HC : Hid (∀ j, (h : j < L.length) → SlAt w b (off + j * 3) L[j]) := hc
  have HN : Hid (L.length = n) := hn
  have HE : Hid (slotsE L = 0) := hE
  clear hc hn hE
  go_enter Try.func72, Try.ntmps72
  go_wp2_with (go_at_call 97; refine (checkAll_any _ L _ hs).mono ?_; rintro e w1 ⟨he, b1⟩; rw [HE.out] at he; subst he)
  go_loopw [5, 15] (fun m i wr => ∃ k u : Nat, k ≤ n ∧ u ≤ k ∧ i = .int .i64 k ∧ m = .int .i64 u ∧ Hid (u = usedN (L.take k)) ∧ Below w.heap.size w wr) (fun _ i _ => n - (intOf i).toNat)
  case atStart => exact ⟨0, 0, by omega, by omega, rfl, rfl, rfl, b1⟩
  case round =>
    obtain ⟨k, u, hk, hu, rfl, rfl, HU, hbel⟩ := hrel
    by_cases hlk : k < n
    · obtain ⟨s, hs'⟩ : ∃ s, s = L[k]'(by rw [HN.out]; exact hlk) := ⟨_, rfl⟩
      obtain ⟨kk, dd, tt⟩ := s
      have hS : SlAt w b (off + k * 3) (kk, dd, tt) := by rw [hs']; exact HC.out k _
      obtain ⟨tv, c1, c2, c3, hsl⟩ := hS
      obtain ⟨ta, tc, htv⟩ := hsl.form
      subst htv
      have c1 : wr.cell? ⟨b, off + k * 3, none⟩ = some (.int .i64 kk) := (hbel.cell (p := ⟨b, off + k * 3, none⟩) hlt).trans c1
      have c2 : wr.cell? ⟨b, off + k * 3 + 1, none⟩ = some (.string dd) := (hbel.cell (p := ⟨b, off + k * 3 + 1, none⟩) hlt).trans c2
      have c3 : wr.cell? ⟨b, off + k * 3 + 1 + 1, none⟩ = some (.slice ta tt.length tc) := (hbel.cell (p := ⟨b, off + k * 3 + 1 + 1, none⟩) hlt).trans c3
      have HS : Hid ((kk, dd, tt) = L[k]'(by rw [HN.out]; exact hlk)) := hs'
      have hstep := usedN_take_succ (L := L) (k := k) (by rw [HN.out]; exact hlk)
      rw [← hs'] at hstep
      have HT : Hid (usedN (L.take (k + 1)) = usedN (L.take k) + if (kk != 0) = true then 1 else 0) := hstep
      clear hs' hsl hstep
      by_cases h0 : kk = 0
      · have h0' : (kk != 0) = false := by simp [h0]
        have H0 : Hid (kk = 0) := h0
        clear h0
        go_wp2
        go_roundw
        case rel => exact ⟨k + 1, u, by omega, by omega, by go_num, rfl, by show _ = _; rw [HT.out, ← HU.out, H0.out]; rfl, hbel.alloc hbel.size _⟩
        case measure => simp [intOf]; omega
      · have h0' : (kk != 0) = true := by simp [h0]
        go_wp2
        go_roundw
        case rel => exact ⟨k + 1, u + 1, by omega, by omega, by go_num, by go_num, by show _ = _; rw [HT.out, ← HU.out, h0', if_pos rfl], hbel.alloc hbel.size _⟩
        case measure => simp [intOf]; omega
    · have e4 : k = n := by omega
      subst e4
      have HU' : Hid (u = usedN L) := by show _ = _; rw [HU.out, List.take_of_length_le (by rw [HN.out]; exact Nat.le_refl _)]
      clear HU
      go_wp2
      go_ret2
      exact ⟨by rw [← HU'.out]; rfl, hbel⟩

theorem used_ok (v : Value) (L : List SlotD) (w : World) (h : Slots w v L) (hE : slotsE L = 0) :
    Calls Try.prog 72 #[v] w fun r w' => r = .returned (.tuple #[.int .i64 (usedN L), .int .i64 0]) ∧ Below w.heap.size w w' := by
  have hs := h
  obtain ⟨b, off, cap, rfl, hcp, hlt, hcell⟩ := h.open (slotsE_parts hE).1
  exact used_at b off cap _ L w rfl (slotsE_parts hE).1 (slotsE_parts hE).2 hlt hcell hs hE
theorem used_is {v : Value} {L : List SlotD} {w : World} (h : Slots w v L) (hE : slotsE L = 0) {u : Nat} (hu : usedN L = u) :
    Calls Try.prog 72 #[v] w fun r w' => r = .returned (.tuple #[.int .i64 u, .int .i64 0]) ∧ Below w.heap.size w w' := by subst hu; exact used_ok v L w h hE

end Go.Proofs.Ytehleeibgkpjmac
/- Images: what they are as data, what it means that a value is one in a world, and what Shape, Counts, Check and Look answer of them. -/
namespace Go.Proofs.Ytehleeibgkpjmac
open Go.RowKit
set_option maxRecDepth 20000

/-- A snapshot as data: name, guest, root. -/
abbrev SnapD : Type := ByteArray × Int × List Int
structure ImgD where
  guest : Int
  root : List Int
  slots : List SlotD
  refs : List Int
  snaps : List SnapD

def SnAt (w : World) (b off : Nat) (s : SnapD) : Prop :=
  ∃ rv, w.cell? ⟨b, off, none⟩ = some (.string s.1) ∧ w.cell? ⟨b, off + 1, none⟩ = some (.int .i64 s.2.1) ∧ w.cell? ⟨b, off + 1 + 1, none⟩ = some rv ∧ Sl w rv s.2.2
def Snaps (w : World) (v : Value) (L : List SnapD) : Prop :=
  ∃ ao cap, v = .slice ao L.length cap ∧ L.length ≤ maxLen ∧ L.length ≤ cap ∧ (L ≠ [] → ∃ b off, ao = some ⟨b, off, none⟩ ∧ b < w.heap.size ∧ ∀ j, (h : j < L.length) → SnAt w b (off + j * 3) L[j])
def Img (w : World) (v : Value) (m : ImgD) : Prop :=
  ∃ rv sv fv nv, v = .agg #[.int .i64 m.guest, rv, sv, fv, nv] ∧ Sl w rv m.root ∧ Slots w sv m.slots ∧ Sl w fv m.refs ∧ Snaps w nv m.snaps

theorem SnAt.below {w w1 : World} {b off : Nat} {s : SnapD} (h : SnAt w b off s) (hlt : b < w.heap.size) (hb : Below w.heap.size w w1) : SnAt w1 b off s := by
  obtain ⟨tv, h1, h2, h3, h4⟩ := h
  exact ⟨tv, (hb.cell (p := ⟨b, off, none⟩) hlt).trans h1, (hb.cell (p := ⟨b, off + 1, none⟩) hlt).trans h2, (hb.cell (p := ⟨b, off + 1 + 1, none⟩) hlt).trans h3, h4.below hb⟩
theorem Snaps.below {w w1 : World} {v : Value} {L : List SnapD} (h : Snaps w v L) (hb : Below w.heap.size w w1) : Snaps w1 v L := by
  obtain ⟨ao, cap, hv, hm, hcp, hc⟩ := h
  refine ⟨ao, cap, hv, hm, hcp, fun hne => ?_⟩
  obtain ⟨b, off, ha, hlt, hcell⟩ := hc hne
  exact ⟨b, off, ha, Nat.lt_of_lt_of_le hlt hb.size, fun j hj => (hcell j hj).below hlt hb⟩
theorem Img.below {w w1 : World} {v : Value} {m : ImgD} (h : Img w v m) (hb : Below w.heap.size w w1) : Img w1 v m := by
  obtain ⟨rv, sv, fv, nv, hv, h1, h2, h3, h4⟩ := h
  exact ⟨rv, sv, fv, nv, hv, h1.below hb, h2.below hb, h3.below hb, h4.below hb⟩
theorem Slots.form {w : World} {v : Value} {L : List SlotD} (h : Slots w v L) : ∃ ao cap, v = .slice ao L.length cap := by
  obtain ⟨ao, cap, hv, _⟩ := h; exact ⟨ao, cap, hv⟩
theorem Snaps.form {w : World} {v : Value} {L : List SnapD} (h : Snaps w v L) : ∃ ao cap, v = .slice ao L.length cap := by
  obtain ⟨ao, cap, hv, _⟩ := h; exact ⟨ao, cap, hv⟩
theorem Snaps.small {w : World} {v : Value} {L : List SnapD} (h : Snaps w v L) : L.length ≤ 9223372036854775807 := by
  obtain ⟨ao, cap, hv, hm, _⟩ := h; unfold maxLen at hm; omega
theorem Slots.small {w : World} {v : Value} {L : List SlotD} (h : Slots w v L) : L.length ≤ 9223372036854775807 := by
  obtain ⟨ao, cap, hv, hm, _⟩ := h; unfold maxLen at hm; omega
theorem Sl.small {w : World} {v : Value} {xs : List Int} (h : Sl w v xs) : xs.length ≤ 9223372036854775807 := by
  obtain ⟨ao, cap, hv, hm, _⟩ := h; unfold maxLen at hm; omega
theorem Snaps.open {w : World} {v : Value} {L : List SnapD} (h : Snaps w v L) (h1 : 1 ≤ L.length) : ∃ b off cap, v = .slice (some ⟨b, off, none⟩) L.length cap ∧ L.length ≤ cap ∧ b < w.heap.size ∧ ∀ j, (h : j < L.length) → SnAt w b (off + j * 3) L[j] := by
  obtain ⟨ao, cap, rfl, hm, hcp, hc⟩ := h
  obtain ⟨b, off, rfl, hlt, hcell⟩ := hc (by intro e; rw [e] at h1; simp at h1)
  exact ⟨b, off, cap, rfl, hcp, hlt, hcell⟩
theorem Sl.open {w : World} {v : Value} {xs : List Int} (h : Sl w v xs) (h1 : 1 ≤ xs.length) : ∃ b off cap, v = .slice (some ⟨b, off, none⟩) xs.length cap ∧ xs.length ≤ cap ∧ b < w.heap.size ∧ ∀ j, j < xs.length → w.cell? ⟨b, off + j, none⟩ = some (.int .i64 (xs.getD j 0)) := by
  obtain ⟨ao, cap, rfl, hm, hcp, hc⟩ := h
  obtain ⟨b, off, rfl, hlt, hcell⟩ := hc (by intro e; rw [e] at h1; simp at h1)
  exact ⟨b, off, cap, rfl, hcp, hlt, hcell⟩

/-! ### What is answered -/
def isLetter (b : UInt8) : Bool := decide (97 ≤ b.toNat ∧ b.toNat ≤ 122)
def isNm (s : ByteArray) : Bool := decide (1 ≤ s.size ∧ s.size ≤ 8) && s.data.toList.all isLetter
/-- The first k names are right, and rise. -/
def nmAt (L : List SnapD) (k : Nat) : Bool := isNm (L.getD k default).1 && (k == 0 || Op.bytesLess (L.getD (k - 1) default).1.toList (L.getD k default).1.toList)
def namesOK (L : List SnapD) : Bool := (List.range L.length).all (nmAt L)
def isKd (L : List SlotD) (k kind : Int) : Bool := decide (0 ≤ k ∧ k < L.length) && ((L.getD k.toNat default).1 == kind)
def tabE (L : List SlotD) (e : Int) : Bool := !(e != 0 && e != -1 && !isKd L e 1)
def tabFit (L : List SlotD) : Bool := L.all (fun s => s.2.2.all (tabE L))
def rootE (L : List SlotD) (k : Int) : Bool := !(k != 0 && !isKd L k 2)
def tabOf (L : List SlotD) (k : Int) : List Int := (L.getD k.toNat default).2.2
def lastFit (L : List SlotD) (g : Int) (r : List Int) : Bool :=
  g % 4 == 0 || (r.getD (r.length - 1) 0 == 0 || ((tabOf L (r.getD (r.length - 1) 0)).drop (g % 4).toNat).all (fun k => k == 0))
def rootFit (L : List SlotD) (g : Int) (r : List Int) : Bool := decide ((r.length : Int) = (g + 3) / 4) && (r.all (rootE L) && lastFit L g r)
/-- All Roots: the image's, as if it were a snapshot without a name, and the snapshots'. -/
def rootsOf (m : ImgD) : List SnapD := (⟨#[]⟩, m.guest, m.root) :: m.snaps
def guestOK (g : Int) : Bool := decide (0 ≤ g ∧ g ≤ 16)
def shapeE (m : ImgD) : Int :=
  if 3 < m.snaps.length then 2 else if slotsE m.slots ≠ 0 then slotsE m.slots else if m.refs.length ≠ m.slots.length ∨ namesOK m.snaps = false then 1
  else if (rootsOf m).all (fun s => guestOK s.2.1) = false then 3 else if tabFit m.slots = false then 1 else if (rootsOf m).all (fun s => rootFit m.slots s.2.1 s.2.2) = false then 1 else 0
end Go.Proofs.Ytehleeibgkpjmac
/- Contracts of isName and of what it calls. -/
namespace Go.Proofs.Ytehleeibgkpjmac
open Go.RowKit Go.Shelf
set_option maxRecDepth 20000

theorem decode_far (s : ByteArray) (i : Nat) (h : i < s.size) (ha : 128 ≤ (s[i]'h).toNat) : 128 ≤ (Utf8.decode s i).1 := by
  have e : s.get! (i + 0) = s[i]'h := by
    show s.get! i = _
    simp [ByteArray.get!, getElem!_pos, h]
    rfl
  have hr : 128 ≤ Utf8.runeError := by decide
  unfold Utf8.decode
  simp only [e]
  rw [if_neg (by omega)]
  split
  · split
    · assumption
    · exact hr
  · split
    · split
      · rename_i hh
        simp at hh
        show 128 ≤ _
        omega
      · exact hr
    · split
      · split
        · rename_i hh
          simp at hh
          show 128 ≤ _
          omega
        · exact hr
      · exact hr

theorem letter_any (x : Int) (w : World) : Calls Try.prog 120 #[.int .i32 x] w fun r w' => r = .returned (.bool (!decide (97 ≤ x ∧ x ≤ 122))) ∧ w' = w := by
  go_enter Try.func120, Try.ntmps120
  go_wp2
  all_goals (go_ret; exact ⟨ret_bool (by simp <;> omega), rfl⟩)
theorem letter_is {x : Int} (w : World) {B : Bool} (hB : (!decide (97 ≤ x ∧ x ≤ 122)) = B) : Calls Try.prog 120 #[.int .i32 x] w fun r w' => r = .returned (.bool B) ∧ w' = w := by
  subst hB; exact letter_any x w

theorem letters_bad {s : ByteArray} {k : Nat} (h : k < s.size) (hb : isLetter s[k] = false) : s.data.toList.all isLetter = false := by
  cases e : s.data.toList.all isLetter with
  | false => rfl
  | true =>
    rw [List.all_eq_true] at e
    have := e s[k] (by
      show s.data[k] ∈ s.data.toList
      exact Array.getElem_mem_toList _)
    rw [hb] at this; cases this
theorem letters_good {s : ByteArray} (h : ∀ k, (hk : k < s.size) → isLetter s[k] = true) : s.data.toList.all isLetter = true := by
  rw [List.all_eq_true]
  intro x hx
  obtain ⟨j, hj, rfl⟩ := List.getElem_of_mem hx
  exact h j (by simpa using hj)

set_option maxHeartbeats 1000000 in
theorem indexL_any (s : ByteArray) (w : World) :
    Calls Try.prog 131 #[.string s, .func (.func 120) #[] #[], .bool true] w fun r w' => (∃ i : Int, r = .returned (.int .i64 i) ∧ (decide (0 ≤ i)) = !s.data.toList.all isLetter) ∧ Below w.heap.size w w' := by
  go_enter Try.func131, Try.ntmps131
  go_wp2
  go_loopw [] (fun wr => ∃ k : Nat, k ≤ s.size ∧ Hid (∀ j, (h : j < s.size) → j < k → isLetter s[j] = true) ∧ wr = w.iter s k) (fun wr => s.size - wr.iterPos w.heap.size)
  case atStart => exact ⟨0, Nat.zero_le _, fun j h hj => absurd hj (by omega), rfl⟩
  case round =>
    obtain ⟨k, hk, HA, rfl⟩ := hrel
    by_cases hlk : k < s.size
    · by_cases hL : isLetter s[k] = true
      · have hl := hL
        unfold isLetter at hl
        simp at hl
        have hnx := fun ty => run_next_ascii (P := Try.prog) w s k ty hlk (by omega)
        have hq : (!decide ((97 : Int) ≤ ((s[k]'hlk).toNat : Int) ∧ ((s[k]'hlk).toNat : Int) ≤ 122)) = false := by simp; omega
        have HL : Hid (isLetter s[k] = true) := hL
        obtain ⟨R, hR⟩ : ∃ R : Nat, (s[k]'hlk).toNat = R := ⟨_, rfl⟩
        rw [hR] at hnx hq
        clear hL hl hR
        go_wp2_with (go_at_call 120; refine (letter_is _ hq).mono ?_; rintro e w1 ⟨rfl, hw⟩; subst hw)
        go_roundw
        case rel => exact ⟨k + 1, by omega, fun j h hj => by
          by_cases e : j = k
          · subst e; exact HL.out
          · exact HA.out j h (by omega), rfl⟩
        case measure => simp; omega
      · have hL' : isLetter s[k] = false := by simpa using hL
        have hl := hL'
        unfold isLetter at hl
        simp only [decide_eq_false_iff_not] at hl
        have hq : (!decide ((97 : Int) ≤ ((Utf8.decode s k).1 : Int) ∧ ((Utf8.decode s k).1 : Int) ≤ 122)) = true := by
          by_cases ha : (s[k]'hlk).toNat < 128
          · rw [decode_ascii s k hlk ha]; simp; omega
          · have := decode_far s k hlk (by omega)
            simp; omega
        have hnx := fun ty => run_next_any (P := Try.prog) w s k ty hlk
        have HL : Hid (isLetter s[k] = false) := hL'
        obtain ⟨R, hR⟩ : ∃ R : Nat, (Utf8.decode s k).1 = R := ⟨_, rfl⟩
        obtain ⟨K, hK⟩ : ∃ K : Nat, (Utf8.decode s k).2 = K := ⟨_, rfl⟩
        rw [hR] at hnx hq
        rw [hK] at hnx
        clear hL hl hL' hR hK
        go_wp2_with (go_at_call 120; refine (letter_is _ hq).mono ?_; rintro e w1 ⟨rfl, hw⟩; subst hw)
        go_ret
        exact ⟨⟨k, rfl, by rw [letters_bad hlk HL.out]; simp⟩, (Below.refl _ _).alloc (Nat.le_refl _) _⟩
    · have hnx := fun ty => run_next_end (P := Try.prog) w s k ty hlk
      go_wp2
      go_ret
      exact ⟨⟨-1, rfl, by rw [letters_good (fun j hj => HA.out j hj (by omega))]; simp⟩, (Below.refl _ _).alloc (Nat.le_refl _) _⟩

theorem containsL_any (s : ByteArray) (w : World) {B : Bool} (hB : s.data.toList.all isLetter = B) :
    Calls Try.prog 119 #[.string s, .func (.func 120) #[] #[]] w fun r w' => r = .returned (.bool (!B)) ∧ Below w.heap.size w w' := by
  have hI := indexL_any s w
  rw [hB] at hI
  clear hB
  have hJ : Calls Try.prog 124 #[.string s, .func (.func 120) #[] #[]] w fun r w' => (∃ i : Int, r = .returned (.int .i64 i) ∧ (decide (0 ≤ i)) = !B) ∧ Below w.heap.size w w' := by
    go_enter Try.func124, Try.ntmps124
    go_wp2_with (go_at_call 131; refine hI.mono ?_; rintro e w1 ⟨⟨i, rfl, hi⟩, b1⟩)
    go_ret
    exact ⟨⟨i, rfl, hi⟩, b1⟩
  clear hI
  go_enter Try.func119, Try.ntmps119
  go_wp2_with (go_at_call 124; refine hJ.mono ?_; rintro e w1 ⟨⟨i, rfl, hi⟩, b1⟩)
  go_ret
  exact ⟨ret_boolE (by rw [← hi]), b1⟩

theorem isName_any (s : ByteArray) (w : World) : Calls Try.prog 98 #[.string s] w fun r w' => r = .returned (.bool (isNm s)) ∧ Below w.heap.size w w' := by
  by_cases h0 : s.size = 0
  · have h1 : s.toList.isEmpty = true := by rw [ba_isEmpty]; simp [h0]
    have HS : Hid (isNm s = false) := by show _ = _; unfold isNm; rw [h0]; rfl
    clear h0
    go_enter Try.func98, Try.ntmps98
    go_wp2
    go_ret
    exact ⟨by rw [HS.out]; rfl, Below.refl _ _⟩
  · have h1 : s.toList.isEmpty = false := by rw [ba_isEmpty]; simp [h0]
    by_cases h8 : s.size ≤ 8
    · have h8' : (s.size : Int) ≤ 8 := by omega
      have HS : Hid (isNm s = s.data.toList.all isLetter) := by
        show _ = _
        unfold isNm
        rw [decide_eq_true (by omega)]; rfl
      have hcall := containsL_any s w rfl
      go_enter Try.func98, Try.ntmps98
      go_wp2_with (go_at_call 119; refine hcall.mono ?_; rintro e w1 ⟨rfl, b1⟩)
      go_ret
      exact ⟨ret_boolE (by rw [HS.out]; simp), b1⟩
    · have h8' : ¬ (s.size : Int) ≤ 8 := by omega
      have HS : Hid (isNm s = false) := by
        show _ = _
        unfold isNm
        rw [decide_eq_false (by omega)]; rfl
      go_enter Try.func98, Try.ntmps98
      go_wp2
      go_ret
      exact ⟨by rw [HS.out]; rfl, Below.refl _ _⟩
end Go.Proofs.Ytehleeibgkpjmac
/- Contracts of the document's IsName, wants, told. -/
namespace Go.Proofs.Ytehleeibgkpjmac
open Go.RowKit Go.Shelf
set_option maxRecDepth 20000

theorem wants_any (g : Int) (w : World) (h : 0 ≤ g ∧ g ≤ 16) : Calls Try.prog 71 #[.int .i64 g] w fun r w' => r = .returned (.int .i64 ((g + 3) / 4)) ∧ w' = w := by
  obtain ⟨k, rfl⟩ : ∃ k : Nat, g = k := ⟨g.toNat, by omega⟩
  have hk : k ≤ 16 := by omega
  clear h
  go_enter Try.func71, Try.ntmps71
  go_wp2
  go_ret
  exact ⟨ret_int (by omega), rfl⟩

set_option maxHeartbeats 1000000 in
theorem told_at (ao : Option Addr) (n cap : Nat) (xs : List Int) (y : Int) (w : World) (hn : xs.length = n) (hm : n ≤ 1000000)
    (hc : ∀ j, j < n → ∃ b off, ao = some ⟨b, off, none⟩ ∧ b < w.heap.size ∧ w.cell? ⟨b, off + j, none⟩ = some (.int .i64 (xs.getD j 0))) :
    Calls Try.prog 82 #[.slice ao n cap, .int .i64 y] w fun r w' => r = .returned (.int .i64 (xs.count y)) ∧ w' = w := by
  have HN : Hid (xs.length = n) := hn
  have HC : Hid (∀ j, j < n → ∃ b off, ao = some ⟨b, off, none⟩ ∧ b < w.heap.size ∧ w.cell? ⟨b, off + j, none⟩ = some (.int .i64 (xs.getD j 0))) := hc
  clear hn hc
  go_enter Try.func82, Try.ntmps82
  go_wp2
  go_loopw [5, 6] (fun c i wr => ∃ k u : Nat, k ≤ n ∧ u ≤ k ∧ i = .int .i64 k ∧ c = .int .i64 u ∧ Hid (u = (xs.take k).count y) ∧ wr = w) (fun _ i _ => n - (intOf i).toNat)
  case atStart => exact ⟨0, 0, Nat.zero_le _, Nat.zero_le _, rfl, rfl, by show _ = _; simp, rfl⟩
  case round =>
    obtain ⟨k, u, hk, hu, rfl, rfl, HU, hw⟩ := hrel
    subst hw
    by_cases hlk : k < n
    · obtain ⟨b, off, rfl, hlt, hcell⟩ := HC.out k hlk
      have hki : (k : Int) < (n : Int) := by omega
      have hkx : k < xs.length := by rw [HN.out]; exact hlk
      obtain ⟨x, hx⟩ : ∃ x, xs.getD k 0 = x := ⟨_, rfl⟩
      rw [hx] at hcell
      have HT : Hid ((xs.take (k + 1)).count y = (xs.take k).count y + if x == y then 1 else 0) := by
        show _ = _
        have e : xs[k] = x := by rw [← hx]; simp [List.getD, hkx]
        rw [List.take_add_one, List.getElem?_eq_getElem hkx, Option.toList_some, List.count_append, e, List.count_singleton]
      clear hx hkx
      cases hxy : x == y with
      | true =>
        go_wp2
        go_roundw
        case rel => exact ⟨k + 1, u + 1, by omega, by omega, by go_num, by go_num, by show _ = _; rw [HT.out, hxy, ← HU.out]; rfl, trivial⟩
        case measure => simp [intOf]; omega
      | false =>
        go_wp2
        go_roundw
        case rel => exact ⟨k + 1, u, by omega, by omega, by go_num, rfl, by show _ = _; rw [HT.out, hxy, ← HU.out]; rfl, trivial⟩
        case measure => simp [intOf]; omega
    · have e4 : k = n := by omega
      subst e4
      have HE : Hid (u = xs.count y) := by show _ = _; rw [HU.out, List.take_of_length_le (by rw [HN.out]; exact Nat.le_refl _)]
      go_wp2
      go_ret
      exact ⟨ret_int (by rw [HE.out]), rfl⟩
theorem told_is {v : Value} {xs : List Int} {w : World} (h : Sl w v xs) (hm : xs.length ≤ 1000000) (y : Int) {c : Int} (hc : (xs.count y : Int) = c) :
    Calls Try.prog 82 #[v, .int .i64 y] w fun r w' => r = .returned (.int .i64 c) ∧ w' = w := by
  subst hc
  obtain ⟨ao, cap, rfl⟩ := h.form
  obtain ⟨_, _, _, hc⟩ := h.cells
  exact told_at ao _ cap xs y w rfl hm hc
end Go.Proofs.Ytehleeibgkpjmac
/- Contracts of roots and of the function that it answers: all Roots come, one by one, or a part of them, if a round says 'no more'. -/
namespace Go.Proofs.Ytehleeibgkpjmac
open Go.RowKit Go.Shelf
set_option maxRecDepth 20000
attribute [local go_sem] Oper.semAt_some

/-- What a Root is handed on as: its three parts, the last one a slice value. -/
structure RootV where
  nm : ByteArray
  g : Int
  a : Option Addr
  n : Nat
  c : Nat
def encRoot (x : RootV) : Array Value := #[.agg #[.string x.nm, .int .i64 x.g, .slice x.a x.n x.c]]

/-- The Roots of an image as values: the image's own first. -/
structure RootsV (n₀ : Nat) (W : World) (Bm : Nat) (xs : List RootV) : Prop where
  ex : ∃ (g : Int) (ra : Option Addr) (rn rc : Nat) (sv fv : Value) (ao : Option Addr) (n cap : Nat) (ys : List RootV), xs = ⟨⟨#[]⟩, g, ra, rn, rc⟩ :: ys ∧ ys.length = n ∧ n ≤ 3 ∧
    W.cell? ⟨Bm, 0, none⟩ = some (.int .i64 g) ∧ W.cell? ⟨Bm, 1, none⟩ = some (.slice ra rn rc) ∧ W.cell? ⟨Bm, 2, none⟩ = some sv ∧ W.cell? ⟨Bm, 3, none⟩ = some fv ∧ W.cell? ⟨Bm, 4, none⟩ = some (.slice ao n cap) ∧
    (0 < n → ∃ b off, ao = some ⟨b, off, none⟩ ∧ b < n₀ ∧ ∀ j, (h : j < ys.length) → W.cell? ⟨b, off + j * 3, none⟩ = some (.string ys[j].nm) ∧ W.cell? ⟨b, off + j * 3 + 1, none⟩ = some (.int .i64 ys[j].g) ∧ W.cell? ⟨b, off + j * 3 + 1 + 1, none⟩ = some (.slice ys[j].a ys[j].n ys[j].c))
/-- What a round must keep: what lay below n₀, and the block Bm. -/
def KpR (n₀ Bm : Nat) (W W' : World) : Prop := Below n₀ W W' ∧ W'.heap[Bm]? = W.heap[Bm]?
theorem KpR.trans {n₀ Bm : Nat} {A B C : World} (h : KpR n₀ Bm A B) (k : KpR n₀ Bm B C) : KpR n₀ Bm A C := ⟨h.1.trans k.1, k.2.trans h.2⟩
theorem KpR.put {n₀ Bm : Nat} {w : World} (hn : n₀ ≤ w.heap.size) (hB : Bm < w.heap.size) (W : World) (l : Nat) (o o' : Obj) (hl : w.heap.size ≤ l) (h : W.heap[l]? = some o) (h1 : o.isCells = false) (h2 : o.isWalk = false) : KpR n₀ Bm W (W.putObj l o') :=
  ⟨belowK_b hn W l o o' hl h h1 h2, World.putObj_heap_other (by omega)⟩
theorem KpR.refl (n₀ Bm : Nat) (W : World) : KpR n₀ Bm W W := ⟨Below.refl _ _, rfl⟩
theorem KpR.of_below {n₀ Bm : Nat} {W W' : World} (h : Below W.heap.size W W') (hn : n₀ ≤ W.heap.size) (hB : Bm < W.heap.size) : KpR n₀ Bm W W' := ⟨h.mono hn, h.block _ hB⟩
theorem KpR.alloc {n₀ Bm : Nat} {W : World} (hn : n₀ ≤ W.heap.size) (hB : Bm < W.heap.size) (o : Obj) : KpR n₀ Bm W (W.alloc o) := KpR.of_below ((Below.refl _ W).alloc (Nat.le_refl _) o) hn hB
theorem cell_same {A B : World} {b : Nat} (h : B.heap[b]? = A.heap[b]?) (o : Nat) : B.cell? ⟨b, o, none⟩ = A.cell? ⟨b, o, none⟩ := by simp [World.cell?, h]
theorem RootsV.kept {n₀ Bm : Nat} {A B : World} {xs : List RootV} (h : RootsV n₀ A Bm xs) (hk : KpR n₀ Bm A B) : RootsV n₀ B Bm xs := by
  obtain ⟨g, ra, rn, rc, sv, fv, ao, n, cap, ys, h1, h2, h3, c0, c1, c2, c3, c4, h5⟩ := h.ex
  refine ⟨g, ra, rn, rc, sv, fv, ao, n, cap, ys, h1, h2, h3, (cell_same hk.2 _).trans c0, (cell_same hk.2 _).trans c1, (cell_same hk.2 _).trans c2, (cell_same hk.2 _).trans c3, (cell_same hk.2 _).trans c4, fun h0 => ?_⟩
  obtain ⟨b, off, e, hlt, hc⟩ := h5 h0
  exact ⟨b, off, e, hlt, fun j hj => ⟨(hk.1.cell (p := ⟨b, off + j * 3, none⟩) hlt).trans (hc j hj).1, (hk.1.cell (p := ⟨b, off + j * 3 + 1, none⟩) hlt).trans (hc j hj).2.1, (hk.1.cell (p := ⟨b, off + j * 3 + 1 + 1, none⟩) hlt).trans (hc j hj).2.2⟩⟩

theorem roots_in (F : Fence) (n : Nat) (h1 : F.fn 40) (hro : F.round = none) (a0 a1 a2 a3 a4 : Value) (w : World) :
    CallsIn F n Try.prog 40 #[.agg #[a0, a1, a2, a3, a4]] w fun e w' => e = .returned (.func (.func 76) #[] #[.pointer (some ⟨w.heap.size, 0, none⟩)]) ∧ w' = w.alloc (.cells #[a0, a1, a2, a3, a4] 26) := by
  refine callsIn_of_wp Try.func40 rfl h1 ?_ hro
  simp only [Try.ntmps40, List.size_toArray, List.length_cons, List.length_nil, Nat.reduceAdd, Nat.reduceSub, Array.replicate_succ, Array.replicate_zero, List.push_toArray, List.append_toArray, List.nil_append, List.cons_append]
  gi_wp2
  go_ret
  exact ⟨rfl, rfl⟩

set_option maxRecDepth 100000 in
set_option maxHeartbeats 2000000 in
theorem roots1_in {α : Type} (val : α → RootV) (F : Fence) (n : Nat) (h6 : F.fn 76) (hro : F.round = none) (hn : 1 ≤ n) (l Bm n₀ : Nat) (xs : List α) (J Jx : List α → World → Prop)
    (hY : ∀ pre x W, J pre W → pre.length < xs.length → YieldAt F (n - 1) Try.prog l (encRoot (val x)) W fun e W' =>
      (e = .returned (.bool true) ∧ J (pre ++ [x]) W' ∧ KpR n₀ Bm W W') ∨ (e = .returned (.bool false) ∧ Jx (pre ++ [x]) W'))
    (hJa : ∀ s W o, J s W → J s (W.alloc o)) (W : World) (hL : RootsV n₀ W Bm (xs.map val)) (hn₀ : n₀ ≤ W.heap.size) (hBm : Bm < W.heap.size) (h0 : J [] W) :
    CallsIn F n Try.prog 76 #[.func (.yield l) #[] #[], .pointer (some ⟨Bm, 0, none⟩)] W fun e W' => (∃ v, e = .returned v) ∧
      ((∃ ys, ys = xs ∧ J ys W') ∨ (∃ pre, pre <+: xs ∧ Jx pre W')) := by
  obtain ⟨g, ra, rn, rc, sv, fv, ao, m, cap, vs, hx, hz, hm3, c0, c1, c2, c3, c4, hc⟩ := hL.ex
  obtain ⟨x0, zs, rfl, hx0, hzs⟩ := List.map_eq_cons_iff.1 hx
  subst hzs
  have HZ : Hid (zs.length = m) := by show _ = _; simpa using hz
  have HC : Hid (0 < m → ∃ b off, ao = some ⟨b, off, none⟩ ∧ b < n₀ ∧ ∀ j, (h : j < zs.length) → W.cell? ⟨b, off + j * 3, none⟩ = some (.string (val zs[j]).nm) ∧ W.cell? ⟨b, off + j * 3 + 1, none⟩ = some (.int .i64 (val zs[j]).g) ∧ W.cell? ⟨b, off + j * 3 + 1 + 1, none⟩ = some (.slice (val zs[j]).a (val zs[j]).n (val zs[j]).c)) := fun h0 => by
    obtain ⟨b, off, e, hb, h⟩ := hc h0
    exact ⟨b, off, e, hb, fun j hj => by have := h j (by simpa using hj); rw [List.getElem_map] at this; exact this⟩
  obtain ⟨fn, tmps, assign, body, hy, hR⟩ := hY [] x0 W h0 (by simp)
  rw [hx0] at hy
  unfold encRoot at hy
  dsimp only at hy
  clear hx hz hc hL hx0
  refine callsIn_of_wp Try.func76 rfl h6 ?_ hro
  simp only [Try.ntmps76, List.size_toArray, List.length_cons, List.length_nil, Nat.reduceAdd, Nat.reduceSub, Array.replicate_succ, Array.replicate_zero, List.push_toArray, List.append_toArray, List.nil_append, List.cons_append]
  gi_wp2
  refine hR.mono ?_
  rintro e W1 (⟨rfl, hJ1, hk1⟩ | ⟨rfl, hJx1⟩)
  · have c4 : W1.cell? ⟨Bm, 4, none⟩ = some (.slice ao m cap) := (cell_same hk1.2 _).trans c4
    have hs1 : n₀ ≤ W1.heap.size := Nat.le_trans hn₀ hk1.1.size
    have hs2 : Bm < W1.heap.size := Nat.lt_of_lt_of_le hBm hk1.1.size
    gi_wp2
    gi_loopw [4, 16] (fun _ i wr => ∃ k : Nat, k ≤ m ∧ i = .int .i64 k ∧ J (x0 :: zs.take k) wr ∧ Below n₀ W wr ∧ n₀ ≤ wr.heap.size ∧ Bm < wr.heap.size) (fun _ i _ => m - (intOf i).toNat)
    case atStart => exact ⟨0, Nat.zero_le _, rfl, hJ1, hk1.1, hs1, hs2⟩
    case round =>
      obtain ⟨k, hk, rfl, hJk, hbel, hsz, hsB⟩ := hrel
      by_cases hlk : k < m
      · obtain ⟨b, off, rfl, hlt, hcell⟩ := HC.out (by omega)
        have hki : (k : Int) < (m : Int) := by omega
        obtain ⟨y, hyk⟩ : ∃ y, y = zs[k]'(by rw [HZ.out]; exact hlk) := ⟨_, rfl⟩
        have hcc := hcell k (by rw [HZ.out]; exact hlk)
        rw [← hyk] at hcc
        have HT : Hid (zs.take (k + 1) = zs.take k ++ [y]) := by show _ = _; rw [List.take_add_one, hyk]; simp [show k < zs.length by rw [HZ.out]; exact hlk]
        have hYk := hY (x0 :: zs.take k) y
        obtain ⟨s, hs⟩ : ∃ s, s = val y := ⟨_, rfl⟩
        rw [← hs] at hcc hYk
        obtain ⟨nm, gg, sa, sn, sc⟩ := s
        obtain ⟨d1, d2, d3⟩ := hcc
        have d1 : wr.cell? ⟨b, off + k * 3, none⟩ = some (.string nm) := (hbel.cell (p := ⟨b, off + k * 3, none⟩) hlt).trans d1
        have d2 : wr.cell? ⟨b, off + k * 3 + 1, none⟩ = some (.int .i64 gg) := (hbel.cell (p := ⟨b, off + k * 3 + 1, none⟩) hlt).trans d2
        have d3 : wr.cell? ⟨b, off + k * 3 + 1 + 1, none⟩ = some (.slice sa sn sc) := (hbel.cell (p := ⟨b, off + k * 3 + 1 + 1, none⟩) hlt).trans d3
        have hba : Below n₀ wr (wr.alloc (.cells #[.string nm, .int .i64 gg, .slice sa sn sc] 61)) := (Below.refl _ _).alloc hsz _
        obtain ⟨fn, tmps, assign, body, hy, hR⟩ := hYk (wr.alloc (.cells #[.string nm, .int .i64 gg, .slice sa sn sc] 61)) (hJa _ _ _ hJk) (by have := HZ.out; simp; omega)
        unfold encRoot at hy
        dsimp only at hy
        clear hs hcell hyk hYk
        gi_wp2
        refine hR.mono ?_
        rintro e W3 (⟨rfl, hJ3, hk3⟩ | ⟨rfl, hJx3⟩)
        · gi_wp2
          go_roundw
          case rel => exact ⟨k + 1, by omega, by go_num, by rw [HT.out]; exact hJ3, (hbel.trans hba).trans hk3.1, Nat.le_trans (Nat.le_trans hsz hba.size) hk3.1.size, Nat.lt_of_lt_of_le (Nat.lt_of_lt_of_le hsB hba.size) hk3.1.size⟩
          case measure => simp [intOf]; omega
        · gi_wp2
          refine bodyPost_ret (results_none rfl _ _ _) rfl ?_
          refine ⟨⟨_, rfl⟩, .inr ⟨_, ?_, hJx3⟩⟩
          rw [List.cons_append, ← HT.out]
          exact List.cons_prefix_cons.2 ⟨rfl, List.take_prefix _ _⟩
      · have e4 : k = m := by omega
        subst e4
        gi_wp2
        go_end0
        refine ⟨⟨_, rfl⟩, .inl ⟨_, ?_, hJk⟩⟩
        rw [List.take_of_length_le (by rw [HZ.out]; exact Nat.le_refl _)]
  · gi_wp2
    refine bodyPost_ret (results_none rfl _ _ _) rfl ?_
    refine ⟨⟨_, rfl⟩, .inr ⟨_, ?_, hJx1⟩⟩
    exact ⟨zs, rfl⟩

theorem roots_stops {α : Type} (val : α → RootV) (F : Fence) (n : Nat) (h6 : F.fn 76) (hro : F.round = none) (hn : 1 ≤ n) (Bm n₀ : Nat) (xs : List α) (w : World) (hL : RootsV n₀ w Bm (xs.map val)) (hn₀ : n₀ ≤ w.heap.size) (hBm : Bm < w.heap.size) :
    SeqStopsK F n Try.prog 76 #[.pointer (some ⟨Bm, 0, none⟩)] (fun x => encRoot (val x)) (KpR n₀ Bm) (fun ys => ys = xs) (fun pre => pre <+: xs) xs.length w := fun l J Jx W hW hJ _ hY h0 =>
  roots1_in val F n h6 hro hn l Bm n₀ xs J Jx hY (fun s A o h => hJ s A _ none h (World.grownBy_alloc A o none) (by simp)) W (hL.kept (KpR.of_below hW hn₀ hBm)) (Nat.le_trans hn₀ hW.size) (Nat.lt_of_lt_of_le hBm hW.size) h0

/-- A Root's value, and what it is as data. -/
def Rt (w : World) (x : RootV) (s : SnapD) : Prop := x.nm = s.1 ∧ x.g = s.2.1 ∧ Sl w (.slice x.a x.n x.c) s.2.2
abbrev RootA (w : World) : Type := { p : RootV × SnapD // Rt w p.1 p.2 }
end Go.Proofs.Ytehleeibgkpjmac
/- Contracts of slices.IndexFunc and slices.ContainsFunc, over integers and over slots, at whatever predicate. -/
namespace Go.Proofs.Ytehleeibgkpjmac
open Go.RowKit
set_option maxRecDepth 20000

/-- What is asked of a predicate: wherever all that lay lies, it answers p, and leaves all that lay. -/
def PredI (g : Nat) (lb : Array Value) (p : Int → Bool) (w : World) : Prop :=
  ∀ (W : World) (x : Int), Below w.heap.size w W → Calls Try.prog g (#[.int .i64 x] ++ lb) W fun e w' => e = .returned (.bool (p x)) ∧ Below W.heap.size W w'

theorem any_hit {p : Int → Bool} {xs : List Int} {k : Nat} (hk : k < xs.length) (h : p (xs.getD k 0) = true) : xs.any p = true := by
  rw [List.any_eq_true]
  exact ⟨xs[k], List.getElem_mem hk, by simpa [List.getD, hk] using h⟩
theorem any_none {p : Int → Bool} {xs : List Int} (h : ∀ j, j < xs.length → p (xs.getD j 0) = false) : xs.any p = false := by
  rw [List.any_eq_false]
  intro x hx
  obtain ⟨j, hj, rfl⟩ := List.getElem_of_mem hx
  have := h j hj
  simpa [List.getD, hj] using this

set_option maxHeartbeats 1000000 in
theorem indexI_at (g : Nat) (lb : Array Value) (eg : ∀ args w, (callFunc g args).run Try.prog w = .ok (.enter g args) w) (p : Int → Bool) (ao : Option Addr) (n cap : Nat) (xs : List Int) (w : World) (hn : xs.length = n) (hm : n ≤ 9223372036854775807)
    (hc : 0 < n → ∃ b off, ao = some ⟨b, off, none⟩ ∧ b < w.heap.size ∧ ∀ j, j < n → w.cell? ⟨b, off + j, none⟩ = some (.int .i64 (xs.getD j 0))) (hp : PredI g lb p w) :
    Calls Try.prog 122 #[.slice ao n cap, .func (.func g) #[] lb] w fun r w' => (∃ i : Int, r = .returned (.int .i64 i) ∧ (decide (0 ≤ i)) = xs.any p) ∧ Below w.heap.size w w' := by
  have HN : Hid (xs.length = n) := hn
  have HP : Hid (PredI g lb p w) := hp
  have HC : Hid (0 < n → ∃ b off, ao = some ⟨b, off, none⟩ ∧ b < w.heap.size ∧ ∀ j, j < n → w.cell? ⟨b, off + j, none⟩ = some (.int .i64 (xs.getD j 0))) := hc
  clear hn hp hc
  go_enter Try.func122, Try.ntmps122
  go_wp2
  go_loopw [5, 8] (fun _ i wr => ∃ k : Nat, k ≤ n ∧ i = .int .i64 k ∧ Hid (∀ j, j < k → p (xs.getD j 0) = false) ∧ Below w.heap.size w wr) (fun _ i _ => n - (intOf i).toNat)
  case atStart => exact ⟨0, Nat.zero_le _, rfl, fun j hj => absurd hj (by omega), Below.refl _ _⟩
  case round =>
    obtain ⟨k, hk, rfl, HA, hbel⟩ := hrel
    by_cases hlk : k < n
    · obtain ⟨b, off, rfl, hlt, hcell⟩ := HC.out (by omega)
      have hki : (k : Int) < (n : Int) := by omega
      obtain ⟨x, hx⟩ : ∃ x, x = xs.getD k 0 := ⟨_, rfl⟩
      have c1 : wr.cell? ⟨b, off + k, none⟩ = some (.int .i64 x) := by rw [hx]; exact (hbel.cell (p := ⟨b, off + k, none⟩) hlt).trans (hcell k hlk)
      have HX : Hid (x = xs.getD k 0) := hx
      have hcall := HP.out wr x hbel
      clear hx hcell
      cases hq : p x with
      | true =>
        rw [hq] at hcall
        go_wp2_with (go_at_fn g; refine hcall.mono ?_; rintro e w1 ⟨rfl, b1⟩)
        go_ret
        exact ⟨⟨k, rfl, by rw [any_hit (p := p) (xs := xs) (k := k) (by rw [HN.out]; exact hlk) (by rw [← HX.out]; exact hq)]; simp⟩, Below.on hbel b1⟩
      | false =>
        rw [hq] at hcall
        go_wp2_with (go_at_fn g; refine hcall.mono ?_; rintro e w1 ⟨rfl, b1⟩)
        go_roundw
        case rel => exact ⟨k + 1, by omega, by go_num, fun j hj => by
          by_cases e : j = k
          · subst e; rw [← HX.out]; exact hq
          · exact HA.out j (by omega), Below.on hbel b1⟩
        case measure => simp [intOf]; omega
    · have e4 : k = n := by omega
      subst e4
      go_wp2
      go_ret
      exact ⟨⟨-1, rfl, by rw [any_none (p := p) (xs := xs) (fun j hj => HA.out j (by rw [HN.out] at hj; exact hj))]; simp⟩, hbel⟩

theorem containsI_any {g : Nat} {lb : Array Value} (eg : ∀ args w, (callFunc g args).run Try.prog w = .ok (.enter g args) w) {p : Int → Bool} {v : Value} {xs : List Int} {w : World} (h : Sl w v xs) (hp : PredI g lb p w) {B : Bool} (hB : xs.any p = B) :
    Calls Try.prog 101 #[v, .func (.func g) #[] lb] w fun r w' => r = .returned (.bool B) ∧ Below w.heap.size w w' := by
  have hI : Calls Try.prog 122 #[v, .func (.func g) #[] lb] w fun r w' => (∃ i : Int, r = .returned (.int .i64 i) ∧ (decide (0 ≤ i)) = B) ∧ Below w.heap.size w w' := by
    subst hB
    obtain ⟨ao, cap, rfl⟩ := h.form
    obtain ⟨_, hm, _, hc⟩ := h.cells
    refine indexI_at g lb eg p ao _ cap xs w rfl hm (fun h0 => ?_) hp
    obtain ⟨b, off, rfl, hlt, _⟩ := hc 0 h0
    refine ⟨b, off, rfl, hlt, fun j hj => ?_⟩
    obtain ⟨b', off', e, _, hcell⟩ := hc j hj
    simp at e
    obtain ⟨rfl, rfl⟩ := e
    exact hcell
  clear h hp
  go_enter Try.func101, Try.ntmps101
  go_wp2_with (go_at_call 122; refine hI.mono ?_; rintro e w1 ⟨⟨i, rfl, hi⟩, b1⟩)
  go_ret
  exact ⟨ret_boolE (by rw [← hi]), b1⟩
end Go.Proofs.Ytehleeibgkpjmac
/- Contracts of slices.IndexFunc and slices.ContainsFunc over slots, at whatever predicate. -/
namespace Go.Proofs.Ytehleeibgkpjmac
open Go.RowKit
set_option maxRecDepth 20000

def PredS (g : Nat) (lb : Array Value) (p : SlotD → Bool) (w : World) : Prop :=
  ∀ (W : World) (s : SlotD) (tv : Value), Below w.heap.size w W → Sl W tv s.2.2 → Calls Try.prog g (#[.agg #[.int .i64 s.1, .string s.2.1, tv]] ++ lb) W fun e w' => e = .returned (.bool (p s)) ∧ Below W.heap.size W w'

theorem anyS_hit {p : SlotD → Bool} {xs : List SlotD} {k : Nat} (hk : k < xs.length) (h : p xs[k] = true) : xs.any p = true := by
  rw [List.any_eq_true]
  exact ⟨xs[k], List.getElem_mem hk, h⟩
theorem anyS_none {p : SlotD → Bool} {xs : List SlotD} (h : ∀ j, (hj : j < xs.length) → p xs[j] = false) : xs.any p = false := by
  rw [List.any_eq_false]
  intro x hx
  obtain ⟨j, hj, rfl⟩ := List.getElem_of_mem hx
  simp [h j hj]

set_option maxHeartbeats 1000000 in
theorem indexS_at (g : Nat) (lb : Array Value) (eg : ∀ args w, (callFunc g args).run Try.prog w = .ok (.enter g args) w) (p : SlotD → Bool) (ao : Option Addr) (n cap : Nat) (L : List SlotD) (w : World) (hn : L.length = n) (hm : n ≤ 9223372036854775807)
    (hc : 0 < n → ∃ b off, ao = some ⟨b, off, none⟩ ∧ b < w.heap.size ∧ ∀ j, (h : j < L.length) → SlAt w b (off + j * 3) L[j]) (hp : PredS g lb p w) :
    Calls Try.prog 121 #[.slice ao n cap, .func (.func g) #[] lb] w fun r w' => (∃ i : Int, r = .returned (.int .i64 i) ∧ (decide (0 ≤ i)) = L.any p) ∧ Below w.heap.size w w' := by
  have HN : Hid (L.length = n) := hn
  have HP : Hid (PredS g lb p w) := hp
  have HC : Hid (0 < n → ∃ b off, ao = some ⟨b, off, none⟩ ∧ b < w.heap.size ∧ ∀ j, (h : j < L.length) → SlAt w b (off + j * 3) L[j]) := hc
  clear hn hp hc
  go_enter Try.func121, Try.ntmps121
  go_wp2
  go_loopw [5, 8] (fun _ i wr => ∃ k : Nat, k ≤ n ∧ i = .int .i64 k ∧ Hid (∀ j, (h : j < L.length) → j < k → p L[j] = false) ∧ Below w.heap.size w wr) (fun _ i _ => n - (intOf i).toNat)
  case atStart => exact ⟨0, Nat.zero_le _, rfl, fun j h hj => absurd hj (by omega), Below.refl _ _⟩
  case round =>
    obtain ⟨k, hk, rfl, HA, hbel⟩ := hrel
    by_cases hlk : k < n
    · obtain ⟨b, off, rfl, hlt, hcell⟩ := HC.out (by omega)
      have hki : (k : Int) < (n : Int) := by omega
      obtain ⟨s, hs⟩ : ∃ s, s = L[k]'(by rw [HN.out]; exact hlk) := ⟨_, rfl⟩
      obtain ⟨kk, dd, tt⟩ := s
      have hS : SlAt w b (off + k * 3) (kk, dd, tt) := by rw [hs]; exact hcell k _
      obtain ⟨tv, c1, c2, c3, hsl⟩ := hS
      have HX : Hid ((kk, dd, tt) = L[k]'(by rw [HN.out]; exact hlk)) := hs
      have c1 : wr.cell? ⟨b, off + k * 3, none⟩ = some (.int .i64 kk) := (hbel.cell (p := ⟨b, off + k * 3, none⟩) hlt).trans c1
      have c2 : wr.cell? ⟨b, off + k * 3 + 1, none⟩ = some (.string dd) := (hbel.cell (p := ⟨b, off + k * 3 + 1, none⟩) hlt).trans c2
      have c3 : wr.cell? ⟨b, off + k * 3 + 1 + 1, none⟩ = some tv := (hbel.cell (p := ⟨b, off + k * 3 + 1 + 1, none⟩) hlt).trans c3
      have hcall := HP.out wr (kk, dd, tt) tv hbel (hsl.below hbel)
      dsimp only at hcall
      clear hs hcell hsl
      cases hq : p (kk, dd, tt) with
      | true =>
        rw [hq] at hcall
        go_wp2_with (go_at_fn g; refine hcall.mono ?_; rintro e w1 ⟨rfl, b1⟩)
        go_ret
        exact ⟨⟨k, rfl, by rw [anyS_hit (p := p) (xs := L) (k := k) (by rw [HN.out]; exact hlk) (by rw [← HX.out]; exact hq)]; simp⟩, Below.on hbel b1⟩
      | false =>
        rw [hq] at hcall
        go_wp2_with (go_at_fn g; refine hcall.mono ?_; rintro e w1 ⟨rfl, b1⟩)
        go_roundw
        case rel => exact ⟨k + 1, by omega, by go_num, fun j h hj => by
          by_cases e : j = k
          · subst e; rw [← HX.out]; exact hq
          · exact HA.out j h (by omega), Below.on hbel b1⟩
        case measure => simp [intOf]; omega
    · have e4 : k = n := by omega
      subst e4
      go_wp2
      go_ret
      exact ⟨⟨-1, rfl, by rw [anyS_none (p := p) (xs := L) (fun j hj => HA.out j hj (by rw [HN.out] at hj; exact hj))]; simp⟩, hbel⟩

theorem containsS_any {g : Nat} {lb : Array Value} (eg : ∀ args w, (callFunc g args).run Try.prog w = .ok (.enter g args) w) {p : SlotD → Bool} {v : Value} {L : List SlotD} {w : World} (h : Slots w v L) (hp : PredS g lb p w) {B : Bool} (hB : L.any p = B) :
    Calls Try.prog 99 #[v, .func (.func g) #[] lb] w fun r w' => r = .returned (.bool B) ∧ Below w.heap.size w w' := by
  have hI : Calls Try.prog 121 #[v, .func (.func g) #[] lb] w fun r w' => (∃ i : Int, r = .returned (.int .i64 i) ∧ (decide (0 ≤ i)) = B) ∧ Below w.heap.size w w' := by
    subst hB
    have hm := h.small
    obtain ⟨ao, cap, rfl, _, _, hc⟩ := h
    exact indexS_at g lb eg p ao _ cap L w rfl hm (fun h0 => hc (by intro e; rw [e] at h0; simp at h0)) hp
  clear h hp
  go_enter Try.func99, Try.ntmps99
  go_wp2_with (go_at_call 121; refine hI.mono ?_; rintro e w1 ⟨⟨i, rfl, hi⟩, b1⟩)
  go_ret
  exact ⟨ret_boolE (by rw [← hi]), b1⟩
end Go.Proofs.Ytehleeibgkpjmac
/- Contract of isKind. -/
namespace Go.Proofs.Ytehleeibgkpjmac
open Go.RowKit
set_option maxRecDepth 20000

theorem isKd_out {L : List SlotD} {k kind : Int} (h : ¬ (0 ≤ k ∧ k < L.length)) : isKd L k kind = false := by
  unfold isKd; rw [decide_eq_false h]; rfl
theorem isKd_in {L : List SlotD} {k : Nat} {kind : Int} (h : k < L.length) : isKd L (k : Int) kind = (L[k].1 == kind) := by
  unfold isKd
  rw [decide_eq_true (by omega)]
  simp [List.getD, h]

theorem isKind_out (ao : Option Addr) (n cap : Nat) (k kind : Int) (w : World) (h : ¬ (0 ≤ k ∧ k < (n : Int))) (_hm : n ≤ 9223372036854775807) :
    Calls Try.prog 103 #[.slice ao n cap, .int .i64 k, .int .i64 kind] w fun r w' => r = .returned (.bool false) ∧ w' = w := by
  by_cases h0 : 0 ≤ k
  · have h1 : ¬ k < (n : Int) := fun h1 => h ⟨h0, h1⟩
    clear h
    go_enter Try.func103, Try.ntmps103
    go_wp2
    go_ret
    exact ⟨rfl, rfl⟩
  · clear h
    go_enter Try.func103, Try.ntmps103
    go_wp2
    go_ret
    exact ⟨rfl, rfl⟩
theorem isKind_in (b off n cap k : Nat) (x kind : Int) (w : World) (h : k < n) (_hm : n ≤ 9223372036854775807) (hc : w.cell? ⟨b, off + k * 3, none⟩ = some (.int .i64 x)) :
    Calls Try.prog 103 #[.slice (some ⟨b, off, none⟩) n cap, .int .i64 k, .int .i64 kind] w fun r w' => r = .returned (.bool (x == kind)) ∧ w' = w := by
  have h0 : (0 : Int) ≤ (k : Int) := by omega
  have h1 : (k : Int) < (n : Int) := by omega
  go_enter Try.func103, Try.ntmps103
  go_wp2
  go_ret
  exact ⟨rfl, rfl⟩
theorem isKind_is {v : Value} {L : List SlotD} {w : World} (h : Slots w v L) (k kind : Int) {B : Bool} (hB : isKd L k kind = B) :
    Calls Try.prog 103 #[v, .int .i64 k, .int .i64 kind] w fun r w' => r = .returned (.bool B) ∧ w' = w := by
  subst hB
  have hm := h.small
  by_cases hk : 0 ≤ k ∧ k < L.length
  · obtain ⟨b, off, cap, rfl, hcp, hlt, hcell⟩ := h.open (by omega)
    obtain ⟨j, rfl⟩ : ∃ j : Nat, k = j := ⟨k.toNat, by omega⟩
    have hj : j < L.length := by omega
    obtain ⟨tv, c1, _⟩ := hcell j hj
    rw [isKd_in hj]
    exact isKind_in b off _ cap j _ kind w hj hm c1
  · rw [isKd_out hk]
    obtain ⟨ao, cap, rfl⟩ := h.form
    exact isKind_out ao _ cap k kind w hk hm
end Go.Proofs.Ytehleeibgkpjmac
/- Contracts of tablesFit and rootFits, and of what they ask. -/
namespace Go.Proofs.Ytehleeibgkpjmac
open Go.RowKit Go.Shelf
set_option maxRecDepth 20000

theorem tabE_0 (L : List SlotD) : tabE L 0 = true := rfl
theorem tabE_m1 (L : List SlotD) : tabE L (-1) = true := rfl
theorem tabE_x {L : List SlotD} {e : Int} (h0 : e ≠ 0) (h1 : e ≠ -1) : tabE L e = isKd L e 1 := by
  have a : (e != 0) = true := by simpa using h0
  have b : (e != -1) = true := by simpa using h1
  unfold tabE; rw [a, b]; simp
theorem rootE_x {L : List SlotD} {e : Int} (h0 : e ≠ 0) : rootE L e = isKd L e 2 := by
  have a : (e != 0) = true := by simpa using h0
  unfold rootE; rw [a]; simp

/-- The cell of a box of a slice of slots. -/
theorem entryP_any (B : Nat) (v : Value) (L : List SlotD) (x : Int) (w : World) (hc : w.cell? ⟨B, 0, none⟩ = some v) (h : Slots w v L) :
    Calls Try.prog 102 #[.int .i64 x, .pointer (some ⟨B, 0, none⟩)] w fun r w' => r = .returned (.bool (!tabE L x)) ∧ w' = w := by
  obtain ⟨ao, cap, rfl⟩ := h.form
  by_cases h0 : x = 0
  · subst h0
    go_enter Try.func102, Try.ntmps102
    go_wp2
    go_ret
    exact ⟨rfl, rfl⟩
  by_cases h1 : x = -1
  · subst h1
    clear h0
    go_enter Try.func102, Try.ntmps102
    go_wp2
    go_ret
    exact ⟨rfl, rfl⟩
  rw [tabE_x h0 h1]
  have g0 : (x != 0) = true := by simpa using h0
  have g1 : (x != -1) = true := by simpa using h1
  clear h0 h1
  go_enter Try.func102, Try.ntmps102
  go_wp2_with (go_at_call 103; refine (isKind_is h x 1 rfl).mono ?_; rintro e w1 ⟨rfl, hw⟩; subst hw)
  go_ret
  exact ⟨rfl, rfl⟩
theorem rootP_any (B : Nat) (v : Value) (L : List SlotD) (x : Int) (w : World) (hc : w.cell? ⟨B, 0, none⟩ = some v) (h : Slots w v L) :
    Calls Try.prog 104 #[.int .i64 x, .pointer (some ⟨B, 0, none⟩)] w fun r w' => r = .returned (.bool (!rootE L x)) ∧ w' = w := by
  obtain ⟨ao, cap, rfl⟩ := h.form
  by_cases h0 : x = 0
  · subst h0
    go_enter Try.func104, Try.ntmps104
    go_wp2
    go_ret
    exact ⟨rfl, rfl⟩
  rw [rootE_x h0]
  have g0 : (x != 0) = true := by simpa using h0
  clear h0
  go_enter Try.func104, Try.ntmps104
  go_wp2_with (go_at_call 103; refine (isKind_is h x 2 rfl).mono ?_; rintro e w1 ⟨rfl, hw⟩; subst hw)
  go_ret
  exact ⟨rfl, rfl⟩
theorem holeP_any (x : Int) (w : World) : Calls Try.prog 105 #[.int .i64 x] w fun r w' => r = .returned (.bool (!(x == 0))) ∧ w' = w := by
  go_enter Try.func105, Try.ntmps105
  go_wp2
  go_ret
  exact ⟨rfl, rfl⟩

theorem any_not {α : Type} (p : α → Bool) (xs : List α) : xs.any (fun x => !p x) = !xs.all p := by
  induction xs with
  | nil => rfl
  | cons a r ih => simp only [List.any_cons, List.all_cons, ih]; cases p a <;> simp

/-- A slot's table is asked. -/
theorem tableP_any (B : Nat) (v : Value) (L : List SlotD) (s : SlotD) (tv : Value) (w : World) (hB : B < w.heap.size) (hc : w.cell? ⟨B, 0, none⟩ = some v) (h : Slots w v L) (ht : Sl w tv s.2.2) :
    Calls Try.prog 100 #[.agg #[.int .i64 s.1, .string s.2.1, tv], .pointer (some ⟨B, 0, none⟩)] w fun r w' => r = .returned (.bool (!s.2.2.all (tabE L))) ∧ Below w.heap.size w w' := by
  obtain ⟨k, d, xs⟩ := s
  dsimp only at ht ⊢
  have b0 : Below w.heap.size w (w.alloc (.cells #[.int .i64 k, .string d, tv] 33)) := (Below.refl _ _).alloc (Nat.le_refl _) _
  have ht1 := ht.below b0
  have hc1 := (b0.cell (p := ⟨B, 0, none⟩) hB).trans hc
  have h1 := h.below b0
  have hcall := containsI_any (g := 102) (lb := #[.pointer (some ⟨B, 0, none⟩)]) (enters_of Try.func102 (by kernel_rfl) rfl) ht1 (p := fun x => !tabE L x)
    (fun W x hb => (entryP_any B v L x W ((hb.cell (p := ⟨B, 0, none⟩) (by simp; omega)).trans hc1) (h1.below hb)).mono fun e w' hr => ⟨hr.1, hr.2 ▸ Below.refl _ _⟩) (any_not (tabE L) xs)
  clear hc hc1 h h1 ht1 ht
  go_enter Try.func100, Try.ntmps100
  go_wp2_with (go_at_call 101; refine hcall.mono ?_; rintro e w1 ⟨rfl, b1⟩)
  go_ret
  exact ⟨rfl, Below.on b0 b1⟩

theorem tablesFit_any (v : Value) (L : List SlotD) (w : World) (h : Slots w v L) :
    Calls Try.prog 74 #[v] w fun r w' => r = .returned (.bool (tabFit L)) ∧ Below w.heap.size w w' := by
  have b0 : Below w.heap.size w (w.alloc (.cells #[v] 23)) := (Below.refl _ _).alloc (Nat.le_refl _) _
  have hc1 : (w.alloc (.cells #[v] 23)).cell? ⟨w.heap.size, 0, none⟩ = some v := by rw [World.cell?_alloc_at _ _ _ _ rfl]; rfl
  have h1 := h.below b0
  have hcall := containsS_any (g := 100) (lb := #[.pointer (some ⟨w.heap.size, 0, none⟩)]) (enters_of Try.func100 (by kernel_rfl) rfl) h1 (p := fun s => !s.2.2.all (tabE L))
    (fun W s tv hb ht => tableP_any w.heap.size v L s tv W (by have := hb.size; simp at this; omega) ((hb.cell (p := ⟨w.heap.size, 0, none⟩) (by simp)).trans hc1) (h1.below hb) ht) (any_not (fun s => s.2.2.all (tabE L)) L)
  obtain ⟨ao, cap, rfl⟩ := h.form
  clear h h1
  go_enter Try.func74, Try.ntmps74
  go_wp2_with (go_at_call 99; refine hcall.mono ?_; rintro e w1 ⟨rfl, b1⟩)
  go_ret
  exact ⟨rfl, Below.on b0 b1⟩
end Go.Proofs.Ytehleeibgkpjmac
/- Contract of rootFits. -/
namespace Go.Proofs.Ytehleeibgkpjmac
open Go.RowKit Go.Shelf
set_option maxRecDepth 20000

theorem rootFits_len (la : Option Addr) (ln lc : Nat) (nm : ByteArray) (g : Nat) (ra : Option Addr) (rn rc : Nat) (w : World) (hg : g ≤ 16) (_hr : rn ≤ 9223372036854775807) (hne : rn ≠ (g + 3) / 4) :
    Calls Try.prog 75 #[.slice la ln lc, .agg #[.string nm, .int .i64 g, .slice ra rn rc]] w fun r w' => r = .returned (.bool false) ∧ Below w.heap.size w w' := by
  have b0 : Below w.heap.size w ((w.alloc (.cells #[.slice la ln lc] 23)).alloc (.cells #[.string nm, .int .i64 g, .slice ra rn rc] 61)) := ((Below.refl _ _).alloc (Nat.le_refl _) _).alloc (by simp) _
  go_enter Try.func75, Try.ntmps75
  go_wp2
  go_ret
  exact ⟨rfl, b0⟩

theorem Sl.drop {w : World} {b off n cap k : Nat} {xs : List Int} (h : Sl w (.slice (some ⟨b, off, none⟩) n cap) xs) (hk : k < n) : Sl w (.slice (some ⟨b, off + k, none⟩) (n - k) (cap - k)) (xs.drop k) := by
  obtain ⟨ao, cap', hv, hm, hcp, hc⟩ := h
  simp only [Value.slice.injEq] at hv
  obtain ⟨ha, rfl, rfl⟩ := hv
  refine ⟨some ⟨b, off + k, none⟩, cap - k, by simp, by simp; omega, by simp; omega, fun _ => ?_⟩
  obtain ⟨b', off', e, hlt, hcell⟩ := hc (by intro e; rw [e] at hk; simp at hk)
  rw [← ha] at e
  simp at e
  obtain ⟨rfl, rfl⟩ := e
  refine ⟨b, off + k, rfl, hlt, fun j hj => ?_⟩
  have hj' : j < xs.length - k := by simpa using hj
  have := hcell (k + j) (by omega)
  rw [show off + k + j = off + (k + j) by omega, this]
  simp [List.getD]

/-- What the walk wants of the two boxes. -/
theorem boxes2 (w : World) (x y1 y2 y3 : Value) (T1 T2 : TypeId) :
    ((w.alloc (.cells #[x] T1)).alloc (.cells #[y1, y2, y3] T2)).cell? ⟨w.heap.size, 0, none⟩ = some x ∧ ((w.alloc (.cells #[x] T1)).alloc (.cells #[y1, y2, y3] T2)).cell? ⟨w.heap.size + 1, 0, none⟩ = some y1 ∧
    ((w.alloc (.cells #[x] T1)).alloc (.cells #[y1, y2, y3] T2)).cell? ⟨w.heap.size + 1, 1, none⟩ = some y2 ∧ ((w.alloc (.cells #[x] T1)).alloc (.cells #[y1, y2, y3] T2)).cell? ⟨w.heap.size + 1, 2, none⟩ = some y3 := by
  refine ⟨?_, ?_, ?_, ?_⟩
  · have b : Below (w.alloc (.cells #[x] T1)).heap.size (w.alloc (.cells #[x] T1)) ((w.alloc (.cells #[x] T1)).alloc (.cells #[y1, y2, y3] T2)) := (Below.refl _ _).alloc (Nat.le_refl _) _
    rw [b.cell (p := ⟨w.heap.size, 0, none⟩) (by simp), World.cell?_alloc_at _ _ _ _ rfl]; rfl
  · rw [World.cell?_alloc_at _ _ _ _ (by simp)]; rfl
  · rw [World.cell?_alloc_at _ _ _ _ (by simp)]; rfl
  · rw [World.cell?_alloc_at _ _ _ _ (by simp)]; rfl

abbrev rfW (w : World) (lv : Value) (nm : ByteArray) (g : Nat) (rv : Value) : World := (w.alloc (.cells #[lv] 23)).alloc (.cells #[.string nm, .int .i64 g, rv] 61)
theorem rfW_below (w : World) (lv : Value) (nm : ByteArray) (g : Nat) (rv : Value) : Below w.heap.size w (rfW w lv nm g rv) := ((Below.refl _ _).alloc (Nat.le_refl _) _).alloc (by simp) _

/-- The call that asks all entries of a Root. -/
theorem rootAll (w : World) (lv : Value) (L : List SlotD) (nm : ByteArray) (g : Nat) (rv : Value) (r : List Int) (h : Slots w lv L) (hr : Sl w rv r) {B : Bool} (hB : (!r.all (rootE L)) = B) :
    Calls Try.prog 101 #[rv, .func (.func 104) #[] #[.pointer (some ⟨w.heap.size, 0, none⟩)]] (rfW w lv nm g rv) fun e w' => e = .returned (.bool B) ∧ Below (rfW w lv nm g rv).heap.size (rfW w lv nm g rv) w' := by
  have b0 := rfW_below w lv nm g rv
  obtain ⟨c0, _⟩ := boxes2 w lv (.string nm) (.int .i64 g) rv 23 61
  exact containsI_any (g := 104) (lb := #[.pointer (some ⟨w.heap.size, 0, none⟩)]) (enters_of Try.func104 (by kernel_rfl) rfl) (hr.below b0) (p := fun x => !rootE L x)
    (fun W x hb => (rootP_any w.heap.size lv L x W ((hb.cell (p := ⟨w.heap.size, 0, none⟩) (by simp; omega)).trans c0) ((h.below b0).below hb)).mono fun e w' hr => ⟨hr.1, hr.2 ▸ Below.refl _ _⟩) ((any_not (rootE L) r).trans hB)

set_option maxHeartbeats 1000000 in
theorem rootFits_bad (la : Option Addr) (ln lc : Nat) (L : List SlotD) (nm : ByteArray) (g : Nat) (ra : Option Addr) (rn rc : Nat) (r : List Int) (w : World) (hg : g ≤ 16) (hq1 : 4 * rn ≤ g + 3) (hq2 : g + 3 < 4 * rn + 4) (h : Slots w (.slice la ln lc) L) (hr : Sl w (.slice ra rn rc) r) (hB : (!r.all (rootE L)) = true) :
    Calls Try.prog 75 #[.slice la ln lc, .agg #[.string nm, .int .i64 g, .slice ra rn rc]] w fun r w' => r = .returned (.bool false) ∧ Below w.heap.size w w' := by
  have b0 := rfW_below w (.slice la ln lc) nm g (.slice ra rn rc)
  have hcall := rootAll w (.slice la ln lc) L nm g (.slice ra rn rc) r h hr hB
  clear h hr hB
  go_enter Try.func75, Try.ntmps75
  go_wp2_with fail
  refine hcall.mono ?_
  rintro e w1 ⟨rfl, b1⟩
  go_wp2_with fail
  go_ret
  exact ⟨rfl, Below.on b0 b1⟩

set_option maxHeartbeats 1000000 in
theorem rootFits_even (la : Option Addr) (ln lc : Nat) (L : List SlotD) (nm : ByteArray) (g : Nat) (ra : Option Addr) (rn rc : Nat) (r : List Int) (w : World) (hg : g ≤ 16) (hq1 : 4 * rn ≤ g + 3) (hq2 : g + 3 < 4 * rn + 4) (h0 : g % 4 = 0) (h : Slots w (.slice la ln lc) L) (hr : Sl w (.slice ra rn rc) r) (hB : (!r.all (rootE L)) = false) :
    Calls Try.prog 75 #[.slice la ln lc, .agg #[.string nm, .int .i64 g, .slice ra rn rc]] w fun r w' => r = .returned (.bool true) ∧ Below w.heap.size w w' := by
  have b0 := rfW_below w (.slice la ln lc) nm g (.slice ra rn rc)
  have hcall := rootAll w (.slice la ln lc) L nm g (.slice ra rn rc) r h hr hB
  obtain ⟨_, c1, c2, c3⟩ := boxes2 w (.slice la ln lc) (.string nm) (.int .i64 g) (.slice ra rn rc) 23 61
  clear h hr hB
  go_enter Try.func75, Try.ntmps75
  go_wp2_with fail
  refine hcall.mono ?_
  rintro e w1 ⟨rfl, b1⟩
  replace c2 := (b1.cell (p := ⟨w.heap.size + 1, 1, none⟩) (by simp)).trans c2
  go_wp2_with fail
  go_ret
  exact ⟨rfl, Below.on b0 b1⟩

set_option maxHeartbeats 2000000 in
theorem rootFits_hole (la : Option Addr) (ln lc : Nat) (L : List SlotD) (nm : ByteArray) (g : Nat) (rb ro : Nat) (rn rc : Nat) (r : List Int) (w : World) (hg : g ≤ 16) (hq1 : 4 * rn ≤ g + 3) (hq2 : g + 3 < 4 * rn + 4) (h0 : 0 < g % 4) (h : Slots w (.slice la ln lc) L) (hr : Sl w (.slice (some ⟨rb, ro, none⟩) rn rc) r) (hB : (!r.all (rootE L)) = false)
    (hb : rb < w.heap.size) (hlast : w.cell? ⟨rb, ro + (rn - 1), none⟩ = some (.int .i64 0)) :
    Calls Try.prog 75 #[.slice la ln lc, .agg #[.string nm, .int .i64 g, .slice (some ⟨rb, ro, none⟩) rn rc]] w fun r w' => r = .returned (.bool true) ∧ Below w.heap.size w w' := by
  have b0 := rfW_below w (.slice la ln lc) nm g (.slice (some ⟨rb, ro, none⟩) rn rc)
  have hcall := rootAll w (.slice la ln lc) L nm g (.slice (some ⟨rb, ro, none⟩) rn rc) r h hr hB
  obtain ⟨_, c1, c2, c3⟩ := boxes2 w (.slice la ln lc) (.string nm) (.int .i64 g) (.slice (some ⟨rb, ro, none⟩) rn rc) 23 61
  have hl := (b0.cell (p := ⟨rb, ro + (rn - 1), none⟩) hb).trans hlast
  clear h hr hB hlast
  go_enter Try.func75, Try.ntmps75
  go_wp2_with fail
  refine hcall.mono ?_
  rintro e w1 ⟨rfl, b1⟩
  replace c2 := (b1.cell (p := ⟨w.heap.size + 1, 1, none⟩) (by simp)).trans c2
  replace c3 := (b1.cell (p := ⟨w.heap.size + 1, 2, none⟩) (by simp)).trans c3
  replace hl := (b1.cell (p := ⟨rb, ro + (rn - 1), none⟩) (by simp; omega)).trans hl
  go_wp2_with fail
  go_ret
  exact ⟨rfl, Below.on b0 b1⟩
end Go.Proofs.Ytehleeibgkpjmac
/- Contract of rootFits: a last table; and all ways together. -/
namespace Go.Proofs.Ytehleeibgkpjmac
open Go.RowKit Go.Shelf
set_option maxRecDepth 20000

set_option maxHeartbeats 2000000 in
theorem rootFits_tab (lb lo : Nat) (ln lc : Nat) (L : List SlotD) (nm : ByteArray) (g : Nat) (rb ro : Nat) (rn rc : Nat) (r : List Int) (w : World) (hg : g ≤ 16) (hq1 : 4 * rn ≤ g + 3) (hq2 : g + 3 < 4 * rn + 4) (h0 : 0 < g % 4) (h : Slots w (.slice (some ⟨lb, lo, none⟩) ln lc) L) (hr : Sl w (.slice (some ⟨rb, ro, none⟩) rn rc) r) (hB : (!r.all (rootE L)) = false)
    (hb : rb < w.heap.size) (hbl : lb < w.heap.size) (t : Nat) (ht0 : 0 < t) (ht : t < ln) (hlast : w.cell? ⟨rb, ro + (rn - 1), none⟩ = some (.int .i64 t)) (tb tw tc : Nat) (hcell : w.cell? ⟨lb, lo + t * 3 + 2, none⟩ = some (.slice (some ⟨tb, tw, none⟩) 4 tc)) (htc : 4 ≤ tc)
    (xs : List Int) (hs : Sl w (.slice (some ⟨tb, tw, none⟩) 4 tc) xs) (B : Bool) (hxs : (xs.drop (g % 4)).all (fun k => k == 0) = B) :
    Calls Try.prog 75 #[.slice (some ⟨lb, lo, none⟩) ln lc, .agg #[.string nm, .int .i64 g, .slice (some ⟨rb, ro, none⟩) rn rc]] w fun r w' => r = .returned (.bool B) ∧ Below w.heap.size w w' := by
  have b0 := rfW_below w (.slice (some ⟨lb, lo, none⟩) ln lc) nm g (.slice (some ⟨rb, ro, none⟩) rn rc)
  have hcall := rootAll w (.slice (some ⟨lb, lo, none⟩) ln lc) L nm g (.slice (some ⟨rb, ro, none⟩) rn rc) r h hr hB
  obtain ⟨c0, c1, c2, c3⟩ := boxes2 w (.slice (some ⟨lb, lo, none⟩) ln lc) (.string nm) (.int .i64 g) (.slice (some ⟨rb, ro, none⟩) rn rc) 23 61
  have hl := (b0.cell (p := ⟨rb, ro + (rn - 1), none⟩) hb).trans hlast
  have hd := (hs.drop (k := g % 4) (by omega)).below b0
  have hcell := (b0.cell (p := ⟨lb, lo + t * 3 + 2, none⟩) hbl).trans hcell
  have hne : ((t : Int) == 0) = false := by simp; omega
  have hmod : ((g : Int) % 4).toNat = g % 4 := by omega
  have HX : Hid ((xs.drop (g % 4)).all (fun k => k == 0) = B) := hxs
  have h4 : g % 4 ≤ 4 := by omega
  clear h hr hB hlast hs hxs
  go_enter Try.func75, Try.ntmps75
  go_wp2_with fail
  refine hcall.mono ?_
  rintro e w1 ⟨rfl, b1⟩
  replace c0 := (b1.cell (p := ⟨w.heap.size, 0, none⟩) (by simp; omega)).trans c0
  replace c2 := (b1.cell (p := ⟨w.heap.size + 1, 1, none⟩) (by simp)).trans c2
  replace c3 := (b1.cell (p := ⟨w.heap.size + 1, 2, none⟩) (by simp)).trans c3
  replace hl := (b1.cell (p := ⟨rb, ro + (rn - 1), none⟩) (by simp; omega)).trans hl
  replace hcell := (b1.cell (p := ⟨lb, lo + t * 3 + 2, none⟩) (by simp; omega)).trans hcell
  replace hd := hd.below b1
  have hcall2 := containsI_any (g := 105) (lb := #[]) (enters_of Try.func105 (by kernel_rfl) rfl) hd (p := fun x => !(x == 0))
    (fun W x hb => (holeP_any x W).mono fun e w' hr => ⟨hr.1, hr.2 ▸ Below.refl _ _⟩) (any_not (fun x => x == 0) _)
  rw [HX.out] at hcall2
  clear hcall hd
  go_wp2_with fail
  refine hcall2.mono ?_
  rintro e w2 ⟨rfl, b2⟩
  go_wp2_with fail
  go_ret
  exact ⟨by simp, Below.on' b0 b1 b2⟩

theorem slotsE_all {L : List SlotD} (h : slotsE L = 0) {j : Nat} (hj : j < L.length) : okD L[j] = true := by
  have hp := slotsE_parts h
  unfold slotsE at h
  rw [if_pos hp] at h
  split at h
  · rename_i g
    have := g.1
    rw [List.all_eq_true] at this
    exact this _ (List.getElem_mem hj)
  · simp at h
theorem okD_tab {s : SlotD} (h : okD s = true) (hk : s.1 = 2) : s.2.2.length = 4 ∧ ckE s.2.2 = 0 := by
  unfold okD slotOK at h
  rw [hk] at h
  simp at h
  exact ⟨ckE_len h.1, h.1⟩
theorem isKd_yes {L : List SlotD} {k kind : Int} (h : isKd L k kind = true) : ∃ j : Nat, k = j ∧ ∃ hj : j < L.length, L[j].1 = kind := by
  by_cases hk : 0 ≤ k ∧ k < L.length
  · obtain ⟨j, rfl⟩ : ∃ j : Nat, k = j := ⟨k.toNat, by omega⟩
    have hj : j < L.length := by omega
    rw [isKd_in hj] at h
    exact ⟨j, rfl, hj, by simpa using h⟩
  · rw [isKd_out hk] at h; cases h
theorem all_at {p : Int → Bool} {r : List Int} (h : r.all p = true) {j : Nat} (hj : j < r.length) : p (r.getD j 0) = true := by
  rw [List.all_eq_true] at h
  have := h _ (List.getElem_mem hj)
  simpa [List.getD, hj] using this

theorem rootFits_is {lv : Value} {L : List SlotD} {nm : ByteArray} {g : Int} {rv : Value} {r : List Int} {w : World} (h : Slots w lv L) (hL : slotsE L = 0) (hg : 0 ≤ g ∧ g ≤ 16) (hr : Sl w rv r) {B : Bool} (hB : rootFit L g r = B) :
    Calls Try.prog 75 #[lv, .agg #[.string nm, .int .i64 g, rv]] w fun r w' => r = .returned (.bool B) ∧ Below w.heap.size w w' := by
  subst hB
  obtain ⟨g, rfl⟩ : ∃ k : Nat, g = k := ⟨g.toNat, by omega⟩
  have hs := hr.small
  have hm := h.small
  by_cases hlen : r.length = (g + 3) / 4
  · have e1 : decide ((r.length : Int) = ((g : Int) + 3) / 4) = true := by simp; omega
    unfold rootFit
    rw [e1, Bool.true_and]
    cases hall : r.all (rootE L) with
    | false =>
      rw [Bool.false_and]
      obtain ⟨la, lc, rfl⟩ := h.form
      obtain ⟨ra, rc, rfl⟩ := hr.form
      exact rootFits_bad la _ lc L nm g ra _ rc r w (by omega) (by omega) (by omega) h hr (by rw [hall]; rfl)
    | true =>
      rw [Bool.true_and]
      unfold lastFit
      by_cases h0 : g % 4 = 0
      · have e2 : ((g : Int) % 4 == 0) = true := by simp; omega
        rw [e2, Bool.true_or]
        obtain ⟨la, lc, rfl⟩ := h.form
        obtain ⟨ra, rc, rfl⟩ := hr.form
        exact rootFits_even la _ lc L nm g ra _ rc r w (by omega) (by omega) (by omega) h0 h hr (by rw [hall]; rfl)
      · have e2 : ((g : Int) % 4 == 0) = false := by simp; omega
        rw [e2, Bool.false_or]
        have hrl : 1 ≤ r.length := by omega
        have hr' := hr
        obtain ⟨rb, ro, rc, rfl, hrc, hrb, hcell⟩ := hr.open hrl
        have hlast := hcell (r.length - 1) (by omega)
        by_cases hz : r.getD (r.length - 1) 0 = 0
        · have e3 : (r.getD (r.length - 1) 0 == 0) = true := by simpa using hz
          rw [e3, Bool.true_or]
          rw [hz] at hlast
          obtain ⟨la, lc, rfl⟩ := h.form
          exact rootFits_hole la _ lc L nm g rb ro _ rc r w (by omega) (by omega) (by omega) (by omega) h hr' (by rw [hall]; rfl) hrb hlast
        · have e3 : (r.getD (r.length - 1) 0 == 0) = false := by simpa using hz
          rw [e3, Bool.false_or]
          have hk := all_at hall (j := r.length - 1) (by omega)
          rw [rootE_x hz] at hk
          obtain ⟨t, ht, htl, hkd⟩ := isKd_yes hk
          have hok := okD_tab (slotsE_all hL htl) hkd
          have h' := h
          obtain ⟨lb, lo, lc, rfl, hlc, hlb, hcl⟩ := h.open (by omega)
          obtain ⟨tv, _, _, c3, hsl⟩ := hcl t htl
          obtain ⟨tb, tw, tc, rfl, htc, htb, _⟩ := hsl.four hok.1
          rw [ht] at hlast ⊢
          have e4 : tabOf L (t : Int) = L[t].2.2 := by unfold tabOf; simp [List.getD, htl]
          rw [e4, show ((g : Int) % 4).toNat = g % 4 by omega]
          refine rootFits_tab lb lo _ lc L nm g rb ro _ rc r w (by omega) (by omega) (by omega) (by omega) h' hr' (by rw [hall]; rfl) hrb hlb t (by rw [ht] at hz; omega) htl hlast tb tw tc c3 htc L[t].2.2 hsl _ rfl
  · have e1 : decide ((r.length : Int) = ((g : Int) + 3) / 4) = false := by simp; omega
    unfold rootFit
    rw [e1, Bool.false_and]
    obtain ⟨la, lc, rfl⟩ := h.form
    obtain ⟨ra, rc, rfl⟩ := hr.form
    exact rootFits_len la _ lc nm g ra _ rc w (by omega) hs hlen
end Go.Proofs.Ytehleeibgkpjmac
