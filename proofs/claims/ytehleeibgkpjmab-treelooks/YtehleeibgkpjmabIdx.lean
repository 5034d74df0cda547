/- Contracts of slices.IndexFunc and slices.ContainsFunc, over integers and over slots, at whatever predicate. -/
import Derived.Test.YtehleeibgkpjmabImg
import Derived.Shelf.Abstract
namespace Go.Proofs.Ytehleeibgkpjmab
open Go.RowKit
set_option maxRecDepth 20000

/-- What is asked of a predicate: wherever all that lay lies, it answers p, and leaves all that lay. -/
def PredI (g : Nat) (lb : Array Value) (p : Int → Bool) (w : World) : Prop :=
  ∀ (W : World) (x : Int), Below w.heap.size w W → Calls Try.prog g (#[.int .i64 x] ++ lb) W fun e w' => e = .returned (.bool (p x)) ∧ Below W.heap.size W w'

theorem any_hit {p : Int → Bool} {xs : List Int} {k : Nat} (hk : k < xs.length) (h : p (xs.getD k 0) = true) : xs.any p = true := by
  rw [List.any_eq_true]
  exact ⟨xs[k], List.getElem_mem hk, by simpa [List.getD, hk] using h⟩
theorem any_none {p : Int → Bool} {xs : List Int} (h : ∀ j, j < xs.length → p (xs.getD j 0) = false) : xs.any p = false := by
  rw [List.any_eq_false]
  intro x hx
  obtain ⟨j, hj, rfl⟩ := List.getElem_of_mem hx
  have := h j hj
  simpa [List.getD, hj] using this

set_option maxHeartbeats 1000000 in
theorem indexI_at (g : Nat) (lb : Array Value) (eg : ∀ args w, (callFunc g args).run Try.prog w = .ok (.enter g args) w) (p : Int → Bool) (ao : Option Addr) (n cap : Nat) (xs : List Int) (w : World) (hn : xs.length = n) (hm : n ≤ 9223372036854775807)
    (hc : 0 < n → ∃ b off, ao = some ⟨b, off, none⟩ ∧ b < w.heap.size ∧ ∀ j, j < n → w.cell? ⟨b, off + j, none⟩ = some (.int .i64 (xs.getD j 0))) (hp : PredI g lb p w) :
    Calls Try.prog 72 #[.slice ao n cap, .func (.func g) #[] lb] w fun r w' => (∃ i : Int, r = .returned (.int .i64 i) ∧ (decide (0 ≤ i)) = xs.any p) ∧ Below w.heap.size w w' := by
  have HN : Hid (xs.length = n) := hn
  have HP : Hid (PredI g lb p w) := hp
  have HC : Hid (0 < n → ∃ b off, ao = some ⟨b, off, none⟩ ∧ b < w.heap.size ∧ ∀ j, j < n → w.cell? ⟨b, off + j, none⟩ = some (.int .i64 (xs.getD j 0))) := hc
  clear hn hp hc
  go_enter Try.func72, Try.ntmps72
  go_wp2
  go_loopw [5, 8] (fun _ i wr => ∃ k : Nat, k ≤ n ∧ i = .int .i64 k ∧ Hid (∀ j, j < k → p (xs.getD j 0) = false) ∧ Below w.heap.size w wr) (fun _ i _ => n - (intOf i).toNat)
  case atStart => exact ⟨0, Nat.zero_le _, rfl, fun j hj => absurd hj (by omega), Below.refl _ _⟩
  case round =>
    obtain ⟨k, hk, rfl, HA, hbel⟩ := hrel
    by_cases hlk : k < n
    · obtain ⟨b, off, rfl, hlt, hcell⟩ := HC.out (by omega)
      have hki : (k : Int) < (n : Int) := by omega
      obtain ⟨x, hx⟩ : ∃ x, x = xs.getD k 0 := ⟨_, rfl⟩
      have c1 : wr.cell? ⟨b, off + k, none⟩ = some (.int .i64 x) := by rw [hx]; exact (hbel.cell (p := ⟨b, off + k, none⟩) hlt).trans (hcell k hlk)
      have HX : Hid (x = xs.getD k 0) := hx
      have hcall := HP.out wr x hbel
      clear hx hcell
      cases hq : p x with
      | true =>
        rw [hq] at hcall
        go_wp2_with (go_at_fn g; refine hcall.mono ?_; rintro e w1 ⟨rfl, b1⟩)
        go_ret
        exact ⟨⟨k, rfl, by rw [any_hit (p := p) (xs := xs) (k := k) (by rw [HN.out]; exact hlk) (by rw [← HX.out]; exact hq)]; simp⟩, Below.on hbel b1⟩
      | false =>
        rw [hq] at hcall
        go_wp2_with (go_at_fn g; refine hcall.mono ?_; rintro e w1 ⟨rfl, b1⟩)
        go_roundw
        case rel => exact ⟨k + 1, by omega, by go_num, fun j hj => by
          by_cases e : j = k
          · subst e; rw [← HX.out]; exact hq
          · exact HA.out j (by omega), Below.on hbel b1⟩
        case measure => simp [intOf]; omega
    · have e4 : k = n := by omega
      subst e4
      go_wp2
      go_ret
      exact ⟨⟨-1, rfl, by rw [any_none (p := p) (xs := xs) (fun j hj => HA.out j (by rw [HN.out] at hj; exact hj))]; simp⟩, hbel⟩

theorem containsI_any {g : Nat} {lb : Array Value} (eg : ∀ args w, (callFunc g args).run Try.prog w = .ok (.enter g args) w) {p : Int → Bool} {v : Value} {xs : List Int} {w : World} (h : Sl w v xs) (hp : PredI g lb p w) {B : Bool} (hB : xs.any p = B) :
    Calls Try.prog 59 #[v, .func (.func g) #[] lb] w fun r w' => r = .returned (.bool B) ∧ Below w.heap.size w w' := by
  have hI : Calls Try.prog 72 #[v, .func (.func g) #[] lb] w fun r w' => (∃ i : Int, r = .returned (.int .i64 i) ∧ (decide (0 ≤ i)) = B) ∧ Below w.heap.size w w' := by
    subst hB
    obtain ⟨ao, cap, rfl⟩ := h.form
    obtain ⟨_, hm, _, hc⟩ := h.cells
    refine indexI_at g lb eg p ao _ cap xs w rfl hm (fun h0 => ?_) hp
    obtain ⟨b, off, rfl, hlt, _⟩ := hc 0 h0
    refine ⟨b, off, rfl, hlt, fun j hj => ?_⟩
    obtain ⟨b', off', e, _, hcell⟩ := hc j hj
    simp at e
    obtain ⟨rfl, rfl⟩ := e
    exact hcell
  clear h hp
  go_enter Try.func59, Try.ntmps59
  go_wp2_with (go_at_call 72; refine hI.mono ?_; rintro e w1 ⟨⟨i, rfl, hi⟩, b1⟩)
  go_ret
  exact ⟨ret_boolE (by rw [← hi]), b1⟩
end Go.Proofs.Ytehleeibgkpjmab
