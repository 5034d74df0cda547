/- Contracts of isPage, Check, and of the document's CheckPages, SamePages, ZeroPage. -/
import Derived.Test.YtehleeibgkpjmaaRows
import Derived.Test.YtehleeibgkpjmaaStrs
import Derived.WalkLawsBesides
import Derived.Deep.QuietTactic
import Derived.BigQuiet
namespace Go.Proofs.Ytehleeibgkpjmaa
open Go.RowKit
set_option maxRecDepth 20000

theorem isPage_any (p : ByteArray) (w : World) : Calls Try.prog 38 #[.string p] w fun r w' => r = .returned (.bool (decide (p.size = 4))) ∧ w' = w := by
  go_enter Try.func38, Try.ntmps38
  go_wp2
  go_ret
  exact ⟨ret_bool (by simp; omega), rfl⟩

theorem zeroPage_any (w : World) : Calls Try.prog 17 #[] w fun r w' => r = .returned (.string ⟨#[0, 0, 0, 0]⟩) ∧ w' = w := by
  go_enter Try.func17, Try.ntmps17
  go_wp2
  go_ret
  exact ⟨rfl, rfl⟩

theorem pcheck_many (ao : Option Addr) (n cap : Nat) (w : World) (hn : (16 : Int) < (n : Int)) : Calls Try.prog 15 #[.slice ao n cap] w fun r w' => r = .returned (.int .i64 2) ∧ w' = w := by
  go_enter Try.func15, Try.ntmps15
  go_wp2
  go_ret; exact ⟨rfl, rfl⟩

theorem pcheck_0 (ao : Option Addr) (cap : Nat) (w : World) : Calls Try.prog 15 #[.slice ao 0 cap] w fun r w' => r = .returned (.int .i64 0) ∧ w' = w := by
  go_enter Try.func15, Try.ntmps15
  go_wp2
  refine wp_loop_rounds 1 ?_
  rw [rounds_succ]
  go_wp2
  go_ret
  exact ⟨rfl, rfl⟩

theorem pcheck_at (b off n cap : Nat) (xs : List ByteArray) (w : World) (hn : xs.length = n) (h16 : n ≤ 16) (hc : ∀ j, j < n → w.cell? ⟨b, off + j, none⟩ = some (.string (xs.getD j ByteArray.empty))) :
    Calls Try.prog 15 #[.slice (some ⟨b, off, none⟩) n cap] w fun r w' => r = .returned (.int .i64 (ckP xs)) ∧ w' = w := by
  have HC : Hid (∀ j, j < n → w.cell? ⟨b, off + j, none⟩ = some (.string (xs.getD j ByteArray.empty))) := hc
  have HN : Hid (xs.length = n) := hn
  clear hc hn
  have g1 : ¬ (16 : Int) < (n : Int) := by omega
  go_enter Try.func15, Try.ntmps15
  go_wp2
  go_loop [10] (fun i => ∃ k : Nat, k ≤ n ∧ i = .int .i64 k ∧ ∀ j, j < k → (xs.getD j ByteArray.empty).size = 4) (fun i => n - (intOf i).toNat)
  case atStart => exact ⟨0, by omega, rfl, fun j hj => absurd hj (by omega)⟩
  case round =>
    obtain ⟨k, hk, rfl, hall⟩ := hrel
    have HA : Hid (∀ j, j < k → (xs.getD j ByteArray.empty).size = 4) := hall
    clear hall
    by_cases hlt : k < n
    · obtain ⟨x, hx⟩ : ∃ x, xs.getD k ByteArray.empty = x := ⟨_, rfl⟩
      have hck := HC.out k hlt
      rw [hx] at hck
      have HX : Hid (xs.getD k ByteArray.empty = x) := hx
      clear hx
      by_cases hE : x.size = 4
      · have hd : decide (x.size = 4) = true := by simp [hE]
        have HE : Hid (x.size = 4) := hE
        clear hE
        go_wp2_with (go_at_call 38; refine (isPage_any _ _).mono ?_; rintro e w' ⟨rfl, hw⟩; subst hw; rw [hd])
        go_round
        case rel => exact ⟨k + 1, by omega, by go_num, fun j hj => by
          by_cases e : j = k
          · subst e; rw [HX.out]; exact HE.out
          · exact HA.out j (by omega)⟩
        case measure => simp [intOf]; omega
      · have hd : decide (x.size = 4) = false := by simp [hE]
        go_wp2_with (go_at_call 38; refine (isPage_any _ _).mono ?_; rintro e w' ⟨rfl, hw⟩; subst hw; rw [hd])
        go_ret
        exact ⟨ret_int (ckP_bad (by rw [HN.out]; exact h16) (j := k) (by rw [HN.out]; exact hlt) (by rw [HX.out]; exact hE)).symm, rfl⟩
    · have e4 : k = n := by omega
      subst e4
      go_wp2
      go_ret
      exact ⟨ret_int (ckP_ok (by rw [HN.out]; exact h16) (by rw [HN.out]; exact HA.out)).symm, rfl⟩

theorem pcheck_any (v : Value) (xs : List ByteArray) (w : World) (h : Ss w v xs) : Calls Try.prog 15 #[v] w fun r w' => r = .returned (.int .i64 (ckP xs)) ∧ w' = w := by
  obtain ⟨ao, cap, rfl⟩ := h.form
  by_cases h16 : xs.length ≤ 16
  · by_cases h0 : xs.length = 0
    · have e : xs = [] := List.eq_nil_of_length_eq_zero h0
      subst e
      exact pcheck_0 ao cap w
    · obtain ⟨b, off, rfl, hlt, hcell⟩ := h.at (by omega)
      exact pcheck_at b off _ cap xs w rfl h16 hcell
  · rw [ckP_many h16]; exact pcheck_many ao _ cap w (by omega)
theorem pcheck_is {v : Value} {xs : List ByteArray} {w : World} (h : Ss w v xs) {c : Int} (hc : ckP xs = c) : Calls Try.prog 15 #[v] w fun r w' => r = .returned (.int .i64 c) ∧ w' = w := by subst hc; exact pcheck_any v xs w h

theorem checkPages_many (ao : Option Addr) (n cap : Nat) (w : World) (hn : (16 : Int) < (n : Int)) : Calls Try.prog 12 #[.slice ao n cap] w fun r w' => r = .returned (.int .i64 2) ∧ w' = w := by
  go_enter Try.func12, Try.ntmps12
  go_wp2
  go_ret; exact ⟨rfl, rfl⟩

theorem checkPages_0 (ao : Option Addr) (cap : Nat) (w : World) : Calls Try.prog 12 #[.slice ao 0 cap] w fun r w' => r = .returned (.int .i64 0) ∧ w' = w := by
  go_enter Try.func12, Try.ntmps12
  go_wp2
  refine wp_loop_rounds 1 ?_
  rw [rounds_succ]
  go_wp2
  go_ret
  exact ⟨rfl, rfl⟩

theorem checkPages_at (b off n cap : Nat) (xs : List ByteArray) (w : World) (hn : xs.length = n) (h16 : n ≤ 16) (hc : ∀ j, j < n → w.cell? ⟨b, off + j, none⟩ = some (.string (xs.getD j ByteArray.empty))) :
    Calls Try.prog 12 #[.slice (some ⟨b, off, none⟩) n cap] w fun r w' => r = .returned (.int .i64 (ckP xs)) ∧ w' = w := by
  have HC : Hid (∀ j, j < n → w.cell? ⟨b, off + j, none⟩ = some (.string (xs.getD j ByteArray.empty))) := hc
  have HN : Hid (xs.length = n) := hn
  clear hc hn
  have g1 : ¬ (16 : Int) < (n : Int) := by omega
  go_enter Try.func12, Try.ntmps12
  go_wp2
  go_loop [3] (fun i => ∃ k : Nat, k ≤ n ∧ i = .int .i64 k ∧ ∀ j, j < k → (xs.getD j ByteArray.empty).size = 4) (fun i => n - (intOf i).toNat)
  case atStart => exact ⟨0, by omega, rfl, fun j hj => absurd hj (by omega)⟩
  case round =>
    obtain ⟨k, hk, rfl, hall⟩ := hrel
    have HA : Hid (∀ j, j < k → (xs.getD j ByteArray.empty).size = 4) := hall
    clear hall
    by_cases hlt : k < n
    · obtain ⟨x, hx⟩ : ∃ x, xs.getD k ByteArray.empty = x := ⟨_, rfl⟩
      have hck := HC.out k hlt
      rw [hx] at hck
      have HX : Hid (xs.getD k ByteArray.empty = x) := hx
      clear hx
      by_cases hE : x.size = 4
      · have hd : ((x.size : Int) != 4) = false := by simp [hE]
        have HE : Hid (x.size = 4) := hE
        clear hE
        go_wp2
        go_round
        case rel => exact ⟨k + 1, by omega, by go_num, fun j hj => by
          by_cases e : j = k
          · subst e; rw [HX.out]; exact HE.out
          · exact HA.out j (by omega)⟩
        case measure => simp [intOf]; omega
      · have hd : ((x.size : Int) != 4) = true := by simp; omega
        go_wp2
        go_ret
        exact ⟨ret_int (ckP_bad (by rw [HN.out]; exact h16) (j := k) (by rw [HN.out]; exact hlt) (by rw [HX.out]; exact hE)).symm, rfl⟩
    · have e4 : k = n := by omega
      subst e4
      go_wp2
      go_ret
      exact ⟨ret_int (ckP_ok (by rw [HN.out]; exact h16) (by rw [HN.out]; exact HA.out)).symm, rfl⟩

theorem checkPages_any (v : Value) (xs : List ByteArray) (w : World) (h : Ss w v xs) : Calls Try.prog 12 #[v] w fun r w' => r = .returned (.int .i64 (ckP xs)) ∧ w' = w := by
  obtain ⟨ao, cap, rfl⟩ := h.form
  by_cases h16 : xs.length ≤ 16
  · by_cases h0 : xs.length = 0
    · have e : xs = [] := List.eq_nil_of_length_eq_zero h0
      subst e
      exact checkPages_0 ao cap w
    · obtain ⟨b, off, rfl, hlt, hcell⟩ := h.at (by omega)
      exact checkPages_at b off _ cap xs w rfl h16 hcell
  · rw [ckP_many h16]; exact checkPages_many ao _ cap w (by omega)
theorem checkPages_is {v : Value} {xs : List ByteArray} {w : World} (h : Ss w v xs) {c : Int} (hc : ckP xs = c) : Calls Try.prog 12 #[v] w fun r w' => r = .returned (.int .i64 c) ∧ w' = w := by subst hc; exact checkPages_any v xs w h

theorem samePages_at (ao bo : Option Addr) (n cap cap' : Nat) (xs : List ByteArray) (w : World) (hm : n ≤ 9223372036854775807)
    (hc : ∀ j, j < n → ∃ b off, ao = some ⟨b, off, none⟩ ∧ b < w.heap.size ∧ w.cell? ⟨b, off + j, none⟩ = some (.string (xs.getD j ByteArray.empty)))
    (hd : ∀ j, j < n → ∃ b off, bo = some ⟨b, off, none⟩ ∧ b < w.heap.size ∧ w.cell? ⟨b, off + j, none⟩ = some (.string (xs.getD j ByteArray.empty))) :
    Calls Try.prog 18 #[.slice ao n cap, .slice bo n cap'] w fun r w' => r = .returned (.bool true) ∧ Below w.heap.size w w' := by
  have HC : Hid (∀ j, j < n → ∃ b off, ao = some ⟨b, off, none⟩ ∧ b < w.heap.size ∧ w.cell? ⟨b, off + j, none⟩ = some (.string (xs.getD j ByteArray.empty))) := hc
  have HD : Hid (∀ j, j < n → ∃ b off, bo = some ⟨b, off, none⟩ ∧ b < w.heap.size ∧ w.cell? ⟨b, off + j, none⟩ = some (.string (xs.getD j ByteArray.empty))) := hd
  clear hc hd
  go_enter Try.func18, Try.ntmps18
  go_wp2
  go_loopw [5] (fun i wr => ∃ k : Nat, k ≤ n ∧ i = .int .i64 k ∧ Below w.heap.size w wr) (fun i _ => n - (intOf i).toNat)
  case atStart => exact ⟨0, by omega, rfl, Below.refl _ _⟩
  case round =>
    obtain ⟨k, hk, rfl, hbel⟩ := hrel
    by_cases hlt : k < n
    · obtain ⟨x, hx⟩ : ∃ x, xs.getD k ByteArray.empty = x := ⟨_, rfl⟩
      obtain ⟨b, off, hao, hl1, hck⟩ := HC.out k hlt
      obtain ⟨b', off', hbo, hl2, hck'⟩ := HD.out k hlt
      rw [hx] at hck hck'
      clear hx
      have g1 : wr.cell? ⟨b, off + k, none⟩ = some (.string x) := (hbel.cell (p := ⟨b, off + k, none⟩) hl1).trans hck
      have g2 : wr.cell? ⟨b', off' + k, none⟩ = some (.string x) := (hbel.cell (p := ⟨b', off' + k, none⟩) hl2).trans hck'
      have i1 : (k : Int) < (n : Int) := by omega
      go_wp2
      go_quiet (fail)
      go_wp2
      go_roundw
      case rel => exact ⟨k + 1, by omega, by go_num, below_drewN hbel _⟩
      case measure => simp [intOf]; omega
    · have e4 : k = n := by omega
      subst e4
      go_wp2
      go_ret
      exact ⟨rfl, hbel⟩

theorem samePages_any {v u : Value} {xs : List ByteArray} {w : World} (h : Ss w v xs) (k : Ss w u xs) :
    Calls Try.prog 18 #[v, u] w fun r w' => r = .returned (.bool true) ∧ Below w.heap.size w w' := by
  obtain ⟨ao, cap, rfl⟩ := h.form
  obtain ⟨bo, cap', rfl⟩ := k.form
  obtain ⟨hn, hm, _, hc⟩ := h.cells
  obtain ⟨_, _, _, hd⟩ := k.cells
  exact samePages_at ao bo _ cap cap' xs w hm hc hd
end Go.Proofs.Ytehleeibgkpjmaa
