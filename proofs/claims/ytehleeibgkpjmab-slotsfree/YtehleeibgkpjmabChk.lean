/- Contracts of Check, Bare and of the document's CheckEntries, Bare, SameInts. -/
import Derived.Test.YtehleeibgkpjmabLeaf
import Derived.Deep.QuietTactic
import Derived.BigQuiet
namespace Go.Proofs.Ytehleeibgkpjmab
open Go.RowKit
set_option maxRecDepth 20000

theorem check_no (ao : Option Addr) (n cap : Nat) (w : World) (hn : ((n : Int) != 4) = true) : Calls Try.prog 19 #[.slice ao n cap] w fun r w' => r = .returned (.int .i64 1) ∧ w' = w := by
  go_enter Try.func19, Try.ntmps19
  go_wp2
  go_ret; exact ⟨rfl, rfl⟩

theorem check_at (b off cap : Nat) (xs : List Int) (w : World) (h4 : xs.length = 4) (hc : ∀ j, j < 4 → w.cell? ⟨b, off + j, none⟩ = some (.int .i64 (xs.getD j 0))) :
    Calls Try.prog 19 #[.slice (some ⟨b, off, none⟩) 4 cap] w fun r w' => r = .returned (.int .i64 (ckE xs)) ∧ w' = w := by
  have HC : Hid (∀ j, j < 4 → w.cell? ⟨b, off + j, none⟩ = some (.int .i64 (xs.getD j 0))) := hc
  clear hc
  go_enter Try.func19, Try.ntmps19
  go_wp2
  go_loop [10] (fun i => ∃ k : Nat, k ≤ 4 ∧ i = .int .i64 k ∧ ∀ j, j < k → isE (xs.getD j 0) = true) (fun i => 4 - (intOf i).toNat)
  case atStart => exact ⟨0, by omega, rfl, fun j hj => absurd hj (by omega)⟩
  case round =>
    obtain ⟨k, hk, rfl, hall⟩ := hrel
    have HA : Hid (∀ j, j < k → isE (xs.getD j 0) = true) := hall
    clear hall
    by_cases hlt : k < 4
    · obtain ⟨x, hx⟩ : ∃ x, xs.getD k 0 = x := ⟨_, rfl⟩
      have hck := HC.out k hlt
      rw [hx] at hck
      have HX : Hid (xs.getD k 0 = x) := hx
      clear hx
      cases hE : isE x with
      | true =>
        go_wp2_with (go_at_call 35; refine (isEntry_any _ _).mono ?_; rintro e w' ⟨rfl, rfl⟩)
        go_round
        case rel => exact ⟨k + 1, by omega, by go_num, upto_step HA.out HX.out hE⟩
        case measure => simp [intOf]; omega
      | false =>
        go_wp2_with (go_at_call 35; refine (isEntry_any _ _).mono ?_; rintro e w' ⟨rfl, rfl⟩)
        go_ret
        exact ⟨ret_int (by rw [ckE_no]; intro h; rw [not_all_of (j := k) (by omega) (by rw [HX.out]; exact hE)] at h; simp at h), rfl⟩
    · have e4 : k = 4 := by omega
      subst e4
      go_wp2
      go_ret
      exact ⟨ret_int (ckE_yes h4 (all_of_upto (by rw [h4]; exact HA.out))).symm, rfl⟩

theorem check_any (v : Value) (xs : List Int) (w : World) (h : Sl w v xs) : Calls Try.prog 19 #[v] w fun r w' => r = .returned (.int .i64 (ckE xs)) ∧ w' = w := by
  obtain ⟨ao, cap, rfl, hm, hcp, hc⟩ := h
  by_cases h4 : xs.length = 4
  · obtain ⟨b, off, rfl, hlt, hcell⟩ := hc (by intro e; rw [e] at h4; simp at h4)
    rw [h4] at hcell ⊢
    exact check_at b off cap xs w h4 hcell
  · rw [ckE_no (fun e => h4 e.1)]
    exact check_no ao _ cap w (by rw [bne_iff_ne]; omega)

theorem checkOf_no (ao : Option Addr) (n cap : Nat) (w : World) (hn : ((n : Int) != 4) = true) : Calls Try.prog 15 #[.slice ao n cap] w fun r w' => r = .returned (.int .i64 1) ∧ w' = w := by
  go_enter Try.func15, Try.ntmps15
  go_wp2
  go_ret; exact ⟨rfl, rfl⟩

theorem checkOf_at (b off cap : Nat) (xs : List Int) (w : World) (h4 : xs.length = 4) (hc : ∀ j, j < 4 → w.cell? ⟨b, off + j, none⟩ = some (.int .i64 (xs.getD j 0))) :
    Calls Try.prog 15 #[.slice (some ⟨b, off, none⟩) 4 cap] w fun r w' => r = .returned (.int .i64 (ckE xs)) ∧ w' = w := by
  have HC : Hid (∀ j, j < 4 → w.cell? ⟨b, off + j, none⟩ = some (.int .i64 (xs.getD j 0))) := hc
  clear hc
  go_enter Try.func15, Try.ntmps15
  go_wp2
  go_loop [3] (fun i => ∃ k : Nat, k ≤ 4 ∧ i = .int .i64 k ∧ ∀ j, j < k → isE (xs.getD j 0) = true) (fun i => 4 - (intOf i).toNat)
  case atStart => exact ⟨0, by omega, rfl, fun j hj => absurd hj (by omega)⟩
  case round =>
    obtain ⟨k, hk, rfl, hall⟩ := hrel
    have HA : Hid (∀ j, j < k → isE (xs.getD j 0) = true) := hall
    clear hall
    by_cases hlt : k < 4
    · obtain ⟨x, hx⟩ : ∃ x, xs.getD k 0 = x := ⟨_, rfl⟩
      have hck := HC.out k hlt
      rw [hx] at hck
      have HX : Hid (xs.getD k 0 = x) := hx
      clear hx
      cases hE : isE x with
      | true =>
        go_wp2_with (go_at_call 37; refine (entry_any _ _).mono ?_; rintro e w' ⟨rfl, rfl⟩)
        go_round
        case rel => exact ⟨k + 1, by omega, by go_num, upto_step HA.out HX.out hE⟩
        case measure => simp [intOf]; omega
      | false =>
        go_wp2_with (go_at_call 37; refine (entry_any _ _).mono ?_; rintro e w' ⟨rfl, rfl⟩)
        go_ret
        exact ⟨ret_int (by rw [ckE_no]; intro h; rw [not_all_of (j := k) (by omega) (by rw [HX.out]; exact hE)] at h; simp at h), rfl⟩
    · have e4 : k = 4 := by omega
      subst e4
      go_wp2
      go_ret
      exact ⟨ret_int (ckE_yes h4 (all_of_upto (by rw [h4]; exact HA.out))).symm, rfl⟩

theorem checkOf_any (v : Value) (xs : List Int) (w : World) (h : Sl w v xs) : Calls Try.prog 15 #[v] w fun r w' => r = .returned (.int .i64 (ckE xs)) ∧ w' = w := by
  obtain ⟨ao, cap, rfl, hm, hcp, hc⟩ := h
  by_cases h4 : xs.length = 4
  · obtain ⟨b, off, rfl, hlt, hcell⟩ := hc (by intro e; rw [e] at h4; simp at h4)
    rw [h4] at hcell ⊢
    exact checkOf_at b off cap xs w h4 hcell
  · rw [ckE_no (fun e => h4 e.1)]
    exact checkOf_no ao _ cap w (by rw [bne_iff_ne]; omega)
end Go.Proofs.Ytehleeibgkpjmab
