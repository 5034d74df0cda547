/- Contracts of Bare, and of the document's bare, Bare and SameInts. -/
import Derived.Test.YtehleeibgkpjmabChk
namespace Go.Proofs.Ytehleeibgkpjmab
open Go.RowKit
set_option maxRecDepth 20000

theorem bare_at (b off cap : Nat) (xs : List Int) (w : World) (hck0 : ckE xs = 0) (hc : ∀ j, j < 4 → w.cell? ⟨b, off + j, none⟩ = some (.int .i64 (xs.getD j 0))) (hs : Sl w (.slice (some ⟨b, off, none⟩) 4 cap) xs) :
    Calls Try.prog 12 #[.slice (some ⟨b, off, none⟩) 4 cap] w fun r w' => r = .returned (.tuple #[.bool (bareE xs), .int .i64 0]) ∧ w' = w := by
  have HC : Hid (∀ j, j < 4 → w.cell? ⟨b, off + j, none⟩ = some (.int .i64 (xs.getD j 0))) := hc
  clear hc
  have h4 := ckE_len hck0
  have HE : Hid (bareE xs = bareL xs) := by show _ = _; unfold bareE; rw [if_pos hck0]
  go_enter Try.func12, Try.ntmps12
  go_wp2_with (go_at_call 19; refine (check_any _ xs _ hs).mono ?_; rintro e w' ⟨rfl, rfl⟩)
  go_loop [14] (fun i => ∃ k : Nat, k ≤ 4 ∧ i = .int .i64 k ∧ ∀ j, j < k → ((xs.getD j 0) == 0) = true) (fun i => 4 - (intOf i).toNat)
  case atStart => exact ⟨0, by omega, rfl, fun j hj => absurd hj (by omega)⟩
  case round =>
    obtain ⟨k, hk, rfl, hall⟩ := hrel
    have HA : Hid (∀ j, j < k → ((xs.getD j 0) == 0) = true) := hall
    clear hall
    by_cases hlt : k < 4
    · obtain ⟨x, hx⟩ : ∃ x, xs.getD k 0 = x := ⟨_, rfl⟩
      have hck := HC.out k hlt
      rw [hx] at hck
      have HX : Hid (xs.getD k 0 = x) := hx
      clear hx
      by_cases hE : x = 0
      · have hE' : (x != 0) = false := by simp [hE]
        have HE0 : Hid (x = 0) := hE
        clear hE
        go_wp2
        go_round
        case rel => exact ⟨k + 1, by omega, by go_num, upto_step (p := fun x => x == 0) HA.out HX.out (by simp [HE0.out])⟩
        case measure => simp [intOf]; omega
      · have hE' : (x != 0) = true := by simp [hE]
        go_wp2
        go_ret2
        refine ⟨?_, rfl⟩
        rw [HE.out, show bareL xs = false from not_all_of (j := k) (by omega) (by rw [HX.out]; simp [hE])]; rfl
    · have e4 : k = 4 := by omega
      subst e4
      go_wp2
      go_ret2
      refine ⟨?_, rfl⟩
      rw [HE.out, show bareL xs = true from all_of_upto (by rw [h4]; exact HA.out)]; rfl

theorem bare_no (v : Value) (xs : List Int) (w : World) (h : Sl w v xs) (hck0 : ckE xs = 1) :
    Calls Try.prog 12 #[v] w fun r w' => r = .returned (.tuple #[.bool (bareE xs), .int .i64 1]) ∧ w' = w := by
  have HE : Hid (bareE xs = false) := by show _ = _; unfold bareE; rw [if_neg (by omega)]
  go_enter Try.func12, Try.ntmps12
  go_wp2_with (go_at_call 19; refine (check_any _ xs _ h).mono ?_; rintro e w' ⟨rfl, rfl⟩)
  go_ret2
  exact ⟨by rw [HE.out]; rfl, rfl⟩

theorem bare_any (v : Value) (xs : List Int) (w : World) (h : Sl w v xs) :
    Calls Try.prog 12 #[v] w fun r w' => r = .returned (.tuple #[.bool (bareE xs), .int .i64 (ckE xs)]) ∧ w' = w := by
  rcases ckE_01 xs with h0 | h1
  · rw [h0]
    have hs := h
    have h4 := ckE_len h0
    obtain ⟨ao, cap, rfl, hm, hcp, hc⟩ := h
    obtain ⟨b, off, rfl, hlt, hcell⟩ := hc (by intro e; rw [e] at h4; simp at h4)
    rw [h4] at hcell hs ⊢
    exact bare_at b off cap xs w h0 hcell hs
  · rw [h1]; exact bare_no v xs w h h1

theorem bare_is {v : Value} {xs : List Int} {w : World} (h : Sl w v xs) {b : Bool} {c : Int} (hb : bareE xs = b) (hc : ckE xs = c) :
    Calls Try.prog 12 #[v] w fun r w' => r = .returned (.tuple #[.bool b, .int .i64 c]) ∧ w' = w := by subst hb; subst hc; exact bare_any v xs w h
theorem check_is {v : Value} {xs : List Int} {w : World} (h : Sl w v xs) {c : Int} (hc : ckE xs = c) :
    Calls Try.prog 19 #[v] w fun r w' => r = .returned (.int .i64 c) ∧ w' = w := by subst hc; exact check_any v xs w h
end Go.Proofs.Ytehleeibgkpjmab
