/- Contracts of Bare, and of the document's bare, Bare and SameInts. -/
import Derived.Test.YtjdccigmfainjabChk
namespace Go.Proofs.Ytjdccigmfainjab
open Go.RowKit

theorem bare_at (b off cap : Nat) (xs : List Int) (w : World) (hck0 : ckE xs = 0) (hc : ∀ j, j < 4 → w.cell? ⟨b, off + j, none⟩ = some (.int .i64 (xs.getD j 0))) (hs : Sl w (.slice (some ⟨b, off, none⟩) 4 cap) xs) :
    Calls Try.prog 9 #[.slice (some ⟨b, off, none⟩) 4 cap] w fun r w' => r = .returned (.tuple #[.bool (bareE xs), .int .i64 0]) ∧ w' = w := by
  have HC : Hid (∀ j, j < 4 → w.cell? ⟨b, off + j, none⟩ = some (.int .i64 (xs.getD j 0))) := hc
  clear hc
  have h4 := ckE_len hck0
  have HE : Hid (bareE xs = bareL xs) := by show _ = _; unfold bareE; rw [if_pos hck0]
  go_enter Try.func9, Try.ntmps9
  go_wp2_with (go_at_call 16; refine (check_any _ xs _ hs).mono ?_; rintro e w' ⟨rfl, rfl⟩)
  go_loop [14] (fun i => ∃ k : Nat, k ≤ 4 ∧ i = .int .i64 k ∧ ∀ j, j < k → ((xs.getD j 0) == 0) = true) (fun i => 4 - (intOf i).toNat)
  case atStart => exact ⟨0, by omega, rfl, fun j hj => absurd hj (by omega)⟩
  case round =>
    obtain ⟨k, hk, rfl, hall⟩ := hrel
    have HA : Hid (∀ j, j < k → ((xs.getD j 0) == 0) = true) := hall
    clear hall
    by_cases hlt : k < 4
    · obtain ⟨x, hx⟩ : ∃ x, xs.getD k 0 = x := ⟨_, rfl⟩
      have hck := HC.out k hlt
      rw [hx] at hck
      have HX : Hid (xs.getD k 0 = x) := hx
      clear hx
      by_cases hE : x = 0
      · have hE' : (x != 0) = false := by simp [hE]
        have HE0 : Hid (x = 0) := hE
        clear hE
        go_wp2
        go_round
        case rel => exact ⟨k + 1, by omega, by go_num, upto_step (p := fun x => x == 0) HA.out HX.out (by simp [HE0.out])⟩
        case measure => simp [intOf]; omega
      · have hE' : (x != 0) = true := by simp [hE]
        go_wp2
        go_ret2
        refine ⟨?_, rfl⟩
        rw [HE.out, show bareL xs = false from not_all_of (j := k) (by omega) (by rw [HX.out]; simp [hE])]; rfl
    · have e4 : k = 4 := by omega
      subst e4
      go_wp2
      go_ret2
      refine ⟨?_, rfl⟩
      rw [HE.out, show bareL xs = true from all_of_upto (by rw [h4]; exact HA.out)]; rfl

theorem bare_no (v : Value) (xs : List Int) (w : World) (h : Sl w v xs) (hck0 : ckE xs = 1) :
    Calls Try.prog 9 #[v] w fun r w' => r = .returned (.tuple #[.bool (bareE xs), .int .i64 1]) ∧ w' = w := by
  have HE : Hid (bareE xs = false) := by show _ = _; unfold bareE; rw [if_neg (by omega)]
  go_enter Try.func9, Try.ntmps9
  go_wp2_with (go_at_call 16; refine (check_any _ xs _ h).mono ?_; rintro e w' ⟨rfl, rfl⟩)
  go_ret2
  exact ⟨by rw [HE.out]; rfl, rfl⟩

theorem bare_any (v : Value) (xs : List Int) (w : World) (h : Sl w v xs) :
    Calls Try.prog 9 #[v] w fun r w' => r = .returned (.tuple #[.bool (bareE xs), .int .i64 (ckE xs)]) ∧ w' = w := by
  rcases ckE_01 xs with h0 | h1
  · rw [h0]
    have hs := h
    have h4 := ckE_len h0
    obtain ⟨ao, cap, rfl, hm, hcp, hc⟩ := h
    obtain ⟨b, off, rfl, hlt, hcell⟩ := hc (by intro e; rw [e] at h4; simp at h4)
    rw [h4] at hcell hs ⊢
    exact bare_at b off cap xs w h0 hcell hs
  · rw [h1]; exact bare_no v xs w h h1

theorem bareIn_at (ao : Option Addr) (n cap : Nat) (xs : List Int) (w : World) (hn : xs.length = n) (hm : n ≤ 9223372036854775807) (hc : ∀ j, j < n → ∃ b off, ao = some ⟨b, off, none⟩ ∧ w.cell? ⟨b, off + j, none⟩ = some (.int .i64 (xs.getD j 0))) :
    Calls Try.prog 26 #[.slice ao n cap] w fun r w' => r = .returned (.bool (bareL xs)) ∧ w' = w := by
  have HC : Hid (∀ j, j < n → ∃ b off, ao = some ⟨b, off, none⟩ ∧ w.cell? ⟨b, off + j, none⟩ = some (.int .i64 (xs.getD j 0))) := hc
  clear hc
  have HN : Hid (xs.length = n) := hn
  clear hn
  go_enter Try.func26, Try.ntmps26
  go_wp2
  go_loop [3] (fun i => ∃ k : Nat, k ≤ n ∧ i = .int .i64 k ∧ ∀ j, j < k → ((xs.getD j 0) == 0) = true) (fun i => n - (intOf i).toNat)
  case atStart => exact ⟨0, by omega, rfl, fun j hj => absurd hj (by omega)⟩
  case round =>
    obtain ⟨k, hk, rfl, hall⟩ := hrel
    have HA : Hid (∀ j, j < k → ((xs.getD j 0) == 0) = true) := hall
    clear hall
    by_cases hlt : k < n
    · obtain ⟨x, hx⟩ : ∃ x, xs.getD k 0 = x := ⟨_, rfl⟩
      obtain ⟨b, off, hao, hck⟩ := HC.out k hlt
      rw [hx] at hck
      have HX : Hid (xs.getD k 0 = x) := hx
      clear hx
      by_cases hE : x = 0
      · have hE' : (x != 0) = false := by simp [hE]
        have HE0 : Hid (x = 0) := hE
        clear hE
        go_wp2
        go_round
        case rel => exact ⟨k + 1, by omega, by go_num, upto_step (p := fun x => x == 0) HA.out HX.out (by simp [HE0.out])⟩
        case measure => simp [intOf]; omega
      · have hE' : (x != 0) = true := by simp [hE]
        go_wp2
        go_ret
        refine ⟨?_, rfl⟩
        rw [show bareL xs = false from not_all_of (j := k) (by rw [HN.out]; exact hlt) (by rw [HX.out]; simp [hE])]; rfl
    · have e4 : k = n := by omega
      subst e4
      go_wp2
      go_ret
      refine ⟨?_, rfl⟩
      rw [show bareL xs = true from all_of_upto (by rw [HN.out]; exact HA.out)]; rfl

theorem Sl.cells {w : World} {ao : Option Addr} {n cap : Nat} {xs : List Int} (h : Sl w (.slice ao n cap) xs) :
    xs.length = n ∧ n ≤ 9223372036854775807 ∧ n ≤ cap ∧ ∀ j, j < n → ∃ b off, ao = some ⟨b, off, none⟩ ∧ b < w.heap.size ∧ w.cell? ⟨b, off + j, none⟩ = some (.int .i64 (xs.getD j 0)) := by
  obtain ⟨ao', cap', hv, hm, hcp, hc⟩ := h
  simp only [Value.slice.injEq] at hv
  obtain ⟨rfl, rfl, rfl⟩ := hv
  unfold maxLen at hm
  refine ⟨rfl, by omega, hcp, fun j hj => ?_⟩
  obtain ⟨b, off, rfl, hlt, hcell⟩ := hc (by intro e; rw [e] at hj; simp at hj)
  exact ⟨b, off, rfl, hlt, hcell j hj⟩

theorem Sl.form {w : World} {v : Value} {xs : List Int} (h : Sl w v xs) : ∃ ao cap, v = .slice ao xs.length cap := by
  obtain ⟨ao, cap, hv, _⟩ := h; exact ⟨ao, cap, hv⟩

theorem bareIn_any (v : Value) (xs : List Int) (w : World) (h : Sl w v xs) :
    Calls Try.prog 26 #[v] w fun r w' => r = .returned (.bool (bareL xs)) ∧ w' = w := by
  obtain ⟨ao, cap, rfl⟩ := h.form
  obtain ⟨hn, hm, hcp, hc⟩ := h.cells
  exact bareIn_at ao _ cap xs w hn hm (fun j hj => by obtain ⟨b, off, h1, _, h2⟩ := hc j hj; exact ⟨b, off, h1, h2⟩)

theorem bareOf_any (v : Value) (xs : List Int) (w : World) (h : Sl w v xs) :
    Calls Try.prog 17 #[v] w fun r w' => r = .returned (.bool (bareL xs)) ∧ w' = w := by
  go_enter Try.func17, Try.ntmps17
  go_wp2_with (go_at_call 26; refine (bareIn_any _ xs _ h).mono ?_; rintro e w' ⟨rfl, rfl⟩)
  go_ret
  exact ⟨rfl, rfl⟩

theorem same_at (ao bo : Option Addr) (n cap cap' : Nat) (xs : List Int) (w : World) (hn : xs.length = n) (hm : n ≤ 9223372036854775807)
    (hc : ∀ j, j < n → ∃ b off, ao = some ⟨b, off, none⟩ ∧ b < w.heap.size ∧ w.cell? ⟨b, off + j, none⟩ = some (.int .i64 (xs.getD j 0)))
    (hd : ∀ j, j < n → ∃ b off, bo = some ⟨b, off, none⟩ ∧ b < w.heap.size ∧ w.cell? ⟨b, off + j, none⟩ = some (.int .i64 (xs.getD j 0))) :
    Calls Try.prog 18 #[.slice ao n cap, .slice bo n cap'] w fun r w' => r = .returned (.bool true) ∧ Below w.heap.size w w' := by
  have HC : Hid (∀ j, j < n → ∃ b off, ao = some ⟨b, off, none⟩ ∧ b < w.heap.size ∧ w.cell? ⟨b, off + j, none⟩ = some (.int .i64 (xs.getD j 0))) := hc
  have HD : Hid (∀ j, j < n → ∃ b off, bo = some ⟨b, off, none⟩ ∧ b < w.heap.size ∧ w.cell? ⟨b, off + j, none⟩ = some (.int .i64 (xs.getD j 0))) := hd
  clear hc hd
  have HN : Hid (xs.length = n) := hn
  clear hn
  go_enter Try.func18, Try.ntmps18
  go_wp2
  go_loopw [5] (fun i wr => ∃ k : Nat, k ≤ n ∧ i = .int .i64 k ∧ Below w.heap.size w wr) (fun i _ => n - (intOf i).toNat)
  case atStart => exact ⟨0, by omega, rfl, Below.refl _ _⟩
  case round =>
    obtain ⟨k, hk, rfl, hbel⟩ := hrel
    by_cases hlt : k < n
    · obtain ⟨x, hx⟩ : ∃ x, xs.getD k 0 = x := ⟨_, rfl⟩
      obtain ⟨b, off, hao, hl1, hck⟩ := HC.out k hlt
      obtain ⟨b', off', hbo, hl2, hck'⟩ := HD.out k hlt
      rw [hx] at hck hck'
      clear hx
      have g1 : wr.cell? ⟨b, off + k, none⟩ = some (.int .i64 x) := (hbel.cell (p := ⟨b, off + k, none⟩) hl1).trans hck
      have g2 : wr.cell? ⟨b', off' + k, none⟩ = some (.int .i64 x) := (hbel.cell (p := ⟨b', off' + k, none⟩) hl2).trans hck'
      have i1 : (k : Int) < (n : Int) := by omega
      go_wp2
      go_quiet (fail)
      go_wp2
      go_roundw
      case rel => exact ⟨k + 1, by omega, by go_num, below_drewN hbel _⟩
      case measure => simp [intOf]; omega
    · have e4 : k = n := by omega
      subst e4
      go_wp2
      go_ret
      exact ⟨rfl, hbel⟩
end Go.Proofs.Ytjdccigmfainjab
