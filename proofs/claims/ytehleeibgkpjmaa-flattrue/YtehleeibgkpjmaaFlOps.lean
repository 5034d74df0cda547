/- Contracts of checkAt, Read, Write, Resize, and of the document's FlatRead, FlatWrite, FlatResize. -/
import Derived.Test.YtehleeibgkpjmaaFlFirst
import Derived.Test.YtehleeibgkpjmaaPgSplit
import Derived.Test.YtehleeibgkpjmaaWithin
namespace Go.Proofs.Ytehleeibgkpjmaa
open Go.RowKit
set_option maxRecDepth 20000

theorem atE_bad {xs : List ByteArray} {n : Int} (h : ckP xs ≠ 0) : atE xs n = ckP xs := by unfold atE; rw [if_neg h]
theorem atE_out {xs : List ByteArray} {n : Int} (h : ckP xs = 0) (hn : ¬ (0 ≤ n ∧ n < (xs.length : Int))) : atE xs n = 3 := by unfold atE; rw [if_pos h, if_neg hn]
theorem atE_in {xs : List ByteArray} {n : Int} (h : ckP xs = 0) (hn : 0 ≤ n ∧ n < (xs.length : Int)) : atE xs n = 0 := by unfold atE; rw [if_pos h, if_pos hn]

theorem checkAt_at (ao : Option Addr) (m cap : Nat) (xs : List ByteArray) (n : Int) (w : World) (h : Ss w (.slice ao m cap) xs) (hm : xs.length = m) :
    Calls Try.prog 40 #[.slice ao m cap, .int .i64 n] w fun r w' => r = .returned (.int .i64 (atE xs n)) ∧ w' = w := by
  by_cases hE : ckP xs = 0
  · have HE : Hid (ckP xs = 0) := hE
    by_cases h0 : n < 0
    · have HA : Hid (atE xs n = 3) := atE_out hE (by omega)
      clear hE hm
      go_enter Try.func40, Try.ntmps40
      go_wp2_with (go_at_call 15; refine (pcheck_is h HE.out).mono ?_; rintro e w' ⟨rfl, hw⟩; subst hw)
      go_ret
      exact ⟨ret_int HA.out.symm, rfl⟩
    by_cases h1 : (m : Int) ≤ n
    · have HA : Hid (atE xs n = 3) := atE_out hE (by omega)
      clear hE hm
      go_enter Try.func40, Try.ntmps40
      go_wp2_with (go_at_call 15; refine (pcheck_is h HE.out).mono ?_; rintro e w' ⟨rfl, hw⟩; subst hw)
      go_ret
      exact ⟨ret_int HA.out.symm, rfl⟩
    · have HA : Hid (atE xs n = 0) := atE_in hE (by omega)
      clear hE hm
      go_enter Try.func40, Try.ntmps40
      go_wp2_with (go_at_call 15; refine (pcheck_is h HE.out).mono ?_; rintro e w' ⟨rfl, hw⟩; subst hw)
      go_ret
      exact ⟨ret_int HA.out.symm, rfl⟩
  · obtain ⟨E, hEE⟩ : ∃ E, ckP xs = E := ⟨_, rfl⟩
    have HE : Hid (ckP xs = E) := hEE
    have HA : Hid (atE xs n = E) := by show _ = _; rw [atE_bad hE]; exact hEE
    have hne : (E != 0) = true := by rw [← hEE]; simpa using hE
    clear hE hm hEE
    go_enter Try.func40, Try.ntmps40
    go_wp2_with (go_at_call 15; refine (pcheck_is h HE.out).mono ?_; rintro e w' ⟨rfl, hw⟩; subst hw)
    go_ret
    exact ⟨ret_int HA.out.symm, rfl⟩

theorem checkAt_is {v : Value} {xs : List ByteArray} {n : Int} {w : World} (h : Ss w v xs) {c : Int} (hc : atE xs n = c) :
    Calls Try.prog 40 #[v, .int .i64 n] w fun r w' => r = .returned (.int .i64 c) ∧ w' = w := by
  subst hc
  obtain ⟨ao, cap, rfl⟩ := h.form
  exact checkAt_at ao _ cap xs n w h rfl

/-- Read. -/
theorem fread_bad (v : Value) (xs : List ByteArray) (n E : Int) (w : World) (h : Ss w v xs) (hE : atE xs n = E) (hne : (E != 0) = true) :
    Calls Try.prog 21 #[v, .int .i64 n] w fun r w' => r = .returned (.tuple #[.string ByteArray.empty, .int .i64 E]) ∧ w' = w := by
  have HE : Hid (atE xs n = E) := hE
  clear hE
  go_enter Try.func21, Try.ntmps21
  go_wp2_with (go_at_call 40; refine (checkAt_is h HE.out).mono ?_; rintro e w' ⟨rfl, hw⟩; subst hw)
  go_ret2
  exact ⟨rfl, rfl⟩
theorem fread_at (b off m cap k : Nat) (xs : List ByteArray) (x : ByteArray) (w : World) (h : Ss w (.slice (some ⟨b, off, none⟩) m cap) xs) (hE : atE xs (k : Int) = 0) (hk : k < m) (hc : w.cell? ⟨b, off + k, none⟩ = some (.string x)) :
    Calls Try.prog 21 #[.slice (some ⟨b, off, none⟩) m cap, .int .i64 k] w fun r w' => r = .returned (.tuple #[.string x, .int .i64 0]) ∧ w' = w := by
  have HE : Hid (atE xs (k : Int) = 0) := hE
  have hki : (k : Int) < (m : Int) := by omega
  clear hE
  go_enter Try.func21, Try.ntmps21
  go_wp2_with (go_at_call 40; refine (checkAt_is h HE.out).mono ?_; rintro e w' ⟨rfl, hw⟩; subst hw)
  go_ret2
  exact ⟨rfl, rfl⟩
theorem fread_any (v : Value) (xs : List ByteArray) (n : Int) (w : World) (h : Ss w v xs) :
    Calls Try.prog 21 #[v, .int .i64 n] w fun r w' => r = .returned (.tuple #[.string (freadA xs n), .int .i64 (atE xs n)]) ∧ w' = w := by
  by_cases hE : atE xs n = 0
  · obtain ⟨_, h0, hn⟩ := atE_parts hE
    obtain ⟨k, rfl⟩ := Int.eq_ofNat_of_zero_le h0
    obtain ⟨ao, cap, rfl⟩ := h.form
    obtain ⟨b, off, rfl, hlt, hcell⟩ := h.at (by omega)
    rw [freadA, if_pos hE, hE, Int.toNat_natCast]
    exact fread_at b off _ cap k xs _ w h hE (by omega) (hcell k (by omega))
  · rw [freadA, if_neg hE]
    exact fread_bad v xs n _ w h rfl (by simpa using hE)
theorem fread_is {v : Value} {xs : List ByteArray} {n : Int} {w : World} (h : Ss w v xs) {p : ByteArray} {c : Int} (hp : freadA xs n = p) (hc : atE xs n = c) :
    Calls Try.prog 21 #[v, .int .i64 n] w fun r w' => r = .returned (.tuple #[.string p, .int .i64 c]) ∧ w' = w := by subst hp; subst hc; exact fread_any v xs n w h

/-- FlatRead. -/
theorem freadOf_bad (v : Value) (xs : List ByteArray) (n E : Int) (w : World) (h : Ss w v xs) (hE : ckP xs = E) (hne : (E != 0) = true) :
    Calls Try.prog 24 #[v, .int .i64 n] w fun r w' => r = .returned (.tuple #[.string ByteArray.empty, .int .i64 E]) ∧ w' = w := by
  have HE : Hid (ckP xs = E) := hE
  clear hE
  go_enter Try.func24, Try.ntmps24
  go_wp2_with (go_at_call 12; refine (checkPages_is h HE.out).mono ?_; rintro e w' ⟨rfl, hw⟩; subst hw)
  go_ret2
  exact ⟨rfl, rfl⟩
theorem freadOf_out (ao : Option Addr) (m cap : Nat) (xs : List ByteArray) (n : Int) (w : World) (h : Ss w (.slice ao m cap) xs) (hE : ckP xs = 0) (h16 : m ≤ 16) (hn : decide (0 ≤ n ∧ n ≤ (m : Int) - 1) = false) :
    Calls Try.prog 24 #[.slice ao m cap, .int .i64 n] w fun r w' => r = .returned (.tuple #[.string ByteArray.empty, .int .i64 3]) ∧ w' = w := by
  have HE : Hid (ckP xs = 0) := hE
  have hm : (m : Int) ≤ 16 := by omega
  clear hE
  go_enter Try.func24, Try.ntmps24
  go_wp2_with (first | (go_at_call 12; refine (checkPages_is h HE.out).mono ?_; rintro e w' ⟨rfl, hw⟩; subst hw) | (go_at_call 39; refine (within_any _ _ _ _).mono ?_; rintro e w' ⟨rfl, hw⟩; subst hw; rw [hn]))
  go_ret2
  exact ⟨rfl, rfl⟩
theorem freadOf_at (b off m cap k : Nat) (xs : List ByteArray) (x : ByteArray) (w : World) (h : Ss w (.slice (some ⟨b, off, none⟩) m cap) xs) (hE : ckP xs = 0) (h16 : m ≤ 16) (hk : k < m) (hc : w.cell? ⟨b, off + k, none⟩ = some (.string x)) :
    Calls Try.prog 24 #[.slice (some ⟨b, off, none⟩) m cap, .int .i64 k] w fun r w' => r = .returned (.tuple #[.string x, .int .i64 0]) ∧ w' = w := by
  have HE : Hid (ckP xs = 0) := hE
  have hki : (k : Int) < (m : Int) := by omega
  have hm : (m : Int) ≤ 16 := by omega
  have hn : decide ((0 : Int) ≤ (k : Int) ∧ (k : Int) ≤ (m : Int) - 1) = true := by simp; omega
  clear hE
  go_enter Try.func24, Try.ntmps24
  go_wp2_with (first | (go_at_call 12; refine (checkPages_is h HE.out).mono ?_; rintro e w' ⟨rfl, hw⟩; subst hw) | (go_at_call 39; refine (within_any _ _ _ _).mono ?_; rintro e w' ⟨rfl, hw⟩; subst hw; rw [hn]))
  go_ret2
  exact ⟨rfl, rfl⟩
theorem freadOf_any (v : Value) (xs : List ByteArray) (n : Int) (w : World) (h : Ss w v xs) :
    Calls Try.prog 24 #[v, .int .i64 n] w fun r w' => r = .returned (.tuple #[.string (freadA xs n), .int .i64 (atE xs n)]) ∧ w' = w := by
  by_cases hK : ckP xs = 0
  · by_cases hn : 0 ≤ n ∧ n < (xs.length : Int)
    · have hE := atE_in hK hn
      obtain ⟨k, rfl⟩ := Int.eq_ofNat_of_zero_le hn.1
      obtain ⟨ao, cap, rfl⟩ := h.form
      obtain ⟨b, off, rfl, hlt, hcell⟩ := h.at (by omega)
      rw [freadA, if_pos hE, hE, Int.toNat_natCast]
      exact freadOf_at b off _ cap k xs _ w h hK (ckP_parts hK).1 (by omega) (hcell k (by omega))
    · have hE := atE_out hK hn
      rw [freadA, if_neg (by omega), hE]
      obtain ⟨ao, cap, rfl⟩ := h.form
      exact freadOf_out ao _ cap xs n w h hK (ckP_parts hK).1 (by simp; omega)
  · have hE := atE_bad (n := n) hK
    rw [freadA, if_neg (by rw [hE]; exact hK), hE]
    exact freadOf_bad v xs n _ w h rfl (by simpa using hK)
theorem freadOf_is {v : Value} {xs : List ByteArray} {n : Int} {w : World} (h : Ss w v xs) {p : ByteArray} {c : Int} (hp : freadA xs n = p) (hc : atE xs n = c) :
    Calls Try.prog 24 #[v, .int .i64 n] w fun r w' => r = .returned (.tuple #[.string p, .int .i64 c]) ∧ w' = w := by subst hp; subst hc; exact freadOf_any v xs n w h
end Go.Proofs.Ytehleeibgkpjmaa
