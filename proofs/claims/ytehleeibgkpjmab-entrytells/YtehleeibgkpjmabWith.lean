/- Contracts of With and Cut, and of the document's WithOf and CutOf: the same answers, each in a list of its own. -/
import Derived.Test.YtehleeibgkpjmabFirst
namespace Go.Proofs.Ytehleeibgkpjmab
open Go.RowKit
set_option maxRecDepth 20000

theorem first_any (v : Value) (xs : List Int) (n : Int) (w : World) (h : Sl w v xs) (h4 : xs.length = 4) (h0 : 0 ≤ n) (hn : n ≤ 4) :
    Calls Try.prog 36 #[v, .int .i64 n] w fun r w' => ∃ g cap', r = .returned (.slice (some ⟨g, 0, none⟩) 4 cap') ∧ w'.ownsRow w.heap.size 3 1 (.slice (some ⟨g, 0, none⟩) 4 cap') 4 ((cutR xs n.toNat).map (.int .i64)) ∧ Below w.heap.size w w' := by
  obtain ⟨b, off, cap, rfl, hcp, hlt, hcell⟩ := h.four h4
  obtain ⟨n, rfl⟩ := Int.eq_ofNat_of_zero_le h0
  rw [Int.toNat_natCast]
  exact first_at b off cap n xs w h4 (by omega) hcp hlt hcell

theorem cutR_all {xs : List Int} (h4 : xs.length = 4) : cutR xs 4 = xs := by unfold cutR; rw [List.take_of_length_le (by omega)]; simp

set_option maxHeartbeats 400000 in
theorem with_yes (v : Value) (xs : List Int) (k : Nat) (e : Int) (w : World) (h : Sl w v xs) (h0 : ckE xs = 0) (hk4' : k < 4) (hE : isE e = true) : Calls Try.prog 13 #[v, .int .i64 k, .int .i64 e] w (Ans w (xs.set k e) 0) := by
  have H4 : Hid (xs.length = 4) := ckE_len h0
  have hk4 : (k : Int) < 4 := by omega
  have hk0 : ¬ (k : Int) < 0 := by omega
  go_enter Try.func13, Try.ntmps13
  go_wp2_with (first | (go_at_call 19; refine (check_any _ xs _ h).mono ?_; rintro e w' ⟨rfl, rfl⟩) | (go_at_call 35; refine (isEntry_any _ _).mono ?_; rintro e w' ⟨rfl, rfl⟩) | (go_at_call 36; refine (first_any _ xs _ _ h H4.out (by omega) (by omega)).mono ?_; rintro e w1 ⟨g, cap', rfl, hown, hbel⟩; obtain ⟨u, hcl⟩ := own_cell hown k (by omega); have hfr := hown.frozenAt k; have HO : Hid (w1.ownsRow _ 3 1 (.slice (some ⟨g, 0, none⟩) 4 cap') 4 ((cutR xs (Int.toNat 4)).map (.int .i64))) := hown; clear hown))
  go_ret2
  exact Ans.put HO.out hbel (cutR_all H4.out)

set_option maxHeartbeats 400000 in
theorem with_any (v : Value) (xs : List Int) (k e : Int) (w : World) (h : Sl w v xs) : Calls Try.prog 13 #[v, .int .i64 k, .int .i64 e] w (Ans w (withL xs k e) (withE xs k e)) := by
  rcases ckE_01 xs with h0 | h1
  · by_cases hk : 0 ≤ k ∧ k < 4
    · obtain ⟨hk0, hk4⟩ := hk
      cases hE : isE e with
      | true =>
        have e1 : withE xs k e = 0 := by simp [withE, h0, hk0, hk4, hE]
        have e2 : withL xs k e = xs.set k.toNat e := by simp [withL, e1]
        rw [e1, e2]
        obtain ⟨k, rfl⟩ := Int.eq_ofNat_of_zero_le hk0
        rw [Int.toNat_natCast]
        exact with_yes v xs k e w h h0 (by omega) hE
      | false =>
        have e1 : withE xs k e = 1 := by simp [withE, h0, hk0, hk4, hE]
        have e2 : withL xs k e = [] := by simp [withL, e1]
        rw [e1, e2]
        clear e1 e2
        have hk0' : ¬ k < 0 := by omega
        go_enter Try.func13, Try.ntmps13
        go_wp2_with (first | (go_at_call 19; refine (check_any _ xs _ h).mono ?_; rintro e w' ⟨rfl, rfl⟩) | (go_at_call 35; refine (isEntry_any _ _).mono ?_; rintro e w' ⟨rfl, rfl⟩))
        go_ret2
        exact Ans.bad _ rfl
    · have e1 : withE xs k e = 3 := by simp only [withE, h0, if_true]; rw [if_neg hk]
      have e2 : withL xs k e = [] := by simp [withL, e1]
      rw [e1, e2]
      clear e1 e2
      by_cases hk0 : k < 0
      · clear hk
        go_enter Try.func13, Try.ntmps13
        go_wp2_with (first | (go_at_call 19; refine (check_any _ xs _ h).mono ?_; rintro e w' ⟨rfl, rfl⟩))
        go_ret2
        exact Ans.bad _ rfl
      · have hk4 : 4 ≤ k := by omega
        clear hk
        go_enter Try.func13, Try.ntmps13
        go_wp2_with (first | (go_at_call 19; refine (check_any _ xs _ h).mono ?_; rintro e w' ⟨rfl, rfl⟩))
        go_ret2
        exact Ans.bad _ rfl
  · have e1 : withE xs k e = 1 := by simp [withE, h1]
    have e2 : withL xs k e = [] := by simp [withL, e1]
    rw [e1, e2]
    clear e1 e2
    go_enter Try.func13, Try.ntmps13
    go_wp2_with (first | (go_at_call 19; refine (check_any _ xs _ h).mono ?_; rintro e w' ⟨rfl, rfl⟩))
    go_ret2
    exact Ans.bad _ rfl
theorem with_is {v : Value} {xs ys : List Int} {k e c : Int} {w : World} (h : Sl w v xs) (hy : withL xs k e = ys) (hc : withE xs k e = c) :
    Calls Try.prog 13 #[v, .int .i64 k, .int .i64 e] w (Ans w ys c) := by subst hy; subst hc; exact with_any v xs k e w h
end Go.Proofs.Ytehleeibgkpjmab
