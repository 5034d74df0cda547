/- The walk of EntryTells: it answers true, whatever it is handed. -/
import Derived.Test.YtehleeibgkpjmabBegun
import Derived.Test.YtehleeibgkpjmabBareOf
namespace Go.Proofs.Ytehleeibgkpjmab
open Go.RowKit
set_option maxRecDepth 20000

theorem checkOf_is {v : Value} {xs : List Int} {w : World} (h : Sl w v xs) {c : Int} (hc : ckE xs = c) :
    Calls Try.prog 15 #[v] w fun r w' => r = .returned (.int .i64 c) ∧ w' = w := by subst hc; exact checkOf_any v xs w h
theorem withOf_is {v : Value} {xs ys : List Int} {k e c : Int} {w : World} (h : Sl w v xs) (hy : withL xs k e = ys) (hc : withE xs k e = c) :
    Calls Try.prog 16 #[v, .int .i64 k, .int .i64 e] w (Ans w ys c) := by subst hy; subst hc; exact withOf_any v xs k e w h
theorem cutOf_is {v : Value} {xs ys : List Int} {n c : Int} {w : World} (h : Sl w v xs) (hy : cutL xs n = ys) (hc : cutE xs n = c) :
    Calls Try.prog 17 #[v, .int .i64 n] w (Ans w ys c) := by subst hy; subst hc; exact cutOf_any v xs n w h
set_option maxHeartbeats 1000000 in
theorem tells_yes (v : Value) (xs : List Int) (k e n : Int) (w : World) (h : Sl w v xs) (h0 : ckE xs = 0) :
    Calls Try.prog 4 #[v, .int .i64 k, .int .i64 e, .int .i64 n] w fun r w' => r = .returned (.bool true) ∧ Below w.heap.size w w' := by
  obtain ⟨YW, hYW⟩ : ∃ y, withL xs k e = y := ⟨_, rfl⟩
  obtain ⟨EW, hEW⟩ : ∃ y, withE xs k e = y := ⟨_, rfl⟩
  obtain ⟨YC, hYC⟩ : ∃ y, cutL xs n = y := ⟨_, rfl⟩
  obtain ⟨EC, hEC⟩ : ∃ y, cutE xs n = y := ⟨_, rfl⟩
  obtain ⟨B, hB⟩ : ∃ y, bareL xs = y := ⟨_, rfl⟩
  have hB' : bareE xs = B := by unfold bareE; rw [if_pos h0]; exact hB
  have H : Hid (withL xs k e = YW ∧ withE xs k e = EW ∧ cutL xs n = YC ∧ cutE xs n = EC ∧ bareL xs = B ∧ bareE xs = B ∧ ckE xs = 0) := ⟨hYW, hEW, hYC, hEC, hB, hB', h0⟩
  clear hYW hEW hYC hEC hB hB' h0
  go_enter Try.func4, Try.ntmps4
  go_wp2_with fail
  refine (bare_is h H.out.2.2.2.2.2.1 H.out.2.2.2.2.2.2).mono ?_
  rintro e w1 ⟨rfl, rfl⟩
  go_wp2_with fail
  refine (with_is h H.out.1 H.out.2.1).mono ?_
  rintro e w1 ⟨v1, rfl, s1, b1⟩
  have h := h.below b1
  go_wp2_with fail
  refine (cut_is h H.out.2.2.1 H.out.2.2.2.1).mono ?_
  rintro e w2 ⟨v2, rfl, s2, b2⟩
  have h := h.below b2
  have s1 := s1.below b2
  have b2 := Below.on b1 b2
  clear b1
  go_wp2_with fail
  refine (checkOf_is h H.out.2.2.2.2.2.2).mono ?_
  rintro e w3 ⟨rfl, rfl⟩
  go_wp2_with fail
  refine (withOf_is h H.out.1 H.out.2.1).mono ?_
  rintro e w4 ⟨v4, rfl, s4, b4⟩
  have h := h.below b4
  have s1 := s1.below b4
  have s2 := s2.below b4
  have b4 := Below.on b2 b4
  clear b2
  go_wp2_with fail
  refine (cutOf_is h H.out.2.2.1 H.out.2.2.2.1).mono ?_
  rintro e w5 ⟨v5, rfl, s5, b5⟩
  have h := h.below b5
  have s1 := s1.below b5
  have s2 := s2.below b5
  have s4 := s4.below b5
  have b5 := Below.on b4 b5
  clear b4
  go_wp2_with fail
  refine (begun_any _).mono ?_
  rintro e w6 ⟨rfl, b6⟩
  have h := h.below b6
  have s1 := s1.below b6
  have s2 := s2.below b6
  have s4 := s4.below b6
  have s5 := s5.below b6
  have b6 := Below.on b5 b6
  clear b5
  go_wp2_with fail
  refine (check_is h H.out.2.2.2.2.2.2).mono ?_
  rintro e w7 ⟨rfl, rfl⟩
  go_wp2_with fail
  refine (bareOf_is h H.out.2.2.2.2.1).mono ?_
  rintro e w7 ⟨rfl, rfl⟩
  go_wp2_with fail
  refine (same_any s1 s4).mono ?_
  rintro e w7 ⟨rfl, b7⟩
  have s2 := s2.below b7
  have s5 := s5.below b7
  have b7 := Below.on b6 b7
  clear b6
  go_wp2_with fail
  refine (same_any s2 s5).mono ?_
  rintro e w8 ⟨rfl, b8⟩
  have b8 := Below.on b7 b8
  go_wp2_with fail
  go_ret
  exact ⟨rfl, b8⟩

set_option maxHeartbeats 1000000 in
theorem tells_no (v : Value) (xs : List Int) (k e n : Int) (w : World) (h : Sl w v xs) (h1 : ckE xs = 1) :
    Calls Try.prog 4 #[v, .int .i64 k, .int .i64 e, .int .i64 n] w fun r w' => r = .returned (.bool true) ∧ Below w.heap.size w w' := by
  have hEW : withE xs k e = 1 := by simp [withE, h1]
  have hYW : withL xs k e = [] := by simp [withL, hEW]
  have hEC : cutE xs n = 1 := by simp [cutE, h1]
  have hYC : cutL xs n = [] := by simp [cutL, hEC]
  have hB' : bareE xs = false := by unfold bareE; rw [if_neg (by omega)]
  have H : Hid (withL xs k e = [] ∧ withE xs k e = 1 ∧ cutL xs n = [] ∧ cutE xs n = 1 ∧ bareE xs = false ∧ ckE xs = 1) := ⟨hYW, hEW, hYC, hEC, hB', h1⟩
  clear hYW hEW hYC hEC hB' h1
  go_enter Try.func4, Try.ntmps4
  go_wp2_with fail
  refine (bare_is h H.out.2.2.2.2.1 H.out.2.2.2.2.2).mono ?_
  rintro e w1 ⟨rfl, rfl⟩
  go_wp2_with fail
  refine (with_is h H.out.1 H.out.2.1).mono ?_
  rintro e w1 ⟨v1, rfl, s1, b1⟩
  have h := h.below b1
  go_wp2_with fail
  refine (cut_is h H.out.2.2.1 H.out.2.2.2.1).mono ?_
  rintro e w2 ⟨v2, rfl, s2, b2⟩
  have h := h.below b2
  have s1 := s1.below b2
  have b2 := Below.on b1 b2
  clear b1
  go_wp2_with fail
  refine (checkOf_is h H.out.2.2.2.2.2).mono ?_
  rintro e w3 ⟨rfl, rfl⟩
  go_wp2_with fail
  refine (withOf_is h H.out.1 H.out.2.1).mono ?_
  rintro e w4 ⟨v4, rfl, s4, b4⟩
  have h := h.below b4
  have s1 := s1.below b4
  have s2 := s2.below b4
  have b4 := Below.on b2 b4
  clear b2
  go_wp2_with fail
  refine (cutOf_is h H.out.2.2.1 H.out.2.2.2.1).mono ?_
  rintro e w5 ⟨v5, rfl, s5, b5⟩
  have h := h.below b5
  have s1 := s1.below b5
  have s2 := s2.below b5
  have s4 := s4.below b5
  have b5 := Below.on b4 b5
  clear b4
  go_wp2_with fail
  refine (begun_any _).mono ?_
  rintro e w6 ⟨rfl, b6⟩
  have h := h.below b6
  have s1 := s1.below b6
  have s2 := s2.below b6
  have s4 := s4.below b6
  have s5 := s5.below b6
  have b6 := Below.on b5 b6
  clear b5
  go_wp2_with fail
  refine (check_is h H.out.2.2.2.2.2).mono ?_
  rintro e w7 ⟨rfl, rfl⟩
  go_wp2_with fail
  refine (same_any s1 s4).mono ?_
  rintro e w7 ⟨rfl, b7⟩
  have s2 := s2.below b7
  have s5 := s5.below b7
  have b7 := Below.on b6 b7
  clear b6
  go_wp2_with fail
  refine (same_any s2 s5).mono ?_
  rintro e w8 ⟨rfl, b8⟩
  have b8 := Below.on b7 b8
  go_wp2_with fail
  go_ret
  exact ⟨rfl, b8⟩

theorem tells_any (v : Value) (xs : List Int) (k e n : Int) (w : World) (h : Sl w v xs) :
    Calls Try.prog 4 #[v, .int .i64 k, .int .i64 e, .int .i64 n] w fun r w' => r = .returned (.bool true) ∧ Below w.heap.size w w' := by
  rcases ckE_01 xs with h0 | h1
  · exact tells_yes v xs k e n w h h0
  · exact tells_no v xs k e n w h h1
end Go.Proofs.Ytehleeibgkpjmab
