/- The walk of EntryTrue, way by way. -/
import Derived.Test.YtehleeibgkpjmabTrue
namespace Go.Proofs.Ytehleeibgkpjmab
open Go.RowKit
set_option maxRecDepth 20000

set_option maxRecDepth 100000 in
set_option maxHeartbeats 1000000 in
theorem true_no_yes (v : Value) (xs : List Int) (k e i : Int) (n m : Nat) (w : World) (h : Sl w v xs) (hf : (withE xs k e == 0) = false) (h0 : ckE xs = 0) (hn : n ≤ 4) (hm : m ≤ 4) :
    Calls Try.prog 5 #[v, .int .i64 k, .int .i64 e, .int .i64 i, .int .i64 n, .int .i64 m] w fun r w' => r = .returned (.bool true) ∧ Below w.heap.size w w' := by
  have H : Hid (ckE xs = 0 ∧ xs.length = 4) := ⟨h0, ckE_len h0⟩
  clear h0
  obtain ⟨EW, hEW⟩ : ∃ y, withE xs k e = y := ⟨_, rfl⟩
  obtain ⟨YW, hYW⟩ : ∃ y, withL xs k e = y := ⟨_, rfl⟩
  rw [hEW] at hf
  have HW : Hid (withE xs k e = EW ∧ withL xs k e = YW) := ⟨hEW, hYW⟩
  clear hEW hYW
  go_enter Try.func5, Try.ntmps5
  go_wp2_with fail
  refine (with_is h HW.out.2 HW.out.1).mono ?_
  rintro e1 w1 ⟨v1, rfl, s1, b1⟩
  have h := h.below b1
  clear s1
  go_wp2_with fail
  refine (cut_is h (cut_ok H.out.1 hn).1 (cut_ok H.out.1 hn).2).mono ?_
  rintro e3 w3 ⟨va, rfl, sa, b3⟩
  have h := h.below b3
  have b3 := Below.on b1 b3
  go_wp2_with fail
  refine (cut_is h (cut_ok H.out.1 hm).1 (cut_ok H.out.1 hm).2).mono ?_
  rintro e4 w4 ⟨vb, rfl, sb, b4⟩
  have h := h.below b4
  have sa := sa.below b4
  have b4 := Below.on b3 b4
  go_wp2_with fail
  refine (cut_is sa (cut_ok (ck_cutR H.out.1 hn) hm).1 (cut_ok (ck_cutR H.out.1 hn) hm).2).mono ?_
  rintro e5 w5 ⟨vc, rfl, sc, b5⟩
  rw [cutR_cutR H.out.2 hn hm] at sc
  have h := h.below b5
  have sb := sb.below b5
  have b5 := Below.on b4 b5
  have hs := h
  clear b4 b3 b1 sa h
  go_wp2_with fail
  all_goals
    refine (cut_is hs (cut_ok H.out.1 (by assumption)).1 (cut_ok H.out.1 (by assumption)).2).mono ?_
    rintro e6 w6 ⟨vd, rfl, sd, b6⟩
    first | rw [Nat.min_eq_left (by omega)] at sc | rw [Nat.min_eq_right (by omega)] at sc
    have hs := hs.below b6
    have sb := sb.below b6
    have sc := sc.below b6
    have b6 := Below.on b5 b6
    clear b5
    go_wp2_with fail
    refine (cut_is sb (cut_ok (n := 0) (ck_cutR H.out.1 hm) (by omega)).1 (cut_ok (n := 0) (ck_cutR H.out.1 hm) (by omega)).2).mono ?_
    rintro e7 w7 ⟨ve, rfl, se, b7⟩
    have hs := hs.below b7
    have sc := sc.below b7
    have sd := sd.below b7
    have b7 := Below.on b6 b7
    clear b6 sb
    go_wp2_with fail
    refine (bare_is se (b := true) (c := 0) (bare_cut0 (ck_cutR H.out.1 hm)) (ck_cutR (ck_cutR H.out.1 hm) (by omega))).mono ?_
    rintro e8 w8 ⟨rfl, rfl⟩
    go_wp2_with fail
    refine (cut_is hs (ys := xs) ((cut_ok (n := 4) H.out.1 (by omega)).1.trans (cutR_all H.out.2)) (cut_ok (n := 4) H.out.1 (by omega)).2).mono ?_
    rintro e9 w9 ⟨vf, rfl, sf, b9⟩
    have hs := hs.below b9
    have sc := sc.below b9
    have sd := sd.below b9
    have b9 := Below.on b7 b9
    clear b7 se
    go_wp2_with fail
    refine (begun_any _).mono ?_
    rintro e10 w10 ⟨rfl, b10⟩
    have hs := hs.below b10
    have sc := sc.below b10
    have sd := sd.below b10
    have sf := sf.below b10
    have b10 := Below.on b9 b10
    clear b9
    go_wp2_with fail
    refine (same_any sc sd).mono ?_
    rintro e11 w11 ⟨rfl, b11⟩
    have hs := hs.below b11
    have sf := sf.below b11
    have b11 := Below.on b10 b11
    clear b10 sc sd
    go_wp2_with fail
    refine (same_any sf hs).mono ?_
    rintro e12 w12 ⟨rfl, b12⟩
    have b12 := Below.on b11 b12
    go_wp2_with fail
    go_ret
    exact ⟨rfl, b12⟩

set_option maxRecDepth 100000 in
set_option maxHeartbeats 1000000 in
theorem true_no_n (v : Value) (xs : List Int) (k e i : Int) (n m : Int) (w : World) (h : Sl w v xs) (hf : (withE xs k e == 0) = false) (hg : (cutE xs n != 0) = true) :
    Calls Try.prog 5 #[v, .int .i64 k, .int .i64 e, .int .i64 i, .int .i64 n, .int .i64 m] w fun r w' => r = .returned (.bool true) ∧ Below w.heap.size w w' := by
  obtain ⟨EN, hEN⟩ : ∃ y, cutE xs n = y := ⟨_, rfl⟩
  rw [hEN] at hg
  have H : Hid (cutE xs n = EN) := hEN
  clear hEN
  obtain ⟨EW, hEW⟩ : ∃ y, withE xs k e = y := ⟨_, rfl⟩
  obtain ⟨YW, hYW⟩ : ∃ y, withL xs k e = y := ⟨_, rfl⟩
  rw [hEW] at hf
  have HW : Hid (withE xs k e = EW ∧ withL xs k e = YW) := ⟨hEW, hYW⟩
  clear hEW hYW
  go_enter Try.func5, Try.ntmps5
  go_wp2_with fail
  refine (with_is h HW.out.2 HW.out.1).mono ?_
  rintro e1 w1 ⟨v1, rfl, s1, b1⟩
  have h := h.below b1
  clear s1
  go_wp2_with fail
  refine (cut_is h rfl H.out).mono ?_
  rintro e3 w3 ⟨va, rfl, sa, b3⟩
  have h := h.below b3
  have b3 := Below.on b1 b3
  clear sa
  go_wp2_with fail
  refine (cut_is h rfl rfl).mono ?_
  rintro e4 w4 ⟨vb, rfl, sb, b4⟩
  have b4 := Below.on b3 b4
  clear sb
  go_wp2_with fail
  refine (begun_any _).mono ?_
  rintro e10 w10 ⟨rfl, b10⟩
  have b10 := Below.on b4 b10
  go_wp2_with fail
  go_ret
  exact ⟨rfl, b10⟩

set_option maxRecDepth 100000 in
set_option maxHeartbeats 1000000 in
theorem true_no_m (v : Value) (xs : List Int) (k e i : Int) (n m : Int) (w : World) (h : Sl w v xs) (hf : (withE xs k e == 0) = false) (hg0 : cutE xs n = 0) (hg : (cutE xs m != 0) = true) :
    Calls Try.prog 5 #[v, .int .i64 k, .int .i64 e, .int .i64 i, .int .i64 n, .int .i64 m] w fun r w' => r = .returned (.bool true) ∧ Below w.heap.size w w' := by
  obtain ⟨EM, hEM⟩ : ∃ y, cutE xs m = y := ⟨_, rfl⟩
  rw [hEM] at hg
  have H : Hid (cutE xs n = 0 ∧ cutE xs m = EM) := ⟨hg0, hEM⟩
  clear hEM hg0
  obtain ⟨EW, hEW⟩ : ∃ y, withE xs k e = y := ⟨_, rfl⟩
  obtain ⟨YW, hYW⟩ : ∃ y, withL xs k e = y := ⟨_, rfl⟩
  rw [hEW] at hf
  have HW : Hid (withE xs k e = EW ∧ withL xs k e = YW) := ⟨hEW, hYW⟩
  clear hEW hYW
  go_enter Try.func5, Try.ntmps5
  go_wp2_with fail
  refine (with_is h HW.out.2 HW.out.1).mono ?_
  rintro e1 w1 ⟨v1, rfl, s1, b1⟩
  have h := h.below b1
  clear s1
  go_wp2_with fail
  refine (cut_is h rfl H.out.1).mono ?_
  rintro e3 w3 ⟨va, rfl, sa, b3⟩
  have h := h.below b3
  have b3 := Below.on b1 b3
  clear sa
  go_wp2_with fail
  refine (cut_is h rfl H.out.2).mono ?_
  rintro e4 w4 ⟨vb, rfl, sb, b4⟩
  have b4 := Below.on b3 b4
  clear sb
  go_wp2_with fail
  refine (begun_any _).mono ?_
  rintro e10 w10 ⟨rfl, b10⟩
  have b10 := Below.on b4 b10
  go_wp2_with fail
  go_ret
  exact ⟨rfl, b10⟩

end Go.Proofs.Ytehleeibgkpjmab
