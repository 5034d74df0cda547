/- The walk of PagesBack, way by way. -/
import Derived.Test.YtehleeibgkpjmaaPgBack
import Derived.Deep.RegionHeld3
namespace Go.Proofs.Ytehleeibgkpjmaa
open Go.RowKit
set_option maxRecDepth 20000

set_option maxRecDepth 100000 in
set_option maxHeartbeats 2000000 in
theorem back_yyn (v : Value) (xs : List ByteArray) (s page part : ByteArray) (i : Int) (w : World) (h : Ss w v xs) (hm : s.size ≤ 9223372036854775807) (hA : s.size ≤ 64) (hB : ckP xs = 0) (c : Int) (hC : patchE page i part = c) (hc0 : (c != 0) = true) :
    Calls Try.prog 5 #[v, .string s, .string page, .int .i64 i, .string part] w fun r w' => r = .returned (.bool true) ∧ Below w.heap.size w w' := by
  obtain ⟨T, hT⟩ : ∃ T, joinB (splitP (bytes s)) = T := ⟨_, rfl⟩
  have hTb : bytes T = bytes s ++ List.replicate (padN s.size) 0 := by rw [← hT, join_split, bytes_size]
  have hTs : T.size = s.size + padN s.size := by rw [← bytes_size T, hTb]; simp [bytes_size]
  have hp3 := (padN_lt s.size).1
  have hTe : T.extract 0 s.size = s := by
    apply bytes_inj
    rw [bytes_extract, hTb, List.drop_zero, Nat.sub_zero, ← bytes_size s, List.take_append]
    simp
  have t1 : (s.size : Int) ≤ (T.size : Int) := by omega
  have t2 : (T.size : Int) - (s.size : Int) < 4 := by omega
  have t3 : (T.size : Int) ≤ 67 := by omega
  have t1n : s.size ≤ T.size := by omega
  have HT : Hid (splitA s = splitP (bytes s) ∧ splitE s.size = 0 ∧ joinA (splitP (bytes s)) = T ∧ ckP (splitP (bytes s)) = 0) := by
    have hc := ckP_split (L := bytes s) (by rw [bytes_size]; exact hA)
    exact ⟨by rw [splitA, if_pos hA], by rw [splitE, if_pos hA], by rw [joinA, if_pos hc]; exact hT, hc⟩
  have HZ : Hid (∀ k, s.size ≤ k → (hk : k < T.size) → (T[k]'hk).toNat = 0) := fun k h1 h2 => zero_at hTb h1 h2
  clear hT hTb hTs hp3
  obtain ⟨J, hJ⟩ : ∃ J, joinB xs = J := ⟨_, rfl⟩
  have hJ16 : J.size ≤ 64 := by rw [← hJ, joinB_size (ckP_parts hB).2]; have := (ckP_parts hB).1; omega
  have HJ : Hid (joinA xs = J ∧ ckP xs = 0 ∧ splitA J = xs ∧ splitE J.size = 0) := ⟨by rw [joinA, if_pos hB]; exact hJ, hB, by rw [← hJ]; exact split_join hB, by rw [splitE, if_pos hJ16]⟩
  have hJm : J.size ≤ 9223372036854775807 := by omega
  clear hJ hB hJ16
  obtain ⟨R, hR⟩ : ∃ R, patchB page i part = R := ⟨_, rfl⟩
  have HR : Hid (patchB page i part = R ∧ patchE page i part = c) := ⟨hR, hC⟩
  clear hR hC
  go_enter Try.func5, Try.ntmps5
  go_wp2_with fail
  refine (split_is hm HT.out.1 HT.out.2.1).mono ?_
  rintro e w1 ⟨v1, rfl, s1, b1⟩
  have h := h.below b1
  go_wp2_with fail
  refine (join_is s1 HT.out.2.2.1 HT.out.2.2.2).mono ?_
  rintro e w2 ⟨rfl, b2⟩
  have h := h.below b2
  have b2 := Below.on b1 b2
  clear b1 s1
  go_wp2_with fail
  clear hTe
  go_loop [15] (fun i => ∃ k : Nat, s.size ≤ k ∧ k ≤ T.size ∧ i = .int .i64 k) (fun i => T.size - (intOf i).toNat)
  case atStart => exact ⟨s.size, Nat.le_refl _, t1n, rfl⟩
  case round =>
  obtain ⟨k, hk1, hk, rfl⟩ := hrel
  by_cases hlt : k < T.size
  · have hz := HZ.out k hk1 hlt
    have hki : (k : Int) < (T.size : Int) := by omega
    have hk0 : (0 : Int) ≤ (k : Int) := by omega
    go_wp2_with fail
    go_round
    case rel => exact ⟨k + 1, by omega, by omega, by go_num⟩
    case measure => simp [intOf]; omega
  have e4 : k = T.size := by omega
  subst e4
  go_wp2_with fail
  refine (join_is h HJ.out.1 HJ.out.2.1).mono ?_
  rintro e w3 ⟨rfl, b3⟩
  have h := h.below b3
  have b3 := Below.on b2 b3
  clear b2
  go_wp2_with fail
  refine (split_is hJm HJ.out.2.2.1 HJ.out.2.2.2).mono ?_
  rintro e w4 ⟨v4, rfl, s4, b4⟩
  have h := h.below b4
  have b4 := Below.on b3 b4
  clear b3
  go_wp2_with fail
  refine (samePages_any s4 h).mono ?_
  rintro e w5 ⟨rfl, b5⟩
  have b5 := Below.on b4 b5
  clear b4 s4
  go_wp2_with fail
  refine (patch_is HR.out.1 HR.out.2).mono ?_
  rintro e w6 ⟨rfl, b6⟩
  have b6 := Below.on b5 b6
  clear b5
  go_wp2_with fail
  refine (pbegun_any _).mono ?_
  rintro e w7 ⟨rfl, b7⟩
  have b7 := Below.on b6 b7
  go_wp2_with fail
  go_ret
  exact ⟨rfl, b7⟩

set_option maxRecDepth 100000 in
set_option maxHeartbeats 2000000 in
theorem back_yyy (v : Value) (xs : List ByteArray) (s page part : ByteArray) (i : Nat) (w : World) (h : Ss w v xs) (hm : s.size ≤ 9223372036854775807) (hA : s.size ≤ 64) (hB : ckP xs = 0) (hp : page.size = 4) (hi : i + part.size ≤ 4) :
    Calls Try.prog 5 #[v, .string s, .string page, .int .i64 i, .string part] w fun r w' => r = .returned (.bool true) ∧ Below w.heap.size w w' := by
  obtain ⟨T, hT⟩ : ∃ T, joinB (splitP (bytes s)) = T := ⟨_, rfl⟩
  have hTb : bytes T = bytes s ++ List.replicate (padN s.size) 0 := by rw [← hT, join_split, bytes_size]
  have hTs : T.size = s.size + padN s.size := by rw [← bytes_size T, hTb]; simp [bytes_size]
  have hp3 := (padN_lt s.size).1
  have hTe : T.extract 0 s.size = s := by
    apply bytes_inj
    rw [bytes_extract, hTb, List.drop_zero, Nat.sub_zero, ← bytes_size s, List.take_append]
    simp
  have t1 : (s.size : Int) ≤ (T.size : Int) := by omega
  have t2 : (T.size : Int) - (s.size : Int) < 4 := by omega
  have t3 : (T.size : Int) ≤ 67 := by omega
  have t1n : s.size ≤ T.size := by omega
  have HT : Hid (splitA s = splitP (bytes s) ∧ splitE s.size = 0 ∧ joinA (splitP (bytes s)) = T ∧ ckP (splitP (bytes s)) = 0) := by
    have hc := ckP_split (L := bytes s) (by rw [bytes_size]; exact hA)
    exact ⟨by rw [splitA, if_pos hA], by rw [splitE, if_pos hA], by rw [joinA, if_pos hc]; exact hT, hc⟩
  have HZ : Hid (∀ k, s.size ≤ k → (hk : k < T.size) → (T[k]'hk).toNat = 0) := fun k h1 h2 => zero_at hTb h1 h2
  clear hT hTb hTs hp3
  obtain ⟨J, hJ⟩ : ∃ J, joinB xs = J := ⟨_, rfl⟩
  have hJ16 : J.size ≤ 64 := by rw [← hJ, joinB_size (ckP_parts hB).2]; have := (ckP_parts hB).1; omega
  have HJ : Hid (joinA xs = J ∧ ckP xs = 0 ∧ splitA J = xs ∧ splitE J.size = 0) := ⟨by rw [joinA, if_pos hB]; exact hJ, hB, by rw [← hJ]; exact split_join hB, by rw [splitE, if_pos hJ16]⟩
  have hJm : J.size ≤ 9223372036854775807 := by omega
  clear hJ hB hJ16
  obtain ⟨R, hR⟩ : ∃ R, patchR page i part = R := ⟨_, rfl⟩
  have r1 : (patchR page i part).size = 4 := patchR_size hp hi
  have r2 : (patchR page i part).extract i (i + part.size) = part := patchR_mid hp hi
  have r3 : (patchR page i part).extract 0 i = page.extract 0 i := patchR_head hp hi
  have r4 : (patchR page i part).extract (i + part.size) (patchR page i part).size = page.extract (i + part.size) page.size := patchR_tail hp hi
  rw [hR] at r1 r2 r3 r4
  have hpe : patchE page (i : Int) part = 0 := by unfold patchE; rw [if_pos hp, if_pos (by omega)]
  have HR : Hid (patchB page (i : Int) part = R ∧ patchE page (i : Int) part = 0) := ⟨by rw [patchB, if_pos hpe, Int.toNat_natCast]; exact hR, hpe⟩
  have q1 : ((R.size : Int) != (page.size : Int)) = false := by simp; omega
  have q2 : (R.size : Int) ≤ 4 := by omega
  have q3 : (i : Int) + (part.size : Int) ≤ (R.size : Int) := by omega
  have q4 : (i : Int) ≤ (R.size : Int) := by omega
  have q5 : (i : Int) + (part.size : Int) ≤ (page.size : Int) := by omega
  have q6 : (i : Int) ≤ (page.size : Int) := by omega
  have q7 : decide ((i : Int) < 0) = false := by simp
  have q8 : decide ((R.size : Int) < (i : Int) + (part.size : Int)) = false := by simp; omega
  have q9 : (page.size : Int) ≤ 4 := by omega
  have hwr : IntKind.i64.wrap ((i : Int) + (part.size : Int)) = (i : Int) + (part.size : Int) := by rw [IntKind.wrap_i64]; omega
  have tn : ((i : Int) + (part.size : Int)).toNat = i + part.size := by omega
  have z0 : (0 : Int) ≤ (i : Int) := by omega
  have z1 : (0 : Int) ≤ (i : Int) + (part.size : Int) := by omega
  have z2 : (i : Int) ≤ (i : Int) + (part.size : Int) := by omega
  have m1 : i ≤ R.size := by omega
  have m2 : i + part.size ≤ R.size := by omega
  have m3 : i ≤ page.size := by omega
  have m4 : i + part.size ≤ page.size := by omega
  clear hR r1 hpe hp hi
  go_enter Try.func5, Try.ntmps5
  go_wp2_with fail
  refine (split_is hm HT.out.1 HT.out.2.1).mono ?_
  rintro e w1 ⟨v1, rfl, s1, b1⟩
  have h := h.below b1
  go_wp2_with fail
  refine (join_is s1 HT.out.2.2.1 HT.out.2.2.2).mono ?_
  rintro e w2 ⟨rfl, b2⟩
  have h := h.below b2
  have b2 := Below.on b1 b2
  clear b1 s1
  go_wp2_with fail
  clear hTe
  go_loop [15] (fun i => ∃ k : Nat, s.size ≤ k ∧ k ≤ T.size ∧ i = .int .i64 k) (fun i => T.size - (intOf i).toNat)
  case atStart => exact ⟨s.size, Nat.le_refl _, t1n, rfl⟩
  case round =>
  obtain ⟨k, hk1, hk, rfl⟩ := hrel
  by_cases hlt : k < T.size
  · have hz := HZ.out k hk1 hlt
    have hki : (k : Int) < (T.size : Int) := by omega
    have hk0 : (0 : Int) ≤ (k : Int) := by omega
    go_wp2_with fail
    go_round
    case rel => exact ⟨k + 1, by omega, by omega, by go_num⟩
    case measure => simp [intOf]; omega
  have e4 : k = T.size := by omega
  subst e4
  go_wp2_with fail
  refine (join_is h HJ.out.1 HJ.out.2.1).mono ?_
  rintro e w3 ⟨rfl, b3⟩
  have h := h.below b3
  have b3 := Below.on b2 b3
  clear b2
  go_wp2_with fail
  refine (split_is hJm HJ.out.2.2.1 HJ.out.2.2.2).mono ?_
  rintro e w4 ⟨v4, rfl, s4, b4⟩
  have h := h.below b4
  have b4 := Below.on b3 b4
  clear b3
  go_wp2_with fail
  refine (samePages_any s4 h).mono ?_
  rintro e w5 ⟨rfl, b5⟩
  have b5 := Below.on b4 b5
  clear b4 s4
  go_wp2_with fail
  refine (patch_is HR.out.1 HR.out.2).mono ?_
  rintro e w6 ⟨rfl, b6⟩
  have b6 := Below.on b5 b6
  clear b5
  go_wp2_with fail
  go_region_held3 (fun _ => True) (trivial) (first | (go_at_call 14; refine (pbegun_any _).mono ?_; rintro e w7 ⟨rfl, b7⟩))
  go_wp2
  go_ret
  exact ⟨rfl, Below.on (below_drew' b6) b7⟩

end Go.Proofs.Ytehleeibgkpjmaa
