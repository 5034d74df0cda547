/- Contract of pagesBegun: it answers true; the walks of PagesTells and PagesPatches. -/
import Derived.Test.YtehleeibgkpjmaaPgSplitOf
import Derived.Test.YtehleeibgkpjmaaPgJoin
import Derived.Test.YtehleeibgkpjmaaPgPatch
namespace Go.Proofs.Ytehleeibgkpjmaa
open Go.RowKit
set_option maxRecDepth 20000

theorem Ss_new1 (w : World) (g : Nat) (hg : g = w.heap.size) (a : ByteArray) : Ss (w.alloc (.cells #[.string a] 9)) (.slice (some ⟨g, 0, none⟩) 1 1) [a] := by subst hg; exact Ss_new w [a] 1 rfl (by decide)
theorem Ss_new2 (w : World) (g : Nat) (hg : g = w.heap.size) (a b : ByteArray) : Ss (w.alloc (.cells #[.string a, .string b] 9)) (.slice (some ⟨g, 0, none⟩) 2 2) [a, b] := by subst hg; exact Ss_new w [a, b] 2 rfl (by decide)

theorem split6 : splitA ⟨#[97, 98, 99, 100, 101, 102]⟩ = [⟨#[97, 98, 99, 100]⟩, ⟨#[101, 102, 0, 0]⟩] := by rfl
theorem join2 : joinA [⟨#[97, 98, 99, 100]⟩, ⟨#[101, 102, 0, 0]⟩] = ⟨#[97, 98, 99, 100, 101, 102, 0, 0]⟩ := by rfl
theorem patch1 : patchB ⟨#[97, 98, 99, 100]⟩ 1 ⟨#[120, 121]⟩ = ⟨#[97, 120, 121, 100]⟩ := by rfl
theorem patch3 : patchB ⟨#[97, 98, 99, 100]⟩ 3 ⟨#[120, 121]⟩ = ByteArray.empty := by rfl

theorem zero_lit (w : World) : Calls Try.prog 16 #[] w fun r w' => r = .returned (.string ⟨#[0, 0, 0, 0]⟩) ∧ Below w.heap.size w w' := zero_any w

set_option maxHeartbeats 1000000 in
theorem pbegun_any (w : World) : Calls Try.prog 14 #[] w fun r w' => r = .returned (.bool true) ∧ Below w.heap.size w w' := by
  go_enter Try.func14, Try.ntmps14
  go_wp2_with fail
  refine (split_is (by decide) split6 (c := 0) (by decide)).mono ?_
  rintro e w1 ⟨v1, rfl, s1, b1⟩
  go_wp2_with fail
  refine (join_is s1 join2 (c := 0) (by decide)).mono ?_
  rintro e w2 ⟨rfl, b2⟩
  have s1 := s1.below b2
  have b2 := Below.on b1 b2
  clear b1
  go_wp2_with fail
  refine (patch_is patch1 (c := 0) (by decide)).mono ?_
  rintro e w3 ⟨rfl, b3⟩
  have s1 := s1.below b3
  have b3 := Below.on b2 b3
  clear b2
  go_wp2_with fail
  refine (patch_is patch3 (c := 3) (by decide)).mono ?_
  rintro e w4 ⟨rfl, b4⟩
  have s1 := s1.below b4
  have b4 := Below.on b3 b4
  clear b3
  go_wp2_with fail
  refine (samePages_any (s1.past _) (Ss_new2 _ _ (by simp) _ _)).mono ?_
  rintro e w5 ⟨rfl, b5⟩
  have b5 : Below w.heap.size w w5 := (b4.alloc b4.size _).trans (b5.mono (by have := b4.size; simp; omega))
  clear b4 s1
  go_wp2_with fail
  refine (zero_lit _).mono ?_
  rintro e w6 ⟨rfl, b6⟩
  have b6 := Below.on b5 b6
  clear b5
  go_wp2_with fail
  refine (pcheck_is (Ss_new1 _ _ (by simp) _) (c := 1) (by decide)).mono ?_
  rintro e w7 ⟨rfl, hw⟩
  subst hw
  go_wp2_with fail
  go_ret
  exact ⟨rfl, b6.alloc b6.size _⟩

set_option maxHeartbeats 1000000 in
theorem ptells_at (v : Value) (xs : List ByteArray) (s : ByteArray) (w : World) (h : Ss w v xs) (hm : s.size ≤ 9223372036854775807) (E : Int) (hE : ckP xs = E) (hE0 : (E == 0) = true ∨ (E == 0) = false) :
    Calls Try.prog 3 #[v, .string s] w fun r w' => r = .returned (.bool true) ∧ Below w.heap.size w w' := by
  obtain ⟨SA, hSA⟩ : ∃ y, splitA s = y := ⟨_, rfl⟩
  obtain ⟨SE, hSE⟩ : ∃ y, splitE s.size = y := ⟨_, rfl⟩
  obtain ⟨J, hJ⟩ : ∃ y, joinA xs = y := ⟨_, rfl⟩
  have H : Hid (splitA s = SA ∧ splitE s.size = SE ∧ joinA xs = J ∧ ckP xs = E) := ⟨hSA, hSE, hJ, hE⟩
  clear hSA hSE hJ hE
  rcases hE0 with h0 | h0
  · have hb : Hid (joinB xs = J) := by
      show _ = _
      have e := H.out.2.2.1
      have e0 : ckP xs = 0 := by rw [H.out.2.2.2]; simpa using h0
      rw [joinA, if_pos e0] at e
      exact e
    have H0 : Hid (ckP xs = 0) := by show _ = _; rw [H.out.2.2.2]; simpa using h0
    go_enter Try.func3, Try.ntmps3
    go_wp2_with fail
    refine (split_is hm H.out.1 H.out.2.1).mono ?_
    rintro e w1 ⟨v1, rfl, s1, b1⟩
    have h := h.below b1
    go_wp2_with fail
    refine (join_is h H.out.2.2.1 H.out.2.2.2).mono ?_
    rintro e w2 ⟨rfl, b2⟩
    have h := h.below b2
    have s1 := s1.below b2
    have b2 := Below.on b1 b2
    clear b1
    go_wp2_with fail
    refine (splitOf_is hm H.out.1 H.out.2.1).mono ?_
    rintro e w3 ⟨v3, rfl, s3, b3⟩
    have h := h.below b3
    have s1 := s1.below b3
    have b3 := Below.on b2 b3
    clear b2
    go_wp2_with fail
    refine (checkPages_is h H.out.2.2.2).mono ?_
    rintro e w4 ⟨rfl, hw⟩
    subst hw
    go_wp2_with fail
    refine (joinOf_is h H0.out hb.out).mono ?_
    rintro e w4 ⟨rfl, hw⟩
    subst hw
    go_wp2_with fail
    refine (pbegun_any _).mono ?_
    rintro e w5 ⟨rfl, b5⟩
    have h := h.below b5
    have s1 := s1.below b5
    have s3 := s3.below b5
    have b5 := Below.on b3 b5
    clear b3
    go_wp2_with fail
    refine (pcheck_is h H.out.2.2.2).mono ?_
    rintro e w6 ⟨rfl, hw⟩
    subst hw
    go_wp2_with fail
    refine (zero_lit _).mono ?_
    rintro e w6 ⟨rfl, b6⟩
    have s1 := s1.below b6
    have s3 := s3.below b6
    have b6 := Below.on b5 b6
    clear b5
    go_wp2_with fail
    refine (zeroPage_any _).mono ?_
    rintro e w7 ⟨rfl, hw⟩
    subst hw
    go_wp2_with fail
    refine (samePages_any s1 s3).mono ?_
    rintro e w8 ⟨rfl, b8⟩
    have b8 := Below.on b6 b8
    go_wp2_with fail
    go_ret
    exact ⟨rfl, b8⟩
  · have hJe : J = ⟨#[]⟩ := by
      have e := H.out.2.2.1
      have e0 : ckP xs ≠ 0 := by rw [H.out.2.2.2]; simpa using h0
      rw [joinA, if_neg e0] at e
      exact e.symm
    subst hJe
    go_enter Try.func3, Try.ntmps3
    go_wp2_with fail
    refine (split_is hm H.out.1 H.out.2.1).mono ?_
    rintro e w1 ⟨v1, rfl, s1, b1⟩
    have h := h.below b1
    go_wp2_with fail
    refine (join_is h H.out.2.2.1 H.out.2.2.2).mono ?_
    rintro e w2 ⟨rfl, b2⟩
    have h := h.below b2
    have s1 := s1.below b2
    have b2 := Below.on b1 b2
    clear b1
    go_wp2_with fail
    refine (splitOf_is hm H.out.1 H.out.2.1).mono ?_
    rintro e w3 ⟨v3, rfl, s3, b3⟩
    have h := h.below b3
    have s1 := s1.below b3
    have b3 := Below.on b2 b3
    clear b2
    go_wp2_with fail
    refine (checkPages_is h H.out.2.2.2).mono ?_
    rintro e w4 ⟨rfl, hw⟩
    subst hw
    go_wp2_with fail
    refine (pbegun_any _).mono ?_
    rintro e w5 ⟨rfl, b5⟩
    have h := h.below b5
    have s1 := s1.below b5
    have s3 := s3.below b5
    have b5 := Below.on b3 b5
    clear b3
    go_wp2_with fail
    refine (pcheck_is h H.out.2.2.2).mono ?_
    rintro e w6 ⟨rfl, hw⟩
    subst hw
    go_wp2_with fail
    refine (zero_lit _).mono ?_
    rintro e w6 ⟨rfl, b6⟩
    have s1 := s1.below b6
    have s3 := s3.below b6
    have b6 := Below.on b5 b6
    clear b5
    go_wp2_with fail
    refine (zeroPage_any _).mono ?_
    rintro e w7 ⟨rfl, hw⟩
    subst hw
    go_wp2_with fail
    refine (samePages_any s1 s3).mono ?_
    rintro e w8 ⟨rfl, b8⟩
    have b8 := Below.on b6 b8
    go_wp2_with fail
    go_ret
    exact ⟨rfl, b8⟩

theorem ptells_any (v : Value) (xs : List ByteArray) (s : ByteArray) (w : World) (h : Ss w v xs) (hm : s.size ≤ 9223372036854775807) :
    Calls Try.prog 3 #[v, .string s] w fun r w' => r = .returned (.bool true) ∧ Below w.heap.size w w' :=
  ptells_at v xs s w h hm _ rfl (by cases (ckP xs == 0) <;> simp)

theorem ppatches_any (page : ByteArray) (i : Int) (s : ByteArray) (w : World) :
    Calls Try.prog 4 #[.string page, .int .i64 i, .string s] w fun r w' => r = .returned (.bool true) ∧ Below w.heap.size w w' := by
  obtain ⟨p, hp⟩ : ∃ y, patchB page i s = y := ⟨_, rfl⟩
  obtain ⟨c, hc⟩ : ∃ y, patchE page i s = y := ⟨_, rfl⟩
  have H : Hid (patchB page i s = p ∧ patchE page i s = c) := ⟨hp, hc⟩
  clear hp hc
  go_enter Try.func4, Try.ntmps4
  go_wp2_with fail
  refine (patch_is H.out.1 H.out.2).mono ?_
  rintro e w1 ⟨rfl, b1⟩
  go_wp2_with fail
  refine (patchOf_is H.out.1 H.out.2).mono ?_
  rintro e w2 ⟨rfl, b2⟩
  have b2 := Below.on b1 b2
  go_wp2_with fail
  refine (pbegun_any _).mono ?_
  rintro e w3 ⟨rfl, b3⟩
  have b3 := Below.on b2 b3
  go_wp2_with fail
  go_ret
  exact ⟨rfl, b3⟩
end Go.Proofs.Ytehleeibgkpjmaa
