/- Contract of flatBegun: it answers true; the walk of FlatTells; plain laws for FlatTrue. -/
import Derived.Test.YtehleeibgkpjmaaFlRef
namespace Go.Proofs.Ytehleeibgkpjmaa
open Go.RowKit
set_option maxRecDepth 20000

theorem Ss_two (w : World) (g : Nat) (hg : g = w.heap.size) (a b : ByteArray) : Ss (w.alloc (.cells #[.string a, .string b] 9)) (.slice (some ⟨g, 0, none⟩) 2 2) [a, b] := by subst hg; exact Ss_new w [a, b] 2 rfl (by decide)
theorem Ss_three (w : World) (g : Nat) (hg : g = w.heap.size) (a b c : ByteArray) : Ss (w.alloc (.cells #[.string a, .string b, .string c] 9)) (.slice (some ⟨g, 0, none⟩) 3 3) [a, b, c] := by subst hg; exact Ss_new w [a, b, c] 3 rfl (by decide)

theorem fr1 : freadA [⟨#[97, 98, 99, 100]⟩] 0 = ⟨#[97, 98, 99, 100]⟩ := by rfl
theorem fw1 : fwA [⟨#[97, 98, 99, 100]⟩, ⟨#[101, 102, 103, 104]⟩] 1 ⟨#[120, 120, 120, 120]⟩ = [⟨#[97, 98, 99, 100]⟩, ⟨#[120, 120, 120, 120]⟩] := by rfl
theorem fz1 : frA [⟨#[97, 98, 99, 100]⟩, ⟨#[120, 120, 120, 120]⟩] 3 = [⟨#[97, 98, 99, 100]⟩, ⟨#[120, 120, 120, 120]⟩, ⟨#[0, 0, 0, 0]⟩] := by rfl
theorem fr0 : freadA [] 0 = ByteArray.empty := by rfl

set_option maxHeartbeats 1000000 in
theorem fbegun_any (w : World) : Calls Try.prog 27 #[] w fun r w' => r = .returned (.bool true) ∧ Below w.heap.size w w' := by
  go_enter Try.func27, Try.ntmps27
  go_wp2_with fail
  refine (fread_is (Ss_one _ _ (by simp) _) fr1 (c := 0) (by decide)).mono ?_
  rintro e w1 ⟨rfl, hw⟩
  subst hw
  go_wp2_with fail
  refine (fwrite_is (Ss_two _ _ (by simp) _ _) fw1 (c := 0) (by decide)).mono ?_
  rintro e w2 ⟨v2, rfl, s2, b2⟩
  have b2 : Below w.heap.size w w2 := (((Below.refl _ w).alloc (Nat.le_refl _) _).alloc (by simp) _).trans (b2.mono (by simp; omega))
  go_wp2_with fail
  refine (fresize_is s2 fz1 (c := 0) (by decide)).mono ?_
  rintro e w3 ⟨v3, rfl, s3, b3⟩
  have b3 := Below.on b2 b3
  clear b2 s2
  go_wp2_with fail
  refine (fread_is (Ss.nil _) fr0 (c := 3) (by decide)).mono ?_
  rintro e w4 ⟨rfl, hw⟩
  subst hw
  go_wp2_with fail
  refine (samePages_any (s3.past _) (Ss_three _ _ (by simp) _ _ _)).mono ?_
  rintro e w5 ⟨rfl, b5⟩
  have b5 : Below w.heap.size w w5 := (b3.alloc b3.size _).trans (b5.mono (by have := b3.size; simp; omega))
  go_wp2_with fail
  go_ret
  exact ⟨rfl, b5⟩

set_option maxHeartbeats 1000000 in
theorem ftells_any (v : Value) (xs : List ByteArray) (n : Int) (page : ByteArray) (g : Int) (w : World) (h : Ss w v xs) :
    Calls Try.prog 6 #[v, .int .i64 n, .string page, .int .i64 g] w fun r w' => r = .returned (.bool true) ∧ Below w.heap.size w w' := by
  obtain ⟨RA, h1⟩ : ∃ y, freadA xs n = y := ⟨_, rfl⟩
  obtain ⟨RE, h2⟩ : ∃ y, atE xs n = y := ⟨_, rfl⟩
  obtain ⟨WA, h3⟩ : ∃ y, fwA xs n page = y := ⟨_, rfl⟩
  obtain ⟨WE, h4⟩ : ∃ y, fwE xs n page = y := ⟨_, rfl⟩
  obtain ⟨ZA, h5⟩ : ∃ y, frA xs g = y := ⟨_, rfl⟩
  obtain ⟨ZE, h6⟩ : ∃ y, frE xs g = y := ⟨_, rfl⟩
  have H : Hid (freadA xs n = RA ∧ atE xs n = RE ∧ fwA xs n page = WA ∧ fwE xs n page = WE ∧ frA xs g = ZA ∧ frE xs g = ZE) := ⟨h1, h2, h3, h4, h5, h6⟩
  clear h1 h2 h3 h4 h5 h6
  go_enter Try.func6, Try.ntmps6
  go_wp2_with fail
  refine (fread_is h H.out.1 H.out.2.1).mono ?_
  rintro e w1 ⟨rfl, hw⟩
  subst hw
  go_wp2_with fail
  refine (fwrite_is h H.out.2.2.1 H.out.2.2.2.1).mono ?_
  rintro e w2 ⟨v2, rfl, s2, b2⟩
  have h := h.below b2
  go_wp2_with fail
  refine (fresize_is h H.out.2.2.2.2.1 H.out.2.2.2.2.2).mono ?_
  rintro e w3 ⟨v3, rfl, s3, b3⟩
  have h := h.below b3
  have s2 := s2.below b3
  have b3 := Below.on b2 b3
  clear b2
  go_wp2_with fail
  refine (freadOf_is h H.out.1 H.out.2.1).mono ?_
  rintro e w4 ⟨rfl, hw⟩
  subst hw
  go_wp2_with fail
  refine (fwriteOf_is h H.out.2.2.1 H.out.2.2.2.1).mono ?_
  rintro e w5 ⟨v5, rfl, s5, b5⟩
  have h := h.below b5
  have s2 := s2.below b5
  have s3 := s3.below b5
  have b5 := Below.on b3 b5
  clear b3
  go_wp2_with fail
  refine (fresizeOf_is h H.out.2.2.2.2.1 H.out.2.2.2.2.2).mono ?_
  rintro e w6 ⟨v6, rfl, s6, b6⟩
  have s2 := s2.below b6
  have s3 := s3.below b6
  have s5 := s5.below b6
  have b6 := Below.on b5 b6
  clear b5
  go_wp2_with fail
  refine (fbegun_any _).mono ?_
  rintro e w7 ⟨rfl, b7⟩
  have s2 := s2.below b7
  have s3 := s3.below b7
  have s5 := s5.below b7
  have s6 := s6.below b7
  have b7 := Below.on b6 b7
  clear b6
  go_wp2_with fail
  refine (samePages_any s2 s5).mono ?_
  rintro e w8 ⟨rfl, b8⟩
  have s3 := s3.below b8
  have s6 := s6.below b8
  have b8 := Below.on b7 b8
  clear b7
  go_wp2_with fail
  refine (samePages_any s3 s6).mono ?_
  rintro e w9 ⟨rfl, b9⟩
  have b9 := Below.on b8 b9
  go_wp2_with fail
  go_ret
  exact ⟨rfl, b9⟩

/- Plain laws. -/
theorem ckP_of {xs : List ByteArray} (h : xs.length ≤ 16) (ha : ∀ x ∈ xs, x.size = 4) : ckP xs = 0 := by
  refine ckP_ok h fun j hj => ?_
  have : xs.getD j ByteArray.empty = xs[j] := by simp [List.getD, hj]
  rw [this]; exact ha _ (List.getElem_mem hj)
theorem ckP_set {xs : List ByteArray} {k : Nat} {page : ByteArray} (h : ckP xs = 0) (hp : page.size = 4) : ckP (xs.set k page) = 0 := by
  obtain ⟨h16, h4⟩ := ckP_parts h
  refine ckP_of (by simpa using h16) fun x hx => ?_
  rcases List.mem_or_eq_of_mem_set hx with h | h
  · exact h4 x h
  · rw [h]; exact hp
theorem ckP_frR {xs : List ByteArray} {g : Nat} (h : ckP xs = 0) (hg : g ≤ 16) : ckP (frR xs g) = 0 := by
  obtain ⟨h16, h4⟩ := ckP_parts h
  refine ckP_of (by rw [frR_length]; exact hg) fun x hx => ?_
  unfold frR at hx
  rcases List.mem_append.1 hx with h | h
  · exact h4 x (List.mem_of_mem_take h)
  · rw [(List.mem_replicate.1 h).2]; rfl
theorem frR_back {xs : List ByteArray} {g : Nat} (hg : xs.length ≤ g) : frR (frR xs g) xs.length = xs := by
  unfold frR
  rw [List.take_of_length_le (l := xs) hg, List.take_append]
  simp
theorem atE_set {xs : List ByteArray} {j : Nat} {page : ByteArray} {k : Int} (h : ckP xs = 0) (hp : page.size = 4) : atE (xs.set j page) k = atE xs k := by
  unfold atE
  rw [ckP_set h hp, h, List.length_set]
theorem fread_set_same {xs : List ByteArray} {j : Nat} {page : ByteArray} (h : ckP xs = 0) (hp : page.size = 4) (hj : j < xs.length) : freadA (xs.set j page) (j : Int) = page ∧ atE (xs.set j page) (j : Int) = 0 := by
  have e : atE (xs.set j page) (j : Int) = 0 := by rw [atE_set h hp]; exact atE_in h ⟨by omega, by omega⟩
  refine ⟨?_, e⟩
  rw [freadA, if_pos e, Int.toNat_natCast]
  simp [List.getD, hj]
theorem fread_set_other {xs : List ByteArray} {j : Nat} {page : ByteArray} {k : Int} (h : ckP xs = 0) (hp : page.size = 4) (hk : k ≠ (j : Int)) : freadA (xs.set j page) k = freadA xs k := by
  unfold freadA
  rw [atE_set h hp]
  split
  · rename_i e
    obtain ⟨_, h0, h1⟩ := atE_parts e
    have hne : j ≠ k.toNat := by omega
    simp [List.getD, List.getElem?_set_ne hne]
  · rfl
end Go.Proofs.Ytehleeibgkpjmaa
