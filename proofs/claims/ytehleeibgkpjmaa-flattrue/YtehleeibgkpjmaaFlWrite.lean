/- Contracts of Write, Resize, and of the document's FlatWrite, FlatResize. -/
import Derived.Test.YtehleeibgkpjmaaFlOps
namespace Go.Proofs.Ytehleeibgkpjmaa
open Go.RowKit
set_option maxRecDepth 20000

theorem one_ok {page : ByteArray} (h : page.size = 4) : ckP [page] = 0 := by unfold ckP; simp [h]
theorem one_bad {page : ByteArray} (h : page.size ≠ 4) : ckP [page] = 1 := by unfold ckP; simp [h]
theorem Ss_one (w : World) (g : Nat) (hg : g = w.heap.size) (a : ByteArray) : Ss (w.alloc (.cells #[.string a] 9)) (.slice (some ⟨g, 0, none⟩) 1 1) [a] := by subst hg; exact Ss_new w [a] 1 rfl (by decide)

theorem AnsS.put {w w1 : World} {g n cap k : Nat} {x : ByteArray} {xs ys : List ByteArray} (h : w1.ownsRow w.heap.size 9 1 (.slice (some ⟨g, 0, none⟩) n cap) n (xs.map Value.string)) (hb : Below w.heap.size w w1) (hy : xs.set k x = ys) :
    AnsS w ys 0 (.returned (.tuple #[.slice (some ⟨g, 0, none⟩) n cap, .int .i64 0])) (w1.setCell ⟨g, k, none⟩ (.string x)) := by
  subst hy
  exact ⟨_, rfl, Ss_of_own (owns_put h k x), hb.setCell (owns_ge h) _⟩
theorem AnsS.made {w w1 : World} {g n cap : Nat} {xs ys : List ByteArray} (h : w1.ownsRow w.heap.size 9 1 (.slice (some ⟨g, 0, none⟩) n cap) n (xs.map Value.string)) (hb : Below w.heap.size w w1) (hy : xs = ys) :
    AnsS w ys 0 (.returned (.tuple #[.slice (some ⟨g, 0, none⟩) n cap, .int .i64 0])) w1 := by
  subst hy
  exact ⟨_, rfl, Ss_of_own h, hb⟩

theorem fwrite_bad (v : Value) (xs : List ByteArray) (n E : Int) (page : ByteArray) (w : World) (h : Ss w v xs) (hE : atE xs n = E) (hne : (E != 0) = true) :
    Calls Try.prog 22 #[v, .int .i64 n, .string page] w (AnsS w [] E) := by
  have HE : Hid (atE xs n = E) := hE
  clear hE
  go_enter Try.func22, Try.ntmps22
  go_wp2_with (go_at_call 40; refine (checkAt_is h HE.out).mono ?_; rintro e w' ⟨rfl, hw⟩; subst hw)
  go_ret2
  exact AnsS.bad _ rfl

theorem fwrite_form (v : Value) (xs : List ByteArray) (n : Int) (page : ByteArray) (w : World) (h : Ss w v xs) (hE : atE xs n = 0) (hp : page.size ≠ 4) :
    Calls Try.prog 22 #[v, .int .i64 n, .string page] w (AnsS w [] 1) := by
  have HE : Hid (atE xs n = 0 ∧ ckP [page] = 1) := ⟨hE, one_bad hp⟩
  clear hE
  go_enter Try.func22, Try.ntmps22
  go_wp2_with (first | (go_at_call 40; refine (checkAt_is h HE.out.1).mono ?_; rintro e w' ⟨rfl, hw⟩; subst hw) | (go_at_call 15; refine (pcheck_is (Ss_one _ _ (by simp) page) HE.out.2).mono ?_; rintro e w2 ⟨rfl, hw⟩; subst hw))
  go_ret2
  exact ⟨_, rfl, Ss.nil _, (Below.refl _ _).alloc (Nat.le_refl _) _⟩

set_option maxHeartbeats 1000000 in
theorem fwrite_at (ao : Option Addr) (m cap k : Nat) (xs : List ByteArray) (page : ByteArray) (w : World) (h : Ss w (.slice ao m cap) xs) (hm : xs.length = m) (h16 : m ≤ 16) (hk : k < m) (hE : atE xs (k : Int) = 0) (hp : page.size = 4) :
    Calls Try.prog 22 #[.slice ao m cap, .int .i64 k, .string page] w (AnsS w (xs.set k page) 0) := by
  have HE : Hid (atE xs (k : Int) = 0 ∧ ckP [page] = 0) := ⟨hE, one_ok hp⟩
  have HM : Hid (xs.length = m) := hm
  have HF : Hid ((frR xs m).set k page = xs.set k page) := by show _ = _; rw [← hm, frR_all]
  have hki : (k : Int) < (m : Int) := by omega
  have h1 := h.past (.cells #[.string page] 9)
  clear hE hm hp
  go_enter Try.func22, Try.ntmps22
  go_wp2_with (first | (go_at_call 40; refine (checkAt_is h HE.out.1).mono ?_; rintro e w' ⟨rfl, hw⟩; subst hw) | (go_at_call 15; refine (pcheck_is (Ss_one _ _ (by simp) page) HE.out.2).mono ?_; rintro e w2 ⟨rfl, hw⟩; subst hw) | (go_at_call 41; refine (firstPages_any _ xs _ _ h1 (by rw [HM.out]; exact h16) (by omega) (by omega) m (by omega)).mono ?_; rintro e w3 ⟨g, cap', rfl, HO, b3⟩; obtain ⟨u, hcl⟩ := owns_cell HO.out k hk; have hfr := HO.out.frozenAt k))
  go_ret2
  refine ⟨_, rfl, ?_, ((((Below.refl _ w').alloc (Nat.le_refl _) _).trans (b3.mono (by simp))).setCell (by have := owns_ge HO.out; simp at this ⊢; omega) _)⟩
  rw [← HF.out]
  exact Ss_of_own (owns_put HO.out k page)

theorem fwrite_any (v : Value) (xs : List ByteArray) (n : Int) (page : ByteArray) (w : World) (h : Ss w v xs) :
    Calls Try.prog 22 #[v, .int .i64 n, .string page] w (AnsS w (fwA xs n page) (fwE xs n page)) := by
  by_cases hE : atE xs n = 0
  · by_cases hp : page.size = 4
    · have e : fwE xs n page = 0 := by unfold fwE; rw [if_pos hE, if_pos hp]
      rw [fwA, if_pos e, e]
      obtain ⟨hK, h0, hn⟩ := atE_parts hE
      obtain ⟨k, rfl⟩ := Int.eq_ofNat_of_zero_le h0
      obtain ⟨ao, cap, rfl⟩ := h.form
      rw [Int.toNat_natCast]
      exact fwrite_at ao _ cap k xs page w h rfl (ckP_parts hK).1 (by omega) hE hp
    · have e : fwE xs n page = 1 := by unfold fwE; rw [if_pos hE, if_neg hp]
      rw [fwA, if_neg (by omega), e]
      exact fwrite_form v xs n page w h hE hp
  · have e : fwE xs n page = atE xs n := by unfold fwE; rw [if_neg hE]
    rw [fwA, if_neg (by rw [e]; exact hE), e]
    exact fwrite_bad v xs n _ page w h rfl (by simpa using hE)
theorem fwrite_is {v : Value} {xs : List ByteArray} {n : Int} {page : ByteArray} {w : World} (h : Ss w v xs) {ys : List ByteArray} {c : Int} (hy : fwA xs n page = ys) (hc : fwE xs n page = c) :
    Calls Try.prog 22 #[v, .int .i64 n, .string page] w (AnsS w ys c) := by subst hy; subst hc; exact fwrite_any v xs n page w h

theorem fresize_bad (v : Value) (xs : List ByteArray) (g E : Int) (w : World) (h : Ss w v xs) (hE : ckP xs = E) (hne : (E != 0) = true) :
    Calls Try.prog 23 #[v, .int .i64 g] w (AnsS w [] E) := by
  have HE : Hid (ckP xs = E) := hE
  clear hE
  go_enter Try.func23, Try.ntmps23
  go_wp2_with (go_at_call 15; refine (pcheck_is h HE.out).mono ?_; rintro e w' ⟨rfl, hw⟩; subst hw)
  go_ret2
  exact AnsS.bad _ rfl
theorem fresize_out (v : Value) (xs : List ByteArray) (g : Int) (w : World) (h : Ss w v xs) (hE : ckP xs = 0) (hg : ¬ (0 ≤ g ∧ g ≤ 16)) :
    Calls Try.prog 23 #[v, .int .i64 g] w (AnsS w [] 3) := by
  have HE : Hid (ckP xs = 0) := hE
  clear hE
  by_cases h0 : g < 0
  · clear hg
    go_enter Try.func23, Try.ntmps23
    go_wp2_with (go_at_call 15; refine (pcheck_is h HE.out).mono ?_; rintro e w' ⟨rfl, hw⟩; subst hw)
    go_ret2
    exact AnsS.bad _ rfl
  · have h16 : 16 < g := by omega
    clear hg
    go_enter Try.func23, Try.ntmps23
    go_wp2_with (go_at_call 15; refine (pcheck_is h HE.out).mono ?_; rintro e w' ⟨rfl, hw⟩; subst hw)
    go_ret2
    exact AnsS.bad _ rfl
theorem fresize_yes (v : Value) (xs : List ByteArray) (g : Int) (w : World) (h : Ss w v xs) (hE : ckP xs = 0) (hg0 : 0 ≤ g) (hg : g ≤ 16) (R : List ByteArray) (hR : frR xs g.toNat = R) :
    Calls Try.prog 23 #[v, .int .i64 g] w (AnsS w R 0) := by
  have HE : Hid (ckP xs = 0 ∧ xs.length ≤ 16 ∧ frR xs g.toNat = R) := ⟨hE, (ckP_parts hE).1, hR⟩
  have h0 : ¬ g < 0 := by omega
  clear hE hR
  go_enter Try.func23, Try.ntmps23
  go_wp2_with (first | (go_at_call 15; refine (pcheck_is h HE.out.1).mono ?_; rintro e w' ⟨rfl, hw⟩; subst hw) | (go_at_call 41; refine (firstPages_any _ xs _ _ h HE.out.2.1 (by omega) (by omega) g.toNat rfl).mono ?_; rintro e w3 ⟨b, cap', rfl, HO, b3⟩))
  go_ret2
  exact AnsS.made HO.out b3 HE.out.2.2
theorem fresize_any (v : Value) (xs : List ByteArray) (g : Int) (w : World) (h : Ss w v xs) :
    Calls Try.prog 23 #[v, .int .i64 g] w (AnsS w (frA xs g) (frE xs g)) := by
  by_cases hE : ckP xs = 0
  · by_cases hg : 0 ≤ g ∧ g ≤ 16
    · have e : frE xs g = 0 := by unfold frE; rw [if_pos hE, if_pos hg]
      rw [frA, if_pos e, e]
      exact fresize_yes v xs g w h hE hg.1 hg.2 _ rfl
    · have e : frE xs g = 3 := by unfold frE; rw [if_pos hE, if_neg hg]
      rw [frA, if_neg (by omega), e]
      exact fresize_out v xs g w h hE hg
  · have e : frE xs g = ckP xs := by unfold frE; rw [if_neg hE]
    rw [frA, if_neg (by rw [e]; exact hE), e]
    exact fresize_bad v xs g _ w h rfl (by simpa using hE)
theorem fresize_is {v : Value} {xs : List ByteArray} {g : Int} {w : World} (h : Ss w v xs) {ys : List ByteArray} {c : Int} (hy : frA xs g = ys) (hc : frE xs g = c) :
    Calls Try.prog 23 #[v, .int .i64 g] w (AnsS w ys c) := by subst hy; subst hc; exact fresize_any v xs g w h
end Go.Proofs.Ytehleeibgkpjmaa
