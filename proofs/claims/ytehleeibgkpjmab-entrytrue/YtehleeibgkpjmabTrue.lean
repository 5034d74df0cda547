/- The walk of EntryTrue. -/
import Derived.Test.YtehleeibgkpjmabETWalk
namespace Go.Proofs.Ytehleeibgkpjmab
open Go.RowKit
set_option maxRecDepth 20000

theorem choose_four (c : Int) (w : World) (hlo : -9223372036854775808 ≤ c) (hhi : c ≤ 9223372036854775807) :
    Calls Try.prog 22 #[.int .i64 c, .int .i64 4] w fun r w' => (∃ j : Nat, j < 4 ∧ r = .returned (.int .i64 j)) ∧ w' = w := by
  by_cases hc : c < 0
  · go_enter Try.func22, Try.ntmps22
    go_wp2
    go_ret
    refine ⟨⟨((-(c + 1)) % 4).toNat, by omega, ret_int ?_⟩, rfl⟩
    rw [← Int.neg_tmod, Int.tmod_eq_emod_of_nonneg (by omega)]
    omega
  · go_enter Try.func22, Try.ntmps22
    go_wp2
    go_ret
    exact ⟨⟨(c % 4).toNat, by omega, ret_int (by omega)⟩, rfl⟩

theorem ck_cutR {xs : List Int} (h : ckE xs = 0) {n : Nat} (hn : n ≤ 4) : ckE (cutR xs n) = 0 := by
  have h4 := ckE_len h
  refine ckE_yes (cutR_length xs n h4 hn) ?_
  have ha := ckE_all h
  rw [List.all_eq_true] at ha ⊢
  intro x hx
  unfold cutR at hx
  rcases List.mem_append.1 hx with hx | hx
  · exact ha x (List.mem_of_mem_take hx)
  · rw [(List.mem_replicate.1 hx).2]; rfl

theorem cutR_cutR {xs : List Int} (h4 : xs.length = 4) {n m : Nat} (hn : n ≤ 4) (hm : m ≤ 4) : cutR (cutR xs n) m = cutR xs (min n m) := by
  match xs, h4 with
  | [a, b, c, d], _ =>
    match n, hn with
    | 0, _ => match m, hm with
      | 0, _ => rfl
      | 1, _ => rfl
      | 2, _ => rfl
      | 3, _ => rfl
      | 4, _ => rfl
    | 1, _ => match m, hm with
      | 0, _ => rfl
      | 1, _ => rfl
      | 2, _ => rfl
      | 3, _ => rfl
      | 4, _ => rfl
    | 2, _ => match m, hm with
      | 0, _ => rfl
      | 1, _ => rfl
      | 2, _ => rfl
      | 3, _ => rfl
      | 4, _ => rfl
    | 3, _ => match m, hm with
      | 0, _ => rfl
      | 1, _ => rfl
      | 2, _ => rfl
      | 3, _ => rfl
      | 4, _ => rfl
    | 4, _ => match m, hm with
      | 0, _ => rfl
      | 1, _ => rfl
      | 2, _ => rfl
      | 3, _ => rfl
      | 4, _ => rfl

theorem bare_cut0 {xs : List Int} (h : ckE xs = 0) : bareE (cutR xs 0) = true := by
  unfold bareE
  rw [if_pos (ck_cutR h (by omega))]
  rfl

theorem withE_parts {xs : List Int} {k e : Int} (h : withE xs k e = 0) : ckE xs = 0 ∧ 0 ≤ k ∧ k < 4 ∧ withL xs k e = xs.set k.toNat e := by
  refine ⟨?_, ?_⟩
  · rcases ckE_01 xs with h0 | h1
    · exact h0
    · simp [withE, h1] at h
  · have h2 : withL xs k e = xs.set k.toNat e := by simp [withL, h]
    unfold withE at h
    split at h
    · split at h
      · rename_i g; exact ⟨g.1, g.2, h2⟩
      · simp at h
    · simp at h

theorem cut_ok {xs : List Int} (h : ckE xs = 0) {n : Nat} (hn : n ≤ 4) : cutL xs (n : Int) = cutR xs n ∧ cutE xs (n : Int) = 0 := by
  have e : cutE xs (n : Int) = 0 := by unfold cutE; rw [if_pos h, if_pos ⟨by omega, by omega⟩]
  exact ⟨by unfold cutL; rw [if_pos e, Int.toNat_natCast], e⟩
theorem cutE_parts {xs : List Int} {n : Int} (h : cutE xs n = 0) : ckE xs = 0 ∧ 0 ≤ n ∧ n ≤ 4 := by
  unfold cutE at h
  split at h
  · rename_i g
    split at h
    · rename_i g'; exact ⟨g, g'⟩
    · simp at h
  · simp at h
end Go.Proofs.Ytehleeibgkpjmab
