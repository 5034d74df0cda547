/- Contracts of Join, Patch and of the document's JoinOf, PatchOf. -/
import Derived.Test.YtehleeibgkpjmaaPgZero
import Derived.Test.YtehleeibgkpjmaaWithin
import Derived.WalkSpells
namespace Go.Proofs.Ytehleeibgkpjmaa
open Go.RowKit
set_option maxRecDepth 20000

theorem ext_join (xs : List ByteArray) : (⟨(Lib.join (xs.map (·.data.toList)) []).toArray⟩ : ByteArray) = joinB xs := by
  rw [join_flat]; rfl

/-- Join's answer. -/
def joinA (xs : List ByteArray) : ByteArray := if ckP xs = 0 then joinB xs else ByteArray.empty

theorem sjoin_any (v : Value) (xs : List ByteArray) (w : World) (h : Ss w v xs) (h16 : xs.length ≤ 16) (h4 : ∀ x ∈ xs, x.size = 4) :
    Calls Try.prog 37 #[v, .string ⟨#[]⟩] w fun e w' => e = .returned (.string (joinB xs)) ∧ Below w.heap.size w w' := by
  obtain ⟨ao, cap, rfl⟩ := h.form
  by_cases h0 : xs.length = 0
  · have e : xs = [] := List.eq_nil_of_length_eq_zero h0
    subst e
    refine (Try.strings_Join_none ao cap ⟨#[]⟩ w).mono fun e w' h => ⟨h.1, h.2 ▸ Below.refl _ _⟩
  · obtain ⟨b, off, rfl, hlt, hcell⟩ := h.at (by omega)
    obtain ⟨_, _, hcp, _⟩ := h.cells
    have hj := Try.strings_Join b off cap xs ⟨#[]⟩ w (fun j x hx => by
      obtain ⟨hj, rfl⟩ := List.getElem?_eq_some_iff.1 hx
      rw [hcell j hj]
      simp [List.getD, hj]) hlt (by omega) hcp (by
      rw [show (⟨#[]⟩ : ByteArray).data.toList = [] from rfl, join_flat]
      have := joinB_size h4
      rw [← bytes_size, joinB, bytes_of] at this
      have e : (xs.map (·.data.toList)).flatten.length = (xs.map bytes).flatten.length := rfl
      rw [e, this]
      omega)
    rw [show (⟨#[]⟩ : ByteArray).data.toList = [] from rfl, ext_join] at hj
    exact hj

theorem join_bad (v : Value) (xs : List ByteArray) (w : World) (E : Int) (h : Ss w v xs) (hE : ckP xs = E) (hne : (E != 0) = true) :
    Calls Try.prog 10 #[v] w fun r w' => r = .returned (.tuple #[.string ByteArray.empty, .int .i64 E]) ∧ Below w.heap.size w w' := by
  have HE : Hid (ckP xs = E) := hE
  clear hE
  go_enter Try.func10, Try.ntmps10
  go_wp2_with (go_at_call 15; refine (pcheck_is h HE.out).mono ?_; rintro e w' ⟨rfl, hw⟩; subst hw)
  go_ret2
  exact ⟨rfl, Below.refl _ _⟩

theorem join_ok (v : Value) (xs : List ByteArray) (w : World) (h : Ss w v xs) (hE : ckP xs = 0) :
    Calls Try.prog 10 #[v] w fun r w' => r = .returned (.tuple #[.string (joinB xs), .int .i64 0]) ∧ Below w.heap.size w w' := by
  have HE : Hid (ckP xs = 0) := hE
  obtain ⟨h16, h4⟩ := ckP_parts hE
  have H4 : Hid (∀ x ∈ xs, x.size = 4) := h4
  clear hE h4
  obtain ⟨J, hJ⟩ : ∃ J, joinB xs = J := ⟨_, rfl⟩
  have HJ : Hid (joinB xs = J) := hJ
  rw [hJ]
  clear hJ
  go_enter Try.func10, Try.ntmps10
  go_wp2_with (first | (go_at_call 15; refine (pcheck_is h HE.out).mono ?_; rintro e w' ⟨rfl, hw⟩; subst hw) | (go_at_call 37; refine (sjoin_any _ xs _ h h16 H4.out).mono ?_; rintro e w1 ⟨he, b1⟩; rw [HJ.out] at he; subst he))
  go_ret2
  exact ⟨rfl, b1⟩

theorem join_any (v : Value) (xs : List ByteArray) (w : World) (h : Ss w v xs) :
    Calls Try.prog 10 #[v] w fun r w' => r = .returned (.tuple #[.string (joinA xs), .int .i64 (ckP xs)]) ∧ Below w.heap.size w w' := by
  by_cases hE : ckP xs = 0
  · rw [joinA, if_pos hE, hE]; exact join_ok v xs w h hE
  · rw [joinA, if_neg hE]; exact join_bad v xs w _ h rfl (by simpa using hE)
theorem join_is {v : Value} {xs : List ByteArray} {w : World} (h : Ss w v xs) {J : ByteArray} {c : Int} (hJ : joinA xs = J) (hc : ckP xs = c) :
    Calls Try.prog 10 #[v] w fun r w' => r = .returned (.tuple #[.string J, .int .i64 c]) ∧ Below w.heap.size w w' := by subst hJ; subst hc; exact join_any v xs w h

set_option maxHeartbeats 1000000 in
theorem joinOf_at (b off n cap : Nat) (xs : List ByteArray) (w : World) (hn : xs.length = n) (h16 : n ≤ 16) (h4 : ∀ x ∈ xs, x.size = 4) (hc : ∀ j, j < n → w.cell? ⟨b, off + j, none⟩ = some (.string (xs.getD j ByteArray.empty))) (J : ByteArray) (hJ : joinB xs = J) :
    Calls Try.prog 13 #[.slice (some ⟨b, off, none⟩) n cap] w fun r w' => r = .returned (.string J) ∧ w' = w := by
  have HC : Hid (∀ j, j < n → w.cell? ⟨b, off + j, none⟩ = some (.string (xs.getD j ByteArray.empty))) := hc
  have HN : Hid (xs.length = n) := hn
  have H4 : Hid (∀ x ∈ xs, x.size = 4) := h4
  have HJ : Hid (joinB xs = J) := hJ
  clear hc hn h4 hJ
  go_enter Try.func13, Try.ntmps13
  go_wp2
  go_loop [3, 4] (fun t i => ∃ (k : Nat) (u : ByteArray), k ≤ n ∧ i = .int .i64 k ∧ t = .string u ∧ u.size ≤ 64 ∧ Hid (u = joinB (xs.take k))) (fun _ i => n - (intOf i).toNat)
  case atStart => exact ⟨0, ByteArray.empty, by omega, rfl, rfl, by decide, rfl⟩
  case round =>
    obtain ⟨k, u, hk, rfl, rfl, hu, HU⟩ := hrel
    by_cases hlt : k < n
    · obtain ⟨x, hx⟩ : ∃ x, xs.getD k ByteArray.empty = x := ⟨_, rfl⟩
      have hck := HC.out k hlt
      rw [hx] at hck
      have hkl : k < xs.length := by rw [HN.out]; exact hlt
      have hxe : x = xs[k] := by rw [← hx]; simp [List.getD, hkl]
      have hx4 : x.size = 4 := by rw [hxe]; exact H4.out _ (List.getElem_mem hkl)
      have hx4' : (x.size : Int) ≤ 4 := by omega
      have HX : Hid (x.size = 4 ∧ xs.take (k + 1) = xs.take k ++ [x]) := ⟨hx4, by rw [hxe, List.take_succ_eq_append_getElem hkl]⟩
      clear hx hxe hx4 hkl
      have HUS : Hid (u.size = 4 * k) := by
        show _ = _
        rw [HU.out, joinB_size (fun y hy => H4.out y (List.mem_of_mem_take hy)), List.length_take, HN.out]
        omega
      go_wp2
      go_round
      case rel => exact ⟨k + 1, _, by omega, by go_num, rfl, by simp; have := HX.out.1; have := HUS.out; omega, by show _ = _; rw [HX.out.2, joinB_snoc, ← HU.out]⟩
      case measure => simp [intOf]; omega
    · have e4 : k = n := by omega
      subst e4
      have HE : Hid (u = J) := by show _ = _; rw [HU.out, List.take_of_length_le (by rw [HN.out]; exact Nat.le_refl _)]; exact HJ.out
      clear HU
      go_wp2
      go_ret
      exact ⟨by rw [← HE.out]; rfl, rfl⟩

theorem joinOf_0 (ao : Option Addr) (cap : Nat) (w : World) : Calls Try.prog 13 #[.slice ao 0 cap] w fun r w' => r = .returned (.string ⟨#[]⟩) ∧ w' = w := by
  go_enter Try.func13, Try.ntmps13
  go_wp2
  refine wp_loop_rounds 1 ?_
  rw [rounds_succ]
  go_wp2
  go_ret
  exact ⟨rfl, rfl⟩
theorem joinOf_is {v : Value} {xs : List ByteArray} {w : World} (h : Ss w v xs) (hE : ckP xs = 0) {J : ByteArray} (hJ : joinB xs = J) :
    Calls Try.prog 13 #[v] w fun r w' => r = .returned (.string J) ∧ w' = w := by
  obtain ⟨h16, h4⟩ := ckP_parts hE
  obtain ⟨ao, cap, rfl⟩ := h.form
  by_cases h0 : xs.length = 0
  · have e : xs = [] := List.eq_nil_of_length_eq_zero h0
    subst e
    subst hJ
    exact joinOf_0 ao cap w
  · obtain ⟨b, off, rfl, hlt, hcell⟩ := h.at (by omega)
    exact joinOf_at b off _ cap xs w rfl h16 h4 hcell J hJ
end Go.Proofs.Ytehleeibgkpjmaa
