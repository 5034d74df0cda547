/- Contract of the document's bare. -/
import Derived.Test.YtehleeibgkpjmabChk
import Derived.Deep.QuietTactic
import Derived.BigQuiet
namespace Go.Proofs.Ytehleeibgkpjmab
open Go.RowKit
set_option maxRecDepth 20000

theorem bareIn_at (ao : Option Addr) (n cap : Nat) (xs : List Int) (w : World) (hn : xs.length = n) (hm : n ≤ 9223372036854775807) (hc : ∀ j, j < n → ∃ b off, ao = some ⟨b, off, none⟩ ∧ w.cell? ⟨b, off + j, none⟩ = some (.int .i64 (xs.getD j 0))) :
    Calls Try.prog 39 #[.slice ao n cap] w fun r w' => r = .returned (.bool (bareL xs)) ∧ w' = w := by
  have HC : Hid (∀ j, j < n → ∃ b off, ao = some ⟨b, off, none⟩ ∧ w.cell? ⟨b, off + j, none⟩ = some (.int .i64 (xs.getD j 0))) := hc
  clear hc
  have HN : Hid (xs.length = n) := hn
  clear hn
  go_enter Try.func39, Try.ntmps39
  go_wp2
  go_loop [3] (fun i => ∃ k : Nat, k ≤ n ∧ i = .int .i64 k ∧ ∀ j, j < k → ((xs.getD j 0) == 0) = true) (fun i => n - (intOf i).toNat)
  case atStart => exact ⟨0, by omega, rfl, fun j hj => absurd hj (by omega)⟩
  case round =>
    obtain ⟨k, hk, rfl, hall⟩ := hrel
    have HA : Hid (∀ j, j < k → ((xs.getD j 0) == 0) = true) := hall
    clear hall
    by_cases hlt : k < n
    · obtain ⟨x, hx⟩ : ∃ x, xs.getD k 0 = x := ⟨_, rfl⟩
      obtain ⟨b, off, hao, hck⟩ := HC.out k hlt
      rw [hx] at hck
      have HX : Hid (xs.getD k 0 = x) := hx
      clear hx
      by_cases hE : x = 0
      · have hE' : (x != 0) = false := by simp [hE]
        have HE0 : Hid (x = 0) := hE
        clear hE
        go_wp2
        go_round
        case rel => exact ⟨k + 1, by omega, by go_num, upto_step (p := fun x => x == 0) HA.out HX.out (by simp [HE0.out])⟩
        case measure => simp [intOf]; omega
      · have hE' : (x != 0) = true := by simp [hE]
        go_wp2
        go_ret
        refine ⟨?_, rfl⟩
        rw [show bareL xs = false from not_all_of (j := k) (by rw [HN.out]; exact hlt) (by rw [HX.out]; simp [hE])]; rfl
    · have e4 : k = n := by omega
      subst e4
      go_wp2
      go_ret
      refine ⟨?_, rfl⟩
      rw [show bareL xs = true from all_of_upto (by rw [HN.out]; exact HA.out)]; rfl

theorem bareIn_any (v : Value) (xs : List Int) (w : World) (h : Sl w v xs) :
    Calls Try.prog 39 #[v] w fun r w' => r = .returned (.bool (bareL xs)) ∧ w' = w := by
  obtain ⟨ao, cap, rfl⟩ := h.form
  obtain ⟨hn, hm, hcp, hc⟩ := h.cells
  exact bareIn_at ao _ cap xs w hn hm (fun j hj => by obtain ⟨b, off, h1, _, h2⟩ := hc j hj; exact ⟨b, off, h1, h2⟩)

end Go.Proofs.Ytehleeibgkpjmab
