/- Contract of isKind. -/
import Derived.Test.YtehleeibgkpjmabImg
namespace Go.Proofs.Ytehleeibgkpjmab
open Go.RowKit
set_option maxRecDepth 20000

theorem isKd_out {L : List SlotD} {k kind : Int} (h : ¬ (0 ≤ k ∧ k < L.length)) : isKd L k kind = false := by
  unfold isKd; rw [decide_eq_false h]; rfl
theorem isKd_in {L : List SlotD} {k : Nat} {kind : Int} (h : k < L.length) : isKd L (k : Int) kind = (L[k].1 == kind) := by
  unfold isKd
  rw [decide_eq_true (by omega)]
  simp [List.getD, h]

theorem isKind_out (ao : Option Addr) (n cap : Nat) (k kind : Int) (w : World) (h : ¬ (0 ≤ k ∧ k < (n : Int))) (_hm : n ≤ 9223372036854775807) :
    Calls Try.prog 61 #[.slice ao n cap, .int .i64 k, .int .i64 kind] w fun r w' => r = .returned (.bool false) ∧ w' = w := by
  by_cases h0 : 0 ≤ k
  · have h1 : ¬ k < (n : Int) := fun h1 => h ⟨h0, h1⟩
    clear h
    go_enter Try.func61, Try.ntmps61
    go_wp2
    go_ret
    exact ⟨rfl, rfl⟩
  · clear h
    go_enter Try.func61, Try.ntmps61
    go_wp2
    go_ret
    exact ⟨rfl, rfl⟩
theorem isKind_in (b off n cap k : Nat) (x kind : Int) (w : World) (h : k < n) (_hm : n ≤ 9223372036854775807) (hc : w.cell? ⟨b, off + k * 3, none⟩ = some (.int .i64 x)) :
    Calls Try.prog 61 #[.slice (some ⟨b, off, none⟩) n cap, .int .i64 k, .int .i64 kind] w fun r w' => r = .returned (.bool (x == kind)) ∧ w' = w := by
  have h0 : (0 : Int) ≤ (k : Int) := by omega
  have h1 : (k : Int) < (n : Int) := by omega
  go_enter Try.func61, Try.ntmps61
  go_wp2
  go_ret
  exact ⟨rfl, rfl⟩
theorem isKind_is {v : Value} {L : List SlotD} {w : World} (h : Slots w v L) (k kind : Int) {B : Bool} (hB : isKd L k kind = B) :
    Calls Try.prog 61 #[v, .int .i64 k, .int .i64 kind] w fun r w' => r = .returned (.bool B) ∧ w' = w := by
  subst hB
  have hm := h.small
  by_cases hk : 0 ≤ k ∧ k < L.length
  · obtain ⟨b, off, cap, rfl, hcp, hlt, hcell⟩ := h.open (by omega)
    obtain ⟨j, rfl⟩ : ∃ j : Nat, k = j := ⟨k.toNat, by omega⟩
    have hj : j < L.length := by omega
    obtain ⟨tv, c1, _⟩ := hcell j hj
    rw [isKd_in hj]
    exact isKind_in b off _ cap j _ kind w hj hm c1
  · rw [isKd_out hk]
    obtain ⟨ao, cap, rfl⟩ := h.form
    exact isKind_out ao _ cap k kind w hk hm
end Go.Proofs.Ytehleeibgkpjmab
