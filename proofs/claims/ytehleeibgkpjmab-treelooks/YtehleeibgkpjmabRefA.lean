/- Contracts of the document's IsName, wants, told. -/
import Derived.Test.YtehleeibgkpjmabImg
import Derived.Test.YtehleeibgkpjmabNm
namespace Go.Proofs.Ytehleeibgkpjmab
open Go.RowKit Go.Shelf
set_option maxRecDepth 20000

theorem wants_any (g : Int) (w : World) (h : 0 ≤ g ∧ g ≤ 16) : Calls Try.prog 65 #[.int .i64 g] w fun r w' => r = .returned (.int .i64 ((g + 3) / 4)) ∧ w' = w := by
  obtain ⟨k, rfl⟩ : ∃ k : Nat, g = k := ⟨g.toNat, by omega⟩
  have hk : k ≤ 16 := by omega
  clear h
  go_enter Try.func65, Try.ntmps65
  go_wp2
  go_ret
  exact ⟨ret_int (by omega), rfl⟩

set_option maxHeartbeats 1000000 in
theorem told_at (ao : Option Addr) (n cap : Nat) (xs : List Int) (y : Int) (w : World) (hn : xs.length = n) (hm : n ≤ 1000000)
    (hc : ∀ j, j < n → ∃ b off, ao = some ⟨b, off, none⟩ ∧ b < w.heap.size ∧ w.cell? ⟨b, off + j, none⟩ = some (.int .i64 (xs.getD j 0))) :
    Calls Try.prog 50 #[.slice ao n cap, .int .i64 y] w fun r w' => r = .returned (.int .i64 (xs.count y)) ∧ w' = w := by
  have HN : Hid (xs.length = n) := hn
  have HC : Hid (∀ j, j < n → ∃ b off, ao = some ⟨b, off, none⟩ ∧ b < w.heap.size ∧ w.cell? ⟨b, off + j, none⟩ = some (.int .i64 (xs.getD j 0))) := hc
  clear hn hc
  go_enter Try.func50, Try.ntmps50
  go_wp2
  go_loopw [5, 6] (fun c i wr => ∃ k u : Nat, k ≤ n ∧ u ≤ k ∧ i = .int .i64 k ∧ c = .int .i64 u ∧ Hid (u = (xs.take k).count y) ∧ wr = w) (fun _ i _ => n - (intOf i).toNat)
  case atStart => exact ⟨0, 0, Nat.zero_le _, Nat.zero_le _, rfl, rfl, by show _ = _; simp, rfl⟩
  case round =>
    obtain ⟨k, u, hk, hu, rfl, rfl, HU, hw⟩ := hrel
    subst hw
    by_cases hlk : k < n
    · obtain ⟨b, off, rfl, hlt, hcell⟩ := HC.out k hlk
      have hki : (k : Int) < (n : Int) := by omega
      have hkx : k < xs.length := by rw [HN.out]; exact hlk
      obtain ⟨x, hx⟩ : ∃ x, xs.getD k 0 = x := ⟨_, rfl⟩
      rw [hx] at hcell
      have HT : Hid ((xs.take (k + 1)).count y = (xs.take k).count y + if x == y then 1 else 0) := by
        show _ = _
        have e : xs[k] = x := by rw [← hx]; simp [List.getD, hkx]
        rw [List.take_add_one, List.getElem?_eq_getElem hkx, Option.toList_some, List.count_append, e, List.count_singleton]
      clear hx hkx
      cases hxy : x == y with
      | true =>
        go_wp2
        go_roundw
        case rel => exact ⟨k + 1, u + 1, by omega, by omega, by go_num, by go_num, by show _ = _; rw [HT.out, hxy, ← HU.out]; rfl, trivial⟩
        case measure => simp [intOf]; omega
      | false =>
        go_wp2
        go_roundw
        case rel => exact ⟨k + 1, u, by omega, by omega, by go_num, rfl, by show _ = _; rw [HT.out, hxy, ← HU.out]; rfl, trivial⟩
        case measure => simp [intOf]; omega
    · have e4 : k = n := by omega
      subst e4
      have HE : Hid (u = xs.count y) := by show _ = _; rw [HU.out, List.take_of_length_le (by rw [HN.out]; exact Nat.le_refl _)]
      go_wp2
      go_ret
      exact ⟨ret_int (by rw [HE.out]), rfl⟩
theorem told_is {v : Value} {xs : List Int} {w : World} (h : Sl w v xs) (hm : xs.length ≤ 1000000) (y : Int) {c : Int} (hc : (xs.count y : Int) = c) :
    Calls Try.prog 50 #[v, .int .i64 y] w fun r w' => r = .returned (.int .i64 c) ∧ w' = w := by
  subst hc
  obtain ⟨ao, cap, rfl⟩ := h.form
  obtain ⟨_, _, _, hc⟩ := h.cells
  exact told_at ao _ cap xs y w rfl hm hc
end Go.Proofs.Ytehleeibgkpjmab
