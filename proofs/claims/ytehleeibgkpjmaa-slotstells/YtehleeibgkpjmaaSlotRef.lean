/- Contracts of the document's GrabOf, UsedOf. -/
import Derived.Test.YtehleeibgkpjmaaGrab
import Derived.Test.YtehleeibgkpjmaaSlotErr
namespace Go.Proofs.Ytehleeibgkpjmaa
open Go.RowKit
set_option maxRecDepth 20000

set_option maxHeartbeats 1000000 in
theorem grabOf_at (b off cap n g : Nat) (L : List SlotD) (w : World) (hn : L.length = n) (h1 : 1 ≤ n) (h40 : n ≤ 40) (hc : ∀ j, (h : j < L.length) → SlAt w b (off + j * 3) L[j]) (hg : GrabAt L g) (c : Int) (hcc : (if g = 40 then (0 : Int) else g) = c) :
    Calls Try.prog 31 #[.slice (some ⟨b, off, none⟩) n cap] w fun r w' => r = .returned (.int .i64 c) ∧ w' = w := by
  have HQ : Hid ((if g = 40 then (0 : Int) else g) = c) := hcc
  clear hcc
  have HC : Hid (∀ j, (h : j < L.length) → SlAt w b (off + j * 3) L[j]) := hc
  have HN : Hid (L.length = n) := hn
  have HG : Hid (GrabAt L g) := hg
  clear hc hn hg
  go_enter Try.func31, Try.ntmps31
  go_wp2
  go_loop [3] (fun i => ∃ k : Nat, 1 ≤ k ∧ k ≤ n ∧ i = .int .i64 k ∧ ∀ j, (h : j < L.length) → 1 ≤ j → j < k → (L[j]).1 ≠ 0) (fun i => n - (intOf i).toNat)
  case atStart => exact ⟨1, Nat.le_refl _, h1, rfl, fun j h hj hj' => absurd hj' (by omega)⟩
  case round =>
    obtain ⟨k, hk1, hk, rfl, hall⟩ := hrel
    have HA : Hid (∀ j, (h : j < L.length) → 1 ≤ j → j < k → (L[j]).1 ≠ 0) := hall
    clear hall
    by_cases hlk : k < n
    · obtain ⟨s, hs'⟩ : ∃ s, s = L[k]'(by rw [HN.out]; exact hlk) := ⟨_, rfl⟩
      obtain ⟨kk, dd, tt⟩ := s
      have hS : SlAt w b (off + k * 3) (kk, dd, tt) := by rw [hs']; exact HC.out k _
      obtain ⟨tv, c1, _, _, _⟩ := hS
      have HS : Hid ((kk, dd, tt) = L[k]'(by rw [HN.out]; exact hlk)) := hs'
      clear hs'
      have hki : (k : Int) < (n : Int) := by omega
      by_cases h0 : kk = 0
      · have h0' : (kk == 0) = true := by simp [h0]
        have H0 : Hid (kk = 0) := h0
        clear h0
        have HE : Hid (g = k) := HG.out.unique ⟨hk1, by rw [HN.out]; exact hk, HA.out, fun h => by rw [← HS.out]; exact H0.out⟩
        go_wp2
        go_ret
        exact ⟨ret_int (by rw [← HQ.out, HE.out, if_neg (by omega)]), rfl⟩
      · have h0' : (kk == 0) = false := by simp [h0]
        go_wp2
        go_round
        case rel => exact ⟨k + 1, by omega, by omega, by go_num, fun j h hj hj' => by
          by_cases e : j = k
          · subst e; rw [← HS.out]; exact h0
          · exact HA.out j h hj (by omega)⟩
        case measure => simp [intOf]; omega
    · have e4 : k = n := by omega
      subst e4
      have HE : Hid (g = k) := HG.out.unique ⟨hk1, by rw [HN.out]; exact hk, HA.out, fun h => absurd h (by rw [HN.out]; omega)⟩
      by_cases e40 : k = 40
      · subst e40
        go_wp2
        go_ret
        exact ⟨ret_int (by rw [← HQ.out, HE.out, if_pos rfl]), rfl⟩
      · have hne : (k : Int) < 40 := by omega
        go_wp2
        go_ret
        exact ⟨ret_int (by rw [← HQ.out, HE.out, if_neg e40]), rfl⟩

theorem grabOf_is {v : Value} {L : List SlotD} {w : World} (h : Slots w v L) (hE : slotsE L = 0) {g : Nat} (hg : GrabAt L g) {c : Int} (hc : (if g = 40 then (0 : Int) else g) = c) :
    Calls Try.prog 31 #[v] w fun r w' => r = .returned (.int .i64 c) ∧ w' = w := by
  obtain ⟨b, off, cap, rfl, hcp, hlt, hcell⟩ := h.open (slotsE_parts hE).1
  exact grabOf_at b off cap _ g L w rfl (slotsE_parts hE).1 (slotsE_parts hE).2 hcell hg c hc

set_option maxHeartbeats 1000000 in
theorem usedOf_at (b off cap n : Nat) (L : List SlotD) (w : World) (hn : L.length = n) (h40 : n ≤ 40) (hc : ∀ j, (h : j < L.length) → SlAt w b (off + j * 3) L[j]) :
    Calls Try.prog 32 #[.slice (some ⟨b, off, none⟩) n cap] w fun r w' => r = .returned (.int .i64 (usedN L)) ∧ w' = w := by
  have HC : Hid (∀ j, (h : j < L.length) → SlAt w b (off + j * 3) L[j]) := hc
  have HN : Hid (L.length = n) := hn
  clear hc hn
  go_enter Try.func32, Try.ntmps32
  go_wp2
  go_loop [3, 4] (fun m i => ∃ k u : Nat, k ≤ n ∧ u ≤ k ∧ i = .int .i64 k ∧ m = .int .i64 u ∧ Hid (u = usedN (L.take k))) (fun _ i => n - (intOf i).toNat)
  case atStart => exact ⟨0, 0, by omega, by omega, rfl, rfl, rfl⟩
  case round =>
    obtain ⟨k, u, hk, hu, rfl, rfl, HU⟩ := hrel
    by_cases hlk : k < n
    · obtain ⟨s, hs'⟩ : ∃ s, s = L[k]'(by rw [HN.out]; exact hlk) := ⟨_, rfl⟩
      obtain ⟨kk, dd, tt⟩ := s
      have hS : SlAt w b (off + k * 3) (kk, dd, tt) := by rw [hs']; exact HC.out k _
      obtain ⟨tv, c1, _, _, _⟩ := hS
      have hstep := usedN_take_succ (L := L) (k := k) (by rw [HN.out]; exact hlk)
      rw [← hs'] at hstep
      have HT : Hid (usedN (L.take (k + 1)) = usedN (L.take k) + if (kk != 0) = true then 1 else 0) := hstep
      clear hs' hstep
      by_cases h0 : kk = 0
      · have h0' : (kk != 0) = false := by simp [h0]
        have H0 : Hid (kk = 0) := h0
        clear h0
        go_wp2
        go_round
        case rel => exact ⟨k + 1, u, by omega, by omega, by go_num, rfl, by show _ = _; rw [HT.out, ← HU.out, H0.out]; rfl⟩
        case measure => simp [intOf]; omega
      · have h0' : (kk != 0) = true := by simp [h0]
        go_wp2
        go_round
        case rel => exact ⟨k + 1, u + 1, by omega, by omega, by go_num, by go_num, by show _ = _; rw [HT.out, ← HU.out, h0', if_pos rfl]⟩
        case measure => simp [intOf]; omega
    · have e4 : k = n := by omega
      subst e4
      have HU' : Hid (u = usedN L) := by show _ = _; rw [HU.out, List.take_of_length_le (by rw [HN.out]; exact Nat.le_refl _)]
      clear HU
      go_wp2
      go_ret
      exact ⟨by rw [← HU'.out]; rfl, rfl⟩

theorem usedOf_is {v : Value} {L : List SlotD} {w : World} (h : Slots w v L) (hE : slotsE L = 0) {u : Nat} (hu : usedN L = u) :
    Calls Try.prog 32 #[v] w fun r w' => r = .returned (.int .i64 u) ∧ w' = w := by
  subst hu
  obtain ⟨b, off, cap, rfl, hcp, hlt, hcell⟩ := h.open (slotsE_parts hE).1
  exact usedOf_at b off cap _ L w rfl (slotsE_parts hE).2 hcell
end Go.Proofs.Ytehleeibgkpjmaa
