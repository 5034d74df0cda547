/- Contract of Used. -/
import Derived.Test.YtehleeibgkpjmabSlots
namespace Go.Proofs.Ytehleeibgkpjmab
open Go.RowKit
set_option maxRecDepth 20000

theorem slotsE_parts {L : List SlotD} (h : slotsE L = 0) : 1 ≤ L.length ∧ L.length ≤ 40 := by
  unfold slotsE at h
  split at h
  · assumption
  · simp at h
theorem slotsE_012 (L : List SlotD) : slotsE L = 0 ∨ slotsE L = 1 ∨ slotsE L = 2 := by
  unfold slotsE
  split
  · split <;> simp
  · simp

theorem Slots.open {w : World} {v : Value} {L : List SlotD} (h : Slots w v L) (h1 : 1 ≤ L.length) : ∃ b off cap, v = .slice (some ⟨b, off, none⟩) L.length cap ∧ L.length ≤ cap ∧ b < w.heap.size ∧ ∀ j, (h : j < L.length) → SlAt w b (off + j * 3) L[j] := by
  obtain ⟨ao, cap, rfl, hm, hcp, hc⟩ := h
  obtain ⟨b, off, rfl, hlt, hcell⟩ := hc (by intro e; rw [e] at h1; simp at h1)
  exact ⟨b, off, cap, rfl, hcp, hlt, hcell⟩

theorem used_bad (v : Value) (L : List SlotD) (E : Int) (w : World) (h : Slots w v L) (hE : slotsE L = E) (hne : (E != 0) = true) :
    Calls Try.prog 10 #[v] w fun r w' => r = .returned (.tuple #[.int .i64 0, .int .i64 E]) ∧ Below w.heap.size w w' := by
  have HE : Hid (slotsE L = E) := hE
  clear hE
  go_enter Try.func10, Try.ntmps10
  go_wp2_with (go_at_call 33; refine (checkAll_any _ L _ h).mono ?_; rintro e w1 ⟨he, b1⟩; rw [HE.out] at he; subst he)
  go_ret2
  exact ⟨rfl, b1⟩

/-- How many are not free. -/
def usedN (L : List SlotD) : Nat := L.countP (fun s => s.1 != 0)
theorem usedN_take_succ {L : List SlotD} {k : Nat} (h : k < L.length) : usedN (L.take (k + 1)) = usedN (L.take k) + if (L[k].1 != 0) = true then 1 else 0 := by
  unfold usedN
  rw [List.take_succ_eq_append_getElem h, List.countP_append]
  simp [List.countP_cons]
theorem usedN_le (L : List SlotD) : usedN L ≤ L.length := List.countP_le_length

set_option maxHeartbeats 1000000 in
theorem used_at (b off cap n : Nat) (L : List SlotD) (w : World) (hn : L.length = n) (h1 : 1 ≤ n) (h40 : n ≤ 40) (hlt : b < w.heap.size) (hc : ∀ j, (h : j < L.length) → SlAt w b (off + j * 3) L[j]) (hs : Slots w (.slice (some ⟨b, off, none⟩) n cap) L) (hE : slotsE L = 0) :
    Calls Try.prog 10 #[.slice (some ⟨b, off, none⟩) n cap] w fun r w' => r = .returned (.tuple #[.int .i64 (usedN L), .int .i64 0]) ∧ Below w.heap.size w w' := by
  have HC : Hid (∀ j, (h : j < L.length) → SlAt w b (off + j * 3) L[j]) := hc
  have HN : Hid (L.length = n) := hn
  have HE : Hid (slotsE L = 0) := hE
  clear hc hn hE
  go_enter Try.func10, Try.ntmps10
  go_wp2_with (go_at_call 33; refine (checkAll_any _ L _ hs).mono ?_; rintro e w1 ⟨he, b1⟩; rw [HE.out] at he; subst he)
  go_loopw [5, 15] (fun m i wr => ∃ k u : Nat, k ≤ n ∧ u ≤ k ∧ i = .int .i64 k ∧ m = .int .i64 u ∧ Hid (u = usedN (L.take k)) ∧ Below w.heap.size w wr) (fun _ i _ => n - (intOf i).toNat)
  case atStart => exact ⟨0, 0, by omega, by omega, rfl, rfl, rfl, b1⟩
  case round =>
    obtain ⟨k, u, hk, hu, rfl, rfl, HU, hbel⟩ := hrel
    by_cases hlk : k < n
    · obtain ⟨s, hs'⟩ : ∃ s, s = L[k]'(by rw [HN.out]; exact hlk) := ⟨_, rfl⟩
      obtain ⟨kk, dd, tt⟩ := s
      have hS : SlAt w b (off + k * 3) (kk, dd, tt) := by rw [hs']; exact HC.out k _
      obtain ⟨tv, c1, c2, c3, hsl⟩ := hS
      obtain ⟨ta, tc, htv⟩ := hsl.form
      subst htv
      have c1 : wr.cell? ⟨b, off + k * 3, none⟩ = some (.int .i64 kk) := (hbel.cell (p := ⟨b, off + k * 3, none⟩) hlt).trans c1
      have c2 : wr.cell? ⟨b, off + k * 3 + 1, none⟩ = some (.string dd) := (hbel.cell (p := ⟨b, off + k * 3 + 1, none⟩) hlt).trans c2
      have c3 : wr.cell? ⟨b, off + k * 3 + 1 + 1, none⟩ = some (.slice ta tt.length tc) := (hbel.cell (p := ⟨b, off + k * 3 + 1 + 1, none⟩) hlt).trans c3
      have HS : Hid ((kk, dd, tt) = L[k]'(by rw [HN.out]; exact hlk)) := hs'
      have hstep := usedN_take_succ (L := L) (k := k) (by rw [HN.out]; exact hlk)
      rw [← hs'] at hstep
      have HT : Hid (usedN (L.take (k + 1)) = usedN (L.take k) + if (kk != 0) = true then 1 else 0) := hstep
      clear hs' hsl hstep
      by_cases h0 : kk = 0
      · have h0' : (kk != 0) = false := by simp [h0]
        have H0 : Hid (kk = 0) := h0
        clear h0
        go_wp2
        go_roundw
        case rel => exact ⟨k + 1, u, by omega, by omega, by go_num, rfl, by show _ = _; rw [HT.out, ← HU.out, H0.out]; rfl, hbel.alloc hbel.size _⟩
        case measure => simp [intOf]; omega
      · have h0' : (kk != 0) = true := by simp [h0]
        go_wp2
        go_roundw
        case rel => exact ⟨k + 1, u + 1, by omega, by omega, by go_num, by go_num, by show _ = _; rw [HT.out, ← HU.out, h0', if_pos rfl], hbel.alloc hbel.size _⟩
        case measure => simp [intOf]; omega
    · have e4 : k = n := by omega
      subst e4
      have HU' : Hid (u = usedN L) := by show _ = _; rw [HU.out, List.take_of_length_le (by rw [HN.out]; exact Nat.le_refl _)]
      clear HU
      go_wp2
      go_ret2
      exact ⟨by rw [← HU'.out]; rfl, hbel⟩

theorem used_ok (v : Value) (L : List SlotD) (w : World) (h : Slots w v L) (hE : slotsE L = 0) :
    Calls Try.prog 10 #[v] w fun r w' => r = .returned (.tuple #[.int .i64 (usedN L), .int .i64 0]) ∧ Below w.heap.size w w' := by
  have hs := h
  obtain ⟨b, off, cap, rfl, hcp, hlt, hcell⟩ := h.open (slotsE_parts hE).1
  exact used_at b off cap _ L w rfl (slotsE_parts hE).1 (slotsE_parts hE).2 hlt hcell hs hE
theorem used_is {v : Value} {L : List SlotD} {w : World} (h : Slots w v L) (hE : slotsE L = 0) {u : Nat} (hu : usedN L = u) :
    Calls Try.prog 10 #[v] w fun r w' => r = .returned (.tuple #[.int .i64 u, .int .i64 0]) ∧ Below w.heap.size w w' := by subst hu; exact used_ok v L w h hE

end Go.Proofs.Ytehleeibgkpjmab
