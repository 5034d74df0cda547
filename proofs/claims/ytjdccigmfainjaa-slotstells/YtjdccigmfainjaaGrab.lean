/- Contracts of Grab and Used. -/
import Derived.Test.YtjdccigmfainjaaSlots
namespace Go.Proofs.Ytjdccigmfainjaa
open Go.RowKit

/-- The number that Grab comes to: the least one from 1 on of a slot that is free, or how many there are. -/
def GrabAt (L : List SlotD) (g : Nat) : Prop := 1 ≤ g ∧ g ≤ L.length ∧ (∀ j, (h : j < L.length) → 1 ≤ j → j < g → (L[j]).1 ≠ 0) ∧ ∀ h : g < L.length, (L[g]).1 = 0
theorem GrabAt.unique {L : List SlotD} {g g' : Nat} (h : GrabAt L g) (k : GrabAt L g') : g = g' := by
  obtain ⟨h1, h2, h3, h4⟩ := h
  obtain ⟨k1, k2, k3, k4⟩ := k
  rcases Nat.lt_trichotomy g g' with e | e | e
  · exact absurd (h4 (by omega)) (k3 g (by omega) h1 e)
  · exact e
  · exact absurd (k4 (by omega)) (h3 g' (by omega) k1 e)

theorem slotsE_parts {L : List SlotD} (h : slotsE L = 0) : 1 ≤ L.length ∧ L.length ≤ 40 := by
  unfold slotsE at h
  split at h
  · assumption
  · simp at h
theorem slotsE_012 (L : List SlotD) : slotsE L = 0 ∨ slotsE L = 1 ∨ slotsE L = 2 := by
  unfold slotsE
  split
  · split <;> simp
  · simp

theorem Slots.open {w : World} {v : Value} {L : List SlotD} (h : Slots w v L) (h1 : 1 ≤ L.length) : ∃ b off cap, v = .slice (some ⟨b, off, none⟩) L.length cap ∧ L.length ≤ cap ∧ b < w.heap.size ∧ ∀ j, (h : j < L.length) → SlAt w b (off + j * 3) L[j] := by
  obtain ⟨ao, cap, rfl, hm, hcp, hc⟩ := h
  obtain ⟨b, off, rfl, hlt, hcell⟩ := hc (by intro e; rw [e] at h1; simp at h1)
  exact ⟨b, off, cap, rfl, hcp, hlt, hcell⟩

theorem grab_bad (v : Value) (L : List SlotD) (E : Int) (w : World) (h : Slots w v L) (hE : slotsE L = E) (hne : (E != 0) = true) :
    Calls Try.prog 28 #[v] w fun r w' => r = .returned (.tuple #[.int .i64 0, .int .i64 E]) ∧ Below w.heap.size w w' := by
  have HE : Hid (slotsE L = E) := hE
  clear hE
  go_enter Try.func28, Try.ntmps28
  go_wp2_with (go_at_call 42; refine (checkAll_any _ L _ h).mono ?_; rintro e w1 ⟨he, b1⟩; rw [HE.out] at he; subst he)
  go_ret2
  exact ⟨rfl, b1⟩

theorem used_bad (v : Value) (L : List SlotD) (E : Int) (w : World) (h : Slots w v L) (hE : slotsE L = E) (hne : (E != 0) = true) :
    Calls Try.prog 29 #[v] w fun r w' => r = .returned (.tuple #[.int .i64 0, .int .i64 E]) ∧ Below w.heap.size w w' := by
  have HE : Hid (slotsE L = E) := hE
  clear hE
  go_enter Try.func29, Try.ntmps29
  go_wp2_with (go_at_call 42; refine (checkAll_any _ L _ h).mono ?_; rintro e w1 ⟨he, b1⟩; rw [HE.out] at he; subst he)
  go_ret2
  exact ⟨rfl, b1⟩

set_option maxHeartbeats 1000000 in
theorem grab_at (b off cap n : Nat) (L : List SlotD) (w : World) (hn : L.length = n) (h1 : 1 ≤ n) (h40 : n ≤ 40) (hlt : b < w.heap.size) (hc : ∀ j, (h : j < L.length) → SlAt w b (off + j * 3) L[j]) (hs : Slots w (.slice (some ⟨b, off, none⟩) n cap) L) (hE : slotsE L = 0) :
    Calls Try.prog 28 #[.slice (some ⟨b, off, none⟩) n cap] w fun r w' => ((GrabAt L 40 ∧ r = .returned (.tuple #[.int .i64 0, .int .i64 7])) ∨ ∃ g : Nat, g < 40 ∧ GrabAt L g ∧ r = .returned (.tuple #[.int .i64 g, .int .i64 0])) ∧ Below w.heap.size w w' := by
  have HC : Hid (∀ j, (h : j < L.length) → SlAt w b (off + j * 3) L[j]) := hc
  have HN : Hid (L.length = n) := hn
  have HE : Hid (slotsE L = 0) := hE
  clear hc hn hE
  go_enter Try.func28, Try.ntmps28
  go_wp2_with (go_at_call 42; refine (checkAll_any _ L _ hs).mono ?_; rintro e w1 ⟨he, b1⟩; rw [HE.out] at he; subst he)
  go_loop [5] (fun i => ∃ k : Nat, 1 ≤ k ∧ k ≤ n ∧ i = .int .i64 k ∧ ∀ j, (h : j < L.length) → 1 ≤ j → j < k → (L[j]).1 ≠ 0) (fun i => n - (intOf i).toNat)
  case atStart => exact ⟨1, Nat.le_refl _, h1, rfl, fun j h hj hj' => absurd hj' (by omega)⟩
  case round =>
    obtain ⟨k, hk1, hk, rfl, hall⟩ := hrel
    have HA : Hid (∀ j, (h : j < L.length) → 1 ≤ j → j < k → (L[j]).1 ≠ 0) := hall
    clear hall
    have fin : ∀ g : Nat, GrabAt L g → g = k → ((GrabAt L 40 ∧ (k : Int) = 40) ∨ (k : Int) ≠ 40) := fun g hg e => by
      subst e
      by_cases e : (g : Int) = 40
      · have : g = 40 := by omega
        subst this; exact .inl ⟨hg, rfl⟩
      · exact .inr e
    have HF : Hid (∀ g : Nat, GrabAt L g → g = k → ((GrabAt L 40 ∧ (k : Int) = 40) ∨ (k : Int) ≠ 40)) := fin
    clear fin
    by_cases hlk : k < n
    · obtain ⟨s, hs'⟩ : ∃ s, s = L[k]'(by rw [HN.out]; exact hlk) := ⟨_, rfl⟩
      obtain ⟨kk, dd, tt⟩ := s
      have hS : SlAt w b (off + k * 3) (kk, dd, tt) := by rw [hs']; exact HC.out k _
      obtain ⟨tv, c1, _, _, _⟩ := hS
      have c1 : w1.cell? ⟨b, off + k * 3, none⟩ = some (.int .i64 kk) := (b1.cell (p := ⟨b, off + k * 3, none⟩) hlt).trans c1
      have HS : Hid ((kk, dd, tt) = L[k]'(by rw [HN.out]; exact hlk)) := hs'
      clear hs'
      have hki : (k : Int) < (n : Int) := by omega
      by_cases h0 : kk = 0
      · have h0' : (kk != 0) = false := by simp [h0]
        have H0 : Hid (kk = 0) := h0
        clear h0
        have hne : ((k : Int) == 40) = false := by simp; omega
        have HG : Hid (GrabAt L k) := ⟨hk1, by rw [HN.out]; exact hk, HA.out, fun h => by rw [← HS.out]; exact H0.out⟩
        go_wp2
        go_ret2
        exact ⟨.inr ⟨k, by omega, HG.out, rfl⟩, b1⟩
      · have h0' : (kk != 0) = true := by simp [h0]
        go_wp2
        go_round
        case rel => exact ⟨k + 1, by omega, by omega, by go_num, fun j h hj hj' => by
          by_cases e : j = k
          · subst e; rw [← HS.out]; exact h0
          · exact HA.out j h hj (by omega)⟩
        case measure => simp [intOf]; omega
    · have e4 : k = n := by omega
      subst e4
      have HG : Hid (GrabAt L k) := ⟨hk1, by rw [HN.out]; exact hk, HA.out, fun h => absurd h (by rw [HN.out]; omega)⟩
      by_cases e40 : k = 40
      · subst e40
        go_wp2
        go_ret2
        exact ⟨.inl ⟨HG.out, rfl⟩, b1⟩
      · have hne : ((k : Int) == 40) = false := by simp; omega
        go_wp2
        go_ret2
        exact ⟨.inr ⟨k, by omega, HG.out, rfl⟩, b1⟩

theorem grab_ok (v : Value) (L : List SlotD) (w : World) (h : Slots w v L) (hE : slotsE L = 0) :
    Calls Try.prog 28 #[v] w fun r w' => ((GrabAt L 40 ∧ r = .returned (.tuple #[.int .i64 0, .int .i64 7])) ∨ ∃ g : Nat, g < 40 ∧ GrabAt L g ∧ r = .returned (.tuple #[.int .i64 g, .int .i64 0])) ∧ Below w.heap.size w w' := by
  have hs := h
  obtain ⟨b, off, cap, rfl, hcp, hlt, hcell⟩ := h.open (slotsE_parts hE).1
  exact grab_at b off cap _ L w rfl (slotsE_parts hE).1 (slotsE_parts hE).2 hlt hcell hs hE

/-- How many are not free. -/
def usedN (L : List SlotD) : Nat := L.countP (fun s => s.1 != 0)
theorem usedN_take_succ {L : List SlotD} {k : Nat} (h : k < L.length) : usedN (L.take (k + 1)) = usedN (L.take k) + if (L[k].1 != 0) = true then 1 else 0 := by
  unfold usedN
  rw [List.take_succ_eq_append_getElem h, List.countP_append]
  simp [List.countP_cons]
theorem usedN_le (L : List SlotD) : usedN L ≤ L.length := List.countP_le_length

set_option maxHeartbeats 1000000 in
theorem used_at (b off cap n : Nat) (L : List SlotD) (w : World) (hn : L.length = n) (h1 : 1 ≤ n) (h40 : n ≤ 40) (hlt : b < w.heap.size) (hc : ∀ j, (h : j < L.length) → SlAt w b (off + j * 3) L[j]) (hs : Slots w (.slice (some ⟨b, off, none⟩) n cap) L) (hE : slotsE L = 0) :
    Calls Try.prog 29 #[.slice (some ⟨b, off, none⟩) n cap] w fun r w' => r = .returned (.tuple #[.int .i64 (usedN L), .int .i64 0]) ∧ Below w.heap.size w w' := by
  have HC : Hid (∀ j, (h : j < L.length) → SlAt w b (off + j * 3) L[j]) := hc
  have HN : Hid (L.length = n) := hn
  have HE : Hid (slotsE L = 0) := hE
  clear hc hn hE
  go_enter Try.func29, Try.ntmps29
  go_wp2_with (go_at_call 42; refine (checkAll_any _ L _ hs).mono ?_; rintro e w1 ⟨he, b1⟩; rw [HE.out] at he; subst he)
  go_loopw [5, 15] (fun m i wr => ∃ k u : Nat, k ≤ n ∧ u ≤ k ∧ i = .int .i64 k ∧ m = .int .i64 u ∧ Hid (u = usedN (L.take k)) ∧ Below w.heap.size w wr) (fun _ i _ => n - (intOf i).toNat)
  case atStart => exact ⟨0, 0, by omega, by omega, rfl, rfl, rfl, b1⟩
  case round =>
    obtain ⟨k, u, hk, hu, rfl, rfl, HU, hbel⟩ := hrel
    by_cases hlk : k < n
    · obtain ⟨s, hs'⟩ : ∃ s, s = L[k]'(by rw [HN.out]; exact hlk) := ⟨_, rfl⟩
      obtain ⟨kk, dd, tt⟩ := s
      have hS : SlAt w b (off + k * 3) (kk, dd, tt) := by rw [hs']; exact HC.out k _
      obtain ⟨tv, c1, c2, c3, hsl⟩ := hS
      obtain ⟨ta, tc, htv⟩ := hsl.form
      subst htv
      have c1 : wr.cell? ⟨b, off + k * 3, none⟩ = some (.int .i64 kk) := (hbel.cell (p := ⟨b, off + k * 3, none⟩) hlt).trans c1
      have c2 : wr.cell? ⟨b, off + k * 3 + 1, none⟩ = some (.string dd) := (hbel.cell (p := ⟨b, off + k * 3 + 1, none⟩) hlt).trans c2
      have c3 : wr.cell? ⟨b, off + k * 3 + 1 + 1, none⟩ = some (.slice ta tt.length tc) := (hbel.cell (p := ⟨b, off + k * 3 + 1 + 1, none⟩) hlt).trans c3
      have HS : Hid ((kk, dd, tt) = L[k]'(by rw [HN.out]; exact hlk)) := hs'
      have hstep := usedN_take_succ (L := L) (k := k) (by rw [HN.out]; exact hlk)
      rw [← hs'] at hstep
      have HT : Hid (usedN (L.take (k + 1)) = usedN (L.take k) + if (kk != 0) = true then 1 else 0) := hstep
      clear hs' hsl hstep
      by_cases h0 : kk = 0
      · have h0' : (kk != 0) = false := by simp [h0]
        have H0 : Hid (kk = 0) := h0
        clear h0
        go_wp2
        go_roundw
        case rel => exact ⟨k + 1, u, by omega, by omega, by go_num, rfl, by show _ = _; rw [HT.out, ← HU.out, H0.out]; rfl, hbel.alloc hbel.size _⟩
        case measure => simp [intOf]; omega
      · have h0' : (kk != 0) = true := by simp [h0]
        go_wp2
        go_roundw
        case rel => exact ⟨k + 1, u + 1, by omega, by omega, by go_num, by go_num, by show _ = _; rw [HT.out, ← HU.out, h0', if_pos rfl], hbel.alloc hbel.size _⟩
        case measure => simp [intOf]; omega
    · have e4 : k = n := by omega
      subst e4
      have HU' : Hid (u = usedN L) := by show _ = _; rw [HU.out, List.take_of_length_le (by rw [HN.out]; exact Nat.le_refl _)]
      clear HU
      go_wp2
      go_ret2
      exact ⟨by rw [← HU'.out]; rfl, hbel⟩

theorem used_ok (v : Value) (L : List SlotD) (w : World) (h : Slots w v L) (hE : slotsE L = 0) :
    Calls Try.prog 29 #[v] w fun r w' => r = .returned (.tuple #[.int .i64 (usedN L), .int .i64 0]) ∧ Below w.heap.size w w' := by
  have hs := h
  obtain ⟨b, off, cap, rfl, hcp, hlt, hcell⟩ := h.open (slotsE_parts hE).1
  exact used_at b off cap _ L w rfl (slotsE_parts hE).1 (slotsE_parts hE).2 hlt hcell hs hE
/-- There always is such a number. -/
theorem grab_ex (L : List SlotD) (h1 : 1 ≤ L.length) : ∃ g, GrabAt L g := by
  have : ∀ m k : Nat, k + m = L.length → 1 ≤ k → (∀ j, (h : j < L.length) → 1 ≤ j → j < k → (L[j]).1 ≠ 0) → ∃ g, GrabAt L g := by
    intro m
    induction m with
    | zero => intro k hk h1 ha; exact ⟨k, h1, by omega, ha, fun h => absurd h (by omega)⟩
    | succ m ih =>
      intro k hk h1 ha
      have hl : k < L.length := by omega
      by_cases h0 : (L[k]).1 = 0
      · exact ⟨k, h1, by omega, ha, fun _ => h0⟩
      · refine ih (k + 1) (by omega) (by omega) fun j h hj hj' => ?_
        by_cases e : j = k
        · subst e; exact h0
        · exact ha j h hj (by omega)
  exact this (L.length - 1) 1 (by omega) (Nat.le_refl _) fun j h hj hj' => absurd hj' (by omega)

end Go.Proofs.Ytjdccigmfainjaa
