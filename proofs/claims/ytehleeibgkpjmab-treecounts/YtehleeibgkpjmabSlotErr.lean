/- Contracts of the document's SlotFine, SlotsError. -/
import Derived.Test.YtehleeibgkpjmabUsed
import Derived.Test.YtehleeibgkpjmabBareIn
namespace Go.Proofs.Ytehleeibgkpjmab
open Go.RowKit
set_option maxRecDepth 20000

theorem slotOK_0 (d : ByteArray) (xs : List Int) : slotOK 0 d xs = decide (d.size = 0 ∧ xs.length = 0) := rfl
theorem slotOK_1 (d : ByteArray) (xs : List Int) : slotOK 1 d xs = decide (d.size = 4 ∧ xs.length = 0) := rfl
theorem slotOK_2 (d : ByteArray) (xs : List Int) : slotOK 2 d xs = decide (ckE xs = 0 ∧ bareE xs = false ∧ d.size = 0) := rfl
theorem slotOK_2' (d : ByteArray) (xs : List Int) : slotOK 2 d xs = true ↔ (d.size = 0 ∧ ckE xs = 0 ∧ bareL xs = false) := by
  rw [slotOK_2]
  by_cases h : ckE xs = 0 <;> simp [bareE, h, and_comm]

theorem beq_lit {k : Int} {c : Int} (h : k ≠ c) : (k == c) = false := by simpa using h

set_option maxHeartbeats 1000000 in
theorem slotFine_at (k : Int) (d : ByteArray) (ta : Option Addr) (tn tc : Nat) (xs : List Int) (w : World) (h : Sl w (.slice ta tn tc) xs) :
    Calls Try.prog 64 #[.agg #[.int .i64 k, .string d, .slice ta tn tc]] w fun r w' => r = .returned (.bool (slotOK k d xs)) ∧ Below w.heap.size w w' := by
  have hs := h.past (.cells #[.int .i64 k, .string d, .slice ta tn tc] 29)
  have hl : xs.length = tn := h.cells.1
  have HL : Hid (xs.length = tn) := hl
  have b0 : Below w.heap.size w (w.alloc (.cells #[.int .i64 k, .string d, .slice ta tn tc] 29)) := (Below.refl _ _).alloc (Nat.le_refl _) _
  clear hl
  by_cases h0 : k = 0
  · subst h0
    by_cases hd : d.size = 0
    · have hd1 : d.toList.isEmpty = true := by rw [ba_isEmpty]; simp [hd]
      have HD : Hid (d.size = 0) := hd
      clear hd
      go_enter Try.func64, Try.ntmps64
      go_wp2
      go_ret
      exact ⟨ret_bool (by rw [slotOK_0]; simp [HD.out, ← HL.out]), b0⟩
    · have hd1 : d.toList.isEmpty = false := by rw [ba_isEmpty]; simp [hd]
      go_enter Try.func64, Try.ntmps64
      go_wp2
      go_ret
      exact ⟨ret_bool (by rw [slotOK_0]; simp [hd]), b0⟩
  by_cases h1 : k = 1
  · subst h1
    clear h0
    by_cases hd : d.size = 4
    · have hd1 : ((d.size : Int) == 4) = true := by simp; omega
      have HD : Hid (d.size = 4) := hd
      clear hd
      go_enter Try.func64, Try.ntmps64
      go_wp2
      go_ret
      exact ⟨ret_bool (by rw [slotOK_1]; simp [HD.out, ← HL.out]), b0⟩
    · have hd1 : ((d.size : Int) == 4) = false := by simp; omega
      go_enter Try.func64, Try.ntmps64
      go_wp2
      go_ret
      exact ⟨ret_bool (by rw [slotOK_1]; simp [hd]), b0⟩
  by_cases h2 : k = 2
  · subst h2
    clear h0 h1
    by_cases hd : d.size = 0
    · have hd1 : d.toList.isEmpty = true := by rw [ba_isEmpty]; simp [hd]
      have HD : Hid (d.size = 0) := hd
      clear hd
      rcases ckE_01 xs with hc | hc
      · have HK : Hid (ckE xs = 0) := hc
        go_enter Try.func64, Try.ntmps64
        go_wp2_with (first | (go_at_call 15; refine (checkOf_any _ xs _ hs).mono ?_; rintro e w' ⟨rfl, rfl⟩) | (go_at_call 39; refine (bareIn_any _ xs _ hs).mono ?_; rintro e w' ⟨rfl, rfl⟩))
        go_ret
        exact ⟨ret_bool (by rw [slotOK_2']; simp [HD.out, HK.out]), b0⟩
      · have HK : Hid (ckE xs = 1) := hc
        go_enter Try.func64, Try.ntmps64
        go_wp2_with (first | (go_at_call 15; refine (checkOf_any _ xs _ hs).mono ?_; rintro e w' ⟨rfl, rfl⟩))
        go_ret
        exact ⟨ret_bool (by rw [slotOK_2']; simp [HK.out]), b0⟩
    · have hd1 : d.toList.isEmpty = false := by rw [ba_isEmpty]; simp [hd]
      go_enter Try.func64, Try.ntmps64
      go_wp2
      go_ret
      exact ⟨ret_bool (by rw [slotOK_2']; simp [hd]), b0⟩
  · have HF : Hid (slotOK k d xs = false) := by show _ = _; unfold slotOK; rw [if_neg h0, if_neg h1, if_neg h2]
    have e0 := beq_lit h0
    have e1 := beq_lit h1
    have e2 := beq_lit h2
    clear h0 h1 h2
    go_enter Try.func64, Try.ntmps64
    go_wp2
    go_ret
    exact ⟨by rw [HF.out]; rfl, b0⟩

theorem slotFine_any (k : Int) (d : ByteArray) (tv : Value) (xs : List Int) (w : World) (h : Sl w tv xs) :
    Calls Try.prog 64 #[.agg #[.int .i64 k, .string d, tv]] w fun r w' => r = .returned (.bool (slotOK k d xs)) ∧ Below w.heap.size w w' := by
  obtain ⟨ao, cap, rfl⟩ := h.form
  exact slotFine_at k d ao _ cap xs w h

set_option maxHeartbeats 1000000 in
theorem slotsError_at (b off cap n : Nat) (L : List SlotD) (w : World) (hn : L.length = n) (h1 : 1 ≤ n) (h40 : n ≤ 40) (hlt : b < w.heap.size) (hc : ∀ j, (h : j < L.length) → SlAt w b (off + j * 3) L[j]) :
    Calls Try.prog 45 #[.slice (some ⟨b, off, none⟩) n cap] w fun r w' => r = .returned (.int .i64 (slotsE L)) ∧ Below w.heap.size w w' := by
  have HC : Hid (∀ j, (h : j < L.length) → SlAt w b (off + j * 3) L[j]) := hc
  have HN : Hid (L.length = n) := hn
  clear hc hn
  have g1 : (1 : Int) ≤ (n : Int) := by omega
  have g2 : (n : Int) ≤ (40 : Int) := by omega
  go_enter Try.func45, Try.ntmps45
  go_wp2_with (go_at_call 38; refine (within_any _ _ _ _).mono ?_; rintro e w' ⟨rfl, hw⟩; subst hw)
  go_loopw [3] (fun i wr => ∃ k : Nat, k ≤ n ∧ i = .int .i64 k ∧ (∀ j, (h : j < L.length) → j < k → okD L[j] = true) ∧ Below w'.heap.size w' wr) (fun i _ => n - (intOf i).toNat)
  case atStart => exact ⟨0, Nat.zero_le _, rfl, fun j h hj => absurd hj (by omega), Below.refl _ _⟩
  case round =>
    obtain ⟨k, hk, rfl, hall, hbel⟩ := hrel
    have HA : Hid (∀ j, (h : j < L.length) → j < k → okD L[j] = true) := hall
    clear hall
    by_cases hlk : k < n
    · obtain ⟨s, hs⟩ : ∃ s, s = L[k]'(by rw [HN.out]; exact hlk) := ⟨_, rfl⟩
      obtain ⟨kk, dd, tt⟩ := s
      have hS : SlAt w' b (off + k * 3) (kk, dd, tt) := by rw [hs]; exact HC.out k _
      obtain ⟨tv, c1, c2, c3, hsl⟩ := hS
      obtain ⟨ta, tc, htv⟩ := hsl.form
      subst htv
      have HS : Hid ((kk, dd, tt) = L[k]'(by rw [HN.out]; exact hlk)) := hs
      have c1 : wr.cell? ⟨b, off + k * 3, none⟩ = some (.int .i64 kk) := (hbel.cell (p := ⟨b, off + k * 3, none⟩) hlt).trans c1
      have c2 : wr.cell? ⟨b, off + k * 3 + 1, none⟩ = some (.string dd) := (hbel.cell (p := ⟨b, off + k * 3 + 1, none⟩) hlt).trans c2
      have c3 : wr.cell? ⟨b, off + k * 3 + 1 + 1, none⟩ = some (.slice ta tt.length tc) := (hbel.cell (p := ⟨b, off + k * 3 + 1 + 1, none⟩) hlt).trans c3
      have hslr : Sl wr (.slice ta tt.length tc) tt := hsl.below hbel
      clear hs hsl
      cases hE : slotOK kk dd tt with
      | true =>
        go_wp2_with fail
        refine (slotFine_any kk dd _ tt _ hslr).mono ?_
        rintro e w2 ⟨rfl, b2⟩
        go_wp2_with fail
        go_roundw
        case rel => exact ⟨k + 1, by omega, by go_num, fun j h hj => by
          by_cases e : j = k
          · subst e; rw [← HS.out]; exact hE
          · exact HA.out j h (by omega), Below.on hbel b2⟩
        case measure => simp [intOf]; omega
      | false =>
        go_wp2_with fail
        refine (slotFine_any kk dd _ tt _ hslr).mono ?_
        rintro e w2 ⟨rfl, b2⟩
        go_wp2_with fail
        go_ret
        exact ⟨ret_int (slotsE_bad (by rw [HN.out]; exact h1) (by rw [HN.out]; exact h40) (by rw [HN.out]; exact hlk) (by rw [← HS.out]; exact hE)).symm, Below.on hbel b2⟩
    · have e4 : k = n := by omega
      subst e4
      obtain ⟨s, hs⟩ : ∃ s, s = L[0]'(by rw [HN.out]; exact h1) := ⟨_, rfl⟩
      obtain ⟨kk, dd, tt⟩ := s
      have hS : SlAt w' b (off + 0 * 3) (kk, dd, tt) := by rw [hs]; exact HC.out 0 _
      obtain ⟨tv, c1, _, _, _⟩ := hS
      have c1 : wr.cell? ⟨b, off, none⟩ = some (.int .i64 kk) := (hbel.cell (p := ⟨b, off, none⟩) hlt).trans (by simpa using c1)
      have HS : Hid ((kk, dd, tt) = L[0]'(by rw [HN.out]; exact h1)) := hs
      clear hs
      by_cases h0 : kk = 0
      · have h0' : (kk != 0) = false := by simp [h0]
        have H0 : Hid (kk = 0) := h0
        clear h0
        go_wp2_with fail
        go_ret
        exact ⟨ret_int (slotsE_ok (by rw [HN.out]; exact h1) (by rw [HN.out]; exact h40) (fun j h => HA.out j h (by rw [HN.out] at h; exact h)) (by rw [← HS.out]; exact H0.out)).symm, hbel⟩
      · have h0' : (kk != 0) = true := by simp [h0]
        go_wp2_with fail
        go_ret
        exact ⟨ret_int (slotsE_head (by rw [HN.out]; exact h1) (by rw [HN.out]; exact h40) (by rw [← HS.out]; exact h0)).symm, hbel⟩

theorem slotsError_no (ao : Option Addr) (n cap : Nat) (w : World) (h : decide ((1 : Int) ≤ (n : Int) ∧ (n : Int) ≤ 40) = false) :
    Calls Try.prog 45 #[.slice ao n cap] w fun r w' => r = .returned (.int .i64 2) ∧ Below w.heap.size w w' := by
  go_enter Try.func45, Try.ntmps45
  go_wp2_with (go_at_call 38; refine (within_any _ _ _ _).mono ?_; rintro e w' ⟨rfl, hw⟩; subst hw; rw [h])
  go_ret
  exact ⟨rfl, Below.refl _ _⟩

theorem slotsError_any (v : Value) (L : List SlotD) (w : World) (h : Slots w v L) :
    Calls Try.prog 45 #[v] w fun r w' => r = .returned (.int .i64 (slotsE L)) ∧ Below w.heap.size w w' := by
  obtain ⟨ao, cap, rfl, hm, hcp, hc⟩ := h
  by_cases hn : 1 ≤ L.length ∧ L.length ≤ 40
  · obtain ⟨b, off, rfl, hlt, hcell⟩ := hc (by intro e; rw [e] at hn; simp at hn)
    exact slotsError_at b off cap _ L w rfl hn.1 hn.2 hlt hcell
  · have e : slotsE L = 2 := by unfold slotsE; rw [if_neg hn]
    rw [e]
    exact slotsError_no ao _ cap w (by simp; omega)
theorem slotsError_is {v : Value} {L : List SlotD} {w : World} (h : Slots w v L) {E : Int} (hE : slotsE L = E) :
    Calls Try.prog 45 #[v] w fun r w' => r = .returned (.int .i64 E) ∧ Below w.heap.size w w' := by subst hE; exact slotsError_any v L w h

end Go.Proofs.Ytehleeibgkpjmab
