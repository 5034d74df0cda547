/- The walk of SlotsFree. -/
import Derived.Test.YtehleeibgkpjmabSlBegun
namespace Go.Proofs.Ytehleeibgkpjmab
open Go.RowKit
set_option maxRecDepth 20000

theorem slotsE_zero {L : List SlotD} (h : slotsE L = 0) : (L[0]'(slotsE_parts h).1).1 = 0 := by
  have hp := slotsE_parts h
  have h' := h
  unfold slotsE at h'
  rw [if_pos hp] at h'
  split at h'
  · rename_i g
    rw [headD_eq hp.1] at g
    exact g.2
  · simp at h'

theorem used_full {L : List SlotD} (h : slotsE L = 0) (hg : GrabAt L 40) : usedN L = 39 := by
  have h0 := slotsE_zero h
  have hp := slotsE_parts h
  obtain ⟨_, h2, h3, _⟩ := hg
  have hl : L.length = 40 := by omega
  cases L with
  | nil => simp at hl
  | cons s r =>
    have hr : r.length = 39 := by simpa using hl
    have hs : s.1 = 0 := h0
    unfold usedN
    rw [List.countP_cons, hs]
    have : r.countP (fun s => s.1 != 0) = r.length := by
      rw [List.countP_eq_length]
      intro a ha
      obtain ⟨j, hj, rfl⟩ := List.getElem_of_mem ha
      have := h3 (j + 1) (by simp; omega) (by omega) (by omega)
      simpa using this
    rw [this, hr]
    rfl

set_option maxHeartbeats 1000000 in
theorem free_bad (v : Value) (L : List SlotD) (E : Int) (w : World) (h : Slots w v L) (hE : slotsE L = E) (hne : (E != 0) = true) :
    Calls Try.prog 3 #[v] w fun r w' => r = .returned (.bool true) ∧ Below w.heap.size w w' := by
  have HE : Hid (slotsE L = E) := hE
  clear hE
  go_enter Try.func3, Try.ntmps3
  go_wp2_with fail
  refine (grab_bad v L E _ h HE.out hne).mono ?_
  rintro e w1 ⟨rfl, b1⟩
  have h := h.below b1
  go_wp2_with fail
  refine (used_bad v L E _ h HE.out hne).mono ?_
  rintro e w2 ⟨rfl, b2⟩
  have b2 := Below.on b1 b2
  go_wp2_with fail
  refine (sbegun_any _).mono ?_
  rintro e w3 ⟨rfl, b3⟩
  have b3 := Below.on b2 b3
  go_wp2_with fail
  go_ret
  exact ⟨rfl, b3⟩

set_option maxHeartbeats 1000000 in
theorem free_full (v : Value) (L : List SlotD) (w : World) (h : Slots w v L) (hE : slotsE L = 0) (hg : GrabAt L 40) :
    Calls Try.prog 3 #[v] w fun r w' => r = .returned (.bool true) ∧ Below w.heap.size w w' := by
  have H : Hid (slotsE L = 0 ∧ GrabAt L 40 ∧ usedN L = 39) := ⟨hE, hg, used_full hE hg⟩
  clear hE hg
  go_enter Try.func3, Try.ntmps3
  go_wp2_with fail
  refine (grab_full h H.out.1 H.out.2.1).mono ?_
  rintro e w1 ⟨rfl, b1⟩
  have h := h.below b1
  go_wp2_with fail
  refine (used_is h H.out.1 H.out.2.2).mono ?_
  rintro e w2 ⟨rfl, b2⟩
  have b2 := Below.on b1 b2
  go_wp2_with fail
  refine (sbegun_any _).mono ?_
  rintro e w3 ⟨rfl, b3⟩
  have b3 := Below.on b2 b3
  go_wp2_with fail
  go_ret
  exact ⟨rfl, b3⟩

set_option maxHeartbeats 1000000 in
theorem free_at (b off cap n g : Nat) (L : List SlotD) (w : World) (hn : L.length = n) (hlt : b < w.heap.size) (hc : ∀ j, (h : j < L.length) → SlAt w b (off + j * 3) L[j]) (h : Slots w (.slice (some ⟨b, off, none⟩) n cap) L) (hE : slotsE L = 0) (hg : GrabAt L g) (hg40 : g < 40) (h40 : n ≤ 40) :
    Calls Try.prog 3 #[.slice (some ⟨b, off, none⟩) n cap] w fun r w' => r = .returned (.bool true) ∧ Below w.heap.size w w' := by
  have H : Hid (slotsE L = 0 ∧ GrabAt L g ∧ L.length = n) := ⟨hE, hg, hn⟩
  have HC : Hid (∀ j, (h : j < L.length) → SlAt w b (off + j * 3) L[j]) := hc
  have hg1 : (1 : Int) ≤ (g : Int) := by have := hg.1; omega
  have hgn : (g : Int) ≤ (n : Int) := by have := hg.2.1; omega
  have hgn' : g ≤ n := by omega
  have q1 : ¬ (g : Int) < 1 := by omega
  have q2 : ¬ (n : Int) < (g : Int) := by omega
  clear hE hg hn hc
  go_enter Try.func3, Try.ntmps3
  go_wp2_with fail
  refine (grab_is h H.out.1 H.out.2.1 hg40).mono ?_
  rintro e w1 ⟨rfl, b1⟩
  have h := h.below b1
  go_wp2_with fail
  refine (used_is h H.out.1 rfl).mono ?_
  rintro e w2 ⟨rfl, b2⟩
  have b2 := Below.on b1 b2
  clear b1 h
  by_cases hgl : g < n
  · have hgl' : (g : Int) < (n : Int) := by omega
    have c0 : w2.cell? ⟨b, off + g * 3, none⟩ = some (.int .i64 0) := by
      have hl : g < L.length := by rw [H.out.2.2]; exact hgl
      obtain ⟨tv, c1, _⟩ := HC.out g hl
      rw [H.out.2.1.2.2.2 hl] at c1
      exact (b2.cell (p := ⟨b, off + g * 3, none⟩) hlt).trans c1
    go_wp2_with fail
    go_loop [7] (fun i => ∃ k : Nat, 1 ≤ k ∧ k ≤ g ∧ i = .int .i64 k) (fun i => g - (intOf i).toNat)
    case atStart => exact ⟨1, Nat.le_refl _, by omega, rfl⟩
    case round =>
      obtain ⟨k, hk1, hk, rfl⟩ := hrel
      by_cases hlk : k < g
      · have hl : k < L.length := by rw [H.out.2.2]; omega
        obtain ⟨s, hs⟩ : ∃ s, s = (L[k]'hl).1 := ⟨_, rfl⟩
        obtain ⟨tv, c1, _⟩ := HC.out k hl
        rw [← hs] at c1
        have c1 : w2.cell? ⟨b, off + k * 3, none⟩ = some (.int .i64 s) := (b2.cell (p := ⟨b, off + k * 3, none⟩) hlt).trans c1
        have hs0 : (s == 0) = false := by rw [hs]; simpa using H.out.2.1.2.2.1 k hl hk1 hlk
        have hki : (k : Int) < (g : Int) := by omega
        clear hs
        go_wp2_with fail
        go_round
        case rel => exact ⟨k + 1, by omega, by omega, by go_num⟩
        case measure => simp [intOf]; omega
      · have e4 : k = g := by omega
        subst e4
        go_wp2_with fail
        refine (sbegun_any _).mono ?_
        rintro e w3 ⟨rfl, b3⟩
        have b3 := Below.on b2 b3
        go_wp2_with fail
        go_ret
        exact ⟨rfl, b3⟩
  · have hgl' : ¬ (g : Int) < (n : Int) := by omega
    go_wp2_with fail
    go_loop [7] (fun i => ∃ k : Nat, 1 ≤ k ∧ k ≤ g ∧ i = .int .i64 k) (fun i => g - (intOf i).toNat)
    case atStart => exact ⟨1, Nat.le_refl _, by omega, rfl⟩
    case round =>
      obtain ⟨k, hk1, hk, rfl⟩ := hrel
      by_cases hlk : k < g
      · have hl : k < L.length := by rw [H.out.2.2]; omega
        obtain ⟨s, hs⟩ : ∃ s, s = (L[k]'hl).1 := ⟨_, rfl⟩
        obtain ⟨tv, c1, _⟩ := HC.out k hl
        rw [← hs] at c1
        have c1 : w2.cell? ⟨b, off + k * 3, none⟩ = some (.int .i64 s) := (b2.cell (p := ⟨b, off + k * 3, none⟩) hlt).trans c1
        have hs0 : (s == 0) = false := by rw [hs]; simpa using H.out.2.1.2.2.1 k hl hk1 hlk
        have hki : (k : Int) < (g : Int) := by omega
        clear hs
        go_wp2_with fail
        go_round
        case rel => exact ⟨k + 1, by omega, by omega, by go_num⟩
        case measure => simp [intOf]; omega
      · have e4 : k = g := by omega
        subst e4
        go_wp2_with fail
        refine (sbegun_any _).mono ?_
        rintro e w3 ⟨rfl, b3⟩
        have b3 := Below.on b2 b3
        go_wp2_with fail
        go_ret
        exact ⟨rfl, b3⟩

theorem free_any (v : Value) (L : List SlotD) (w : World) (h : Slots w v L) :
    Calls Try.prog 3 #[v] w fun r w' => r = .returned (.bool true) ∧ Below w.heap.size w w' := by
  by_cases hE : slotsE L = 0
  · obtain ⟨hl1, hl40⟩ := slotsE_parts hE
    obtain ⟨g, hg⟩ := grab_ex L hl1
    by_cases h40 : g = 40
    · subst h40; exact free_full v L w h hE hg
    · have hs := h
      obtain ⟨b, off, cap, rfl, hcp, hlt, hcell⟩ := h.open hl1
      exact free_at b off cap _ g L w rfl hlt hcell hs hE hg (by have := hg.2.1; omega) hl40
  · exact free_bad v L _ w h rfl (by simpa using hE)
end Go.Proofs.Ytehleeibgkpjmab
