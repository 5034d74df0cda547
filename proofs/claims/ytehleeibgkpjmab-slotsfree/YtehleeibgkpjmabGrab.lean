/- Contract of Grab. -/
import Derived.Test.YtehleeibgkpjmabUsed
namespace Go.Proofs.Ytehleeibgkpjmab
open Go.RowKit
set_option maxRecDepth 20000

/-- The number that Grab comes to: the least one from 1 on of a slot that is free, or how many there are. -/
def GrabAt (L : List SlotD) (g : Nat) : Prop := 1 ≤ g ∧ g ≤ L.length ∧ (∀ j, (h : j < L.length) → 1 ≤ j → j < g → (L[j]).1 ≠ 0) ∧ ∀ h : g < L.length, (L[g]).1 = 0
theorem GrabAt.unique {L : List SlotD} {g g' : Nat} (h : GrabAt L g) (k : GrabAt L g') : g = g' := by
  obtain ⟨h1, h2, h3, h4⟩ := h
  obtain ⟨k1, k2, k3, k4⟩ := k
  rcases Nat.lt_trichotomy g g' with e | e | e
  · exact absurd (h4 (by omega)) (k3 g (by omega) h1 e)
  · exact e
  · exact absurd (k4 (by omega)) (h3 g' (by omega) k1 e)

theorem grab_bad (v : Value) (L : List SlotD) (E : Int) (w : World) (h : Slots w v L) (hE : slotsE L = E) (hne : (E != 0) = true) :
    Calls Try.prog 9 #[v] w fun r w' => r = .returned (.tuple #[.int .i64 0, .int .i64 E]) ∧ Below w.heap.size w w' := by
  have HE : Hid (slotsE L = E) := hE
  clear hE
  go_enter Try.func9, Try.ntmps9
  go_wp2_with (go_at_call 33; refine (checkAll_any _ L _ h).mono ?_; rintro e w1 ⟨he, b1⟩; rw [HE.out] at he; subst he)
  go_ret2
  exact ⟨rfl, b1⟩

set_option maxHeartbeats 1000000 in
theorem grab_at (b off cap n : Nat) (L : List SlotD) (w : World) (hn : L.length = n) (h1 : 1 ≤ n) (h40 : n ≤ 40) (hlt : b < w.heap.size) (hc : ∀ j, (h : j < L.length) → SlAt w b (off + j * 3) L[j]) (hs : Slots w (.slice (some ⟨b, off, none⟩) n cap) L) (hE : slotsE L = 0) :
    Calls Try.prog 9 #[.slice (some ⟨b, off, none⟩) n cap] w fun r w' => ((GrabAt L 40 ∧ r = .returned (.tuple #[.int .i64 0, .int .i64 7])) ∨ ∃ g : Nat, g < 40 ∧ GrabAt L g ∧ r = .returned (.tuple #[.int .i64 g, .int .i64 0])) ∧ Below w.heap.size w w' := by
  have HC : Hid (∀ j, (h : j < L.length) → SlAt w b (off + j * 3) L[j]) := hc
  have HN : Hid (L.length = n) := hn
  have HE : Hid (slotsE L = 0) := hE
  clear hc hn hE
  go_enter Try.func9, Try.ntmps9
  go_wp2_with (go_at_call 33; refine (checkAll_any _ L _ hs).mono ?_; rintro e w1 ⟨he, b1⟩; rw [HE.out] at he; subst he)
  go_loop [5] (fun i => ∃ k : Nat, 1 ≤ k ∧ k ≤ n ∧ i = .int .i64 k ∧ ∀ j, (h : j < L.length) → 1 ≤ j → j < k → (L[j]).1 ≠ 0) (fun i => n - (intOf i).toNat)
  case atStart => exact ⟨1, Nat.le_refl _, h1, rfl, fun j h hj hj' => absurd hj' (by omega)⟩
  case round =>
    obtain ⟨k, hk1, hk, rfl, hall⟩ := hrel
    have HA : Hid (∀ j, (h : j < L.length) → 1 ≤ j → j < k → (L[j]).1 ≠ 0) := hall
    clear hall
    have fin : ∀ g : Nat, GrabAt L g → g = k → ((GrabAt L 40 ∧ (k : Int) = 40) ∨ (k : Int) ≠ 40) := fun g hg e => by
      subst e
      by_cases e : (g : Int) = 40
      · have : g = 40 := by omega
        subst this; exact .inl ⟨hg, rfl⟩
      · exact .inr e
    have HF : Hid (∀ g : Nat, GrabAt L g → g = k → ((GrabAt L 40 ∧ (k : Int) = 40) ∨ (k : Int) ≠ 40)) := fin
    clear fin
    by_cases hlk : k < n
    · obtain ⟨s, hs'⟩ : ∃ s, s = L[k]'(by rw [HN.out]; exact hlk) := ⟨_, rfl⟩
      obtain ⟨kk, dd, tt⟩ := s
      have hS : SlAt w b (off + k * 3) (kk, dd, tt) := by rw [hs']; exact HC.out k _
      obtain ⟨tv, c1, _, _, _⟩ := hS
      have c1 : w1.cell? ⟨b, off + k * 3, none⟩ = some (.int .i64 kk) := (b1.cell (p := ⟨b, off + k * 3, none⟩) hlt).trans c1
      have HS : Hid ((kk, dd, tt) = L[k]'(by rw [HN.out]; exact hlk)) := hs'
      clear hs'
      have hki : (k : Int) < (n : Int) := by omega
      by_cases h0 : kk = 0
      · have h0' : (kk != 0) = false := by simp [h0]
        have H0 : Hid (kk = 0) := h0
        clear h0
        have hne : ((k : Int) == 40) = false := by simp; omega
        have HG : Hid (GrabAt L k) := ⟨hk1, by rw [HN.out]; exact hk, HA.out, fun h => by rw [← HS.out]; exact H0.out⟩
        go_wp2
        go_ret2
        exact ⟨.inr ⟨k, by omega, HG.out, rfl⟩, b1⟩
      · have h0' : (kk != 0) = true := by simp [h0]
        go_wp2
        go_round
        case rel => exact ⟨k + 1, by omega, by omega, by go_num, fun j h hj hj' => by
          by_cases e : j = k
          · subst e; rw [← HS.out]; exact h0
          · exact HA.out j h hj (by omega)⟩
        case measure => simp [intOf]; omega
    · have e4 : k = n := by omega
      subst e4
      have HG : Hid (GrabAt L k) := ⟨hk1, by rw [HN.out]; exact hk, HA.out, fun h => absurd h (by rw [HN.out]; omega)⟩
      by_cases e40 : k = 40
      · subst e40
        go_wp2
        go_ret2
        exact ⟨.inl ⟨HG.out, rfl⟩, b1⟩
      · have hne : ((k : Int) == 40) = false := by simp; omega
        go_wp2
        go_ret2
        exact ⟨.inr ⟨k, by omega, HG.out, rfl⟩, b1⟩

theorem grab_ok (v : Value) (L : List SlotD) (w : World) (h : Slots w v L) (hE : slotsE L = 0) :
    Calls Try.prog 9 #[v] w fun r w' => ((GrabAt L 40 ∧ r = .returned (.tuple #[.int .i64 0, .int .i64 7])) ∨ ∃ g : Nat, g < 40 ∧ GrabAt L g ∧ r = .returned (.tuple #[.int .i64 g, .int .i64 0])) ∧ Below w.heap.size w w' := by
  have hs := h
  obtain ⟨b, off, cap, rfl, hcp, hlt, hcell⟩ := h.open (slotsE_parts hE).1
  exact grab_at b off cap _ L w rfl (slotsE_parts hE).1 (slotsE_parts hE).2 hlt hcell hs hE

/-- There always is such a number. -/
theorem grab_ex (L : List SlotD) (h1 : 1 ≤ L.length) : ∃ g, GrabAt L g := by
  have : ∀ m k : Nat, k + m = L.length → 1 ≤ k → (∀ j, (h : j < L.length) → 1 ≤ j → j < k → (L[j]).1 ≠ 0) → ∃ g, GrabAt L g := by
    intro m
    induction m with
    | zero => intro k hk h1 ha; exact ⟨k, h1, by omega, ha, fun h => absurd h (by omega)⟩
    | succ m ih =>
      intro k hk h1 ha
      have hl : k < L.length := by omega
      by_cases h0 : (L[k]).1 = 0
      · exact ⟨k, h1, by omega, ha, fun _ => h0⟩
      · refine ih (k + 1) (by omega) (by omega) fun j h hj hj' => ?_
        by_cases e : j = k
        · subst e; exact h0
        · exact ha j h hj (by omega)
  exact this (L.length - 1) 1 (by omega) (Nat.le_refl _) fun j h hj hj' => absurd hj' (by omega)

end Go.Proofs.Ytehleeibgkpjmab
