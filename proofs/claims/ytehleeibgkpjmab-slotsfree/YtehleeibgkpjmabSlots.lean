/- Lists of slots: what it means that a slice value holds them; contracts of checkAll, Grab, Used. -/
import Derived.Test.YtehleeibgkpjmabSlot
namespace Go.Proofs.Ytehleeibgkpjmab
open Go.RowKit
set_option maxRecDepth 20000

/-- A slot as data: kind, data, table. -/
abbrev SlotD : Type := Int × ByteArray × List Int
def okD (s : SlotD) : Bool := slotOK s.1 s.2.1 s.2.2

/-- The slot s lies in the world w from place off of block b on. -/
def SlAt (w : World) (b off : Nat) (s : SlotD) : Prop :=
  ∃ tv, w.cell? ⟨b, off, none⟩ = some (.int .i64 s.1) ∧ w.cell? ⟨b, off + 1, none⟩ = some (.string s.2.1) ∧ w.cell? ⟨b, off + 1 + 1, none⟩ = some tv ∧ Sl w tv s.2.2

def Slots (w : World) (v : Value) (L : List SlotD) : Prop :=
  ∃ ao cap, v = .slice ao L.length cap ∧ L.length ≤ maxLen ∧ L.length ≤ cap ∧ (L ≠ [] → ∃ b off, ao = some ⟨b, off, none⟩ ∧ b < w.heap.size ∧ ∀ j, (h : j < L.length) → SlAt w b (off + j * 3) L[j])

theorem SlAt.below {w w1 : World} {b off : Nat} {s : SlotD} (h : SlAt w b off s) (hlt : b < w.heap.size) (hb : Below w.heap.size w w1) : SlAt w1 b off s := by
  obtain ⟨tv, h1, h2, h3, h4⟩ := h
  exact ⟨tv, (hb.cell (p := ⟨b, off, none⟩) hlt).trans h1, (hb.cell (p := ⟨b, off + 1, none⟩) hlt).trans h2, (hb.cell (p := ⟨b, off + 1 + 1, none⟩) hlt).trans h3, h4.below hb⟩
theorem Slots.below {w w1 : World} {v : Value} {L : List SlotD} (h : Slots w v L) (hb : Below w.heap.size w w1) : Slots w1 v L := by
  obtain ⟨ao, cap, hv, hm, hcp, hc⟩ := h
  refine ⟨ao, cap, hv, hm, hcp, fun hne => ?_⟩
  obtain ⟨b, off, ha, hlt, hcell⟩ := hc hne
  exact ⟨b, off, ha, Nat.lt_of_lt_of_le hlt hb.size, fun j hj => (hcell j hj).below hlt hb⟩

/-- checkAll's answer. -/
def slotsE (L : List SlotD) : Int := if 1 ≤ L.length ∧ L.length ≤ 40 then (if L.all okD = true ∧ (L.headD default).1 = 0 then 0 else 1) else 2

theorem slotsE_bad {L : List SlotD} (h1 : 1 ≤ L.length) (h40 : L.length ≤ 40) {j : Nat} (hj : j < L.length) (h : okD L[j] = false) : slotsE L = 1 := by
  unfold slotsE
  rw [if_pos ⟨h1, h40⟩, if_neg]
  rintro ⟨ha, _⟩
  rw [List.all_eq_true] at ha
  have := ha _ (List.getElem_mem hj)
  rw [h] at this; cases this
theorem headD_eq {L : List SlotD} (h : 0 < L.length) : L.headD default = L[0] := by
  cases L with
  | nil => simp at h
  | cons a r => rfl
theorem slotsE_ok {L : List SlotD} (h1 : 1 ≤ L.length) (h40 : L.length ≤ 40) (h : ∀ j, (hj : j < L.length) → okD L[j] = true) (h0 : (L[0]'h1).1 = 0) : slotsE L = 0 := by
  unfold slotsE
  rw [if_pos ⟨h1, h40⟩, if_pos]
  refine ⟨?_, by rw [headD_eq h1]; exact h0⟩
  rw [List.all_eq_true]
  intro x hx
  obtain ⟨j, hj, rfl⟩ := List.getElem_of_mem hx
  exact h j hj
theorem slotsE_head {L : List SlotD} (h1 : 1 ≤ L.length) (h40 : L.length ≤ 40) (h0 : (L[0]'h1).1 ≠ 0) : slotsE L = 1 := by
  unfold slotsE
  rw [if_pos ⟨h1, h40⟩, if_neg]
  rintro ⟨_, hh⟩
  rw [headD_eq h1] at hh
  exact h0 hh

set_option maxHeartbeats 1000000 in
theorem checkAll_at (b off cap n : Nat) (L : List SlotD) (w : World) (hn : L.length = n) (h1 : 1 ≤ n) (h40 : n ≤ 40) (hlt : b < w.heap.size) (hc : ∀ j, (h : j < L.length) → SlAt w b (off + j * 3) L[j]) :
    Calls Try.prog 33 #[.slice (some ⟨b, off, none⟩) n cap] w fun r w' => r = .returned (.int .i64 (slotsE L)) ∧ Below w.heap.size w w' := by
  have HC : Hid (∀ j, (h : j < L.length) → SlAt w b (off + j * 3) L[j]) := hc
  have HN : Hid (L.length = n) := hn
  clear hc hn
  have g1 : ¬ (n : Int) < 1 := by omega
  have g2 : ¬ (40 : Int) < (n : Int) := by omega
  go_enter Try.func33, Try.ntmps33
  go_wp2_with (go_at_call 53; refine (rules_any _).mono ?_; rintro e w1 ⟨rfl, hr, b1, z1⟩; have HR : Hid (w1.heap[w.heap.size]? = some (.map RULES 3)) := hr; clear hr)
  go_loopw [17] (fun i wr => ∃ k : Nat, k ≤ n ∧ i = .int .i64 k ∧ (∀ j, (h : j < L.length) → j < k → okD L[j] = true) ∧ Hid (wr.heap[w.heap.size]? = some (.map RULES 3)) ∧ Below w.heap.size w wr ∧ w.heap.size < wr.heap.size) (fun i _ => n - (intOf i).toNat)
  case atStart => exact ⟨0, Nat.zero_le _, rfl, fun j h hj => absurd hj (by omega), HR, b1, by omega⟩
  case round =>
    obtain ⟨k, hk, rfl, hall, HRr, hbel, hsz⟩ := hrel
    have HA : Hid (∀ j, (h : j < L.length) → j < k → okD L[j] = true) := hall
    clear hall
    by_cases hlk : k < n
    · obtain ⟨s, hs⟩ : ∃ s, s = L[k]'(by rw [HN.out]; exact hlk) := ⟨_, rfl⟩
      obtain ⟨kk, dd, tt⟩ := s
      have hS : SlAt w b (off + k * 3) (kk, dd, tt) := by rw [hs]; exact HC.out k _
      obtain ⟨tv, c1, c2, c3, hsl⟩ := hS
      obtain ⟨ta, tc, htv⟩ := hsl.form
      subst htv
      have HS : Hid ((kk, dd, tt) = L[k]'(by rw [HN.out]; exact hlk)) := hs
      have c1 : wr.cell? ⟨b, off + k * 3, none⟩ = some (.int .i64 kk) := (hbel.cell (p := ⟨b, off + k * 3, none⟩) hlt).trans c1
      have c2 : wr.cell? ⟨b, off + k * 3 + 1, none⟩ = some (.string dd) := (hbel.cell (p := ⟨b, off + k * 3 + 1, none⟩) hlt).trans c2
      have c3 : wr.cell? ⟨b, off + k * 3 + 1 + 1, none⟩ = some (.slice ta tt.length tc) := (hbel.cell (p := ⟨b, off + k * 3 + 1 + 1, none⟩) hlt).trans c3
      have hslr : Sl wr (.slice ta tt.length tc) tt := hsl.below hbel
      clear hs hsl
      have hr1 : (wr.alloc (.cells #[.int .i64 kk, .string dd, .slice ta tt.length tc] 29)).heap[w.heap.size]? = some (.map RULES 3) := (Below.heap_alloc wr _ _ hsz).trans HRr.out
      have HR1 : Hid ((wr.alloc (.cells #[.int .i64 kk, .string dd, .slice ta tt.length tc] 29)).heap[w.heap.size]? = some (.map RULES 3)) := hr1
      clear hr1
      cases hE : slotOK kk dd tt with
      | true =>
        go_wp2_with fail
        refine (isRight_any _ 3 kk dd _ tt _ HR1.out (hslr.past _)).mono ?_
        rintro e w2 ⟨rfl, b2⟩
        go_wp2_with fail
        go_roundw
        case rel => exact ⟨k + 1, by omega, by go_num, fun j h hj => by
          by_cases e : j = k
          · subst e; rw [← HS.out]; exact hE
          · exact HA.out j h (by omega), (b2.block _ (by simp; omega)).trans HR1.out, Below.on' hbel ((Below.refl _ _).alloc (Nat.le_refl _) _) b2, by have := b2.size; simp at this; omega⟩
        case measure => simp [intOf]; omega
      | false =>
        go_wp2_with fail
        refine (isRight_any _ 3 kk dd _ tt _ HR1.out (hslr.past _)).mono ?_
        rintro e w2 ⟨rfl, b2⟩
        go_wp2_with fail
        go_ret
        exact ⟨ret_int (slotsE_bad (by rw [HN.out]; exact h1) (by rw [HN.out]; exact h40) (by rw [HN.out]; exact hlk) (by rw [← HS.out]; exact hE)).symm, Below.on' hbel ((Below.refl _ _).alloc (Nat.le_refl _) _) b2⟩
    · have e4 : k = n := by omega
      subst e4
      obtain ⟨s, hs⟩ : ∃ s, s = L[0]'(by rw [HN.out]; exact h1) := ⟨_, rfl⟩
      obtain ⟨kk, dd, tt⟩ := s
      have hS : SlAt w b (off + 0 * 3) (kk, dd, tt) := by rw [hs]; exact HC.out 0 _
      obtain ⟨tv, c1, _, _, _⟩ := hS
      have c1 : wr.cell? ⟨b, off, none⟩ = some (.int .i64 kk) := (hbel.cell (p := ⟨b, off, none⟩) hlt).trans (by simpa using c1)
      have HS : Hid ((kk, dd, tt) = L[0]'(by rw [HN.out]; exact h1)) := hs
      clear hs
      by_cases h0 : kk = 0
      · have h0' : (kk != 0) = false := by simp [h0]
        have H0 : Hid (kk = 0) := h0
        clear h0
        go_wp2_with fail
        go_ret
        exact ⟨ret_int (slotsE_ok (by rw [HN.out]; exact h1) (by rw [HN.out]; exact h40) (fun j h => HA.out j h (by rw [HN.out] at h; exact h)) (by rw [← HS.out]; exact H0.out)).symm, hbel⟩
      · have h0' : (kk != 0) = true := by simp [h0]
        go_wp2_with fail
        go_ret
        exact ⟨ret_int (slotsE_head (by rw [HN.out]; exact h1) (by rw [HN.out]; exact h40) (by rw [← HS.out]; exact h0)).symm, hbel⟩

theorem checkAll_no (ao : Option Addr) (n cap : Nat) (w : World) (h : n < 1 ∨ 40 < n) (hm : n ≤ 9223372036854775807) :
    Calls Try.prog 33 #[.slice ao n cap] w fun r w' => r = .returned (.int .i64 2) ∧ Below w.heap.size w w' := by
  rcases h with h | h
  · have g : (n : Int) < 1 := by omega
    go_enter Try.func33, Try.ntmps33
    go_wp2
    go_ret
    exact ⟨rfl, Below.refl _ _⟩
  · have g : ¬ (n : Int) < 1 := by omega
    have g' : (40 : Int) < (n : Int) := by omega
    go_enter Try.func33, Try.ntmps33
    go_wp2
    go_ret
    exact ⟨rfl, Below.refl _ _⟩

theorem checkAll_any (v : Value) (L : List SlotD) (w : World) (h : Slots w v L) :
    Calls Try.prog 33 #[v] w fun r w' => r = .returned (.int .i64 (slotsE L)) ∧ Below w.heap.size w w' := by
  obtain ⟨ao, cap, rfl, hm, hcp, hc⟩ := h
  unfold maxLen at hm
  by_cases hn : 1 ≤ L.length ∧ L.length ≤ 40
  · obtain ⟨b, off, rfl, hlt, hcell⟩ := hc (by intro e; rw [e] at hn; simp at hn)
    exact checkAll_at b off cap _ L w rfl hn.1 hn.2 hlt hcell
  · have e : slotsE L = 2 := by unfold slotsE; rw [if_neg hn]
    rw [e]
    exact checkAll_no ao _ cap w (by omega) (by omega)
end Go.Proofs.Ytehleeibgkpjmab
