/- Contracts of slices.IndexFunc and slices.ContainsFunc over slots, at whatever predicate. -/
import Derived.Test.YtehleeibgkpjmabIdx
namespace Go.Proofs.Ytehleeibgkpjmab
open Go.RowKit
set_option maxRecDepth 20000

def PredS (g : Nat) (lb : Array Value) (p : SlotD → Bool) (w : World) : Prop :=
  ∀ (W : World) (s : SlotD) (tv : Value), Below w.heap.size w W → Sl W tv s.2.2 → Calls Try.prog g (#[.agg #[.int .i64 s.1, .string s.2.1, tv]] ++ lb) W fun e w' => e = .returned (.bool (p s)) ∧ Below W.heap.size W w'

theorem anyS_hit {p : SlotD → Bool} {xs : List SlotD} {k : Nat} (hk : k < xs.length) (h : p xs[k] = true) : xs.any p = true := by
  rw [List.any_eq_true]
  exact ⟨xs[k], List.getElem_mem hk, h⟩
theorem anyS_none {p : SlotD → Bool} {xs : List SlotD} (h : ∀ j, (hj : j < xs.length) → p xs[j] = false) : xs.any p = false := by
  rw [List.any_eq_false]
  intro x hx
  obtain ⟨j, hj, rfl⟩ := List.getElem_of_mem hx
  simp [h j hj]

set_option maxHeartbeats 1000000 in
theorem indexS_at (g : Nat) (lb : Array Value) (eg : ∀ args w, (callFunc g args).run Try.prog w = .ok (.enter g args) w) (p : SlotD → Bool) (ao : Option Addr) (n cap : Nat) (L : List SlotD) (w : World) (hn : L.length = n) (hm : n ≤ 9223372036854775807)
    (hc : 0 < n → ∃ b off, ao = some ⟨b, off, none⟩ ∧ b < w.heap.size ∧ ∀ j, (h : j < L.length) → SlAt w b (off + j * 3) L[j]) (hp : PredS g lb p w) :
    Calls Try.prog 71 #[.slice ao n cap, .func (.func g) #[] lb] w fun r w' => (∃ i : Int, r = .returned (.int .i64 i) ∧ (decide (0 ≤ i)) = L.any p) ∧ Below w.heap.size w w' := by
  have HN : Hid (L.length = n) := hn
  have HP : Hid (PredS g lb p w) := hp
  have HC : Hid (0 < n → ∃ b off, ao = some ⟨b, off, none⟩ ∧ b < w.heap.size ∧ ∀ j, (h : j < L.length) → SlAt w b (off + j * 3) L[j]) := hc
  clear hn hp hc
  go_enter Try.func71, Try.ntmps71
  go_wp2
  go_loopw [5, 8] (fun _ i wr => ∃ k : Nat, k ≤ n ∧ i = .int .i64 k ∧ Hid (∀ j, (h : j < L.length) → j < k → p L[j] = false) ∧ Below w.heap.size w wr) (fun _ i _ => n - (intOf i).toNat)
  case atStart => exact ⟨0, Nat.zero_le _, rfl, fun j h hj => absurd hj (by omega), Below.refl _ _⟩
  case round =>
    obtain ⟨k, hk, rfl, HA, hbel⟩ := hrel
    by_cases hlk : k < n
    · obtain ⟨b, off, rfl, hlt, hcell⟩ := HC.out (by omega)
      have hki : (k : Int) < (n : Int) := by omega
      obtain ⟨s, hs⟩ : ∃ s, s = L[k]'(by rw [HN.out]; exact hlk) := ⟨_, rfl⟩
      obtain ⟨kk, dd, tt⟩ := s
      have hS : SlAt w b (off + k * 3) (kk, dd, tt) := by rw [hs]; exact hcell k _
      obtain ⟨tv, c1, c2, c3, hsl⟩ := hS
      have HX : Hid ((kk, dd, tt) = L[k]'(by rw [HN.out]; exact hlk)) := hs
      have c1 : wr.cell? ⟨b, off + k * 3, none⟩ = some (.int .i64 kk) := (hbel.cell (p := ⟨b, off + k * 3, none⟩) hlt).trans c1
      have c2 : wr.cell? ⟨b, off + k * 3 + 1, none⟩ = some (.string dd) := (hbel.cell (p := ⟨b, off + k * 3 + 1, none⟩) hlt).trans c2
      have c3 : wr.cell? ⟨b, off + k * 3 + 1 + 1, none⟩ = some tv := (hbel.cell (p := ⟨b, off + k * 3 + 1 + 1, none⟩) hlt).trans c3
      have hcall := HP.out wr (kk, dd, tt) tv hbel (hsl.below hbel)
      dsimp only at hcall
      clear hs hcell hsl
      cases hq : p (kk, dd, tt) with
      | true =>
        rw [hq] at hcall
        go_wp2_with (go_at_fn g; refine hcall.mono ?_; rintro e w1 ⟨rfl, b1⟩)
        go_ret
        exact ⟨⟨k, rfl, by rw [anyS_hit (p := p) (xs := L) (k := k) (by rw [HN.out]; exact hlk) (by rw [← HX.out]; exact hq)]; simp⟩, Below.on hbel b1⟩
      | false =>
        rw [hq] at hcall
        go_wp2_with (go_at_fn g; refine hcall.mono ?_; rintro e w1 ⟨rfl, b1⟩)
        go_roundw
        case rel => exact ⟨k + 1, by omega, by go_num, fun j h hj => by
          by_cases e : j = k
          · subst e; rw [← HX.out]; exact hq
          · exact HA.out j h (by omega), Below.on hbel b1⟩
        case measure => simp [intOf]; omega
    · have e4 : k = n := by omega
      subst e4
      go_wp2
      go_ret
      exact ⟨⟨-1, rfl, by rw [anyS_none (p := p) (xs := L) (fun j hj => HA.out j hj (by rw [HN.out] at hj; exact hj))]; simp⟩, hbel⟩

theorem containsS_any {g : Nat} {lb : Array Value} (eg : ∀ args w, (callFunc g args).run Try.prog w = .ok (.enter g args) w) {p : SlotD → Bool} {v : Value} {L : List SlotD} {w : World} (h : Slots w v L) (hp : PredS g lb p w) {B : Bool} (hB : L.any p = B) :
    Calls Try.prog 57 #[v, .func (.func g) #[] lb] w fun r w' => r = .returned (.bool B) ∧ Below w.heap.size w w' := by
  have hI : Calls Try.prog 71 #[v, .func (.func g) #[] lb] w fun r w' => (∃ i : Int, r = .returned (.int .i64 i) ∧ (decide (0 ≤ i)) = B) ∧ Below w.heap.size w w' := by
    subst hB
    have hm := h.small
    obtain ⟨ao, cap, rfl, _, _, hc⟩ := h
    exact indexS_at g lb eg p ao _ cap L w rfl hm (fun h0 => hc (by intro e; rw [e] at h0; simp at h0)) hp
  clear h hp
  go_enter Try.func57, Try.ntmps57
  go_wp2_with (go_at_call 71; refine hI.mono ?_; rintro e w1 ⟨⟨i, rfl, hi⟩, b1⟩)
  go_ret
  exact ⟨ret_boolE (by rw [← hi]), b1⟩
end Go.Proofs.Ytehleeibgkpjmab
