/- Contract of slots.Check. -/
import Derived.Test.YtehleeibgkpjmabGrab
import Derived.Deep.RegionWith
namespace Go.Proofs.Ytehleeibgkpjmab
open Go.RowKit
set_option maxRecDepth 20000

def slotE (k : Int) (d : ByteArray) (xs : List Int) : Int := if slotOK k d xs = true then 0 else 1

theorem below_of_drew {w w1 : World} {o : Obj} (h : Below (w.alloc o).drew.heap.size (w.alloc o).drew w1) : Below (w.heap.size + 1) (w.alloc o) w1 :=
  ⟨h.os, h.tape, h.output, h.size, fun k hk => h.block k (by simp; exact hk)⟩
theorem box_cells {w w1 : World} {x y z : Value} {T : TypeId} (h : Below (w.heap.size + 1) (w.alloc (.cells #[x, y, z] T)) w1) :
    w1.cell? ⟨w.heap.size, 0, none⟩ = some x ∧ w1.cell? ⟨w.heap.size, 1, none⟩ = some y ∧ w1.cell? ⟨w.heap.size, 2, none⟩ = some z := by
  refine ⟨(h.cell (p := ⟨w.heap.size, 0, none⟩) (by simp)).trans ?_, (h.cell (p := ⟨w.heap.size, 1, none⟩) (by simp)).trans ?_, (h.cell (p := ⟨w.heap.size, 2, none⟩) (by simp)).trans ?_⟩ <;> rw [World.cell?_alloc_at _ _ _ _ rfl] <;> rfl
theorem rules_at (w : World) (N : Nat) (hN : w.heap.size = N) : Calls Try.prog 53 #[] w fun r w' => r = .returned (.map (some N)) ∧ Hid (w'.heap[N]? = some (.map RULES 3)) ∧ Below w.heap.size w w' := by
  subst hN
  exact (rules_any w).mono fun e w' h => ⟨h.1, h.2.1, h.2.2.1⟩

set_option maxHeartbeats 1000000 in
theorem scheck_at (k : Int) (d : ByteArray) (ta : Option Addr) (tn tc : Nat) (xs : List Int) (w : World) (h : Sl w (.slice ta tn tc) xs) :
    Calls Try.prog 34 #[.agg #[.int .i64 k, .string d, .slice ta tn tc]] w fun r w' => r = .returned (.int .i64 (slotE k d xs)) ∧ Below w.heap.size w w' := by
  have hs := h.past (.cells #[.int .i64 k, .string d, .slice ta tn tc] 29)
  have b0 : Below w.heap.size w (w.alloc (.cells #[.int .i64 k, .string d, .slice ta tn tc] 29)) := (Below.refl _ _).alloc (Nat.le_refl _) _
  cases hE : slotOK k d xs with
  | true =>
    have HE : Hid (slotE k d xs = 0) := by show _ = _; unfold slotE; rw [if_pos hE]
    go_enter Try.func34, Try.ntmps34
    go_wp2
    go_region_with (first | (go_at_call 53; refine (rules_at _ (w.heap.size + 1) (by simp)).mono ?_; rintro e w1 ⟨rfl, HR, b1⟩; have b1 : Below (w.heap.size + 1) (w.alloc (.cells #[.int .i64 k, .string d, .slice ta tn tc] 29)) w1 := (below_of_drew b1); obtain ⟨c1, c2, c3⟩ := box_cells b1) | (go_at_call 54; refine (isRight_any _ 3 k d _ xs _ ?_ ?_).mono ?_; (first | exact HR.out | skip); (first | exact hs.below (by simpa using b1) | skip); rintro e w2 ⟨rfl, b2⟩))
    all_goals
      go_wp2
      go_ret
      exact ⟨ret_int HE.out.symm, Below.on (b0.trans (b1.mono (Nat.le_succ _))) b2⟩
  | false =>
    have HE : Hid (slotE k d xs = 1) := by show _ = _; unfold slotE; rw [if_neg (by simp [hE])]
    go_enter Try.func34, Try.ntmps34
    go_wp2
    go_region_with (first | (go_at_call 53; refine (rules_at _ (w.heap.size + 1) (by simp)).mono ?_; rintro e w1 ⟨rfl, HR, b1⟩; have b1 : Below (w.heap.size + 1) (w.alloc (.cells #[.int .i64 k, .string d, .slice ta tn tc] 29)) w1 := (below_of_drew b1); obtain ⟨c1, c2, c3⟩ := box_cells b1) | (go_at_call 54; refine (isRight_any _ 3 k d _ xs _ ?_ ?_).mono ?_; (first | exact HR.out | skip); (first | exact hs.below (by simpa using b1) | skip); rintro e w2 ⟨rfl, b2⟩))
    all_goals
      go_wp2
      go_ret
      exact ⟨ret_int HE.out.symm, Below.on (b0.trans (b1.mono (Nat.le_succ _))) b2⟩

theorem scheck_any (k : Int) (d : ByteArray) (tv : Value) (xs : List Int) (w : World) (h : Sl w tv xs) :
    Calls Try.prog 34 #[.agg #[.int .i64 k, .string d, tv]] w fun r w' => r = .returned (.int .i64 (slotE k d xs)) ∧ Below w.heap.size w w' := by
  obtain ⟨ao, cap, rfl⟩ := h.form
  exact scheck_at k d ao _ cap xs w h
theorem scheck_is {k : Int} {d : ByteArray} {tv : Value} {xs : List Int} {w : World} (h : Sl w tv xs) {c : Int} (hc : slotE k d xs = c) :
    Calls Try.prog 34 #[.agg #[.int .i64 k, .string d, tv]] w fun r w' => r = .returned (.int .i64 c) ∧ Below w.heap.size w w' := by subst hc; exact scheck_any k d tv xs w h
end Go.Proofs.Ytehleeibgkpjmab
