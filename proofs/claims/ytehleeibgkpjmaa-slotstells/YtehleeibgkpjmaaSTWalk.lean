/- The walk of SlotsTells. -/
import Derived.Test.YtehleeibgkpjmaaSlBegun
import Derived.Test.YtehleeibgkpjmaaSlotRef
import Derived.Deep.RegionHeld3
namespace Go.Proofs.Ytehleeibgkpjmaa
open Go.RowKit
set_option maxRecDepth 20000

theorem below_drew {w w1 : World} (h : Below w.drew.heap.size w.drew w1) : Below w.heap.size w w1 := ⟨h.os, h.tape, h.output, h.size, h.block⟩
theorem keep3 {w w1 : World} {b : Nat} {x y z : Value} (h : Below w.heap.size w w1) (hlt : b < w.heap.size) (c1 : w.cell? ⟨b, 0, none⟩ = some x) (c2 : w.cell? ⟨b, 1, none⟩ = some y) (c3 : w.cell? ⟨b, 2, none⟩ = some z) :
    w1.cell? ⟨b, 0, none⟩ = some x ∧ w1.cell? ⟨b, 1, none⟩ = some y ∧ w1.cell? ⟨b, 2, none⟩ = some z :=
  ⟨(h.cell (p := ⟨b, 0, none⟩) hlt).trans c1, (h.cell (p := ⟨b, 1, none⟩) hlt).trans c2, (h.cell (p := ⟨b, 2, none⟩) hlt).trans c3⟩
theorem slotFine_is {k : Int} {d : ByteArray} {tv : Value} {xs : List Int} {w : World} (h : Sl w tv xs) {B : Bool} (hB : slotOK k d xs = B) :
    Calls Try.prog 35 #[.agg #[.int .i64 k, .string d, tv]] w fun r w' => r = .returned (.bool B) ∧ Below w.heap.size w w' := by subst hB; exact slotFine_any k d tv xs w h

/-- What the last statement needs of the one slot: both checks say the same. -/
theorem slot_both (k : Int) (d : ByteArray) (xs : List Int) : ∃ (c : Int) (B : Bool), slotE k d xs = c ∧ slotOK k d xs = B ∧ (((c == 0) == B) = true) := by
  cases h : slotOK k d xs with
  | true => exact ⟨0, true, by simp [slotE, h], rfl, rfl⟩
  | false => exact ⟨1, false, by simp [slotE, h], rfl, rfl⟩

set_option maxHeartbeats 1000000 in
theorem stells_bad (k : Int) (d : ByteArray) (ta : Option Addr) (tn tc : Nat) (xs : List Int) (v : Value) (L : List SlotD) (E : Int) (c : Int) (B : Bool) (w : World) (h : Sl w (.slice ta tn tc) xs) (hv : Slots w v L) (hE : slotsE L = E) (hne : (E != 0) = true) (hne' : (E == 0) = false) (hc : slotE k d xs = c) (hB : slotOK k d xs = B) (hcB : ((c == 0) == B) = true) :
    Calls Try.prog 8 #[.agg #[.int .i64 k, .string d, .slice ta tn tc], v] w fun r w' => r = .returned (.bool true) ∧ Below w.heap.size w w' := by
  have H : Hid (slotsE L = E ∧ slotE k d xs = c ∧ slotOK k d xs = B) := ⟨hE, hc, hB⟩
  clear hE hc hB
  have b0 : Below w.heap.size w (w.alloc (.cells #[.int .i64 k, .string d, .slice ta tn tc] 44)) := (Below.refl _ _).alloc (Nat.le_refl _) _
  have st := h.past (.cells #[.int .i64 k, .string d, .slice ta tn tc] 44)
  have hv := hv.below b0
  obtain ⟨c1, c2, c3⟩ := box_cells (w := w) (w1 := w.alloc (.cells #[.int .i64 k, .string d, .slice ta tn tc] 44)) (Below.refl _ _)
  have z0 : w.heap.size < (w.alloc (.cells #[.int .i64 k, .string d, .slice ta tn tc] 44)).heap.size := by simp
  go_enter Try.func8, Try.ntmps8
  go_wp2_with fail
  refine (grab_bad v L E _ hv H.out.1 hne).mono ?_
  rintro e w1 ⟨rfl, b1⟩
  have hv := hv.below b1
  have st := st.below b1
  obtain ⟨c1, c2, c3⟩ := keep3 b1 z0 c1 c2 c3
  have z1 := Nat.lt_of_lt_of_le z0 b1.size
  have b1 := Below.on b0 b1
  clear b0 z0
  go_wp2_with fail
  refine (used_bad v L E _ hv H.out.1 hne).mono ?_
  rintro e w2 ⟨rfl, b2⟩
  have hv := hv.below b2
  have st := st.below b2
  obtain ⟨c1, c2, c3⟩ := keep3 b2 z1 c1 c2 c3
  have z2 := Nat.lt_of_lt_of_le z1 b2.size
  have b2 := Below.on b1 b2
  clear b1 z1
  go_wp2_with fail
  refine (slotsError_is hv H.out.1).mono ?_
  rintro e w3 ⟨rfl, b3⟩
  have hv := hv.below b3
  have st := st.below b3
  obtain ⟨c1, c2, c3⟩ := keep3 b3 z2 c1 c2 c3
  have z3 := Nat.lt_of_lt_of_le z2 b3.size
  have b3 := Below.on b2 b3
  clear b2 z2
  go_wp2_with fail
  go_region_held3 (fun w' => w'.cell? ⟨w.heap.size, 0, none⟩ = some (.int .i64 k) ∧ w'.cell? ⟨w.heap.size, 1, none⟩ = some (.string d) ∧ w'.cell? ⟨w.heap.size, 2, none⟩ = some (.slice ta tn tc)) (first | exact ⟨c1, c2, c3⟩ | exact ⟨d1, d2, d3⟩ | exact ⟨f1, f2, f3⟩ | exact ⟨i1, i2, i3⟩)
    (first
    | (go_at_call 33; refine (sbegun_any _).mono ?_; rintro e w4 ⟨rfl, b4⟩; have b4 := below_drew b4; have st4 := st.below b4; obtain ⟨d1, d2, d3⟩ := keep3 b4 z3 c1 c2 c3; have z4 := Nat.lt_of_lt_of_le z3 b4.size)
    | (go_at_call 34; refine (scheck_is st4 H.out.2.1).mono ?_; rintro e w5 ⟨rfl, b5⟩; have st5 := st4.below b5; obtain ⟨f1, f2, f3⟩ := keep3 b5 z4 d1 d2 d3; have z5 := Nat.lt_of_lt_of_le z4 b5.size)
    | (go_at_call 35; refine (slotFine_is st5 H.out.2.2).mono ?_; rintro e w6 ⟨rfl, b6⟩; obtain ⟨i1, i2, i3⟩ := keep3 b6 z5 f1 f2 f3))
  go_wp2
  go_ret
  exact ⟨rfl, Below.on (Below.on (Below.on b3 b4) b5) b6⟩

set_option maxHeartbeats 1000000 in
theorem stells_full (k : Int) (d : ByteArray) (ta : Option Addr) (tn tc : Nat) (xs : List Int) (v : Value) (L : List SlotD) (u : Nat) (c : Int) (B : Bool) (w : World) (h : Sl w (.slice ta tn tc) xs) (hv : Slots w v L) (hE : slotsE L = 0) (hg : GrabAt L 40) (hu : usedN L = u) (hc : slotE k d xs = c) (hB : slotOK k d xs = B) (hcB : ((c == 0) == B) = true) :
    Calls Try.prog 8 #[.agg #[.int .i64 k, .string d, .slice ta tn tc], v] w fun r w' => r = .returned (.bool true) ∧ Below w.heap.size w w' := by
  have H : Hid ((slotsE L = 0 ∧ GrabAt L 40 ∧ usedN L = u) ∧ slotE k d xs = c ∧ slotOK k d xs = B) := ⟨⟨hE, hg, hu⟩, hc, hB⟩
  clear hE hc hB hg hu
  have b0 : Below w.heap.size w (w.alloc (.cells #[.int .i64 k, .string d, .slice ta tn tc] 44)) := (Below.refl _ _).alloc (Nat.le_refl _) _
  have st := h.past (.cells #[.int .i64 k, .string d, .slice ta tn tc] 44)
  have hv := hv.below b0
  obtain ⟨c1, c2, c3⟩ := box_cells (w := w) (w1 := w.alloc (.cells #[.int .i64 k, .string d, .slice ta tn tc] 44)) (Below.refl _ _)
  have z0 : w.heap.size < (w.alloc (.cells #[.int .i64 k, .string d, .slice ta tn tc] 44)).heap.size := by simp
  go_enter Try.func8, Try.ntmps8
  go_wp2_with fail
  refine (grab_full hv H.out.1.1 H.out.1.2.1).mono ?_
  rintro e w1 ⟨rfl, b1⟩
  have hv := hv.below b1
  have st := st.below b1
  obtain ⟨c1, c2, c3⟩ := keep3 b1 z0 c1 c2 c3
  have z1 := Nat.lt_of_lt_of_le z0 b1.size
  have b1 := Below.on b0 b1
  clear b0 z0
  go_wp2_with fail
  refine (used_is hv H.out.1.1 H.out.1.2.2).mono ?_
  rintro e w2 ⟨rfl, b2⟩
  have hv := hv.below b2
  have st := st.below b2
  obtain ⟨c1, c2, c3⟩ := keep3 b2 z1 c1 c2 c3
  have z2 := Nat.lt_of_lt_of_le z1 b2.size
  have b2 := Below.on b1 b2
  clear b1 z1
  go_wp2_with fail
  refine (slotsError_is hv H.out.1.1).mono ?_
  rintro e w3 ⟨rfl, b3⟩
  have hv := hv.below b3
  have st := st.below b3
  obtain ⟨c1, c2, c3⟩ := keep3 b3 z2 c1 c2 c3
  have z3 := Nat.lt_of_lt_of_le z2 b3.size
  have b3 := Below.on b2 b3
  clear b2 z2
  go_wp2_with fail
  refine (grabOf_is hv H.out.1.1 H.out.1.2.1 (c := 0) rfl).mono ?_
  rintro e w' ⟨rfl, hw⟩
  subst hw
  go_wp2_with fail
  refine (usedOf_is hv H.out.1.1 H.out.1.2.2).mono ?_
  rintro e w' ⟨rfl, hw⟩
  subst hw
  go_wp2_with fail
  go_region_held3 (fun w' => w'.cell? ⟨w.heap.size, 0, none⟩ = some (.int .i64 k) ∧ w'.cell? ⟨w.heap.size, 1, none⟩ = some (.string d) ∧ w'.cell? ⟨w.heap.size, 2, none⟩ = some (.slice ta tn tc)) (first | exact ⟨c1, c2, c3⟩ | exact ⟨d1, d2, d3⟩ | exact ⟨f1, f2, f3⟩ | exact ⟨i1, i2, i3⟩)
    (first
    | (go_at_call 33; refine (sbegun_any _).mono ?_; rintro e w4 ⟨rfl, b4⟩; have b4 := below_drew b4; have st4 := st.below b4; obtain ⟨d1, d2, d3⟩ := keep3 b4 z3 c1 c2 c3; have z4 := Nat.lt_of_lt_of_le z3 b4.size)
    | (go_at_call 34; refine (scheck_is st4 H.out.2.1).mono ?_; rintro e w5 ⟨rfl, b5⟩; have st5 := st4.below b5; obtain ⟨f1, f2, f3⟩ := keep3 b5 z4 d1 d2 d3; have z5 := Nat.lt_of_lt_of_le z4 b5.size)
    | (go_at_call 35; refine (slotFine_is st5 H.out.2.2).mono ?_; rintro e w6 ⟨rfl, b6⟩; obtain ⟨i1, i2, i3⟩ := keep3 b6 z5 f1 f2 f3))
  go_wp2
  go_ret
  exact ⟨rfl, Below.on (Below.on (Below.on b3 b4) b5) b6⟩

set_option maxHeartbeats 1000000 in
theorem stells_some (k : Int) (d : ByteArray) (ta : Option Addr) (tn tc : Nat) (xs : List Int) (v : Value) (L : List SlotD) (g u : Nat) (c : Int) (B : Bool) (w : World) (h : Sl w (.slice ta tn tc) xs) (hv : Slots w v L) (hE : slotsE L = 0) (hg : GrabAt L g) (hu : usedN L = u) (h40 : g < 40) (hg0 : ((g : Int) == 0) = false) (hc : slotE k d xs = c) (hB : slotOK k d xs = B) (hcB : ((c == 0) == B) = true) :
    Calls Try.prog 8 #[.agg #[.int .i64 k, .string d, .slice ta tn tc], v] w fun r w' => r = .returned (.bool true) ∧ Below w.heap.size w w' := by
  have H : Hid ((slotsE L = 0 ∧ GrabAt L g ∧ usedN L = u) ∧ slotE k d xs = c ∧ slotOK k d xs = B) := ⟨⟨hE, hg, hu⟩, hc, hB⟩
  clear hE hc hB hg hu
  have b0 : Below w.heap.size w (w.alloc (.cells #[.int .i64 k, .string d, .slice ta tn tc] 44)) := (Below.refl _ _).alloc (Nat.le_refl _) _
  have st := h.past (.cells #[.int .i64 k, .string d, .slice ta tn tc] 44)
  have hv := hv.below b0
  obtain ⟨c1, c2, c3⟩ := box_cells (w := w) (w1 := w.alloc (.cells #[.int .i64 k, .string d, .slice ta tn tc] 44)) (Below.refl _ _)
  have z0 : w.heap.size < (w.alloc (.cells #[.int .i64 k, .string d, .slice ta tn tc] 44)).heap.size := by simp
  go_enter Try.func8, Try.ntmps8
  go_wp2_with fail
  refine (grab_is hv H.out.1.1 H.out.1.2.1 h40).mono ?_
  rintro e w1 ⟨rfl, b1⟩
  have hv := hv.below b1
  have st := st.below b1
  obtain ⟨c1, c2, c3⟩ := keep3 b1 z0 c1 c2 c3
  have z1 := Nat.lt_of_lt_of_le z0 b1.size
  have b1 := Below.on b0 b1
  clear b0 z0
  go_wp2_with fail
  refine (used_is hv H.out.1.1 H.out.1.2.2).mono ?_
  rintro e w2 ⟨rfl, b2⟩
  have hv := hv.below b2
  have st := st.below b2
  obtain ⟨c1, c2, c3⟩ := keep3 b2 z1 c1 c2 c3
  have z2 := Nat.lt_of_lt_of_le z1 b2.size
  have b2 := Below.on b1 b2
  clear b1 z1
  go_wp2_with fail
  refine (slotsError_is hv H.out.1.1).mono ?_
  rintro e w3 ⟨rfl, b3⟩
  have hv := hv.below b3
  have st := st.below b3
  obtain ⟨c1, c2, c3⟩ := keep3 b3 z2 c1 c2 c3
  have z3 := Nat.lt_of_lt_of_le z2 b3.size
  have b3 := Below.on b2 b3
  clear b2 z2
  go_wp2_with fail
  refine (grabOf_is hv H.out.1.1 H.out.1.2.1 (c := (g : Int)) (if_neg (by omega))).mono ?_
  rintro e w' ⟨rfl, hw⟩
  subst hw
  go_wp2_with fail
  refine (usedOf_is hv H.out.1.1 H.out.1.2.2).mono ?_
  rintro e w' ⟨rfl, hw⟩
  subst hw
  go_wp2_with fail
  go_region_held3 (fun w' => w'.cell? ⟨w.heap.size, 0, none⟩ = some (.int .i64 k) ∧ w'.cell? ⟨w.heap.size, 1, none⟩ = some (.string d) ∧ w'.cell? ⟨w.heap.size, 2, none⟩ = some (.slice ta tn tc)) (first | exact ⟨c1, c2, c3⟩ | exact ⟨d1, d2, d3⟩ | exact ⟨f1, f2, f3⟩ | exact ⟨i1, i2, i3⟩)
    (first
    | (go_at_call 33; refine (sbegun_any _).mono ?_; rintro e w4 ⟨rfl, b4⟩; have b4 := below_drew b4; have st4 := st.below b4; obtain ⟨d1, d2, d3⟩ := keep3 b4 z3 c1 c2 c3; have z4 := Nat.lt_of_lt_of_le z3 b4.size)
    | (go_at_call 34; refine (scheck_is st4 H.out.2.1).mono ?_; rintro e w5 ⟨rfl, b5⟩; have st5 := st4.below b5; obtain ⟨f1, f2, f3⟩ := keep3 b5 z4 d1 d2 d3; have z5 := Nat.lt_of_lt_of_le z4 b5.size)
    | (go_at_call 35; refine (slotFine_is st5 H.out.2.2).mono ?_; rintro e w6 ⟨rfl, b6⟩; obtain ⟨i1, i2, i3⟩ := keep3 b6 z5 f1 f2 f3))
  go_wp2
  go_ret
  exact ⟨rfl, Below.on (Below.on (Below.on b3 b4) b5) b6⟩

theorem stells_any (k : Int) (d : ByteArray) (tv : Value) (xs : List Int) (v : Value) (L : List SlotD) (w : World) (h : Sl w tv xs) (hv : Slots w v L) :
    Calls Try.prog 8 #[.agg #[.int .i64 k, .string d, tv], v] w fun r w' => r = .returned (.bool true) ∧ Below w.heap.size w w' := by
  obtain ⟨ta, tc, rfl⟩ := h.form
  obtain ⟨c, B, hc, hB, hcB⟩ := slot_both k d xs
  by_cases hE : slotsE L = 0
  · obtain ⟨g, hg⟩ := grab_ex L (slotsE_parts hE).1
    have := hg.1
    have := hg.2.1
    have := (slotsE_parts hE).2
    by_cases h40 : g = 40
    · subst h40; exact stells_full k d ta _ tc xs v L _ c B w h hv hE hg rfl hc hB hcB
    · exact stells_some k d ta _ tc xs v L g _ c B w h hv hE hg rfl (by omega) (by simp; omega) hc hB hcB
  · exact stells_bad k d ta _ tc xs v L _ c B w h hv rfl (by simpa using hE) (by simpa using hE) hc hB hcB
end Go.Proofs.Ytehleeibgkpjmaa
