/- Contract of readsBegun: it answers true. -/
import Derived.Test.YtgcfmodkknmifacRdP
import Derived.Test.YtgcfmodkknmifacPDec
namespace Go.Proofs.Ytgcfmodkknmifac
open Go.RowKit Go.Shelf
set_option maxRecDepth 20000

theorem pD_look1 : lookE pD 1 = 0 := by decide +kernel
theorem pD_read4 : readV pD 4 = ⟨#[98, 98, 98, 98]⟩ := by decide +kernel
theorem pD_read1 : readV pD 1 = ⟨#[0, 0, 0, 0]⟩ := by decide +kernel
theorem pD_all : allV pD = [⟨#[97, 97, 97, 97]⟩, ⟨#[0, 0, 0, 0]⟩, ⟨#[0, 0, 0, 0]⟩, ⟨#[97, 97, 97, 97]⟩, ⟨#[98, 98, 98, 98]⟩, ⟨#[0, 0, 0, 0]⟩] := by decide +kernel
theorem pD_pastE : pastE pD ⟨#[111, 108, 100]⟩ = 0 := by decide +kernel
theorem pD_pastV : pastV pD ⟨#[111, 108, 100]⟩ = [⟨#[97, 97, 97, 97]⟩, ⟨#[0, 0, 0, 0]⟩, ⟨#[0, 0, 0, 0]⟩, ⟨#[97, 97, 97, 97]⟩] := by decide +kernel
theorem pD_pastN : pastE pD ⟨#[110, 101, 119]⟩ = 5 := by decide +kernel

set_option maxHeartbeats 4000000 in
theorem readsBegun_any (w : World) : Calls Try.prog 22 #[] w fun r w' => r = .returned (.bool true) ∧ Below w.heap.size w w' := by
  go_enter Try.func22, Try.ntmps22
  have hB0 := Below.refl w.heap.size w
  go_wp2_with fail
  refine (pair_is _).mono ?_
  rintro e w1 ⟨⟨v1, rfl, i1⟩, b1⟩
  have hB1 := Below.on hB0 b1
  go_wp2_with fail
  refine (read_is i1 4 pD_look4 pD_read4).mono ?_
  rintro e w2 ⟨rfl, b2⟩
  have hB2 := Below.on hB1 b2
  clear i1
  go_wp2_with fail
  refine (pair_is _).mono ?_
  rintro e w3 ⟨⟨v2, rfl, i2⟩, b3⟩
  have hB3 := Below.on hB2 b3
  go_wp2_with fail
  refine (read_is i2 1 pD_look1 pD_read1).mono ?_
  rintro e w4 ⟨rfl, b4⟩
  have hB4 := Below.on hB3 b4
  clear i2
  go_wp2_with fail
  refine (pair_is _).mono ?_
  rintro e w5 ⟨⟨v3, rfl, i3⟩, b5⟩
  have hB5 := Below.on hB4 b5
  go_wp2_with fail
  refine (all_is i3 pD_check pD_all).mono ?_
  rintro e w6 ⟨⟨l1, rfl, hl1⟩, b6⟩
  have hB6 := Below.on hB5 b6
  clear i3
  go_wp2_with fail
  refine (pair_is _).mono ?_
  rintro e w7 ⟨⟨v4, rfl, i4⟩, b7⟩
  have hB7 := Below.on hB6 b7
  replace hl1 := hl1.below b7
  go_wp2_with fail
  refine (past_is i4 ⟨#[111, 108, 100]⟩ pD_pastE pD_pastV).mono ?_
  rintro e w8 ⟨⟨l2, rfl, hl2⟩, b8⟩
  have hB8 := Below.on hB7 b8
  replace hl1 := hl1.below b8
  clear i4
  go_wp2_with fail
  refine (pair_is _).mono ?_
  rintro e w9 ⟨⟨v5, rfl, i5⟩, b9⟩
  have hB9 := Below.on hB8 b9
  replace hl1 := hl1.below b9
  replace hl2 := hl2.below b9
  go_wp2_with fail
  refine (past_is i5 ⟨#[110, 101, 119]⟩ pD_pastN rfl).mono ?_
  rintro e w10 ⟨⟨l3, rfl, _⟩, b10⟩
  have hB10 := Below.on hB9 b10
  replace hl1 := hl1.below b10
  replace hl2 := hl2.below b10
  clear i5
  obtain ⟨la, lc, rfl⟩ := hl1.form
  obtain ⟨ka, kc, rfl⟩ := hl2.form
  have hn1 := Ss_new w10 [⟨#[97, 97, 97, 97]⟩, ⟨#[0, 0, 0, 0]⟩, ⟨#[0, 0, 0, 0]⟩, ⟨#[97, 97, 97, 97]⟩, ⟨#[98, 98, 98, 98]⟩, ⟨#[0, 0, 0, 0]⟩] 6 rfl (by decide)
  go_wp2_with fail
  refine (samePages_any (hl1.past _) hn1).mono ?_
  rintro e x1 ⟨rfl, y1⟩
  have hl2' := (hl2.past _).below y1
  have hn2 := Ss_new x1 [⟨#[97, 97, 97, 97]⟩, ⟨#[0, 0, 0, 0]⟩, ⟨#[0, 0, 0, 0]⟩, ⟨#[97, 97, 97, 97]⟩] 4 rfl (by decide)
  go_wp2_with fail
  refine (samePages_any (hl2'.past _) hn2).mono ?_
  rintro e x2 ⟨rfl, y2⟩
  go_wp2_with fail
  go_ret
  exact ⟨rfl, Below.on (Below.on' hB10 ((Below.refl _ _).alloc (Nat.le_refl _) _) y1) (Below.on ((Below.refl _ _).alloc (Nat.le_refl _) _) y2)⟩
end Go.Proofs.Ytgcfmodkknmifac
