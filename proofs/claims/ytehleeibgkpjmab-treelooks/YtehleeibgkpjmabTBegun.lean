/- Contract of treeBegun: it answers true. -/
import Derived.Test.YtehleeibgkpjmabPDec
import Derived.Test.YtehleeibgkpjmabSameInts
import Derived.Test.YtehleeibgkpjmabShape2
namespace Go.Proofs.Ytehleeibgkpjmab
open Go.RowKit Go.Shelf
set_option maxRecDepth 20000

set_option maxRecDepth 20000 in
set_option maxHeartbeats 4000000 in
theorem treeBegun_any (w : World) : Calls Try.prog 23 #[] w fun r w' => r = .returned (.bool true) ∧ Below w.heap.size w w' := by
  go_enter Try.func23, Try.ntmps23
  go_wp2_with fail
  refine (pair_is _).mono ?_
  rintro e w1 ⟨⟨v1, rfl, i1⟩, b1⟩
  go_wp2_with fail
  refine (counts_ok i1 pD_shape).mono ?_
  rintro e w2 ⟨⟨lv, rfl, hlv⟩, b2⟩
  rw [pD_cnt] at hlv
  have hb := Below.on b1 b2
  clear b1 b2 i1
  go_wp2_with fail
  refine (pair_is _).mono ?_
  rintro e w3 ⟨⟨v3, rfl, i3⟩, b3⟩
  go_wp2_with fail
  refine (look_is i3 2 pD_look2 pD_lv2).mono ?_
  rintro e w4 ⟨rfl, b4⟩
  have b34 := Below.on b3 b4
  replace hlv := hlv.below b34
  replace hb := Below.on hb b34
  clear b3 b4 b34 i3
  go_wp2_with fail
  refine (pair_is _).mono ?_
  rintro e w5 ⟨⟨v5, rfl, i5⟩, b5⟩
  go_wp2_with fail
  refine (look_is i5 4 pD_look4 pD_lv4).mono ?_
  rintro e w6 ⟨rfl, b6⟩
  have b56 := Below.on b5 b6
  replace hlv := hlv.below b56
  replace hb := Below.on hb b56
  clear b5 b6 b56 i5
  go_wp2_with fail
  refine (pair_at _).mono ?_
  rintro e w7 ⟨rfl, p7, b7⟩
  have h7 := p7.size
  have a7 : Below w7.heap.size w7 (w7.alloc (.cells #[.int .i64 6, .slice (some ⟨w6.heap.size + 1, 0, none⟩) 2 2, .slice (some ⟨w6.heap.size + 4, 0, none⟩) 5 5, .slice (some ⟨w6.heap.size + 5, 0, none⟩) 5 5, .slice (some ⟨w6.heap.size + 7, 0, none⟩) 1 1] 44)) := (Below.refl _ _).alloc (Nat.le_refl _) _
  have q7 := p7.below a7 h7
  have hc7 : (w7.alloc (.cells #[.int .i64 6, .slice (some ⟨w6.heap.size + 1, 0, none⟩) 2 2, .slice (some ⟨w6.heap.size + 4, 0, none⟩) 5 5, .slice (some ⟨w6.heap.size + 5, 0, none⟩) 5 5, .slice (some ⟨w6.heap.size + 7, 0, none⟩) 1 1] 44)).cell? ⟨w6.heap.size + 5, 1, none⟩ = some (.int .i64 2) := q7.refs.cell (j := 1) (by decide)
  have hf7 := q7.refs.frozen 1
  go_wp2_with fail
  obtain ⟨W8, hW8⟩ : ∃ W, (w7.alloc (.cells #[.int .i64 6, .slice (some ⟨w6.heap.size + 1, 0, none⟩) 2 2, .slice (some ⟨w6.heap.size + 4, 0, none⟩) 5 5, .slice (some ⟨w6.heap.size + 5, 0, none⟩) 5 5, .slice (some ⟨w6.heap.size + 7, 0, none⟩) 1 1] 44)).setCell ⟨w6.heap.size + 5, 1, none⟩ (.int .i64 1) = W := ⟨_, rfl⟩
  rw [hW8]
  have p8 : PairW w6.heap.size W8 [0, 1, 2, 1, 1] [3, 0, 0, 0] := by rw [← hW8]; exact q7.setRefs 1 1
  have m8 : W8.heap[w7.heap.size]? = some (.cells #[.int .i64 6, .slice (some ⟨w6.heap.size + 1, 0, none⟩) 2 2, .slice (some ⟨w6.heap.size + 4, 0, none⟩) 5 5, .slice (some ⟨w6.heap.size + 5, 0, none⟩) 5 5, .slice (some ⟨w6.heap.size + 7, 0, none⟩) 1 1] 44) := by
    rw [← hW8]
    exact ((Only.set (w6.heap.size + 5) _ 1 _).block _ (by omega)).trans (World.alloc_heap_new _ _)
  have b8 : Below w6.heap.size w6 W8 := by
    rw [← hW8]
    exact (b7.trans (a7.mono (by omega))).setCell (show w6.heap.size ≤ w6.heap.size + 5 by omega) _
  have h8 : w6.heap.size + 8 ≤ w7.heap.size := h7
  have h87 := (Array.getElem?_eq_some_iff.1 m8).1
  have hlv8 := hlv.below b8
  have hb8 := Below.on hb b8
  clear hlv hb hc7 hf7 q7 a7 p7 b7 hW8 b8 h7
  refine (pair_at _).mono ?_
  rintro e w9 ⟨rfl, p9, b9⟩
  have h9 := p9.size
  have m9 := cells_below m8 b9 h87
  have p8' := p8.below b9 (by omega)
  have hlv := hlv8.below b9
  have hb := Below.on hb8 b9
  clear p8 m8
  have a9 : Below w9.heap.size w9 (w9.alloc (.cells #[.int .i64 5, .slice (some ⟨W8.heap.size + 1, 0, none⟩) 2 2, .slice (some ⟨W8.heap.size + 4, 0, none⟩) 5 5, .slice (some ⟨W8.heap.size + 5, 0, none⟩) 5 5, .slice (some ⟨W8.heap.size + 7, 0, none⟩) 1 1] 44)) := (Below.refl _ _).alloc (Nat.le_refl _) _
  have q9 := p9.below a9 h9
  have hc9 : (w9.alloc (.cells #[.int .i64 5, .slice (some ⟨W8.heap.size + 1, 0, none⟩) 2 2, .slice (some ⟨W8.heap.size + 4, 0, none⟩) 5 5, .slice (some ⟨W8.heap.size + 5, 0, none⟩) 5 5, .slice (some ⟨W8.heap.size + 7, 0, none⟩) 1 1] 44)).cell? ⟨W8.heap.size + 4, 14, none⟩ = some (.slice (some ⟨W8.heap.size + 3, 0, none⟩) 4 4) := cell_of q9.slots rfl
  have hd9 : (w9.alloc (.cells #[.int .i64 5, .slice (some ⟨W8.heap.size + 1, 0, none⟩) 2 2, .slice (some ⟨W8.heap.size + 4, 0, none⟩) 5 5, .slice (some ⟨W8.heap.size + 5, 0, none⟩) 5 5, .slice (some ⟨W8.heap.size + 7, 0, none⟩) 1 1] 44)).cell? ⟨W8.heap.size + 3, 1, none⟩ = some (.int .i64 0) := q9.tb.cell (j := 1) (by decide)
  have hf9 := q9.tb.frozen 1
  go_wp2_with fail
  obtain ⟨X0, hX0⟩ : ∃ W, (w9.alloc (.cells #[.int .i64 5, .slice (some ⟨W8.heap.size + 1, 0, none⟩) 2 2, .slice (some ⟨W8.heap.size + 4, 0, none⟩) 5 5, .slice (some ⟨W8.heap.size + 5, 0, none⟩) 5 5, .slice (some ⟨W8.heap.size + 7, 0, none⟩) 1 1] 44)).setCell ⟨W8.heap.size + 3, 1, none⟩ (.int .i64 3) = W := ⟨_, rfl⟩
  rw [hX0]
  have p0 : PairW W8.heap.size X0 [0, 2, 2, 1, 1] [3, 3, 0, 0] := by rw [← hX0]; exact q9.setTab 1 3
  have m0 : X0.heap[w9.heap.size]? = some (.cells #[.int .i64 5, .slice (some ⟨W8.heap.size + 1, 0, none⟩) 2 2, .slice (some ⟨W8.heap.size + 4, 0, none⟩) 5 5, .slice (some ⟨W8.heap.size + 5, 0, none⟩) 5 5, .slice (some ⟨W8.heap.size + 7, 0, none⟩) 1 1] 44) := by
    rw [← hX0]
    exact ((Only.set (W8.heap.size + 3) _ 1 _).block _ (by omega)).trans (World.alloc_heap_new _ _)
  have bX : Below W8.heap.size w9 X0 := by
    rw [← hX0]
    exact (a9.mono (by omega)).setCell (show W8.heap.size ≤ W8.heap.size + 3 by omega) _
  have hzX : w9.heap.size < X0.heap.size := (Array.getElem?_eq_some_iff.1 m0).1
  have mx := cells_below m9 bX h87
  have px := p8'.below bX (by omega)
  have hb0 : Below w.heap.size w X0 := hb.trans ((bX.mono (by have := hb8.size; omega)))
  have hl0 : Sl X0 lv [0, 2, 2, 1, 1] := (hlv8.below (b9.trans bX))
  clear hc9 hd9 hf9 q9 a9 p9 hX0 bX b9 m9 p8' hlv hb hb8 hlv8
  refine (pair_is _).mono ?_
  rintro e x1 ⟨⟨v1, rfl, i1⟩, b1⟩
  go_wp2_with fail
  refine (shape_is i1 pD_shape).mono ?_
  rintro e x2 ⟨rfl, b2⟩
  have b12 := Below.on b1 b2
  have m2 := cells_below m0 b12 hzX
  have mx2 := cells_below mx b12 (by omega)
  have p2 := p0.below b12 (by omega)
  have px2 := px.below b12 (by omega)
  have hl2 := hl0.below b12
  have hb2 := Below.on hb0 b12
  have hz2 : X0.heap.size ≤ x2.heap.size := b12.size
  clear b1 b2 b12 i1 m0 mx p0 px hl0 hb0
  go_wp2_with fail
  refine (pair_is _).mono ?_
  rintro e x3 ⟨⟨v3, rfl, i3⟩, b3⟩
  go_wp2_with fail
  refine (tcheck_is i3 pD_check).mono ?_
  rintro e x4 ⟨rfl, b4⟩
  have b34 := Below.on b3 b4
  have m4 := cells_below m2 b34 (by omega)
  have mx4 := cells_below mx2 b34 (by omega)
  have p4 := p2.below b34 (by omega)
  have px4 := px2.below b34 (by omega)
  have hl4 := hl2.below b34
  have hb4 := Below.on hb2 b34
  have hz4 : x2.heap.size ≤ x4.heap.size := b34.size
  obtain ⟨c0, c1, c2, c3, c4⟩ := five mx4
  clear b3 b4 b34 i3 m2 mx2 p2 px2 hl2 hb2
  go_wp2_with fail
  refine (tcheck_is (px4.img rfl rfl 6) pX_check).mono ?_
  rintro e x5 ⟨rfl, b5⟩
  have m5 := cells_below m4 b5 (by omega)
  have p5 := p4.below b5 (by omega)
  have hl5 := hl4.below b5
  have hb5 := Below.on hb4 b5
  obtain ⟨d0, d1, d2, d3, d4⟩ := five m5
  clear b5 m4 mx4 p4 px4 hl4 hb4 c0 c1 c2 c3 c4
  go_wp2_with fail
  refine (shape_is (p5.img rfl rfl 5) pY_shape).mono ?_
  rintro e x6 ⟨rfl, b6⟩
  have hl6 := hl5.below b6
  have hb6 := Below.on hb5 b6
  obtain ⟨la, lc, rfl⟩ := hl6.form
  clear m5 p5 hl5 hb5 d0 d1 d2 d3 d4
  have hs5 := Sl_new x6 [0, 2, 2, 1, 1] 5 rfl (by decide)
  go_wp2_with fail
  refine (same_any (hl6.past _) hs5).mono ?_
  rintro e x7 ⟨rfl, hx7⟩
  go_wp2_with fail
  go_ret
  exact ⟨rfl, Below.on' hb6 ((Below.refl _ _).alloc (Nat.le_refl _) _) hx7⟩
end Go.Proofs.Ytehleeibgkpjmab
