/- Texts joined: WBegun, SameI, WWrites, SlotsIn, ImgIn. -/
import Derived.Test.YtehleeibgkpjmacWritesWritesJ12
import Derived.Test.YtehleeibgkpjmacWritesWritesJ15
import Derived.Test.YtehleeibgkpjmacWritesWritesJ3
import Derived.Deep.RegionHeld3
import Derived.Test.YtehleeibgkpjmacWritesWritesJ1
import Derived.Deep.Strs
import Derived.Deep.Slices
import Derived.ProofKit
/- Contract of writesBegun: it answers true. -/
namespace Go.Proofs.Ytehleeibgkpjmac
open Go.RowKit Go.Shelf
set_option maxRecDepth 20000

/-- A cell that lies in the world, and stays. -/
def CAt (W : World) (p : Addr) (v : Value) : Prop := W.cell? p = some v ∧ p.block < W.heap.size
theorem CAt.below {W W' : World} {p : Addr} {v : Value} (h : CAt W p v) (bb : Below W.heap.size W W') : CAt W' p v := ⟨(bb.cell h.2).trans h.1, Nat.lt_of_lt_of_le h.2 bb.size⟩
def wbA : ImgD := ⟨6, [2, 4], [(0, ⟨#[]⟩, []), (1, aaaa, []), (2, ⟨#[]⟩, [1, 0, -1, 1]), (1, ⟨#[99, 99, 99, 99]⟩, []), (2, ⟨#[]⟩, [3, 0, 0, 0])], [0, 2, 2, 1, 1], [(nOld, 4, [2])]⟩
theorem wb_ma : wrM pD 4 ⟨#[99, 99, 99, 99]⟩ = wbA := by kernel_rfl
theorem wb_ea : wrE pD 4 ⟨#[99, 99, 99, 99]⟩ = 0 := by decide +kernel
def wbB : ImgD := ⟨6, [5, 4], [(0, ⟨#[]⟩, []), (1, aaaa, []), (2, ⟨#[]⟩, [1, 0, -1, 1]), (1, bbbb, []), (2, ⟨#[]⟩, [3, 0, 0, 0]), (2, ⟨#[]⟩, [6, 0, -1, 1]), (1, ⟨#[100, 100, 100, 100]⟩, [])], [0, 3, 1, 1, 1, 1, 1], [(nOld, 4, [2])]⟩
theorem wb_mb : wrM pD 0 ⟨#[100, 100, 100, 100]⟩ = wbB := by kernel_rfl
theorem wb_eb : wrE pD 0 ⟨#[100, 100, 100, 100]⟩ = 0 := by decide +kernel
def wbC : ImgD := ⟨6, [2, 0], [(0, ⟨#[]⟩, []), (1, aaaa, []), (2, ⟨#[]⟩, [1, 0, -1, 1]), (0, ⟨#[]⟩, []), (0, ⟨#[]⟩, [])], [0, 2, 2, 0, 0], [(nOld, 4, [2])]⟩
theorem wb_mc : puM pD 4 0 = wbC := by kernel_rfl
theorem wb_ec : puE pD 4 0 = 0 := by decide +kernel
def wbD : ImgD := ⟨6, [2, 4], [(0, ⟨#[]⟩, []), (1, aaaa, []), (2, ⟨#[]⟩, [1, 0, -1, 1]), (1, bbbb, []), (2, ⟨#[]⟩, [3, -1, 0, 0])], [0, 2, 2, 1, 1], [(nOld, 4, [2])]⟩
theorem wb_md : puM pD 5 (-1) = wbD := by kernel_rfl
theorem wb_ed : puE pD 5 (-1) = 0 := by decide +kernel
def wbX : ImgD := ⟨3, [5], [(0, ⟨#[]⟩, []), (1, aaaa, []), (2, ⟨#[]⟩, [1, 0, -1, 1]), (0, ⟨#[]⟩, []), (0, ⟨#[]⟩, []), (2, ⟨#[]⟩, [1, 0, -1, 0])], [0, 3, 1, 0, 0, 1], [(nOld, 4, [2])]⟩
theorem wb_mx : rzM pD 3 = wbX := by kernel_rfl
theorem wb_ex : rzE pD 3 = 0 := by decide +kernel

set_option maxHeartbeats 200000000 in
theorem writesBegun_any (w : World) : Calls Try.prog 28 #[] w fun r w' => r = .returned (.bool true) ∧ Below w.heap.size w w' := by
  go_enter Try.func28, Try.ntmps28
  have hB := Below.refl w.heap.size w
  go_wp2_with fail
  refine (pair_is _).mono ?_
  rintro e w1 ⟨⟨v_a, rfl, P_a⟩, bb⟩
  replace hB := Below.on hB bb
  clear bb
  go_wp2_with fail
  refine (write_to P_a 4 ⟨#[99, 99, 99, 99]⟩ wb_ma wb_ea).mono ?_
  intro e w2 hA
  obtain ⟨val, a_r, a_rc, a_s, a_sc, a_f, a_fc, a_n, a_nc, rfl, hO, bb, hI⟩ := hA.open
  dsimp only
  have I_a := hO.img
  rw [hI] at I_a
  clear hA hO hI
  rw [show wbA.guest = 6 from rfl, show wbA.root.length = 2 from rfl, show wbA.slots.length = 5 from rfl, show wbA.refs.length = 5 from rfl, show wbA.snaps.length = 1 from rfl] at I_a ⊢
  replace hB := Below.on hB bb
  replace P_a := P_a.below bb
  clear bb
  clear P_a
  have ba : Below w2.heap.size w2 (w2.alloc (.cells #[.int .i64 6, .slice a_r 2 a_rc, .slice a_s 5 a_sc, .slice a_f 5 a_fc, .slice a_n 1 a_nc] 26)) := (Below.refl _ _).alloc (Nat.le_refl _) _
  replace hB := Below.on hB ba
  replace I_a := I_a.below ba
  clear ba
  have mb_a : (w2.alloc (.cells #[.int .i64 6, .slice a_r 2 a_rc, .slice a_s 5 a_sc, .slice a_f 5 a_fc, .slice a_n 1 a_nc] 26)).heap[w2.heap.size]? = some (.cells #[.int .i64 6, .slice a_r 2 a_rc, .slice a_s 5 a_sc, .slice a_f 5 a_fc, .slice a_n 1 a_nc] 26) := World.alloc_heap_new _ _
  obtain ⟨a0, a1, a2, a3, a4⟩ := five mb_a
  go_wp2_with fail
  refine (pair_is _).mono ?_
  rintro e w3 ⟨⟨v_b, rfl, P_b⟩, bb⟩
  clear a0 a1 a2 a3 a4
  replace mb_a := cells_below mb_a bb (Array.getElem?_eq_some_iff.1 mb_a).1
  replace hB := Below.on hB bb
  replace I_a := I_a.below bb
  clear bb
  obtain ⟨a0, a1, a2, a3, a4⟩ := five mb_a
  go_wp2_with fail
  refine (write_to P_b 0 ⟨#[100, 100, 100, 100]⟩ wb_mb wb_eb).mono ?_
  intro e w4 hA
  obtain ⟨val, b_r, b_rc, b_s, b_sc, b_f, b_fc, b_n, b_nc, rfl, hO, bb, hI⟩ := hA.open
  dsimp only
  have I_b := hO.img
  rw [hI] at I_b
  clear hA hO hI
  rw [show wbB.guest = 6 from rfl, show wbB.root.length = 2 from rfl, show wbB.slots.length = 7 from rfl, show wbB.refs.length = 7 from rfl, show wbB.snaps.length = 1 from rfl] at I_b ⊢
  clear a0 a1 a2 a3 a4
  replace mb_a := cells_below mb_a bb (Array.getElem?_eq_some_iff.1 mb_a).1
  replace hB := Below.on hB bb
  replace I_a := I_a.below bb
  replace P_b := P_b.below bb
  clear bb
  clear P_b
  replace mb_a := cells_alloc mb_a (.cells #[.int .i64 6, .slice b_r 2 b_rc, .slice b_s 7 b_sc, .slice b_f 7 b_fc, .slice b_n 1 b_nc] 26)
  have ba : Below w4.heap.size w4 (w4.alloc (.cells #[.int .i64 6, .slice b_r 2 b_rc, .slice b_s 7 b_sc, .slice b_f 7 b_fc, .slice b_n 1 b_nc] 26)) := (Below.refl _ _).alloc (Nat.le_refl _) _
  replace hB := Below.on hB ba
  replace I_a := I_a.below ba
  replace I_b := I_b.below ba
  clear ba
  have mb_b : (w4.alloc (.cells #[.int .i64 6, .slice b_r 2 b_rc, .slice b_s 7 b_sc, .slice b_f 7 b_fc, .slice b_n 1 b_nc] 26)).heap[w4.heap.size]? = some (.cells #[.int .i64 6, .slice b_r 2 b_rc, .slice b_s 7 b_sc, .slice b_f 7 b_fc, .slice b_n 1 b_nc] 26) := World.alloc_heap_new _ _
  obtain ⟨a0, a1, a2, a3, a4⟩ := five mb_a
  obtain ⟨b0, b1, b2, b3, b4⟩ := five mb_b
  go_wp2_with fail
  refine (pair_is _).mono ?_
  rintro e w5 ⟨⟨v_c, rfl, P_c⟩, bb⟩
  clear a0 a1 a2 a3 a4 b0 b1 b2 b3 b4
  replace mb_a := cells_below mb_a bb (Array.getElem?_eq_some_iff.1 mb_a).1
  replace mb_b := cells_below mb_b bb (Array.getElem?_eq_some_iff.1 mb_b).1
  replace hB := Below.on hB bb
  replace I_a := I_a.below bb
  replace I_b := I_b.below bb
  clear bb
  obtain ⟨a0, a1, a2, a3, a4⟩ := five mb_a
  obtain ⟨b0, b1, b2, b3, b4⟩ := five mb_b
  go_wp2_with fail
  refine (punch_to P_c 4 wb_mc wb_ec).mono ?_
  intro e w6 hA
  obtain ⟨val, c_r, c_rc, c_s, c_sc, c_f, c_fc, c_n, c_nc, rfl, hO, bb, hI⟩ := hA.open
  dsimp only
  have I_c := hO.img
  rw [hI] at I_c
  clear hA hO hI
  rw [show wbC.guest = 6 from rfl, show wbC.root.length = 2 from rfl, show wbC.slots.length = 5 from rfl, show wbC.refs.length = 5 from rfl, show wbC.snaps.length = 1 from rfl] at I_c ⊢
  clear a0 a1 a2 a3 a4 b0 b1 b2 b3 b4
  replace mb_a := cells_below mb_a bb (Array.getElem?_eq_some_iff.1 mb_a).1
  replace mb_b := cells_below mb_b bb (Array.getElem?_eq_some_iff.1 mb_b).1
  replace hB := Below.on hB bb
  replace I_a := I_a.below bb
  replace I_b := I_b.below bb
  replace P_c := P_c.below bb
  clear bb
  clear P_c
  replace mb_a := cells_alloc mb_a (.cells #[.int .i64 6, .slice c_r 2 c_rc, .slice c_s 5 c_sc, .slice c_f 5 c_fc, .slice c_n 1 c_nc] 26)
  replace mb_b := cells_alloc mb_b (.cells #[.int .i64 6, .slice c_r 2 c_rc, .slice c_s 5 c_sc, .slice c_f 5 c_fc, .slice c_n 1 c_nc] 26)
  have ba : Below w6.heap.size w6 (w6.alloc (.cells #[.int .i64 6, .slice c_r 2 c_rc, .slice c_s 5 c_sc, .slice c_f 5 c_fc, .slice c_n 1 c_nc] 26)) := (Below.refl _ _).alloc (Nat.le_refl _) _
  replace hB := Below.on hB ba
  replace I_a := I_a.below ba
  replace I_b := I_b.below ba
  replace I_c := I_c.below ba
  clear ba
  have mb_c : (w6.alloc (.cells #[.int .i64 6, .slice c_r 2 c_rc, .slice c_s 5 c_sc, .slice c_f 5 c_fc, .slice c_n 1 c_nc] 26)).heap[w6.heap.size]? = some (.cells #[.int .i64 6, .slice c_r 2 c_rc, .slice c_s 5 c_sc, .slice c_f 5 c_fc, .slice c_n 1 c_nc] 26) := World.alloc_heap_new _ _
  obtain ⟨a0, a1, a2, a3, a4⟩ := five mb_a
  obtain ⟨b0, b1, b2, b3, b4⟩ := five mb_b
  obtain ⟨c0, c1, c2, c3, c4⟩ := five mb_c
  go_wp2_with fail
  refine (pair_is _).mono ?_
  rintro e w7 ⟨⟨v_d, rfl, P_d⟩, bb⟩
  clear a0 a1 a2 a3 a4 b0 b1 b2 b3 b4 c0 c1 c2 c3 c4
  replace mb_a := cells_below mb_a bb (Array.getElem?_eq_some_iff.1 mb_a).1
  replace mb_b := cells_below mb_b bb (Array.getElem?_eq_some_iff.1 mb_b).1
  replace mb_c := cells_below mb_c bb (Array.getElem?_eq_some_iff.1 mb_c).1
  replace hB := Below.on hB bb
  replace I_a := I_a.below bb
  replace I_b := I_b.below bb
  replace I_c := I_c.below bb
  clear bb
  obtain ⟨a0, a1, a2, a3, a4⟩ := five mb_a
  obtain ⟨b0, b1, b2, b3, b4⟩ := five mb_b
  obtain ⟨c0, c1, c2, c3, c4⟩ := five mb_c
  go_wp2_with fail
  refine (wipe_to P_d 5 wb_md wb_ed).mono ?_
  intro e w8 hA
  obtain ⟨val, d_r, d_rc, d_s, d_sc, d_f, d_fc, d_n, d_nc, rfl, hO, bb, hI⟩ := hA.open
  dsimp only
  have I_d := hO.img
  rw [hI] at I_d
  clear hA hO hI
  rw [show wbD.guest = 6 from rfl, show wbD.root.length = 2 from rfl, show wbD.slots.length = 5 from rfl, show wbD.refs.length = 5 from rfl, show wbD.snaps.length = 1 from rfl] at I_d ⊢
  clear a0 a1 a2 a3 a4 b0 b1 b2 b3 b4 c0 c1 c2 c3 c4
  replace mb_a := cells_below mb_a bb (Array.getElem?_eq_some_iff.1 mb_a).1
  replace mb_b := cells_below mb_b bb (Array.getElem?_eq_some_iff.1 mb_b).1
  replace mb_c := cells_below mb_c bb (Array.getElem?_eq_some_iff.1 mb_c).1
  replace hB := Below.on hB bb
  replace I_a := I_a.below bb
  replace I_b := I_b.below bb
  replace I_c := I_c.below bb
  replace P_d := P_d.below bb
  clear bb
  clear P_d
  replace mb_a := cells_alloc mb_a (.cells #[.int .i64 6, .slice d_r 2 d_rc, .slice d_s 5 d_sc, .slice d_f 5 d_fc, .slice d_n 1 d_nc] 26)
  replace mb_b := cells_alloc mb_b (.cells #[.int .i64 6, .slice d_r 2 d_rc, .slice d_s 5 d_sc, .slice d_f 5 d_fc, .slice d_n 1 d_nc] 26)
  replace mb_c := cells_alloc mb_c (.cells #[.int .i64 6, .slice d_r 2 d_rc, .slice d_s 5 d_sc, .slice d_f 5 d_fc, .slice d_n 1 d_nc] 26)
  have ba : Below w8.heap.size w8 (w8.alloc (.cells #[.int .i64 6, .slice d_r 2 d_rc, .slice d_s 5 d_sc, .slice d_f 5 d_fc, .slice d_n 1 d_nc] 26)) := (Below.refl _ _).alloc (Nat.le_refl _) _
  replace hB := Below.on hB ba
  replace I_a := I_a.below ba
  replace I_b := I_b.below ba
  replace I_c := I_c.below ba
  replace I_d := I_d.below ba
  clear ba
  have mb_d : (w8.alloc (.cells #[.int .i64 6, .slice d_r 2 d_rc, .slice d_s 5 d_sc, .slice d_f 5 d_fc, .slice d_n 1 d_nc] 26)).heap[w8.heap.size]? = some (.cells #[.int .i64 6, .slice d_r 2 d_rc, .slice d_s 5 d_sc, .slice d_f 5 d_fc, .slice d_n 1 d_nc] 26) := World.alloc_heap_new _ _
  obtain ⟨a0, a1, a2, a3, a4⟩ := five mb_a
  obtain ⟨b0, b1, b2, b3, b4⟩ := five mb_b
  obtain ⟨c0, c1, c2, c3, c4⟩ := five mb_c
  obtain ⟨d0, d1, d2, d3, d4⟩ := five mb_d
  go_wp2_with fail
  refine (pair_is _).mono ?_
  rintro e w9 ⟨⟨v_x, rfl, P_x⟩, bb⟩
  clear a0 a1 a2 a3 a4 b0 b1 b2 b3 b4 c0 c1 c2 c3 c4 d0 d1 d2 d3 d4
  replace mb_a := cells_below mb_a bb (Array.getElem?_eq_some_iff.1 mb_a).1
  replace mb_b := cells_below mb_b bb (Array.getElem?_eq_some_iff.1 mb_b).1
  replace mb_c := cells_below mb_c bb (Array.getElem?_eq_some_iff.1 mb_c).1
  replace mb_d := cells_below mb_d bb (Array.getElem?_eq_some_iff.1 mb_d).1
  replace hB := Below.on hB bb
  replace I_a := I_a.below bb
  replace I_b := I_b.below bb
  replace I_c := I_c.below bb
  replace I_d := I_d.below bb
  clear bb
  obtain ⟨a0, a1, a2, a3, a4⟩ := five mb_a
  obtain ⟨b0, b1, b2, b3, b4⟩ := five mb_b
  obtain ⟨c0, c1, c2, c3, c4⟩ := five mb_c
  obtain ⟨d0, d1, d2, d3, d4⟩ := five mb_d
  go_wp2_with fail
  refine (resize_to P_x 3 wb_mx wb_ex).mono ?_
  intro e w10 hA
  obtain ⟨val, x_r, x_rc, x_s, x_sc, x_f, x_fc, x_n, x_nc, rfl, hO, bb, hI⟩ := hA.open
  dsimp only
  have I_x := hO.img
  rw [hI] at I_x
  clear hA hO hI
  rw [show wbX.guest = 3 from rfl, show wbX.root.length = 1 from rfl, show wbX.slots.length = 6 from rfl, show wbX.refs.length = 6 from rfl, show wbX.snaps.length = 1 from rfl] at I_x ⊢
  clear a0 a1 a2 a3 a4 b0 b1 b2 b3 b4 c0 c1 c2 c3 c4 d0 d1 d2 d3 d4
  replace mb_a := cells_below mb_a bb (Array.getElem?_eq_some_iff.1 mb_a).1
  replace mb_b := cells_below mb_b bb (Array.getElem?_eq_some_iff.1 mb_b).1
  replace mb_c := cells_below mb_c bb (Array.getElem?_eq_some_iff.1 mb_c).1
  replace mb_d := cells_below mb_d bb (Array.getElem?_eq_some_iff.1 mb_d).1
  replace hB := Below.on hB bb
  replace I_a := I_a.below bb
  replace I_b := I_b.below bb
  replace I_c := I_c.below bb
  replace I_d := I_d.below bb
  replace P_x := P_x.below bb
  clear bb
  clear P_x
  replace mb_a := cells_alloc mb_a (.cells #[.int .i64 3, .slice x_r 1 x_rc, .slice x_s 6 x_sc, .slice x_f 6 x_fc, .slice x_n 1 x_nc] 26)
  replace mb_b := cells_alloc mb_b (.cells #[.int .i64 3, .slice x_r 1 x_rc, .slice x_s 6 x_sc, .slice x_f 6 x_fc, .slice x_n 1 x_nc] 26)
  replace mb_c := cells_alloc mb_c (.cells #[.int .i64 3, .slice x_r 1 x_rc, .slice x_s 6 x_sc, .slice x_f 6 x_fc, .slice x_n 1 x_nc] 26)
  replace mb_d := cells_alloc mb_d (.cells #[.int .i64 3, .slice x_r 1 x_rc, .slice x_s 6 x_sc, .slice x_f 6 x_fc, .slice x_n 1 x_nc] 26)
  have ba : Below w10.heap.size w10 (w10.alloc (.cells #[.int .i64 3, .slice x_r 1 x_rc, .slice x_s 6 x_sc, .slice x_f 6 x_fc, .slice x_n 1 x_nc] 26)) := (Below.refl _ _).alloc (Nat.le_refl _) _
  replace hB := Below.on hB ba
  replace I_a := I_a.below ba
  replace I_b := I_b.below ba
  replace I_c := I_c.below ba
  replace I_d := I_d.below ba
  replace I_x := I_x.below ba
  clear ba
  have mb_x : (w10.alloc (.cells #[.int .i64 3, .slice x_r 1 x_rc, .slice x_s 6 x_sc, .slice x_f 6 x_fc, .slice x_n 1 x_nc] 26)).heap[w10.heap.size]? = some (.cells #[.int .i64 3, .slice x_r 1 x_rc, .slice x_s 6 x_sc, .slice x_f 6 x_fc, .slice x_n 1 x_nc] 26) := World.alloc_heap_new _ _
  obtain ⟨pa, oa, ta, e, _, la, sa⟩ := I_a.four.2.1.open (by decide)
  simp only [Value.slice.injEq] at e
  obtain ⟨rfl, hh, rfl⟩ := e
  clear hh
  obtain ⟨pb, ob, tb, e, _, lb, sb⟩ := I_b.four.2.1.open (by decide)
  simp only [Value.slice.injEq] at e
  obtain ⟨rfl, hh, rfl⟩ := e
  clear hh
  obtain ⟨pc, oc, tc, e, _, lc, sc⟩ := I_c.four.2.1.open (by decide)
  simp only [Value.slice.injEq] at e
  obtain ⟨rfl, hh, rfl⟩ := e
  clear hh
  obtain ⟨pd, od, td, e, _, ld, sd⟩ := I_d.four.2.1.open (by decide)
  simp only [Value.slice.injEq] at e
  obtain ⟨rfl, hh, rfl⟩ := e
  clear hh
  obtain ⟨px, ox, tx, e, _, lx, sx⟩ := I_x.four.2.1.open (by decide)
  simp only [Value.slice.injEq] at e
  obtain ⟨rfl, hh, rfl⟩ := e
  clear hh
  have ca3 : CAt (w10.alloc (.cells #[.int .i64 3, .slice x_r 1 x_rc, .slice (some ⟨px, ox, none⟩) 6 x_sc, .slice x_f 6 x_fc, .slice x_n 1 x_nc] 26)) ⟨pa, oa + 10, none⟩ (.string ⟨#[99, 99, 99, 99]⟩) := ⟨((sa 3 (by decide))).choose_spec.2.1, la⟩
  obtain ⟨tv, _, _, q2, qs⟩ := sb 5 (by decide)
  obtain ⟨tb5a, tb5c, rfl⟩ := qs.form
  have ctb5 : CAt (w10.alloc (.cells #[.int .i64 3, .slice x_r 1 x_rc, .slice (some ⟨px, ox, none⟩) 6 x_sc, .slice x_f 6 x_fc, .slice x_n 1 x_nc] 26)) ⟨pb, ob + 17, none⟩ (.slice tb5a 4 tb5c) := ⟨q2, lb⟩
  have Stb5 : Sl (w10.alloc (.cells #[.int .i64 3, .slice x_r 1 x_rc, .slice (some ⟨px, ox, none⟩) 6 x_sc, .slice x_f 6 x_fc, .slice x_n 1 x_nc] 26)) (.slice tb5a 4 tb5c) [6, 0, -1, 1] := qs
  clear q2 qs
  have cc3 : CAt (w10.alloc (.cells #[.int .i64 3, .slice x_r 1 x_rc, .slice (some ⟨px, ox, none⟩) 6 x_sc, .slice x_f 6 x_fc, .slice x_n 1 x_nc] 26)) ⟨pc, oc + 9, none⟩ (.int .i64 0) := ⟨((sc 3 (by decide))).choose_spec.1, lc⟩
  obtain ⟨tv, _, _, q2, qs⟩ := sd 4 (by decide)
  obtain ⟨td4a, td4c, rfl⟩ := qs.form
  have ctd4 : CAt (w10.alloc (.cells #[.int .i64 3, .slice x_r 1 x_rc, .slice (some ⟨px, ox, none⟩) 6 x_sc, .slice x_f 6 x_fc, .slice x_n 1 x_nc] 26)) ⟨pd, od + 14, none⟩ (.slice td4a 4 td4c) := ⟨q2, ld⟩
  have Std4 : Sl (w10.alloc (.cells #[.int .i64 3, .slice x_r 1 x_rc, .slice (some ⟨px, ox, none⟩) 6 x_sc, .slice x_f 6 x_fc, .slice x_n 1 x_nc] 26)) (.slice td4a 4 td4c) [3, -1, 0, 0] := qs
  clear q2 qs
  obtain ⟨tv, _, _, q2, qs⟩ := sx 5 (by decide)
  obtain ⟨tx5a, tx5c, rfl⟩ := qs.form
  have ctx5 : CAt (w10.alloc (.cells #[.int .i64 3, .slice x_r 1 x_rc, .slice (some ⟨px, ox, none⟩) 6 x_sc, .slice x_f 6 x_fc, .slice x_n 1 x_nc] 26)) ⟨px, ox + 17, none⟩ (.slice tx5a 4 tx5c) := ⟨q2, lx⟩
  have Stx5 : Sl (w10.alloc (.cells #[.int .i64 3, .slice x_r 1 x_rc, .slice (some ⟨px, ox, none⟩) 6 x_sc, .slice x_f 6 x_fc, .slice x_n 1 x_nc] 26)) (.slice tx5a 4 tx5c) [1, 0, -1, 0] := qs
  clear q2 qs
  have cx4 : CAt (w10.alloc (.cells #[.int .i64 3, .slice x_r 1 x_rc, .slice (some ⟨px, ox, none⟩) 6 x_sc, .slice x_f 6 x_fc, .slice x_n 1 x_nc] 26)) ⟨px, ox + 12, none⟩ (.int .i64 0) := ⟨((sx 4 (by decide))).choose_spec.1, lx⟩
  have Rb := I_b.four.1
  have Fb := I_b.four.2.2.1
  have Rc := I_c.four.1
  have Rx := I_x.four.1
  clear I_a
  clear sa la
  clear I_b
  clear sb lb
  clear I_c
  clear sc lc
  clear I_d
  clear sd ld
  clear I_x
  clear sx lx
  have hnew := Sl_new (w10.alloc (.cells #[.int .i64 3, .slice x_r 1 x_rc, .slice (some ⟨px, ox, none⟩) 6 x_sc, .slice x_f 6 x_fc, .slice x_n 1 x_nc] 26)) [5, 4] 2 rfl (by decide)
  rw [show (w10.alloc (.cells #[.int .i64 3, .slice x_r 1 x_rc, .slice (some ⟨px, ox, none⟩) 6 x_sc, .slice x_f 6 x_fc, .slice x_n 1 x_nc] 26)).heap.size = w10.heap.size + 1 by simp] at hnew
  obtain ⟨a0, a1, a2, a3, a4⟩ := five mb_a
  obtain ⟨b0, b1, b2, b3, b4⟩ := five mb_b
  have q_ca3 := ca3.1
  have hh_mb_a := Hid_mkW mb_a
  have hh_mb_b := Hid_mkW mb_b
  have hh_mb_c := Hid_mkW mb_c
  have hh_mb_d := Hid_mkW mb_d
  have hh_mb_x := Hid_mkW mb_x
  have hh_ca3 := Hid_mkW ca3
  have hh_ctb5 := Hid_mkW ctb5
  have hh_Stb5 := Hid_mkW Stb5
  have hh_cc3 := Hid_mkW cc3
  have hh_ctd4 := Hid_mkW ctd4
  have hh_Std4 := Hid_mkW Std4
  have hh_ctx5 := Hid_mkW ctx5
  have hh_Stx5 := Hid_mkW Stx5
  have hh_cx4 := Hid_mkW cx4
  have hh_Rb := Hid_mkW Rb
  have hh_Fb := Hid_mkW Fb
  have hh_Rc := Hid_mkW Rc
  have hh_Rx := Hid_mkW Rx
  have hh_hB := Hid_mkW hB
  have hh_hnew := Hid_mkW hnew
  clear mb_a mb_b mb_c mb_d mb_x ca3 ctb5 Stb5 cc3 ctd4 Std4 ctx5 Stx5 cx4 Rb Fb Rc Rx hB hnew
  go_wp2_with fail
  clear a0 a1 a2 a3 a4 b0 b1 b2 b3 b4 q_ca3
  have mb_a := hh_mb_a.out
  have mb_b := hh_mb_b.out
  have mb_c := hh_mb_c.out
  have mb_d := hh_mb_d.out
  have mb_x := hh_mb_x.out
  have ca3 := hh_ca3.out
  have ctb5 := hh_ctb5.out
  have Stb5 := hh_Stb5.out
  have cc3 := hh_cc3.out
  have ctd4 := hh_ctd4.out
  have Std4 := hh_Std4.out
  have ctx5 := hh_ctx5.out
  have Stx5 := hh_Stx5.out
  have cx4 := hh_cx4.out
  have Rb := hh_Rb.out
  have Fb := hh_Fb.out
  have Rc := hh_Rc.out
  have Rx := hh_Rx.out
  have hB := hh_hB.out
  have hnew := hh_hnew.out
  clear hh_mb_a hh_mb_b hh_mb_c hh_mb_d hh_mb_x hh_ca3 hh_ctb5 hh_Stb5 hh_cc3 hh_ctd4 hh_Std4 hh_ctx5 hh_Stx5 hh_cx4 hh_Rb hh_Fb hh_Rc hh_Rx hh_hB hh_hnew
  replace mb_a := cells_alloc mb_a (.cells #[.int .i64 5, .int .i64 4] 3)
  replace mb_b := cells_alloc mb_b (.cells #[.int .i64 5, .int .i64 4] 3)
  replace mb_c := cells_alloc mb_c (.cells #[.int .i64 5, .int .i64 4] 3)
  replace mb_d := cells_alloc mb_d (.cells #[.int .i64 5, .int .i64 4] 3)
  replace mb_x := cells_alloc mb_x (.cells #[.int .i64 5, .int .i64 4] 3)
  have ba : Below (w10.alloc (.cells #[.int .i64 3, .slice x_r 1 x_rc, .slice (some ⟨px, ox, none⟩) 6 x_sc, .slice x_f 6 x_fc, .slice x_n 1 x_nc] 26)).heap.size (w10.alloc (.cells #[.int .i64 3, .slice x_r 1 x_rc, .slice (some ⟨px, ox, none⟩) 6 x_sc, .slice x_f 6 x_fc, .slice x_n 1 x_nc] 26)) ((w10.alloc (.cells #[.int .i64 3, .slice x_r 1 x_rc, .slice (some ⟨px, ox, none⟩) 6 x_sc, .slice x_f 6 x_fc, .slice x_n 1 x_nc] 26)).alloc (.cells #[.int .i64 5, .int .i64 4] 3)) := (Below.refl _ _).alloc (Nat.le_refl _) _
  replace hB := Below.on hB ba
  replace ca3 := ca3.below ba
  replace ctb5 := ctb5.below ba
  replace Stb5 := Stb5.below ba
  replace cc3 := cc3.below ba
  replace ctd4 := ctd4.below ba
  replace Std4 := Std4.below ba
  replace ctx5 := ctx5.below ba
  replace Stx5 := Stx5.below ba
  replace cx4 := cx4.below ba
  replace Rb := Rb.below ba
  replace Fb := Fb.below ba
  replace Rc := Rc.below ba
  replace Rx := Rx.below ba
  clear ba
  refine (same_any Rb hnew).mono ?_
  rintro e w11 ⟨rfl, bb⟩
  clear hnew
  replace mb_a := cells_below mb_a bb (Array.getElem?_eq_some_iff.1 mb_a).1
  replace mb_b := cells_below mb_b bb (Array.getElem?_eq_some_iff.1 mb_b).1
  replace mb_c := cells_below mb_c bb (Array.getElem?_eq_some_iff.1 mb_c).1
  replace mb_d := cells_below mb_d bb (Array.getElem?_eq_some_iff.1 mb_d).1
  replace mb_x := cells_below mb_x bb (Array.getElem?_eq_some_iff.1 mb_x).1
  replace hB := Below.on hB bb
  replace ca3 := ca3.below bb
  replace ctb5 := ctb5.below bb
  replace Stb5 := Stb5.below bb
  replace cc3 := cc3.below bb
  replace ctd4 := ctd4.below bb
  replace Std4 := Std4.below bb
  replace ctx5 := ctx5.below bb
  replace Stx5 := Stx5.below bb
  replace cx4 := cx4.below bb
  replace Rb := Rb.below bb
  replace Fb := Fb.below bb
  replace Rc := Rc.below bb
  replace Rx := Rx.below bb
  clear bb
  clear Rb
  clear mb_a
  clear ca3
  have hnew := Sl_new w11 [6, 0, -1, 1] 4 rfl (by decide)
  obtain ⟨b0, b1, b2, b3, b4⟩ := five mb_b
  have q_ctb5 := ctb5.1
  have hh_mb_b := Hid_mkW mb_b
  have hh_mb_c := Hid_mkW mb_c
  have hh_mb_d := Hid_mkW mb_d
  have hh_mb_x := Hid_mkW mb_x
  have hh_ctb5 := Hid_mkW ctb5
  have hh_Stb5 := Hid_mkW Stb5
  have hh_cc3 := Hid_mkW cc3
  have hh_ctd4 := Hid_mkW ctd4
  have hh_Std4 := Hid_mkW Std4
  have hh_ctx5 := Hid_mkW ctx5
  have hh_Stx5 := Hid_mkW Stx5
  have hh_cx4 := Hid_mkW cx4
  have hh_Fb := Hid_mkW Fb
  have hh_Rc := Hid_mkW Rc
  have hh_Rx := Hid_mkW Rx
  have hh_hB := Hid_mkW hB
  have hh_hnew := Hid_mkW hnew
  clear mb_b mb_c mb_d mb_x ctb5 Stb5 cc3 ctd4 Std4 ctx5 Stx5 cx4 Fb Rc Rx hB hnew
  go_wp2_with fail
  clear b0 b1 b2 b3 b4 q_ctb5
  have mb_b := hh_mb_b.out
  have mb_c := hh_mb_c.out
  have mb_d := hh_mb_d.out
  have mb_x := hh_mb_x.out
  have ctb5 := hh_ctb5.out
  have Stb5 := hh_Stb5.out
  have cc3 := hh_cc3.out
  have ctd4 := hh_ctd4.out
  have Std4 := hh_Std4.out
  have ctx5 := hh_ctx5.out
  have Stx5 := hh_Stx5.out
  have cx4 := hh_cx4.out
  have Fb := hh_Fb.out
  have Rc := hh_Rc.out
  have Rx := hh_Rx.out
  have hB := hh_hB.out
  have hnew := hh_hnew.out
  clear hh_mb_b hh_mb_c hh_mb_d hh_mb_x hh_ctb5 hh_Stb5 hh_cc3 hh_ctd4 hh_Std4 hh_ctx5 hh_Stx5 hh_cx4 hh_Fb hh_Rc hh_Rx hh_hB hh_hnew
  replace mb_b := cells_alloc mb_b (.cells #[.int .i64 6, .int .i64 0, .int .i64 (-1), .int .i64 1] 3)
  replace mb_c := cells_alloc mb_c (.cells #[.int .i64 6, .int .i64 0, .int .i64 (-1), .int .i64 1] 3)
  replace mb_d := cells_alloc mb_d (.cells #[.int .i64 6, .int .i64 0, .int .i64 (-1), .int .i64 1] 3)
  replace mb_x := cells_alloc mb_x (.cells #[.int .i64 6, .int .i64 0, .int .i64 (-1), .int .i64 1] 3)
  have ba : Below w11.heap.size w11 (w11.alloc (.cells #[.int .i64 6, .int .i64 0, .int .i64 (-1), .int .i64 1] 3)) := (Below.refl _ _).alloc (Nat.le_refl _) _
  replace hB := Below.on hB ba
  replace ctb5 := ctb5.below ba
  replace Stb5 := Stb5.below ba
  replace cc3 := cc3.below ba
  replace ctd4 := ctd4.below ba
  replace Std4 := Std4.below ba
  replace ctx5 := ctx5.below ba
  replace Stx5 := Stx5.below ba
  replace cx4 := cx4.below ba
  replace Fb := Fb.below ba
  replace Rc := Rc.below ba
  replace Rx := Rx.below ba
  clear ba
  refine (same_any Stb5 hnew).mono ?_
  rintro e w12 ⟨rfl, bb⟩
  clear hnew
  replace mb_b := cells_below mb_b bb (Array.getElem?_eq_some_iff.1 mb_b).1
  replace mb_c := cells_below mb_c bb (Array.getElem?_eq_some_iff.1 mb_c).1
  replace mb_d := cells_below mb_d bb (Array.getElem?_eq_some_iff.1 mb_d).1
  replace mb_x := cells_below mb_x bb (Array.getElem?_eq_some_iff.1 mb_x).1
  replace hB := Below.on hB bb
  replace ctb5 := ctb5.below bb
  replace Stb5 := Stb5.below bb
  replace cc3 := cc3.below bb
  replace ctd4 := ctd4.below bb
  replace Std4 := Std4.below bb
  replace ctx5 := ctx5.below bb
  replace Stx5 := Stx5.below bb
  replace cx4 := cx4.below bb
  replace Fb := Fb.below bb
  replace Rc := Rc.below bb
  replace Rx := Rx.below bb
  clear bb
  clear Stb5
  clear ctb5
  have hnew := Sl_new w12 [0, 3, 1, 1, 1, 1, 1] 7 rfl (by decide)
  obtain ⟨b0, b1, b2, b3, b4⟩ := five mb_b
  have hh_mb_b := Hid_mkW mb_b
  have hh_mb_c := Hid_mkW mb_c
  have hh_mb_d := Hid_mkW mb_d
  have hh_mb_x := Hid_mkW mb_x
  have hh_cc3 := Hid_mkW cc3
  have hh_ctd4 := Hid_mkW ctd4
  have hh_Std4 := Hid_mkW Std4
  have hh_ctx5 := Hid_mkW ctx5
  have hh_Stx5 := Hid_mkW Stx5
  have hh_cx4 := Hid_mkW cx4
  have hh_Fb := Hid_mkW Fb
  have hh_Rc := Hid_mkW Rc
  have hh_Rx := Hid_mkW Rx
  have hh_hB := Hid_mkW hB
  have hh_hnew := Hid_mkW hnew
  clear mb_b mb_c mb_d mb_x cc3 ctd4 Std4 ctx5 Stx5 cx4 Fb Rc Rx hB hnew
  go_wp2_with fail
  clear b0 b1 b2 b3 b4
  have mb_b := hh_mb_b.out
  have mb_c := hh_mb_c.out
  have mb_d := hh_mb_d.out
  have mb_x := hh_mb_x.out
  have cc3 := hh_cc3.out
  have ctd4 := hh_ctd4.out
  have Std4 := hh_Std4.out
  have ctx5 := hh_ctx5.out
  have Stx5 := hh_Stx5.out
  have cx4 := hh_cx4.out
  have Fb := hh_Fb.out
  have Rc := hh_Rc.out
  have Rx := hh_Rx.out
  have hB := hh_hB.out
  have hnew := hh_hnew.out
  clear hh_mb_b hh_mb_c hh_mb_d hh_mb_x hh_cc3 hh_ctd4 hh_Std4 hh_ctx5 hh_Stx5 hh_cx4 hh_Fb hh_Rc hh_Rx hh_hB hh_hnew
  replace mb_b := cells_alloc mb_b (.cells #[.int .i64 0, .int .i64 3, .int .i64 1, .int .i64 1, .int .i64 1, .int .i64 1, .int .i64 1] 3)
  replace mb_c := cells_alloc mb_c (.cells #[.int .i64 0, .int .i64 3, .int .i64 1, .int .i64 1, .int .i64 1, .int .i64 1, .int .i64 1] 3)
  replace mb_d := cells_alloc mb_d (.cells #[.int .i64 0, .int .i64 3, .int .i64 1, .int .i64 1, .int .i64 1, .int .i64 1, .int .i64 1] 3)
  replace mb_x := cells_alloc mb_x (.cells #[.int .i64 0, .int .i64 3, .int .i64 1, .int .i64 1, .int .i64 1, .int .i64 1, .int .i64 1] 3)
  have ba : Below w12.heap.size w12 (w12.alloc (.cells #[.int .i64 0, .int .i64 3, .int .i64 1, .int .i64 1, .int .i64 1, .int .i64 1, .int .i64 1] 3)) := (Below.refl _ _).alloc (Nat.le_refl _) _
  replace hB := Below.on hB ba
  replace cc3 := cc3.below ba
  replace ctd4 := ctd4.below ba
  replace Std4 := Std4.below ba
  replace ctx5 := ctx5.below ba
  replace Stx5 := Stx5.below ba
  replace cx4 := cx4.below ba
  replace Fb := Fb.below ba
  replace Rc := Rc.below ba
  replace Rx := Rx.below ba
  clear ba
  refine (same_any Fb hnew).mono ?_
  rintro e w13 ⟨rfl, bb⟩
  clear hnew
  replace mb_b := cells_below mb_b bb (Array.getElem?_eq_some_iff.1 mb_b).1
  replace mb_c := cells_below mb_c bb (Array.getElem?_eq_some_iff.1 mb_c).1
  replace mb_d := cells_below mb_d bb (Array.getElem?_eq_some_iff.1 mb_d).1
  replace mb_x := cells_below mb_x bb (Array.getElem?_eq_some_iff.1 mb_x).1
  replace hB := Below.on hB bb
  replace cc3 := cc3.below bb
  replace ctd4 := ctd4.below bb
  replace Std4 := Std4.below bb
  replace ctx5 := ctx5.below bb
  replace Stx5 := Stx5.below bb
  replace cx4 := cx4.below bb
  replace Fb := Fb.below bb
  replace Rc := Rc.below bb
  replace Rx := Rx.below bb
  clear bb
  clear Fb
  clear mb_b
  have hnew := Sl_new w13 [2, 0] 2 rfl (by decide)
  obtain ⟨c0, c1, c2, c3, c4⟩ := five mb_c
  have hh_mb_c := Hid_mkW mb_c
  have hh_mb_d := Hid_mkW mb_d
  have hh_mb_x := Hid_mkW mb_x
  have hh_cc3 := Hid_mkW cc3
  have hh_ctd4 := Hid_mkW ctd4
  have hh_Std4 := Hid_mkW Std4
  have hh_ctx5 := Hid_mkW ctx5
  have hh_Stx5 := Hid_mkW Stx5
  have hh_cx4 := Hid_mkW cx4
  have hh_Rc := Hid_mkW Rc
  have hh_Rx := Hid_mkW Rx
  have hh_hB := Hid_mkW hB
  have hh_hnew := Hid_mkW hnew
  clear mb_c mb_d mb_x cc3 ctd4 Std4 ctx5 Stx5 cx4 Rc Rx hB hnew
  go_wp2_with fail
  clear c0 c1 c2 c3 c4
  have mb_c := hh_mb_c.out
  have mb_d := hh_mb_d.out
  have mb_x := hh_mb_x.out
  have cc3 := hh_cc3.out
  have ctd4 := hh_ctd4.out
  have Std4 := hh_Std4.out
  have ctx5 := hh_ctx5.out
  have Stx5 := hh_Stx5.out
  have cx4 := hh_cx4.out
  have Rc := hh_Rc.out
  have Rx := hh_Rx.out
  have hB := hh_hB.out
  have hnew := hh_hnew.out
  clear hh_mb_c hh_mb_d hh_mb_x hh_cc3 hh_ctd4 hh_Std4 hh_ctx5 hh_Stx5 hh_cx4 hh_Rc hh_Rx hh_hB hh_hnew
  replace mb_c := cells_alloc mb_c (.cells #[.int .i64 2, .int .i64 0] 3)
  replace mb_d := cells_alloc mb_d (.cells #[.int .i64 2, .int .i64 0] 3)
  replace mb_x := cells_alloc mb_x (.cells #[.int .i64 2, .int .i64 0] 3)
  have ba : Below w13.heap.size w13 (w13.alloc (.cells #[.int .i64 2, .int .i64 0] 3)) := (Below.refl _ _).alloc (Nat.le_refl _) _
  replace hB := Below.on hB ba
  replace cc3 := cc3.below ba
  replace ctd4 := ctd4.below ba
  replace Std4 := Std4.below ba
  replace ctx5 := ctx5.below ba
  replace Stx5 := Stx5.below ba
  replace cx4 := cx4.below ba
  replace Rc := Rc.below ba
  replace Rx := Rx.below ba
  clear ba
  refine (same_any Rc hnew).mono ?_
  rintro e w14 ⟨rfl, bb⟩
  clear hnew
  replace mb_c := cells_below mb_c bb (Array.getElem?_eq_some_iff.1 mb_c).1
  replace mb_d := cells_below mb_d bb (Array.getElem?_eq_some_iff.1 mb_d).1
  replace mb_x := cells_below mb_x bb (Array.getElem?_eq_some_iff.1 mb_x).1
  replace hB := Below.on hB bb
  replace cc3 := cc3.below bb
  replace ctd4 := ctd4.below bb
  replace Std4 := Std4.below bb
  replace ctx5 := ctx5.below bb
  replace Stx5 := Stx5.below bb
  replace cx4 := cx4.below bb
  replace Rc := Rc.below bb
  replace Rx := Rx.below bb
  clear bb
  clear Rc
  have hnew := Sl_new w14 [3, -1, 0, 0] 4 rfl (by decide)
  obtain ⟨c0, c1, c2, c3, c4⟩ := five mb_c
  obtain ⟨d0, d1, d2, d3, d4⟩ := five mb_d
  have q_cc3 := cc3.1
  have q_ctd4 := ctd4.1
  have hh_mb_c := Hid_mkW mb_c
  have hh_mb_d := Hid_mkW mb_d
  have hh_mb_x := Hid_mkW mb_x
  have hh_cc3 := Hid_mkW cc3
  have hh_ctd4 := Hid_mkW ctd4
  have hh_Std4 := Hid_mkW Std4
  have hh_ctx5 := Hid_mkW ctx5
  have hh_Stx5 := Hid_mkW Stx5
  have hh_cx4 := Hid_mkW cx4
  have hh_Rx := Hid_mkW Rx
  have hh_hB := Hid_mkW hB
  have hh_hnew := Hid_mkW hnew
  clear mb_c mb_d mb_x cc3 ctd4 Std4 ctx5 Stx5 cx4 Rx hB hnew
  go_wp2_with fail
  clear c0 c1 c2 c3 c4 d0 d1 d2 d3 d4 q_cc3 q_ctd4
  have mb_c := hh_mb_c.out
  have mb_d := hh_mb_d.out
  have mb_x := hh_mb_x.out
  have cc3 := hh_cc3.out
  have ctd4 := hh_ctd4.out
  have Std4 := hh_Std4.out
  have ctx5 := hh_ctx5.out
  have Stx5 := hh_Stx5.out
  have cx4 := hh_cx4.out
  have Rx := hh_Rx.out
  have hB := hh_hB.out
  have hnew := hh_hnew.out
  clear hh_mb_c hh_mb_d hh_mb_x hh_cc3 hh_ctd4 hh_Std4 hh_ctx5 hh_Stx5 hh_cx4 hh_Rx hh_hB hh_hnew
  replace mb_c := cells_alloc mb_c (.cells #[.int .i64 3, .int .i64 (-1), .int .i64 0, .int .i64 0] 3)
  replace mb_d := cells_alloc mb_d (.cells #[.int .i64 3, .int .i64 (-1), .int .i64 0, .int .i64 0] 3)
  replace mb_x := cells_alloc mb_x (.cells #[.int .i64 3, .int .i64 (-1), .int .i64 0, .int .i64 0] 3)
  have ba : Below w14.heap.size w14 (w14.alloc (.cells #[.int .i64 3, .int .i64 (-1), .int .i64 0, .int .i64 0] 3)) := (Below.refl _ _).alloc (Nat.le_refl _) _
  replace hB := Below.on hB ba
  replace cc3 := cc3.below ba
  replace ctd4 := ctd4.below ba
  replace Std4 := Std4.below ba
  replace ctx5 := ctx5.below ba
  replace Stx5 := Stx5.below ba
  replace cx4 := cx4.below ba
  replace Rx := Rx.below ba
  clear ba
  refine (same_any Std4 hnew).mono ?_
  rintro e w15 ⟨rfl, bb⟩
  clear hnew
  replace mb_c := cells_below mb_c bb (Array.getElem?_eq_some_iff.1 mb_c).1
  replace mb_d := cells_below mb_d bb (Array.getElem?_eq_some_iff.1 mb_d).1
  replace mb_x := cells_below mb_x bb (Array.getElem?_eq_some_iff.1 mb_x).1
  replace hB := Below.on hB bb
  replace cc3 := cc3.below bb
  replace ctd4 := ctd4.below bb
  replace Std4 := Std4.below bb
  replace ctx5 := ctx5.below bb
  replace Stx5 := Stx5.below bb
  replace cx4 := cx4.below bb
  replace Rx := Rx.below bb
  clear bb
  clear Std4
  clear mb_c
  clear cc3
  clear mb_d
  clear ctd4
  have hnew := Sl_new w15 [5] 1 rfl (by decide)
  obtain ⟨x0, x1, x2, x3, x4⟩ := five mb_x
  have hh_mb_x := Hid_mkW mb_x
  have hh_ctx5 := Hid_mkW ctx5
  have hh_Stx5 := Hid_mkW Stx5
  have hh_cx4 := Hid_mkW cx4
  have hh_Rx := Hid_mkW Rx
  have hh_hB := Hid_mkW hB
  have hh_hnew := Hid_mkW hnew
  clear mb_x ctx5 Stx5 cx4 Rx hB hnew
  go_wp2_with fail
  clear x0 x1 x2 x3 x4
  have mb_x := hh_mb_x.out
  have ctx5 := hh_ctx5.out
  have Stx5 := hh_Stx5.out
  have cx4 := hh_cx4.out
  have Rx := hh_Rx.out
  have hB := hh_hB.out
  have hnew := hh_hnew.out
  clear hh_mb_x hh_ctx5 hh_Stx5 hh_cx4 hh_Rx hh_hB hh_hnew
  replace mb_x := cells_alloc mb_x (.cells #[.int .i64 5] 3)
  have ba : Below w15.heap.size w15 (w15.alloc (.cells #[.int .i64 5] 3)) := (Below.refl _ _).alloc (Nat.le_refl _) _
  replace hB := Below.on hB ba
  replace ctx5 := ctx5.below ba
  replace Stx5 := Stx5.below ba
  replace cx4 := cx4.below ba
  replace Rx := Rx.below ba
  clear ba
  refine (same_any Rx hnew).mono ?_
  rintro e w16 ⟨rfl, bb⟩
  clear hnew
  replace mb_x := cells_below mb_x bb (Array.getElem?_eq_some_iff.1 mb_x).1
  replace hB := Below.on hB bb
  replace ctx5 := ctx5.below bb
  replace Stx5 := Stx5.below bb
  replace cx4 := cx4.below bb
  replace Rx := Rx.below bb
  clear bb
  clear Rx
  have hnew := Sl_new w16 [1, 0, -1, 0] 4 rfl (by decide)
  obtain ⟨x0, x1, x2, x3, x4⟩ := five mb_x
  have q_ctx5 := ctx5.1
  have hh_mb_x := Hid_mkW mb_x
  have hh_ctx5 := Hid_mkW ctx5
  have hh_Stx5 := Hid_mkW Stx5
  have hh_cx4 := Hid_mkW cx4
  have hh_hB := Hid_mkW hB
  have hh_hnew := Hid_mkW hnew
  clear mb_x ctx5 Stx5 cx4 hB hnew
  go_wp2_with fail
  clear x0 x1 x2 x3 x4 q_ctx5
  have mb_x := hh_mb_x.out
  have ctx5 := hh_ctx5.out
  have Stx5 := hh_Stx5.out
  have cx4 := hh_cx4.out
  have hB := hh_hB.out
  have hnew := hh_hnew.out
  clear hh_mb_x hh_ctx5 hh_Stx5 hh_cx4 hh_hB hh_hnew
  replace mb_x := cells_alloc mb_x (.cells #[.int .i64 1, .int .i64 0, .int .i64 (-1), .int .i64 0] 3)
  have ba : Below w16.heap.size w16 (w16.alloc (.cells #[.int .i64 1, .int .i64 0, .int .i64 (-1), .int .i64 0] 3)) := (Below.refl _ _).alloc (Nat.le_refl _) _
  replace hB := Below.on hB ba
  replace ctx5 := ctx5.below ba
  replace Stx5 := Stx5.below ba
  replace cx4 := cx4.below ba
  clear ba
  refine (same_any Stx5 hnew).mono ?_
  rintro e w17 ⟨rfl, bb⟩
  clear hnew
  replace mb_x := cells_below mb_x bb (Array.getElem?_eq_some_iff.1 mb_x).1
  replace hB := Below.on hB bb
  replace ctx5 := ctx5.below bb
  replace Stx5 := Stx5.below bb
  replace cx4 := cx4.below bb
  clear bb
  clear Stx5
  clear ctx5
  obtain ⟨x0, x1, x2, x3, x4⟩ := five mb_x
  have q_cx4 := cx4.1
  have hh_mb_x := Hid_mkW mb_x
  have hh_cx4 := Hid_mkW cx4
  have hh_hB := Hid_mkW hB
  clear mb_x cx4 hB
  go_wp2_with fail
  go_ret
  have hB := hh_hB.out
  exact ⟨rfl, hB⟩
end Go.Proofs.Ytehleeibgkpjmac
/- Contract of SameImages: of one image, wherever it lies twice. -/
namespace Go.Proofs.Ytehleeibgkpjmac
open Go.RowKit Go.Shelf
set_option maxRecDepth 20000

set_option maxHeartbeats 4000000 in
theorem sameI_at (m : ImgD) (ra : Option Addr) (rc : Nat) (sa : Option Addr) (sc : Nat) (fa : Option Addr) (fc : Nat) (na : Option Addr) (nc : Nat) (rb : Option Addr) (rd : Nat) (sb : Option Addr) (sd : Nat) (fb : Option Addr) (fd : Nat) (nb : Option Addr) (nd : Nat) (w : World)
    (h1 : Sl w (.slice ra m.root.length rc) m.root) (h2 : Slots w (.slice sa m.slots.length sc) m.slots) (h3 : Sl w (.slice fa m.refs.length fc) m.refs) (h4 : Snaps w (.slice na m.snaps.length nc) m.snaps)
    (k1 : Sl w (.slice rb m.root.length rd) m.root) (k2 : Slots w (.slice sb m.slots.length sd) m.slots) (k3 : Sl w (.slice fb m.refs.length fd) m.refs) (k4 : Snaps w (.slice nb m.snaps.length nd) m.snaps) :
    Calls Try.prog 29 #[.agg #[.int .i64 m.guest, .slice ra m.root.length rc, .slice sa m.slots.length sc, .slice fa m.refs.length fc, .slice na m.snaps.length nc], .agg #[.int .i64 m.guest, .slice rb m.root.length rd, .slice sb m.slots.length sd, .slice fb m.refs.length fd, .slice nb m.snaps.length nd]] w fun r w' => r = .returned (.bool true) ∧ Below w.heap.size w w' := by
  have b0 : Below w.heap.size w ((w.alloc (.cells #[.int .i64 m.guest, .slice ra m.root.length rc, .slice sa m.slots.length sc, .slice fa m.refs.length fc, .slice na m.snaps.length nc] 26)).alloc (.cells #[.int .i64 m.guest, .slice rb m.root.length rd, .slice sb m.slots.length sd, .slice fb m.refs.length fd, .slice nb m.snaps.length nd] 26)) := ((Below.refl _ _).alloc (Nat.le_refl _) _).alloc (by simp) _
  have m0 : ((w.alloc (.cells #[.int .i64 m.guest, .slice ra m.root.length rc, .slice sa m.slots.length sc, .slice fa m.refs.length fc, .slice na m.snaps.length nc] 26)).alloc (.cells #[.int .i64 m.guest, .slice rb m.root.length rd, .slice sb m.slots.length sd, .slice fb m.refs.length fd, .slice nb m.snaps.length nd] 26)).heap[w.heap.size]? = some (.cells #[.int .i64 m.guest, .slice ra m.root.length rc, .slice sa m.slots.length sc, .slice fa m.refs.length fc, .slice na m.snaps.length nc] 26) := cells_alloc (World.alloc_heap_new _ _) _
  have m1 : ((w.alloc (.cells #[.int .i64 m.guest, .slice ra m.root.length rc, .slice sa m.slots.length sc, .slice fa m.refs.length fc, .slice na m.snaps.length nc] 26)).alloc (.cells #[.int .i64 m.guest, .slice rb m.root.length rd, .slice sb m.slots.length sd, .slice fb m.refs.length fd, .slice nb m.snaps.length nd] 26)).heap[w.heap.size + 1]? = some (.cells #[.int .i64 m.guest, .slice rb m.root.length rd, .slice sb m.slots.length sd, .slice fb m.refs.length fd, .slice nb m.snaps.length nd] 26) := by have := World.alloc_heap_new (w.alloc (.cells #[.int .i64 m.guest, .slice ra m.root.length rc, .slice sa m.slots.length sc, .slice fa m.refs.length fc, .slice na m.snaps.length nc] 26)) (.cells #[.int .i64 m.guest, .slice rb m.root.length rd, .slice sb m.slots.length sd, .slice fb m.refs.length fd, .slice nb m.snaps.length nd] 26); simpa using this
  obtain ⟨c0, c1, c2, c3, c4⟩ := five m0
  obtain ⟨d0, d1, d2, d3, d4⟩ := five m1
  have HR := same_any (h1.below b0) (k1.below b0)
  have HF := fun W (hW : Below w.heap.size w W) => same_any (h3.below hW) (k3.below hW)
  have HS : Hid (Slots w (.slice sa m.slots.length sc) m.slots ∧ Slots w (.slice sb m.slots.length sd) m.slots ∧ Snaps w (.slice na m.snaps.length nc) m.snaps ∧ Snaps w (.slice nb m.snaps.length nd) m.snaps) := ⟨h2, k2, h4, k4⟩
  have HL : Hid (m.slots.length ≤ 9223372036854775807 ∧ m.snaps.length ≤ 9223372036854775807) := ⟨h2.small, h4.small⟩
  clear h1 h2 h3 h4 k1 k2 k3 k4
  go_enter Try.func29, Try.ntmps29
  go_wp2_with (first
    | (go_at_call 39; refine (HF _ bw1).mono ?_; rintro e w2 ⟨rfl, b2⟩; have m4 := cells_below m2 b2 (Array.getElem?_eq_some_iff.1 m2).1; have m5 := cells_below m3 b2 (Array.getElem?_eq_some_iff.1 m3).1; obtain ⟨g0, g1, g2, g3, g4⟩ := five m4; obtain ⟨i0, i1, i2, i3, i4⟩ := five m5; have bw2 := Below.on bw1 b2)
    | (go_at_call 39; refine HR.mono ?_; rintro e w1 ⟨rfl, b1⟩; have m2 := cells_below m0 b1 (by simp <;> omega); have m3 := cells_below m1 b1 (by simp <;> omega); obtain ⟨e0, e1, e2, e3, e4⟩ := five m2; obtain ⟨f0, f1, f2, f3, f4⟩ := five m3; have bw1 := Below.on b0 b1))
  have HB : Hid (w2.heap[w.heap.size]? = some (.cells #[.int .i64 m.guest, .slice ra m.root.length rc, .slice sa m.slots.length sc, .slice fa m.refs.length fc, .slice na m.snaps.length nc] 26) ∧ w2.heap[w.heap.size + 1]? = some (.cells #[.int .i64 m.guest, .slice rb m.root.length rd, .slice sb m.slots.length sd, .slice fb m.refs.length fd, .slice nb m.snaps.length nd] 26) ∧ Below w.heap.size w w2) := ⟨m4, m5, bw2⟩
  clear c0 c1 c2 c3 c4 d0 d1 d2 d3 d4 e0 e1 e2 e3 e4 f0 f1 f2 f3 f4 g0 g1 g2 g3 g4 i0 i1 i2 i3 i4 m0 m1 m2 m3 m4 m5 b0 b1 b2 bw1 bw2 HR HF
  go_loopw [5] (fun i wr => ∃ k : Nat, k ≤ m.slots.length ∧ i = .int .i64 k ∧ Hid (wr.heap[w.heap.size]? = some (.cells #[.int .i64 m.guest, .slice ra m.root.length rc, .slice sa m.slots.length sc, .slice fa m.refs.length fc, .slice na m.snaps.length nc] 26) ∧ wr.heap[w.heap.size + 1]? = some (.cells #[.int .i64 m.guest, .slice rb m.root.length rd, .slice sb m.slots.length sd, .slice fb m.refs.length fd, .slice nb m.snaps.length nd] 26) ∧ Below w.heap.size w wr)) (fun i _ => m.slots.length - (intOf i).toNat)
  case atStart => exact ⟨0, Nat.zero_le _, rfl, HB⟩
  case round =>
    obtain ⟨k, hk, rfl, HC⟩ := hrel
    obtain ⟨mA, mB, hb⟩ := HC.out
    obtain ⟨c0, c1, c2, c3, c4⟩ := five mA
    obtain ⟨d0, d1, d2, d3, d4⟩ := five mB
    have hL := HL.out.1
    by_cases hlk : k < m.slots.length
    · have hki : (k : Int) < (m.slots.length : Int) := by omega
      have hL1 : (k : Int) + 1 ≤ 9223372036854775807 := by omega
      obtain ⟨pb, po, pc, e, _, hpl, hps⟩ := HS.out.1.open (by omega)
      simp at e
      obtain ⟨rfl, rfl⟩ := e
      obtain ⟨qb, qo, qc, e, _, hql, hqs⟩ := HS.out.2.1.open (by omega)
      simp at e
      obtain ⟨rfl, rfl⟩ := e
      obtain ⟨s, hs⟩ : ∃ s, m.slots[k] = s := ⟨_, rfl⟩
      obtain ⟨kk, dd, tt⟩ := s
      obtain ⟨tv, p0, p1, p2, ps⟩ := hps k hlk
      obtain ⟨uv, q0, q1, q2, qs⟩ := hqs k hlk
      rw [hs] at p0 p1 ps q0 q1 qs
      obtain ⟨ta, tc, rfl⟩ := ps.form
      obtain ⟨ua, uc, rfl⟩ := qs.form
      have p0 : wr.cell? ⟨pb, po + k * 3, none⟩ = some (.int .i64 kk) := (hb.cell (p := ⟨pb, po + k * 3, none⟩) hpl).trans p0
      have p1 : wr.cell? ⟨pb, po + k * 3 + 1, none⟩ = some (.string dd) := (hb.cell (p := ⟨pb, po + k * 3 + 1, none⟩) hpl).trans p1
      have p2 : wr.cell? ⟨pb, po + k * 3 + 1 + 1, none⟩ = some (.slice ta tt.length tc) := (hb.cell (p := ⟨pb, po + k * 3 + 1 + 1, none⟩) hpl).trans p2
      have q0 : wr.cell? ⟨qb, qo + k * 3, none⟩ = some (.int .i64 kk) := (hb.cell (p := ⟨qb, qo + k * 3, none⟩) hql).trans q0
      have q1 : wr.cell? ⟨qb, qo + k * 3 + 1, none⟩ = some (.string dd) := (hb.cell (p := ⟨qb, qo + k * 3 + 1, none⟩) hql).trans q1
      have q2 : wr.cell? ⟨qb, qo + k * 3 + 1 + 1, none⟩ = some (.slice ua tt.length uc) := (hb.cell (p := ⟨qb, qo + k * 3 + 1 + 1, none⟩) hql).trans q2
      have hcall := same_any (w := wr.drew) (ps.below (to_drew hb)) (qs.below (to_drew hb))
      have hpw : pb < wr.heap.size := Nat.lt_of_lt_of_le hpl hb.size
      have hqw : qb < wr.heap.size := Nat.lt_of_lt_of_le hql hb.size
      have HN : Hid (∀ W, Below wr.heap.size wr W → W.heap[w.heap.size]? = some (.cells #[.int .i64 m.guest, .slice ra m.root.length rc, .slice (some ⟨pb, po, none⟩) m.slots.length sc, .slice fa m.refs.length fc, .slice na m.snaps.length nc] 26) ∧ W.heap[w.heap.size + 1]? = some (.cells #[.int .i64 m.guest, .slice rb m.root.length rd, .slice (some ⟨qb, qo, none⟩) m.slots.length sd, .slice fb m.refs.length fd, .slice nb m.snaps.length nd] 26) ∧ Below w.heap.size w W) := fun W hW => ⟨cells_below mA hW (Array.getElem?_eq_some_iff.1 mA).1, cells_below mB hW (Array.getElem?_eq_some_iff.1 mB).1, Below.on hb hW⟩
      have HK : Hid (∀ W, Below wr.heap.size wr W → W.cell? ⟨w.heap.size, 0 + 1 + 1, none⟩ = some (.slice (some ⟨pb, po, none⟩) m.slots.length sc) ∧ W.cell? ⟨w.heap.size + 1, 0 + 1 + 1, none⟩ = some (.slice (some ⟨qb, qo, none⟩) m.slots.length sd) ∧ W.cell? ⟨pb, po + k * 3, none⟩ = some (.int .i64 kk) ∧ W.cell? ⟨pb, po + k * 3 + 1, none⟩ = some (.string dd) ∧ W.cell? ⟨pb, po + k * 3 + 1 + 1, none⟩ = some (.slice ta tt.length tc) ∧ W.cell? ⟨qb, qo + k * 3, none⟩ = some (.int .i64 kk) ∧ W.cell? ⟨qb, qo + k * 3 + 1, none⟩ = some (.string dd) ∧ W.cell? ⟨qb, qo + k * 3 + 1 + 1, none⟩ = some (.slice ua tt.length uc)) := fun W hW => ⟨(hW.cell (p := ⟨w.heap.size, 0 + 1 + 1, none⟩) (Array.getElem?_eq_some_iff.1 mA).1).trans c2, (hW.cell (p := ⟨w.heap.size + 1, 0 + 1 + 1, none⟩) (Array.getElem?_eq_some_iff.1 mB).1).trans d2, (hW.cell (p := ⟨pb, po + k * 3, none⟩) hpw).trans p0, (hW.cell (p := ⟨pb, po + k * 3 + 1, none⟩) hpw).trans p1, (hW.cell (p := ⟨pb, po + k * 3 + 1 + 1, none⟩) hpw).trans p2, (hW.cell (p := ⟨qb, qo + k * 3, none⟩) hqw).trans q0, (hW.cell (p := ⟨qb, qo + k * 3 + 1, none⟩) hqw).trans q1, (hW.cell (p := ⟨qb, qo + k * 3 + 1 + 1, none⟩) hqw).trans q2⟩
      clear hs mA mB ps qs hps hqs
      go_wp2_with fail
      go_region_held3 (fun W => W.cell? ⟨w.heap.size, 0 + 1 + 1, none⟩ = some (.slice (some ⟨pb, po, none⟩) m.slots.length sc) ∧ W.cell? ⟨w.heap.size + 1, 0 + 1 + 1, none⟩ = some (.slice (some ⟨qb, qo, none⟩) m.slots.length sd) ∧ W.cell? ⟨pb, po + k * 3, none⟩ = some (.int .i64 kk) ∧ W.cell? ⟨pb, po + k * 3 + 1, none⟩ = some (.string dd) ∧ W.cell? ⟨pb, po + k * 3 + 1 + 1, none⟩ = some (.slice ta tt.length tc) ∧ W.cell? ⟨qb, qo + k * 3, none⟩ = some (.int .i64 kk) ∧ W.cell? ⟨qb, qo + k * 3 + 1, none⟩ = some (.string dd) ∧ W.cell? ⟨qb, qo + k * 3 + 1 + 1, none⟩ = some (.slice ua tt.length uc)) (first | exact HK.out _ b3 | exact HK.out _ (to_drew (Below.refl _ _)))
        (first | (go_at_call 39; refine hcall.mono ?_; rintro e w3 ⟨rfl, b3⟩; have b3 := below_drew b3))
      go_wp2_with fail
      go_roundw
      case rel => exact ⟨k + 1, by omega, by go_num, HN.out _ b3⟩
      case measure => simp [intOf]; omega
    · have ek : k = m.slots.length := by omega
      subst ek
      obtain ⟨x, hrn⟩ : ∃ X, X = wr := ⟨_, rfl⟩
      subst hrn
      go_wp2_with fail
      clear c0 c1 c2 c3 c4 d0 d1 d2 d3 d4 mA mB hb hL
      go_loopw [6] (fun i wr => ∃ l : Nat, l ≤ m.snaps.length ∧ i = .int .i64 l ∧ Hid (wr.heap[w.heap.size]? = some (.cells #[.int .i64 m.guest, .slice ra m.root.length rc, .slice sa m.slots.length sc, .slice fa m.refs.length fc, .slice na m.snaps.length nc] 26) ∧ wr.heap[w.heap.size + 1]? = some (.cells #[.int .i64 m.guest, .slice rb m.root.length rd, .slice sb m.slots.length sd, .slice fb m.refs.length fd, .slice nb m.snaps.length nd] 26) ∧ Below w.heap.size w wr)) (fun i _ => m.snaps.length - (intOf i).toNat)
      case atStart => exact ⟨0, Nat.zero_le _, rfl, HC⟩
      case round =>
        obtain ⟨l, hl, rfl, HD⟩ := hrel
        obtain ⟨mA, mB, hb⟩ := HD.out
        obtain ⟨c0, c1, c2, c3, c4⟩ := five mA
        obtain ⟨d0, d1, d2, d3, d4⟩ := five mB
        have hL := HL.out.2
        by_cases hll : l < m.snaps.length
        · have hki : (l : Int) < (m.snaps.length : Int) := by omega
          have hL1 : (l : Int) + 1 ≤ 9223372036854775807 := by omega
          obtain ⟨pb, po, pc, e, _, hpl, hps⟩ := HS.out.2.2.1.open (by omega)
          simp at e
          obtain ⟨rfl, rfl⟩ := e
          obtain ⟨qb, qo, qc, e, _, hql, hqs⟩ := HS.out.2.2.2.open (by omega)
          simp at e
          obtain ⟨rfl, rfl⟩ := e
          obtain ⟨s, hs⟩ : ∃ s, m.snaps[l] = s := ⟨_, rfl⟩
          obtain ⟨nm, sg, tt⟩ := s
          obtain ⟨tv, p0, p1, p2, ps⟩ := hps l hll
          obtain ⟨uv, q0, q1, q2, qs⟩ := hqs l hll
          rw [hs] at p0 p1 ps q0 q1 qs
          obtain ⟨ta, tc, rfl⟩ := ps.form
          obtain ⟨ua, uc, rfl⟩ := qs.form
          have p0 : wr.cell? ⟨pb, po + l * 3, none⟩ = some (.string nm) := (hb.cell (p := ⟨pb, po + l * 3, none⟩) hpl).trans p0
          have p1 : wr.cell? ⟨pb, po + l * 3 + 1, none⟩ = some (.int .i64 sg) := (hb.cell (p := ⟨pb, po + l * 3 + 1, none⟩) hpl).trans p1
          have p2 : wr.cell? ⟨pb, po + l * 3 + 1 + 1, none⟩ = some (.slice ta tt.length tc) := (hb.cell (p := ⟨pb, po + l * 3 + 1 + 1, none⟩) hpl).trans p2
          have q0 : wr.cell? ⟨qb, qo + l * 3, none⟩ = some (.string nm) := (hb.cell (p := ⟨qb, qo + l * 3, none⟩) hql).trans q0
          have q1 : wr.cell? ⟨qb, qo + l * 3 + 1, none⟩ = some (.int .i64 sg) := (hb.cell (p := ⟨qb, qo + l * 3 + 1, none⟩) hql).trans q1
          have q2 : wr.cell? ⟨qb, qo + l * 3 + 1 + 1, none⟩ = some (.slice ua tt.length uc) := (hb.cell (p := ⟨qb, qo + l * 3 + 1 + 1, none⟩) hql).trans q2
          have hcall := same_any (w := wr.drew) (ps.below (to_drew hb)) (qs.below (to_drew hb))
          have hpw : pb < wr.heap.size := Nat.lt_of_lt_of_le hpl hb.size
          have hqw : qb < wr.heap.size := Nat.lt_of_lt_of_le hql hb.size
          have HN : Hid (∀ W, Below wr.heap.size wr W → W.heap[w.heap.size]? = some (.cells #[.int .i64 m.guest, .slice ra m.root.length rc, .slice sa m.slots.length sc, .slice fa m.refs.length fc, .slice (some ⟨pb, po, none⟩) m.snaps.length nc] 26) ∧ W.heap[w.heap.size + 1]? = some (.cells #[.int .i64 m.guest, .slice rb m.root.length rd, .slice sb m.slots.length sd, .slice fb m.refs.length fd, .slice (some ⟨qb, qo, none⟩) m.snaps.length nd] 26) ∧ Below w.heap.size w W) := fun W hW => ⟨cells_below mA hW (Array.getElem?_eq_some_iff.1 mA).1, cells_below mB hW (Array.getElem?_eq_some_iff.1 mB).1, Below.on hb hW⟩
          have HK : Hid (∀ W, Below wr.heap.size wr W → W.cell? ⟨w.heap.size, 0 + 1 + 1 + 1 + 1, none⟩ = some (.slice (some ⟨pb, po, none⟩) m.snaps.length nc) ∧ W.cell? ⟨w.heap.size + 1, 0 + 1 + 1 + 1 + 1, none⟩ = some (.slice (some ⟨qb, qo, none⟩) m.snaps.length nd) ∧ W.cell? ⟨pb, po + l * 3, none⟩ = some (.string nm) ∧ W.cell? ⟨pb, po + l * 3 + 1, none⟩ = some (.int .i64 sg) ∧ W.cell? ⟨pb, po + l * 3 + 1 + 1, none⟩ = some (.slice ta tt.length tc) ∧ W.cell? ⟨qb, qo + l * 3, none⟩ = some (.string nm) ∧ W.cell? ⟨qb, qo + l * 3 + 1, none⟩ = some (.int .i64 sg) ∧ W.cell? ⟨qb, qo + l * 3 + 1 + 1, none⟩ = some (.slice ua tt.length uc)) := fun W hW => ⟨(hW.cell (p := ⟨w.heap.size, 0 + 1 + 1 + 1 + 1, none⟩) (Array.getElem?_eq_some_iff.1 mA).1).trans c4, (hW.cell (p := ⟨w.heap.size + 1, 0 + 1 + 1 + 1 + 1, none⟩) (Array.getElem?_eq_some_iff.1 mB).1).trans d4, (hW.cell (p := ⟨pb, po + l * 3, none⟩) hpw).trans p0, (hW.cell (p := ⟨pb, po + l * 3 + 1, none⟩) hpw).trans p1, (hW.cell (p := ⟨pb, po + l * 3 + 1 + 1, none⟩) hpw).trans p2, (hW.cell (p := ⟨qb, qo + l * 3, none⟩) hqw).trans q0, (hW.cell (p := ⟨qb, qo + l * 3 + 1, none⟩) hqw).trans q1, (hW.cell (p := ⟨qb, qo + l * 3 + 1 + 1, none⟩) hqw).trans q2⟩
          clear hs mA mB ps qs hps hqs
          go_wp2_with fail
          go_region_held3 (fun W => W.cell? ⟨w.heap.size, 0 + 1 + 1 + 1 + 1, none⟩ = some (.slice (some ⟨pb, po, none⟩) m.snaps.length nc) ∧ W.cell? ⟨w.heap.size + 1, 0 + 1 + 1 + 1 + 1, none⟩ = some (.slice (some ⟨qb, qo, none⟩) m.snaps.length nd) ∧ W.cell? ⟨pb, po + l * 3, none⟩ = some (.string nm) ∧ W.cell? ⟨pb, po + l * 3 + 1, none⟩ = some (.int .i64 sg) ∧ W.cell? ⟨pb, po + l * 3 + 1 + 1, none⟩ = some (.slice ta tt.length tc) ∧ W.cell? ⟨qb, qo + l * 3, none⟩ = some (.string nm) ∧ W.cell? ⟨qb, qo + l * 3 + 1, none⟩ = some (.int .i64 sg) ∧ W.cell? ⟨qb, qo + l * 3 + 1 + 1, none⟩ = some (.slice ua tt.length uc)) (first | exact HK.out _ b3 | exact HK.out _ (to_drew (Below.refl _ _)))
            (first | (go_at_call 39; refine hcall.mono ?_; rintro e w3 ⟨rfl, b3⟩; have b3 := below_drew b3))
          go_wp2_with fail
          go_roundw
          case rel => exact ⟨l + 1, by omega, by go_num, HN.out _ b3⟩
          case measure => simp [intOf]; omega
        · have el : l = m.snaps.length := by omega
          subst el
          go_wp2_with fail
          go_ret
          exact ⟨rfl, hb⟩
theorem sameI_is {w : World} {v u : Value} {m : ImgD} (h : Img w v m) (k : Img w u m) : Calls Try.prog 29 #[v, u] w fun r w' => r = .returned (.bool true) ∧ Below w.heap.size w w' := by
  obtain ⟨ra, rc, sa, sc, fa, fc, na, nc, rfl, h1, h2, h3, h4⟩ := h.parts
  obtain ⟨rb, rd, sb, sd, fb, fd, nb, nd, rfl, k1, k2, k3, k4⟩ := k.parts
  exact sameI_at m ra rc sa sc fa fc na nc rb rd sb sd fb fd nb nd w h1 h2 h3 h4 k1 k2 k3 k4
end Go.Proofs.Ytehleeibgkpjmac
/- The walk of WritesWrites. -/
namespace Go.Proofs.Ytehleeibgkpjmac
open Go.RowKit Go.Shelf
set_option maxRecDepth 20000
set_option linter.unusedVariables false

set_option maxHeartbeats 8000000 in
theorem wwrites_at (ra : Option Addr) (rc : Nat) (sa : Option Addr) (sc : Nat) (fa : Option Addr) (fc : Nat) (na : Option Addr) (nc : Nat) (m : ImgD) (n : Int) (page : ByteArray) (w : World) (h : Img w (.agg #[.int .i64 m.guest, .slice ra m.root.length rc, .slice sa m.slots.length sc, .slice fa m.refs.length fc, .slice na m.snaps.length nc]) m) :
    Calls Try.prog 6 #[.agg #[.int .i64 m.guest, .slice ra m.root.length rc, .slice sa m.slots.length sc, .slice fa m.refs.length fc, .slice na m.snaps.length nc], .int .i64 n, .string page] w fun r w' => r = .returned (.bool true) ∧ Below w.heap.size w w' := by
  have hB : Below w.heap.size w (w.alloc (.cells #[.int .i64 m.guest, .slice ra m.root.length rc, .slice sa m.slots.length sc, .slice fa m.refs.length fc, .slice na m.snaps.length nc] 26)) := (Below.refl _ _).alloc (Nat.le_refl _) _
  have mb_m : (w.alloc (.cells #[.int .i64 m.guest, .slice ra m.root.length rc, .slice sa m.slots.length sc, .slice fa m.refs.length fc, .slice na m.snaps.length nc] 26)).heap[w.heap.size]? = some (.cells #[.int .i64 m.guest, .slice ra m.root.length rc, .slice sa m.slots.length sc, .slice fa m.refs.length fc, .slice na m.snaps.length nc] 26) := World.alloc_heap_new _ _
  have I_m := h.below hB
  obtain ⟨MB, hMB⟩ : ∃ X, wrM m n page = X := ⟨_, rfl⟩
  obtain ⟨EB, hEB⟩ : ∃ X, wrE m n page = X := ⟨_, rfl⟩
  have HB : Hid (wrM m n page = MB ∧ wrE m n page = EB) := ⟨hMB, hEB⟩
  clear h hMB hEB
  go_enter Try.func6, Try.ntmps6
  obtain ⟨m0, m1, m2, m3, m4⟩ := five mb_m
  have hh_mb_m := Hid_mkW mb_m
  have hh_I_m := Hid_mkW I_m
  have hh_hB := Hid_mkW hB
  clear mb_m I_m hB
  go_wp2_with fail
  clear m0 m1 m2 m3 m4
  have mb_m := hh_mb_m.out
  have I_m := hh_I_m.out
  have hB := hh_hB.out
  clear hh_mb_m hh_I_m hh_hB
  refine (write_to I_m n page HB.out.1 HB.out.2).mono ?_
  intro e w1 hA
  obtain ⟨val, a_r, a_rc, a_s, a_sc, a_f, a_fc, a_n, a_nc, rfl, hO, bb, hI⟩ := hA.open
  dsimp only
  have I_a := hO.img
  rw [hI] at I_a
  clear hA hO hI
  replace mb_m := cells_below mb_m bb (Array.getElem?_eq_some_iff.1 mb_m).1
  replace hB := Below.on hB bb
  replace I_m := I_m.below bb
  clear bb
  replace mb_m := cells_alloc mb_m (.cells #[.int .i64 MB.guest, .slice a_r MB.root.length a_rc, .slice a_s MB.slots.length a_sc, .slice a_f MB.refs.length a_fc, .slice a_n MB.snaps.length a_nc] 26)
  have ba : Below w1.heap.size w1 (w1.alloc (.cells #[.int .i64 MB.guest, .slice a_r MB.root.length a_rc, .slice a_s MB.slots.length a_sc, .slice a_f MB.refs.length a_fc, .slice a_n MB.snaps.length a_nc] 26)) := (Below.refl _ _).alloc (Nat.le_refl _) _
  replace hB := Below.on hB ba
  replace I_m := I_m.below ba
  replace I_a := I_a.below ba
  clear ba
  have mb_a : (w1.alloc (.cells #[.int .i64 MB.guest, .slice a_r MB.root.length a_rc, .slice a_s MB.slots.length a_sc, .slice a_f MB.refs.length a_fc, .slice a_n MB.snaps.length a_nc] 26)).heap[w1.heap.size]? = some (.cells #[.int .i64 MB.guest, .slice a_r MB.root.length a_rc, .slice a_s MB.slots.length a_sc, .slice a_f MB.refs.length a_fc, .slice a_n MB.snaps.length a_nc] 26) := World.alloc_heap_new _ _
  obtain ⟨m0, m1, m2, m3, m4⟩ := five mb_m
  have hh_mb_m := Hid_mkW mb_m
  have hh_mb_a := Hid_mkW mb_a
  have hh_I_m := Hid_mkW I_m
  have hh_I_a := Hid_mkW I_a
  have hh_hB := Hid_mkW hB
  clear mb_m mb_a I_m I_a hB
  go_wp2_with fail
  clear m0 m1 m2 m3 m4
  have mb_m := hh_mb_m.out
  have mb_a := hh_mb_a.out
  have I_m := hh_I_m.out
  have I_a := hh_I_a.out
  have hB := hh_hB.out
  clear hh_mb_m hh_mb_a hh_I_m hh_I_a hh_hB
  refine (writeOf_is I_m n page HB.out.1 HB.out.2).mono ?_
  rintro e w2 ⟨c_r, c_rc, c_s, c_sc, c_f, c_fc, c_n, c_nc, rfl, hst, bb⟩
  try dsimp only
  have I_c := hst w2 (fun _ _ => rfl)
  clear hst
  replace mb_m := cells_below mb_m bb (Array.getElem?_eq_some_iff.1 mb_m).1
  replace mb_a := cells_below mb_a bb (Array.getElem?_eq_some_iff.1 mb_a).1
  replace hB := Below.on hB bb
  replace I_m := I_m.below bb
  replace I_a := I_a.below bb
  clear bb
  replace mb_m := cells_alloc mb_m (.cells #[.int .i64 MB.guest, .slice c_r MB.root.length c_rc, .slice c_s MB.slots.length c_sc, .slice c_f MB.refs.length c_fc, .slice c_n MB.snaps.length c_nc] 26)
  replace mb_a := cells_alloc mb_a (.cells #[.int .i64 MB.guest, .slice c_r MB.root.length c_rc, .slice c_s MB.slots.length c_sc, .slice c_f MB.refs.length c_fc, .slice c_n MB.snaps.length c_nc] 26)
  have ba : Below w2.heap.size w2 (w2.alloc (.cells #[.int .i64 MB.guest, .slice c_r MB.root.length c_rc, .slice c_s MB.slots.length c_sc, .slice c_f MB.refs.length c_fc, .slice c_n MB.snaps.length c_nc] 26)) := (Below.refl _ _).alloc (Nat.le_refl _) _
  replace hB := Below.on hB ba
  replace I_m := I_m.below ba
  replace I_a := I_a.below ba
  replace I_c := I_c.below ba
  clear ba
  have mb_c : (w2.alloc (.cells #[.int .i64 MB.guest, .slice c_r MB.root.length c_rc, .slice c_s MB.slots.length c_sc, .slice c_f MB.refs.length c_fc, .slice c_n MB.snaps.length c_nc] 26)).heap[w2.heap.size]? = some (.cells #[.int .i64 MB.guest, .slice c_r MB.root.length c_rc, .slice c_s MB.slots.length c_sc, .slice c_f MB.refs.length c_fc, .slice c_n MB.snaps.length c_nc] 26) := World.alloc_heap_new _ _
  clear mb_m
  clear I_m
  have hh_mb_a := Hid_mkW mb_a
  have hh_mb_c := Hid_mkW mb_c
  have hh_I_a := Hid_mkW I_a
  have hh_I_c := Hid_mkW I_c
  have hh_hB := Hid_mkW hB
  clear mb_a mb_c I_a I_c hB
  go_wp2_with fail
  have mb_a := hh_mb_a.out
  have mb_c := hh_mb_c.out
  have I_a := hh_I_a.out
  have I_c := hh_I_c.out
  have hB := hh_hB.out
  clear hh_mb_a hh_mb_c hh_I_a hh_I_c hh_hB
  refine (writesBegun_any _).mono ?_
  rintro e w3 ⟨rfl, bb⟩
  replace mb_a := cells_below mb_a bb (Array.getElem?_eq_some_iff.1 mb_a).1
  replace mb_c := cells_below mb_c bb (Array.getElem?_eq_some_iff.1 mb_c).1
  replace hB := Below.on hB bb
  replace I_a := I_a.below bb
  replace I_c := I_c.below bb
  clear bb
  obtain ⟨a0, a1, a2, a3, a4⟩ := five mb_a
  obtain ⟨c0, c1, c2, c3, c4⟩ := five mb_c
  have hh_mb_a := Hid_mkW mb_a
  have hh_mb_c := Hid_mkW mb_c
  have hh_I_a := Hid_mkW I_a
  have hh_I_c := Hid_mkW I_c
  have hh_hB := Hid_mkW hB
  clear mb_a mb_c I_a I_c hB
  go_wp2_with fail
  clear a0 a1 a2 a3 a4 c0 c1 c2 c3 c4
  have mb_a := hh_mb_a.out
  have mb_c := hh_mb_c.out
  have I_a := hh_I_a.out
  have I_c := hh_I_c.out
  have hB := hh_hB.out
  clear hh_mb_a hh_mb_c hh_I_a hh_I_c hh_hB
  refine (sameI_is I_a I_c).mono ?_
  rintro e w4 ⟨rfl, bb⟩
  replace mb_a := cells_below mb_a bb (Array.getElem?_eq_some_iff.1 mb_a).1
  replace mb_c := cells_below mb_c bb (Array.getElem?_eq_some_iff.1 mb_c).1
  replace hB := Below.on hB bb
  replace I_a := I_a.below bb
  replace I_c := I_c.below bb
  clear bb
  have hh_mb_a := Hid_mkW mb_a
  have hh_mb_c := Hid_mkW mb_c
  have hh_I_a := Hid_mkW I_a
  have hh_I_c := Hid_mkW I_c
  have hh_hB := Hid_mkW hB
  clear mb_a mb_c I_a I_c hB
  go_wp2_with fail
  go_ret
  have hB := hh_hB.out
  exact ⟨rfl, hB⟩

theorem wwrites_is {v : Value} {m : ImgD} {w : World} (h : Img w v m) (n : Int) (page : ByteArray) : Calls Try.prog 6 #[v, .int .i64 n, .string page] w fun r w' => r = .returned (.bool true) ∧ Below w.heap.size w w' := by
  have h' := h
  obtain ⟨ra, rc, sa, sc, fa, fc, na, nc, rfl, h1, h2, h3, h4⟩ := h.parts
  exact wwrites_at ra rc sa sc fa fc na nc m n page w h'
end Go.Proofs.Ytehleeibgkpjmac
/- From the reading of an argument to what it holds: slices of integers, slots, slices of slots. -/
namespace Go.Proofs.Ytehleeibgkpjmac
open Go.RowKit Go.Deep Go.ChangeShapes Go.WideShapes Go.ChangeAt
set_option maxRecDepth 20000

theorem cells27 : Try.prog.cellsOf 22 = 1 := by kernel_rfl
theorem cells3 : Try.prog.cellsOf 3 = 1 := by kernel_rfl
theorem cells9 : Try.prog.cellsOf 9 = 1 := by kernel_rfl
theorem cells29 : Try.prog.cellsOf 33 = 3 := by kernel_rfl

variable {H : Type} {enc : TypeId × Value → H} {w : World} {base : Nat} {spare : Nat → Bool} {held : Bool}

/-- The cells of a row by its address. -/
theorem row_at {w : World} {a : Addr} {n : Nat} {f : Nat → Value} (hn : 0 < n) (h : ∀ i, i < n → w.cell? (a.add i) = some (f i)) :
    ∃ b off, a = ⟨b, off, none⟩ ∧ b < w.heap.size ∧ ∀ i, i < n → w.cell? ⟨b, off + i, none⟩ = some (f i) := by
  have h0 := h 0 hn
  obtain ⟨b, off, spot⟩ := a
  have hspot : spot = none := by simpa [Addr.add] using World.cell?_spot h0
  subst hspot
  refine ⟨b, off, rfl, World.block_lt_of_cell? w _ (by rw [addr_add] at h0; exact h0), fun i hi => ?_⟩
  have := h i hi
  rw [addr_add] at this
  exact this

theorem sl_of_trod {n : Nat} {cs : List Value} {x : DataW H × List MemPlace} (h : DataW.trod enc Try.prog w base spare held n 22 cs = some x) : ∃ v xs, cs = [v] ∧ Sl w v xs := by
  rcases open_ints Try.underlying22 Try.underlying3 cells3 h with ⟨rfl, _⟩ | ⟨a, l, c, zs, rfl, _, hl, hm, hz, _, hcell, _⟩
  · exact ⟨_, [], rfl, Sl.nil w⟩
  · have hlz : l ≤ zs.length := by rw [hz]; split <;> omega
    have hlen : (zs.take l).length = l := by simp; omega
    refine ⟨_, zs.take l, rfl, some a, c, by rw [hlen], by rw [hlen]; omega, by rw [hlen]; exact hl, fun hne => ?_⟩
    have hpos : 0 < l := by
      rcases Nat.eq_zero_or_pos l with e | e
      · subst e; simp at hne
      · exact e
    obtain ⟨b, off, rfl, hb, hc⟩ := row_at (w := w) (a := a) (n := l) (f := fun i => .int .i64 (zs.getD i 0)) hpos (fun i hi => hcell i (by omega))
    refine ⟨b, off, rfl, hb, fun j hj => ?_⟩
    rw [hlen] at hj
    rw [hc j hj]
    simp [List.getD, hj]

set_option maxRecDepth 20000 in
theorem slot_of_trod {n : Nat} {cs : List Value} {x : DataW H × List MemPlace} (h : DataW.trod enc Try.prog w base spare held n 33 cs = some x) :
    ∃ k d tv xs, cs = [.int .i64 k, .string d, tv] ∧ Sl w tv xs := by
  obtain ⟨y0, y1, y2, m, _, hl, h0, h1, h2⟩ := trod_struct3 Try.underlying33 h
  rw [cells29] at hl
  match cs, hl with
  | [c0, c1, c2], _ =>
    simp only [cells3, cells9, cells27] at h0 h1 h2
    obtain ⟨k, e0, _, _⟩ := DataW.trod_int Try.underlying3 h0
    obtain ⟨d, e1, _, _⟩ := DataW.trod_string Try.underlying9 h1
    obtain ⟨tv, xs, e2, hs⟩ := sl_of_trod h2
    simp at e0 e1 e2
    subst e0 e1 e2
    exact ⟨k, d, _, xs, rfl, hs⟩

theorem slots_of_trod {n : Nat} {v : Value} {x : DataW H × List MemPlace} (h : DataW.trod enc Try.prog w base spare held n 23 [v] = some x) : ∃ L, Slots w v L := by
  rcases open_slice Try.underlying23 h with ⟨hv, _⟩ | ⟨a, len, cap, m, fuel, D, Pl, hv, _, hl, hm, hmm, _, hx⟩
  · simp at hv
    subst hv
    exact ⟨[], none, 0, rfl, Nat.zero_le _, Nat.zero_le _, fun h => absurd rfl h⟩
  · simp at hv
    subst hv
    rw [cells29] at hx
    have hx' : ∀ i, i < len → ∃ s : SlotD, ∃ tv, w.cell? (a.add (i * 3)) = some (.int .i64 s.1) ∧ w.cell? ((a.add (i * 3)).add 1) = some (.string s.2.1) ∧ w.cell? ((a.add (i * 3)).add 2) = some tv ∧ Sl w tv s.2.2 := by
      intro i hi
      obtain ⟨cs', h1, h2⟩ := hx i (by rw [hmm]; split <;> omega)
      obtain ⟨k, d, tv, xs, rfl, hs⟩ := slot_of_trod h2
      obtain ⟨_, _, hc⟩ := World.cells?_some h1
      have c0 := hc 0 (by omega)
      have c1 := hc 1 (by omega)
      have c2 := hc 2 (by omega)
      exact ⟨(k, d, xs), tv, by simpa [Addr.add] using c0, c1, c2, hs⟩
    obtain ⟨f, hf⟩ := choose_lt hx'
    have hlen : ((List.range len).map f).length = len := by simp
    refine ⟨(List.range len).map f, some a, cap, by rw [hlen], by rw [hlen]; omega, by rw [hlen]; exact hl, fun hne => ?_⟩
    have hpos : 0 < len := by
      rcases Nat.eq_zero_or_pos len with e | e
      · subst e; simp at hne
      · exact e
    obtain ⟨tv0, c0, _⟩ := hf 0 hpos
    obtain ⟨b, off, spot⟩ := a
    have hspot : spot = none := by simpa [Addr.add] using World.cell?_spot c0
    subst hspot
    refine ⟨b, off, rfl, World.block_lt_of_cell? w _ (by rw [addr_add] at c0; exact c0), fun j hj => ?_⟩
    rw [hlen] at hj
    obtain ⟨tv, c0, c1, c2, hs⟩ := hf j hj
    rw [addr_add] at c0 c1 c2
    rw [addr_add] at c1 c2
    have e : ((List.range len).map f)[j]'(by rw [hlen]; exact hj) = f j := by simp
    rw [e]
    exact ⟨tv, c0, c1, c2, hs⟩
end Go.Proofs.Ytehleeibgkpjmac
/- From the reading of an argument to what it holds: snapshots, slices of them, images. -/
namespace Go.Proofs.Ytehleeibgkpjmac
open Go.RowKit Go.Deep Go.ChangeShapes Go.WideShapes Go.ChangeAt
set_option maxRecDepth 20000

theorem cellsSnap : Try.prog.cellsOf 61 = 3 := by kernel_rfl
theorem cellsSnaps : Try.prog.cellsOf 24 = 1 := by kernel_rfl
theorem cellsSlots : Try.prog.cellsOf 23 = 1 := by kernel_rfl
theorem cellsImage : Try.prog.cellsOf 26 = 5 := by kernel_rfl

variable {H : Type} {enc : TypeId × Value → H} {w : World} {base : Nat} {spare : Nat → Bool} {held : Bool}

set_option maxRecDepth 20000 in
theorem snap_of_trod {n : Nat} {cs : List Value} {x : DataW H × List MemPlace} (h : DataW.trod enc Try.prog w base spare held n 61 cs = some x) :
    ∃ d k tv xs, cs = [.string d, .int .i64 k, tv] ∧ Sl w tv xs := by
  obtain ⟨y0, y1, y2, m, _, hl, h0, h1, h2⟩ := trod_struct3 Try.underlying61 h
  rw [cellsSnap] at hl
  match cs, hl with
  | [c0, c1, c2], _ =>
    simp only [cells3, cells9, cells27] at h0 h1 h2
    obtain ⟨d, e0, _, _⟩ := DataW.trod_string Try.underlying9 h0
    obtain ⟨k, e1, _, _⟩ := DataW.trod_int Try.underlying3 h1
    obtain ⟨tv, xs, e2, hs⟩ := sl_of_trod h2
    simp at e0 e1 e2
    subst e0 e1 e2
    exact ⟨d, k, _, xs, rfl, hs⟩

theorem snaps_of_trod {n : Nat} {v : Value} {x : DataW H × List MemPlace} (h : DataW.trod enc Try.prog w base spare held n 24 [v] = some x) : ∃ L, Snaps w v L := by
  rcases open_slice Try.underlying24 h with ⟨hv, _⟩ | ⟨a, len, cap, m, fuel, D, Pl, hv, _, hl, hm, hmm, _, hx⟩
  · simp at hv
    subst hv
    exact ⟨[], none, 0, rfl, Nat.zero_le _, Nat.zero_le _, fun h => absurd rfl h⟩
  · simp at hv
    subst hv
    rw [cellsSnap] at hx
    have hx' : ∀ i, i < len → ∃ s : SnapD, ∃ tv, w.cell? (a.add (i * 3)) = some (.string s.1) ∧ w.cell? ((a.add (i * 3)).add 1) = some (.int .i64 s.2.1) ∧ w.cell? ((a.add (i * 3)).add 2) = some tv ∧ Sl w tv s.2.2 := by
      intro i hi
      obtain ⟨cs', h1, h2⟩ := hx i (by rw [hmm]; split <;> omega)
      obtain ⟨k, d, tv, xs, rfl, hs⟩ := snap_of_trod h2
      obtain ⟨_, _, hc⟩ := World.cells?_some h1
      have c0 := hc 0 (by omega)
      have c1 := hc 1 (by omega)
      have c2 := hc 2 (by omega)
      exact ⟨(k, d, xs), tv, by simpa [Addr.add] using c0, c1, c2, hs⟩
    obtain ⟨f, hf⟩ := choose_lt hx'
    have hlen : ((List.range len).map f).length = len := by simp
    refine ⟨(List.range len).map f, some a, cap, by rw [hlen], by rw [hlen]; omega, by rw [hlen]; exact hl, fun hne => ?_⟩
    have hpos : 0 < len := by
      rcases Nat.eq_zero_or_pos len with e | e
      · subst e; simp at hne
      · exact e
    obtain ⟨tv0, c0, _⟩ := hf 0 hpos
    obtain ⟨b, off, spot⟩ := a
    have hspot : spot = none := by simpa [Addr.add] using World.cell?_spot c0
    subst hspot
    refine ⟨b, off, rfl, World.block_lt_of_cell? w _ (by rw [addr_add] at c0; exact c0), fun j hj => ?_⟩
    rw [hlen] at hj
    obtain ⟨tv, c0, c1, c2, hs⟩ := hf j hj
    rw [addr_add] at c0 c1 c2
    rw [addr_add] at c1 c2
    have e : ((List.range len).map f)[j]'(by rw [hlen]; exact hj) = f j := by simp
    rw [e]
    exact ⟨tv, c0, c1, c2, hs⟩

theorem trod_struct5 {P : Program} {t : TypeId} {f0 f1 f2 f3 f4 : Field} {fuel : Nat} {cs : List Value} {x : DataW H × List MemPlace} (ht : P.underlying t = some (.struct #[f0, f1, f2, f3, f4])) (h : DataW.trod enc P w base spare held fuel t cs = some x) :
    ∃ y0 y1 y2 y3 y4 n, cs.length = P.cellsOf t ∧ DataW.trod enc P w base spare held n f0.type ((cs.drop f0.offset).take (P.cellsOf f0.type)) = some y0 ∧
      DataW.trod enc P w base spare held n f1.type ((cs.drop f1.offset).take (P.cellsOf f1.type)) = some y1 ∧ DataW.trod enc P w base spare held n f2.type ((cs.drop f2.offset).take (P.cellsOf f2.type)) = some y2 ∧
      DataW.trod enc P w base spare held n f3.type ((cs.drop f3.offset).take (P.cellsOf f3.type)) = some y3 ∧ DataW.trod enc P w base spare held n f4.type ((cs.drop f4.offset).take (P.cellsOf f4.type)) = some y4 := by
  obtain ⟨xs, n, _, rfl, hl, hlen, hf⟩ := DataW.trod_struct ht h
  match xs, hlen with
  | [y0, y1, y2, y3, y4], _ => exact ⟨y0, y1, y2, y3, y4, n, hl, by simpa using hf 0 f0 rfl, by simpa using hf 1 f1 rfl, by simpa using hf 2 f2 rfl, by simpa using hf 3 f3 rfl, by simpa using hf 4 f4 rfl⟩
set_option maxRecDepth 20000 in
theorem img_of_trod {n : Nat} {cs : List Value} {x : DataW H × List MemPlace} (h : DataW.trod enc Try.prog w base spare held n 26 cs = some x) : ∃ g rv sv fv nv, cs = [.int .i64 g, rv, sv, fv, nv] ∧ ∃ r L F S, Sl w rv r ∧ Slots w sv L ∧ Sl w fv F ∧ Snaps w nv S := by
  obtain ⟨y0, y1, y2, y3, y4, m, hl, h0, h1, h2, h3, h4⟩ := trod_struct5 Try.underlying26 h
  rw [cellsImage] at hl
  match cs, hl with
  | [c0, c1, c2, c3, c4], _ =>
    simp only [cells3] at h0
    simp only [cells27] at h1 h3
    simp only [cellsSlots] at h2
    simp only [cellsSnaps] at h4
    obtain ⟨g, e0, _, _⟩ := DataW.trod_int Try.underlying3 h0
    obtain ⟨rv, r, e1, hr⟩ := sl_of_trod h1
    obtain ⟨L, hL⟩ := slots_of_trod (v := c2) h2
    obtain ⟨fv, F, e3, hF⟩ := sl_of_trod h3
    obtain ⟨S, hS⟩ := snaps_of_trod (v := c4) h4
    simp at e0 e1 e3
    subst e0 e1 e3
    exact ⟨g, _, _, _, _, rfl, r, L, F, S, hr, hL, hF, hS⟩
set_option maxRecDepth 20000 in
theorem img_of_arg {r : Reach} {b0 : Nat} {v : Value} {d : DataW H} {p : List MemPlace} (hv : Value.okWide Try.prog w r b0 26 v) (h : DataW.Trod enc Try.prog w base spare held 26 v d p) : ∃ m, Img w v m := by
  obtain ⟨cs, rfl, hsz⟩ := okWide_struct Try.underlying26 hv
  obtain ⟨fuel, hf⟩ := h
  obtain ⟨g, rv, sv, fv, nv, e, r, L, F, S, h1, h2, h3, h4⟩ := img_of_trod hf
  have e' : cs.toList = [.int .i64 g, rv, sv, fv, nv] := by simpa [Value.cells] using e
  cases cs
  simp at e'
  exact ⟨⟨g, r, L, F, S⟩, rv, sv, fv, nv, by rw [e'], h1, h2, h3, h4⟩
end Go.Proofs.Ytehleeibgkpjmac
