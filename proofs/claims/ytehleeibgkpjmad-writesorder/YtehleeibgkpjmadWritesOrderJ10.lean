/- Texts joined: WBegun, PChk, PgPlain, Shelf, PgZero, RdA, RdP, RBegun, RdB, RdC, FlFirst, PgSplit, FlOps, RWalk, WOrd. -/
import Derived.Test.YtehleeibgkpjmadWritesOrderJ9
import Derived.Test.YtehleeibgkpjmadRows
import Derived.Test.YtehleeibgkpjmadWritesOrderJ4
import Derived.WalkLawsBesides
import Derived.Deep.QuietTactic
import Derived.BigQuiet
import Derived.Lib.Strings
import Derived.Lib.Join
import Derived.Lib.Repeat
import Derived.Shelf.Strings.Builder1
import Derived.Shelf.Strings.Builder2
import Derived.Shelf.Small.Strs
import Derived.Shelf.Strings.BuilderF
import Derived.Shelf.Strings.Prefix
import Derived.Shelf.Bits.Mul64
import Derived.Shelf.Strings.Repeat
import Derived.Test.YtehleeibgkpjmadProg
import Derived.Test.YtehleeibgkpjmadWritesOrderJ3
import Derived.Test.YtehleeibgkpjmadWritesOrderJ1
import Derived.Deep.AppendLies
import Derived.Laws.CopyOwn
import Derived.Deep.OwnRows
import Derived.Test.YtehleeibgkpjmadWritesOrderJ5
/- Contract of writesBegun: it answers true. -/
namespace Go.Proofs.Ytehleeibgkpjmad
open Go.RowKit Go.Shelf
set_option maxRecDepth 20000

/-- A cell that lies in the world, and stays. -/
def CAt (W : World) (p : Addr) (v : Value) : Prop := W.cell? p = some v ∧ p.block < W.heap.size
theorem CAt.below {W W' : World} {p : Addr} {v : Value} (h : CAt W p v) (bb : Below W.heap.size W W') : CAt W' p v := ⟨(bb.cell h.2).trans h.1, Nat.lt_of_lt_of_le h.2 bb.size⟩
def wbA : ImgD := ⟨6, [2, 4], [(0, ⟨#[]⟩, []), (1, aaaa, []), (2, ⟨#[]⟩, [1, 0, -1, 1]), (1, ⟨#[99, 99, 99, 99]⟩, []), (2, ⟨#[]⟩, [3, 0, 0, 0])], [0, 2, 2, 1, 1], [(nOld, 4, [2])]⟩
theorem wb_ma : wrM pD 4 ⟨#[99, 99, 99, 99]⟩ = wbA := by kernel_rfl
theorem wb_ea : wrE pD 4 ⟨#[99, 99, 99, 99]⟩ = 0 := by decide +kernel
def wbB : ImgD := ⟨6, [5, 4], [(0, ⟨#[]⟩, []), (1, aaaa, []), (2, ⟨#[]⟩, [1, 0, -1, 1]), (1, bbbb, []), (2, ⟨#[]⟩, [3, 0, 0, 0]), (2, ⟨#[]⟩, [6, 0, -1, 1]), (1, ⟨#[100, 100, 100, 100]⟩, [])], [0, 3, 1, 1, 1, 1, 1], [(nOld, 4, [2])]⟩
theorem wb_mb : wrM pD 0 ⟨#[100, 100, 100, 100]⟩ = wbB := by kernel_rfl
theorem wb_eb : wrE pD 0 ⟨#[100, 100, 100, 100]⟩ = 0 := by decide +kernel
def wbC : ImgD := ⟨6, [2, 0], [(0, ⟨#[]⟩, []), (1, aaaa, []), (2, ⟨#[]⟩, [1, 0, -1, 1]), (0, ⟨#[]⟩, []), (0, ⟨#[]⟩, [])], [0, 2, 2, 0, 0], [(nOld, 4, [2])]⟩
theorem wb_mc : puM pD 4 0 = wbC := by kernel_rfl
theorem wb_ec : puE pD 4 0 = 0 := by decide +kernel
def wbD : ImgD := ⟨6, [2, 4], [(0, ⟨#[]⟩, []), (1, aaaa, []), (2, ⟨#[]⟩, [1, 0, -1, 1]), (1, bbbb, []), (2, ⟨#[]⟩, [3, -1, 0, 0])], [0, 2, 2, 1, 1], [(nOld, 4, [2])]⟩
theorem wb_md : puM pD 5 (-1) = wbD := by kernel_rfl
theorem wb_ed : puE pD 5 (-1) = 0 := by decide +kernel
def wbX : ImgD := ⟨3, [5], [(0, ⟨#[]⟩, []), (1, aaaa, []), (2, ⟨#[]⟩, [1, 0, -1, 1]), (0, ⟨#[]⟩, []), (0, ⟨#[]⟩, []), (2, ⟨#[]⟩, [1, 0, -1, 0])], [0, 3, 1, 0, 0, 1], [(nOld, 4, [2])]⟩
theorem wb_mx : rzM pD 3 = wbX := by kernel_rfl
theorem wb_ex : rzE pD 3 = 0 := by decide +kernel

set_option maxHeartbeats 200000000 in
theorem writesBegun_any (w : World) : Calls Try.prog 14 #[] w fun r w' => r = .returned (.bool true) ∧ Below w.heap.size w w' := by
  go_enter Try.func14, Try.ntmps14
  have hB := Below.refl w.heap.size w
  go_wp2_with fail
  refine (pair_is _).mono ?_
  rintro e w1 ⟨⟨v_a, rfl, P_a⟩, bb⟩
  replace hB := Below.on hB bb
  clear bb
  go_wp2_with fail
  refine (write_to P_a 4 ⟨#[99, 99, 99, 99]⟩ wb_ma wb_ea).mono ?_
  intro e w2 hA
  obtain ⟨val, a_r, a_rc, a_s, a_sc, a_f, a_fc, a_n, a_nc, rfl, hO, bb, hI⟩ := hA.open
  dsimp only
  have I_a := hO.img
  rw [hI] at I_a
  clear hA hO hI
  rw [show wbA.guest = 6 from rfl, show wbA.root.length = 2 from rfl, show wbA.slots.length = 5 from rfl, show wbA.refs.length = 5 from rfl, show wbA.snaps.length = 1 from rfl] at I_a ⊢
  replace hB := Below.on hB bb
  replace P_a := P_a.below bb
  clear bb
  clear P_a
  have ba : Below w2.heap.size w2 (w2.alloc (.cells #[.int .i64 6, .slice a_r 2 a_rc, .slice a_s 5 a_sc, .slice a_f 5 a_fc, .slice a_n 1 a_nc] 26)) := (Below.refl _ _).alloc (Nat.le_refl _) _
  replace hB := Below.on hB ba
  replace I_a := I_a.below ba
  clear ba
  have mb_a : (w2.alloc (.cells #[.int .i64 6, .slice a_r 2 a_rc, .slice a_s 5 a_sc, .slice a_f 5 a_fc, .slice a_n 1 a_nc] 26)).heap[w2.heap.size]? = some (.cells #[.int .i64 6, .slice a_r 2 a_rc, .slice a_s 5 a_sc, .slice a_f 5 a_fc, .slice a_n 1 a_nc] 26) := World.alloc_heap_new _ _
  obtain ⟨a0, a1, a2, a3, a4⟩ := five mb_a
  go_wp2_with fail
  refine (pair_is _).mono ?_
  rintro e w3 ⟨⟨v_b, rfl, P_b⟩, bb⟩
  clear a0 a1 a2 a3 a4
  replace mb_a := cells_below mb_a bb (Array.getElem?_eq_some_iff.1 mb_a).1
  replace hB := Below.on hB bb
  replace I_a := I_a.below bb
  clear bb
  obtain ⟨a0, a1, a2, a3, a4⟩ := five mb_a
  go_wp2_with fail
  refine (write_to P_b 0 ⟨#[100, 100, 100, 100]⟩ wb_mb wb_eb).mono ?_
  intro e w4 hA
  obtain ⟨val, b_r, b_rc, b_s, b_sc, b_f, b_fc, b_n, b_nc, rfl, hO, bb, hI⟩ := hA.open
  dsimp only
  have I_b := hO.img
  rw [hI] at I_b
  clear hA hO hI
  rw [show wbB.guest = 6 from rfl, show wbB.root.length = 2 from rfl, show wbB.slots.length = 7 from rfl, show wbB.refs.length = 7 from rfl, show wbB.snaps.length = 1 from rfl] at I_b ⊢
  clear a0 a1 a2 a3 a4
  replace mb_a := cells_below mb_a bb (Array.getElem?_eq_some_iff.1 mb_a).1
  replace hB := Below.on hB bb
  replace I_a := I_a.below bb
  replace P_b := P_b.below bb
  clear bb
  clear P_b
  replace mb_a := cells_alloc mb_a (.cells #[.int .i64 6, .slice b_r 2 b_rc, .slice b_s 7 b_sc, .slice b_f 7 b_fc, .slice b_n 1 b_nc] 26)
  have ba : Below w4.heap.size w4 (w4.alloc (.cells #[.int .i64 6, .slice b_r 2 b_rc, .slice b_s 7 b_sc, .slice b_f 7 b_fc, .slice b_n 1 b_nc] 26)) := (Below.refl _ _).alloc (Nat.le_refl _) _
  replace hB := Below.on hB ba
  replace I_a := I_a.below ba
  replace I_b := I_b.below ba
  clear ba
  have mb_b : (w4.alloc (.cells #[.int .i64 6, .slice b_r 2 b_rc, .slice b_s 7 b_sc, .slice b_f 7 b_fc, .slice b_n 1 b_nc] 26)).heap[w4.heap.size]? = some (.cells #[.int .i64 6, .slice b_r 2 b_rc, .slice b_s 7 b_sc, .slice b_f 7 b_fc, .slice b_n 1 b_nc] 26) := World.alloc_heap_new _ _
  obtain ⟨a0, a1, a2, a3, a4⟩ := five mb_a
  obtain ⟨b0, b1, b2, b3, b4⟩ := five mb_b
  go_wp2_with fail
  refine (pair_is _).mono ?_
  rintro e w5 ⟨⟨v_c, rfl, P_c⟩, bb⟩
  clear a0 a1 a2 a3 a4 b0 b1 b2 b3 b4
  replace mb_a := cells_below mb_a bb (Array.getElem?_eq_some_iff.1 mb_a).1
  replace mb_b := cells_below mb_b bb (Array.getElem?_eq_some_iff.1 mb_b).1
  replace hB := Below.on hB bb
  replace I_a := I_a.below bb
  replace I_b := I_b.below bb
  clear bb
  obtain ⟨a0, a1, a2, a3, a4⟩ := five mb_a
  obtain ⟨b0, b1, b2, b3, b4⟩ := five mb_b
  go_wp2_with fail
  refine (punch_to P_c 4 wb_mc wb_ec).mono ?_
  intro e w6 hA
  obtain ⟨val, c_r, c_rc, c_s, c_sc, c_f, c_fc, c_n, c_nc, rfl, hO, bb, hI⟩ := hA.open
  dsimp only
  have I_c := hO.img
  rw [hI] at I_c
  clear hA hO hI
  rw [show wbC.guest = 6 from rfl, show wbC.root.length = 2 from rfl, show wbC.slots.length = 5 from rfl, show wbC.refs.length = 5 from rfl, show wbC.snaps.length = 1 from rfl] at I_c ⊢
  clear a0 a1 a2 a3 a4 b0 b1 b2 b3 b4
  replace mb_a := cells_below mb_a bb (Array.getElem?_eq_some_iff.1 mb_a).1
  replace mb_b := cells_below mb_b bb (Array.getElem?_eq_some_iff.1 mb_b).1
  replace hB := Below.on hB bb
  replace I_a := I_a.below bb
  replace I_b := I_b.below bb
  replace P_c := P_c.below bb
  clear bb
  clear P_c
  replace mb_a := cells_alloc mb_a (.cells #[.int .i64 6, .slice c_r 2 c_rc, .slice c_s 5 c_sc, .slice c_f 5 c_fc, .slice c_n 1 c_nc] 26)
  replace mb_b := cells_alloc mb_b (.cells #[.int .i64 6, .slice c_r 2 c_rc, .slice c_s 5 c_sc, .slice c_f 5 c_fc, .slice c_n 1 c_nc] 26)
  have ba : Below w6.heap.size w6 (w6.alloc (.cells #[.int .i64 6, .slice c_r 2 c_rc, .slice c_s 5 c_sc, .slice c_f 5 c_fc, .slice c_n 1 c_nc] 26)) := (Below.refl _ _).alloc (Nat.le_refl _) _
  replace hB := Below.on hB ba
  replace I_a := I_a.below ba
  replace I_b := I_b.below ba
  replace I_c := I_c.below ba
  clear ba
  have mb_c : (w6.alloc (.cells #[.int .i64 6, .slice c_r 2 c_rc, .slice c_s 5 c_sc, .slice c_f 5 c_fc, .slice c_n 1 c_nc] 26)).heap[w6.heap.size]? = some (.cells #[.int .i64 6, .slice c_r 2 c_rc, .slice c_s 5 c_sc, .slice c_f 5 c_fc, .slice c_n 1 c_nc] 26) := World.alloc_heap_new _ _
  obtain ⟨a0, a1, a2, a3, a4⟩ := five mb_a
  obtain ⟨b0, b1, b2, b3, b4⟩ := five mb_b
  obtain ⟨c0, c1, c2, c3, c4⟩ := five mb_c
  go_wp2_with fail
  refine (pair_is _).mono ?_
  rintro e w7 ⟨⟨v_d, rfl, P_d⟩, bb⟩
  clear a0 a1 a2 a3 a4 b0 b1 b2 b3 b4 c0 c1 c2 c3 c4
  replace mb_a := cells_below mb_a bb (Array.getElem?_eq_some_iff.1 mb_a).1
  replace mb_b := cells_below mb_b bb (Array.getElem?_eq_some_iff.1 mb_b).1
  replace mb_c := cells_below mb_c bb (Array.getElem?_eq_some_iff.1 mb_c).1
  replace hB := Below.on hB bb
  replace I_a := I_a.below bb
  replace I_b := I_b.below bb
  replace I_c := I_c.below bb
  clear bb
  obtain ⟨a0, a1, a2, a3, a4⟩ := five mb_a
  obtain ⟨b0, b1, b2, b3, b4⟩ := five mb_b
  obtain ⟨c0, c1, c2, c3, c4⟩ := five mb_c
  go_wp2_with fail
  refine (wipe_to P_d 5 wb_md wb_ed).mono ?_
  intro e w8 hA
  obtain ⟨val, d_r, d_rc, d_s, d_sc, d_f, d_fc, d_n, d_nc, rfl, hO, bb, hI⟩ := hA.open
  dsimp only
  have I_d := hO.img
  rw [hI] at I_d
  clear hA hO hI
  rw [show wbD.guest = 6 from rfl, show wbD.root.length = 2 from rfl, show wbD.slots.length = 5 from rfl, show wbD.refs.length = 5 from rfl, show wbD.snaps.length = 1 from rfl] at I_d ⊢
  clear a0 a1 a2 a3 a4 b0 b1 b2 b3 b4 c0 c1 c2 c3 c4
  replace mb_a := cells_below mb_a bb (Array.getElem?_eq_some_iff.1 mb_a).1
  replace mb_b := cells_below mb_b bb (Array.getElem?_eq_some_iff.1 mb_b).1
  replace mb_c := cells_below mb_c bb (Array.getElem?_eq_some_iff.1 mb_c).1
  replace hB := Below.on hB bb
  replace I_a := I_a.below bb
  replace I_b := I_b.below bb
  replace I_c := I_c.below bb
  replace P_d := P_d.below bb
  clear bb
  clear P_d
  replace mb_a := cells_alloc mb_a (.cells #[.int .i64 6, .slice d_r 2 d_rc, .slice d_s 5 d_sc, .slice d_f 5 d_fc, .slice d_n 1 d_nc] 26)
  replace mb_b := cells_alloc mb_b (.cells #[.int .i64 6, .slice d_r 2 d_rc, .slice d_s 5 d_sc, .slice d_f 5 d_fc, .slice d_n 1 d_nc] 26)
  replace mb_c := cells_alloc mb_c (.cells #[.int .i64 6, .slice d_r 2 d_rc, .slice d_s 5 d_sc, .slice d_f 5 d_fc, .slice d_n 1 d_nc] 26)
  have ba : Below w8.heap.size w8 (w8.alloc (.cells #[.int .i64 6, .slice d_r 2 d_rc, .slice d_s 5 d_sc, .slice d_f 5 d_fc, .slice d_n 1 d_nc] 26)) := (Below.refl _ _).alloc (Nat.le_refl _) _
  replace hB := Below.on hB ba
  replace I_a := I_a.below ba
  replace I_b := I_b.below ba
  replace I_c := I_c.below ba
  replace I_d := I_d.below ba
  clear ba
  have mb_d : (w8.alloc (.cells #[.int .i64 6, .slice d_r 2 d_rc, .slice d_s 5 d_sc, .slice d_f 5 d_fc, .slice d_n 1 d_nc] 26)).heap[w8.heap.size]? = some (.cells #[.int .i64 6, .slice d_r 2 d_rc, .slice d_s 5 d_sc, .slice d_f 5 d_fc, .slice d_n 1 d_nc] 26) := World.alloc_heap_new _ _
  obtain ⟨a0, a1, a2, a3, a4⟩ := five mb_a
  obtain ⟨b0, b1, b2, b3, b4⟩ := five mb_b
  obtain ⟨c0, c1, c2, c3, c4⟩ := five mb_c
  obtain ⟨d0, d1, d2, d3, d4⟩ := five mb_d
  go_wp2_with fail
  refine (pair_is _).mono ?_
  rintro e w9 ⟨⟨v_x, rfl, P_x⟩, bb⟩
  clear a0 a1 a2 a3 a4 b0 b1 b2 b3 b4 c0 c1 c2 c3 c4 d0 d1 d2 d3 d4
  replace mb_a := cells_below mb_a bb (Array.getElem?_eq_some_iff.1 mb_a).1
  replace mb_b := cells_below mb_b bb (Array.getElem?_eq_some_iff.1 mb_b).1
  replace mb_c := cells_below mb_c bb (Array.getElem?_eq_some_iff.1 mb_c).1
  replace mb_d := cells_below mb_d bb (Array.getElem?_eq_some_iff.1 mb_d).1
  replace hB := Below.on hB bb
  replace I_a := I_a.below bb
  replace I_b := I_b.below bb
  replace I_c := I_c.below bb
  replace I_d := I_d.below bb
  clear bb
  obtain ⟨a0, a1, a2, a3, a4⟩ := five mb_a
  obtain ⟨b0, b1, b2, b3, b4⟩ := five mb_b
  obtain ⟨c0, c1, c2, c3, c4⟩ := five mb_c
  obtain ⟨d0, d1, d2, d3, d4⟩ := five mb_d
  go_wp2_with fail
  refine (resize_to P_x 3 wb_mx wb_ex).mono ?_
  intro e w10 hA
  obtain ⟨val, x_r, x_rc, x_s, x_sc, x_f, x_fc, x_n, x_nc, rfl, hO, bb, hI⟩ := hA.open
  dsimp only
  have I_x := hO.img
  rw [hI] at I_x
  clear hA hO hI
  rw [show wbX.guest = 3 from rfl, show wbX.root.length = 1 from rfl, show wbX.slots.length = 6 from rfl, show wbX.refs.length = 6 from rfl, show wbX.snaps.length = 1 from rfl] at I_x ⊢
  clear a0 a1 a2 a3 a4 b0 b1 b2 b3 b4 c0 c1 c2 c3 c4 d0 d1 d2 d3 d4
  replace mb_a := cells_below mb_a bb (Array.getElem?_eq_some_iff.1 mb_a).1
  replace mb_b := cells_below mb_b bb (Array.getElem?_eq_some_iff.1 mb_b).1
  replace mb_c := cells_below mb_c bb (Array.getElem?_eq_some_iff.1 mb_c).1
  replace mb_d := cells_below mb_d bb (Array.getElem?_eq_some_iff.1 mb_d).1
  replace hB := Below.on hB bb
  replace I_a := I_a.below bb
  replace I_b := I_b.below bb
  replace I_c := I_c.below bb
  replace I_d := I_d.below bb
  replace P_x := P_x.below bb
  clear bb
  clear P_x
  replace mb_a := cells_alloc mb_a (.cells #[.int .i64 3, .slice x_r 1 x_rc, .slice x_s 6 x_sc, .slice x_f 6 x_fc, .slice x_n 1 x_nc] 26)
  replace mb_b := cells_alloc mb_b (.cells #[.int .i64 3, .slice x_r 1 x_rc, .slice x_s 6 x_sc, .slice x_f 6 x_fc, .slice x_n 1 x_nc] 26)
  replace mb_c := cells_alloc mb_c (.cells #[.int .i64 3, .slice x_r 1 x_rc, .slice x_s 6 x_sc, .slice x_f 6 x_fc, .slice x_n 1 x_nc] 26)
  replace mb_d := cells_alloc mb_d (.cells #[.int .i64 3, .slice x_r 1 x_rc, .slice x_s 6 x_sc, .slice x_f 6 x_fc, .slice x_n 1 x_nc] 26)
  have ba : Below w10.heap.size w10 (w10.alloc (.cells #[.int .i64 3, .slice x_r 1 x_rc, .slice x_s 6 x_sc, .slice x_f 6 x_fc, .slice x_n 1 x_nc] 26)) := (Below.refl _ _).alloc (Nat.le_refl _) _
  replace hB := Below.on hB ba
  replace I_a := I_a.below ba
  replace I_b := I_b.below ba
  replace I_c := I_c.below ba
  replace I_d := I_d.below ba
  replace I_x := I_x.below ba
  clear ba
  have mb_x : (w10.alloc (.cells #[.int .i64 3, .slice x_r 1 x_rc, .slice x_s 6 x_sc, .slice x_f 6 x_fc, .slice x_n 1 x_nc] 26)).heap[w10.heap.size]? = some (.cells #[.int .i64 3, .slice x_r 1 x_rc, .slice x_s 6 x_sc, .slice x_f 6 x_fc, .slice x_n 1 x_nc] 26) := World.alloc_heap_new _ _
  obtain ⟨pa, oa, ta, e, _, la, sa⟩ := I_a.four.2.1.open (by decide)
  simp only [Value.slice.injEq] at e
  obtain ⟨rfl, hh, rfl⟩ := e
  clear hh
  obtain ⟨pb, ob, tb, e, _, lb, sb⟩ := I_b.four.2.1.open (by decide)
  simp only [Value.slice.injEq] at e
  obtain ⟨rfl, hh, rfl⟩ := e
  clear hh
  obtain ⟨pc, oc, tc, e, _, lc, sc⟩ := I_c.four.2.1.open (by decide)
  simp only [Value.slice.injEq] at e
  obtain ⟨rfl, hh, rfl⟩ := e
  clear hh
  obtain ⟨pd, od, td, e, _, ld, sd⟩ := I_d.four.2.1.open (by decide)
  simp only [Value.slice.injEq] at e
  obtain ⟨rfl, hh, rfl⟩ := e
  clear hh
  obtain ⟨px, ox, tx, e, _, lx, sx⟩ := I_x.four.2.1.open (by decide)
  simp only [Value.slice.injEq] at e
  obtain ⟨rfl, hh, rfl⟩ := e
  clear hh
  have ca3 : CAt (w10.alloc (.cells #[.int .i64 3, .slice x_r 1 x_rc, .slice (some ⟨px, ox, none⟩) 6 x_sc, .slice x_f 6 x_fc, .slice x_n 1 x_nc] 26)) ⟨pa, oa + 10, none⟩ (.string ⟨#[99, 99, 99, 99]⟩) := ⟨((sa 3 (by decide))).choose_spec.2.1, la⟩
  obtain ⟨tv, _, _, q2, qs⟩ := sb 5 (by decide)
  obtain ⟨tb5a, tb5c, rfl⟩ := qs.form
  have ctb5 : CAt (w10.alloc (.cells #[.int .i64 3, .slice x_r 1 x_rc, .slice (some ⟨px, ox, none⟩) 6 x_sc, .slice x_f 6 x_fc, .slice x_n 1 x_nc] 26)) ⟨pb, ob + 17, none⟩ (.slice tb5a 4 tb5c) := ⟨q2, lb⟩
  have Stb5 : Sl (w10.alloc (.cells #[.int .i64 3, .slice x_r 1 x_rc, .slice (some ⟨px, ox, none⟩) 6 x_sc, .slice x_f 6 x_fc, .slice x_n 1 x_nc] 26)) (.slice tb5a 4 tb5c) [6, 0, -1, 1] := qs
  clear q2 qs
  have cc3 : CAt (w10.alloc (.cells #[.int .i64 3, .slice x_r 1 x_rc, .slice (some ⟨px, ox, none⟩) 6 x_sc, .slice x_f 6 x_fc, .slice x_n 1 x_nc] 26)) ⟨pc, oc + 9, none⟩ (.int .i64 0) := ⟨((sc 3 (by decide))).choose_spec.1, lc⟩
  obtain ⟨tv, _, _, q2, qs⟩ := sd 4 (by decide)
  obtain ⟨td4a, td4c, rfl⟩ := qs.form
  have ctd4 : CAt (w10.alloc (.cells #[.int .i64 3, .slice x_r 1 x_rc, .slice (some ⟨px, ox, none⟩) 6 x_sc, .slice x_f 6 x_fc, .slice x_n 1 x_nc] 26)) ⟨pd, od + 14, none⟩ (.slice td4a 4 td4c) := ⟨q2, ld⟩
  have Std4 : Sl (w10.alloc (.cells #[.int .i64 3, .slice x_r 1 x_rc, .slice (some ⟨px, ox, none⟩) 6 x_sc, .slice x_f 6 x_fc, .slice x_n 1 x_nc] 26)) (.slice td4a 4 td4c) [3, -1, 0, 0] := qs
  clear q2 qs
  obtain ⟨tv, _, _, q2, qs⟩ := sx 5 (by decide)
  obtain ⟨tx5a, tx5c, rfl⟩ := qs.form
  have ctx5 : CAt (w10.alloc (.cells #[.int .i64 3, .slice x_r 1 x_rc, .slice (some ⟨px, ox, none⟩) 6 x_sc, .slice x_f 6 x_fc, .slice x_n 1 x_nc] 26)) ⟨px, ox + 17, none⟩ (.slice tx5a 4 tx5c) := ⟨q2, lx⟩
  have Stx5 : Sl (w10.alloc (.cells #[.int .i64 3, .slice x_r 1 x_rc, .slice (some ⟨px, ox, none⟩) 6 x_sc, .slice x_f 6 x_fc, .slice x_n 1 x_nc] 26)) (.slice tx5a 4 tx5c) [1, 0, -1, 0] := qs
  clear q2 qs
  have cx4 : CAt (w10.alloc (.cells #[.int .i64 3, .slice x_r 1 x_rc, .slice (some ⟨px, ox, none⟩) 6 x_sc, .slice x_f 6 x_fc, .slice x_n 1 x_nc] 26)) ⟨px, ox + 12, none⟩ (.int .i64 0) := ⟨((sx 4 (by decide))).choose_spec.1, lx⟩
  have Rb := I_b.four.1
  have Fb := I_b.four.2.2.1
  have Rc := I_c.four.1
  have Rx := I_x.four.1
  clear I_a
  clear sa la
  clear I_b
  clear sb lb
  clear I_c
  clear sc lc
  clear I_d
  clear sd ld
  clear I_x
  clear sx lx
  have hnew := Sl_new (w10.alloc (.cells #[.int .i64 3, .slice x_r 1 x_rc, .slice (some ⟨px, ox, none⟩) 6 x_sc, .slice x_f 6 x_fc, .slice x_n 1 x_nc] 26)) [5, 4] 2 rfl (by decide)
  rw [show (w10.alloc (.cells #[.int .i64 3, .slice x_r 1 x_rc, .slice (some ⟨px, ox, none⟩) 6 x_sc, .slice x_f 6 x_fc, .slice x_n 1 x_nc] 26)).heap.size = w10.heap.size + 1 by simp] at hnew
  obtain ⟨a0, a1, a2, a3, a4⟩ := five mb_a
  obtain ⟨b0, b1, b2, b3, b4⟩ := five mb_b
  have q_ca3 := ca3.1
  have hh_mb_a := Hid_mkW mb_a
  have hh_mb_b := Hid_mkW mb_b
  have hh_mb_c := Hid_mkW mb_c
  have hh_mb_d := Hid_mkW mb_d
  have hh_mb_x := Hid_mkW mb_x
  have hh_ca3 := Hid_mkW ca3
  have hh_ctb5 := Hid_mkW ctb5
  have hh_Stb5 := Hid_mkW Stb5
  have hh_cc3 := Hid_mkW cc3
  have hh_ctd4 := Hid_mkW ctd4
  have hh_Std4 := Hid_mkW Std4
  have hh_ctx5 := Hid_mkW ctx5
  have hh_Stx5 := Hid_mkW Stx5
  have hh_cx4 := Hid_mkW cx4
  have hh_Rb := Hid_mkW Rb
  have hh_Fb := Hid_mkW Fb
  have hh_Rc := Hid_mkW Rc
  have hh_Rx := Hid_mkW Rx
  have hh_hB := Hid_mkW hB
  have hh_hnew := Hid_mkW hnew
  clear mb_a mb_b mb_c mb_d mb_x ca3 ctb5 Stb5 cc3 ctd4 Std4 ctx5 Stx5 cx4 Rb Fb Rc Rx hB hnew
  go_wp2_with fail
  clear a0 a1 a2 a3 a4 b0 b1 b2 b3 b4 q_ca3
  have mb_a := hh_mb_a.out
  have mb_b := hh_mb_b.out
  have mb_c := hh_mb_c.out
  have mb_d := hh_mb_d.out
  have mb_x := hh_mb_x.out
  have ca3 := hh_ca3.out
  have ctb5 := hh_ctb5.out
  have Stb5 := hh_Stb5.out
  have cc3 := hh_cc3.out
  have ctd4 := hh_ctd4.out
  have Std4 := hh_Std4.out
  have ctx5 := hh_ctx5.out
  have Stx5 := hh_Stx5.out
  have cx4 := hh_cx4.out
  have Rb := hh_Rb.out
  have Fb := hh_Fb.out
  have Rc := hh_Rc.out
  have Rx := hh_Rx.out
  have hB := hh_hB.out
  have hnew := hh_hnew.out
  clear hh_mb_a hh_mb_b hh_mb_c hh_mb_d hh_mb_x hh_ca3 hh_ctb5 hh_Stb5 hh_cc3 hh_ctd4 hh_Std4 hh_ctx5 hh_Stx5 hh_cx4 hh_Rb hh_Fb hh_Rc hh_Rx hh_hB hh_hnew
  replace mb_a := cells_alloc mb_a (.cells #[.int .i64 5, .int .i64 4] 3)
  replace mb_b := cells_alloc mb_b (.cells #[.int .i64 5, .int .i64 4] 3)
  replace mb_c := cells_alloc mb_c (.cells #[.int .i64 5, .int .i64 4] 3)
  replace mb_d := cells_alloc mb_d (.cells #[.int .i64 5, .int .i64 4] 3)
  replace mb_x := cells_alloc mb_x (.cells #[.int .i64 5, .int .i64 4] 3)
  have ba : Below (w10.alloc (.cells #[.int .i64 3, .slice x_r 1 x_rc, .slice (some ⟨px, ox, none⟩) 6 x_sc, .slice x_f 6 x_fc, .slice x_n 1 x_nc] 26)).heap.size (w10.alloc (.cells #[.int .i64 3, .slice x_r 1 x_rc, .slice (some ⟨px, ox, none⟩) 6 x_sc, .slice x_f 6 x_fc, .slice x_n 1 x_nc] 26)) ((w10.alloc (.cells #[.int .i64 3, .slice x_r 1 x_rc, .slice (some ⟨px, ox, none⟩) 6 x_sc, .slice x_f 6 x_fc, .slice x_n 1 x_nc] 26)).alloc (.cells #[.int .i64 5, .int .i64 4] 3)) := (Below.refl _ _).alloc (Nat.le_refl _) _
  replace hB := Below.on hB ba
  replace ca3 := ca3.below ba
  replace ctb5 := ctb5.below ba
  replace Stb5 := Stb5.below ba
  replace cc3 := cc3.below ba
  replace ctd4 := ctd4.below ba
  replace Std4 := Std4.below ba
  replace ctx5 := ctx5.below ba
  replace Stx5 := Stx5.below ba
  replace cx4 := cx4.below ba
  replace Rb := Rb.below ba
  replace Fb := Fb.below ba
  replace Rc := Rc.below ba
  replace Rx := Rx.below ba
  clear ba
  refine (same_any Rb hnew).mono ?_
  rintro e w11 ⟨rfl, bb⟩
  clear hnew
  replace mb_a := cells_below mb_a bb (Array.getElem?_eq_some_iff.1 mb_a).1
  replace mb_b := cells_below mb_b bb (Array.getElem?_eq_some_iff.1 mb_b).1
  replace mb_c := cells_below mb_c bb (Array.getElem?_eq_some_iff.1 mb_c).1
  replace mb_d := cells_below mb_d bb (Array.getElem?_eq_some_iff.1 mb_d).1
  replace mb_x := cells_below mb_x bb (Array.getElem?_eq_some_iff.1 mb_x).1
  replace hB := Below.on hB bb
  replace ca3 := ca3.below bb
  replace ctb5 := ctb5.below bb
  replace Stb5 := Stb5.below bb
  replace cc3 := cc3.below bb
  replace ctd4 := ctd4.below bb
  replace Std4 := Std4.below bb
  replace ctx5 := ctx5.below bb
  replace Stx5 := Stx5.below bb
  replace cx4 := cx4.below bb
  replace Rb := Rb.below bb
  replace Fb := Fb.below bb
  replace Rc := Rc.below bb
  replace Rx := Rx.below bb
  clear bb
  clear Rb
  clear mb_a
  clear ca3
  have hnew := Sl_new w11 [6, 0, -1, 1] 4 rfl (by decide)
  obtain ⟨b0, b1, b2, b3, b4⟩ := five mb_b
  have q_ctb5 := ctb5.1
  have hh_mb_b := Hid_mkW mb_b
  have hh_mb_c := Hid_mkW mb_c
  have hh_mb_d := Hid_mkW mb_d
  have hh_mb_x := Hid_mkW mb_x
  have hh_ctb5 := Hid_mkW ctb5
  have hh_Stb5 := Hid_mkW Stb5
  have hh_cc3 := Hid_mkW cc3
  have hh_ctd4 := Hid_mkW ctd4
  have hh_Std4 := Hid_mkW Std4
  have hh_ctx5 := Hid_mkW ctx5
  have hh_Stx5 := Hid_mkW Stx5
  have hh_cx4 := Hid_mkW cx4
  have hh_Fb := Hid_mkW Fb
  have hh_Rc := Hid_mkW Rc
  have hh_Rx := Hid_mkW Rx
  have hh_hB := Hid_mkW hB
  have hh_hnew := Hid_mkW hnew
  clear mb_b mb_c mb_d mb_x ctb5 Stb5 cc3 ctd4 Std4 ctx5 Stx5 cx4 Fb Rc Rx hB hnew
  go_wp2_with fail
  clear b0 b1 b2 b3 b4 q_ctb5
  have mb_b := hh_mb_b.out
  have mb_c := hh_mb_c.out
  have mb_d := hh_mb_d.out
  have mb_x := hh_mb_x.out
  have ctb5 := hh_ctb5.out
  have Stb5 := hh_Stb5.out
  have cc3 := hh_cc3.out
  have ctd4 := hh_ctd4.out
  have Std4 := hh_Std4.out
  have ctx5 := hh_ctx5.out
  have Stx5 := hh_Stx5.out
  have cx4 := hh_cx4.out
  have Fb := hh_Fb.out
  have Rc := hh_Rc.out
  have Rx := hh_Rx.out
  have hB := hh_hB.out
  have hnew := hh_hnew.out
  clear hh_mb_b hh_mb_c hh_mb_d hh_mb_x hh_ctb5 hh_Stb5 hh_cc3 hh_ctd4 hh_Std4 hh_ctx5 hh_Stx5 hh_cx4 hh_Fb hh_Rc hh_Rx hh_hB hh_hnew
  replace mb_b := cells_alloc mb_b (.cells #[.int .i64 6, .int .i64 0, .int .i64 (-1), .int .i64 1] 3)
  replace mb_c := cells_alloc mb_c (.cells #[.int .i64 6, .int .i64 0, .int .i64 (-1), .int .i64 1] 3)
  replace mb_d := cells_alloc mb_d (.cells #[.int .i64 6, .int .i64 0, .int .i64 (-1), .int .i64 1] 3)
  replace mb_x := cells_alloc mb_x (.cells #[.int .i64 6, .int .i64 0, .int .i64 (-1), .int .i64 1] 3)
  have ba : Below w11.heap.size w11 (w11.alloc (.cells #[.int .i64 6, .int .i64 0, .int .i64 (-1), .int .i64 1] 3)) := (Below.refl _ _).alloc (Nat.le_refl _) _
  replace hB := Below.on hB ba
  replace ctb5 := ctb5.below ba
  replace Stb5 := Stb5.below ba
  replace cc3 := cc3.below ba
  replace ctd4 := ctd4.below ba
  replace Std4 := Std4.below ba
  replace ctx5 := ctx5.below ba
  replace Stx5 := Stx5.below ba
  replace cx4 := cx4.below ba
  replace Fb := Fb.below ba
  replace Rc := Rc.below ba
  replace Rx := Rx.below ba
  clear ba
  refine (same_any Stb5 hnew).mono ?_
  rintro e w12 ⟨rfl, bb⟩
  clear hnew
  replace mb_b := cells_below mb_b bb (Array.getElem?_eq_some_iff.1 mb_b).1
  replace mb_c := cells_below mb_c bb (Array.getElem?_eq_some_iff.1 mb_c).1
  replace mb_d := cells_below mb_d bb (Array.getElem?_eq_some_iff.1 mb_d).1
  replace mb_x := cells_below mb_x bb (Array.getElem?_eq_some_iff.1 mb_x).1
  replace hB := Below.on hB bb
  replace ctb5 := ctb5.below bb
  replace Stb5 := Stb5.below bb
  replace cc3 := cc3.below bb
  replace ctd4 := ctd4.below bb
  replace Std4 := Std4.below bb
  replace ctx5 := ctx5.below bb
  replace Stx5 := Stx5.below bb
  replace cx4 := cx4.below bb
  replace Fb := Fb.below bb
  replace Rc := Rc.below bb
  replace Rx := Rx.below bb
  clear bb
  clear Stb5
  clear ctb5
  have hnew := Sl_new w12 [0, 3, 1, 1, 1, 1, 1] 7 rfl (by decide)
  obtain ⟨b0, b1, b2, b3, b4⟩ := five mb_b
  have hh_mb_b := Hid_mkW mb_b
  have hh_mb_c := Hid_mkW mb_c
  have hh_mb_d := Hid_mkW mb_d
  have hh_mb_x := Hid_mkW mb_x
  have hh_cc3 := Hid_mkW cc3
  have hh_ctd4 := Hid_mkW ctd4
  have hh_Std4 := Hid_mkW Std4
  have hh_ctx5 := Hid_mkW ctx5
  have hh_Stx5 := Hid_mkW Stx5
  have hh_cx4 := Hid_mkW cx4
  have hh_Fb := Hid_mkW Fb
  have hh_Rc := Hid_mkW Rc
  have hh_Rx := Hid_mkW Rx
  have hh_hB := Hid_mkW hB
  have hh_hnew := Hid_mkW hnew
  clear mb_b mb_c mb_d mb_x cc3 ctd4 Std4 ctx5 Stx5 cx4 Fb Rc Rx hB hnew
  go_wp2_with fail
  clear b0 b1 b2 b3 b4
  have mb_b := hh_mb_b.out
  have mb_c := hh_mb_c.out
  have mb_d := hh_mb_d.out
  have mb_x := hh_mb_x.out
  have cc3 := hh_cc3.out
  have ctd4 := hh_ctd4.out
  have Std4 := hh_Std4.out
  have ctx5 := hh_ctx5.out
  have Stx5 := hh_Stx5.out
  have cx4 := hh_cx4.out
  have Fb := hh_Fb.out
  have Rc := hh_Rc.out
  have Rx := hh_Rx.out
  have hB := hh_hB.out
  have hnew := hh_hnew.out
  clear hh_mb_b hh_mb_c hh_mb_d hh_mb_x hh_cc3 hh_ctd4 hh_Std4 hh_ctx5 hh_Stx5 hh_cx4 hh_Fb hh_Rc hh_Rx hh_hB hh_hnew
  replace mb_b := cells_alloc mb_b (.cells #[.int .i64 0, .int .i64 3, .int .i64 1, .int .i64 1, .int .i64 1, .int .i64 1, .int .i64 1] 3)
  replace mb_c := cells_alloc mb_c (.cells #[.int .i64 0, .int .i64 3, .int .i64 1, .int .i64 1, .int .i64 1, .int .i64 1, .int .i64 1] 3)
  replace mb_d := cells_alloc mb_d (.cells #[.int .i64 0, .int .i64 3, .int .i64 1, .int .i64 1, .int .i64 1, .int .i64 1, .int .i64 1] 3)
  replace mb_x := cells_alloc mb_x (.cells #[.int .i64 0, .int .i64 3, .int .i64 1, .int .i64 1, .int .i64 1, .int .i64 1, .int .i64 1] 3)
  have ba : Below w12.heap.size w12 (w12.alloc (.cells #[.int .i64 0, .int .i64 3, .int .i64 1, .int .i64 1, .int .i64 1, .int .i64 1, .int .i64 1] 3)) := (Below.refl _ _).alloc (Nat.le_refl _) _
  replace hB := Below.on hB ba
  replace cc3 := cc3.below ba
  replace ctd4 := ctd4.below ba
  replace Std4 := Std4.below ba
  replace ctx5 := ctx5.below ba
  replace Stx5 := Stx5.below ba
  replace cx4 := cx4.below ba
  replace Fb := Fb.below ba
  replace Rc := Rc.below ba
  replace Rx := Rx.below ba
  clear ba
  refine (same_any Fb hnew).mono ?_
  rintro e w13 ⟨rfl, bb⟩
  clear hnew
  replace mb_b := cells_below mb_b bb (Array.getElem?_eq_some_iff.1 mb_b).1
  replace mb_c := cells_below mb_c bb (Array.getElem?_eq_some_iff.1 mb_c).1
  replace mb_d := cells_below mb_d bb (Array.getElem?_eq_some_iff.1 mb_d).1
  replace mb_x := cells_below mb_x bb (Array.getElem?_eq_some_iff.1 mb_x).1
  replace hB := Below.on hB bb
  replace cc3 := cc3.below bb
  replace ctd4 := ctd4.below bb
  replace Std4 := Std4.below bb
  replace ctx5 := ctx5.below bb
  replace Stx5 := Stx5.below bb
  replace cx4 := cx4.below bb
  replace Fb := Fb.below bb
  replace Rc := Rc.below bb
  replace Rx := Rx.below bb
  clear bb
  clear Fb
  clear mb_b
  have hnew := Sl_new w13 [2, 0] 2 rfl (by decide)
  obtain ⟨c0, c1, c2, c3, c4⟩ := five mb_c
  have hh_mb_c := Hid_mkW mb_c
  have hh_mb_d := Hid_mkW mb_d
  have hh_mb_x := Hid_mkW mb_x
  have hh_cc3 := Hid_mkW cc3
  have hh_ctd4 := Hid_mkW ctd4
  have hh_Std4 := Hid_mkW Std4
  have hh_ctx5 := Hid_mkW ctx5
  have hh_Stx5 := Hid_mkW Stx5
  have hh_cx4 := Hid_mkW cx4
  have hh_Rc := Hid_mkW Rc
  have hh_Rx := Hid_mkW Rx
  have hh_hB := Hid_mkW hB
  have hh_hnew := Hid_mkW hnew
  clear mb_c mb_d mb_x cc3 ctd4 Std4 ctx5 Stx5 cx4 Rc Rx hB hnew
  go_wp2_with fail
  clear c0 c1 c2 c3 c4
  have mb_c := hh_mb_c.out
  have mb_d := hh_mb_d.out
  have mb_x := hh_mb_x.out
  have cc3 := hh_cc3.out
  have ctd4 := hh_ctd4.out
  have Std4 := hh_Std4.out
  have ctx5 := hh_ctx5.out
  have Stx5 := hh_Stx5.out
  have cx4 := hh_cx4.out
  have Rc := hh_Rc.out
  have Rx := hh_Rx.out
  have hB := hh_hB.out
  have hnew := hh_hnew.out
  clear hh_mb_c hh_mb_d hh_mb_x hh_cc3 hh_ctd4 hh_Std4 hh_ctx5 hh_Stx5 hh_cx4 hh_Rc hh_Rx hh_hB hh_hnew
  replace mb_c := cells_alloc mb_c (.cells #[.int .i64 2, .int .i64 0] 3)
  replace mb_d := cells_alloc mb_d (.cells #[.int .i64 2, .int .i64 0] 3)
  replace mb_x := cells_alloc mb_x (.cells #[.int .i64 2, .int .i64 0] 3)
  have ba : Below w13.heap.size w13 (w13.alloc (.cells #[.int .i64 2, .int .i64 0] 3)) := (Below.refl _ _).alloc (Nat.le_refl _) _
  replace hB := Below.on hB ba
  replace cc3 := cc3.below ba
  replace ctd4 := ctd4.below ba
  replace Std4 := Std4.below ba
  replace ctx5 := ctx5.below ba
  replace Stx5 := Stx5.below ba
  replace cx4 := cx4.below ba
  replace Rc := Rc.below ba
  replace Rx := Rx.below ba
  clear ba
  refine (same_any Rc hnew).mono ?_
  rintro e w14 ⟨rfl, bb⟩
  clear hnew
  replace mb_c := cells_below mb_c bb (Array.getElem?_eq_some_iff.1 mb_c).1
  replace mb_d := cells_below mb_d bb (Array.getElem?_eq_some_iff.1 mb_d).1
  replace mb_x := cells_below mb_x bb (Array.getElem?_eq_some_iff.1 mb_x).1
  replace hB := Below.on hB bb
  replace cc3 := cc3.below bb
  replace ctd4 := ctd4.below bb
  replace Std4 := Std4.below bb
  replace ctx5 := ctx5.below bb
  replace Stx5 := Stx5.below bb
  replace cx4 := cx4.below bb
  replace Rc := Rc.below bb
  replace Rx := Rx.below bb
  clear bb
  clear Rc
  have hnew := Sl_new w14 [3, -1, 0, 0] 4 rfl (by decide)
  obtain ⟨c0, c1, c2, c3, c4⟩ := five mb_c
  obtain ⟨d0, d1, d2, d3, d4⟩ := five mb_d
  have q_cc3 := cc3.1
  have q_ctd4 := ctd4.1
  have hh_mb_c := Hid_mkW mb_c
  have hh_mb_d := Hid_mkW mb_d
  have hh_mb_x := Hid_mkW mb_x
  have hh_cc3 := Hid_mkW cc3
  have hh_ctd4 := Hid_mkW ctd4
  have hh_Std4 := Hid_mkW Std4
  have hh_ctx5 := Hid_mkW ctx5
  have hh_Stx5 := Hid_mkW Stx5
  have hh_cx4 := Hid_mkW cx4
  have hh_Rx := Hid_mkW Rx
  have hh_hB := Hid_mkW hB
  have hh_hnew := Hid_mkW hnew
  clear mb_c mb_d mb_x cc3 ctd4 Std4 ctx5 Stx5 cx4 Rx hB hnew
  go_wp2_with fail
  clear c0 c1 c2 c3 c4 d0 d1 d2 d3 d4 q_cc3 q_ctd4
  have mb_c := hh_mb_c.out
  have mb_d := hh_mb_d.out
  have mb_x := hh_mb_x.out
  have cc3 := hh_cc3.out
  have ctd4 := hh_ctd4.out
  have Std4 := hh_Std4.out
  have ctx5 := hh_ctx5.out
  have Stx5 := hh_Stx5.out
  have cx4 := hh_cx4.out
  have Rx := hh_Rx.out
  have hB := hh_hB.out
  have hnew := hh_hnew.out
  clear hh_mb_c hh_mb_d hh_mb_x hh_cc3 hh_ctd4 hh_Std4 hh_ctx5 hh_Stx5 hh_cx4 hh_Rx hh_hB hh_hnew
  replace mb_c := cells_alloc mb_c (.cells #[.int .i64 3, .int .i64 (-1), .int .i64 0, .int .i64 0] 3)
  replace mb_d := cells_alloc mb_d (.cells #[.int .i64 3, .int .i64 (-1), .int .i64 0, .int .i64 0] 3)
  replace mb_x := cells_alloc mb_x (.cells #[.int .i64 3, .int .i64 (-1), .int .i64 0, .int .i64 0] 3)
  have ba : Below w14.heap.size w14 (w14.alloc (.cells #[.int .i64 3, .int .i64 (-1), .int .i64 0, .int .i64 0] 3)) := (Below.refl _ _).alloc (Nat.le_refl _) _
  replace hB := Below.on hB ba
  replace cc3 := cc3.below ba
  replace ctd4 := ctd4.below ba
  replace Std4 := Std4.below ba
  replace ctx5 := ctx5.below ba
  replace Stx5 := Stx5.below ba
  replace cx4 := cx4.below ba
  replace Rx := Rx.below ba
  clear ba
  refine (same_any Std4 hnew).mono ?_
  rintro e w15 ⟨rfl, bb⟩
  clear hnew
  replace mb_c := cells_below mb_c bb (Array.getElem?_eq_some_iff.1 mb_c).1
  replace mb_d := cells_below mb_d bb (Array.getElem?_eq_some_iff.1 mb_d).1
  replace mb_x := cells_below mb_x bb (Array.getElem?_eq_some_iff.1 mb_x).1
  replace hB := Below.on hB bb
  replace cc3 := cc3.below bb
  replace ctd4 := ctd4.below bb
  replace Std4 := Std4.below bb
  replace ctx5 := ctx5.below bb
  replace Stx5 := Stx5.below bb
  replace cx4 := cx4.below bb
  replace Rx := Rx.below bb
  clear bb
  clear Std4
  clear mb_c
  clear cc3
  clear mb_d
  clear ctd4
  have hnew := Sl_new w15 [5] 1 rfl (by decide)
  obtain ⟨x0, x1, x2, x3, x4⟩ := five mb_x
  have hh_mb_x := Hid_mkW mb_x
  have hh_ctx5 := Hid_mkW ctx5
  have hh_Stx5 := Hid_mkW Stx5
  have hh_cx4 := Hid_mkW cx4
  have hh_Rx := Hid_mkW Rx
  have hh_hB := Hid_mkW hB
  have hh_hnew := Hid_mkW hnew
  clear mb_x ctx5 Stx5 cx4 Rx hB hnew
  go_wp2_with fail
  clear x0 x1 x2 x3 x4
  have mb_x := hh_mb_x.out
  have ctx5 := hh_ctx5.out
  have Stx5 := hh_Stx5.out
  have cx4 := hh_cx4.out
  have Rx := hh_Rx.out
  have hB := hh_hB.out
  have hnew := hh_hnew.out
  clear hh_mb_x hh_ctx5 hh_Stx5 hh_cx4 hh_Rx hh_hB hh_hnew
  replace mb_x := cells_alloc mb_x (.cells #[.int .i64 5] 3)
  have ba : Below w15.heap.size w15 (w15.alloc (.cells #[.int .i64 5] 3)) := (Below.refl _ _).alloc (Nat.le_refl _) _
  replace hB := Below.on hB ba
  replace ctx5 := ctx5.below ba
  replace Stx5 := Stx5.below ba
  replace cx4 := cx4.below ba
  replace Rx := Rx.below ba
  clear ba
  refine (same_any Rx hnew).mono ?_
  rintro e w16 ⟨rfl, bb⟩
  clear hnew
  replace mb_x := cells_below mb_x bb (Array.getElem?_eq_some_iff.1 mb_x).1
  replace hB := Below.on hB bb
  replace ctx5 := ctx5.below bb
  replace Stx5 := Stx5.below bb
  replace cx4 := cx4.below bb
  replace Rx := Rx.below bb
  clear bb
  clear Rx
  have hnew := Sl_new w16 [1, 0, -1, 0] 4 rfl (by decide)
  obtain ⟨x0, x1, x2, x3, x4⟩ := five mb_x
  have q_ctx5 := ctx5.1
  have hh_mb_x := Hid_mkW mb_x
  have hh_ctx5 := Hid_mkW ctx5
  have hh_Stx5 := Hid_mkW Stx5
  have hh_cx4 := Hid_mkW cx4
  have hh_hB := Hid_mkW hB
  have hh_hnew := Hid_mkW hnew
  clear mb_x ctx5 Stx5 cx4 hB hnew
  go_wp2_with fail
  clear x0 x1 x2 x3 x4 q_ctx5
  have mb_x := hh_mb_x.out
  have ctx5 := hh_ctx5.out
  have Stx5 := hh_Stx5.out
  have cx4 := hh_cx4.out
  have hB := hh_hB.out
  have hnew := hh_hnew.out
  clear hh_mb_x hh_ctx5 hh_Stx5 hh_cx4 hh_hB hh_hnew
  replace mb_x := cells_alloc mb_x (.cells #[.int .i64 1, .int .i64 0, .int .i64 (-1), .int .i64 0] 3)
  have ba : Below w16.heap.size w16 (w16.alloc (.cells #[.int .i64 1, .int .i64 0, .int .i64 (-1), .int .i64 0] 3)) := (Below.refl _ _).alloc (Nat.le_refl _) _
  replace hB := Below.on hB ba
  replace ctx5 := ctx5.below ba
  replace Stx5 := Stx5.below ba
  replace cx4 := cx4.below ba
  clear ba
  refine (same_any Stx5 hnew).mono ?_
  rintro e w17 ⟨rfl, bb⟩
  clear hnew
  replace mb_x := cells_below mb_x bb (Array.getElem?_eq_some_iff.1 mb_x).1
  replace hB := Below.on hB bb
  replace ctx5 := ctx5.below bb
  replace Stx5 := Stx5.below bb
  replace cx4 := cx4.below bb
  clear bb
  clear Stx5
  clear ctx5
  obtain ⟨x0, x1, x2, x3, x4⟩ := five mb_x
  have q_cx4 := cx4.1
  have hh_mb_x := Hid_mkW mb_x
  have hh_cx4 := Hid_mkW cx4
  have hh_hB := Hid_mkW hB
  clear mb_x cx4 hB
  go_wp2_with fail
  go_ret
  have hB := hh_hB.out
  exact ⟨rfl, hB⟩
end Go.Proofs.Ytehleeibgkpjmad
/- Contracts of isPage, Check, and of the document's CheckPages, SamePages, ZeroPage. -/
namespace Go.Proofs.Ytehleeibgkpjmad
open Go.RowKit
theorem samePages_at (ao bo : Option Addr) (n cap cap' : Nat) (xs : List ByteArray) (w : World) (hm : n ≤ 9223372036854775807)
    (hc : ∀ j, j < n → ∃ b off, ao = some ⟨b, off, none⟩ ∧ b < w.heap.size ∧ w.cell? ⟨b, off + j, none⟩ = some (.string (xs.getD j ByteArray.empty)))
    (hd : ∀ j, j < n → ∃ b off, bo = some ⟨b, off, none⟩ ∧ b < w.heap.size ∧ w.cell? ⟨b, off + j, none⟩ = some (.string (xs.getD j ByteArray.empty))) :
    Calls Try.prog 18 #[.slice ao n cap, .slice bo n cap'] w fun r w' => r = .returned (.bool true) ∧ Below w.heap.size w w' := by
  have HC : Hid (∀ j, j < n → ∃ b off, ao = some ⟨b, off, none⟩ ∧ b < w.heap.size ∧ w.cell? ⟨b, off + j, none⟩ = some (.string (xs.getD j ByteArray.empty))) := hc
  have HD : Hid (∀ j, j < n → ∃ b off, bo = some ⟨b, off, none⟩ ∧ b < w.heap.size ∧ w.cell? ⟨b, off + j, none⟩ = some (.string (xs.getD j ByteArray.empty))) := hd
  clear hc hd
  go_enter Try.func18, Try.ntmps18
  go_wp2
  go_loopw [5] (fun i wr => ∃ k : Nat, k ≤ n ∧ i = .int .i64 k ∧ Below w.heap.size w wr) (fun i _ => n - (intOf i).toNat)
  case atStart => exact ⟨0, by omega, rfl, Below.refl _ _⟩
  case round =>
    obtain ⟨k, hk, rfl, hbel⟩ := hrel
    by_cases hlt : k < n
    · obtain ⟨x, hx⟩ : ∃ x, xs.getD k ByteArray.empty = x := ⟨_, rfl⟩
      obtain ⟨b, off, hao, hl1, hck⟩ := HC.out k hlt
      obtain ⟨b', off', hbo, hl2, hck'⟩ := HD.out k hlt
      rw [hx] at hck hck'
      clear hx
      have g1 : wr.cell? ⟨b, off + k, none⟩ = some (.string x) := (hbel.cell (p := ⟨b, off + k, none⟩) hl1).trans hck
      have g2 : wr.cell? ⟨b', off' + k, none⟩ = some (.string x) := (hbel.cell (p := ⟨b', off' + k, none⟩) hl2).trans hck'
      have i1 : (k : Int) < (n : Int) := by omega
      go_wp2
      go_quiet (fail)
      go_wp2
      go_roundw
      case rel => exact ⟨k + 1, by omega, by go_num, below_drewN hbel _⟩
      case measure => simp [intOf]; omega
    · have e4 : k = n := by omega
      subst e4
      go_wp2
      go_ret
      exact ⟨rfl, hbel⟩

theorem samePages_any {v u : Value} {xs : List ByteArray} {w : World} (h : Ss w v xs) (k : Ss w u xs) :
    Calls Try.prog 18 #[v, u] w fun r w' => r = .returned (.bool true) ∧ Below w.heap.size w w' := by
  obtain ⟨ao, cap, rfl⟩ := h.form
  obtain ⟨bo, cap', rfl⟩ := k.form
  obtain ⟨hn, hm, _, hc⟩ := h.cells
  obtain ⟨_, _, _, hd⟩ := k.cells
  exact samePages_at ao bo _ cap cap' xs w hm hc hd
end Go.Proofs.Ytehleeibgkpjmad
/- Pages, plainly: which pages some bytes are, and what is joined; lists of bytes alone. -/
namespace Go.Proofs.Ytehleeibgkpjmad
open Go.RowKit
set_option maxRecDepth 20000

def bytes (s : ByteArray) : List UInt8 := s.data.toList
def ofBytes (l : List UInt8) : ByteArray := ⟨l.toArray⟩
def countP (n : Nat) : Nat := (n + 3) / 4
theorem repeat_zero (n : Nat) : Lib.repeatL [0] n = List.replicate n 0 := by
  induction n with
  | zero => rfl
  | succ n ih => rw [Lib.repeatL, ih]; rfl

end Go.Proofs.Ytehleeibgkpjmad
/- The library's contracts that are used here, at this program: strings.Repeat, strings.Join. -/
namespace Go.Proofs
open Go.Shelf
def Try.lays105_ren : Go.Shelf.Ren := ⟨fun | 105 => 120 | 212 => 128 | 99 => 129 | 165 => 130 | 166 => 131 | 170 => 132 | 169 => 133 | 263 => 136 | 264 => 137 | 206 => 138 | 240 => 139 | 241 => 140 | 276 => 142 | 277 => 143 | n => n, fun | 9 => 9 | 3 => 3 | 4 => 4 | 20 => 20 | 0 => 0 | 46 => 123 | 109 => 136 | 5 => 5 | 72 => 142 | 76 => 146 | 51 => 150 | 146 => 151 | 53 => 153 | 148 => 154 | 70 => 139 | 37 => 140 | 75 => 145 | 127 => 156 | 164 => 157 | 80 => 37 | n => n, fun | n => n⟩
theorem Try.lays105 : Go.Proofs.Lays.n105 Try.prog Try.lays105_ren := {
  mixed := by kernel_rfl
  f99 := Try.func129.trans (congrArg some (by kernel_rfl))
  f105 := Try.func120.trans (congrArg some (by kernel_rfl))
  f165 := Try.func130.trans (congrArg some (by kernel_rfl))
  f166 := Try.func131.trans (congrArg some (by kernel_rfl))
  f169 := Try.func133.trans (congrArg some (by kernel_rfl))
  f170 := Try.func132.trans (congrArg some (by kernel_rfl))
  f206 := Try.func138.trans (congrArg some (by kernel_rfl))
  f212 := Try.func128.trans (congrArg some (by kernel_rfl))
  f240 := Try.func139.trans (congrArg some (by kernel_rfl))
  f241 := Try.func140.trans (congrArg some (by kernel_rfl))
  f263 := Try.func136.trans (congrArg some (by kernel_rfl))
  f264 := Try.func137.trans (congrArg some (by kernel_rfl))
  f276 := Try.func142.trans (congrArg some (by kernel_rfl))
  f277 := Try.func143.trans (congrArg some (by kernel_rfl))
  t0 := Try.underlying0
  a0 := Try.isAgg0
  z0 := Try.sizeOf0
  v0 := Try.zeroValue0
  t3 := Try.underlying3
  a3 := Try.isAgg3
  z3 := Try.sizeOf3
  v3 := Try.zeroValue3
  t4 := Try.underlying4
  a4 := Try.isAgg4
  z4 := Try.sizeOf4
  v4 := Try.zeroValue4
  t5 := Try.underlying5
  a5 := Try.isAgg5
  z5 := Try.sizeOf5
  v5 := Try.zeroValue5
  t9 := Try.underlying9
  a9 := Try.isAgg9
  z9 := Try.sizeOf9
  v9 := Try.zeroValue9
  t20 := Try.underlying20
  a20 := Try.isAgg20
  z20 := Try.sizeOf20
  v20 := Try.zeroValue20
  t37 := Try.underlying140
  a37 := Try.isAgg140
  z37 := Try.sizeOf140
  v37 := Try.zeroValue140
  t46 := Try.underlying123
  a46 := Try.isAgg123
  z46 := Try.sizeOf123
  v46 := Try.zeroValue123
  t51 := Try.underlying150
  a51 := Try.isAgg150
  z51 := Try.sizeOf150
  v51 := Try.zeroValue150
  t53 := Try.underlying153
  a53 := Try.isAgg153
  z53 := Try.sizeOf153
  v53 := Try.zeroValue153
  t70 := Try.underlying139
  a70 := Try.isAgg139
  z70 := Try.sizeOf139
  v70 := Try.zeroValue139
  t72 := Try.underlying142
  a72 := Try.isAgg142
  z72 := Try.sizeOf142
  v72 := Try.zeroValue142
  t75 := Try.underlying145
  a75 := Try.isAgg145
  z75 := Try.sizeOf145
  v75 := Try.zeroValue145
  t76 := Try.underlying146
  a76 := Try.isAgg146
  z76 := Try.sizeOf146
  v76 := Try.zeroValue146
  t109 := Try.underlying136
  a109 := Try.isAgg136
  z109 := Try.sizeOf136
  v109 := Try.zeroValue136
  t127 := Try.underlying156
  a127 := Try.isAgg156
  z127 := Try.sizeOf156
  v127 := Try.zeroValue156
  t146 := Try.underlying151
  a146 := Try.isAgg151
  z146 := Try.sizeOf151
  v146 := Try.zeroValue151
  t148 := Try.underlying154
  a148 := Try.isAgg154
  z148 := Try.sizeOf154
  v148 := Try.zeroValue154
  t164 := Try.underlying157
  a164 := Try.isAgg157
  z164 := Try.sizeOf157
  v164 := Try.zeroValue157 }
theorem Try.Builder_Extra_105 : Builder.Extra Try.prog Try.lays105_ren := {
  sizeBuilder := by kernel_rfl
  liesBuilder := by kernel_rfl
  t5 := Try.underlying5
  a5 := Try.isAgg5
  z5 := Try.sizeOf5
  v5 := Try.zeroValue5
  infoByte := by kernel_rfl
  cellsByte := by kernel_rfl
  sizeByte := by kernel_rfl
  neB5 := by decide }
open Go.RowKit Go.Lib in
theorem Try.strings_Repeat (s : ByteArray) (c : Nat) (w : World) (hc : c ≤ 9223372036854775807) (hlen : s.size * c ≤ 140737488355328) :
    Calls Try.prog 120 #[.string s, .int .i64 c] w fun e w' => e = .returned (.string ⟨(Lib.repeatL s.data.toList c).toArray⟩) ∧ Below w.heap.size w w' := Any.strings_Repeat Try.lays105 Try.Builder_Extra_105 s c w hc hlen

end Go.Proofs
/- Contracts of zeros and Zero; the law of an append of one string. -/
namespace Go.Proofs.Ytehleeibgkpjmad
open Go.RowKit
set_option maxRecDepth 20000

theorem zeros_any (n : Nat) (w : World) (hn : n ≤ 4) : Calls Try.prog 105 #[.int .i64 n] w fun r w' => r = .returned (.string (ofBytes (List.replicate n 0))) ∧ Below w.heap.size w w' := by
  have h := Try.strings_Repeat ⟨#[0]⟩ n w (by omega) (by show 1 * n ≤ _; omega)
  rw [show (⟨#[0]⟩ : ByteArray).data.toList = [0] from rfl, repeat_zero] at h
  have HH : Hid (Calls Try.prog 120 #[.string ⟨#[0]⟩, .int .i64 n] w fun e w' => e = .returned (.string (ofBytes (List.replicate n 0))) ∧ Below w.heap.size w w') := h
  clear h
  go_enter Try.func105, Try.ntmps105
  go_wp2_with (go_at_call 120; refine (HH.out).mono ?_; rintro e w1 ⟨rfl, b1⟩)
  go_ret
  exact ⟨rfl, b1⟩

theorem zero_any (w : World) : Calls Try.prog 80 #[] w fun r w' => r = .returned (.string Z4) ∧ Below w.heap.size w w' := by
  go_enter Try.func80, Try.ntmps80
  go_wp2_with (go_at_call 105; refine (zeros_any 4 _ (by omega)).mono ?_; rintro e w1 ⟨rfl, b1⟩)
  go_ret
  exact ⟨rfl, b1⟩

theorem Try.info9 : (Try.prog.info? 9).map (fun i => (i.zero, i.size, i.bytes)) = some (some (.string ByteArray.empty), 1, 16) := by kernel_rfl

end Go.Proofs.Ytehleeibgkpjmad
/- Contracts of reads.page, allPages, Read, All. -/
namespace Go.Proofs.Ytehleeibgkpjmad
open Go.RowKit Go.Shelf
set_option maxRecDepth 20000

def SAt (W : World) (g : Nat) (l : List ByteArray) : Prop := W.heap[g]? = some (.cells (l.map Value.string).toArray 9)
theorem SAt.cell {W : World} {g : Nat} {l : List ByteArray} (h : SAt W g l) {j : Nat} (hj : j < l.length) : W.cell? ⟨g, j, none⟩ = some (.string (l.getD j ByteArray.empty)) := by
  have h' : W.heap[g]? = some (.cells (l.map Value.string).toArray 9) := h
  simp [World.cell?, h', List.getD, hj]
theorem SAt.frozen {W : World} {g : Nat} {l : List ByteArray} (h : SAt W g l) (j : Nat) : W.frozen? ⟨g, j, none⟩ = false := by
  have h' : W.heap[g]? = some (.cells (l.map Value.string).toArray 9) := h
  simp [World.frozen?, h']
theorem SAt.lt {W : World} {g : Nat} {l : List ByteArray} (h : SAt W g l) : g < W.heap.size := (Array.getElem?_eq_some_iff.1 h).1
theorem SAt.set {W : World} {g : Nat} {l : List ByteArray} (h : SAt W g l) (j : Nat) (x : ByteArray) : SAt (W.setCell ⟨g, j, none⟩ (.string x)) g (l.set j x) := by
  obtain ⟨hlt, hk⟩ := Array.getElem?_eq_some_iff.1 h
  show (W.heap.modify g _)[g]? = _
  rw [Array.getElem?_eq_getElem (by rw [Array.size_modify]; exact hlt), Array.getElem_modify_self, hk]
  simp [List.map_set]
theorem SAt.ss {W : World} {g n : Nat} {l : List ByteArray} (h : SAt W g l) (hn : l.length = n) (hm : n ≤ maxLen) : Ss W (.slice (some ⟨g, 0, none⟩) n n) l := by
  subst hn
  exact ⟨_, _, rfl, hm, Nat.le_refl _, fun _ => ⟨g, 0, rfl, h.lt, fun j hj => by rw [Nat.zero_add]; exact h.cell hj⟩⟩
theorem mk_strs (n : Nat) (hn : n ≤ 40) (W : World) : (Instr.makeSlice 34 (.int .i64 (n : Int)) (.int .i64 (n : Int))).run Try.prog W = .ok (.slice (some ⟨W.heap.size, 0, none⟩) n n) (W.alloc (.cells ((List.replicate n ByteArray.empty).map Value.string).toArray 9)) := by
  have hi := Try.info9
  cases h : Try.prog.info? 9 with
  | none => rw [h] at hi; cases hi
  | some i =>
    rw [h] at hi
    simp at hi
    have := run_make (P := Try.prog) W 34 9 i (.string ByteArray.empty) Try.underlying34 h hi.1 .i64 .i64 n n (by omega) (by omega) (by rw [hi.2.2]; omega) (by omega)
    rw [this, hi.2.1]
    have e : madeCells (Value.string ByteArray.empty).cells (((n : Int)).toNat * 1) = ((List.replicate n ByteArray.empty).map Value.string).toArray := by
      apply Array.ext
      · simp [madeCells]
      · intro j h1 h2
        simp [madeCells, Value.cells, Nat.mod_one]
    rw [e]
    simp

theorem page_zero (la : Option Addr) (ln lc : Nat) (e : Int) (w : World) (he : e = 0 ∨ e = -1) :
    Calls Try.prog 78 #[.slice la ln lc, .int .i64 e] w fun r w' => r = .returned (.string Z4) ∧ Below w.heap.size w w' := by
  rcases he with rfl | rfl
  all_goals
    go_enter Try.func78, Try.ntmps78
    go_wp2_with (go_at_call 80; refine (zero_any _).mono ?_; rintro e w1 ⟨rfl, b1⟩)
    go_ret
    exact ⟨rfl, b1⟩
theorem page_slot (lb lo : Nat) (ln lc : Nat) (j : Nat) (d : ByteArray) (w : World) (h1 : 1 ≤ j) (hj : j < ln) (hc : w.cell? ⟨lb, lo + j * 3 + 1, none⟩ = some (.string d)) :
    Calls Try.prog 78 #[.slice (some ⟨lb, lo, none⟩) ln lc, .int .i64 j] w fun r w' => r = .returned (.string d) ∧ Below w.heap.size w w' := by
  have h0 : ((j : Int) == 0) = false := by simp; omega
  have hm : ((j : Int) == -1) = false := by simp <;> omega
  have hji : (j : Int) < (ln : Int) := by omega
  go_enter Try.func78, Try.ntmps78
  go_wp2_with fail
  go_ret
  exact ⟨rfl, Below.refl _ _⟩
theorem page_is {lv : Value} {L : List SlotD} {w : World} (h : Slots w lv L) {e : Int} (he : e = 0 ∨ e = -1 ∨ ∃ j : Nat, e = j ∧ 1 ≤ j ∧ j < L.length) {p : ByteArray} (hp : pageV L e = p) :
    Calls Try.prog 78 #[lv, .int .i64 e] w fun r w' => r = .returned (.string p) ∧ Below w.heap.size w w' := by
  unfold pageV at hp
  have h' := h
  obtain ⟨la, lc, rfl⟩ := h.form
  rcases he with he | he | ⟨j, rfl, h1, hj⟩
  · rw [if_pos (by omega)] at hp; subst hp
    exact page_zero la _ lc e w (.inl he)
  · rw [if_pos (by omega)] at hp; subst hp
    exact page_zero la _ lc e w (.inr he)
  · rw [if_neg (by omega)] at hp
    obtain ⟨sb, so, rfl, hsb, tv, _, c2, _⟩ := h'.at j hj
    have e : L.getD (j : Int).toNat default = L[j] := by simp [List.getD, hj]
    rw [e] at hp
    rw [hp] at c2
    exact page_slot sb so _ lc j p w h1 hj c2

def rowP (m : ImgD) (root : List Int) (g k : Nat) : List ByteArray := (List.range g).map (fun n => if n < k then pageV m.slots (lookV m root n) else ByteArray.empty)
theorem rowP_length (m : ImgD) (root : List Int) (g k : Nat) : (rowP m root g k).length = g := by simp [rowP]
theorem rowP_zero (m : ImgD) (root : List Int) (g : Nat) : rowP m root g 0 = List.replicate g ByteArray.empty := by
  unfold rowP
  apply List.ext_getElem <;> simp
theorem rowP_end (m : ImgD) (root : List Int) (g : Nat) : rowP m root g g = allP m root g := by
  unfold rowP allP
  exact List.map_congr_left fun n hn => by rw [if_pos (List.mem_range.1 hn)]
theorem rowP_set (m : ImgD) (root : List Int) (g k : Nat) : (rowP m root g k).set k (pageV m.slots (lookV m root k)) = rowP m root g (k + 1) := by
  unfold rowP
  apply List.ext_getElem
  · simp
  · intro j h1 h2
    rw [List.getElem_set]
    by_cases e : k = j
    · subst e; simp
    · rw [if_neg e]
      simp only [List.getElem_map, List.getElem_range]
      by_cases c : j < k
      · rw [if_pos c, if_pos (by omega)]
      · rw [if_neg c, if_neg (by omega)]

theorem SAt.below {W W' : World} {g n : Nat} {l : List ByteArray} (h : SAt W g l) (hb : Below n W W') (hg : g < n) : SAt W' g l := (hb.block _ hg).trans h

set_option maxHeartbeats 4000000 in
theorem allPages_at (sa : Option Addr) (sn sc : Nat) (qa : Option Addr) (qn qc : Nat) (g : Nat) (m : ImgD) (root : List Int) (w : World) (hS : Slots w (.slice sa sn sc) m.slots) (hq : Sl w (.slice qa qn qc) root) (hg : g ≤ 16) (hl : (root.length : Int) = ((g : Int) + 3) / 4) (hE : shapeE m = 0) (hall : root.all (rootE m.slots) = true) :
    Calls Try.prog 43 #[.slice sa sn sc, .slice qa qn qc, .int .i64 g] w fun r w' => (r = .returned (.slice (some ⟨w.heap.size, 0, none⟩) g g) ∧ SAt w' w.heap.size (allP m root g)) ∧ Below w.heap.size w w' := by
  have hmk := mk_strs g (by omega)
  obtain ⟨W0, hW0⟩ : ∃ W0, w.alloc (.cells ((List.replicate g ByteArray.empty).map Value.string).toArray 9) = W0 := ⟨_, rfl⟩
  have l0 : SAt W0 w.heap.size (rowP m root g 0) := by
    rw [rowP_zero, ← hW0]; exact World.alloc_heap_new _ _
  have b0 : Below w.heap.size w W0 := by rw [← hW0]; exact (Below.refl _ _).alloc (Nat.le_refl _) _
  have H1 : Hid (Slots w (.slice sa sn sc) m.slots) := hS
  have H2 : Hid (Sl w (.slice qa qn qc) root ∧ root.length = qn) := ⟨hq, hq.cells.1⟩
  have H3 : Hid ((root.length : Int) = ((g : Int) + 3) / 4) := hl
  have H4 : Hid (shapeE m = 0 ∧ root.all (rootE m.slots) = true) := ⟨hE, hall⟩
  have H5 : Hid (m.slots.length = sn) := by
    obtain ⟨_, _, e, _⟩ := hS
    simp at e
    exact e.2.1.symm
  clear hS hq hl hE hall
  go_enter Try.func43, Try.ntmps43
  go_wp2_with fail
  rw [show w.alloc (Obj.cells (Array.replicate g (Value.string ByteArray.empty)) 9) = W0 by rw [← hW0]; simp]
  clear hmk hW0
  go_loopw [8, 9, 10, 15] (fun _ _ _ i wq => ∃ k : Nat, k ≤ g ∧ i = .int .i64 k ∧ SAt wq w.heap.size (rowP m root g k) ∧ Below w.heap.size w wq) (fun _ _ _ i _ => g - (intOf i).toNat)
  case atStart => exact ⟨0, Nat.zero_le _, rfl, l0, b0⟩
  case round =>
    obtain ⟨k, hk, rfl, hL, hbel⟩ := hrel
    by_cases hlk : k < g
    · have hki : (k : Int) < (g : Int) := by omega
      have hkq : k / 4 < root.length := by have := H3.out; omega
      have hqn : k / 4 < qn := by rw [← H2.out.2]; exact hkq
      obtain ⟨b, off, rfl, hlt, hcr⟩ := H2.out.1.cells.2.2.2 (k / 4) hqn
      have hcr := (hbel.cell (p := ⟨b, off + k / 4, none⟩) hlt).trans hcr
      have hq1 : ((k : Int) / 4).toNat = k / 4 := by omega
      have hq2 : ((k : Int) % 4).toNat = k % 4 := by omega
      have hqi : (k : Int) / 4 < (qn : Int) := by omega
      have hent := lookV_ent H4.out.1 H4.out.2 k hkq
      obtain ⟨p, hp⟩ : ∃ p, pageV m.slots (lookV m root k) = p := ⟨_, rfl⟩
      have hcall := fun W (hW : Below w.heap.size w W) => page_is (H1.out.below hW) (hent.imp id (Or.imp id (fun ⟨j, a, b, c, _⟩ => ⟨j, a, b, c⟩))) hp
      have HP : Hid ((rowP m root g k).set k p = rowP m root g (k + 1)) := by show _ = _; rw [← hp]; exact rowP_set m root g k
      have hfx := hL.frozen k
      have hcx := hL.cell (j := k) (by rw [rowP_length]; exact hlk)
      have hzr := hL.lt
      obtain ⟨x, hx⟩ : ∃ x, root.getD (k / 4) 0 = x := ⟨_, rfl⟩
      have HX : Hid (lookV m root k = if x = 0 then 0 else (tabOf m.slots x).getD (k % 4) 0) := by show _ = _; unfold lookV; rw [hx]
      have HXe : Hid (rootE m.slots x = true) := by show _ = _; rw [← hx]; exact all_at H4.out.2 hkq
      rw [hx] at hcr
      clear hp hx hent
      by_cases hx0 : x = 0
      · have hxb : (x != 0) = false := by simp [hx0]
        rw [HX.out, if_pos hx0] at hcall
        clear hx0
        go_wp2_with fail
        refine (hcall _ hbel).mono ?_
        rintro e w1 ⟨rfl, b1⟩
        have hL1 := hL.below b1 hzr
        have hfx := hL1.frozen k
        have hcx := hL1.cell (j := k) (by rw [rowP_length]; exact hlk)
        have hb1 := Below.on hbel b1
        clear hcall
        go_wp2_with fail
        go_roundw
        case rel => exact ⟨k + 1, by omega, by go_num, by rw [← HP.out]; exact hL1.set k p, hb1.setCell (Nat.le_refl _) _⟩
        case measure => simp [intOf]; omega
      · have hxb : (x != 0) = true := by simp [hx0]
        have hkd := HXe.out
        rw [rootE_x hx0] at hkd
        rw [HX.out, if_neg hx0] at hcall
        obtain ⟨t, rfl, htl, hk2⟩ := isKd_yes hkd
        have hok := okD_tab (slotsE_all (shapeE_zero H4.out.1).2.1 htl) hk2
        obtain ⟨sb, so, rfl, hsb, tv, _, _, c3, hsl⟩ := H1.out.at t htl
        obtain ⟨tb, tw, tc, rfl, _, htb, htc⟩ := hsl.four hok.1
        have hts : t < sn := by rw [← H5.out]; exact htl
        have hti : (t : Int) < (sn : Int) := by omega
        have ct : wr.cell? ⟨sb, so + t * 3 + 2, none⟩ = some (.slice (some ⟨tb, tw, none⟩) 4 tc) := (hbel.cell (p := ⟨sb, so + t * 3 + 2, none⟩) hsb).trans c3
        have cx := (hbel.cell (p := ⟨tb, tw + k % 4, none⟩) htb).trans (htc (k % 4) (by omega))
        have etab : m.slots[t].2.2 = tabOf m.slots t := by unfold tabOf; simp [List.getD, htl]
        rw [etab] at cx
        obtain ⟨y, hy⟩ : ∃ y, (tabOf m.slots t).getD (k % 4) 0 = y := ⟨_, rfl⟩
        rw [hy] at cx hcall
        have h4 : k % 4 < 4 := by omega
        clear hx0 hkd hk2 hok hsl htc c3 etab hy
        go_wp2_with fail
        refine (hcall _ hbel).mono ?_
        rintro e w1 ⟨rfl, b1⟩
        have hL1 := hL.below b1 hzr
        have hfx := hL1.frozen k
        have hcx := hL1.cell (j := k) (by rw [rowP_length]; exact hlk)
        have hb1 := Below.on hbel b1
        clear hcall
        go_wp2_with fail
        go_roundw
        case rel => exact ⟨k + 1, by omega, by go_num, by rw [← HP.out]; exact hL1.set k p, hb1.setCell (Nat.le_refl _) _⟩
        case measure => simp [intOf]; omega
    · have e4 : k = g := by omega
      subst e4
      go_wp2_with fail
      go_ret
      exact ⟨⟨rfl, by rw [← rowP_end]; exact hL⟩, hbel⟩
theorem allP_length (m : ImgD) (root : List Int) (g : Nat) : (allP m root g).length = g := by simp [allP]
/-- All pages of a Root that fits. -/
theorem allPages_is {lv rv : Value} {m : ImgD} {g : Int} {root : List Int} {w : World} (hS : Slots w lv m.slots) (hq : Sl w rv root) (hE : shapeE m = 0) (hg : guestOK g = true) (hf : rootFit m.slots g root = true) :
    Calls Try.prog 43 #[lv, rv, .int .i64 g] w fun r w' => (∃ v, r = .returned v ∧ Ss w' v (allP m root g.toNat)) ∧ Below w.heap.size w w' := by
  unfold guestOK at hg
  simp only [decide_eq_true_eq] at hg
  unfold rootFit at hf
  simp only [Bool.and_eq_true, decide_eq_true_eq] at hf
  obtain ⟨k, rfl⟩ : ∃ k : Nat, g = k := ⟨g.toNat, by omega⟩
  obtain ⟨sa, sc, rfl⟩ := hS.form
  obtain ⟨qa, qc, rfl⟩ := hq.form
  rw [Int.toNat_natCast]
  exact (allPages_at sa _ sc qa _ qc k m root w hS hq (by omega) hf.1 hE hf.2.1).mono fun _ _ h => ⟨⟨_, h.1.1, h.1.2.ss (allP_length _ _ _) (by unfold maxLen; omega)⟩, h.2⟩

theorem all_bad (gm : Int) (ra : Option Addr) (rn rc : Nat) (sa : Option Addr) (sn sc : Nat) (fa : Option Addr) (fn fc : Nat) (na : Option Addr) (nn nc : Nat) (m : ImgD) (E : Int) (w : World) (h : Img w (.agg #[.int .i64 gm, .slice ra rn rc, .slice sa sn sc, .slice fa fn fc, .slice na nn nc]) m) (hE : checkE m = E) (hne : (E != 0) = true) :
    Calls Try.prog 15 #[.agg #[.int .i64 gm, .slice ra rn rc, .slice sa sn sc, .slice fa fn fc, .slice na nn nc]] w fun r w' => r = .returned (.tuple #[.slice none 0 0, .int .i64 E]) ∧ Below w.heap.size w w' := by
  have b0 : Below w.heap.size w (w.alloc (.cells #[.int .i64 gm, .slice ra rn rc, .slice sa sn sc, .slice fa fn fc, .slice na nn nc] 26)) := (Below.refl _ _).alloc (Nat.le_refl _) _
  have m0 : (w.alloc (.cells #[.int .i64 gm, .slice ra rn rc, .slice sa sn sc, .slice fa fn fc, .slice na nn nc] 26)).heap[w.heap.size]? = some (.cells #[.int .i64 gm, .slice ra rn rc, .slice sa sn sc, .slice fa fn fc, .slice na nn nc] 26) := World.alloc_heap_new _ _
  have z0 : w.heap.size < (w.alloc (.cells #[.int .i64 gm, .slice ra rn rc, .slice sa sn sc, .slice fa fn fc, .slice na nn nc] 26)).heap.size := by simp
  have h1 := tcheck_is (h.below b0) hE
  clear h hE
  go_enter Try.func15, Try.ntmps15
  go_wp2_with fail
  refine h1.mono ?_
  rintro e w1 ⟨rfl, b1⟩
  go_wp2_with fail
  go_ret2
  exact ⟨rfl, Below.on b0 b1⟩
theorem all_at' (gm : Int) (ra : Option Addr) (rn rc : Nat) (sa : Option Addr) (sn sc : Nat) (fa : Option Addr) (fn fc : Nat) (na : Option Addr) (nn nc : Nat) (m : ImgD) (w : World) (h : Img w (.agg #[.int .i64 gm, .slice ra rn rc, .slice sa sn sc, .slice fa fn fc, .slice na nn nc]) m) (hS : Slots w (.slice sa sn sc) m.slots) (hr : Sl w (.slice ra rn rc) m.root) (hgm : m.guest = gm) (hC : checkE m = 0) :
    Calls Try.prog 15 #[.agg #[.int .i64 gm, .slice ra rn rc, .slice sa sn sc, .slice fa fn fc, .slice na nn nc]] w fun r w' => (∃ v, r = .returned (.tuple #[v, .int .i64 0]) ∧ Ss w' v (allP m m.root m.guest.toNat)) ∧ Below w.heap.size w w' := by
  have b0 : Below w.heap.size w (w.alloc (.cells #[.int .i64 gm, .slice ra rn rc, .slice sa sn sc, .slice fa fn fc, .slice na nn nc] 26)) := (Below.refl _ _).alloc (Nat.le_refl _) _
  have m0 : (w.alloc (.cells #[.int .i64 gm, .slice ra rn rc, .slice sa sn sc, .slice fa fn fc, .slice na nn nc] 26)).heap[w.heap.size]? = some (.cells #[.int .i64 gm, .slice ra rn rc, .slice sa sn sc, .slice fa fn fc, .slice na nn nc] 26) := World.alloc_heap_new _ _
  have z0 : w.heap.size < (w.alloc (.cells #[.int .i64 gm, .slice ra rn rc, .slice sa sn sc, .slice fa fn fc, .slice na nn nc] 26)).heap.size := by simp
  have h1 := tcheck_is (h.below b0) hC
  have hE := checkE_shape hC
  have z5 := List.all_eq_true.1 (shapeE_zero hE).2.2.2.2.1 (⟨#[]⟩, m.guest, m.root) List.mem_cons_self
  have z7 := List.all_eq_true.1 (shapeE_zero hE).2.2.2.2.2.2 (⟨#[]⟩, m.guest, m.root) List.mem_cons_self
  dsimp only at z5 z7
  have h2 := fun W (hW : Below w.heap.size w W) => allPages_is (hS.below hW) (hr.below hW) hE z5 z7
  rw [hgm] at h2 ⊢
  clear h hE z5 z7 hS hr hC
  go_enter Try.func15, Try.ntmps15
  go_wp2_with fail
  refine h1.mono ?_
  rintro e w1 ⟨rfl, b1⟩
  have m1 := cells_below m0 b1 z0
  have hB1 := Below.on b0 b1
  obtain ⟨a0, a1, a2, a3, a4⟩ := five m1
  clear h1
  go_wp2_with fail
  refine (h2 _ hB1).mono ?_
  rintro e w2 ⟨⟨v, rfl, hv⟩, b2⟩
  go_wp2_with fail
  go_ret2
  exact ⟨⟨v, rfl, hv⟩, Below.on hB1 b2⟩
theorem all_is {w : World} {v : Value} {m : ImgD} (h : Img w v m) {E : Int} {l : List ByteArray} (hE : checkE m = E) (hl : allV m = l) :
    Calls Try.prog 15 #[v] w fun r w' => (∃ v, r = .returned (.tuple #[v, .int .i64 E]) ∧ Ss w' v l) ∧ Below w.heap.size w w' := by
  have h' := h
  obtain ⟨ra, rc, sa, sc, fa, fc, na, nc, rfl, h1, h2, h3, h4⟩ := h.parts
  unfold allV at hl
  by_cases h0 : checkE m = 0
  · rw [if_pos h0] at hl
    rw [h0] at hE
    subst hE hl
    exact all_at' m.guest ra _ rc sa _ sc fa _ fc na _ nc m w h' h2 h1 rfl h0
  · rw [if_neg h0] at hl
    subst hl
    exact (all_bad m.guest ra _ rc sa _ sc fa _ fc na _ nc m E w h' hE (by rw [← hE]; simpa using h0)).mono fun _ w' h => ⟨⟨_, h.1, Ss.nil w'⟩, h.2⟩
end Go.Proofs.Ytehleeibgkpjmad
/- Contracts of slices.IndexFunc over snapshots, and of Past. -/
namespace Go.Proofs.Ytehleeibgkpjmad
open Go.RowKit Go.Shelf
end Go.Proofs.Ytehleeibgkpjmad
/- Contract of readsBegun: it answers true. -/
namespace Go.Proofs.Ytehleeibgkpjmad
open Go.RowKit Go.Shelf
end Go.Proofs.Ytehleeibgkpjmad
/- Contracts of the document's pageOf, ReadOf, AllOf, snapAt, PastOf. -/
namespace Go.Proofs.Ytehleeibgkpjmad
open Go.RowKit Go.Shelf
end Go.Proofs.Ytehleeibgkpjmad
/- Contract of the document's PastOf. -/
namespace Go.Proofs.Ytehleeibgkpjmad
open Go.RowKit Go.Shelf
end Go.Proofs.Ytehleeibgkpjmad
/- Contracts of checkAt, firstPages, Read, Write and Resize. -/
namespace Go.Proofs.Ytehleeibgkpjmad
open Go.RowKit
end Go.Proofs.Ytehleeibgkpjmad
/- Contracts of Split and of the document's SplitOf: the same pages. -/
namespace Go.Proofs.Ytehleeibgkpjmad
open Go.RowKit
set_option maxRecDepth 20000

/-- What is answered: pages, an error; new memory. -/
def AnsS (w : World) (xs : List ByteArray) (err : Int) (r : Ending) (w' : World) : Prop :=
  ∃ v', r = .returned (.tuple #[v', .int .i64 err]) ∧ Ss w' v' xs ∧ Below w.heap.size w w'
theorem AnsS.bad (w : World) {xs : List ByteArray} {err : Int} (hx : xs = []) : AnsS w xs err (.returned (.tuple #[.slice none 0 0, .int .i64 err])) w :=
  ⟨_, rfl, hx ▸ Ss.nil w, Below.refl _ _⟩

end Go.Proofs.Ytehleeibgkpjmad
/- Contracts of checkAt, Read, Write, Resize, and of the document's FlatRead, FlatWrite, FlatResize. -/
namespace Go.Proofs.Ytehleeibgkpjmad
open Go.RowKit
end Go.Proofs.Ytehleeibgkpjmad
/- The walks of ReadsTells and ReadsTrue. -/
namespace Go.Proofs.Ytehleeibgkpjmad
open Go.RowKit Go.Shelf
/-! ### ReadsTrue -/
end Go.Proofs.Ytehleeibgkpjmad
/- The walk of WritesOrder. -/
namespace Go.Proofs.Ytehleeibgkpjmad
open Go.RowKit Go.Shelf
set_option maxRecDepth 20000
set_option linter.unusedVariables false

theorem order_err {m : ImgD} {n k : Int} {one two : ByteArray} (hne : n ≠ k) (h1 : wrE m n one = 0) (h2 : wrE m k two = 0) :
    ∃ E, wrE (wrM m n one) k two = E ∧ wrE (wrM m k two) n one = E ∧ (E = 0 ∨ E = 7) ∧ (E = 0 → checkE (wrM (wrM m n one) k two) = 0 ∧ checkE (wrM (wrM m k two) n one) = 0 ∧ usedN (wrM (wrM m n one) k two).slots = usedN (wrM (wrM m k two) n one).slots ∧ allV (wrM (wrM m n one) k two) = allV (wrM (wrM m k two) n one)) := by
  obtain ⟨l1, p1, w1, r1⟩ := wr_ok h1
  obtain ⟨l2, p2, w2, r2⟩ := wr_ok h2
  obtain ⟨hC, n0, hn⟩ := lookE_prt l1
  obtain ⟨_, k0, hk⟩ := lookE_prt l2
  obtain ⟨i, rfl⟩ := Int.eq_ofNat_of_zero_le n0
  obtain ⟨j, rfl⟩ := Int.eq_ofNat_of_zero_le k0
  rw [Int.toNat_natCast] at w1 w2 r1 r2
  obtain ⟨hiff, hall⟩ := order_is hC hn hk (fun e => hne (by rw [e])) p1 p2 w1 w2
  have a1 : lookE (wrM m i one) (j : Int) = 0 := lookE_of r1.right (by rw [r1.guest]; exact hk)
  have a2 : lookE (wrM m j two) (i : Int) = 0 := lookE_of r2.right (by rw [r2.guest]; exact hn)
  have e1 : wrE (wrM m i one) j two = errO (writeD (wrM m i one) j two) := by
    conv => lhs; unfold wrE
    rw [if_neg (by rw [a1]; simp), if_pos p2, Int.toNat_natCast]
  have e2 : wrE (wrM m j two) i one = errO (writeD (wrM m j two) i one) := by
    conv => lhs; unfold wrE
    rw [if_neg (by rw [a2]; simp), if_pos p1, Int.toNat_natCast]
  cases hx : writeD (wrM m i one) j two with
  | none =>
    have hy := hiff.1 hx
    rw [hx] at e1
    rw [hy] at e2
    exact ⟨7, e1, e2, .inr rfl, fun x => by cases x⟩
  | some X =>
    cases hy : writeD (wrM m j two) i one with
    | none => rw [hiff.2 hy] at hx; cases hx
    | some Y =>
      rw [hx] at e1
      rw [hy] at e2
      have e1 : wrE (wrM m i one) j two = 0 := e1
      have e2 : wrE (wrM m j two) i one = 0 := e2
      obtain ⟨_, _, x1, x2⟩ := wr_ok e1
      obtain ⟨_, _, y1, y2⟩ := wr_ok e2
      rw [Int.toNat_natCast] at x1 y1
      have := hall _ _ x1 y1
      exact ⟨0, e1, e2, .inl rfl, fun _ => ⟨x2.right, y2.right, this.1, this.2⟩⟩

set_option maxHeartbeats 16000000 in
theorem word_same (ra : Option Addr) (rc : Nat) (sa : Option Addr) (sc : Nat) (fa : Option Addr) (fc : Nat) (na : Option Addr) (nc : Nat) (m : ImgD) (n : Int) (one : ByteArray) (k : Int) (two : ByteArray) (w : World) (h : Img w (.agg #[.int .i64 m.guest, .slice ra m.root.length rc, .slice sa m.slots.length sc, .slice fa m.refs.length fc, .slice na m.snaps.length nc]) m) (MA MB : ImgD) (EA EB : Int) (HA : Hid (wrM m n one = MA ∧ wrE m n one = EA)) (HB : Hid (wrM m k two = MB ∧ wrE m k two = EB)) (hnk : (n == k) = true) :
    Calls Try.prog 7 #[.agg #[.int .i64 m.guest, .slice ra m.root.length rc, .slice sa m.slots.length sc, .slice fa m.refs.length fc, .slice na m.snaps.length nc], .int .i64 n, .string one, .int .i64 k, .string two] w fun r w' => r = .returned (.bool true) ∧ Below w.heap.size w w' := by
  have hB : Below w.heap.size w (w.alloc (.cells #[.int .i64 m.guest, .slice ra m.root.length rc, .slice sa m.slots.length sc, .slice fa m.refs.length fc, .slice na m.snaps.length nc] 26)) := (Below.refl _ _).alloc (Nat.le_refl _) _
  have mb_m : (w.alloc (.cells #[.int .i64 m.guest, .slice ra m.root.length rc, .slice sa m.slots.length sc, .slice fa m.refs.length fc, .slice na m.snaps.length nc] 26)).heap[w.heap.size]? = some (.cells #[.int .i64 m.guest, .slice ra m.root.length rc, .slice sa m.slots.length sc, .slice fa m.refs.length fc, .slice na m.snaps.length nc] 26) := World.alloc_heap_new _ _
  have I_m := h.below hB
  clear h
  go_enter Try.func7, Try.ntmps7
  obtain ⟨m0, m1, m2, m3, m4⟩ := five mb_m
  have hh_mb_m := Hid_mkW mb_m
  have hh_I_m := Hid_mkW I_m
  have hh_hB := Hid_mkW hB
  clear mb_m I_m hB
  go_wp2_with fail
  clear m0 m1 m2 m3 m4
  have mb_m := hh_mb_m.out
  have I_m := hh_I_m.out
  have hB := hh_hB.out
  clear hh_mb_m hh_I_m hh_hB
  refine (write_to I_m n one HA.out.1 HA.out.2).mono ?_
  intro e w1 hA
  obtain ⟨val, a_r, a_rc, a_s, a_sc, a_f, a_fc, a_n, a_nc, rfl, hO, bb, hI⟩ := hA.open
  dsimp only
  have I_a := hO.img
  rw [hI] at I_a
  clear hA hO hI
  replace mb_m := cells_below mb_m bb (Array.getElem?_eq_some_iff.1 mb_m).1
  replace hB := Below.on hB bb
  replace I_m := I_m.below bb
  clear bb
  replace mb_m := cells_alloc mb_m (.cells #[.int .i64 MA.guest, .slice a_r MA.root.length a_rc, .slice a_s MA.slots.length a_sc, .slice a_f MA.refs.length a_fc, .slice a_n MA.snaps.length a_nc] 26)
  have ba : Below w1.heap.size w1 (w1.alloc (.cells #[.int .i64 MA.guest, .slice a_r MA.root.length a_rc, .slice a_s MA.slots.length a_sc, .slice a_f MA.refs.length a_fc, .slice a_n MA.snaps.length a_nc] 26)) := (Below.refl _ _).alloc (Nat.le_refl _) _
  replace hB := Below.on hB ba
  replace I_m := I_m.below ba
  replace I_a := I_a.below ba
  clear ba
  have mb_a : (w1.alloc (.cells #[.int .i64 MA.guest, .slice a_r MA.root.length a_rc, .slice a_s MA.slots.length a_sc, .slice a_f MA.refs.length a_fc, .slice a_n MA.snaps.length a_nc] 26)).heap[w1.heap.size]? = some (.cells #[.int .i64 MA.guest, .slice a_r MA.root.length a_rc, .slice a_s MA.slots.length a_sc, .slice a_f MA.refs.length a_fc, .slice a_n MA.snaps.length a_nc] 26) := World.alloc_heap_new _ _
  obtain ⟨m0, m1, m2, m3, m4⟩ := five mb_m
  have hh_mb_m := Hid_mkW mb_m
  have hh_mb_a := Hid_mkW mb_a
  have hh_I_m := Hid_mkW I_m
  have hh_I_a := Hid_mkW I_a
  have hh_hB := Hid_mkW hB
  clear mb_m mb_a I_m I_a hB
  go_wp2_with fail
  clear m0 m1 m2 m3 m4
  have mb_m := hh_mb_m.out
  have mb_a := hh_mb_a.out
  have I_m := hh_I_m.out
  have I_a := hh_I_a.out
  have hB := hh_hB.out
  clear hh_mb_m hh_mb_a hh_I_m hh_I_a hh_hB
  refine (write_to I_m k two HB.out.1 HB.out.2).mono ?_
  intro e w2 hA
  obtain ⟨val, b_r, b_rc, b_s, b_sc, b_f, b_fc, b_n, b_nc, rfl, hO, bb, hI⟩ := hA.open
  dsimp only
  have I_b := hO.img
  rw [hI] at I_b
  clear hA hO hI
  replace mb_m := cells_below mb_m bb (Array.getElem?_eq_some_iff.1 mb_m).1
  replace mb_a := cells_below mb_a bb (Array.getElem?_eq_some_iff.1 mb_a).1
  replace hB := Below.on hB bb
  replace I_m := I_m.below bb
  replace I_a := I_a.below bb
  clear bb
  replace mb_m := cells_alloc mb_m (.cells #[.int .i64 MB.guest, .slice b_r MB.root.length b_rc, .slice b_s MB.slots.length b_sc, .slice b_f MB.refs.length b_fc, .slice b_n MB.snaps.length b_nc] 26)
  replace mb_a := cells_alloc mb_a (.cells #[.int .i64 MB.guest, .slice b_r MB.root.length b_rc, .slice b_s MB.slots.length b_sc, .slice b_f MB.refs.length b_fc, .slice b_n MB.snaps.length b_nc] 26)
  have ba : Below w2.heap.size w2 (w2.alloc (.cells #[.int .i64 MB.guest, .slice b_r MB.root.length b_rc, .slice b_s MB.slots.length b_sc, .slice b_f MB.refs.length b_fc, .slice b_n MB.snaps.length b_nc] 26)) := (Below.refl _ _).alloc (Nat.le_refl _) _
  replace hB := Below.on hB ba
  replace I_m := I_m.below ba
  replace I_a := I_a.below ba
  replace I_b := I_b.below ba
  clear ba
  have mb_b : (w2.alloc (.cells #[.int .i64 MB.guest, .slice b_r MB.root.length b_rc, .slice b_s MB.slots.length b_sc, .slice b_f MB.refs.length b_fc, .slice b_n MB.snaps.length b_nc] 26)).heap[w2.heap.size]? = some (.cells #[.int .i64 MB.guest, .slice b_r MB.root.length b_rc, .slice b_s MB.slots.length b_sc, .slice b_f MB.refs.length b_fc, .slice b_n MB.snaps.length b_nc] 26) := World.alloc_heap_new _ _
  clear mb_m
  clear I_m
  clear mb_a
  clear I_a
  clear mb_b
  clear I_b
  have hh_hB := Hid_mkW hB
  clear hB
  go_wp2_with fail
  have hB := hh_hB.out
  clear hh_hB
  refine (writesBegun_any _).mono ?_
  rintro e w3 ⟨rfl, bb⟩
  replace hB := Below.on hB bb
  clear bb
  have hh_hB := Hid_mkW hB
  clear hB
  go_wp2_with fail
  go_ret
  have hB := hh_hB.out
  exact ⟨rfl, hB⟩

set_option maxHeartbeats 16000000 in
theorem word_a (ra : Option Addr) (rc : Nat) (sa : Option Addr) (sc : Nat) (fa : Option Addr) (fc : Nat) (na : Option Addr) (nc : Nat) (m : ImgD) (n : Int) (one : ByteArray) (k : Int) (two : ByteArray) (w : World) (h : Img w (.agg #[.int .i64 m.guest, .slice ra m.root.length rc, .slice sa m.slots.length sc, .slice fa m.refs.length fc, .slice na m.snaps.length nc]) m) (MA MB : ImgD) (EA EB : Int) (HA : Hid (wrM m n one = MA ∧ wrE m n one = EA)) (HB : Hid (wrM m k two = MB ∧ wrE m k two = EB)) (hnk : (n == k) = false) (ha : (EA != 0) = true) :
    Calls Try.prog 7 #[.agg #[.int .i64 m.guest, .slice ra m.root.length rc, .slice sa m.slots.length sc, .slice fa m.refs.length fc, .slice na m.snaps.length nc], .int .i64 n, .string one, .int .i64 k, .string two] w fun r w' => r = .returned (.bool true) ∧ Below w.heap.size w w' := by
  have hB : Below w.heap.size w (w.alloc (.cells #[.int .i64 m.guest, .slice ra m.root.length rc, .slice sa m.slots.length sc, .slice fa m.refs.length fc, .slice na m.snaps.length nc] 26)) := (Below.refl _ _).alloc (Nat.le_refl _) _
  have mb_m : (w.alloc (.cells #[.int .i64 m.guest, .slice ra m.root.length rc, .slice sa m.slots.length sc, .slice fa m.refs.length fc, .slice na m.snaps.length nc] 26)).heap[w.heap.size]? = some (.cells #[.int .i64 m.guest, .slice ra m.root.length rc, .slice sa m.slots.length sc, .slice fa m.refs.length fc, .slice na m.snaps.length nc] 26) := World.alloc_heap_new _ _
  have I_m := h.below hB
  clear h
  go_enter Try.func7, Try.ntmps7
  obtain ⟨m0, m1, m2, m3, m4⟩ := five mb_m
  have hh_mb_m := Hid_mkW mb_m
  have hh_I_m := Hid_mkW I_m
  have hh_hB := Hid_mkW hB
  clear mb_m I_m hB
  go_wp2_with fail
  clear m0 m1 m2 m3 m4
  have mb_m := hh_mb_m.out
  have I_m := hh_I_m.out
  have hB := hh_hB.out
  clear hh_mb_m hh_I_m hh_hB
  refine (write_to I_m n one HA.out.1 HA.out.2).mono ?_
  intro e w1 hA
  obtain ⟨val, a_r, a_rc, a_s, a_sc, a_f, a_fc, a_n, a_nc, rfl, hO, bb, hI⟩ := hA.open
  dsimp only
  have I_a := hO.img
  rw [hI] at I_a
  clear hA hO hI
  replace mb_m := cells_below mb_m bb (Array.getElem?_eq_some_iff.1 mb_m).1
  replace hB := Below.on hB bb
  replace I_m := I_m.below bb
  clear bb
  replace mb_m := cells_alloc mb_m (.cells #[.int .i64 MA.guest, .slice a_r MA.root.length a_rc, .slice a_s MA.slots.length a_sc, .slice a_f MA.refs.length a_fc, .slice a_n MA.snaps.length a_nc] 26)
  have ba : Below w1.heap.size w1 (w1.alloc (.cells #[.int .i64 MA.guest, .slice a_r MA.root.length a_rc, .slice a_s MA.slots.length a_sc, .slice a_f MA.refs.length a_fc, .slice a_n MA.snaps.length a_nc] 26)) := (Below.refl _ _).alloc (Nat.le_refl _) _
  replace hB := Below.on hB ba
  replace I_m := I_m.below ba
  replace I_a := I_a.below ba
  clear ba
  have mb_a : (w1.alloc (.cells #[.int .i64 MA.guest, .slice a_r MA.root.length a_rc, .slice a_s MA.slots.length a_sc, .slice a_f MA.refs.length a_fc, .slice a_n MA.snaps.length a_nc] 26)).heap[w1.heap.size]? = some (.cells #[.int .i64 MA.guest, .slice a_r MA.root.length a_rc, .slice a_s MA.slots.length a_sc, .slice a_f MA.refs.length a_fc, .slice a_n MA.snaps.length a_nc] 26) := World.alloc_heap_new _ _
  obtain ⟨m0, m1, m2, m3, m4⟩ := five mb_m
  have hh_mb_m := Hid_mkW mb_m
  have hh_mb_a := Hid_mkW mb_a
  have hh_I_m := Hid_mkW I_m
  have hh_I_a := Hid_mkW I_a
  have hh_hB := Hid_mkW hB
  clear mb_m mb_a I_m I_a hB
  go_wp2_with fail
  clear m0 m1 m2 m3 m4
  have mb_m := hh_mb_m.out
  have mb_a := hh_mb_a.out
  have I_m := hh_I_m.out
  have I_a := hh_I_a.out
  have hB := hh_hB.out
  clear hh_mb_m hh_mb_a hh_I_m hh_I_a hh_hB
  refine (write_to I_m k two HB.out.1 HB.out.2).mono ?_
  intro e w2 hA
  obtain ⟨val, b_r, b_rc, b_s, b_sc, b_f, b_fc, b_n, b_nc, rfl, hO, bb, hI⟩ := hA.open
  dsimp only
  have I_b := hO.img
  rw [hI] at I_b
  clear hA hO hI
  replace mb_m := cells_below mb_m bb (Array.getElem?_eq_some_iff.1 mb_m).1
  replace mb_a := cells_below mb_a bb (Array.getElem?_eq_some_iff.1 mb_a).1
  replace hB := Below.on hB bb
  replace I_m := I_m.below bb
  replace I_a := I_a.below bb
  clear bb
  replace mb_m := cells_alloc mb_m (.cells #[.int .i64 MB.guest, .slice b_r MB.root.length b_rc, .slice b_s MB.slots.length b_sc, .slice b_f MB.refs.length b_fc, .slice b_n MB.snaps.length b_nc] 26)
  replace mb_a := cells_alloc mb_a (.cells #[.int .i64 MB.guest, .slice b_r MB.root.length b_rc, .slice b_s MB.slots.length b_sc, .slice b_f MB.refs.length b_fc, .slice b_n MB.snaps.length b_nc] 26)
  have ba : Below w2.heap.size w2 (w2.alloc (.cells #[.int .i64 MB.guest, .slice b_r MB.root.length b_rc, .slice b_s MB.slots.length b_sc, .slice b_f MB.refs.length b_fc, .slice b_n MB.snaps.length b_nc] 26)) := (Below.refl _ _).alloc (Nat.le_refl _) _
  replace hB := Below.on hB ba
  replace I_m := I_m.below ba
  replace I_a := I_a.below ba
  replace I_b := I_b.below ba
  clear ba
  have mb_b : (w2.alloc (.cells #[.int .i64 MB.guest, .slice b_r MB.root.length b_rc, .slice b_s MB.slots.length b_sc, .slice b_f MB.refs.length b_fc, .slice b_n MB.snaps.length b_nc] 26)).heap[w2.heap.size]? = some (.cells #[.int .i64 MB.guest, .slice b_r MB.root.length b_rc, .slice b_s MB.slots.length b_sc, .slice b_f MB.refs.length b_fc, .slice b_n MB.snaps.length b_nc] 26) := World.alloc_heap_new _ _
  clear mb_m
  clear I_m
  clear mb_a
  clear I_a
  clear mb_b
  clear I_b
  have hh_hB := Hid_mkW hB
  clear hB
  go_wp2_with fail
  have hB := hh_hB.out
  clear hh_hB
  refine (writesBegun_any _).mono ?_
  rintro e w3 ⟨rfl, bb⟩
  replace hB := Below.on hB bb
  clear bb
  have hh_hB := Hid_mkW hB
  clear hB
  go_wp2_with fail
  go_ret
  have hB := hh_hB.out
  exact ⟨rfl, hB⟩

set_option maxHeartbeats 16000000 in
theorem word_b (ra : Option Addr) (rc : Nat) (sa : Option Addr) (sc : Nat) (fa : Option Addr) (fc : Nat) (na : Option Addr) (nc : Nat) (m : ImgD) (n : Int) (one : ByteArray) (k : Int) (two : ByteArray) (w : World) (h : Img w (.agg #[.int .i64 m.guest, .slice ra m.root.length rc, .slice sa m.slots.length sc, .slice fa m.refs.length fc, .slice na m.snaps.length nc]) m) (MA MB : ImgD) (EA EB : Int) (HA : Hid (wrM m n one = MA ∧ wrE m n one = EA)) (HB : Hid (wrM m k two = MB ∧ wrE m k two = EB)) (hnk : (n == k) = false) (ha : (EA != 0) = false) (hb : (EB != 0) = true) :
    Calls Try.prog 7 #[.agg #[.int .i64 m.guest, .slice ra m.root.length rc, .slice sa m.slots.length sc, .slice fa m.refs.length fc, .slice na m.snaps.length nc], .int .i64 n, .string one, .int .i64 k, .string two] w fun r w' => r = .returned (.bool true) ∧ Below w.heap.size w w' := by
  have hB : Below w.heap.size w (w.alloc (.cells #[.int .i64 m.guest, .slice ra m.root.length rc, .slice sa m.slots.length sc, .slice fa m.refs.length fc, .slice na m.snaps.length nc] 26)) := (Below.refl _ _).alloc (Nat.le_refl _) _
  have mb_m : (w.alloc (.cells #[.int .i64 m.guest, .slice ra m.root.length rc, .slice sa m.slots.length sc, .slice fa m.refs.length fc, .slice na m.snaps.length nc] 26)).heap[w.heap.size]? = some (.cells #[.int .i64 m.guest, .slice ra m.root.length rc, .slice sa m.slots.length sc, .slice fa m.refs.length fc, .slice na m.snaps.length nc] 26) := World.alloc_heap_new _ _
  have I_m := h.below hB
  clear h
  go_enter Try.func7, Try.ntmps7
  obtain ⟨m0, m1, m2, m3, m4⟩ := five mb_m
  have hh_mb_m := Hid_mkW mb_m
  have hh_I_m := Hid_mkW I_m
  have hh_hB := Hid_mkW hB
  clear mb_m I_m hB
  go_wp2_with fail
  clear m0 m1 m2 m3 m4
  have mb_m := hh_mb_m.out
  have I_m := hh_I_m.out
  have hB := hh_hB.out
  clear hh_mb_m hh_I_m hh_hB
  refine (write_to I_m n one HA.out.1 HA.out.2).mono ?_
  intro e w1 hA
  obtain ⟨val, a_r, a_rc, a_s, a_sc, a_f, a_fc, a_n, a_nc, rfl, hO, bb, hI⟩ := hA.open
  dsimp only
  have I_a := hO.img
  rw [hI] at I_a
  clear hA hO hI
  replace mb_m := cells_below mb_m bb (Array.getElem?_eq_some_iff.1 mb_m).1
  replace hB := Below.on hB bb
  replace I_m := I_m.below bb
  clear bb
  replace mb_m := cells_alloc mb_m (.cells #[.int .i64 MA.guest, .slice a_r MA.root.length a_rc, .slice a_s MA.slots.length a_sc, .slice a_f MA.refs.length a_fc, .slice a_n MA.snaps.length a_nc] 26)
  have ba : Below w1.heap.size w1 (w1.alloc (.cells #[.int .i64 MA.guest, .slice a_r MA.root.length a_rc, .slice a_s MA.slots.length a_sc, .slice a_f MA.refs.length a_fc, .slice a_n MA.snaps.length a_nc] 26)) := (Below.refl _ _).alloc (Nat.le_refl _) _
  replace hB := Below.on hB ba
  replace I_m := I_m.below ba
  replace I_a := I_a.below ba
  clear ba
  have mb_a : (w1.alloc (.cells #[.int .i64 MA.guest, .slice a_r MA.root.length a_rc, .slice a_s MA.slots.length a_sc, .slice a_f MA.refs.length a_fc, .slice a_n MA.snaps.length a_nc] 26)).heap[w1.heap.size]? = some (.cells #[.int .i64 MA.guest, .slice a_r MA.root.length a_rc, .slice a_s MA.slots.length a_sc, .slice a_f MA.refs.length a_fc, .slice a_n MA.snaps.length a_nc] 26) := World.alloc_heap_new _ _
  obtain ⟨m0, m1, m2, m3, m4⟩ := five mb_m
  have hh_mb_m := Hid_mkW mb_m
  have hh_mb_a := Hid_mkW mb_a
  have hh_I_m := Hid_mkW I_m
  have hh_I_a := Hid_mkW I_a
  have hh_hB := Hid_mkW hB
  clear mb_m mb_a I_m I_a hB
  go_wp2_with fail
  clear m0 m1 m2 m3 m4
  have mb_m := hh_mb_m.out
  have mb_a := hh_mb_a.out
  have I_m := hh_I_m.out
  have I_a := hh_I_a.out
  have hB := hh_hB.out
  clear hh_mb_m hh_mb_a hh_I_m hh_I_a hh_hB
  refine (write_to I_m k two HB.out.1 HB.out.2).mono ?_
  intro e w2 hA
  obtain ⟨val, b_r, b_rc, b_s, b_sc, b_f, b_fc, b_n, b_nc, rfl, hO, bb, hI⟩ := hA.open
  dsimp only
  have I_b := hO.img
  rw [hI] at I_b
  clear hA hO hI
  replace mb_m := cells_below mb_m bb (Array.getElem?_eq_some_iff.1 mb_m).1
  replace mb_a := cells_below mb_a bb (Array.getElem?_eq_some_iff.1 mb_a).1
  replace hB := Below.on hB bb
  replace I_m := I_m.below bb
  replace I_a := I_a.below bb
  clear bb
  replace mb_m := cells_alloc mb_m (.cells #[.int .i64 MB.guest, .slice b_r MB.root.length b_rc, .slice b_s MB.slots.length b_sc, .slice b_f MB.refs.length b_fc, .slice b_n MB.snaps.length b_nc] 26)
  replace mb_a := cells_alloc mb_a (.cells #[.int .i64 MB.guest, .slice b_r MB.root.length b_rc, .slice b_s MB.slots.length b_sc, .slice b_f MB.refs.length b_fc, .slice b_n MB.snaps.length b_nc] 26)
  have ba : Below w2.heap.size w2 (w2.alloc (.cells #[.int .i64 MB.guest, .slice b_r MB.root.length b_rc, .slice b_s MB.slots.length b_sc, .slice b_f MB.refs.length b_fc, .slice b_n MB.snaps.length b_nc] 26)) := (Below.refl _ _).alloc (Nat.le_refl _) _
  replace hB := Below.on hB ba
  replace I_m := I_m.below ba
  replace I_a := I_a.below ba
  replace I_b := I_b.below ba
  clear ba
  have mb_b : (w2.alloc (.cells #[.int .i64 MB.guest, .slice b_r MB.root.length b_rc, .slice b_s MB.slots.length b_sc, .slice b_f MB.refs.length b_fc, .slice b_n MB.snaps.length b_nc] 26)).heap[w2.heap.size]? = some (.cells #[.int .i64 MB.guest, .slice b_r MB.root.length b_rc, .slice b_s MB.slots.length b_sc, .slice b_f MB.refs.length b_fc, .slice b_n MB.snaps.length b_nc] 26) := World.alloc_heap_new _ _
  clear mb_m
  clear I_m
  clear mb_a
  clear I_a
  clear mb_b
  clear I_b
  have hh_hB := Hid_mkW hB
  clear hB
  go_wp2_with fail
  have hB := hh_hB.out
  clear hh_hB
  refine (writesBegun_any _).mono ?_
  rintro e w3 ⟨rfl, bb⟩
  replace hB := Below.on hB bb
  clear bb
  have hh_hB := Hid_mkW hB
  clear hB
  go_wp2_with fail
  go_ret
  have hB := hh_hB.out
  exact ⟨rfl, hB⟩

set_option maxHeartbeats 16000000 in
theorem word_full (ra : Option Addr) (rc : Nat) (sa : Option Addr) (sc : Nat) (fa : Option Addr) (fc : Nat) (na : Option Addr) (nc : Nat) (m : ImgD) (n : Int) (one : ByteArray) (k : Int) (two : ByteArray) (w : World) (h : Img w (.agg #[.int .i64 m.guest, .slice ra m.root.length rc, .slice sa m.slots.length sc, .slice fa m.refs.length fc, .slice na m.snaps.length nc]) m) (MA MB : ImgD) (HA : Hid (wrM m n one = MA ∧ wrE m n one = 0)) (HB : Hid (wrM m k two = MB ∧ wrE m k two = 0)) (hnk : (n == k) = false) (MX MY : ImgD) (HX : Hid (wrM MA k two = MX ∧ wrE MA k two = 7)) (HY : Hid (wrM MB n one = MY ∧ wrE MB n one = 7)) :
    Calls Try.prog 7 #[.agg #[.int .i64 m.guest, .slice ra m.root.length rc, .slice sa m.slots.length sc, .slice fa m.refs.length fc, .slice na m.snaps.length nc], .int .i64 n, .string one, .int .i64 k, .string two] w fun r w' => r = .returned (.bool true) ∧ Below w.heap.size w w' := by
  have hB : Below w.heap.size w (w.alloc (.cells #[.int .i64 m.guest, .slice ra m.root.length rc, .slice sa m.slots.length sc, .slice fa m.refs.length fc, .slice na m.snaps.length nc] 26)) := (Below.refl _ _).alloc (Nat.le_refl _) _
  have mb_m : (w.alloc (.cells #[.int .i64 m.guest, .slice ra m.root.length rc, .slice sa m.slots.length sc, .slice fa m.refs.length fc, .slice na m.snaps.length nc] 26)).heap[w.heap.size]? = some (.cells #[.int .i64 m.guest, .slice ra m.root.length rc, .slice sa m.slots.length sc, .slice fa m.refs.length fc, .slice na m.snaps.length nc] 26) := World.alloc_heap_new _ _
  have I_m := h.below hB
  clear h
  go_enter Try.func7, Try.ntmps7
  obtain ⟨m0, m1, m2, m3, m4⟩ := five mb_m
  have hh_mb_m := Hid_mkW mb_m
  have hh_I_m := Hid_mkW I_m
  have hh_hB := Hid_mkW hB
  clear mb_m I_m hB
  go_wp2_with fail
  clear m0 m1 m2 m3 m4
  have mb_m := hh_mb_m.out
  have I_m := hh_I_m.out
  have hB := hh_hB.out
  clear hh_mb_m hh_I_m hh_hB
  refine (write_to I_m n one HA.out.1 HA.out.2).mono ?_
  intro e w1 hA
  obtain ⟨val, a_r, a_rc, a_s, a_sc, a_f, a_fc, a_n, a_nc, rfl, hO, bb, hI⟩ := hA.open
  dsimp only
  have I_a := hO.img
  rw [hI] at I_a
  clear hA hO hI
  replace mb_m := cells_below mb_m bb (Array.getElem?_eq_some_iff.1 mb_m).1
  replace hB := Below.on hB bb
  replace I_m := I_m.below bb
  clear bb
  replace mb_m := cells_alloc mb_m (.cells #[.int .i64 MA.guest, .slice a_r MA.root.length a_rc, .slice a_s MA.slots.length a_sc, .slice a_f MA.refs.length a_fc, .slice a_n MA.snaps.length a_nc] 26)
  have ba : Below w1.heap.size w1 (w1.alloc (.cells #[.int .i64 MA.guest, .slice a_r MA.root.length a_rc, .slice a_s MA.slots.length a_sc, .slice a_f MA.refs.length a_fc, .slice a_n MA.snaps.length a_nc] 26)) := (Below.refl _ _).alloc (Nat.le_refl _) _
  replace hB := Below.on hB ba
  replace I_m := I_m.below ba
  replace I_a := I_a.below ba
  clear ba
  have mb_a : (w1.alloc (.cells #[.int .i64 MA.guest, .slice a_r MA.root.length a_rc, .slice a_s MA.slots.length a_sc, .slice a_f MA.refs.length a_fc, .slice a_n MA.snaps.length a_nc] 26)).heap[w1.heap.size]? = some (.cells #[.int .i64 MA.guest, .slice a_r MA.root.length a_rc, .slice a_s MA.slots.length a_sc, .slice a_f MA.refs.length a_fc, .slice a_n MA.snaps.length a_nc] 26) := World.alloc_heap_new _ _
  obtain ⟨m0, m1, m2, m3, m4⟩ := five mb_m
  have hh_mb_m := Hid_mkW mb_m
  have hh_mb_a := Hid_mkW mb_a
  have hh_I_m := Hid_mkW I_m
  have hh_I_a := Hid_mkW I_a
  have hh_hB := Hid_mkW hB
  clear mb_m mb_a I_m I_a hB
  go_wp2_with fail
  clear m0 m1 m2 m3 m4
  have mb_m := hh_mb_m.out
  have mb_a := hh_mb_a.out
  have I_m := hh_I_m.out
  have I_a := hh_I_a.out
  have hB := hh_hB.out
  clear hh_mb_m hh_mb_a hh_I_m hh_I_a hh_hB
  refine (write_to I_m k two HB.out.1 HB.out.2).mono ?_
  intro e w2 hA
  obtain ⟨val, b_r, b_rc, b_s, b_sc, b_f, b_fc, b_n, b_nc, rfl, hO, bb, hI⟩ := hA.open
  dsimp only
  have I_b := hO.img
  rw [hI] at I_b
  clear hA hO hI
  replace mb_m := cells_below mb_m bb (Array.getElem?_eq_some_iff.1 mb_m).1
  replace mb_a := cells_below mb_a bb (Array.getElem?_eq_some_iff.1 mb_a).1
  replace hB := Below.on hB bb
  replace I_m := I_m.below bb
  replace I_a := I_a.below bb
  clear bb
  replace mb_m := cells_alloc mb_m (.cells #[.int .i64 MB.guest, .slice b_r MB.root.length b_rc, .slice b_s MB.slots.length b_sc, .slice b_f MB.refs.length b_fc, .slice b_n MB.snaps.length b_nc] 26)
  replace mb_a := cells_alloc mb_a (.cells #[.int .i64 MB.guest, .slice b_r MB.root.length b_rc, .slice b_s MB.slots.length b_sc, .slice b_f MB.refs.length b_fc, .slice b_n MB.snaps.length b_nc] 26)
  have ba : Below w2.heap.size w2 (w2.alloc (.cells #[.int .i64 MB.guest, .slice b_r MB.root.length b_rc, .slice b_s MB.slots.length b_sc, .slice b_f MB.refs.length b_fc, .slice b_n MB.snaps.length b_nc] 26)) := (Below.refl _ _).alloc (Nat.le_refl _) _
  replace hB := Below.on hB ba
  replace I_m := I_m.below ba
  replace I_a := I_a.below ba
  replace I_b := I_b.below ba
  clear ba
  have mb_b : (w2.alloc (.cells #[.int .i64 MB.guest, .slice b_r MB.root.length b_rc, .slice b_s MB.slots.length b_sc, .slice b_f MB.refs.length b_fc, .slice b_n MB.snaps.length b_nc] 26)).heap[w2.heap.size]? = some (.cells #[.int .i64 MB.guest, .slice b_r MB.root.length b_rc, .slice b_s MB.slots.length b_sc, .slice b_f MB.refs.length b_fc, .slice b_n MB.snaps.length b_nc] 26) := World.alloc_heap_new _ _
  clear mb_m
  clear I_m
  obtain ⟨a0, a1, a2, a3, a4⟩ := five mb_a
  have hh_mb_a := Hid_mkW mb_a
  have hh_mb_b := Hid_mkW mb_b
  have hh_I_a := Hid_mkW I_a
  have hh_I_b := Hid_mkW I_b
  have hh_hB := Hid_mkW hB
  clear mb_a mb_b I_a I_b hB
  go_wp2_with fail
  clear a0 a1 a2 a3 a4
  have mb_a := hh_mb_a.out
  have mb_b := hh_mb_b.out
  have I_a := hh_I_a.out
  have I_b := hh_I_b.out
  have hB := hh_hB.out
  clear hh_mb_a hh_mb_b hh_I_a hh_I_b hh_hB
  refine (write_to I_a k two HX.out.1 HX.out.2).mono ?_
  intro e w3 hA
  obtain ⟨val, x_r, x_rc, x_s, x_sc, x_f, x_fc, x_n, x_nc, rfl, hO, bb, hI⟩ := hA.open
  dsimp only
  have I_x := hO.img
  rw [hI] at I_x
  clear hA hO hI
  replace mb_a := cells_below mb_a bb (Array.getElem?_eq_some_iff.1 mb_a).1
  replace mb_b := cells_below mb_b bb (Array.getElem?_eq_some_iff.1 mb_b).1
  replace hB := Below.on hB bb
  replace I_a := I_a.below bb
  replace I_b := I_b.below bb
  clear bb
  replace mb_a := cells_alloc mb_a (.cells #[.int .i64 MX.guest, .slice x_r MX.root.length x_rc, .slice x_s MX.slots.length x_sc, .slice x_f MX.refs.length x_fc, .slice x_n MX.snaps.length x_nc] 26)
  replace mb_b := cells_alloc mb_b (.cells #[.int .i64 MX.guest, .slice x_r MX.root.length x_rc, .slice x_s MX.slots.length x_sc, .slice x_f MX.refs.length x_fc, .slice x_n MX.snaps.length x_nc] 26)
  have ba : Below w3.heap.size w3 (w3.alloc (.cells #[.int .i64 MX.guest, .slice x_r MX.root.length x_rc, .slice x_s MX.slots.length x_sc, .slice x_f MX.refs.length x_fc, .slice x_n MX.snaps.length x_nc] 26)) := (Below.refl _ _).alloc (Nat.le_refl _) _
  replace hB := Below.on hB ba
  replace I_a := I_a.below ba
  replace I_b := I_b.below ba
  replace I_x := I_x.below ba
  clear ba
  have mb_x : (w3.alloc (.cells #[.int .i64 MX.guest, .slice x_r MX.root.length x_rc, .slice x_s MX.slots.length x_sc, .slice x_f MX.refs.length x_fc, .slice x_n MX.snaps.length x_nc] 26)).heap[w3.heap.size]? = some (.cells #[.int .i64 MX.guest, .slice x_r MX.root.length x_rc, .slice x_s MX.slots.length x_sc, .slice x_f MX.refs.length x_fc, .slice x_n MX.snaps.length x_nc] 26) := World.alloc_heap_new _ _
  obtain ⟨b0, b1, b2, b3, b4⟩ := five mb_b
  have hh_mb_a := Hid_mkW mb_a
  have hh_mb_b := Hid_mkW mb_b
  have hh_mb_x := Hid_mkW mb_x
  have hh_I_a := Hid_mkW I_a
  have hh_I_b := Hid_mkW I_b
  have hh_I_x := Hid_mkW I_x
  have hh_hB := Hid_mkW hB
  clear mb_a mb_b mb_x I_a I_b I_x hB
  go_wp2_with fail
  clear b0 b1 b2 b3 b4
  have mb_a := hh_mb_a.out
  have mb_b := hh_mb_b.out
  have mb_x := hh_mb_x.out
  have I_a := hh_I_a.out
  have I_b := hh_I_b.out
  have I_x := hh_I_x.out
  have hB := hh_hB.out
  clear hh_mb_a hh_mb_b hh_mb_x hh_I_a hh_I_b hh_I_x hh_hB
  refine (write_to I_b n one HY.out.1 HY.out.2).mono ?_
  intro e w4 hA
  obtain ⟨val, y_r, y_rc, y_s, y_sc, y_f, y_fc, y_n, y_nc, rfl, hO, bb, hI⟩ := hA.open
  dsimp only
  have I_y := hO.img
  rw [hI] at I_y
  clear hA hO hI
  replace mb_a := cells_below mb_a bb (Array.getElem?_eq_some_iff.1 mb_a).1
  replace mb_b := cells_below mb_b bb (Array.getElem?_eq_some_iff.1 mb_b).1
  replace mb_x := cells_below mb_x bb (Array.getElem?_eq_some_iff.1 mb_x).1
  replace hB := Below.on hB bb
  replace I_a := I_a.below bb
  replace I_b := I_b.below bb
  replace I_x := I_x.below bb
  clear bb
  replace mb_a := cells_alloc mb_a (.cells #[.int .i64 MY.guest, .slice y_r MY.root.length y_rc, .slice y_s MY.slots.length y_sc, .slice y_f MY.refs.length y_fc, .slice y_n MY.snaps.length y_nc] 26)
  replace mb_b := cells_alloc mb_b (.cells #[.int .i64 MY.guest, .slice y_r MY.root.length y_rc, .slice y_s MY.slots.length y_sc, .slice y_f MY.refs.length y_fc, .slice y_n MY.snaps.length y_nc] 26)
  replace mb_x := cells_alloc mb_x (.cells #[.int .i64 MY.guest, .slice y_r MY.root.length y_rc, .slice y_s MY.slots.length y_sc, .slice y_f MY.refs.length y_fc, .slice y_n MY.snaps.length y_nc] 26)
  have ba : Below w4.heap.size w4 (w4.alloc (.cells #[.int .i64 MY.guest, .slice y_r MY.root.length y_rc, .slice y_s MY.slots.length y_sc, .slice y_f MY.refs.length y_fc, .slice y_n MY.snaps.length y_nc] 26)) := (Below.refl _ _).alloc (Nat.le_refl _) _
  replace hB := Below.on hB ba
  replace I_a := I_a.below ba
  replace I_b := I_b.below ba
  replace I_x := I_x.below ba
  replace I_y := I_y.below ba
  clear ba
  have mb_y : (w4.alloc (.cells #[.int .i64 MY.guest, .slice y_r MY.root.length y_rc, .slice y_s MY.slots.length y_sc, .slice y_f MY.refs.length y_fc, .slice y_n MY.snaps.length y_nc] 26)).heap[w4.heap.size]? = some (.cells #[.int .i64 MY.guest, .slice y_r MY.root.length y_rc, .slice y_s MY.slots.length y_sc, .slice y_f MY.refs.length y_fc, .slice y_n MY.snaps.length y_nc] 26) := World.alloc_heap_new _ _
  clear mb_a
  clear I_a
  clear mb_b
  clear I_b
  clear mb_x
  clear I_x
  clear mb_y
  clear I_y
  have hh_hB := Hid_mkW hB
  clear hB
  go_wp2_with fail
  have hB := hh_hB.out
  clear hh_hB
  refine (writesBegun_any _).mono ?_
  rintro e w5 ⟨rfl, bb⟩
  replace hB := Below.on hB bb
  clear bb
  have hh_hB := Hid_mkW hB
  clear hB
  go_wp2_with fail
  go_ret
  have hB := hh_hB.out
  exact ⟨rfl, hB⟩

set_option maxHeartbeats 16000000 in
theorem word_ok (ra : Option Addr) (rc : Nat) (sa : Option Addr) (sc : Nat) (fa : Option Addr) (fc : Nat) (na : Option Addr) (nc : Nat) (m : ImgD) (n : Int) (one : ByteArray) (k : Int) (two : ByteArray) (w : World) (h : Img w (.agg #[.int .i64 m.guest, .slice ra m.root.length rc, .slice sa m.slots.length sc, .slice fa m.refs.length fc, .slice na m.snaps.length nc]) m) (MA MB : ImgD) (HA : Hid (wrM m n one = MA ∧ wrE m n one = 0)) (HB : Hid (wrM m k two = MB ∧ wrE m k two = 0)) (hnk : (n == k) = false) (MX MY : ImgD) (HX : Hid (wrM MA k two = MX ∧ wrE MA k two = 0)) (HY : Hid (wrM MB n one = MY ∧ wrE MB n one = 0)) (u : Nat) (V : List ByteArray) (HU : Hid (slotsE MX.slots = 0 ∧ usedN MX.slots = u ∧ slotsE MY.slots = 0 ∧ usedN MY.slots = u)) (HV : Hid (checkE MX = 0 ∧ allV MX = V ∧ checkE MY = 0 ∧ allV MY = V)) :
    Calls Try.prog 7 #[.agg #[.int .i64 m.guest, .slice ra m.root.length rc, .slice sa m.slots.length sc, .slice fa m.refs.length fc, .slice na m.snaps.length nc], .int .i64 n, .string one, .int .i64 k, .string two] w fun r w' => r = .returned (.bool true) ∧ Below w.heap.size w w' := by
  have hB : Below w.heap.size w (w.alloc (.cells #[.int .i64 m.guest, .slice ra m.root.length rc, .slice sa m.slots.length sc, .slice fa m.refs.length fc, .slice na m.snaps.length nc] 26)) := (Below.refl _ _).alloc (Nat.le_refl _) _
  have mb_m : (w.alloc (.cells #[.int .i64 m.guest, .slice ra m.root.length rc, .slice sa m.slots.length sc, .slice fa m.refs.length fc, .slice na m.snaps.length nc] 26)).heap[w.heap.size]? = some (.cells #[.int .i64 m.guest, .slice ra m.root.length rc, .slice sa m.slots.length sc, .slice fa m.refs.length fc, .slice na m.snaps.length nc] 26) := World.alloc_heap_new _ _
  have I_m := h.below hB
  clear h
  go_enter Try.func7, Try.ntmps7
  obtain ⟨m0, m1, m2, m3, m4⟩ := five mb_m
  have hh_mb_m := Hid_mkW mb_m
  have hh_I_m := Hid_mkW I_m
  have hh_hB := Hid_mkW hB
  clear mb_m I_m hB
  go_wp2_with fail
  clear m0 m1 m2 m3 m4
  have mb_m := hh_mb_m.out
  have I_m := hh_I_m.out
  have hB := hh_hB.out
  clear hh_mb_m hh_I_m hh_hB
  refine (write_to I_m n one HA.out.1 HA.out.2).mono ?_
  intro e w1 hA
  obtain ⟨val, a_r, a_rc, a_s, a_sc, a_f, a_fc, a_n, a_nc, rfl, hO, bb, hI⟩ := hA.open
  dsimp only
  have I_a := hO.img
  rw [hI] at I_a
  clear hA hO hI
  replace mb_m := cells_below mb_m bb (Array.getElem?_eq_some_iff.1 mb_m).1
  replace hB := Below.on hB bb
  replace I_m := I_m.below bb
  clear bb
  replace mb_m := cells_alloc mb_m (.cells #[.int .i64 MA.guest, .slice a_r MA.root.length a_rc, .slice a_s MA.slots.length a_sc, .slice a_f MA.refs.length a_fc, .slice a_n MA.snaps.length a_nc] 26)
  have ba : Below w1.heap.size w1 (w1.alloc (.cells #[.int .i64 MA.guest, .slice a_r MA.root.length a_rc, .slice a_s MA.slots.length a_sc, .slice a_f MA.refs.length a_fc, .slice a_n MA.snaps.length a_nc] 26)) := (Below.refl _ _).alloc (Nat.le_refl _) _
  replace hB := Below.on hB ba
  replace I_m := I_m.below ba
  replace I_a := I_a.below ba
  clear ba
  have mb_a : (w1.alloc (.cells #[.int .i64 MA.guest, .slice a_r MA.root.length a_rc, .slice a_s MA.slots.length a_sc, .slice a_f MA.refs.length a_fc, .slice a_n MA.snaps.length a_nc] 26)).heap[w1.heap.size]? = some (.cells #[.int .i64 MA.guest, .slice a_r MA.root.length a_rc, .slice a_s MA.slots.length a_sc, .slice a_f MA.refs.length a_fc, .slice a_n MA.snaps.length a_nc] 26) := World.alloc_heap_new _ _
  obtain ⟨m0, m1, m2, m3, m4⟩ := five mb_m
  have hh_mb_m := Hid_mkW mb_m
  have hh_mb_a := Hid_mkW mb_a
  have hh_I_m := Hid_mkW I_m
  have hh_I_a := Hid_mkW I_a
  have hh_hB := Hid_mkW hB
  clear mb_m mb_a I_m I_a hB
  go_wp2_with fail
  clear m0 m1 m2 m3 m4
  have mb_m := hh_mb_m.out
  have mb_a := hh_mb_a.out
  have I_m := hh_I_m.out
  have I_a := hh_I_a.out
  have hB := hh_hB.out
  clear hh_mb_m hh_mb_a hh_I_m hh_I_a hh_hB
  refine (write_to I_m k two HB.out.1 HB.out.2).mono ?_
  intro e w2 hA
  obtain ⟨val, b_r, b_rc, b_s, b_sc, b_f, b_fc, b_n, b_nc, rfl, hO, bb, hI⟩ := hA.open
  dsimp only
  have I_b := hO.img
  rw [hI] at I_b
  clear hA hO hI
  replace mb_m := cells_below mb_m bb (Array.getElem?_eq_some_iff.1 mb_m).1
  replace mb_a := cells_below mb_a bb (Array.getElem?_eq_some_iff.1 mb_a).1
  replace hB := Below.on hB bb
  replace I_m := I_m.below bb
  replace I_a := I_a.below bb
  clear bb
  replace mb_m := cells_alloc mb_m (.cells #[.int .i64 MB.guest, .slice b_r MB.root.length b_rc, .slice b_s MB.slots.length b_sc, .slice b_f MB.refs.length b_fc, .slice b_n MB.snaps.length b_nc] 26)
  replace mb_a := cells_alloc mb_a (.cells #[.int .i64 MB.guest, .slice b_r MB.root.length b_rc, .slice b_s MB.slots.length b_sc, .slice b_f MB.refs.length b_fc, .slice b_n MB.snaps.length b_nc] 26)
  have ba : Below w2.heap.size w2 (w2.alloc (.cells #[.int .i64 MB.guest, .slice b_r MB.root.length b_rc, .slice b_s MB.slots.length b_sc, .slice b_f MB.refs.length b_fc, .slice b_n MB.snaps.length b_nc] 26)) := (Below.refl _ _).alloc (Nat.le_refl _) _
  replace hB := Below.on hB ba
  replace I_m := I_m.below ba
  replace I_a := I_a.below ba
  replace I_b := I_b.below ba
  clear ba
  have mb_b : (w2.alloc (.cells #[.int .i64 MB.guest, .slice b_r MB.root.length b_rc, .slice b_s MB.slots.length b_sc, .slice b_f MB.refs.length b_fc, .slice b_n MB.snaps.length b_nc] 26)).heap[w2.heap.size]? = some (.cells #[.int .i64 MB.guest, .slice b_r MB.root.length b_rc, .slice b_s MB.slots.length b_sc, .slice b_f MB.refs.length b_fc, .slice b_n MB.snaps.length b_nc] 26) := World.alloc_heap_new _ _
  clear mb_m
  clear I_m
  obtain ⟨a0, a1, a2, a3, a4⟩ := five mb_a
  have hh_mb_a := Hid_mkW mb_a
  have hh_mb_b := Hid_mkW mb_b
  have hh_I_a := Hid_mkW I_a
  have hh_I_b := Hid_mkW I_b
  have hh_hB := Hid_mkW hB
  clear mb_a mb_b I_a I_b hB
  go_wp2_with fail
  clear a0 a1 a2 a3 a4
  have mb_a := hh_mb_a.out
  have mb_b := hh_mb_b.out
  have I_a := hh_I_a.out
  have I_b := hh_I_b.out
  have hB := hh_hB.out
  clear hh_mb_a hh_mb_b hh_I_a hh_I_b hh_hB
  refine (write_to I_a k two HX.out.1 HX.out.2).mono ?_
  intro e w3 hA
  obtain ⟨val, x_r, x_rc, x_s, x_sc, x_f, x_fc, x_n, x_nc, rfl, hO, bb, hI⟩ := hA.open
  dsimp only
  have I_x := hO.img
  rw [hI] at I_x
  clear hA hO hI
  replace mb_a := cells_below mb_a bb (Array.getElem?_eq_some_iff.1 mb_a).1
  replace mb_b := cells_below mb_b bb (Array.getElem?_eq_some_iff.1 mb_b).1
  replace hB := Below.on hB bb
  replace I_a := I_a.below bb
  replace I_b := I_b.below bb
  clear bb
  replace mb_a := cells_alloc mb_a (.cells #[.int .i64 MX.guest, .slice x_r MX.root.length x_rc, .slice x_s MX.slots.length x_sc, .slice x_f MX.refs.length x_fc, .slice x_n MX.snaps.length x_nc] 26)
  replace mb_b := cells_alloc mb_b (.cells #[.int .i64 MX.guest, .slice x_r MX.root.length x_rc, .slice x_s MX.slots.length x_sc, .slice x_f MX.refs.length x_fc, .slice x_n MX.snaps.length x_nc] 26)
  have ba : Below w3.heap.size w3 (w3.alloc (.cells #[.int .i64 MX.guest, .slice x_r MX.root.length x_rc, .slice x_s MX.slots.length x_sc, .slice x_f MX.refs.length x_fc, .slice x_n MX.snaps.length x_nc] 26)) := (Below.refl _ _).alloc (Nat.le_refl _) _
  replace hB := Below.on hB ba
  replace I_a := I_a.below ba
  replace I_b := I_b.below ba
  replace I_x := I_x.below ba
  clear ba
  have mb_x : (w3.alloc (.cells #[.int .i64 MX.guest, .slice x_r MX.root.length x_rc, .slice x_s MX.slots.length x_sc, .slice x_f MX.refs.length x_fc, .slice x_n MX.snaps.length x_nc] 26)).heap[w3.heap.size]? = some (.cells #[.int .i64 MX.guest, .slice x_r MX.root.length x_rc, .slice x_s MX.slots.length x_sc, .slice x_f MX.refs.length x_fc, .slice x_n MX.snaps.length x_nc] 26) := World.alloc_heap_new _ _
  obtain ⟨b0, b1, b2, b3, b4⟩ := five mb_b
  have hh_mb_a := Hid_mkW mb_a
  have hh_mb_b := Hid_mkW mb_b
  have hh_mb_x := Hid_mkW mb_x
  have hh_I_a := Hid_mkW I_a
  have hh_I_b := Hid_mkW I_b
  have hh_I_x := Hid_mkW I_x
  have hh_hB := Hid_mkW hB
  clear mb_a mb_b mb_x I_a I_b I_x hB
  go_wp2_with fail
  clear b0 b1 b2 b3 b4
  have mb_a := hh_mb_a.out
  have mb_b := hh_mb_b.out
  have mb_x := hh_mb_x.out
  have I_a := hh_I_a.out
  have I_b := hh_I_b.out
  have I_x := hh_I_x.out
  have hB := hh_hB.out
  clear hh_mb_a hh_mb_b hh_mb_x hh_I_a hh_I_b hh_I_x hh_hB
  refine (write_to I_b n one HY.out.1 HY.out.2).mono ?_
  intro e w4 hA
  obtain ⟨val, y_r, y_rc, y_s, y_sc, y_f, y_fc, y_n, y_nc, rfl, hO, bb, hI⟩ := hA.open
  dsimp only
  have I_y := hO.img
  rw [hI] at I_y
  clear hA hO hI
  replace mb_a := cells_below mb_a bb (Array.getElem?_eq_some_iff.1 mb_a).1
  replace mb_b := cells_below mb_b bb (Array.getElem?_eq_some_iff.1 mb_b).1
  replace mb_x := cells_below mb_x bb (Array.getElem?_eq_some_iff.1 mb_x).1
  replace hB := Below.on hB bb
  replace I_a := I_a.below bb
  replace I_b := I_b.below bb
  replace I_x := I_x.below bb
  clear bb
  replace mb_a := cells_alloc mb_a (.cells #[.int .i64 MY.guest, .slice y_r MY.root.length y_rc, .slice y_s MY.slots.length y_sc, .slice y_f MY.refs.length y_fc, .slice y_n MY.snaps.length y_nc] 26)
  replace mb_b := cells_alloc mb_b (.cells #[.int .i64 MY.guest, .slice y_r MY.root.length y_rc, .slice y_s MY.slots.length y_sc, .slice y_f MY.refs.length y_fc, .slice y_n MY.snaps.length y_nc] 26)
  replace mb_x := cells_alloc mb_x (.cells #[.int .i64 MY.guest, .slice y_r MY.root.length y_rc, .slice y_s MY.slots.length y_sc, .slice y_f MY.refs.length y_fc, .slice y_n MY.snaps.length y_nc] 26)
  have ba : Below w4.heap.size w4 (w4.alloc (.cells #[.int .i64 MY.guest, .slice y_r MY.root.length y_rc, .slice y_s MY.slots.length y_sc, .slice y_f MY.refs.length y_fc, .slice y_n MY.snaps.length y_nc] 26)) := (Below.refl _ _).alloc (Nat.le_refl _) _
  replace hB := Below.on hB ba
  replace I_a := I_a.below ba
  replace I_b := I_b.below ba
  replace I_x := I_x.below ba
  replace I_y := I_y.below ba
  clear ba
  have mb_y : (w4.alloc (.cells #[.int .i64 MY.guest, .slice y_r MY.root.length y_rc, .slice y_s MY.slots.length y_sc, .slice y_f MY.refs.length y_fc, .slice y_n MY.snaps.length y_nc] 26)).heap[w4.heap.size]? = some (.cells #[.int .i64 MY.guest, .slice y_r MY.root.length y_rc, .slice y_s MY.slots.length y_sc, .slice y_f MY.refs.length y_fc, .slice y_n MY.snaps.length y_nc] 26) := World.alloc_heap_new _ _
  clear mb_a
  clear I_a
  clear mb_b
  clear I_b
  obtain ⟨x0, x1, x2, x3, x4⟩ := five mb_x
  have hh_mb_x := Hid_mkW mb_x
  have hh_mb_y := Hid_mkW mb_y
  have hh_I_x := Hid_mkW I_x
  have hh_I_y := Hid_mkW I_y
  have hh_hB := Hid_mkW hB
  clear mb_x mb_y I_x I_y hB
  go_wp2_with fail
  clear x0 x1 x2 x3 x4
  have mb_x := hh_mb_x.out
  have mb_y := hh_mb_y.out
  have I_x := hh_I_x.out
  have I_y := hh_I_y.out
  have hB := hh_hB.out
  clear hh_mb_x hh_mb_y hh_I_x hh_I_y hh_hB
  refine (used_is I_x.four.2.1 HU.out.1 HU.out.2.1).mono ?_
  rintro e w5 ⟨rfl, bb⟩
  replace mb_x := cells_below mb_x bb (Array.getElem?_eq_some_iff.1 mb_x).1
  replace mb_y := cells_below mb_y bb (Array.getElem?_eq_some_iff.1 mb_y).1
  replace hB := Below.on hB bb
  replace I_x := I_x.below bb
  replace I_y := I_y.below bb
  clear bb
  obtain ⟨y0, y1, y2, y3, y4⟩ := five mb_y
  have hh_mb_x := Hid_mkW mb_x
  have hh_mb_y := Hid_mkW mb_y
  have hh_I_x := Hid_mkW I_x
  have hh_I_y := Hid_mkW I_y
  have hh_hB := Hid_mkW hB
  clear mb_x mb_y I_x I_y hB
  go_wp2_with fail
  clear y0 y1 y2 y3 y4
  have mb_x := hh_mb_x.out
  have mb_y := hh_mb_y.out
  have I_x := hh_I_x.out
  have I_y := hh_I_y.out
  have hB := hh_hB.out
  clear hh_mb_x hh_mb_y hh_I_x hh_I_y hh_hB
  refine (used_is I_y.four.2.1 HU.out.2.2.1 HU.out.2.2.2).mono ?_
  rintro e w6 ⟨rfl, bb⟩
  replace mb_x := cells_below mb_x bb (Array.getElem?_eq_some_iff.1 mb_x).1
  replace mb_y := cells_below mb_y bb (Array.getElem?_eq_some_iff.1 mb_y).1
  replace hB := Below.on hB bb
  replace I_x := I_x.below bb
  replace I_y := I_y.below bb
  clear bb
  obtain ⟨x0, x1, x2, x3, x4⟩ := five mb_x
  have hh_mb_x := Hid_mkW mb_x
  have hh_mb_y := Hid_mkW mb_y
  have hh_I_x := Hid_mkW I_x
  have hh_I_y := Hid_mkW I_y
  have hh_hB := Hid_mkW hB
  clear mb_x mb_y I_x I_y hB
  go_wp2_with fail
  clear x0 x1 x2 x3 x4
  have mb_x := hh_mb_x.out
  have mb_y := hh_mb_y.out
  have I_x := hh_I_x.out
  have I_y := hh_I_y.out
  have hB := hh_hB.out
  clear hh_mb_x hh_mb_y hh_I_x hh_I_y hh_hB
  refine (all_is I_x HV.out.1 HV.out.2.1).mono ?_
  rintro e w7 ⟨⟨l0, rfl, S0⟩, bb⟩
  replace mb_x := cells_below mb_x bb (Array.getElem?_eq_some_iff.1 mb_x).1
  replace mb_y := cells_below mb_y bb (Array.getElem?_eq_some_iff.1 mb_y).1
  replace hB := Below.on hB bb
  replace I_x := I_x.below bb
  replace I_y := I_y.below bb
  clear bb
  obtain ⟨y0, y1, y2, y3, y4⟩ := five mb_y
  have hh_mb_x := Hid_mkW mb_x
  have hh_mb_y := Hid_mkW mb_y
  have hh_I_x := Hid_mkW I_x
  have hh_I_y := Hid_mkW I_y
  have hh_S0 := Hid_mkW S0
  have hh_hB := Hid_mkW hB
  clear mb_x mb_y I_x I_y S0 hB
  go_wp2_with fail
  clear y0 y1 y2 y3 y4
  have mb_x := hh_mb_x.out
  have mb_y := hh_mb_y.out
  have I_x := hh_I_x.out
  have I_y := hh_I_y.out
  have S0 := hh_S0.out
  have hB := hh_hB.out
  clear hh_mb_x hh_mb_y hh_I_x hh_I_y hh_S0 hh_hB
  refine (all_is I_y HV.out.2.2.1 HV.out.2.2.2).mono ?_
  rintro e w8 ⟨⟨l1, rfl, S1⟩, bb⟩
  replace mb_x := cells_below mb_x bb (Array.getElem?_eq_some_iff.1 mb_x).1
  replace mb_y := cells_below mb_y bb (Array.getElem?_eq_some_iff.1 mb_y).1
  replace hB := Below.on hB bb
  replace I_x := I_x.below bb
  replace I_y := I_y.below bb
  replace S0 := S0.below bb
  clear bb
  clear mb_x
  clear I_x
  clear mb_y
  clear I_y
  have hh_S0 := Hid_mkW S0
  have hh_S1 := Hid_mkW S1
  have hh_hB := Hid_mkW hB
  clear S0 S1 hB
  go_wp2_with fail
  have S0 := hh_S0.out
  have S1 := hh_S1.out
  have hB := hh_hB.out
  clear hh_S0 hh_S1 hh_hB
  refine (writesBegun_any _).mono ?_
  rintro e w9 ⟨rfl, bb⟩
  replace hB := Below.on hB bb
  replace S0 := S0.below bb
  replace S1 := S1.below bb
  clear bb
  have hh_S0 := Hid_mkW S0
  have hh_S1 := Hid_mkW S1
  have hh_hB := Hid_mkW hB
  clear S0 S1 hB
  go_wp2_with fail
  have S0 := hh_S0.out
  have S1 := hh_S1.out
  have hB := hh_hB.out
  clear hh_S0 hh_S1 hh_hB
  refine (samePages_any S0 S1).mono ?_
  rintro e w10 ⟨rfl, bb⟩
  replace hB := Below.on hB bb
  replace S0 := S0.below bb
  replace S1 := S1.below bb
  clear bb
  have hh_S0 := Hid_mkW S0
  have hh_S1 := Hid_mkW S1
  have hh_hB := Hid_mkW hB
  clear S0 S1 hB
  go_wp2_with fail
  go_ret
  have hB := hh_hB.out
  exact ⟨rfl, hB⟩

theorem word_is {v : Value} {m : ImgD} {w : World} (h : Img w v m) (n : Int) (one : ByteArray) (k : Int) (two : ByteArray) : Calls Try.prog 7 #[v, .int .i64 n, .string one, .int .i64 k, .string two] w fun r w' => r = .returned (.bool true) ∧ Below w.heap.size w w' := by
  have h' := h
  obtain ⟨ra, rc, sa, sc, fa, fc, na, nc, rfl, h1, h2, h3, h4⟩ := h.parts
  by_cases hnk : n = k
  · exact word_same ra rc sa sc fa fc na nc m n one k two w h' _ _ _ _ ⟨rfl, rfl⟩ ⟨rfl, rfl⟩ (by simpa using hnk)
  · have hb : (n == k) = false := by simpa using hnk
    by_cases ea : wrE m n one = 0
    · by_cases eb : wrE m k two = 0
      · obtain ⟨E, e1, e2, e3, e4⟩ := order_err hnk ea eb
        rcases e3 with rfl | rfl
        · obtain ⟨c1, c2, c3, c4⟩ := e4 rfl
          exact word_ok ra rc sa sc fa fc na nc m n one k two w h' _ _ ⟨rfl, ea⟩ ⟨rfl, eb⟩ hb _ _ ⟨rfl, e1⟩ ⟨rfl, e2⟩ _ _ ⟨(shapeE_zero (checkE_shape c1)).2.1, c3, (shapeE_zero (checkE_shape c2)).2.1, rfl⟩ ⟨c1, c4, c2, rfl⟩
        · exact word_full ra rc sa sc fa fc na nc m n one k two w h' _ _ ⟨rfl, ea⟩ ⟨rfl, eb⟩ hb _ _ ⟨rfl, e1⟩ ⟨rfl, e2⟩
      · exact word_b ra rc sa sc fa fc na nc m n one k two w h' _ _ _ _ ⟨rfl, rfl⟩ ⟨rfl, rfl⟩ hb (by simpa using ea) (by simpa using eb)
    · exact word_a ra rc sa sc fa fc na nc m n one k two w h' _ _ _ _ ⟨rfl, rfl⟩ ⟨rfl, rfl⟩ hb (by simpa using ea)
end Go.Proofs.Ytehleeibgkpjmad
