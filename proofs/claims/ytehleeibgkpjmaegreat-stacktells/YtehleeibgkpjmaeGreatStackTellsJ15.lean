/- Texts joined: SkS, STells, SlotsIn, ImgIn, StrsIn, StkIn. -/
import Derived.Test.YtehleeibgkpjmaeGreatStackTellsJ14
import Derived.Test.YtehleeibgkpjmaeGreatStackTellsJ1
import Derived.Deep.Strs
import Derived.Deep.Slices
import Derived.ProofKit
import Derived.SliceStrings
import Derived.Test.YtehleeibgkpjmaeGreatStackTellsJ5
namespace Go.Proofs.YtehleeibgkpjmaeGreat
open Go.RowKit Go.Shelf
set_option maxRecDepth 20000
set_option linter.unusedVariables false
theorem Stk.top {w : World} {b : List ByteArray} {m : ImgD} {bv gv r s f n : Value} (h : Stk w (.agg #[bv, gv, r, s, f, n]) b m) : Img w (.agg #[gv, r, s, f, n]) m := by
 obtain ⟨bv', r', s', f', n', e, h1, h2⟩ := h
 simp only [Value.agg.injEq, Array.mk.injEq, List.cons.injEq, and_true] at e
 rw [e.2.1, e.2.2.1, e.2.2.2.1, e.2.2.2.2.1, e.2.2.2.2.2]; exact h2
set_option maxHeartbeats 4000000 in
theorem sameStk_at (ba : Option Addr) (bc : Nat) (ra : Option Addr) (rc : Nat) (sa : Option Addr) (sc : Nat) (fa : Option Addr) (fc : Nat) (na : Option Addr) (nc : Nat) (ba2 : Option Addr) (bc2 : Nat) (ra2 : Option Addr) (rc2 : Nat) (sa2 : Option Addr) (sc2 : Nat) (fa2 : Option Addr) (fc2 : Nat) (na2 : Option Addr) (nc2 : Nat) (b : List ByteArray) (m : ImgD) (w : World) (h : Stk w (.agg #[.slice ba b.length bc, .int .i64 m.guest, .slice ra m.root.length rc, .slice sa m.slots.length sc, .slice fa m.refs.length fc, .slice na m.snaps.length nc]) b m) (k : Stk w (.agg #[.slice ba2 b.length bc2, .int .i64 m.guest, .slice ra2 m.root.length rc2, .slice sa2 m.slots.length sc2, .slice fa2 m.refs.length fc2, .slice na2 m.snaps.length nc2]) b m) :
  Calls Tryz.prog 12 #[.agg #[.slice ba b.length bc, .int .i64 m.guest, .slice ra m.root.length rc, .slice sa m.slots.length sc, .slice fa m.refs.length fc, .slice na m.snaps.length nc], .agg #[.slice ba2 b.length bc2, .int .i64 m.guest, .slice ra2 m.root.length rc2, .slice sa2 m.slots.length sc2, .slice fa2 m.refs.length fc2, .slice na2 m.snaps.length nc2]] w fun r w' => r = .returned (.bool true) ∧ Below w.heap.size w w' := by
 have hB : Below w.heap.size w ((w.alloc (.cells #[.slice ba b.length bc, .int .i64 m.guest, .slice ra m.root.length rc, .slice sa m.slots.length sc, .slice fa m.refs.length fc, .slice na m.snaps.length nc] 29)).alloc (.cells #[.slice ba2 b.length bc2, .int .i64 m.guest, .slice ra2 m.root.length rc2, .slice sa2 m.slots.length sc2, .slice fa2 m.refs.length fc2, .slice na2 m.snaps.length nc2] 29)) := ((Below.refl _ _).alloc (Nat.le_refl _) _).alloc (by simp) _
 have m0 : ((w.alloc (.cells #[.slice ba b.length bc, .int .i64 m.guest, .slice ra m.root.length rc, .slice sa m.slots.length sc, .slice fa m.refs.length fc, .slice na m.snaps.length nc] 29)).alloc (.cells #[.slice ba2 b.length bc2, .int .i64 m.guest, .slice ra2 m.root.length rc2, .slice sa2 m.slots.length sc2, .slice fa2 m.refs.length fc2, .slice na2 m.snaps.length nc2] 29)).heap[w.heap.size]? = some (.cells #[.slice ba b.length bc, .int .i64 m.guest, .slice ra m.root.length rc, .slice sa m.slots.length sc, .slice fa m.refs.length fc, .slice na m.snaps.length nc] 29) := cells_alloc (World.alloc_heap_new _ _) _
 have m1 : ((w.alloc (.cells #[.slice ba b.length bc, .int .i64 m.guest, .slice ra m.root.length rc, .slice sa m.slots.length sc, .slice fa m.refs.length fc, .slice na m.snaps.length nc] 29)).alloc (.cells #[.slice ba2 b.length bc2, .int .i64 m.guest, .slice ra2 m.root.length rc2, .slice sa2 m.slots.length sc2, .slice fa2 m.refs.length fc2, .slice na2 m.snaps.length nc2] 29)).heap[w.heap.size + 1]? = some (.cells #[.slice ba2 b.length bc2, .int .i64 m.guest, .slice ra2 m.root.length rc2, .slice sa2 m.slots.length sc2, .slice fa2 m.refs.length fc2, .slice na2 m.snaps.length nc2] 29) := by have := World.alloc_heap_new (w.alloc (.cells #[.slice ba b.length bc, .int .i64 m.guest, .slice ra m.root.length rc, .slice sa m.slots.length sc, .slice fa m.refs.length fc, .slice na m.snaps.length nc] 29)) (.cells #[.slice ba2 b.length bc2, .int .i64 m.guest, .slice ra2 m.root.length rc2, .slice sa2 m.slots.length sc2, .slice fa2 m.refs.length fc2, .slice na2 m.snaps.length nc2] 29); simpa using this
 have hz : w.heap.size + 1 < ((w.alloc (.cells #[.slice ba b.length bc, .int .i64 m.guest, .slice ra m.root.length rc, .slice sa m.slots.length sc, .slice fa m.refs.length fc, .slice na m.snaps.length nc] 29)).alloc (.cells #[.slice ba2 b.length bc2, .int .i64 m.guest, .slice ra2 m.root.length rc2, .slice sa2 m.slots.length sc2, .slice fa2 m.refs.length fc2, .slice na2 m.snaps.length nc2] 29)).heap.size := by simp
 have h0 := h.below hB
 have k0 := k.below hB
 have H1 : Hid (Calls Tryz.prog 28 #[.slice ba b.length bc, .slice ba2 b.length bc2] ((w.alloc (.cells #[.slice ba b.length bc, .int .i64 m.guest, .slice ra m.root.length rc, .slice sa m.slots.length sc, .slice fa m.refs.length fc, .slice na m.snaps.length nc] 29)).alloc (.cells #[.slice ba2 b.length bc2, .int .i64 m.guest, .slice ra2 m.root.length rc2, .slice sa2 m.slots.length sc2, .slice fa2 m.refs.length fc2, .slice na2 m.snaps.length nc2] 29)) fun r w' => r = .returned (.bool true) ∧ Below ((w.alloc (.cells #[.slice ba b.length bc, .int .i64 m.guest, .slice ra m.root.length rc, .slice sa m.slots.length sc, .slice fa m.refs.length fc, .slice na m.snaps.length nc] 29)).alloc (.cells #[.slice ba2 b.length bc2, .int .i64 m.guest, .slice ra2 m.root.length rc2, .slice sa2 m.slots.length sc2, .slice fa2 m.refs.length fc2, .slice na2 m.snaps.length nc2] 29)).heap.size ((w.alloc (.cells #[.slice ba b.length bc, .int .i64 m.guest, .slice ra m.root.length rc, .slice sa m.slots.length sc, .slice fa m.refs.length fc, .slice na m.snaps.length nc] 29)).alloc (.cells #[.slice ba2 b.length bc2, .int .i64 m.guest, .slice ra2 m.root.length rc2, .slice sa2 m.slots.length sc2, .slice fa2 m.refs.length fc2, .slice na2 m.snaps.length nc2] 29)) w') := samePages_any h0.base k0.base
 have H2 : Hid (∀ W, Below ((w.alloc (.cells #[.slice ba b.length bc, .int .i64 m.guest, .slice ra m.root.length rc, .slice sa m.slots.length sc, .slice fa m.refs.length fc, .slice na m.snaps.length nc] 29)).alloc (.cells #[.slice ba2 b.length bc2, .int .i64 m.guest, .slice ra2 m.root.length rc2, .slice sa2 m.slots.length sc2, .slice fa2 m.refs.length fc2, .slice na2 m.snaps.length nc2] 29)).heap.size ((w.alloc (.cells #[.slice ba b.length bc, .int .i64 m.guest, .slice ra m.root.length rc, .slice sa m.slots.length sc, .slice fa m.refs.length fc, .slice na m.snaps.length nc] 29)).alloc (.cells #[.slice ba2 b.length bc2, .int .i64 m.guest, .slice ra2 m.root.length rc2, .slice sa2 m.slots.length sc2, .slice fa2 m.refs.length fc2, .slice na2 m.snaps.length nc2] 29)) W → Calls Tryz.prog 29 #[.agg #[.int .i64 m.guest, .slice ra m.root.length rc, .slice sa m.slots.length sc, .slice fa m.refs.length fc, .slice na m.snaps.length nc], .agg #[.int .i64 m.guest, .slice ra2 m.root.length rc2, .slice sa2 m.slots.length sc2, .slice fa2 m.refs.length fc2, .slice na2 m.snaps.length nc2]] W fun r w' => r = .returned (.bool true) ∧ Below W.heap.size W w') := fun W hW => sameI_is (h0.top.below hW) (k0.top.below hW)
 clear h k h0 k0
 obtain ⟨c0, c1, c2, c3, c4, c5⟩ := six m0
 obtain ⟨d0, d1, d2, d3, d4, d5⟩ := six m1
 go_enter Tryz.func12, Tryz.ntmps12
 go_wp2_with (first
  | (go_at_call 29; refine (H2.out w1 b1).mono ?_; rintro e2 w2 ⟨rfl, b2⟩)
  | (go_at_call 28; refine H1.out.mono ?_; rintro e1 w1 ⟨rfl, b1⟩; have n0 := cells_below m0 b1 (by omega); have n1 := cells_below m1 b1 hz; obtain ⟨f0, f1, f2, f3, f4, f5⟩ := six n0; obtain ⟨g0, g1, g2, g3, g4, g5⟩ := six n1))
 go_ret
 exact ⟨rfl, Below.on (Below.on hB b1) b2⟩
theorem sameStk_is {w : World} {v u : Value} {b : List ByteArray} {m : ImgD} (h : Stk w v b m) (k : Stk w u b m) : Calls Tryz.prog 12 #[v, u] w fun r w' => r = .returned (.bool true) ∧ Below w.heap.size w w' := by
 have h' := h
 have k' := k
 obtain ⟨ba, bc, ra, rc, sa, sc, fa, fc, na, nc, rfl, _, _⟩ := h.parts
 obtain ⟨ba2, bc2, ra2, rc2, sa2, sc2, fa2, fc2, na2, nc2, rfl, _, _⟩ := k.parts
 exact sameStk_at ba bc ra rc sa sc fa fc na nc ba2 bc2 ra2 rc2 sa2 sc2 fa2 fc2 na2 nc2 b m w h' k'
set_option linter.unusedSimpArgs false
set_option maxHeartbeats 16000000 in
theorem stells_ok (ba : Option Addr) (bc : Nat) (ra : Option Addr) (rc : Nat) (sa : Option Addr) (sc : Nat) (fa : Option Addr) (fc : Nat) (na : Option Addr) (nc : Nat) (b : List ByteArray) (m : ImgD) (n : Int) (page : ByteArray) (w : World) (h : Stk w (.agg #[.slice ba b.length bc, .int .i64 m.guest, .slice ra m.root.length rc, .slice sa m.slots.length sc, .slice fa m.refs.length fc, .slice na m.snaps.length nc]) b m) (BW : List ByteArray) (MW : ImgD) (EW : Int) (HW : Hid (skE b m n page = EW ∧ skM b m n page = MW ∧ skB b m n page = BW)) (EC : Int) (HC : Hid (scE b m = EC)) (P : ByteArray) (HE : Hid (srE b m n = 0 ∧ srV b m n = P)) :
  Calls Tryz.prog 3 #[.agg #[.slice ba b.length bc, .int .i64 m.guest, .slice ra m.root.length rc, .slice sa m.slots.length sc, .slice fa m.refs.length fc, .slice na m.snaps.length nc], .int .i64 n, .string page] w fun r w' => r = .returned (.bool true) ∧ Below w.heap.size w w' := by
 have hB : Below w.heap.size w (w.alloc (.cells #[.slice ba b.length bc, .int .i64 m.guest, .slice ra m.root.length rc, .slice sa m.slots.length sc, .slice fa m.refs.length fc, .slice na m.snaps.length nc] 29)) := (Below.refl _ _).alloc (Nat.le_refl _) _
 have mb_s : (w.alloc (.cells #[.slice ba b.length bc, .int .i64 m.guest, .slice ra m.root.length rc, .slice sa m.slots.length sc, .slice fa m.refs.length fc, .slice na m.snaps.length nc] 29)).heap[w.heap.size]? = some (.cells #[.slice ba b.length bc, .int .i64 m.guest, .slice ra m.root.length rc, .slice sa m.slots.length sc, .slice fa m.refs.length fc, .slice na m.snaps.length nc] 29) := World.alloc_heap_new _ _
 have K_s := h.below hB
 clear h
 go_enter Tryz.func3, Tryz.ntmps3
 obtain ⟨s0, s1, s2, s3, s4, s5⟩ := six mb_s
 have hh_mb_s := Hid_mkW mb_s
 have hh_K_s := Hid_mkW K_s
 have hh_hB := Hid_mkW hB
 clear mb_s K_s hB
 go_wp2_with fail
 clear s0 s1 s2 s3 s4 s5
 have mb_s := hh_mb_s.out
 have K_s := hh_K_s.out
 have hB := hh_hB.out
 clear hh_mb_s hh_K_s hh_hB
 refine (sk_read K_s n HE.out.1 HE.out.2).mono ?_
 rintro e w1 ⟨rfl, bb⟩
 replace mb_s := cells_below mb_s bb (szH mb_s)
 replace hB := Below.on hB bb
 replace K_s := K_s.below bb
 clear bb
 obtain ⟨s0, s1, s2, s3, s4, s5⟩ := six mb_s
 have hh_mb_s := Hid_mkW mb_s
 have hh_K_s := Hid_mkW K_s
 have hh_hB := Hid_mkW hB
 clear mb_s K_s hB
 go_wp2_with fail
 clear s0 s1 s2 s3 s4 s5
 have mb_s := hh_mb_s.out
 have K_s := hh_K_s.out
 have hB := hh_hB.out
 clear hh_mb_s hh_K_s hh_hB
 refine (sk_write K_s n page HW.out.1 HW.out.2.1 HW.out.2.2).mono ?_
 rintro e w2 ⟨v, rfl, K_x, bb⟩
 obtain ⟨x_b, x_bc, x_r, x_rc, x_s, x_sc, x_f, x_fc, x_n, x_nc, rfl, hs_, hi_⟩ := K_x.parts
 clear hs_ hi_
 try dsimp only
 replace mb_s := cells_below mb_s bb (szH mb_s)
 replace hB := Below.on hB bb
 replace K_s := K_s.below bb
 clear bb
 replace mb_s := cells_alloc mb_s (.cells #[.slice x_b BW.length x_bc, .int .i64 MW.guest, .slice x_r MW.root.length x_rc, .slice x_s MW.slots.length x_sc, .slice x_f MW.refs.length x_fc, .slice x_n MW.snaps.length x_nc] 29)
 have ba : Below w2.heap.size w2 (w2.alloc (.cells #[.slice x_b BW.length x_bc, .int .i64 MW.guest, .slice x_r MW.root.length x_rc, .slice x_s MW.slots.length x_sc, .slice x_f MW.refs.length x_fc, .slice x_n MW.snaps.length x_nc] 29)) := (Below.refl _ _).alloc (Nat.le_refl _) _
 replace hB := Below.on hB ba
 replace K_s := K_s.below ba
 replace K_x := K_x.below ba
 clear ba
 have mb_x : (w2.alloc (.cells #[.slice x_b BW.length x_bc, .int .i64 MW.guest, .slice x_r MW.root.length x_rc, .slice x_s MW.slots.length x_sc, .slice x_f MW.refs.length x_fc, .slice x_n MW.snaps.length x_nc] 29)).heap[w2.heap.size]? = some (.cells #[.slice x_b BW.length x_bc, .int .i64 MW.guest, .slice x_r MW.root.length x_rc, .slice x_s MW.slots.length x_sc, .slice x_f MW.refs.length x_fc, .slice x_n MW.snaps.length x_nc] 29) := World.alloc_heap_new _ _
 obtain ⟨s0, s1, s2, s3, s4, s5⟩ := six mb_s
 have hh_mb_s := Hid_mkW mb_s
 have hh_mb_x := Hid_mkW mb_x
 have hh_K_s := Hid_mkW K_s
 have hh_K_x := Hid_mkW K_x
 have hh_hB := Hid_mkW hB
 clear mb_s mb_x K_s K_x hB
 go_wp2_with fail
 clear s0 s1 s2 s3 s4 s5
 have mb_s := hh_mb_s.out
 have mb_x := hh_mb_x.out
 have K_s := hh_K_s.out
 have K_x := hh_K_x.out
 have hB := hh_hB.out
 clear hh_mb_s hh_mb_x hh_K_s hh_K_x hh_hB
 refine (stkErr_is K_s n HE.out.1).mono ?_
 rintro e w3 ⟨rfl, bb⟩
 replace mb_s := cells_below mb_s bb (szH mb_s)
 replace mb_x := cells_below mb_x bb (szH mb_x)
 replace hB := Below.on hB bb
 replace K_s := K_s.below bb
 replace K_x := K_x.below bb
 clear bb
 obtain ⟨s0, s1, s2, s3, s4, s5⟩ := six mb_s
 have hh_mb_s := Hid_mkW mb_s
 have hh_mb_x := Hid_mkW mb_x
 have hh_K_s := Hid_mkW K_s
 have hh_K_x := Hid_mkW K_x
 have hh_hB := Hid_mkW hB
 clear mb_s mb_x K_s K_x hB
 go_wp2_with fail
 clear s0 s1 s2 s3 s4 s5
 have mb_s := hh_mb_s.out
 have mb_x := hh_mb_x.out
 have K_s := hh_K_s.out
 have K_x := hh_K_x.out
 have hB := hh_hB.out
 clear hh_mb_s hh_mb_x hh_K_s hh_K_x hh_hB
 refine (stkRead_is K_s n HE.out.1 HE.out.2).mono ?_
 rintro e w4 ⟨rfl, bb⟩
 replace mb_s := cells_below mb_s bb (szH mb_s)
 replace mb_x := cells_below mb_x bb (szH mb_x)
 replace hB := Below.on hB bb
 replace K_s := K_s.below bb
 replace K_x := K_x.below bb
 clear bb
 obtain ⟨s0, s1, s2, s3, s4, s5⟩ := six mb_s
 have hh_mb_s := Hid_mkW mb_s
 have hh_mb_x := Hid_mkW mb_x
 have hh_K_s := Hid_mkW K_s
 have hh_K_x := Hid_mkW K_x
 have hh_hB := Hid_mkW hB
 clear mb_s mb_x K_s K_x hB
 go_wp2_with fail
 clear s0 s1 s2 s3 s4 s5
 have mb_s := hh_mb_s.out
 have mb_x := hh_mb_x.out
 have K_s := hh_K_s.out
 have K_x := hh_K_x.out
 have hB := hh_hB.out
 clear hh_mb_s hh_mb_x hh_K_s hh_K_x hh_hB
 refine (stkWrite_is K_s n page HW.out.1 HW.out.2.1 HW.out.2.2).mono ?_
 rintro e w5 ⟨v, rfl, K_y, bb⟩
 obtain ⟨y_b, y_bc, y_r, y_rc, y_s, y_sc, y_f, y_fc, y_n, y_nc, rfl, hs_, hi_⟩ := K_y.parts
 clear hs_ hi_
 try dsimp only
 replace mb_s := cells_below mb_s bb (szH mb_s)
 replace mb_x := cells_below mb_x bb (szH mb_x)
 replace hB := Below.on hB bb
 replace K_s := K_s.below bb
 replace K_x := K_x.below bb
 clear bb
 replace mb_s := cells_alloc mb_s (.cells #[.slice y_b BW.length y_bc, .int .i64 MW.guest, .slice y_r MW.root.length y_rc, .slice y_s MW.slots.length y_sc, .slice y_f MW.refs.length y_fc, .slice y_n MW.snaps.length y_nc] 29)
 replace mb_x := cells_alloc mb_x (.cells #[.slice y_b BW.length y_bc, .int .i64 MW.guest, .slice y_r MW.root.length y_rc, .slice y_s MW.slots.length y_sc, .slice y_f MW.refs.length y_fc, .slice y_n MW.snaps.length y_nc] 29)
 have ba : Below w5.heap.size w5 (w5.alloc (.cells #[.slice y_b BW.length y_bc, .int .i64 MW.guest, .slice y_r MW.root.length y_rc, .slice y_s MW.slots.length y_sc, .slice y_f MW.refs.length y_fc, .slice y_n MW.snaps.length y_nc] 29)) := (Below.refl _ _).alloc (Nat.le_refl _) _
 replace hB := Below.on hB ba
 replace K_s := K_s.below ba
 replace K_x := K_x.below ba
 replace K_y := K_y.below ba
 clear ba
 have mb_y : (w5.alloc (.cells #[.slice y_b BW.length y_bc, .int .i64 MW.guest, .slice y_r MW.root.length y_rc, .slice y_s MW.slots.length y_sc, .slice y_f MW.refs.length y_fc, .slice y_n MW.snaps.length y_nc] 29)).heap[w5.heap.size]? = some (.cells #[.slice y_b BW.length y_bc, .int .i64 MW.guest, .slice y_r MW.root.length y_rc, .slice y_s MW.slots.length y_sc, .slice y_f MW.refs.length y_fc, .slice y_n MW.snaps.length y_nc] 29) := World.alloc_heap_new _ _
 have hh_mb_s := Hid_mkW mb_s
 have hh_mb_x := Hid_mkW mb_x
 have hh_mb_y := Hid_mkW mb_y
 have hh_K_s := Hid_mkW K_s
 have hh_K_x := Hid_mkW K_x
 have hh_K_y := Hid_mkW K_y
 have hh_hB := Hid_mkW hB
 clear mb_s mb_x mb_y K_s K_x K_y hB
 go_wp2_with fail
 have mb_s := hh_mb_s.out
 have mb_x := hh_mb_x.out
 have mb_y := hh_mb_y.out
 have K_s := hh_K_s.out
 have K_x := hh_K_x.out
 have K_y := hh_K_y.out
 have hB := hh_hB.out
 clear hh_mb_s hh_mb_x hh_mb_y hh_K_s hh_K_x hh_K_y hh_hB
 refine wp_region_held_drew (S := (fun X : World => X.heap[w.heap.size]? = some (.cells #[.slice ba b.length bc, .int .i64 m.guest, .slice ra m.root.length rc, .slice sa m.slots.length sc, .slice fa m.refs.length fc, .slice na m.snaps.length nc] 29) ∧ X.heap[w2.heap.size]? = some (.cells #[.slice x_b BW.length x_bc, .int .i64 MW.guest, .slice x_r MW.root.length x_rc, .slice x_s MW.slots.length x_sc, .slice x_f MW.refs.length x_fc, .slice x_n MW.snaps.length x_nc] 29) ∧ X.heap[w5.heap.size]? = some (.cells #[.slice y_b BW.length y_bc, .int .i64 MW.guest, .slice y_r MW.root.length y_rc, .slice y_s MW.slots.length y_sc, .slice y_f MW.refs.length y_fc, .slice y_n MW.snaps.length y_nc] 29))) (by kernel_rfl) ⟨mb_s, mb_x, mb_y⟩ (fun hHeld => ?_)
 refine wpAnyH_ready (rs := [0]) (by kernel_rfl) (by simp) ?_
 refine AllReadyH.cons rfl (fun K hK => ?_) AllReadyH.nil
 clear hHeld
 simp only [lays]
 rw [if_pos (by rfl)]
 go_wp2_with (go_at_call 9; refine (stackBegun_any _).mono ?_; rintro e w6 ⟨rfl, bb⟩)
 replace bb : Below (w5.alloc (.cells #[.slice y_b BW.length y_bc, .int .i64 MW.guest, .slice y_r MW.root.length y_rc, .slice y_s MW.slots.length y_sc, .slice y_f MW.refs.length y_fc, .slice y_n MW.snaps.length y_nc] 29)).heap.size (w5.alloc (.cells #[.slice y_b BW.length y_bc, .int .i64 MW.guest, .slice y_r MW.root.length y_rc, .slice y_s MW.slots.length y_sc, .slice y_f MW.refs.length y_fc, .slice y_n MW.snaps.length y_nc] 29)) w6 := below_drew bb
 replace mb_s := cells_below mb_s bb (szH mb_s)
 replace mb_x := cells_below mb_x bb (szH mb_x)
 replace mb_y := cells_below mb_y bb (szH mb_y)
 replace hB := Below.on hB bb
 replace K_s := K_s.below bb
 replace K_x := K_x.below bb
 replace K_y := K_y.below bb
 clear bb
 refine hK.out _ _ ⟨mb_s, mb_x, mb_y⟩ (fun hHeld => ?_)
 clear hK K
 try simp only [lays]
 refine tkH 1 (.bool true) rfl (Or.inl ⟨by rfl, fun w' hSw => by obtain ⟨qs, qx, qy⟩ := hSw; obtain ⟨s0, s1, s2, s3, s4, s5⟩ := six qs; obtain ⟨x0, x1, x2, x3, x4, x5⟩ := six qx; obtain ⟨y0, y1, y2, y3, y4, y5⟩ := six qy; go_simp⟩) hHeld ?_
 simp only [lays]
 refine tkH 2 (.agg #[.slice ba b.length bc, .int .i64 m.guest, .slice ra m.root.length rc, .slice sa m.slots.length sc, .slice fa m.refs.length fc, .slice na m.snaps.length nc]) rfl (Or.inl ⟨by rfl, fun w' hSw => by obtain ⟨qs, qx, qy⟩ := hSw; obtain ⟨s0, s1, s2, s3, s4, s5⟩ := six qs; obtain ⟨x0, x1, x2, x3, x4, x5⟩ := six qx; obtain ⟨y0, y1, y2, y3, y4, y5⟩ := six qy; go_simp⟩) hHeld ?_
 simp only [lays]
 refine tkH 4 (.agg #[.slice ba b.length bc, .int .i64 m.guest, .slice ra m.root.length rc, .slice sa m.slots.length sc, .slice fa m.refs.length fc, .slice na m.snaps.length nc]) rfl (Or.inl ⟨by rfl, fun w' hSw => by obtain ⟨qs, qx, qy⟩ := hSw; obtain ⟨s0, s1, s2, s3, s4, s5⟩ := six qs; obtain ⟨x0, x1, x2, x3, x4, x5⟩ := six qx; obtain ⟨y0, y1, y2, y3, y4, y5⟩ := six qy; go_simp⟩) hHeld ?_
 simp only [lays]
 refine wpAnyH_ready (rs := [3]) (by kernel_rfl) (by simp) ?_
 refine AllReadyH.cons rfl (fun K hK => ?_) AllReadyH.nil
 clear hHeld
 simp only [lays]
 rw [if_pos (by rfl)]
 go_wp2_with (go_at_call 10; refine (sk_check K_s HC.out).mono ?_; rintro e w7 ⟨rfl, bb⟩)
 replace mb_s := cells_below mb_s bb (szH mb_s)
 replace mb_x := cells_below mb_x bb (szH mb_x)
 replace mb_y := cells_below mb_y bb (szH mb_y)
 replace hB := Below.on hB bb
 replace K_s := K_s.below bb
 replace K_x := K_x.below bb
 replace K_y := K_y.below bb
 clear bb
 refine hK.out _ _ ⟨mb_s, mb_x, mb_y⟩ (fun hHeld => ?_)
 clear hK K
 try simp only [lays]
 refine wpAnyH_ready (rs := [5]) (by kernel_rfl) (by simp) ?_
 refine AllReadyH.cons rfl (fun K hK => ?_) AllReadyH.nil
 clear hHeld
 simp only [lays]
 rw [if_pos (by rfl)]
 go_wp2_with (go_at_call 11; refine (ckStk_is K_s HC.out).mono ?_; rintro e w8 ⟨rfl, bb⟩)
 replace mb_s := cells_below mb_s bb (szH mb_s)
 replace mb_x := cells_below mb_x bb (szH mb_x)
 replace mb_y := cells_below mb_y bb (szH mb_y)
 replace hB := Below.on hB bb
 replace K_s := K_s.below bb
 replace K_x := K_x.below bb
 replace K_y := K_y.below bb
 clear bb
 refine hK.out _ _ ⟨mb_s, mb_x, mb_y⟩ (fun hHeld => ?_)
 clear hK K
 try simp only [lays]
 refine tkH 6 (.bool true) rfl (Or.inl ⟨by rfl, fun w' hSw => by obtain ⟨qs, qx, qy⟩ := hSw; obtain ⟨s0, s1, s2, s3, s4, s5⟩ := six qs; obtain ⟨x0, x1, x2, x3, x4, x5⟩ := six qx; obtain ⟨y0, y1, y2, y3, y4, y5⟩ := six qy; go_simp⟩) hHeld ?_
 simp only [lays]
 refine tkH 7 (.bool true) rfl (Or.inl ⟨by rfl, fun w' hSw => by obtain ⟨qs, qx, qy⟩ := hSw; obtain ⟨s0, s1, s2, s3, s4, s5⟩ := six qs; obtain ⟨x0, x1, x2, x3, x4, x5⟩ := six qx; obtain ⟨y0, y1, y2, y3, y4, y5⟩ := six qy; go_simp⟩) hHeld ?_
 simp only [lays]
 refine tkH 8 (.bool true) rfl (Or.inl ⟨by rfl, fun w' hSw => by obtain ⟨qs, qx, qy⟩ := hSw; obtain ⟨s0, s1, s2, s3, s4, s5⟩ := six qs; obtain ⟨x0, x1, x2, x3, x4, x5⟩ := six qx; obtain ⟨y0, y1, y2, y3, y4, y5⟩ := six qy; go_simp⟩) hHeld ?_
 simp only [lays]
 refine tkH 9 (.string P) rfl (Or.inl ⟨by rfl, fun w' hSw => by obtain ⟨qs, qx, qy⟩ := hSw; obtain ⟨s0, s1, s2, s3, s4, s5⟩ := six qs; obtain ⟨x0, x1, x2, x3, x4, x5⟩ := six qx; obtain ⟨y0, y1, y2, y3, y4, y5⟩ := six qy; go_simp⟩) hHeld ?_
 simp only [lays]
 refine tkH 10 (.string P) rfl (Or.inl ⟨by rfl, fun w' hSw => by obtain ⟨qs, qx, qy⟩ := hSw; obtain ⟨s0, s1, s2, s3, s4, s5⟩ := six qs; obtain ⟨x0, x1, x2, x3, x4, x5⟩ := six qx; obtain ⟨y0, y1, y2, y3, y4, y5⟩ := six qy; go_simp⟩) hHeld ?_
 simp only [lays]
 refine tkH 11 (.bool true) rfl (Or.inl ⟨by rfl, fun w' hSw => by obtain ⟨qs, qx, qy⟩ := hSw; obtain ⟨s0, s1, s2, s3, s4, s5⟩ := six qs; obtain ⟨x0, x1, x2, x3, x4, x5⟩ := six qx; obtain ⟨y0, y1, y2, y3, y4, y5⟩ := six qy; go_simp⟩) hHeld ?_
 simp only [lays]
 refine tkH 12 (.bool true) rfl (Or.inl ⟨by rfl, fun w' hSw => by obtain ⟨qs, qx, qy⟩ := hSw; obtain ⟨s0, s1, s2, s3, s4, s5⟩ := six qs; obtain ⟨x0, x1, x2, x3, x4, x5⟩ := six qx; obtain ⟨y0, y1, y2, y3, y4, y5⟩ := six qy; go_simp⟩) hHeld ?_
 simp only [lays]
 refine tkH 13 (.bool true) rfl (Or.inl ⟨by rfl, fun w' hSw => by obtain ⟨qs, qx, qy⟩ := hSw; obtain ⟨s0, s1, s2, s3, s4, s5⟩ := six qs; obtain ⟨x0, x1, x2, x3, x4, x5⟩ := six qx; obtain ⟨y0, y1, y2, y3, y4, y5⟩ := six qy; go_simp⟩) hHeld ?_
 simp only [lays]
 refine tkH 14 (.int .i64 0) rfl (Or.inl ⟨by rfl, fun w' hSw => by obtain ⟨qs, qx, qy⟩ := hSw; obtain ⟨s0, s1, s2, s3, s4, s5⟩ := six qs; obtain ⟨x0, x1, x2, x3, x4, x5⟩ := six qx; obtain ⟨y0, y1, y2, y3, y4, y5⟩ := six qy; go_simp⟩) hHeld ?_
 simp only [lays]
 refine tkH 15 (.int .i64 0) rfl (Or.inl ⟨by rfl, fun w' hSw => by obtain ⟨qs, qx, qy⟩ := hSw; obtain ⟨s0, s1, s2, s3, s4, s5⟩ := six qs; obtain ⟨x0, x1, x2, x3, x4, x5⟩ := six qx; obtain ⟨y0, y1, y2, y3, y4, y5⟩ := six qy; go_simp⟩) hHeld ?_
 simp only [lays]
 refine tkH 16 (.bool true) rfl (Or.inl ⟨by rfl, fun w' hSw => by obtain ⟨qs, qx, qy⟩ := hSw; obtain ⟨s0, s1, s2, s3, s4, s5⟩ := six qs; obtain ⟨x0, x1, x2, x3, x4, x5⟩ := six qx; obtain ⟨y0, y1, y2, y3, y4, y5⟩ := six qy; go_simp⟩) hHeld ?_
 simp only [lays]
 refine tkH 17 (.bool true) rfl (Or.inl ⟨by rfl, fun w' hSw => by obtain ⟨qs, qx, qy⟩ := hSw; obtain ⟨s0, s1, s2, s3, s4, s5⟩ := six qs; obtain ⟨x0, x1, x2, x3, x4, x5⟩ := six qx; obtain ⟨y0, y1, y2, y3, y4, y5⟩ := six qy; go_simp⟩) hHeld ?_
 simp only [lays]
 refine tkH 18 (.bool true) rfl (Or.inl ⟨by rfl, fun w' hSw => by obtain ⟨qs, qx, qy⟩ := hSw; obtain ⟨s0, s1, s2, s3, s4, s5⟩ := six qs; obtain ⟨x0, x1, x2, x3, x4, x5⟩ := six qx; obtain ⟨y0, y1, y2, y3, y4, y5⟩ := six qy; go_simp⟩) hHeld ?_
 simp only [lays]
 refine tkH 19 (.int .i64 EW) rfl (Or.inl ⟨by rfl, fun w' hSw => by obtain ⟨qs, qx, qy⟩ := hSw; obtain ⟨s0, s1, s2, s3, s4, s5⟩ := six qs; obtain ⟨x0, x1, x2, x3, x4, x5⟩ := six qx; obtain ⟨y0, y1, y2, y3, y4, y5⟩ := six qy; go_simp⟩) hHeld ?_
 simp only [lays]
 refine tkH 20 (.int .i64 EW) rfl (Or.inl ⟨by rfl, fun w' hSw => by obtain ⟨qs, qx, qy⟩ := hSw; obtain ⟨s0, s1, s2, s3, s4, s5⟩ := six qs; obtain ⟨x0, x1, x2, x3, x4, x5⟩ := six qx; obtain ⟨y0, y1, y2, y3, y4, y5⟩ := six qy; go_simp⟩) hHeld ?_
 simp only [lays]
 refine tkH 21 (.bool true) rfl (Or.inl ⟨by rfl, fun w' hSw => by obtain ⟨qs, qx, qy⟩ := hSw; obtain ⟨s0, s1, s2, s3, s4, s5⟩ := six qs; obtain ⟨x0, x1, x2, x3, x4, x5⟩ := six qx; obtain ⟨y0, y1, y2, y3, y4, y5⟩ := six qy; go_simp⟩) hHeld ?_
 simp only [lays]
 refine tkH 22 (.bool true) rfl (Or.inl ⟨by rfl, fun w' hSw => by obtain ⟨qs, qx, qy⟩ := hSw; obtain ⟨s0, s1, s2, s3, s4, s5⟩ := six qs; obtain ⟨x0, x1, x2, x3, x4, x5⟩ := six qx; obtain ⟨y0, y1, y2, y3, y4, y5⟩ := six qy; go_simp⟩) hHeld ?_
 simp only [lays]
 refine tkH 23 (.bool true) rfl (Or.inl ⟨by rfl, fun w' hSw => by obtain ⟨qs, qx, qy⟩ := hSw; obtain ⟨s0, s1, s2, s3, s4, s5⟩ := six qs; obtain ⟨x0, x1, x2, x3, x4, x5⟩ := six qx; obtain ⟨y0, y1, y2, y3, y4, y5⟩ := six qy; go_simp⟩) hHeld ?_
 simp only [lays]
 refine tkH 24 (.agg #[.slice x_b BW.length x_bc, .int .i64 MW.guest, .slice x_r MW.root.length x_rc, .slice x_s MW.slots.length x_sc, .slice x_f MW.refs.length x_fc, .slice x_n MW.snaps.length x_nc]) rfl (Or.inl ⟨by rfl, fun w' hSw => by obtain ⟨qs, qx, qy⟩ := hSw; obtain ⟨s0, s1, s2, s3, s4, s5⟩ := six qs; obtain ⟨x0, x1, x2, x3, x4, x5⟩ := six qx; obtain ⟨y0, y1, y2, y3, y4, y5⟩ := six qy; go_simp⟩) hHeld ?_
 simp only [lays]
 refine tkH 25 (.agg #[.slice y_b BW.length y_bc, .int .i64 MW.guest, .slice y_r MW.root.length y_rc, .slice y_s MW.slots.length y_sc, .slice y_f MW.refs.length y_fc, .slice y_n MW.snaps.length y_nc]) rfl (Or.inl ⟨by rfl, fun w' hSw => by obtain ⟨qs, qx, qy⟩ := hSw; obtain ⟨s0, s1, s2, s3, s4, s5⟩ := six qs; obtain ⟨x0, x1, x2, x3, x4, x5⟩ := six qx; obtain ⟨y0, y1, y2, y3, y4, y5⟩ := six qy; go_simp⟩) hHeld ?_
 simp only [lays]
 refine wpAnyH_ready (rs := [26]) (by kernel_rfl) (by simp) ?_
 refine AllReadyH.cons rfl (fun K hK => ?_) AllReadyH.nil
 clear hHeld
 simp only [lays]
 rw [if_pos (by rfl)]
 go_wp2_with (go_at_call 12; refine (sameStk_is K_x K_y).mono ?_; rintro e w9 ⟨rfl, bb⟩)
 replace mb_s := cells_below mb_s bb (szH mb_s)
 replace mb_x := cells_below mb_x bb (szH mb_x)
 replace mb_y := cells_below mb_y bb (szH mb_y)
 replace hB := Below.on hB bb
 replace K_s := K_s.below bb
 replace K_x := K_x.below bb
 replace K_y := K_y.below bb
 clear bb
 refine hK.out _ _ ⟨mb_s, mb_x, mb_y⟩ (fun hHeld => ?_)
 clear hK K
 try simp only [lays]
 refine tkH 27 (.bool true) rfl (Or.inl ⟨by rfl, fun w' hSw => by obtain ⟨qs, qx, qy⟩ := hSw; obtain ⟨s0, s1, s2, s3, s4, s5⟩ := six qs; obtain ⟨x0, x1, x2, x3, x4, x5⟩ := six qx; obtain ⟨y0, y1, y2, y3, y4, y5⟩ := six qy; go_simp⟩) hHeld ?_
 simp only [lays]
 refine tkH 28 (.bool true) rfl (Or.inl ⟨by rfl, fun w' hSw => by obtain ⟨qs, qx, qy⟩ := hSw; obtain ⟨s0, s1, s2, s3, s4, s5⟩ := six qs; obtain ⟨x0, x1, x2, x3, x4, x5⟩ := six qx; obtain ⟨y0, y1, y2, y3, y4, y5⟩ := six qy; go_simp⟩) hHeld ?_
 simp only [lays]
 clear hHeld
 refine wpAnyH_done (by kernel_rfl) ?_ _
 go_wp2_with fail
 go_ret
 exact ⟨rfl, hB⟩
set_option maxHeartbeats 16000000 in
theorem stells_bad (ba : Option Addr) (bc : Nat) (ra : Option Addr) (rc : Nat) (sa : Option Addr) (sc : Nat) (fa : Option Addr) (fc : Nat) (na : Option Addr) (nc : Nat) (b : List ByteArray) (m : ImgD) (n : Int) (page : ByteArray) (w : World) (h : Stk w (.agg #[.slice ba b.length bc, .int .i64 m.guest, .slice ra m.root.length rc, .slice sa m.slots.length sc, .slice fa m.refs.length fc, .slice na m.snaps.length nc]) b m) (BW : List ByteArray) (MW : ImgD) (EW : Int) (HW : Hid (skE b m n page = EW ∧ skM b m n page = MW ∧ skB b m n page = BW)) (EC : Int) (HC : Hid (scE b m = EC)) (E : Int) (HE : Hid (srE b m n = E ∧ srV b m n = ⟨#[]⟩)) (he : (E == 0) = false) :
  Calls Tryz.prog 3 #[.agg #[.slice ba b.length bc, .int .i64 m.guest, .slice ra m.root.length rc, .slice sa m.slots.length sc, .slice fa m.refs.length fc, .slice na m.snaps.length nc], .int .i64 n, .string page] w fun r w' => r = .returned (.bool true) ∧ Below w.heap.size w w' := by
 have hB : Below w.heap.size w (w.alloc (.cells #[.slice ba b.length bc, .int .i64 m.guest, .slice ra m.root.length rc, .slice sa m.slots.length sc, .slice fa m.refs.length fc, .slice na m.snaps.length nc] 29)) := (Below.refl _ _).alloc (Nat.le_refl _) _
 have mb_s : (w.alloc (.cells #[.slice ba b.length bc, .int .i64 m.guest, .slice ra m.root.length rc, .slice sa m.slots.length sc, .slice fa m.refs.length fc, .slice na m.snaps.length nc] 29)).heap[w.heap.size]? = some (.cells #[.slice ba b.length bc, .int .i64 m.guest, .slice ra m.root.length rc, .slice sa m.slots.length sc, .slice fa m.refs.length fc, .slice na m.snaps.length nc] 29) := World.alloc_heap_new _ _
 have K_s := h.below hB
 clear h
 go_enter Tryz.func3, Tryz.ntmps3
 obtain ⟨s0, s1, s2, s3, s4, s5⟩ := six mb_s
 have hh_mb_s := Hid_mkW mb_s
 have hh_K_s := Hid_mkW K_s
 have hh_hB := Hid_mkW hB
 clear mb_s K_s hB
 go_wp2_with fail
 clear s0 s1 s2 s3 s4 s5
 have mb_s := hh_mb_s.out
 have K_s := hh_K_s.out
 have hB := hh_hB.out
 clear hh_mb_s hh_K_s hh_hB
 refine (sk_read K_s n HE.out.1 HE.out.2).mono ?_
 rintro e w1 ⟨rfl, bb⟩
 replace mb_s := cells_below mb_s bb (szH mb_s)
 replace hB := Below.on hB bb
 replace K_s := K_s.below bb
 clear bb
 obtain ⟨s0, s1, s2, s3, s4, s5⟩ := six mb_s
 have hh_mb_s := Hid_mkW mb_s
 have hh_K_s := Hid_mkW K_s
 have hh_hB := Hid_mkW hB
 clear mb_s K_s hB
 go_wp2_with fail
 clear s0 s1 s2 s3 s4 s5
 have mb_s := hh_mb_s.out
 have K_s := hh_K_s.out
 have hB := hh_hB.out
 clear hh_mb_s hh_K_s hh_hB
 refine (sk_write K_s n page HW.out.1 HW.out.2.1 HW.out.2.2).mono ?_
 rintro e w2 ⟨v, rfl, K_x, bb⟩
 obtain ⟨x_b, x_bc, x_r, x_rc, x_s, x_sc, x_f, x_fc, x_n, x_nc, rfl, hs_, hi_⟩ := K_x.parts
 clear hs_ hi_
 try dsimp only
 replace mb_s := cells_below mb_s bb (szH mb_s)
 replace hB := Below.on hB bb
 replace K_s := K_s.below bb
 clear bb
 replace mb_s := cells_alloc mb_s (.cells #[.slice x_b BW.length x_bc, .int .i64 MW.guest, .slice x_r MW.root.length x_rc, .slice x_s MW.slots.length x_sc, .slice x_f MW.refs.length x_fc, .slice x_n MW.snaps.length x_nc] 29)
 have ba : Below w2.heap.size w2 (w2.alloc (.cells #[.slice x_b BW.length x_bc, .int .i64 MW.guest, .slice x_r MW.root.length x_rc, .slice x_s MW.slots.length x_sc, .slice x_f MW.refs.length x_fc, .slice x_n MW.snaps.length x_nc] 29)) := (Below.refl _ _).alloc (Nat.le_refl _) _
 replace hB := Below.on hB ba
 replace K_s := K_s.below ba
 replace K_x := K_x.below ba
 clear ba
 have mb_x : (w2.alloc (.cells #[.slice x_b BW.length x_bc, .int .i64 MW.guest, .slice x_r MW.root.length x_rc, .slice x_s MW.slots.length x_sc, .slice x_f MW.refs.length x_fc, .slice x_n MW.snaps.length x_nc] 29)).heap[w2.heap.size]? = some (.cells #[.slice x_b BW.length x_bc, .int .i64 MW.guest, .slice x_r MW.root.length x_rc, .slice x_s MW.slots.length x_sc, .slice x_f MW.refs.length x_fc, .slice x_n MW.snaps.length x_nc] 29) := World.alloc_heap_new _ _
 obtain ⟨s0, s1, s2, s3, s4, s5⟩ := six mb_s
 have hh_mb_s := Hid_mkW mb_s
 have hh_mb_x := Hid_mkW mb_x
 have hh_K_s := Hid_mkW K_s
 have hh_K_x := Hid_mkW K_x
 have hh_hB := Hid_mkW hB
 clear mb_s mb_x K_s K_x hB
 go_wp2_with fail
 clear s0 s1 s2 s3 s4 s5
 have mb_s := hh_mb_s.out
 have mb_x := hh_mb_x.out
 have K_s := hh_K_s.out
 have K_x := hh_K_x.out
 have hB := hh_hB.out
 clear hh_mb_s hh_mb_x hh_K_s hh_K_x hh_hB
 refine (stkErr_is K_s n HE.out.1).mono ?_
 rintro e w3 ⟨rfl, bb⟩
 replace mb_s := cells_below mb_s bb (szH mb_s)
 replace mb_x := cells_below mb_x bb (szH mb_x)
 replace hB := Below.on hB bb
 replace K_s := K_s.below bb
 replace K_x := K_x.below bb
 clear bb
 obtain ⟨s0, s1, s2, s3, s4, s5⟩ := six mb_s
 have hh_mb_s := Hid_mkW mb_s
 have hh_mb_x := Hid_mkW mb_x
 have hh_K_s := Hid_mkW K_s
 have hh_K_x := Hid_mkW K_x
 have hh_hB := Hid_mkW hB
 clear mb_s mb_x K_s K_x hB
 go_wp2_with fail
 clear s0 s1 s2 s3 s4 s5
 have mb_s := hh_mb_s.out
 have mb_x := hh_mb_x.out
 have K_s := hh_K_s.out
 have K_x := hh_K_x.out
 have hB := hh_hB.out
 clear hh_mb_s hh_mb_x hh_K_s hh_K_x hh_hB
 refine (stkWrite_is K_s n page HW.out.1 HW.out.2.1 HW.out.2.2).mono ?_
 rintro e w4 ⟨v, rfl, K_y, bb⟩
 obtain ⟨y_b, y_bc, y_r, y_rc, y_s, y_sc, y_f, y_fc, y_n, y_nc, rfl, hs_, hi_⟩ := K_y.parts
 clear hs_ hi_
 try dsimp only
 replace mb_s := cells_below mb_s bb (szH mb_s)
 replace mb_x := cells_below mb_x bb (szH mb_x)
 replace hB := Below.on hB bb
 replace K_s := K_s.below bb
 replace K_x := K_x.below bb
 clear bb
 replace mb_s := cells_alloc mb_s (.cells #[.slice y_b BW.length y_bc, .int .i64 MW.guest, .slice y_r MW.root.length y_rc, .slice y_s MW.slots.length y_sc, .slice y_f MW.refs.length y_fc, .slice y_n MW.snaps.length y_nc] 29)
 replace mb_x := cells_alloc mb_x (.cells #[.slice y_b BW.length y_bc, .int .i64 MW.guest, .slice y_r MW.root.length y_rc, .slice y_s MW.slots.length y_sc, .slice y_f MW.refs.length y_fc, .slice y_n MW.snaps.length y_nc] 29)
 have ba : Below w4.heap.size w4 (w4.alloc (.cells #[.slice y_b BW.length y_bc, .int .i64 MW.guest, .slice y_r MW.root.length y_rc, .slice y_s MW.slots.length y_sc, .slice y_f MW.refs.length y_fc, .slice y_n MW.snaps.length y_nc] 29)) := (Below.refl _ _).alloc (Nat.le_refl _) _
 replace hB := Below.on hB ba
 replace K_s := K_s.below ba
 replace K_x := K_x.below ba
 replace K_y := K_y.below ba
 clear ba
 have mb_y : (w4.alloc (.cells #[.slice y_b BW.length y_bc, .int .i64 MW.guest, .slice y_r MW.root.length y_rc, .slice y_s MW.slots.length y_sc, .slice y_f MW.refs.length y_fc, .slice y_n MW.snaps.length y_nc] 29)).heap[w4.heap.size]? = some (.cells #[.slice y_b BW.length y_bc, .int .i64 MW.guest, .slice y_r MW.root.length y_rc, .slice y_s MW.slots.length y_sc, .slice y_f MW.refs.length y_fc, .slice y_n MW.snaps.length y_nc] 29) := World.alloc_heap_new _ _
 have hh_mb_s := Hid_mkW mb_s
 have hh_mb_x := Hid_mkW mb_x
 have hh_mb_y := Hid_mkW mb_y
 have hh_K_s := Hid_mkW K_s
 have hh_K_x := Hid_mkW K_x
 have hh_K_y := Hid_mkW K_y
 have hh_hB := Hid_mkW hB
 clear mb_s mb_x mb_y K_s K_x K_y hB
 go_wp2_with fail
 have mb_s := hh_mb_s.out
 have mb_x := hh_mb_x.out
 have mb_y := hh_mb_y.out
 have K_s := hh_K_s.out
 have K_x := hh_K_x.out
 have K_y := hh_K_y.out
 have hB := hh_hB.out
 clear hh_mb_s hh_mb_x hh_mb_y hh_K_s hh_K_x hh_K_y hh_hB
 refine wp_region_held_drew (S := (fun X : World => X.heap[w.heap.size]? = some (.cells #[.slice ba b.length bc, .int .i64 m.guest, .slice ra m.root.length rc, .slice sa m.slots.length sc, .slice fa m.refs.length fc, .slice na m.snaps.length nc] 29) ∧ X.heap[w2.heap.size]? = some (.cells #[.slice x_b BW.length x_bc, .int .i64 MW.guest, .slice x_r MW.root.length x_rc, .slice x_s MW.slots.length x_sc, .slice x_f MW.refs.length x_fc, .slice x_n MW.snaps.length x_nc] 29) ∧ X.heap[w4.heap.size]? = some (.cells #[.slice y_b BW.length y_bc, .int .i64 MW.guest, .slice y_r MW.root.length y_rc, .slice y_s MW.slots.length y_sc, .slice y_f MW.refs.length y_fc, .slice y_n MW.snaps.length y_nc] 29))) (by kernel_rfl) ⟨mb_s, mb_x, mb_y⟩ (fun hHeld => ?_)
 refine wpAnyH_ready (rs := [0]) (by kernel_rfl) (by simp) ?_
 refine AllReadyH.cons rfl (fun K hK => ?_) AllReadyH.nil
 clear hHeld
 simp only [lays]
 rw [if_pos (by rfl)]
 go_wp2_with (go_at_call 9; refine (stackBegun_any _).mono ?_; rintro e w5 ⟨rfl, bb⟩)
 replace bb : Below (w4.alloc (.cells #[.slice y_b BW.length y_bc, .int .i64 MW.guest, .slice y_r MW.root.length y_rc, .slice y_s MW.slots.length y_sc, .slice y_f MW.refs.length y_fc, .slice y_n MW.snaps.length y_nc] 29)).heap.size (w4.alloc (.cells #[.slice y_b BW.length y_bc, .int .i64 MW.guest, .slice y_r MW.root.length y_rc, .slice y_s MW.slots.length y_sc, .slice y_f MW.refs.length y_fc, .slice y_n MW.snaps.length y_nc] 29)) w5 := below_drew bb
 replace mb_s := cells_below mb_s bb (szH mb_s)
 replace mb_x := cells_below mb_x bb (szH mb_x)
 replace mb_y := cells_below mb_y bb (szH mb_y)
 replace hB := Below.on hB bb
 replace K_s := K_s.below bb
 replace K_x := K_x.below bb
 replace K_y := K_y.below bb
 clear bb
 refine hK.out _ _ ⟨mb_s, mb_x, mb_y⟩ (fun hHeld => ?_)
 clear hK K
 try simp only [lays]
 refine tkH 1 (.bool true) rfl (Or.inl ⟨by rfl, fun w' hSw => by obtain ⟨qs, qx, qy⟩ := hSw; obtain ⟨s0, s1, s2, s3, s4, s5⟩ := six qs; obtain ⟨x0, x1, x2, x3, x4, x5⟩ := six qx; obtain ⟨y0, y1, y2, y3, y4, y5⟩ := six qy; go_simp⟩) hHeld ?_
 simp only [lays]
 refine tkH 2 (.agg #[.slice ba b.length bc, .int .i64 m.guest, .slice ra m.root.length rc, .slice sa m.slots.length sc, .slice fa m.refs.length fc, .slice na m.snaps.length nc]) rfl (Or.inl ⟨by rfl, fun w' hSw => by obtain ⟨qs, qx, qy⟩ := hSw; obtain ⟨s0, s1, s2, s3, s4, s5⟩ := six qs; obtain ⟨x0, x1, x2, x3, x4, x5⟩ := six qx; obtain ⟨y0, y1, y2, y3, y4, y5⟩ := six qy; go_simp⟩) hHeld ?_
 simp only [lays]
 refine tkH 4 (.agg #[.slice ba b.length bc, .int .i64 m.guest, .slice ra m.root.length rc, .slice sa m.slots.length sc, .slice fa m.refs.length fc, .slice na m.snaps.length nc]) rfl (Or.inl ⟨by rfl, fun w' hSw => by obtain ⟨qs, qx, qy⟩ := hSw; obtain ⟨s0, s1, s2, s3, s4, s5⟩ := six qs; obtain ⟨x0, x1, x2, x3, x4, x5⟩ := six qx; obtain ⟨y0, y1, y2, y3, y4, y5⟩ := six qy; go_simp⟩) hHeld ?_
 simp only [lays]
 refine wpAnyH_ready (rs := [3]) (by kernel_rfl) (by simp) ?_
 refine AllReadyH.cons rfl (fun K hK => ?_) AllReadyH.nil
 clear hHeld
 simp only [lays]
 rw [if_pos (by rfl)]
 go_wp2_with (go_at_call 10; refine (sk_check K_s HC.out).mono ?_; rintro e w6 ⟨rfl, bb⟩)
 replace mb_s := cells_below mb_s bb (szH mb_s)
 replace mb_x := cells_below mb_x bb (szH mb_x)
 replace mb_y := cells_below mb_y bb (szH mb_y)
 replace hB := Below.on hB bb
 replace K_s := K_s.below bb
 replace K_x := K_x.below bb
 replace K_y := K_y.below bb
 clear bb
 refine hK.out _ _ ⟨mb_s, mb_x, mb_y⟩ (fun hHeld => ?_)
 clear hK K
 try simp only [lays]
 refine wpAnyH_ready (rs := [5]) (by kernel_rfl) (by simp) ?_
 refine AllReadyH.cons rfl (fun K hK => ?_) AllReadyH.nil
 clear hHeld
 simp only [lays]
 rw [if_pos (by rfl)]
 go_wp2_with (go_at_call 11; refine (ckStk_is K_s HC.out).mono ?_; rintro e w7 ⟨rfl, bb⟩)
 replace mb_s := cells_below mb_s bb (szH mb_s)
 replace mb_x := cells_below mb_x bb (szH mb_x)
 replace mb_y := cells_below mb_y bb (szH mb_y)
 replace hB := Below.on hB bb
 replace K_s := K_s.below bb
 replace K_x := K_x.below bb
 replace K_y := K_y.below bb
 clear bb
 refine hK.out _ _ ⟨mb_s, mb_x, mb_y⟩ (fun hHeld => ?_)
 clear hK K
 try simp only [lays]
 refine tkH 6 (.bool true) rfl (Or.inl ⟨by rfl, fun w' hSw => by obtain ⟨qs, qx, qy⟩ := hSw; obtain ⟨s0, s1, s2, s3, s4, s5⟩ := six qs; obtain ⟨x0, x1, x2, x3, x4, x5⟩ := six qx; obtain ⟨y0, y1, y2, y3, y4, y5⟩ := six qy; go_simp⟩) hHeld ?_
 simp only [lays]
 refine tkH 7 (.bool true) rfl (Or.inl ⟨by rfl, fun w' hSw => by obtain ⟨qs, qx, qy⟩ := hSw; obtain ⟨s0, s1, s2, s3, s4, s5⟩ := six qs; obtain ⟨x0, x1, x2, x3, x4, x5⟩ := six qx; obtain ⟨y0, y1, y2, y3, y4, y5⟩ := six qy; go_simp⟩) hHeld ?_
 simp only [lays]
 refine tkH 8 (.bool true) rfl (Or.inl ⟨by rfl, fun w' hSw => by obtain ⟨qs, qx, qy⟩ := hSw; obtain ⟨s0, s1, s2, s3, s4, s5⟩ := six qs; obtain ⟨x0, x1, x2, x3, x4, x5⟩ := six qx; obtain ⟨y0, y1, y2, y3, y4, y5⟩ := six qy; go_simp⟩) hHeld ?_
 simp only [lays]
 refine tkH 9 (.string ⟨#[]⟩) rfl (Or.inl ⟨by rfl, fun w' hSw => by obtain ⟨qs, qx, qy⟩ := hSw; obtain ⟨s0, s1, s2, s3, s4, s5⟩ := six qs; obtain ⟨x0, x1, x2, x3, x4, x5⟩ := six qx; obtain ⟨y0, y1, y2, y3, y4, y5⟩ := six qy; go_simp⟩) hHeld ?_
 simp only [lays]
 refine tkH 10 (.string ⟨#[]⟩) rfl (Or.inl ⟨by rfl, fun w' hSw => by obtain ⟨qs, qx, qy⟩ := hSw; obtain ⟨s0, s1, s2, s3, s4, s5⟩ := six qs; obtain ⟨x0, x1, x2, x3, x4, x5⟩ := six qx; obtain ⟨y0, y1, y2, y3, y4, y5⟩ := six qy; go_simp⟩) hHeld ?_
 simp only [lays]
 refine tkH 11 (.bool true) rfl (Or.inl ⟨by rfl, fun w' hSw => by obtain ⟨qs, qx, qy⟩ := hSw; obtain ⟨s0, s1, s2, s3, s4, s5⟩ := six qs; obtain ⟨x0, x1, x2, x3, x4, x5⟩ := six qx; obtain ⟨y0, y1, y2, y3, y4, y5⟩ := six qy; go_simp⟩) hHeld ?_
 simp only [lays]
 refine tkH 12 (.bool true) rfl (Or.inl ⟨by rfl, fun w' hSw => by obtain ⟨qs, qx, qy⟩ := hSw; obtain ⟨s0, s1, s2, s3, s4, s5⟩ := six qs; obtain ⟨x0, x1, x2, x3, x4, x5⟩ := six qx; obtain ⟨y0, y1, y2, y3, y4, y5⟩ := six qy; go_simp⟩) hHeld ?_
 simp only [lays]
 refine tkH 13 (.bool true) rfl (Or.inl ⟨by rfl, fun w' hSw => by obtain ⟨qs, qx, qy⟩ := hSw; obtain ⟨s0, s1, s2, s3, s4, s5⟩ := six qs; obtain ⟨x0, x1, x2, x3, x4, x5⟩ := six qx; obtain ⟨y0, y1, y2, y3, y4, y5⟩ := six qy; go_simp⟩) hHeld ?_
 simp only [lays]
 refine tkH 14 (.int .i64 E) rfl (Or.inl ⟨by rfl, fun w' hSw => by obtain ⟨qs, qx, qy⟩ := hSw; obtain ⟨s0, s1, s2, s3, s4, s5⟩ := six qs; obtain ⟨x0, x1, x2, x3, x4, x5⟩ := six qx; obtain ⟨y0, y1, y2, y3, y4, y5⟩ := six qy; go_simp⟩) hHeld ?_
 simp only [lays]
 refine tkH 15 (.int .i64 E) rfl (Or.inl ⟨by rfl, fun w' hSw => by obtain ⟨qs, qx, qy⟩ := hSw; obtain ⟨s0, s1, s2, s3, s4, s5⟩ := six qs; obtain ⟨x0, x1, x2, x3, x4, x5⟩ := six qx; obtain ⟨y0, y1, y2, y3, y4, y5⟩ := six qy; go_simp⟩) hHeld ?_
 simp only [lays]
 refine tkH 16 (.bool true) rfl (Or.inl ⟨by rfl, fun w' hSw => by obtain ⟨qs, qx, qy⟩ := hSw; obtain ⟨s0, s1, s2, s3, s4, s5⟩ := six qs; obtain ⟨x0, x1, x2, x3, x4, x5⟩ := six qx; obtain ⟨y0, y1, y2, y3, y4, y5⟩ := six qy; go_simp⟩) hHeld ?_
 simp only [lays]
 refine tkH 17 (.bool true) rfl (Or.inl ⟨by rfl, fun w' hSw => by obtain ⟨qs, qx, qy⟩ := hSw; obtain ⟨s0, s1, s2, s3, s4, s5⟩ := six qs; obtain ⟨x0, x1, x2, x3, x4, x5⟩ := six qx; obtain ⟨y0, y1, y2, y3, y4, y5⟩ := six qy; go_simp⟩) hHeld ?_
 simp only [lays]
 refine tkH 18 (.bool true) rfl (Or.inl ⟨by rfl, fun w' hSw => by obtain ⟨qs, qx, qy⟩ := hSw; obtain ⟨s0, s1, s2, s3, s4, s5⟩ := six qs; obtain ⟨x0, x1, x2, x3, x4, x5⟩ := six qx; obtain ⟨y0, y1, y2, y3, y4, y5⟩ := six qy; go_simp⟩) hHeld ?_
 simp only [lays]
 refine tkH 19 (.int .i64 EW) rfl (Or.inl ⟨by rfl, fun w' hSw => by obtain ⟨qs, qx, qy⟩ := hSw; obtain ⟨s0, s1, s2, s3, s4, s5⟩ := six qs; obtain ⟨x0, x1, x2, x3, x4, x5⟩ := six qx; obtain ⟨y0, y1, y2, y3, y4, y5⟩ := six qy; go_simp⟩) hHeld ?_
 simp only [lays]
 refine tkH 20 (.int .i64 EW) rfl (Or.inl ⟨by rfl, fun w' hSw => by obtain ⟨qs, qx, qy⟩ := hSw; obtain ⟨s0, s1, s2, s3, s4, s5⟩ := six qs; obtain ⟨x0, x1, x2, x3, x4, x5⟩ := six qx; obtain ⟨y0, y1, y2, y3, y4, y5⟩ := six qy; go_simp⟩) hHeld ?_
 simp only [lays]
 refine tkH 21 (.bool true) rfl (Or.inl ⟨by rfl, fun w' hSw => by obtain ⟨qs, qx, qy⟩ := hSw; obtain ⟨s0, s1, s2, s3, s4, s5⟩ := six qs; obtain ⟨x0, x1, x2, x3, x4, x5⟩ := six qx; obtain ⟨y0, y1, y2, y3, y4, y5⟩ := six qy; go_simp⟩) hHeld ?_
 simp only [lays]
 refine tkH 22 (.bool true) rfl (Or.inl ⟨by rfl, fun w' hSw => by obtain ⟨qs, qx, qy⟩ := hSw; obtain ⟨s0, s1, s2, s3, s4, s5⟩ := six qs; obtain ⟨x0, x1, x2, x3, x4, x5⟩ := six qx; obtain ⟨y0, y1, y2, y3, y4, y5⟩ := six qy; go_simp⟩) hHeld ?_
 simp only [lays]
 refine tkH 23 (.bool true) rfl (Or.inl ⟨by rfl, fun w' hSw => by obtain ⟨qs, qx, qy⟩ := hSw; obtain ⟨s0, s1, s2, s3, s4, s5⟩ := six qs; obtain ⟨x0, x1, x2, x3, x4, x5⟩ := six qx; obtain ⟨y0, y1, y2, y3, y4, y5⟩ := six qy; go_simp⟩) hHeld ?_
 simp only [lays]
 refine tkH 24 (.agg #[.slice x_b BW.length x_bc, .int .i64 MW.guest, .slice x_r MW.root.length x_rc, .slice x_s MW.slots.length x_sc, .slice x_f MW.refs.length x_fc, .slice x_n MW.snaps.length x_nc]) rfl (Or.inl ⟨by rfl, fun w' hSw => by obtain ⟨qs, qx, qy⟩ := hSw; obtain ⟨s0, s1, s2, s3, s4, s5⟩ := six qs; obtain ⟨x0, x1, x2, x3, x4, x5⟩ := six qx; obtain ⟨y0, y1, y2, y3, y4, y5⟩ := six qy; go_simp⟩) hHeld ?_
 simp only [lays]
 refine tkH 25 (.agg #[.slice y_b BW.length y_bc, .int .i64 MW.guest, .slice y_r MW.root.length y_rc, .slice y_s MW.slots.length y_sc, .slice y_f MW.refs.length y_fc, .slice y_n MW.snaps.length y_nc]) rfl (Or.inl ⟨by rfl, fun w' hSw => by obtain ⟨qs, qx, qy⟩ := hSw; obtain ⟨s0, s1, s2, s3, s4, s5⟩ := six qs; obtain ⟨x0, x1, x2, x3, x4, x5⟩ := six qx; obtain ⟨y0, y1, y2, y3, y4, y5⟩ := six qy; go_simp⟩) hHeld ?_
 simp only [lays]
 refine wpAnyH_ready (rs := [26]) (by kernel_rfl) (by simp) ?_
 refine AllReadyH.cons rfl (fun K hK => ?_) AllReadyH.nil
 clear hHeld
 simp only [lays]
 rw [if_pos (by rfl)]
 go_wp2_with (go_at_call 12; refine (sameStk_is K_x K_y).mono ?_; rintro e w8 ⟨rfl, bb⟩)
 replace mb_s := cells_below mb_s bb (szH mb_s)
 replace mb_x := cells_below mb_x bb (szH mb_x)
 replace mb_y := cells_below mb_y bb (szH mb_y)
 replace hB := Below.on hB bb
 replace K_s := K_s.below bb
 replace K_x := K_x.below bb
 replace K_y := K_y.below bb
 clear bb
 refine hK.out _ _ ⟨mb_s, mb_x, mb_y⟩ (fun hHeld => ?_)
 clear hK K
 try simp only [lays]
 refine tkH 27 (.bool true) rfl (Or.inl ⟨by rfl, fun w' hSw => by obtain ⟨qs, qx, qy⟩ := hSw; obtain ⟨s0, s1, s2, s3, s4, s5⟩ := six qs; obtain ⟨x0, x1, x2, x3, x4, x5⟩ := six qx; obtain ⟨y0, y1, y2, y3, y4, y5⟩ := six qy; go_simp⟩) hHeld ?_
 simp only [lays]
 refine tkH 28 (.bool true) rfl (Or.inl ⟨by rfl, fun w' hSw => by obtain ⟨qs, qx, qy⟩ := hSw; obtain ⟨s0, s1, s2, s3, s4, s5⟩ := six qs; obtain ⟨x0, x1, x2, x3, x4, x5⟩ := six qx; obtain ⟨y0, y1, y2, y3, y4, y5⟩ := six qy; go_simp⟩) hHeld ?_
 simp only [lays]
 clear hHeld
 refine wpAnyH_done (by kernel_rfl) ?_ _
 go_wp2_with fail
 go_ret
 exact ⟨rfl, hB⟩
theorem stells_is {v : Value} {b : List ByteArray} {m : ImgD} {w : World} (h : Stk w v b m) (n : Int) (page : ByteArray) : Calls Tryz.prog 3 #[v, .int .i64 n, .string page] w fun r w' => r = .returned (.bool true) ∧ Below w.heap.size w w' := by
 have h' := h
 obtain ⟨ba, bc, ra, rc, sa, sc, fa, fc, na, nc, rfl, _, _⟩ := h.parts
 by_cases he : srE b m n = 0
 ·exact stells_ok ba bc ra rc sa sc fa fc na nc b m n page w h' _ _ _ ⟨rfl, rfl, rfl⟩ _ rfl _ ⟨he, rfl⟩
 ·exact stells_bad ba bc ra rc sa sc fa fc na nc b m n page w h' _ _ _ ⟨rfl, rfl, rfl⟩ _ rfl _ ⟨rfl, by unfold srV; rw [if_pos he]; rfl⟩ (by simpa using he)
end Go.Proofs.YtehleeibgkpjmaeGreat
namespace Go.Proofs.YtehleeibgkpjmaeGreat
open Go.RowKit Go.Deep Go.ChangeShapes Go.WideShapes Go.ChangeAt
set_option maxRecDepth 20000
theorem cells27 : Tryz.prog.cellsOf 23 = 1 := by kernel_rfl
theorem cells3 : Tryz.prog.cellsOf 3 = 1 := by kernel_rfl
theorem cells9 : Tryz.prog.cellsOf 9 = 1 := by kernel_rfl
theorem cells29 : Tryz.prog.cellsOf 58 = 3 := by kernel_rfl
variable {H : Type} {enc : TypeId × Value → H} {w : World} {base : Nat} {spare : Nat → Bool} {held : Bool}
theorem row_at {w : World} {a : Addr} {n : Nat} {f : Nat → Value} (hn : 0 < n) (h : ∀ i, i < n → w.cell? (a.add i) = some (f i)) :
  ∃ b off, a = ⟨b, off, none⟩ ∧ b < w.heap.size ∧ ∀ i, i < n → w.cell? ⟨b, off + i, none⟩ = some (f i) := by
 have h0 := h 0 hn
 obtain ⟨b, off, spot⟩ := a
 have hspot : spot = none := by simpa [Addr.add] using World.cell?_spot h0
 subst hspot
 refine ⟨b, off, rfl, World.block_lt_of_cell? w _ (by rw [addr_add] at h0; exact h0), fun i hi => ?_⟩
 have := h i hi
 rw [addr_add] at this
 exact this
theorem sl_of_trod {n : Nat} {cs : List Value} {x : DataW H × List MemPlace} (h : DataW.trod enc Tryz.prog w base spare held n 23 cs = some x) : ∃ v xs, cs = [v] ∧ Sl w v xs := by
 rcases open_ints Tryz.underlying23 Tryz.underlying3 cells3 h with ⟨rfl, _⟩ | ⟨a, l, c, zs, rfl, _, hl, hm, hz, _, hcell, _⟩
 ·exact ⟨_, [], rfl, Sl.nil w⟩
 ·have hlz : l ≤ zs.length := by rw [hz]; split <;> omega
  have hlen : (zs.take l).length = l := by simp; omega
  refine ⟨_, zs.take l, rfl, some a, c, by rw [hlen], by rw [hlen]; omega, by rw [hlen]; exact hl, fun hne => ?_⟩
  have hpos : 0 < l := by
   rcases Nat.eq_zero_or_pos l with e | e
   ·subst e; simp at hne
   ·exact e
  obtain ⟨b, off, rfl, hb, hc⟩ := row_at (w := w) (a := a) (n := l) (f := fun i => .int .i64 (zs.getD i 0)) hpos (fun i hi => hcell i (by omega))
  refine ⟨b, off, rfl, hb, fun j hj => ?_⟩
  rw [hlen] at hj
  rw [hc j hj]
  simp [List.getD, hj]
set_option maxRecDepth 20000 in
theorem slot_of_trod {n : Nat} {cs : List Value} {x : DataW H × List MemPlace} (h : DataW.trod enc Tryz.prog w base spare held n 58 cs = some x) :
  ∃ k d tv xs, cs = [.int .i64 k, .string d, tv] ∧ Sl w tv xs := by
 obtain ⟨y0, y1, y2, m, _, hl, h0, h1, h2⟩ := trod_struct3 Tryz.underlying58 h
 rw [cells29] at hl
 match cs, hl with
 | [c0, c1, c2], _ =>
  simp only [cells3, cells9, cells27] at h0 h1 h2
  obtain ⟨k, e0, _, _⟩ := DataW.trod_int Tryz.underlying3 h0
  obtain ⟨d, e1, _, _⟩ := DataW.trod_string Tryz.underlying9 h1
  obtain ⟨tv, xs, e2, hs⟩ := sl_of_trod h2
  simp at e0 e1 e2
  subst e0 e1 e2
  exact ⟨k, d, _, xs, rfl, hs⟩
theorem slots_of_trod {n : Nat} {v : Value} {x : DataW H × List MemPlace} (h : DataW.trod enc Tryz.prog w base spare held n 24 [v] = some x) : ∃ L, Slots w v L := by
 rcases open_slice Tryz.underlying24 h with ⟨hv, _⟩ | ⟨a, len, cap, m, fuel, D, Pl, hv, _, hl, hm, hmm, _, hx⟩
 ·simp at hv
  subst hv
  exact ⟨[], none, 0, rfl, Nat.zero_le _, Nat.zero_le _, fun h => absurd rfl h⟩
 ·simp at hv
  subst hv
  rw [cells29] at hx
  have hx' : ∀ i, i < len → ∃ s : SlotD, ∃ tv, w.cell? (a.add (i * 3)) = some (.int .i64 s.1) ∧ w.cell? ((a.add (i * 3)).add 1) = some (.string s.2.1) ∧ w.cell? ((a.add (i * 3)).add 2) = some tv ∧ Sl w tv s.2.2 := by
   intro i hi
   obtain ⟨cs', h1, h2⟩ := hx i (by rw [hmm]; split <;> omega)
   obtain ⟨k, d, tv, xs, rfl, hs⟩ := slot_of_trod h2
   obtain ⟨_, _, hc⟩ := World.cells?_some h1
   have c0 := hc 0 (by omega)
   have c1 := hc 1 (by omega)
   have c2 := hc 2 (by omega)
   exact ⟨(k, d, xs), tv, by simpa [Addr.add] using c0, c1, c2, hs⟩
  obtain ⟨f, hf⟩ := choose_lt hx'
  have hlen : ((List.range len).map f).length = len := by simp
  refine ⟨(List.range len).map f, some a, cap, by rw [hlen], by rw [hlen]; omega, by rw [hlen]; exact hl, fun hne => ?_⟩
  have hpos : 0 < len := by
   rcases Nat.eq_zero_or_pos len with e | e
   ·subst e; simp at hne
   ·exact e
  obtain ⟨tv0, c0, _⟩ := hf 0 hpos
  obtain ⟨b, off, spot⟩ := a
  have hspot : spot = none := by simpa [Addr.add] using World.cell?_spot c0
  subst hspot
  refine ⟨b, off, rfl, World.block_lt_of_cell? w _ (by rw [addr_add] at c0; exact c0), fun j hj => ?_⟩
  rw [hlen] at hj
  obtain ⟨tv, c0, c1, c2, hs⟩ := hf j hj
  rw [addr_add] at c0 c1 c2
  rw [addr_add] at c1 c2
  have e : ((List.range len).map f)[j]'(by rw [hlen]; exact hj) = f j := by simp
  rw [e]
  exact ⟨tv, c0, c1, c2, hs⟩
end Go.Proofs.YtehleeibgkpjmaeGreat
namespace Go.Proofs.YtehleeibgkpjmaeGreat
open Go.RowKit Go.Deep Go.ChangeShapes Go.WideShapes Go.ChangeAt
set_option maxRecDepth 20000
theorem cellsSnap : Tryz.prog.cellsOf 76 = 3 := by kernel_rfl
theorem cellsSnaps : Tryz.prog.cellsOf 25 = 1 := by kernel_rfl
theorem cellsSlots : Tryz.prog.cellsOf 24 = 1 := by kernel_rfl
theorem cellsImage : Tryz.prog.cellsOf 27 = 5 := by kernel_rfl
variable {H : Type} {enc : TypeId × Value → H} {w : World} {base : Nat} {spare : Nat → Bool} {held : Bool}
set_option maxRecDepth 20000 in
theorem snap_of_trod {n : Nat} {cs : List Value} {x : DataW H × List MemPlace} (h : DataW.trod enc Tryz.prog w base spare held n 76 cs = some x) :
  ∃ d k tv xs, cs = [.string d, .int .i64 k, tv] ∧ Sl w tv xs := by
 obtain ⟨y0, y1, y2, m, _, hl, h0, h1, h2⟩ := trod_struct3 Tryz.underlying76 h
 rw [cellsSnap] at hl
 match cs, hl with
 | [c0, c1, c2], _ =>
  simp only [cells3, cells9, cells27] at h0 h1 h2
  obtain ⟨d, e0, _, _⟩ := DataW.trod_string Tryz.underlying9 h0
  obtain ⟨k, e1, _, _⟩ := DataW.trod_int Tryz.underlying3 h1
  obtain ⟨tv, xs, e2, hs⟩ := sl_of_trod h2
  simp at e0 e1 e2
  subst e0 e1 e2
  exact ⟨d, k, _, xs, rfl, hs⟩
theorem snaps_of_trod {n : Nat} {v : Value} {x : DataW H × List MemPlace} (h : DataW.trod enc Tryz.prog w base spare held n 25 [v] = some x) : ∃ L, Snaps w v L := by
 rcases open_slice Tryz.underlying25 h with ⟨hv, _⟩ | ⟨a, len, cap, m, fuel, D, Pl, hv, _, hl, hm, hmm, _, hx⟩
 ·simp at hv
  subst hv
  exact ⟨[], none, 0, rfl, Nat.zero_le _, Nat.zero_le _, fun h => absurd rfl h⟩
 ·simp at hv
  subst hv
  rw [cellsSnap] at hx
  have hx' : ∀ i, i < len → ∃ s : SnapD, ∃ tv, w.cell? (a.add (i * 3)) = some (.string s.1) ∧ w.cell? ((a.add (i * 3)).add 1) = some (.int .i64 s.2.1) ∧ w.cell? ((a.add (i * 3)).add 2) = some tv ∧ Sl w tv s.2.2 := by
   intro i hi
   obtain ⟨cs', h1, h2⟩ := hx i (by rw [hmm]; split <;> omega)
   obtain ⟨k, d, tv, xs, rfl, hs⟩ := snap_of_trod h2
   obtain ⟨_, _, hc⟩ := World.cells?_some h1
   have c0 := hc 0 (by omega)
   have c1 := hc 1 (by omega)
   have c2 := hc 2 (by omega)
   exact ⟨(k, d, xs), tv, by simpa [Addr.add] using c0, c1, c2, hs⟩
  obtain ⟨f, hf⟩ := choose_lt hx'
  have hlen : ((List.range len).map f).length = len := by simp
  refine ⟨(List.range len).map f, some a, cap, by rw [hlen], by rw [hlen]; omega, by rw [hlen]; exact hl, fun hne => ?_⟩
  have hpos : 0 < len := by
   rcases Nat.eq_zero_or_pos len with e | e
   ·subst e; simp at hne
   ·exact e
  obtain ⟨tv0, c0, _⟩ := hf 0 hpos
  obtain ⟨b, off, spot⟩ := a
  have hspot : spot = none := by simpa [Addr.add] using World.cell?_spot c0
  subst hspot
  refine ⟨b, off, rfl, World.block_lt_of_cell? w _ (by rw [addr_add] at c0; exact c0), fun j hj => ?_⟩
  rw [hlen] at hj
  obtain ⟨tv, c0, c1, c2, hs⟩ := hf j hj
  rw [addr_add] at c0 c1 c2
  rw [addr_add] at c1 c2
  have e : ((List.range len).map f)[j]'(by rw [hlen]; exact hj) = f j := by simp
  rw [e]
  exact ⟨tv, c0, c1, c2, hs⟩
theorem trod_struct5 {P : Program} {t : TypeId} {f0 f1 f2 f3 f4 : Field} {fuel : Nat} {cs : List Value} {x : DataW H × List MemPlace} (ht : P.underlying t = some (.struct #[f0, f1, f2, f3, f4])) (h : DataW.trod enc P w base spare held fuel t cs = some x) :
  ∃ y0 y1 y2 y3 y4 n, cs.length = P.cellsOf t ∧ DataW.trod enc P w base spare held n f0.type ((cs.drop f0.offset).take (P.cellsOf f0.type)) = some y0 ∧
   DataW.trod enc P w base spare held n f1.type ((cs.drop f1.offset).take (P.cellsOf f1.type)) = some y1 ∧ DataW.trod enc P w base spare held n f2.type ((cs.drop f2.offset).take (P.cellsOf f2.type)) = some y2 ∧
   DataW.trod enc P w base spare held n f3.type ((cs.drop f3.offset).take (P.cellsOf f3.type)) = some y3 ∧ DataW.trod enc P w base spare held n f4.type ((cs.drop f4.offset).take (P.cellsOf f4.type)) = some y4 := by
 obtain ⟨xs, n, _, rfl, hl, hlen, hf⟩ := DataW.trod_struct ht h
 match xs, hlen with
 | [y0, y1, y2, y3, y4], _ => exact ⟨y0, y1, y2, y3, y4, n, hl, by simpa using hf 0 f0 rfl, by simpa using hf 1 f1 rfl, by simpa using hf 2 f2 rfl, by simpa using hf 3 f3 rfl, by simpa using hf 4 f4 rfl⟩
set_option maxRecDepth 20000 in
theorem img_of_trod {n : Nat} {cs : List Value} {x : DataW H × List MemPlace} (h : DataW.trod enc Tryz.prog w base spare held n 27 cs = some x) : ∃ g rv sv fv nv, cs = [.int .i64 g, rv, sv, fv, nv] ∧ ∃ r L F S, Sl w rv r ∧ Slots w sv L ∧ Sl w fv F ∧ Snaps w nv S := by
 obtain ⟨y0, y1, y2, y3, y4, m, hl, h0, h1, h2, h3, h4⟩ := trod_struct5 Tryz.underlying27 h
 rw [cellsImage] at hl
 match cs, hl with
 | [c0, c1, c2, c3, c4], _ =>
  simp only [cells3] at h0
  simp only [cells27] at h1 h3
  simp only [cellsSlots] at h2
  simp only [cellsSnaps] at h4
  obtain ⟨g, e0, _, _⟩ := DataW.trod_int Tryz.underlying3 h0
  obtain ⟨rv, r, e1, hr⟩ := sl_of_trod h1
  obtain ⟨L, hL⟩ := slots_of_trod (v := c2) h2
  obtain ⟨fv, F, e3, hF⟩ := sl_of_trod h3
  obtain ⟨S, hS⟩ := snaps_of_trod (v := c4) h4
  simp at e0 e1 e3
  subst e0 e1 e3
  exact ⟨g, _, _, _, _, rfl, r, L, F, S, hr, hL, hF, hS⟩
end Go.Proofs.YtehleeibgkpjmaeGreat
namespace Go.Proofs.YtehleeibgkpjmaeGreat
open Go.RowKit Go.ChangeShapes Go.WideShapes Go.ChangeAt
set_option maxRecDepth 20000
theorem cellsStr : Tryz.prog.cellsOf 9 = 1 := by kernel_rfl
variable {H : Type} {enc : TypeId × Value → H} {w : World} {base : Nat} {spare : Nat → Bool} {held : Bool}
theorem ss_of_trod {n : Nat} {cs : List Value} {x : DataW H × List MemPlace} (h : DataW.trod enc Tryz.prog w base spare held n 22 cs = some x) : ∃ v xs, cs = [v] ∧ Ss w v xs ∧ ∀ s ∈ xs, s.size ≤ maxLen := by
 rcases open_strings Tryz.underlying22 Tryz.underlying9 cellsStr h with ⟨rfl, _⟩ | ⟨a, l, c, ss, rfl, _, hl, hm, hz, _, hcell, hws⟩
 ·exact ⟨_, [], rfl, Ss.nil w, by simp⟩
 ·have hlz : l ≤ ss.length := by rw [hz]; split <;> omega
  have hlen : (ss.take l).length = l := by simp; omega
  refine ⟨_, ss.take l, rfl, ⟨some a, c, by rw [hlen], by rw [hlen]; omega, by rw [hlen]; exact hl, fun hne => ?_⟩, fun s hs => hws s (List.mem_of_mem_take hs)⟩
  have hpos : 0 < l := by
   rcases Nat.eq_zero_or_pos l with e | e
   ·subst e; simp at hne
   ·exact e
  have h0 := hcell 0 (by omega)
  obtain ⟨b, off, spot⟩ := a
  have hspot : spot = none := by simpa [Addr.add] using World.cell?_spot h0
  subst hspot
  refine ⟨b, off, rfl, World.block_lt_of_cell? w _ (by rw [addr_add] at h0; exact h0), fun j hj => ?_⟩
  rw [hlen] at hj
  have hj' := hcell j (by omega)
  rw [addr_add] at hj'
  rw [hj']
  simp [List.getD, hj]
end Go.Proofs.YtehleeibgkpjmaeGreat
namespace Go.Proofs.YtehleeibgkpjmaeGreat
open Go.RowKit Go.Deep Go.ChangeShapes Go.WideShapes Go.ChangeAt
set_option maxRecDepth 20000
theorem cellsStack : Tryz.prog.cellsOf 29 = 6 := by kernel_rfl
theorem cellsStrs : Tryz.prog.cellsOf 22 = 1 := by kernel_rfl
variable {H : Type} {enc : TypeId × Value → H} {w : World} {base : Nat} {spare : Nat → Bool} {held : Bool}
theorem trod_struct2 {P : Program} {t : TypeId} {f0 f1 : Field} {fuel : Nat} {cs : List Value} {x : DataW H × List MemPlace} (ht : P.underlying t = some (.struct #[f0, f1])) (h : DataW.trod enc P w base spare held fuel t cs = some x) :
  ∃ y0 y1 n, cs.length = P.cellsOf t ∧ DataW.trod enc P w base spare held n f0.type ((cs.drop f0.offset).take (P.cellsOf f0.type)) = some y0 ∧ DataW.trod enc P w base spare held n f1.type ((cs.drop f1.offset).take (P.cellsOf f1.type)) = some y1 := by
 obtain ⟨xs, n, _, rfl, hl, hlen, hf⟩ := DataW.trod_struct ht h
 match xs, hlen with
 | [y0, y1], _ => exact ⟨y0, y1, n, hl, by simpa using hf 0 f0 rfl, by simpa using hf 1 f1 rfl⟩
set_option maxRecDepth 20000 in
theorem stk_of_trod {n : Nat} {cs : List Value} {x : DataW H × List MemPlace} (h : DataW.trod enc Tryz.prog w base spare held n 29 cs = some x) : ∃ bv g rv sv fv nv, cs = [bv, .int .i64 g, rv, sv, fv, nv] ∧ ∃ b r L F S, Ss w bv b ∧ Sl w rv r ∧ Slots w sv L ∧ Sl w fv F ∧ Snaps w nv S := by
 obtain ⟨y0, y1, m, hl, h0, h1⟩ := trod_struct2 Tryz.underlying29 h
 rw [cellsStack] at hl
 match cs, hl with
 | [c0, c1, c2, c3, c4, c5], _ =>
  simp only [cellsStrs] at h0
  simp only [cellsImage] at h1
  have h0 : DataW.trod enc Tryz.prog w base spare held m 22 [c0] = some y0 := h0
  have h1 : DataW.trod enc Tryz.prog w base spare held m 27 [c1, c2, c3, c4, c5] = some y1 := h1
  obtain ⟨g, rv, sv, fv, nv, e, r, L, F, S, k1, k2, k3, k4⟩ := img_of_trod h1
  simp at e
  obtain ⟨rfl, rfl, rfl, rfl, rfl⟩ := e
  obtain ⟨bv, b, eb, hb, _⟩ := ss_of_trod h0
  simp at eb
  subst eb
  exact ⟨_, g, _, _, _, _, rfl, b, r, L, F, S, hb, k1, k2, k3, k4⟩
theorem stk_of_arg {r : Reach} {b0 : Nat} {v : Value} {d : DataW H} {p : List MemPlace} (hv : Value.okWide Tryz.prog w r b0 29 v) (h : DataW.Trod enc Tryz.prog w base spare held 29 v d p) : ∃ b m, Stk w v b m := by
 obtain ⟨cs, rfl, hsz⟩ := okWide_struct Tryz.underlying29 hv
 obtain ⟨fuel, hf⟩ := h
 obtain ⟨bv, g, rv, sv, fv, nv, e, b, r, L, F, S, h0, h1, h2, h3, h4⟩ := stk_of_trod hf
 have e' : cs.toList = [bv, .int .i64 g, rv, sv, fv, nv] := by simpa [Value.cells] using e
 cases cs
 simp at e'
 exact ⟨b, ⟨g, r, L, F, S⟩, bv, rv, sv, fv, nv, by rw [e'], h0, rv, sv, fv, nv, rfl, h1, h2, h3, h4⟩
end Go.Proofs.YtehleeibgkpjmaeGreat
