/- Texts joined: SBare, SlotsIn, ImgIn, StrsIn, StkIn. -/
import Derived.Test.YtehleeibgkpjmafStackBareJ9
import Derived.Test.YtehleeibgkpjmafStackBareJ1
import Derived.Deep.Strs
import Derived.Deep.Slices
import Derived.ProofKit
import Derived.SliceStrings
import Derived.Test.YtehleeibgkpjmafStackBareJ3
/- The walk of StackBare. -/
namespace Go.Proofs.Ytehleeibgkpjmaf
open Go.RowKit Go.Shelf
set_option maxRecDepth 20000
set_option linter.unusedVariables false

theorem Stk.bare {w : World} {b : List ByteArray} {m : ImgD} {bv r s f n : Value} (h : Stk w (.agg #[bv, .int .i64 m.guest, r, s, f, n]) b m) : Stk w (.agg #[.slice none 0 0, .int .i64 m.guest, r, s, f, n]) [] m := ⟨_, _, _, _, _, rfl, Ss.nil w, h.top⟩
theorem Stk.mk' {w : World} {b : List ByteArray} {m : ImgD} {bv r s f n : Value} (h : Ss w bv b) (k : Img w (.agg #[.int .i64 m.guest, r, s, f, n]) m) : Stk w (.agg #[bv, .int .i64 m.guest, r, s, f, n]) b m := ⟨_, _, _, _, _, rfl, h, k⟩

set_option maxHeartbeats 16000000 in
theorem sb_bad (ba : Option Addr) (bc : Nat) (ra : Option Addr) (rc : Nat) (sa : Option Addr) (sc : Nat) (fa : Option Addr) (fc : Nat) (na : Option Addr) (nc : Nat) (b : List ByteArray) (m : ImgD) (n : Int) (w : World) (h : Stk w (.agg #[.slice ba b.length bc, .int .i64 m.guest, .slice ra m.root.length rc, .slice sa m.slots.length sc, .slice fa m.refs.length fc, .slice na m.snaps.length nc]) b m) (E F G H : Int) (P Q R : ByteArray) (C : Int) (H1 : Hid (srE b m n = E ∧ srV b m n = P)) (H2 : Hid (srE [] m n = F ∧ srV [] m n = Q)) (H3 : Hid (lookE m n = G ∧ readV m n = R)) (H4 : Hid (lookE m n = H ∧ (if H = 0 then lookV m m.root n.toNat else 0) = C)) (hne : (E != 0) = true) :
    Calls Try.prog 4 #[.agg #[.slice ba b.length bc, .int .i64 m.guest, .slice ra m.root.length rc, .slice sa m.slots.length sc, .slice fa m.refs.length fc, .slice na m.snaps.length nc], .int .i64 n] w fun r w' => r = .returned (.bool true) ∧ Below w.heap.size w w' := by
  have hB : Below w.heap.size w (w.alloc (.cells #[.slice ba b.length bc, .int .i64 m.guest, .slice ra m.root.length rc, .slice sa m.slots.length sc, .slice fa m.refs.length fc, .slice na m.snaps.length nc] 29)) := (Below.refl _ _).alloc (Nat.le_refl _) _
  have mb_s : (w.alloc (.cells #[.slice ba b.length bc, .int .i64 m.guest, .slice ra m.root.length rc, .slice sa m.slots.length sc, .slice fa m.refs.length fc, .slice na m.snaps.length nc] 29)).heap[w.heap.size]? = some (.cells #[.slice ba b.length bc, .int .i64 m.guest, .slice ra m.root.length rc, .slice sa m.slots.length sc, .slice fa m.refs.length fc, .slice na m.snaps.length nc] 29) := World.alloc_heap_new _ _
  have K_s := h.below hB
  clear h
  go_enter Try.func4, Try.ntmps4
  obtain ⟨s0, s1, s2, s3, s4, s5⟩ := six mb_s
  have hh_mb_s := Hid_mkW mb_s
  have hh_K_s := Hid_mkW K_s
  have hh_hB := Hid_mkW hB
  clear mb_s K_s hB
  go_wp2_with fail
  clear s0 s1 s2 s3 s4 s5
  have mb_s := hh_mb_s.out
  have K_s := hh_K_s.out
  have hB := hh_hB.out
  clear hh_mb_s hh_K_s hh_hB
  refine (sk_read K_s n H1.out.1 H1.out.2).mono ?_
  rintro e w1 ⟨rfl, bb⟩
  replace mb_s := cells_below mb_s bb (Array.getElem?_eq_some_iff.1 mb_s).1
  replace hB := Below.on hB bb
  replace K_s := K_s.below bb
  clear bb
  obtain ⟨s0, s1, s2, s3, s4, s5⟩ := six mb_s
  have hh_mb_s := Hid_mkW mb_s
  have hh_K_s := Hid_mkW K_s
  have hh_hB := Hid_mkW hB
  clear mb_s K_s hB
  go_wp2_with fail
  clear s0 s1 s2 s3 s4 s5
  have mb_s := hh_mb_s.out
  have K_s := hh_K_s.out
  have hB := hh_hB.out
  clear hh_mb_s hh_K_s hh_hB
  refine (sk_read (Stk.bare K_s) n H2.out.1 H2.out.2).mono ?_
  rintro e w2 ⟨rfl, bb⟩
  replace mb_s := cells_below mb_s bb (Array.getElem?_eq_some_iff.1 mb_s).1
  replace hB := Below.on hB bb
  replace K_s := K_s.below bb
  clear bb
  obtain ⟨s0, s1, s2, s3, s4, s5⟩ := six mb_s
  have hh_mb_s := Hid_mkW mb_s
  have hh_K_s := Hid_mkW K_s
  have hh_hB := Hid_mkW hB
  clear mb_s K_s hB
  go_wp2_with fail
  clear s0 s1 s2 s3 s4 s5
  have mb_s := hh_mb_s.out
  have K_s := hh_K_s.out
  have hB := hh_hB.out
  clear hh_mb_s hh_K_s hh_hB
  refine (read_is K_s.top n H3.out.1 H3.out.2).mono ?_
  rintro e w3 ⟨rfl, bb⟩
  replace mb_s := cells_below mb_s bb (Array.getElem?_eq_some_iff.1 mb_s).1
  replace hB := Below.on hB bb
  replace K_s := K_s.below bb
  clear bb
  obtain ⟨s0, s1, s2, s3, s4, s5⟩ := six mb_s
  have hh_mb_s := Hid_mkW mb_s
  have hh_K_s := Hid_mkW K_s
  have hh_hB := Hid_mkW hB
  clear mb_s K_s hB
  go_wp2_with fail
  clear s0 s1 s2 s3 s4 s5
  have mb_s := hh_mb_s.out
  have K_s := hh_K_s.out
  have hB := hh_hB.out
  clear hh_mb_s hh_K_s hh_hB
  refine (look_is K_s.top n H4.out.1 H4.out.2).mono ?_
  rintro e w4 ⟨rfl, bb⟩
  replace mb_s := cells_below mb_s bb (Array.getElem?_eq_some_iff.1 mb_s).1
  replace hB := Below.on hB bb
  replace K_s := K_s.below bb
  clear bb
  clear mb_s
  clear K_s
  have hh_hB := Hid_mkW hB
  clear hB
  go_wp2_with fail
  have hB := hh_hB.out
  clear hh_hB
  refine (stackBegun_any _).mono ?_
  rintro e w5 ⟨rfl, bb⟩
  replace hB := Below.on hB bb
  clear bb
  have hh_hB := Hid_mkW hB
  clear hB
  go_wp2_with fail
  go_ret
  have hB := hh_hB.out
  exact ⟨rfl, hB⟩

set_option maxHeartbeats 16000000 in
theorem sb_hole (ba : Option Addr) (bc : Nat) (ra : Option Addr) (rc : Nat) (sa : Option Addr) (sc : Nat) (fa : Option Addr) (fc : Nat) (na : Option Addr) (nc : Nat) (b : List ByteArray) (m : ImgD) (n : Int) (w : World) (h : Stk w (.agg #[.slice ba b.length bc, .int .i64 m.guest, .slice ra m.root.length rc, .slice sa m.slots.length sc, .slice fa m.refs.length fc, .slice na m.snaps.length nc]) b m) (P Q : ByteArray) (C : Int) (H1 : Hid (srE b m n = 0 ∧ srV b m n = P)) (H2 : Hid (srE [] m n = 0 ∧ srV [] m n = Q)) (H3 : Hid (lookE m n = 0 ∧ readV m n = Q)) (H4 : Hid (lookE m n = 0 ∧ (if (0 : Int) = 0 then lookV m m.root n.toNat else 0) = C)) (hc : (C != 0) = false) (FZ FL : ImgD) (HF : Hid (freshD 0 = FZ ∧ rzM FZ (b.length : Int) = FL ∧ rzE FZ (b.length : Int) = 0)) (O : Int) (V : ByteArray) (HL : Hid (srE b FL n = O ∧ srV b FL n = V ∧ freadA b n = V ∧ atE b n = O)) :
    Calls Try.prog 4 #[.agg #[.slice ba b.length bc, .int .i64 m.guest, .slice ra m.root.length rc, .slice sa m.slots.length sc, .slice fa m.refs.length fc, .slice na m.snaps.length nc], .int .i64 n] w fun r w' => r = .returned (.bool true) ∧ Below w.heap.size w w' := by
  have hB : Below w.heap.size w (w.alloc (.cells #[.slice ba b.length bc, .int .i64 m.guest, .slice ra m.root.length rc, .slice sa m.slots.length sc, .slice fa m.refs.length fc, .slice na m.snaps.length nc] 29)) := (Below.refl _ _).alloc (Nat.le_refl _) _
  have mb_s : (w.alloc (.cells #[.slice ba b.length bc, .int .i64 m.guest, .slice ra m.root.length rc, .slice sa m.slots.length sc, .slice fa m.refs.length fc, .slice na m.snaps.length nc] 29)).heap[w.heap.size]? = some (.cells #[.slice ba b.length bc, .int .i64 m.guest, .slice ra m.root.length rc, .slice sa m.slots.length sc, .slice fa m.refs.length fc, .slice na m.snaps.length nc] 29) := World.alloc_heap_new _ _
  have K_s := h.below hB
  clear h
  go_enter Try.func4, Try.ntmps4
  obtain ⟨s0, s1, s2, s3, s4, s5⟩ := six mb_s
  have hh_mb_s := Hid_mkW mb_s
  have hh_K_s := Hid_mkW K_s
  have hh_hB := Hid_mkW hB
  clear mb_s K_s hB
  go_wp2_with fail
  clear s0 s1 s2 s3 s4 s5
  have mb_s := hh_mb_s.out
  have K_s := hh_K_s.out
  have hB := hh_hB.out
  clear hh_mb_s hh_K_s hh_hB
  refine (sk_read K_s n H1.out.1 H1.out.2).mono ?_
  rintro e w1 ⟨rfl, bb⟩
  replace mb_s := cells_below mb_s bb (Array.getElem?_eq_some_iff.1 mb_s).1
  replace hB := Below.on hB bb
  replace K_s := K_s.below bb
  clear bb
  obtain ⟨s0, s1, s2, s3, s4, s5⟩ := six mb_s
  have hh_mb_s := Hid_mkW mb_s
  have hh_K_s := Hid_mkW K_s
  have hh_hB := Hid_mkW hB
  clear mb_s K_s hB
  go_wp2_with fail
  clear s0 s1 s2 s3 s4 s5
  have mb_s := hh_mb_s.out
  have K_s := hh_K_s.out
  have hB := hh_hB.out
  clear hh_mb_s hh_K_s hh_hB
  refine (sk_read (Stk.bare K_s) n H2.out.1 H2.out.2).mono ?_
  rintro e w2 ⟨rfl, bb⟩
  replace mb_s := cells_below mb_s bb (Array.getElem?_eq_some_iff.1 mb_s).1
  replace hB := Below.on hB bb
  replace K_s := K_s.below bb
  clear bb
  obtain ⟨s0, s1, s2, s3, s4, s5⟩ := six mb_s
  have hh_mb_s := Hid_mkW mb_s
  have hh_K_s := Hid_mkW K_s
  have hh_hB := Hid_mkW hB
  clear mb_s K_s hB
  go_wp2_with fail
  clear s0 s1 s2 s3 s4 s5
  have mb_s := hh_mb_s.out
  have K_s := hh_K_s.out
  have hB := hh_hB.out
  clear hh_mb_s hh_K_s hh_hB
  refine (read_is K_s.top n H3.out.1 H3.out.2).mono ?_
  rintro e w3 ⟨rfl, bb⟩
  replace mb_s := cells_below mb_s bb (Array.getElem?_eq_some_iff.1 mb_s).1
  replace hB := Below.on hB bb
  replace K_s := K_s.below bb
  clear bb
  obtain ⟨s0, s1, s2, s3, s4, s5⟩ := six mb_s
  have hh_mb_s := Hid_mkW mb_s
  have hh_K_s := Hid_mkW K_s
  have hh_hB := Hid_mkW hB
  clear mb_s K_s hB
  go_wp2_with fail
  clear s0 s1 s2 s3 s4 s5
  have mb_s := hh_mb_s.out
  have K_s := hh_K_s.out
  have hB := hh_hB.out
  clear hh_mb_s hh_K_s hh_hB
  refine (look_is K_s.top n H4.out.1 H4.out.2).mono ?_
  rintro e w4 ⟨rfl, bb⟩
  replace mb_s := cells_below mb_s bb (Array.getElem?_eq_some_iff.1 mb_s).1
  replace hB := Below.on hB bb
  replace K_s := K_s.below bb
  clear bb
  have hh_mb_s := Hid_mkW mb_s
  have hh_K_s := Hid_mkW K_s
  have hh_hB := Hid_mkW hB
  clear mb_s K_s hB
  go_wp2_with fail
  have mb_s := hh_mb_s.out
  have K_s := hh_K_s.out
  have hB := hh_hB.out
  clear hh_mb_s hh_K_s hh_hB
  refine (up_nil_at _ FZ HF.out.1).mono ?_
  intro e w5 hA
  obtain ⟨val, x_r, x_rc, x_s, x_sc, x_f, x_fc, x_n, x_nc, rfl, hO, bb, hI⟩ := hA.open
  dsimp only
  have I_x := hO.img
  rw [hI] at I_x
  clear hA hO hI
  replace mb_s := cells_below mb_s bb (Array.getElem?_eq_some_iff.1 mb_s).1
  replace hB := Below.on hB bb
  replace K_s := K_s.below bb
  clear bb
  replace mb_s := cells_alloc mb_s (.cells #[.int .i64 FZ.guest, .slice x_r FZ.root.length x_rc, .slice x_s FZ.slots.length x_sc, .slice x_f FZ.refs.length x_fc, .slice x_n FZ.snaps.length x_nc] 27)
  have ba : Below w5.heap.size w5 (w5.alloc (.cells #[.int .i64 FZ.guest, .slice x_r FZ.root.length x_rc, .slice x_s FZ.slots.length x_sc, .slice x_f FZ.refs.length x_fc, .slice x_n FZ.snaps.length x_nc] 27)) := (Below.refl _ _).alloc (Nat.le_refl _) _
  replace hB := Below.on hB ba
  replace K_s := K_s.below ba
  replace I_x := I_x.below ba
  clear ba
  have mb_x : (w5.alloc (.cells #[.int .i64 FZ.guest, .slice x_r FZ.root.length x_rc, .slice x_s FZ.slots.length x_sc, .slice x_f FZ.refs.length x_fc, .slice x_n FZ.snaps.length x_nc] 27)).heap[w5.heap.size]? = some (.cells #[.int .i64 FZ.guest, .slice x_r FZ.root.length x_rc, .slice x_s FZ.slots.length x_sc, .slice x_f FZ.refs.length x_fc, .slice x_n FZ.snaps.length x_nc] 27) := World.alloc_heap_new _ _
  obtain ⟨x0, x1, x2, x3, x4⟩ := five mb_x
  obtain ⟨s0, s1, s2, s3, s4, s5⟩ := six mb_s
  have hh_mb_s := Hid_mkW mb_s
  have hh_mb_x := Hid_mkW mb_x
  have hh_K_s := Hid_mkW K_s
  have hh_I_x := Hid_mkW I_x
  have hh_hB := Hid_mkW hB
  clear mb_s mb_x K_s I_x hB
  go_wp2_with fail
  clear x0 x1 x2 x3 x4 s0 s1 s2 s3 s4 s5
  have mb_s := hh_mb_s.out
  have mb_x := hh_mb_x.out
  have K_s := hh_K_s.out
  have I_x := hh_I_x.out
  have hB := hh_hB.out
  clear hh_mb_s hh_mb_x hh_K_s hh_I_x hh_hB
  refine (resize_to I_x (b.length : Int) HF.out.2.1 HF.out.2.2).mono ?_
  intro e w6 hA
  obtain ⟨val, y_r, y_rc, y_s, y_sc, y_f, y_fc, y_n, y_nc, rfl, hO, bb, hI⟩ := hA.open
  dsimp only
  have I_y := hO.img
  rw [hI] at I_y
  clear hA hO hI
  replace mb_s := cells_below mb_s bb (Array.getElem?_eq_some_iff.1 mb_s).1
  replace mb_x := cells_below mb_x bb (Array.getElem?_eq_some_iff.1 mb_x).1
  replace hB := Below.on hB bb
  replace K_s := K_s.below bb
  replace I_x := I_x.below bb
  clear bb
  replace mb_s := cells_alloc mb_s (.cells #[.int .i64 FL.guest, .slice y_r FL.root.length y_rc, .slice y_s FL.slots.length y_sc, .slice y_f FL.refs.length y_fc, .slice y_n FL.snaps.length y_nc] 27)
  replace mb_x := cells_alloc mb_x (.cells #[.int .i64 FL.guest, .slice y_r FL.root.length y_rc, .slice y_s FL.slots.length y_sc, .slice y_f FL.refs.length y_fc, .slice y_n FL.snaps.length y_nc] 27)
  have ba : Below w6.heap.size w6 (w6.alloc (.cells #[.int .i64 FL.guest, .slice y_r FL.root.length y_rc, .slice y_s FL.slots.length y_sc, .slice y_f FL.refs.length y_fc, .slice y_n FL.snaps.length y_nc] 27)) := (Below.refl _ _).alloc (Nat.le_refl _) _
  replace hB := Below.on hB ba
  replace K_s := K_s.below ba
  replace I_x := I_x.below ba
  replace I_y := I_y.below ba
  clear ba
  have mb_y : (w6.alloc (.cells #[.int .i64 FL.guest, .slice y_r FL.root.length y_rc, .slice y_s FL.slots.length y_sc, .slice y_f FL.refs.length y_fc, .slice y_n FL.snaps.length y_nc] 27)).heap[w6.heap.size]? = some (.cells #[.int .i64 FL.guest, .slice y_r FL.root.length y_rc, .slice y_s FL.slots.length y_sc, .slice y_f FL.refs.length y_fc, .slice y_n FL.snaps.length y_nc] 27) := World.alloc_heap_new _ _
  clear mb_x
  clear I_x
  obtain ⟨s0, s1, s2, s3, s4, s5⟩ := six mb_s
  obtain ⟨y0, y1, y2, y3, y4⟩ := five mb_y
  have hh_mb_s := Hid_mkW mb_s
  have hh_mb_y := Hid_mkW mb_y
  have hh_K_s := Hid_mkW K_s
  have hh_I_y := Hid_mkW I_y
  have hh_hB := Hid_mkW hB
  clear mb_s mb_y K_s I_y hB
  go_wp2_with fail
  clear s0 s1 s2 s3 s4 s5 y0 y1 y2 y3 y4
  have mb_s := hh_mb_s.out
  have mb_y := hh_mb_y.out
  have K_s := hh_K_s.out
  have I_y := hh_I_y.out
  have hB := hh_hB.out
  clear hh_mb_s hh_mb_y hh_K_s hh_I_y hh_hB
  refine (sk_read (Stk.mk' K_s.base I_y) n HL.out.1 HL.out.2.1).mono ?_
  rintro e w7 ⟨rfl, bb⟩
  replace mb_s := cells_below mb_s bb (Array.getElem?_eq_some_iff.1 mb_s).1
  replace mb_y := cells_below mb_y bb (Array.getElem?_eq_some_iff.1 mb_y).1
  replace hB := Below.on hB bb
  replace K_s := K_s.below bb
  replace I_y := I_y.below bb
  clear bb
  clear mb_y
  clear I_y
  obtain ⟨s0, s1, s2, s3, s4, s5⟩ := six mb_s
  have hh_mb_s := Hid_mkW mb_s
  have hh_K_s := Hid_mkW K_s
  have hh_hB := Hid_mkW hB
  clear mb_s K_s hB
  go_wp2_with fail
  clear s0 s1 s2 s3 s4 s5
  have mb_s := hh_mb_s.out
  have K_s := hh_K_s.out
  have hB := hh_hB.out
  clear hh_mb_s hh_K_s hh_hB
  refine (fread_is K_s.base HL.out.2.2.1 HL.out.2.2.2).mono ?_
  rintro e w' ⟨rfl, hw⟩
  rw [hw]; clear hw
  clear mb_s
  clear K_s
  have hh_hB := Hid_mkW hB
  clear hB
  go_wp2_with fail
  have hB := hh_hB.out
  clear hh_hB
  refine (stackBegun_any _).mono ?_
  rintro e w8 ⟨rfl, bb⟩
  replace hB := Below.on hB bb
  clear bb
  have hh_hB := Hid_mkW hB
  clear hB
  go_wp2_with fail
  go_ret
  have hB := hh_hB.out
  exact ⟨rfl, hB⟩

set_option maxHeartbeats 16000000 in
theorem sb_told (ba : Option Addr) (bc : Nat) (ra : Option Addr) (rc : Nat) (sa : Option Addr) (sc : Nat) (fa : Option Addr) (fc : Nat) (na : Option Addr) (nc : Nat) (b : List ByteArray) (m : ImgD) (n : Int) (w : World) (h : Stk w (.agg #[.slice ba b.length bc, .int .i64 m.guest, .slice ra m.root.length rc, .slice sa m.slots.length sc, .slice fa m.refs.length fc, .slice na m.snaps.length nc]) b m) (P Q : ByteArray) (C : Int) (H1 : Hid (srE b m n = 0 ∧ srV b m n = Q)) (H2 : Hid (srE [] m n = 0 ∧ srV [] m n = Q)) (H3 : Hid (lookE m n = 0 ∧ readV m n = Q)) (H4 : Hid (lookE m n = 0 ∧ (if (0 : Int) = 0 then lookV m m.root n.toNat else 0) = C)) (hc : (C != 0) = true) (FZ FL : ImgD) (HF : Hid (freshD 0 = FZ ∧ rzM FZ (b.length : Int) = FL ∧ rzE FZ (b.length : Int) = 0)) (O : Int) (V : ByteArray) (HL : Hid (srE b FL n = O ∧ srV b FL n = V ∧ freadA b n = V ∧ atE b n = O)) :
    Calls Try.prog 4 #[.agg #[.slice ba b.length bc, .int .i64 m.guest, .slice ra m.root.length rc, .slice sa m.slots.length sc, .slice fa m.refs.length fc, .slice na m.snaps.length nc], .int .i64 n] w fun r w' => r = .returned (.bool true) ∧ Below w.heap.size w w' := by
  have hB : Below w.heap.size w (w.alloc (.cells #[.slice ba b.length bc, .int .i64 m.guest, .slice ra m.root.length rc, .slice sa m.slots.length sc, .slice fa m.refs.length fc, .slice na m.snaps.length nc] 29)) := (Below.refl _ _).alloc (Nat.le_refl _) _
  have mb_s : (w.alloc (.cells #[.slice ba b.length bc, .int .i64 m.guest, .slice ra m.root.length rc, .slice sa m.slots.length sc, .slice fa m.refs.length fc, .slice na m.snaps.length nc] 29)).heap[w.heap.size]? = some (.cells #[.slice ba b.length bc, .int .i64 m.guest, .slice ra m.root.length rc, .slice sa m.slots.length sc, .slice fa m.refs.length fc, .slice na m.snaps.length nc] 29) := World.alloc_heap_new _ _
  have K_s := h.below hB
  clear h
  go_enter Try.func4, Try.ntmps4
  obtain ⟨s0, s1, s2, s3, s4, s5⟩ := six mb_s
  have hh_mb_s := Hid_mkW mb_s
  have hh_K_s := Hid_mkW K_s
  have hh_hB := Hid_mkW hB
  clear mb_s K_s hB
  go_wp2_with fail
  clear s0 s1 s2 s3 s4 s5
  have mb_s := hh_mb_s.out
  have K_s := hh_K_s.out
  have hB := hh_hB.out
  clear hh_mb_s hh_K_s hh_hB
  refine (sk_read K_s n H1.out.1 H1.out.2).mono ?_
  rintro e w1 ⟨rfl, bb⟩
  replace mb_s := cells_below mb_s bb (Array.getElem?_eq_some_iff.1 mb_s).1
  replace hB := Below.on hB bb
  replace K_s := K_s.below bb
  clear bb
  obtain ⟨s0, s1, s2, s3, s4, s5⟩ := six mb_s
  have hh_mb_s := Hid_mkW mb_s
  have hh_K_s := Hid_mkW K_s
  have hh_hB := Hid_mkW hB
  clear mb_s K_s hB
  go_wp2_with fail
  clear s0 s1 s2 s3 s4 s5
  have mb_s := hh_mb_s.out
  have K_s := hh_K_s.out
  have hB := hh_hB.out
  clear hh_mb_s hh_K_s hh_hB
  refine (sk_read (Stk.bare K_s) n H2.out.1 H2.out.2).mono ?_
  rintro e w2 ⟨rfl, bb⟩
  replace mb_s := cells_below mb_s bb (Array.getElem?_eq_some_iff.1 mb_s).1
  replace hB := Below.on hB bb
  replace K_s := K_s.below bb
  clear bb
  obtain ⟨s0, s1, s2, s3, s4, s5⟩ := six mb_s
  have hh_mb_s := Hid_mkW mb_s
  have hh_K_s := Hid_mkW K_s
  have hh_hB := Hid_mkW hB
  clear mb_s K_s hB
  go_wp2_with fail
  clear s0 s1 s2 s3 s4 s5
  have mb_s := hh_mb_s.out
  have K_s := hh_K_s.out
  have hB := hh_hB.out
  clear hh_mb_s hh_K_s hh_hB
  refine (read_is K_s.top n H3.out.1 H3.out.2).mono ?_
  rintro e w3 ⟨rfl, bb⟩
  replace mb_s := cells_below mb_s bb (Array.getElem?_eq_some_iff.1 mb_s).1
  replace hB := Below.on hB bb
  replace K_s := K_s.below bb
  clear bb
  obtain ⟨s0, s1, s2, s3, s4, s5⟩ := six mb_s
  have hh_mb_s := Hid_mkW mb_s
  have hh_K_s := Hid_mkW K_s
  have hh_hB := Hid_mkW hB
  clear mb_s K_s hB
  go_wp2_with fail
  clear s0 s1 s2 s3 s4 s5
  have mb_s := hh_mb_s.out
  have K_s := hh_K_s.out
  have hB := hh_hB.out
  clear hh_mb_s hh_K_s hh_hB
  refine (look_is K_s.top n H4.out.1 H4.out.2).mono ?_
  rintro e w4 ⟨rfl, bb⟩
  replace mb_s := cells_below mb_s bb (Array.getElem?_eq_some_iff.1 mb_s).1
  replace hB := Below.on hB bb
  replace K_s := K_s.below bb
  clear bb
  have hh_mb_s := Hid_mkW mb_s
  have hh_K_s := Hid_mkW K_s
  have hh_hB := Hid_mkW hB
  clear mb_s K_s hB
  go_wp2_with fail
  have mb_s := hh_mb_s.out
  have K_s := hh_K_s.out
  have hB := hh_hB.out
  clear hh_mb_s hh_K_s hh_hB
  refine (up_nil_at _ FZ HF.out.1).mono ?_
  intro e w5 hA
  obtain ⟨val, x_r, x_rc, x_s, x_sc, x_f, x_fc, x_n, x_nc, rfl, hO, bb, hI⟩ := hA.open
  dsimp only
  have I_x := hO.img
  rw [hI] at I_x
  clear hA hO hI
  replace mb_s := cells_below mb_s bb (Array.getElem?_eq_some_iff.1 mb_s).1
  replace hB := Below.on hB bb
  replace K_s := K_s.below bb
  clear bb
  replace mb_s := cells_alloc mb_s (.cells #[.int .i64 FZ.guest, .slice x_r FZ.root.length x_rc, .slice x_s FZ.slots.length x_sc, .slice x_f FZ.refs.length x_fc, .slice x_n FZ.snaps.length x_nc] 27)
  have ba : Below w5.heap.size w5 (w5.alloc (.cells #[.int .i64 FZ.guest, .slice x_r FZ.root.length x_rc, .slice x_s FZ.slots.length x_sc, .slice x_f FZ.refs.length x_fc, .slice x_n FZ.snaps.length x_nc] 27)) := (Below.refl _ _).alloc (Nat.le_refl _) _
  replace hB := Below.on hB ba
  replace K_s := K_s.below ba
  replace I_x := I_x.below ba
  clear ba
  have mb_x : (w5.alloc (.cells #[.int .i64 FZ.guest, .slice x_r FZ.root.length x_rc, .slice x_s FZ.slots.length x_sc, .slice x_f FZ.refs.length x_fc, .slice x_n FZ.snaps.length x_nc] 27)).heap[w5.heap.size]? = some (.cells #[.int .i64 FZ.guest, .slice x_r FZ.root.length x_rc, .slice x_s FZ.slots.length x_sc, .slice x_f FZ.refs.length x_fc, .slice x_n FZ.snaps.length x_nc] 27) := World.alloc_heap_new _ _
  obtain ⟨x0, x1, x2, x3, x4⟩ := five mb_x
  obtain ⟨s0, s1, s2, s3, s4, s5⟩ := six mb_s
  have hh_mb_s := Hid_mkW mb_s
  have hh_mb_x := Hid_mkW mb_x
  have hh_K_s := Hid_mkW K_s
  have hh_I_x := Hid_mkW I_x
  have hh_hB := Hid_mkW hB
  clear mb_s mb_x K_s I_x hB
  go_wp2_with fail
  clear x0 x1 x2 x3 x4 s0 s1 s2 s3 s4 s5
  have mb_s := hh_mb_s.out
  have mb_x := hh_mb_x.out
  have K_s := hh_K_s.out
  have I_x := hh_I_x.out
  have hB := hh_hB.out
  clear hh_mb_s hh_mb_x hh_K_s hh_I_x hh_hB
  refine (resize_to I_x (b.length : Int) HF.out.2.1 HF.out.2.2).mono ?_
  intro e w6 hA
  obtain ⟨val, y_r, y_rc, y_s, y_sc, y_f, y_fc, y_n, y_nc, rfl, hO, bb, hI⟩ := hA.open
  dsimp only
  have I_y := hO.img
  rw [hI] at I_y
  clear hA hO hI
  replace mb_s := cells_below mb_s bb (Array.getElem?_eq_some_iff.1 mb_s).1
  replace mb_x := cells_below mb_x bb (Array.getElem?_eq_some_iff.1 mb_x).1
  replace hB := Below.on hB bb
  replace K_s := K_s.below bb
  replace I_x := I_x.below bb
  clear bb
  replace mb_s := cells_alloc mb_s (.cells #[.int .i64 FL.guest, .slice y_r FL.root.length y_rc, .slice y_s FL.slots.length y_sc, .slice y_f FL.refs.length y_fc, .slice y_n FL.snaps.length y_nc] 27)
  replace mb_x := cells_alloc mb_x (.cells #[.int .i64 FL.guest, .slice y_r FL.root.length y_rc, .slice y_s FL.slots.length y_sc, .slice y_f FL.refs.length y_fc, .slice y_n FL.snaps.length y_nc] 27)
  have ba : Below w6.heap.size w6 (w6.alloc (.cells #[.int .i64 FL.guest, .slice y_r FL.root.length y_rc, .slice y_s FL.slots.length y_sc, .slice y_f FL.refs.length y_fc, .slice y_n FL.snaps.length y_nc] 27)) := (Below.refl _ _).alloc (Nat.le_refl _) _
  replace hB := Below.on hB ba
  replace K_s := K_s.below ba
  replace I_x := I_x.below ba
  replace I_y := I_y.below ba
  clear ba
  have mb_y : (w6.alloc (.cells #[.int .i64 FL.guest, .slice y_r FL.root.length y_rc, .slice y_s FL.slots.length y_sc, .slice y_f FL.refs.length y_fc, .slice y_n FL.snaps.length y_nc] 27)).heap[w6.heap.size]? = some (.cells #[.int .i64 FL.guest, .slice y_r FL.root.length y_rc, .slice y_s FL.slots.length y_sc, .slice y_f FL.refs.length y_fc, .slice y_n FL.snaps.length y_nc] 27) := World.alloc_heap_new _ _
  clear mb_x
  clear I_x
  obtain ⟨s0, s1, s2, s3, s4, s5⟩ := six mb_s
  obtain ⟨y0, y1, y2, y3, y4⟩ := five mb_y
  have hh_mb_s := Hid_mkW mb_s
  have hh_mb_y := Hid_mkW mb_y
  have hh_K_s := Hid_mkW K_s
  have hh_I_y := Hid_mkW I_y
  have hh_hB := Hid_mkW hB
  clear mb_s mb_y K_s I_y hB
  go_wp2_with fail
  clear s0 s1 s2 s3 s4 s5 y0 y1 y2 y3 y4
  have mb_s := hh_mb_s.out
  have mb_y := hh_mb_y.out
  have K_s := hh_K_s.out
  have I_y := hh_I_y.out
  have hB := hh_hB.out
  clear hh_mb_s hh_mb_y hh_K_s hh_I_y hh_hB
  refine (sk_read (Stk.mk' K_s.base I_y) n HL.out.1 HL.out.2.1).mono ?_
  rintro e w7 ⟨rfl, bb⟩
  replace mb_s := cells_below mb_s bb (Array.getElem?_eq_some_iff.1 mb_s).1
  replace mb_y := cells_below mb_y bb (Array.getElem?_eq_some_iff.1 mb_y).1
  replace hB := Below.on hB bb
  replace K_s := K_s.below bb
  replace I_y := I_y.below bb
  clear bb
  clear mb_y
  clear I_y
  obtain ⟨s0, s1, s2, s3, s4, s5⟩ := six mb_s
  have hh_mb_s := Hid_mkW mb_s
  have hh_K_s := Hid_mkW K_s
  have hh_hB := Hid_mkW hB
  clear mb_s K_s hB
  go_wp2_with fail
  clear s0 s1 s2 s3 s4 s5
  have mb_s := hh_mb_s.out
  have K_s := hh_K_s.out
  have hB := hh_hB.out
  clear hh_mb_s hh_K_s hh_hB
  refine (fread_is K_s.base HL.out.2.2.1 HL.out.2.2.2).mono ?_
  rintro e w' ⟨rfl, hw⟩
  rw [hw]; clear hw
  clear mb_s
  clear K_s
  have hh_hB := Hid_mkW hB
  clear hB
  go_wp2_with fail
  have hB := hh_hB.out
  clear hh_hB
  refine (stackBegun_any _).mono ?_
  rintro e w8 ⟨rfl, bb⟩
  replace hB := Below.on hB bb
  clear bb
  have hh_hB := Hid_mkW hB
  clear hB
  go_wp2_with fail
  go_ret
  have hB := hh_hB.out
  exact ⟨rfl, hB⟩

theorem sbare_is {v : Value} {b : List ByteArray} {m : ImgD} {w : World} (h : Stk w v b m) (n : Int) : Calls Try.prog 4 #[v, .int .i64 n] w fun r w' => r = .returned (.bool true) ∧ Below w.heap.size w w' := by
  have h' := h
  obtain ⟨ba, bc, ra, rc, sa, sc, fa, fc, na, nc, rfl, _, _⟩ := h.parts
  by_cases he : srE b m n = 0
  · obtain ⟨c1, c2, c3, c4, c5, c6, c7⟩ := bare_facts he
    obtain ⟨f1, f2⟩ := resize_fresh b.length c5
    have HL : Hid (srE b (freshD b.length) n = atE b n ∧ srV b (freshD b.length) n = freadA b n ∧ freadA b n = freadA b n ∧ atE b n = atE b n) := ⟨c6, c7, rfl, rfl⟩
    by_cases hc : lookV m m.root n.toNat = 0
    · exact sb_hole ba bc ra rc sa sc fa fc na nc b m n w h' _ _ _ ⟨he, rfl⟩ ⟨c1, c2⟩ ⟨c3, rfl⟩ ⟨c3, if_pos rfl⟩ (by simp [hc]) _ _ ⟨rfl, f1, f2⟩ _ _ HL
    · exact sb_told ba bc ra rc sa sc fa fc na nc b m n w h' (readV m n) _ _ ⟨he, c4 hc⟩ ⟨c1, c2⟩ ⟨c3, rfl⟩ ⟨c3, if_pos rfl⟩ (by simpa using hc) _ _ ⟨rfl, f1, f2⟩ _ _ HL
  · exact sb_bad ba bc ra rc sa sc fa fc na nc b m n w h' _ _ _ _ _ _ _ _ ⟨rfl, rfl⟩ ⟨rfl, rfl⟩ ⟨rfl, rfl⟩ ⟨rfl, rfl⟩ (by simpa using he)
end Go.Proofs.Ytehleeibgkpjmaf
/- From the reading of an argument to what it holds: slices of integers, slots, slices of slots. -/
namespace Go.Proofs.Ytehleeibgkpjmaf
open Go.RowKit Go.Deep Go.ChangeShapes Go.WideShapes Go.ChangeAt
set_option maxRecDepth 20000

theorem cells27 : Try.prog.cellsOf 23 = 1 := by kernel_rfl
theorem cells3 : Try.prog.cellsOf 3 = 1 := by kernel_rfl
theorem cells9 : Try.prog.cellsOf 9 = 1 := by kernel_rfl
theorem cells29 : Try.prog.cellsOf 65 = 3 := by kernel_rfl

variable {H : Type} {enc : TypeId × Value → H} {w : World} {base : Nat} {spare : Nat → Bool} {held : Bool}

/-- The cells of a row by its address. -/
theorem row_at {w : World} {a : Addr} {n : Nat} {f : Nat → Value} (hn : 0 < n) (h : ∀ i, i < n → w.cell? (a.add i) = some (f i)) :
    ∃ b off, a = ⟨b, off, none⟩ ∧ b < w.heap.size ∧ ∀ i, i < n → w.cell? ⟨b, off + i, none⟩ = some (f i) := by
  have h0 := h 0 hn
  obtain ⟨b, off, spot⟩ := a
  have hspot : spot = none := by simpa [Addr.add] using World.cell?_spot h0
  subst hspot
  refine ⟨b, off, rfl, World.block_lt_of_cell? w _ (by rw [addr_add] at h0; exact h0), fun i hi => ?_⟩
  have := h i hi
  rw [addr_add] at this
  exact this

theorem sl_of_trod {n : Nat} {cs : List Value} {x : DataW H × List MemPlace} (h : DataW.trod enc Try.prog w base spare held n 23 cs = some x) : ∃ v xs, cs = [v] ∧ Sl w v xs := by
  rcases open_ints Try.underlying23 Try.underlying3 cells3 h with ⟨rfl, _⟩ | ⟨a, l, c, zs, rfl, _, hl, hm, hz, _, hcell, _⟩
  · exact ⟨_, [], rfl, Sl.nil w⟩
  · have hlz : l ≤ zs.length := by rw [hz]; split <;> omega
    have hlen : (zs.take l).length = l := by simp; omega
    refine ⟨_, zs.take l, rfl, some a, c, by rw [hlen], by rw [hlen]; omega, by rw [hlen]; exact hl, fun hne => ?_⟩
    have hpos : 0 < l := by
      rcases Nat.eq_zero_or_pos l with e | e
      · subst e; simp at hne
      · exact e
    obtain ⟨b, off, rfl, hb, hc⟩ := row_at (w := w) (a := a) (n := l) (f := fun i => .int .i64 (zs.getD i 0)) hpos (fun i hi => hcell i (by omega))
    refine ⟨b, off, rfl, hb, fun j hj => ?_⟩
    rw [hlen] at hj
    rw [hc j hj]
    simp [List.getD, hj]

set_option maxRecDepth 20000 in
theorem slot_of_trod {n : Nat} {cs : List Value} {x : DataW H × List MemPlace} (h : DataW.trod enc Try.prog w base spare held n 65 cs = some x) :
    ∃ k d tv xs, cs = [.int .i64 k, .string d, tv] ∧ Sl w tv xs := by
  obtain ⟨y0, y1, y2, m, _, hl, h0, h1, h2⟩ := trod_struct3 Try.underlying65 h
  rw [cells29] at hl
  match cs, hl with
  | [c0, c1, c2], _ =>
    simp only [cells3, cells9, cells27] at h0 h1 h2
    obtain ⟨k, e0, _, _⟩ := DataW.trod_int Try.underlying3 h0
    obtain ⟨d, e1, _, _⟩ := DataW.trod_string Try.underlying9 h1
    obtain ⟨tv, xs, e2, hs⟩ := sl_of_trod h2
    simp at e0 e1 e2
    subst e0 e1 e2
    exact ⟨k, d, _, xs, rfl, hs⟩

theorem slots_of_trod {n : Nat} {v : Value} {x : DataW H × List MemPlace} (h : DataW.trod enc Try.prog w base spare held n 24 [v] = some x) : ∃ L, Slots w v L := by
  rcases open_slice Try.underlying24 h with ⟨hv, _⟩ | ⟨a, len, cap, m, fuel, D, Pl, hv, _, hl, hm, hmm, _, hx⟩
  · simp at hv
    subst hv
    exact ⟨[], none, 0, rfl, Nat.zero_le _, Nat.zero_le _, fun h => absurd rfl h⟩
  · simp at hv
    subst hv
    rw [cells29] at hx
    have hx' : ∀ i, i < len → ∃ s : SlotD, ∃ tv, w.cell? (a.add (i * 3)) = some (.int .i64 s.1) ∧ w.cell? ((a.add (i * 3)).add 1) = some (.string s.2.1) ∧ w.cell? ((a.add (i * 3)).add 2) = some tv ∧ Sl w tv s.2.2 := by
      intro i hi
      obtain ⟨cs', h1, h2⟩ := hx i (by rw [hmm]; split <;> omega)
      obtain ⟨k, d, tv, xs, rfl, hs⟩ := slot_of_trod h2
      obtain ⟨_, _, hc⟩ := World.cells?_some h1
      have c0 := hc 0 (by omega)
      have c1 := hc 1 (by omega)
      have c2 := hc 2 (by omega)
      exact ⟨(k, d, xs), tv, by simpa [Addr.add] using c0, c1, c2, hs⟩
    obtain ⟨f, hf⟩ := choose_lt hx'
    have hlen : ((List.range len).map f).length = len := by simp
    refine ⟨(List.range len).map f, some a, cap, by rw [hlen], by rw [hlen]; omega, by rw [hlen]; exact hl, fun hne => ?_⟩
    have hpos : 0 < len := by
      rcases Nat.eq_zero_or_pos len with e | e
      · subst e; simp at hne
      · exact e
    obtain ⟨tv0, c0, _⟩ := hf 0 hpos
    obtain ⟨b, off, spot⟩ := a
    have hspot : spot = none := by simpa [Addr.add] using World.cell?_spot c0
    subst hspot
    refine ⟨b, off, rfl, World.block_lt_of_cell? w _ (by rw [addr_add] at c0; exact c0), fun j hj => ?_⟩
    rw [hlen] at hj
    obtain ⟨tv, c0, c1, c2, hs⟩ := hf j hj
    rw [addr_add] at c0 c1 c2
    rw [addr_add] at c1 c2
    have e : ((List.range len).map f)[j]'(by rw [hlen]; exact hj) = f j := by simp
    rw [e]
    exact ⟨tv, c0, c1, c2, hs⟩
end Go.Proofs.Ytehleeibgkpjmaf
/- From the reading of an argument to what it holds: snapshots, slices of them, images. -/
namespace Go.Proofs.Ytehleeibgkpjmaf
open Go.RowKit Go.Deep Go.ChangeShapes Go.WideShapes Go.ChangeAt
set_option maxRecDepth 20000

theorem cellsSnap : Try.prog.cellsOf 86 = 3 := by kernel_rfl
theorem cellsSnaps : Try.prog.cellsOf 25 = 1 := by kernel_rfl
theorem cellsSlots : Try.prog.cellsOf 24 = 1 := by kernel_rfl
theorem cellsImage : Try.prog.cellsOf 27 = 5 := by kernel_rfl

variable {H : Type} {enc : TypeId × Value → H} {w : World} {base : Nat} {spare : Nat → Bool} {held : Bool}

set_option maxRecDepth 20000 in
theorem snap_of_trod {n : Nat} {cs : List Value} {x : DataW H × List MemPlace} (h : DataW.trod enc Try.prog w base spare held n 86 cs = some x) :
    ∃ d k tv xs, cs = [.string d, .int .i64 k, tv] ∧ Sl w tv xs := by
  obtain ⟨y0, y1, y2, m, _, hl, h0, h1, h2⟩ := trod_struct3 Try.underlying86 h
  rw [cellsSnap] at hl
  match cs, hl with
  | [c0, c1, c2], _ =>
    simp only [cells3, cells9, cells27] at h0 h1 h2
    obtain ⟨d, e0, _, _⟩ := DataW.trod_string Try.underlying9 h0
    obtain ⟨k, e1, _, _⟩ := DataW.trod_int Try.underlying3 h1
    obtain ⟨tv, xs, e2, hs⟩ := sl_of_trod h2
    simp at e0 e1 e2
    subst e0 e1 e2
    exact ⟨d, k, _, xs, rfl, hs⟩

theorem snaps_of_trod {n : Nat} {v : Value} {x : DataW H × List MemPlace} (h : DataW.trod enc Try.prog w base spare held n 25 [v] = some x) : ∃ L, Snaps w v L := by
  rcases open_slice Try.underlying25 h with ⟨hv, _⟩ | ⟨a, len, cap, m, fuel, D, Pl, hv, _, hl, hm, hmm, _, hx⟩
  · simp at hv
    subst hv
    exact ⟨[], none, 0, rfl, Nat.zero_le _, Nat.zero_le _, fun h => absurd rfl h⟩
  · simp at hv
    subst hv
    rw [cellsSnap] at hx
    have hx' : ∀ i, i < len → ∃ s : SnapD, ∃ tv, w.cell? (a.add (i * 3)) = some (.string s.1) ∧ w.cell? ((a.add (i * 3)).add 1) = some (.int .i64 s.2.1) ∧ w.cell? ((a.add (i * 3)).add 2) = some tv ∧ Sl w tv s.2.2 := by
      intro i hi
      obtain ⟨cs', h1, h2⟩ := hx i (by rw [hmm]; split <;> omega)
      obtain ⟨k, d, tv, xs, rfl, hs⟩ := snap_of_trod h2
      obtain ⟨_, _, hc⟩ := World.cells?_some h1
      have c0 := hc 0 (by omega)
      have c1 := hc 1 (by omega)
      have c2 := hc 2 (by omega)
      exact ⟨(k, d, xs), tv, by simpa [Addr.add] using c0, c1, c2, hs⟩
    obtain ⟨f, hf⟩ := choose_lt hx'
    have hlen : ((List.range len).map f).length = len := by simp
    refine ⟨(List.range len).map f, some a, cap, by rw [hlen], by rw [hlen]; omega, by rw [hlen]; exact hl, fun hne => ?_⟩
    have hpos : 0 < len := by
      rcases Nat.eq_zero_or_pos len with e | e
      · subst e; simp at hne
      · exact e
    obtain ⟨tv0, c0, _⟩ := hf 0 hpos
    obtain ⟨b, off, spot⟩ := a
    have hspot : spot = none := by simpa [Addr.add] using World.cell?_spot c0
    subst hspot
    refine ⟨b, off, rfl, World.block_lt_of_cell? w _ (by rw [addr_add] at c0; exact c0), fun j hj => ?_⟩
    rw [hlen] at hj
    obtain ⟨tv, c0, c1, c2, hs⟩ := hf j hj
    rw [addr_add] at c0 c1 c2
    rw [addr_add] at c1 c2
    have e : ((List.range len).map f)[j]'(by rw [hlen]; exact hj) = f j := by simp
    rw [e]
    exact ⟨tv, c0, c1, c2, hs⟩

theorem trod_struct5 {P : Program} {t : TypeId} {f0 f1 f2 f3 f4 : Field} {fuel : Nat} {cs : List Value} {x : DataW H × List MemPlace} (ht : P.underlying t = some (.struct #[f0, f1, f2, f3, f4])) (h : DataW.trod enc P w base spare held fuel t cs = some x) :
    ∃ y0 y1 y2 y3 y4 n, cs.length = P.cellsOf t ∧ DataW.trod enc P w base spare held n f0.type ((cs.drop f0.offset).take (P.cellsOf f0.type)) = some y0 ∧
      DataW.trod enc P w base spare held n f1.type ((cs.drop f1.offset).take (P.cellsOf f1.type)) = some y1 ∧ DataW.trod enc P w base spare held n f2.type ((cs.drop f2.offset).take (P.cellsOf f2.type)) = some y2 ∧
      DataW.trod enc P w base spare held n f3.type ((cs.drop f3.offset).take (P.cellsOf f3.type)) = some y3 ∧ DataW.trod enc P w base spare held n f4.type ((cs.drop f4.offset).take (P.cellsOf f4.type)) = some y4 := by
  obtain ⟨xs, n, _, rfl, hl, hlen, hf⟩ := DataW.trod_struct ht h
  match xs, hlen with
  | [y0, y1, y2, y3, y4], _ => exact ⟨y0, y1, y2, y3, y4, n, hl, by simpa using hf 0 f0 rfl, by simpa using hf 1 f1 rfl, by simpa using hf 2 f2 rfl, by simpa using hf 3 f3 rfl, by simpa using hf 4 f4 rfl⟩
set_option maxRecDepth 20000 in
theorem img_of_trod {n : Nat} {cs : List Value} {x : DataW H × List MemPlace} (h : DataW.trod enc Try.prog w base spare held n 27 cs = some x) : ∃ g rv sv fv nv, cs = [.int .i64 g, rv, sv, fv, nv] ∧ ∃ r L F S, Sl w rv r ∧ Slots w sv L ∧ Sl w fv F ∧ Snaps w nv S := by
  obtain ⟨y0, y1, y2, y3, y4, m, hl, h0, h1, h2, h3, h4⟩ := trod_struct5 Try.underlying27 h
  rw [cellsImage] at hl
  match cs, hl with
  | [c0, c1, c2, c3, c4], _ =>
    simp only [cells3] at h0
    simp only [cells27] at h1 h3
    simp only [cellsSlots] at h2
    simp only [cellsSnaps] at h4
    obtain ⟨g, e0, _, _⟩ := DataW.trod_int Try.underlying3 h0
    obtain ⟨rv, r, e1, hr⟩ := sl_of_trod h1
    obtain ⟨L, hL⟩ := slots_of_trod (v := c2) h2
    obtain ⟨fv, F, e3, hF⟩ := sl_of_trod h3
    obtain ⟨S, hS⟩ := snaps_of_trod (v := c4) h4
    simp at e0 e1 e3
    subst e0 e1 e3
    exact ⟨g, _, _, _, _, rfl, r, L, F, S, hr, hL, hF, hS⟩
end Go.Proofs.Ytehleeibgkpjmaf
/- From the reading of an argument to what it holds: slices of strings. -/
namespace Go.Proofs.Ytehleeibgkpjmaf
open Go.RowKit Go.ChangeShapes Go.WideShapes Go.ChangeAt
set_option maxRecDepth 20000

theorem cellsStr : Try.prog.cellsOf 9 = 1 := by kernel_rfl
variable {H : Type} {enc : TypeId × Value → H} {w : World} {base : Nat} {spare : Nat → Bool} {held : Bool}

theorem ss_of_trod {n : Nat} {cs : List Value} {x : DataW H × List MemPlace} (h : DataW.trod enc Try.prog w base spare held n 22 cs = some x) : ∃ v xs, cs = [v] ∧ Ss w v xs ∧ ∀ s ∈ xs, s.size ≤ maxLen := by
  rcases open_strings Try.underlying22 Try.underlying9 cellsStr h with ⟨rfl, _⟩ | ⟨a, l, c, ss, rfl, _, hl, hm, hz, _, hcell, hws⟩
  · exact ⟨_, [], rfl, Ss.nil w, by simp⟩
  · have hlz : l ≤ ss.length := by rw [hz]; split <;> omega
    have hlen : (ss.take l).length = l := by simp; omega
    refine ⟨_, ss.take l, rfl, ⟨some a, c, by rw [hlen], by rw [hlen]; omega, by rw [hlen]; exact hl, fun hne => ?_⟩, fun s hs => hws s (List.mem_of_mem_take hs)⟩
    have hpos : 0 < l := by
      rcases Nat.eq_zero_or_pos l with e | e
      · subst e; simp at hne
      · exact e
    have h0 := hcell 0 (by omega)
    obtain ⟨b, off, spot⟩ := a
    have hspot : spot = none := by simpa [Addr.add] using World.cell?_spot h0
    subst hspot
    refine ⟨b, off, rfl, World.block_lt_of_cell? w _ (by rw [addr_add] at h0; exact h0), fun j hj => ?_⟩
    rw [hlen] at hj
    have hj' := hcell j (by omega)
    rw [addr_add] at hj'
    rw [hj']
    simp [List.getD, hj]

end Go.Proofs.Ytehleeibgkpjmaf
/- From the reading of an argument to what it holds: stacks. -/
namespace Go.Proofs.Ytehleeibgkpjmaf
open Go.RowKit Go.Deep Go.ChangeShapes Go.WideShapes Go.ChangeAt
set_option maxRecDepth 20000

theorem cellsStack : Try.prog.cellsOf 29 = 6 := by kernel_rfl
theorem cellsStrs : Try.prog.cellsOf 22 = 1 := by kernel_rfl

variable {H : Type} {enc : TypeId × Value → H} {w : World} {base : Nat} {spare : Nat → Bool} {held : Bool}

theorem trod_struct2 {P : Program} {t : TypeId} {f0 f1 : Field} {fuel : Nat} {cs : List Value} {x : DataW H × List MemPlace} (ht : P.underlying t = some (.struct #[f0, f1])) (h : DataW.trod enc P w base spare held fuel t cs = some x) :
    ∃ y0 y1 n, cs.length = P.cellsOf t ∧ DataW.trod enc P w base spare held n f0.type ((cs.drop f0.offset).take (P.cellsOf f0.type)) = some y0 ∧ DataW.trod enc P w base spare held n f1.type ((cs.drop f1.offset).take (P.cellsOf f1.type)) = some y1 := by
  obtain ⟨xs, n, _, rfl, hl, hlen, hf⟩ := DataW.trod_struct ht h
  match xs, hlen with
  | [y0, y1], _ => exact ⟨y0, y1, n, hl, by simpa using hf 0 f0 rfl, by simpa using hf 1 f1 rfl⟩
set_option maxRecDepth 20000 in
theorem stk_of_trod {n : Nat} {cs : List Value} {x : DataW H × List MemPlace} (h : DataW.trod enc Try.prog w base spare held n 29 cs = some x) : ∃ bv g rv sv fv nv, cs = [bv, .int .i64 g, rv, sv, fv, nv] ∧ ∃ b r L F S, Ss w bv b ∧ Sl w rv r ∧ Slots w sv L ∧ Sl w fv F ∧ Snaps w nv S := by
  obtain ⟨y0, y1, m, hl, h0, h1⟩ := trod_struct2 Try.underlying29 h
  rw [cellsStack] at hl
  match cs, hl with
  | [c0, c1, c2, c3, c4, c5], _ =>
    simp only [cellsStrs] at h0
    simp only [cellsImage] at h1
    have h0 : DataW.trod enc Try.prog w base spare held m 22 [c0] = some y0 := h0
    have h1 : DataW.trod enc Try.prog w base spare held m 27 [c1, c2, c3, c4, c5] = some y1 := h1
    obtain ⟨g, rv, sv, fv, nv, e, r, L, F, S, k1, k2, k3, k4⟩ := img_of_trod h1
    simp at e
    obtain ⟨rfl, rfl, rfl, rfl, rfl⟩ := e
    obtain ⟨bv, b, eb, hb, _⟩ := ss_of_trod h0
    simp at eb
    subst eb
    exact ⟨_, g, _, _, _, _, rfl, b, r, L, F, S, hb, k1, k2, k3, k4⟩
theorem stk_of_arg {r : Reach} {b0 : Nat} {v : Value} {d : DataW H} {p : List MemPlace} (hv : Value.okWide Try.prog w r b0 29 v) (h : DataW.Trod enc Try.prog w base spare held 29 v d p) : ∃ b m, Stk w v b m := by
  obtain ⟨cs, rfl, hsz⟩ := okWide_struct Try.underlying29 hv
  obtain ⟨fuel, hf⟩ := h
  obtain ⟨bv, g, rv, sv, fv, nv, e, b, r, L, F, S, h0, h1, h2, h3, h4⟩ := stk_of_trod hf
  have e' : cs.toList = [bv, .int .i64 g, rv, sv, fv, nv] := by simpa [Value.cells] using e
  cases cs
  simp at e'
  exact ⟨b, ⟨g, r, L, F, S⟩, bv, rv, sv, fv, nv, by rw [e'], h0, rv, sv, fv, nv, rfl, h1, h2, h3, h4⟩
end Go.Proofs.Ytehleeibgkpjmaf
