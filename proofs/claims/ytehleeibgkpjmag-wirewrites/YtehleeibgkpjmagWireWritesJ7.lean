/- Texts joined: WiI, OwA, OxI, OwC, WiL. -/
import Derived.Test.YtehleeibgkpjmagWireWritesJ6
import Derived.Deep.CutRange
import Derived.Test.YtehleeibgkpjmagWireWritesJ5
import Derived.Deep.RegionLaw
import Derived.Test.YtehleeibgkpjmagWireWritesJ4
import Derived.Deep.RegionHeld
set_option linter.unusedVariables false
set_option linter.unusedSimpArgs false
/- The program's reader: snap. -/
namespace Go.Proofs.Ytehleeibgkpjmag
open Go.RowKit Go.Shelf Go.Lib
set_option maxRecDepth 20000
set_option linter.unusedVariables false
set_option linter.unusedSimpArgs false

set_option maxHeartbeats 2000000 in
theorem rsnap_at (R n : Nat) (a b : UInt8) (l1 l3 : List UInt8) (W : World) (hb : W.heap[R]? = some (.cells #[.string (bstr (a :: l1))] 112)) (hm : l1.length < 4096) (ha : a.toNat ≤ l1.length) (hd : l1.drop a.toNat = b :: l3) (hgn : (b.toNat + 3) / 4 = n) (hn : n ≤ l3.length) :
    Calls Try.prog 92 #[.pointer (some ⟨R, 0, none⟩)] W fun r W' => ∃ tv, r = .returned (.agg #[.string (bstr (l1.take a.toNat)), .int .i64 (b.toNat : Int), tv]) ∧ RdT W W' R (l3.drop n) ∧ W'.ownsRow W.heap.size 3 1 tv n (ints ((l3.take n).map eInt)) := by
  have hR : R < W.heap.size := (Array.getElem?_eq_some_iff.1 hb).1
  have hbV : (W.alloc (.cells #[.string ⟨#[]⟩, .int .i64 0, .slice none 0 0] 74)).heap[R]? = some (.cells #[.string (bstr (a :: l1))] 112) := cells_alloc hb _
  have mz : (W.alloc (.cells #[.string ⟨#[]⟩, .int .i64 0, .slice none 0 0] 74)).heap[W.heap.size]? = some (.cells #[.string ⟨#[]⟩, .int .i64 0, .slice none 0 0] 74) := World.alloc_heap_new _ _
  have ne1 : ¬ W.heap.size = R := by omega
  have ne2 : ¬ R = W.heap.size := by omega
  have HN1 : Hid (Calls Try.prog 90 #[.pointer (some ⟨R, 0, none⟩)] (W.alloc (.cells #[.string ⟨#[]⟩, .int .i64 0, .slice none 0 0] 74)) fun r W' => r = .returned (.int .i64 (a.toNat : Int)) ∧ W' = (W.alloc (.cells #[.string ⟨#[]⟩, .int .i64 0, .slice none 0 0] 74)).setCell ⟨R, 0, none⟩ (.string (bstr l1))) := rnum_ok R a l1 (W.alloc (.cells #[.string ⟨#[]⟩, .int .i64 0, .slice none 0 0] 74)) hbV hm
  obtain ⟨w1, hw1⟩ : ∃ X, (W.alloc (.cells #[.string ⟨#[]⟩, .int .i64 0, .slice none 0 0] 74)).setCell ⟨R, 0, none⟩ (.string (bstr l1)) = X := ⟨_, rfl⟩
  have T1 : RdT W w1 R l1 := by rw [← hw1]; exact ((RdT.refl hb).alloc _).set l1
  have z1 : w1.heap[W.heap.size]? = some (.cells #[.string ⟨#[]⟩, .int .i64 0, .slice none 0 0] 74) := by rw [← hw1]; exact (Below.heap_setCell _ ⟨R, 0, none⟩ _ _ ne1).trans mz
  rw [hw1] at HN1
  clear hb hbV mz hw1
  have HTx : Hid (Calls Try.prog 104 #[.pointer (some ⟨R, 0, none⟩), .int .i64 (a.toNat : Int)] w1 fun r W' => r = .returned (.string (bstr (l1.take a.toNat))) ∧ W' = w1.setCell ⟨R, 0, none⟩ (.string (bstr (l1.drop a.toNat)))) := rtext_ok R a.toNat l1 w1 T1.box ha (by omega)
  obtain ⟨w2, hw2⟩ : ∃ X, w1.setCell ⟨R, 0, none⟩ (.string (bstr (l1.drop a.toNat))) = X := ⟨_, rfl⟩
  have T2 : RdT W w2 R (l1.drop a.toNat) := by rw [← hw2]; exact T1.set _
  have z2 : w2.heap[W.heap.size]? = some (.cells #[.string ⟨#[]⟩, .int .i64 0, .slice none 0 0] 74) := by rw [← hw2]; exact (Below.heap_setCell _ ⟨R, 0, none⟩ _ _ ne1).trans z1
  rw [hw2] at HTx
  clear T1 z1 hw2
  rw [hd] at T2
  have hW2 : W.heap.size < w2.heap.size := (Array.getElem?_eq_some_iff.1 z2).1
  have T2b : RdT W (w2.alloc (.cells #[.string (bstr (l1.take a.toNat)), .int .i64 0, .slice none 0 0] 74)) R (b :: l3) := T2.alloc _
  have z2b : (w2.alloc (.cells #[.string (bstr (l1.take a.toNat)), .int .i64 0, .slice none 0 0] 74)).heap[W.heap.size]? = some (.cells #[.string ⟨#[]⟩, .int .i64 0, .slice none 0 0] 74) := cells_alloc z2 _
  have s2b : (w2.alloc (.cells #[.string (bstr (l1.take a.toNat)), .int .i64 0, .slice none 0 0] 74)).heap[w2.heap.size]? = some (.cells #[.string (bstr (l1.take a.toNat)), .int .i64 0, .slice none 0 0] 74) := World.alloc_heap_new _ _
  have hl3 : l3.length < 4096 := by have := congrArg List.length hd; rw [List.length_drop] at this; simp at this; omega
  have HN2 : Hid (Calls Try.prog 90 #[.pointer (some ⟨R, 0, none⟩)] (w2.alloc (.cells #[.string (bstr (l1.take a.toNat)), .int .i64 0, .slice none 0 0] 74)) fun r W' => r = .returned (.int .i64 (b.toNat : Int)) ∧ W' = (w2.alloc (.cells #[.string (bstr (l1.take a.toNat)), .int .i64 0, .slice none 0 0] 74)).setCell ⟨R, 0, none⟩ (.string (bstr l3))) := rnum_ok R b l3 (w2.alloc (.cells #[.string (bstr (l1.take a.toNat)), .int .i64 0, .slice none 0 0] 74)) T2b.box hl3
  obtain ⟨w3, hw3⟩ : ∃ X, (w2.alloc (.cells #[.string (bstr (l1.take a.toNat)), .int .i64 0, .slice none 0 0] 74)).setCell ⟨R, 0, none⟩ (.string (bstr l3)) = X := ⟨_, rfl⟩
  have ns : ¬ w2.heap.size = R := by omega
  have T3 : RdT W w3 R l3 := by rw [← hw3]; exact T2b.set _
  have z3 : w3.heap[W.heap.size]? = some (.cells #[.string ⟨#[]⟩, .int .i64 0, .slice none 0 0] 74) := by rw [← hw3]; exact (Below.heap_setCell _ ⟨R, 0, none⟩ _ _ ne1).trans z2b
  have s3 : w3.heap[w2.heap.size]? = some (.cells #[.string (bstr (l1.take a.toNat)), .int .i64 0, .slice none 0 0] 74) := by rw [← hw3]; exact (Below.heap_setCell _ ⟨R, 0, none⟩ _ _ ns).trans s2b
  rw [hw3] at HN2
  clear hw3 T2 z2 T2b z2b s2b hd
  obtain ⟨p0, p1, p2⟩ := three s3
  have o1 := cells_frozen s3 1
  obtain ⟨w4, hw4⟩ : ∃ X, w3.setCell ⟨w2.heap.size, 1, none⟩ (.int .i64 (b.toNat : Int)) = X := ⟨_, rfl⟩
  have T4 : RdT W w4 R l3 := by rw [← hw4]; exact T3.other (by omega) hR _
  have z4 : w4.heap[W.heap.size]? = some (.cells #[.string ⟨#[]⟩, .int .i64 0, .slice none 0 0] 74) := by rw [← hw4]; exact (Below.heap_setCell _ ⟨w2.heap.size, 1, none⟩ _ _ (by show W.heap.size ≠ w2.heap.size; omega)).trans z3
  have s4 : w4.heap[w2.heap.size]? = some (.cells #[.string (bstr (l1.take a.toNat)), .int .i64 (b.toNat : Int), .slice none 0 0] 74) := by rw [← hw4]; exact cells_set s3 1 _
  have HW4 : Hid (w3.setCell ⟨w2.heap.size, 1, none⟩ (.int .i64 (b.toNat : Int)) = w4) := hw4
  clear hw4 T3 z3 s3
  have hb255 : b.toNat ≤ 255 := by have := b.toNat_lt; omega
  have HRo : Hid (Calls Try.prog 93 #[.pointer (some ⟨R, 0, none⟩), .int .i64 (b.toNat : Int)] w4 fun r W' => r = .returned (.slice (some ⟨w4.heap.size, 0, none⟩) n n) ∧ RdT w4 W' R (l3.drop n) ∧ W'.heap[w4.heap.size]? = some (.cells (ints ((l3.take n).map eInt)).toArray 3)) := rroot_ok R b.toNat n l3 w4 T4.box hb255 hgn hn (by omega)
  obtain ⟨r0, r1, r2⟩ := three s4
  have HS4 : Hid (RdT W w4 R l3 ∧ w4.heap[W.heap.size]? = some (.cells #[.string ⟨#[]⟩, .int .i64 0, .slice none 0 0] 74) ∧ w4.heap[w2.heap.size]? = some (.cells #[.string (bstr (l1.take a.toNat)), .int .i64 (b.toNat : Int), .slice none 0 0] 74)) := ⟨T4, z4, s4⟩
  have hl4 : n ≤ 1000 := by omega
  have Hn : Hid (n ≤ l3.length) := hn
  clear T4 z4 s4 hgn hn ha hm hl3
  go_enter Try.func92, Try.ntmps92
  go_wp2_with fail
  refine HN1.out.mono ?_
  rintro e1 x1 ⟨rfl, hw⟩
  rw [hw]
  clear hw
  go_wp2_with fail
  refine HTx.out.mono ?_
  rintro e2 x2 ⟨rfl, hw⟩
  rw [hw]
  clear hw
  go_wp2_with fail
  refine HN2.out.mono ?_
  rintro e3 x3 ⟨rfl, hw⟩
  rw [hw]
  clear hw
  go_upto_region 3 with fail
  rw [HW4.out]
  clear p0 p1 p2 o1
  go_wp2_with fail
  refine HRo.out.mono ?_
  rintro e4 w5 ⟨rfl, T5, g5⟩
  clear r0 r1 r2
  have q4 := (Array.getElem?_eq_some_iff.1 HS4.out.2.2).1
  have z5 := (T5.keep W.heap.size (by omega) ne1).trans HS4.out.2.1
  have s5 := (T5.keep w2.heap.size q4 ns).trans HS4.out.2.2
  obtain ⟨r0, r1, r2⟩ := three s5
  have u2 := cells_frozen s5 2
  obtain ⟨y0, y1, y2⟩ := three z5
  have f0 := cells_frozen z5 0
  have f1 := cells_frozen z5 1
  have f2 := cells_frozen z5 2
  have nz1 : ¬ W.heap.size = w2.heap.size := by omega
  have nz2 : ¬ w2.heap.size = W.heap.size := by omega
  have HT5 : Hid (RdT W w5 R (l3.drop n) ∧ w5.heap[w4.heap.size]? = some (.cells (ints ((l3.take n).map eInt)).toArray 3) ∧ w2.heap.size < w4.heap.size) := ⟨HS4.out.1.trans T5, g5, q4⟩
  clear T5 g5 z5 s5 q4
  go_wp2_with fail
  refine bodyPost_ret (v := .agg #[.string (bstr (l1.take a.toNat)), .int .i64 (b.toNat : Int), .slice (some ⟨w4.heap.size, 0, none⟩) n n]) (by simp [results, Try.results92, go_sem, y0, y1, y2, nz1, nz2]) rfl ?_
  have hq := HT5.out.2.2
  have hWq : W.heap.size < w4.heap.size := by omega
  refine ⟨_, rfl, (((HT5.out.1.other (by omega) hR _).other (Nat.le_refl _) hR _).other (Nat.le_refl _) hR _).other (Nat.le_refl _) hR _, ?_⟩
  have e : ((l3.take n).map eInt).length = n := by rw [List.length_map, List.length_take]; have := Hn.out; omega
  have key := row_newG (W := w5) (B := W.heap.size) (g := w4.heap.size) (xs := (l3.take n).map eInt) (by omega) (by omega) HT5.out.2.1
  rw [e] at key
  exact row_blkW key (fun q hq' => by
    cases hq'
    exact (Below.heap_setCell _ ⟨W.heap.size, 2, none⟩ _ _ (Nat.ne_of_gt hWq)).trans ((Below.heap_setCell _ ⟨W.heap.size, 1, none⟩ _ _ (Nat.ne_of_gt hWq)).trans ((Below.heap_setCell _ ⟨W.heap.size, 0, none⟩ _ _ (Nat.ne_of_gt hWq)).trans (Below.heap_setCell _ ⟨w2.heap.size, 2, none⟩ _ _ (Nat.ne_of_gt hq)))))

set_option maxHeartbeats 2000000 in
theorem rsnap_b0 (R : Nat) (W : World) (hb : W.heap[R]? = some (.cells #[.string (bstr ([]))] 112))  :
    Calls Try.prog 92 #[.pointer (some ⟨R, 0, none⟩)] W fun r W' => r = .panicked wrongP ∧ ∃ l', RdT W W' R l' := by
  have hR : R < W.heap.size := (Array.getElem?_eq_some_iff.1 hb).1
  have hbV : (W.alloc (.cells #[.string ⟨#[]⟩, .int .i64 0, .slice none 0 0] 74)).heap[R]? = some (.cells #[.string (bstr ([]))] 112) := cells_alloc hb _
  have mz : (W.alloc (.cells #[.string ⟨#[]⟩, .int .i64 0, .slice none 0 0] 74)).heap[W.heap.size]? = some (.cells #[.string ⟨#[]⟩, .int .i64 0, .slice none 0 0] 74) := World.alloc_heap_new _ _
  have ne1 : ¬ W.heap.size = R := by omega
  have ne2 : ¬ R = W.heap.size := by omega
  have HN1 : Hid (Calls Try.prog 90 #[.pointer (some ⟨R, 0, none⟩)] (W.alloc (.cells #[.string ⟨#[]⟩, .int .i64 0, .slice none 0 0] 74)) fun r W' => r = .panicked wrongP ∧ W' = (W.alloc (.cells #[.string ⟨#[]⟩, .int .i64 0, .slice none 0 0] 74))) := rnum_bad R (W.alloc (.cells #[.string ⟨#[]⟩, .int .i64 0, .slice none 0 0] 74)) hbV
  have HT : Hid (RdT W (W.alloc (.cells #[.string ⟨#[]⟩, .int .i64 0, .slice none 0 0] 74)) R []) := (RdT.refl hb).alloc _
  clear hb hbV mz
  go_enter Try.func92, Try.ntmps92
  go_wp2_with (go_at_call 90; refine HN1.out.mono ?_; rintro e9 w9 ⟨rfl, hw⟩; rw [hw]; clear hw)
  exact ⟨rfl, rfl, _, HT.out⟩

set_option maxHeartbeats 2000000 in
theorem rsnap_b1 (R : Nat) (a : UInt8) (l1 : List UInt8) (W : World) (hb : W.heap[R]? = some (.cells #[.string (bstr (a :: l1))] 112)) (hm : l1.length < 4096) (ha : l1.length < a.toNat) :
    Calls Try.prog 92 #[.pointer (some ⟨R, 0, none⟩)] W fun r W' => r = .panicked wrongP ∧ ∃ l', RdT W W' R l' := by
  have hR : R < W.heap.size := (Array.getElem?_eq_some_iff.1 hb).1
  have hbV : (W.alloc (.cells #[.string ⟨#[]⟩, .int .i64 0, .slice none 0 0] 74)).heap[R]? = some (.cells #[.string (bstr (a :: l1))] 112) := cells_alloc hb _
  have mz : (W.alloc (.cells #[.string ⟨#[]⟩, .int .i64 0, .slice none 0 0] 74)).heap[W.heap.size]? = some (.cells #[.string ⟨#[]⟩, .int .i64 0, .slice none 0 0] 74) := World.alloc_heap_new _ _
  have ne1 : ¬ W.heap.size = R := by omega
  have ne2 : ¬ R = W.heap.size := by omega
  have HN1 : Hid (Calls Try.prog 90 #[.pointer (some ⟨R, 0, none⟩)] (W.alloc (.cells #[.string ⟨#[]⟩, .int .i64 0, .slice none 0 0] 74)) fun r W' => r = .returned (.int .i64 (a.toNat : Int)) ∧ W' = (W.alloc (.cells #[.string ⟨#[]⟩, .int .i64 0, .slice none 0 0] 74)).setCell ⟨R, 0, none⟩ (.string (bstr l1))) := rnum_ok R a l1 (W.alloc (.cells #[.string ⟨#[]⟩, .int .i64 0, .slice none 0 0] 74)) hbV hm
  obtain ⟨w1, hw1⟩ : ∃ X, (W.alloc (.cells #[.string ⟨#[]⟩, .int .i64 0, .slice none 0 0] 74)).setCell ⟨R, 0, none⟩ (.string (bstr l1)) = X := ⟨_, rfl⟩
  have T1 : RdT W w1 R l1 := by rw [← hw1]; exact ((RdT.refl hb).alloc _).set l1
  have z1 : w1.heap[W.heap.size]? = some (.cells #[.string ⟨#[]⟩, .int .i64 0, .slice none 0 0] 74) := by rw [← hw1]; exact (Below.heap_setCell _ ⟨R, 0, none⟩ _ _ ne1).trans mz
  rw [hw1] at HN1
  clear hb hbV mz hw1
  have HTx : Hid (Calls Try.prog 104 #[.pointer (some ⟨R, 0, none⟩), .int .i64 (a.toNat : Int)] w1 fun r W' => r = .panicked wrongP ∧ W' = w1) := rtext_bad R a.toNat l1 w1 T1.box ha (by omega)
  have HT : Hid (RdT W w1 R l1) := T1
  clear T1 z1 ha hm
  go_enter Try.func92, Try.ntmps92
  go_wp2_with fail
  refine HN1.out.mono ?_
  rintro e1 x1 ⟨rfl, hw⟩
  rw [hw]
  clear hw
  go_wp2_with (go_at_call 104; refine HTx.out.mono ?_; rintro e9 w9 ⟨rfl, hw⟩; rw [hw]; clear hw)
  exact ⟨rfl, rfl, _, HT.out⟩

set_option maxHeartbeats 2000000 in
theorem rsnap_b2 (R : Nat) (a : UInt8) (l1 : List UInt8) (W : World) (hb : W.heap[R]? = some (.cells #[.string (bstr (a :: l1))] 112)) (hm : l1.length < 4096) (ha : a.toNat ≤ l1.length) (hd : l1.drop a.toNat = []) :
    Calls Try.prog 92 #[.pointer (some ⟨R, 0, none⟩)] W fun r W' => r = .panicked wrongP ∧ ∃ l', RdT W W' R l' := by
  have hR : R < W.heap.size := (Array.getElem?_eq_some_iff.1 hb).1
  have hbV : (W.alloc (.cells #[.string ⟨#[]⟩, .int .i64 0, .slice none 0 0] 74)).heap[R]? = some (.cells #[.string (bstr (a :: l1))] 112) := cells_alloc hb _
  have mz : (W.alloc (.cells #[.string ⟨#[]⟩, .int .i64 0, .slice none 0 0] 74)).heap[W.heap.size]? = some (.cells #[.string ⟨#[]⟩, .int .i64 0, .slice none 0 0] 74) := World.alloc_heap_new _ _
  have ne1 : ¬ W.heap.size = R := by omega
  have ne2 : ¬ R = W.heap.size := by omega
  have HN1 : Hid (Calls Try.prog 90 #[.pointer (some ⟨R, 0, none⟩)] (W.alloc (.cells #[.string ⟨#[]⟩, .int .i64 0, .slice none 0 0] 74)) fun r W' => r = .returned (.int .i64 (a.toNat : Int)) ∧ W' = (W.alloc (.cells #[.string ⟨#[]⟩, .int .i64 0, .slice none 0 0] 74)).setCell ⟨R, 0, none⟩ (.string (bstr l1))) := rnum_ok R a l1 (W.alloc (.cells #[.string ⟨#[]⟩, .int .i64 0, .slice none 0 0] 74)) hbV hm
  obtain ⟨w1, hw1⟩ : ∃ X, (W.alloc (.cells #[.string ⟨#[]⟩, .int .i64 0, .slice none 0 0] 74)).setCell ⟨R, 0, none⟩ (.string (bstr l1)) = X := ⟨_, rfl⟩
  have T1 : RdT W w1 R l1 := by rw [← hw1]; exact ((RdT.refl hb).alloc _).set l1
  have z1 : w1.heap[W.heap.size]? = some (.cells #[.string ⟨#[]⟩, .int .i64 0, .slice none 0 0] 74) := by rw [← hw1]; exact (Below.heap_setCell _ ⟨R, 0, none⟩ _ _ ne1).trans mz
  rw [hw1] at HN1
  clear hb hbV mz hw1
  have HTx : Hid (Calls Try.prog 104 #[.pointer (some ⟨R, 0, none⟩), .int .i64 (a.toNat : Int)] w1 fun r W' => r = .returned (.string (bstr (l1.take a.toNat))) ∧ W' = w1.setCell ⟨R, 0, none⟩ (.string (bstr (l1.drop a.toNat)))) := rtext_ok R a.toNat l1 w1 T1.box ha (by omega)
  obtain ⟨w2, hw2⟩ : ∃ X, w1.setCell ⟨R, 0, none⟩ (.string (bstr (l1.drop a.toNat))) = X := ⟨_, rfl⟩
  have T2 : RdT W w2 R (l1.drop a.toNat) := by rw [← hw2]; exact T1.set _
  have z2 : w2.heap[W.heap.size]? = some (.cells #[.string ⟨#[]⟩, .int .i64 0, .slice none 0 0] 74) := by rw [← hw2]; exact (Below.heap_setCell _ ⟨R, 0, none⟩ _ _ ne1).trans z1
  rw [hw2] at HTx
  clear T1 z1 hw2
  rw [hd] at T2
  have HN2 : Hid (Calls Try.prog 90 #[.pointer (some ⟨R, 0, none⟩)] (w2.alloc (.cells #[.string (bstr (l1.take a.toNat)), .int .i64 0, .slice none 0 0] 74)) fun r W' => r = .panicked wrongP ∧ W' = w2.alloc (.cells #[.string (bstr (l1.take a.toNat)), .int .i64 0, .slice none 0 0] 74)) := rnum_bad R (w2.alloc (.cells #[.string (bstr (l1.take a.toNat)), .int .i64 0, .slice none 0 0] 74)) (T2.alloc _).box
  have HT : Hid (RdT W (w2.alloc (.cells #[.string (bstr (l1.take a.toNat)), .int .i64 0, .slice none 0 0] 74)) R []) := T2.alloc _
  clear T2 z2 ha hm hd
  go_enter Try.func92, Try.ntmps92
  go_wp2_with fail
  refine HN1.out.mono ?_
  rintro e1 x1 ⟨rfl, hw⟩
  rw [hw]
  clear hw
  go_wp2_with fail
  refine HTx.out.mono ?_
  rintro e2 x2 ⟨rfl, hw⟩
  rw [hw]
  clear hw
  go_wp2_with (go_at_call 90; refine HN2.out.mono ?_; rintro e9 w9 ⟨rfl, hw⟩; rw [hw]; clear hw)
  exact ⟨rfl, rfl, _, HT.out⟩

set_option maxHeartbeats 2000000 in
theorem rsnap_b3 (R n : Nat) (a b : UInt8) (l1 l3 : List UInt8) (W : World) (hb : W.heap[R]? = some (.cells #[.string (bstr (a :: l1))] 112)) (hm : l1.length < 4096) (ha : a.toNat ≤ l1.length) (hd : l1.drop a.toNat = b :: l3) (hgn : (b.toNat + 3) / 4 = n) (hn : l3.length < n) :
    Calls Try.prog 92 #[.pointer (some ⟨R, 0, none⟩)] W fun r W' => r = .panicked wrongP ∧ ∃ l', RdT W W' R l' := by
  have hR : R < W.heap.size := (Array.getElem?_eq_some_iff.1 hb).1
  have hbV : (W.alloc (.cells #[.string ⟨#[]⟩, .int .i64 0, .slice none 0 0] 74)).heap[R]? = some (.cells #[.string (bstr (a :: l1))] 112) := cells_alloc hb _
  have mz : (W.alloc (.cells #[.string ⟨#[]⟩, .int .i64 0, .slice none 0 0] 74)).heap[W.heap.size]? = some (.cells #[.string ⟨#[]⟩, .int .i64 0, .slice none 0 0] 74) := World.alloc_heap_new _ _
  have ne1 : ¬ W.heap.size = R := by omega
  have ne2 : ¬ R = W.heap.size := by omega
  have HN1 : Hid (Calls Try.prog 90 #[.pointer (some ⟨R, 0, none⟩)] (W.alloc (.cells #[.string ⟨#[]⟩, .int .i64 0, .slice none 0 0] 74)) fun r W' => r = .returned (.int .i64 (a.toNat : Int)) ∧ W' = (W.alloc (.cells #[.string ⟨#[]⟩, .int .i64 0, .slice none 0 0] 74)).setCell ⟨R, 0, none⟩ (.string (bstr l1))) := rnum_ok R a l1 (W.alloc (.cells #[.string ⟨#[]⟩, .int .i64 0, .slice none 0 0] 74)) hbV hm
  obtain ⟨w1, hw1⟩ : ∃ X, (W.alloc (.cells #[.string ⟨#[]⟩, .int .i64 0, .slice none 0 0] 74)).setCell ⟨R, 0, none⟩ (.string (bstr l1)) = X := ⟨_, rfl⟩
  have T1 : RdT W w1 R l1 := by rw [← hw1]; exact ((RdT.refl hb).alloc _).set l1
  have z1 : w1.heap[W.heap.size]? = some (.cells #[.string ⟨#[]⟩, .int .i64 0, .slice none 0 0] 74) := by rw [← hw1]; exact (Below.heap_setCell _ ⟨R, 0, none⟩ _ _ ne1).trans mz
  rw [hw1] at HN1
  clear hb hbV mz hw1
  have HTx : Hid (Calls Try.prog 104 #[.pointer (some ⟨R, 0, none⟩), .int .i64 (a.toNat : Int)] w1 fun r W' => r = .returned (.string (bstr (l1.take a.toNat))) ∧ W' = w1.setCell ⟨R, 0, none⟩ (.string (bstr (l1.drop a.toNat)))) := rtext_ok R a.toNat l1 w1 T1.box ha (by omega)
  obtain ⟨w2, hw2⟩ : ∃ X, w1.setCell ⟨R, 0, none⟩ (.string (bstr (l1.drop a.toNat))) = X := ⟨_, rfl⟩
  have T2 : RdT W w2 R (l1.drop a.toNat) := by rw [← hw2]; exact T1.set _
  have z2 : w2.heap[W.heap.size]? = some (.cells #[.string ⟨#[]⟩, .int .i64 0, .slice none 0 0] 74) := by rw [← hw2]; exact (Below.heap_setCell _ ⟨R, 0, none⟩ _ _ ne1).trans z1
  rw [hw2] at HTx
  clear T1 z1 hw2
  rw [hd] at T2
  have hW2 : W.heap.size < w2.heap.size := (Array.getElem?_eq_some_iff.1 z2).1
  have T2b : RdT W (w2.alloc (.cells #[.string (bstr (l1.take a.toNat)), .int .i64 0, .slice none 0 0] 74)) R (b :: l3) := T2.alloc _
  have z2b : (w2.alloc (.cells #[.string (bstr (l1.take a.toNat)), .int .i64 0, .slice none 0 0] 74)).heap[W.heap.size]? = some (.cells #[.string ⟨#[]⟩, .int .i64 0, .slice none 0 0] 74) := cells_alloc z2 _
  have s2b : (w2.alloc (.cells #[.string (bstr (l1.take a.toNat)), .int .i64 0, .slice none 0 0] 74)).heap[w2.heap.size]? = some (.cells #[.string (bstr (l1.take a.toNat)), .int .i64 0, .slice none 0 0] 74) := World.alloc_heap_new _ _
  have hl3 : l3.length < 4096 := by have := congrArg List.length hd; rw [List.length_drop] at this; simp at this; omega
  have HN2 : Hid (Calls Try.prog 90 #[.pointer (some ⟨R, 0, none⟩)] (w2.alloc (.cells #[.string (bstr (l1.take a.toNat)), .int .i64 0, .slice none 0 0] 74)) fun r W' => r = .returned (.int .i64 (b.toNat : Int)) ∧ W' = (w2.alloc (.cells #[.string (bstr (l1.take a.toNat)), .int .i64 0, .slice none 0 0] 74)).setCell ⟨R, 0, none⟩ (.string (bstr l3))) := rnum_ok R b l3 (w2.alloc (.cells #[.string (bstr (l1.take a.toNat)), .int .i64 0, .slice none 0 0] 74)) T2b.box hl3
  obtain ⟨w3, hw3⟩ : ∃ X, (w2.alloc (.cells #[.string (bstr (l1.take a.toNat)), .int .i64 0, .slice none 0 0] 74)).setCell ⟨R, 0, none⟩ (.string (bstr l3)) = X := ⟨_, rfl⟩
  have ns : ¬ w2.heap.size = R := by omega
  have T3 : RdT W w3 R l3 := by rw [← hw3]; exact T2b.set _
  have z3 : w3.heap[W.heap.size]? = some (.cells #[.string ⟨#[]⟩, .int .i64 0, .slice none 0 0] 74) := by rw [← hw3]; exact (Below.heap_setCell _ ⟨R, 0, none⟩ _ _ ne1).trans z2b
  have s3 : w3.heap[w2.heap.size]? = some (.cells #[.string (bstr (l1.take a.toNat)), .int .i64 0, .slice none 0 0] 74) := by rw [← hw3]; exact (Below.heap_setCell _ ⟨R, 0, none⟩ _ _ ns).trans s2b
  rw [hw3] at HN2
  clear hw3 T2 z2 T2b z2b s2b hd
  obtain ⟨p0, p1, p2⟩ := three s3
  have o1 := cells_frozen s3 1
  obtain ⟨w4, hw4⟩ : ∃ X, w3.setCell ⟨w2.heap.size, 1, none⟩ (.int .i64 (b.toNat : Int)) = X := ⟨_, rfl⟩
  have T4 : RdT W w4 R l3 := by rw [← hw4]; exact T3.other (by omega) hR _
  have z4 : w4.heap[W.heap.size]? = some (.cells #[.string ⟨#[]⟩, .int .i64 0, .slice none 0 0] 74) := by rw [← hw4]; exact (Below.heap_setCell _ ⟨w2.heap.size, 1, none⟩ _ _ (by show W.heap.size ≠ w2.heap.size; omega)).trans z3
  have s4 : w4.heap[w2.heap.size]? = some (.cells #[.string (bstr (l1.take a.toNat)), .int .i64 (b.toNat : Int), .slice none 0 0] 74) := by rw [← hw4]; exact cells_set s3 1 _
  have HW4 : Hid (w3.setCell ⟨w2.heap.size, 1, none⟩ (.int .i64 (b.toNat : Int)) = w4) := hw4
  clear hw4 T3 z3 s3
  have hb255 : b.toNat ≤ 255 := by have := b.toNat_lt; omega
  have HRo : Hid (Calls Try.prog 93 #[.pointer (some ⟨R, 0, none⟩), .int .i64 (b.toNat : Int)] w4 fun r W' => r = .panicked wrongP ∧ RdT w4 W' R []) := rroot_bad R b.toNat n l3 w4 T4.box hb255 hgn hn (by omega)
  obtain ⟨r0, r1, r2⟩ := three s4
  have HS4 : Hid (RdT W w4 R l3) := T4
  clear T4 z4 s4 hgn hn ha hm hl3
  go_enter Try.func92, Try.ntmps92
  go_wp2_with fail
  refine HN1.out.mono ?_
  rintro e1 x1 ⟨rfl, hw⟩
  rw [hw]
  clear hw
  go_wp2_with fail
  refine HTx.out.mono ?_
  rintro e2 x2 ⟨rfl, hw⟩
  rw [hw]
  clear hw
  go_wp2_with fail
  refine HN2.out.mono ?_
  rintro e3 x3 ⟨rfl, hw⟩
  rw [hw]
  clear hw
  go_upto_region 3 with fail
  rw [HW4.out]
  clear p0 p1 p2 o1
  go_wp2_with (go_at_call 93; refine HRo.out.mono ?_; rintro e4 w5 ⟨rfl, T5⟩; have HT5 := Hid_mkG (HS4.out.trans T5); clear T5)
  exact ⟨rfl, rfl, _, HT5.out⟩

theorem rsnap_ok {R : Nat} {L : List UInt8} {W : World} {s : SnapD} {r : List UInt8} (hb : W.heap[R]? = some (.cells #[.string (bstr (L))] 112)) (hm : L.length ≤ 4096) (hp : pSnap L = some (s, r)) :
    Calls Try.prog 92 #[.pointer (some ⟨R, 0, none⟩)] W fun e W' => ∃ tv, e = .returned (.agg #[.string s.1, .int .i64 s.2.1, tv]) ∧ RdT W W' R r ∧ W'.ownsRow W.heap.size 3 1 tv s.2.2.length (ints s.2.2) := by
  obtain ⟨q, h1, h⟩ := bindS hp
  obtain ⟨t, h2, h⟩ := bindS h
  obtain ⟨g, h3, h⟩ := bindS h
  obtain ⟨u, h4, h⟩ := mapS h
  cases L with
  | nil => simp [pNum] at h1
  | cons a l1 =>
    have h1 : (a.toNat, l1) = q := by simpa [pNum] using h1
    subst h1
    have hm : l1.length < 4096 := by simp at hm; omega
    unfold pText at h2
    split at h2
    · rename_i ha
      have h2 : (l1.take a.toNat, l1.drop a.toNat) = t := by simpa using h2
      subst h2
      dsimp only at h3 ha
      cases hd : l1.drop a.toNat with
      | nil => rw [hd] at h3; simp [pNum] at h3
      | cons b l3 =>
        rw [hd] at h3
        have h3 : (b.toNat, l3) = g := by simpa [pNum] using h3
        subst h3
        unfold pEnts at h4
        split at h4
        · rename_i hn
          have h4 : ((l3.take ((b.toNat + 3) / 4)).map eInt, l3.drop ((b.toNat + 3) / 4)) = u := by simpa using h4
          subst h4
          cases h
          have key := rsnap_at R _ a b l1 l3 W hb hm ha hd rfl hn
          have e : ((l3.take ((b.toNat + 3) / 4)).map eInt).length = (b.toNat + 3) / 4 := by rw [List.length_map, List.length_take]; have : (b.toNat + 3) / 4 ≤ l3.length := hn; omega
          refine key.mono fun x W' hx => ?_
          obtain ⟨tv, e1, e2, e3⟩ := hx
          exact ⟨tv, e1, e2, by rw [e]; exact e3⟩
        · simp at h4
    · simp at h2
theorem rsnap_bad {R : Nat} {L : List UInt8} {W : World} (hb : W.heap[R]? = some (.cells #[.string (bstr (L))] 112)) (hm : L.length ≤ 4096) (hp : pSnap L = none) :
    Calls Try.prog 92 #[.pointer (some ⟨R, 0, none⟩)] W fun r W' => r = .panicked wrongP ∧ ∃ l', RdT W W' R l' := by
  cases L with
  | nil => exact rsnap_b0 R W hb
  | cons a l1 =>
    have hm : l1.length < 4096 := by simp at hm; omega
    by_cases ha : a.toNat ≤ l1.length
    · cases hd : l1.drop a.toNat with
      | nil => exact rsnap_b2 R a l1 W hb hm ha hd
      | cons b l3 =>
        by_cases hn : (b.toNat + 3) / 4 ≤ l3.length
        · exfalso
          unfold pSnap at hp
          simp [pNum, pText, pEnts, ha, hd, hn] at hp
        · exact rsnap_b3 R _ a b l1 l3 W hb hm ha hd rfl (by omega)
    · exact rsnap_b1 R a l1 W hb hm (by omega)
end Go.Proofs.Ytehleeibgkpjmag
/- Of one's own: two lists that are copied in whatever order; a snapshot that is put behind all. -/
namespace Go.Proofs.Ytehleeibgkpjmag
open Go.RowKit Go.Shelf
set_option maxRecDepth 20000
set_option linter.unusedVariables false

abbrev e3 : Obj := .cells #[] 3
structure CpI (w1 : World) (xs ys : List Int) (a b : Option Value) (W : World) : Prop where
  bel : Below w1.heap.size w1 W
  ra : ∀ v, a = some v → W.ownsRow w1.heap.size 3 1 v xs.length (ints xs)
  rb : ∀ v, b = some v → W.ownsRow w1.heap.size 3 1 v ys.length (ints ys)
  ap : ∀ v u, a = some v → b = some u → ∀ g, v.ownBlock = some g → u.ownBlock ≠ some g
theorem CpI.zero (w1 : World) (xs ys : List Int) : CpI w1 xs ys none none w1 := ⟨Below.refl _ _, fun v h => by (cases h), fun v h => by (cases h), fun v u h => by (cases h)⟩
theorem CpI.alloc {w1 : World} {xs ys : List Int} {a b : Option Value} {W : World} (h : CpI w1 xs ys a b W) (o : Obj) : CpI w1 xs ys a b (W.alloc o) :=
  ⟨h.bel.alloc h.bel.size o, fun v e => (h.ra v e).alloc o, fun v e => (h.rb v e).alloc o, h.ap⟩
theorem CpI.drew {w1 : World} {xs ys : List Int} {a b : Option Value} {W : World} (h : CpI w1 xs ys a b W) : CpI w1 xs ys a b W.drew :=
  ⟨h.bel.drew, fun v e => (h.ra v e).drew, fun v e => (h.rb v e).drew, h.ap⟩
end Go.Proofs.Ytehleeibgkpjmag
/- An image of one's own, as the document makes it: a table that has no entry may be whatever slice there was; all other lists lie in rows of their own, in memory that came since B. -/
namespace Go.Proofs.Ytehleeibgkpjmag
open Go.RowKit Go.Shelf
set_option maxRecDepth 20000
set_option linter.unusedVariables false

abbrev tbl (m : ImgD) (j : Nat) : List Int := (m.slots.getD j default).2.2
def LiveX (m : ImgD) (a : Nm) : Prop := (a.kind < 4 ∧ a.ix = 0) ∨ (a.kind = 4 ∧ a.ix < m.slots.length ∧ tbl m a.ix ≠ []) ∨ (a.kind = 5 ∧ a.ix < m.snaps.length)
theorem LiveX.cases {m : ImgD} {a : Nm} (h : LiveX m a) : a = .root ∨ a = .slots ∨ a = .refs ∨ a = .snaps ∨ (∃ j, a = .tab j ∧ j < m.slots.length ∧ tbl m j ≠ []) ∨ ∃ j, a = .sr j ∧ j < m.snaps.length := by
  obtain ⟨k, j⟩ := a
  rcases h with ⟨h1, h2⟩ | ⟨h1, h2⟩ | ⟨h1, h2⟩
  · dsimp only at h1 h2
    subst h2
    match k, h1 with
    | 0, _ => exact .inl rfl
    | 1, _ => exact .inr (.inl rfl)
    | 2, _ => exact .inr (.inr (.inl rfl))
    | 3, _ => exact .inr (.inr (.inr (.inl rfl)))
  · dsimp only at h1 h2; subst h1; exact .inr (.inr (.inr (.inr (.inl ⟨j, rfl, h2⟩))))
  · dsimp only at h1 h2; subst h1; exact .inr (.inr (.inr (.inr (.inr ⟨j, rfl, h2⟩))))
theorem LiveX.root (m : ImgD) : LiveX m .root := .inl ⟨by decide, rfl⟩
theorem LiveX.slots (m : ImgD) : LiveX m .slots := .inl ⟨by decide, rfl⟩
theorem LiveX.refs (m : ImgD) : LiveX m .refs := .inl ⟨by decide, rfl⟩
theorem LiveX.snaps (m : ImgD) : LiveX m .snaps := .inl ⟨by decide, rfl⟩
theorem LiveX.tab {m : ImgD} {j : Nat} (h : j < m.slots.length ∧ tbl m j ≠ []) : LiveX m (.tab j) := .inr (.inl ⟨rfl, h⟩)
theorem LiveX.sr {m : ImgD} {j : Nat} (h : j < m.snaps.length) : LiveX m (.sr j) := .inr (.inr ⟨rfl, h⟩)
theorem liveX_iff {m m' : ImgD} (h1 : m'.slots.length = m.slots.length) (h2 : m'.snaps.length = m.snaps.length) (h3 : ∀ j, tbl m' j = [] ↔ tbl m j = []) (b : Nm) : LiveX m' b ↔ LiveX m b := by
  unfold LiveX
  rw [h1, h2, ne_eq, ne_eq, h3]
theorem LiveX.live {m : ImgD} {a : Nm} (h : LiveX m a) : Live m a := by
  rcases h with h | h | h
  · exact .inl h
  · exact .inr (.inl ⟨h.1, h.2.1⟩)
  · exact .inr (.inr h)
structure OX (W : World) (B : Nat) (val : Nm → Value) (m : ImgD) : Prop where
  row : ∀ a, LiveX m a → W.ownsRow B (rowT a) (rowS a) (val a) (rowN m a) (rowV m val a)
  apart : ∀ a b, LiveX m a → LiveX m b → a ≠ b → ∀ g, (val a).ownBlock = some g → (val b).ownBlock ≠ some g
  loose : ∀ j, j < m.slots.length → tbl m j = [] → ∃ ao cap, val (.tab j) = .slice ao 0 cap
theorem OX.keep {W W' : World} {B : Nat} {val : Nm → Value} {m : ImgD} (h : OX W B val m) (hk : ∀ g, B ≤ g → g < W.heap.size → W'.heap[g]? = W.heap[g]?) : OX W' B val m := by
  refine ⟨fun a ha => ?_, h.apart, h.loose⟩
  have hr := h.row a ha
  refine ⟨hr.1, ?_⟩
  rcases hr.2 with hn | ⟨g, cap, cur, hv, hb, hg, rest⟩
  · exact .inl hn
  · exact .inr ⟨g, cap, cur, hv, hb, (hk g hb (Array.getElem?_eq_some_iff.1 hg).1).trans hg, rest⟩
theorem OX.below {W W' : World} {B : Nat} {val : Nm → Value} {m : ImgD} (h : OX W B val m) (hb : Below W.heap.size W W') : OX W' B val m := h.keep fun g _ hg => hb.block g hg
theorem OX.alloc {W : World} {B : Nat} {val : Nm → Value} {m : ImgD} (h : OX W B val m) (o : Obj) : OX (W.alloc o) B val m := h.below ((Below.refl _ _).alloc (Nat.le_refl _) o)
theorem OX.drew {W : World} {B : Nat} {val : Nm → Value} {m : ImgD} (h : OX W B val m) : OX W.drew B val m := ⟨fun a ha => (h.row a ha).drew, h.apart, h.loose⟩

theorem OX.mono {W : World} {B B' : Nat} {val : Nm → Value} {m : ImgD} (h : OX W B val m) (hb : B' ≤ B) : OX W B' val m := by
  refine ⟨fun a ha => ?_, h.apart, h.loose⟩
  have hr := h.row a ha
  refine ⟨hr.1, ?_⟩
  rcases hr.2 with hn | ⟨g, cap, cur, hv, hg, rest⟩
  · exact .inl hn
  · exact .inr ⟨g, cap, cur, hv, Nat.le_trans hb hg, rest⟩
theorem OX.tabSl {W : World} {B : Nat} {val : Nm → Value} {m : ImgD} (h : OX W B val m) {j : Nat} (hj : j < m.slots.length) : Sl W (val (.tab j)) (tbl m j) := by
  by_cases e : tbl m j = []
  · obtain ⟨ao, cap, ev⟩ := h.loose j hj e
    rw [ev, e]
    exact ⟨ao, cap, rfl, Nat.zero_le _, Nat.zero_le _, fun x => absurd rfl x⟩
  · exact row_sl (h.row (.tab j) (LiveX.tab ⟨hj, e⟩))
theorem OX.img {W : World} {B : Nat} {val : Nm → Value} {m : ImgD} (h : OX W B val m) : Img W (imgV m.guest val) m :=
  ⟨_, _, _, _, rfl, row_sl (h.row .root (LiveX.root m)), row_slots (h.row .slots (LiveX.slots m)) (fun j hj => h.tabSl hj), row_sl (h.row .refs (LiveX.refs m)), row_snaps (h.row .snaps (LiveX.snaps m)) (fun j hj => row_sl (h.row (.sr j) (LiveX.sr hj)))⟩
def FarX (m : ImgD) (val : Nm → Value) (a : Nm) (v : Value) : Prop := ∀ b, LiveX m b → b ≠ a → ∀ g, v.ownBlock = some g → (val b).ownBlock ≠ some g
theorem farX_new {W : World} {B : Nat} {val : Nm → Value} {m : ImgD} (h : OX W B val m) (a : Nm) {v : Value} (hv : ∀ g, v.ownBlock = some g → W.heap.size ≤ g) : FarX m val a v := fun b hb _ g hg e => by
  have := ((h.row b hb).lt g e).2
  have := hv g hg
  omega
theorem OX.swap {W : World} {B : Nat} {val : Nm → Value} {m m' : ImgD} (h : OX W B val m) {a : Nm} (ha : LiveX m a) {v : Value} (hv : W.ownsRow B (rowT a) (rowS a) v (rowN m' a) (rowV m' (upd val a v) a)) (hfar : FarX m val a v)
    (hlive : ∀ b, LiveX m' b ↔ LiveX m b) (hsame : ∀ b, LiveX m b → b ≠ a → rowN m' b = rowN m b ∧ rowV m' (upd val a v) b = rowV m val b) (hloose : ∀ j, j < m'.slots.length → tbl m' j = [] → a ≠ .tab j ∧ j < m.slots.length ∧ tbl m j = []) : OX W B (upd val a v) m' := by
  refine ⟨fun b hb => ?_, fun b c hb hc hne g hg => ?_, fun j hj e => by obtain ⟨h1, h2, h3⟩ := hloose j hj e; rw [upd_other val v (fun x => h1 x.symm)]; exact h.loose j h2 h3⟩
  · have hb := (hlive b).1 hb
    by_cases e : b = a
    · subst e; rw [upd_same]; exact hv
    · rw [upd_other val v e, (hsame b hb e).1, (hsame b hb e).2]; exact h.row b hb
  · have hb := (hlive b).1 hb
    have hc := (hlive c).1 hc
    by_cases e : b = a
    · subst e
      rw [upd_same] at hg
      rw [upd_other val v (fun x => hne x.symm)]
      exact hfar c hc (fun x => hne x.symm) g hg
    · rw [upd_other val v e] at hg
      by_cases e2 : c = a
      · subst e2
        rw [upd_same]
        exact fun x => hfar b hb e g x hg
      · rw [upd_other val v e2]; exact h.apart b c hb hc hne g hg
theorem OX.swapRoot {W : World} {B : Nat} {val : Nm → Value} {m : ImgD} (h : OX W B val m) {v : Value} {r : List Int} (hv : W.ownsRow B 3 1 v r.length (ints r)) (hfar : FarX m val .root v) (g : Int) : OX W B (upd val .root v) { m with guest := g, root := r } := by
  refine h.swap (a := .root) (LiveX.root m) hv hfar (liveX_iff rfl rfl fun _ => Iff.rfl) (fun b hb hne => ?_) (fun j hj e => ⟨(by intro x; cases x), hj, e⟩)
  rcases hb.cases with rfl | rfl | rfl | rfl | ⟨j, rfl, hj⟩ | ⟨j, rfl, hj⟩ <;> first | exact ⟨rfl, rfl⟩ | exact absurd rfl hne
theorem OX.swapRefs {W : World} {B : Nat} {val : Nm → Value} {m : ImgD} (h : OX W B val m) {v : Value} {r : List Int} (hv : W.ownsRow B 3 1 v r.length (ints r)) (hfar : FarX m val .refs v) : OX W B (upd val .refs v) { m with refs := r } := by
  refine h.swap (a := .refs) (LiveX.refs m) hv hfar (liveX_iff rfl rfl fun _ => Iff.rfl) (fun b hb hne => ?_) (fun j hj e => ⟨(by intro x; cases x), hj, e⟩)
  rcases hb.cases with rfl | rfl | rfl | rfl | ⟨j, rfl, hj⟩ | ⟨j, rfl, hj⟩ <;> first | exact ⟨rfl, rfl⟩ | exact absurd rfl hne

theorem OX.addSlot {W W' : World} {B : Nat} {val : Nm → Value} {m : ImgD} (h : OX W B val m) {k : Int} {d : ByteArray} {es : List Int} {ev sv : Value} (hev : es ≠ [] → W.ownsRow B 3 1 ev es.length (ints es)) (hev0 : es = [] → ∃ ao cap, ev = .slice ao 0 cap) (hfar : es ≠ [] → FarX m val (.tab m.slots.length) ev)
    (hgrow : W.grownBy W' (val .slots).ownBlock) (hrow : W'.ownsRow B 60 3 sv (m.slots.length + 1) (flatS m.slots (fun j => val (.tab j)) ++ [.int .i64 k, .string d, ev])) (hblk : sv.ownBlock = (val .slots).ownBlock ∨ ∀ g, sv.ownBlock = some g → W.heap.size ≤ g) :
    OX W' B (upd (upd val (.tab m.slots.length) ev) .slots sv) { m with slots := m.slots ++ [(k, d, es)] } := by
  have hval : ∀ b, b ≠ .slots → b ≠ .tab m.slots.length → upd (upd val (.tab m.slots.length) ev) .slots sv b = val b := fun b h1 h2 => by rw [upd_other _ sv h1, upd_other _ ev h2]
  have hvs : upd (upd val (.tab m.slots.length) ev) .slots sv .slots = sv := upd_same _ _ _
  have hvt : upd (upd val (.tab m.slots.length) ev) .slots sv (.tab m.slots.length) = ev := by rw [upd_other _ sv (by intro x; cases x), upd_same]
  have hcase : ∀ b, LiveX { m with slots := m.slots ++ [(k, d, es)] } b → b = .slots ∨ (b = .tab m.slots.length ∧ es ≠ []) ∨ (LiveX m b ∧ b ≠ .slots ∧ b ≠ .tab m.slots.length) := fun b hb => by
    rcases hb.cases with rfl | rfl | rfl | rfl | ⟨j, rfl, hj⟩ | ⟨j, rfl, hj⟩
    · exact .inr (.inr ⟨LiveX.root m, (by intro x; cases x), (by intro x; cases x)⟩)
    · exact .inl rfl
    · exact .inr (.inr ⟨LiveX.refs m, (by intro x; cases x), (by intro x; cases x)⟩)
    · exact .inr (.inr ⟨LiveX.snaps m, (by intro x; cases x), (by intro x; cases x)⟩)
    · obtain ⟨hj, hjn⟩ := hj
      by_cases e : j = m.slots.length
      · subst e
        refine .inr (.inl ⟨rfl, ?_⟩)
        have hjn : ((m.slots ++ [(k, d, es)]).getD m.slots.length default).2.2 ≠ [] := hjn
        simpa [List.getD] using hjn
      · have hjl : j < m.slots.length := by simp at hj; omega
        refine .inr (.inr ⟨LiveX.tab ⟨hjl, ?_⟩, (by intro x; cases x), ?_⟩)
        · have hjn : ((m.slots ++ [(k, d, es)]).getD j default).2.2 ≠ [] := hjn
          have e : (m.slots ++ [(k, d, es)]).getD j default = m.slots.getD j default := by simp [List.getD, List.getElem?_append, hjl]
          rwa [e] at hjn
        · intro x; apply e; injection x
    · exact .inr (.inr ⟨LiveX.sr hj, (by intro x; cases x), (by intro x; cases x)⟩)
  have hnot : ∀ b, LiveX m b → b ≠ .slots → (val b).ownBlock = none ∨ (val b).ownBlock ≠ (val .slots).ownBlock := fun b hb hne => by
    cases hg : (val b).ownBlock with
    | none => exact .inl rfl
    | some g => exact .inr (fun x => h.apart b .slots hb (LiveX.slots m) hne g hg x.symm)
  have hevn : es ≠ [] → ev.ownBlock = none ∨ ev.ownBlock ≠ (val .slots).ownBlock := fun hne => by
    cases hg : ev.ownBlock with
    | none => exact .inl rfl
    | some g => exact .inr (fun x => hfar hne .slots (LiveX.slots m) (by intro y; cases y) g hg x.symm)
  have hsvfar : ∀ b, LiveX m b → b ≠ .slots → ∀ g, sv.ownBlock = some g → (val b).ownBlock ≠ some g := fun b hb hne g hg hx => by
    rcases hblk with e | e
    · rw [e] at hg; exact h.apart b .slots hb (LiveX.slots m) hne g hx hg
    · have := ((h.row b hb).lt g hx).2
      have := e g hg
      omega
  have hsvev : es ≠ [] → ∀ g, sv.ownBlock = some g → ev.ownBlock ≠ some g := fun hne g hg hx => by
    rcases hblk with e | e
    · rw [e] at hg; exact hfar hne .slots (LiveX.slots m) (by intro y; cases y) g hx hg
    · have := ((hev hne).lt g hx).2
      have := e g hg
      omega
  refine ⟨fun b hb => ?_, fun b c hb hc hne q hq => ?_, fun j hj e => ?_⟩
  · rcases hcase b hb with rfl | ⟨rfl, hes⟩ | ⟨hb', h1, h2⟩
    · rw [hvs]
      have e1 : rowV { m with slots := m.slots ++ [(k, d, es)] } (upd (upd val (.tab m.slots.length) ev) .slots sv) .slots = flatS m.slots (fun j => val (.tab j)) ++ [.int .i64 k, .string d, ev] := by
        have := flatS_snoc m.slots (fun j => val (.tab j)) (fun j => upd (upd val (.tab m.slots.length) ev) .slots sv (.tab j)) (k, d, es) (fun j hj => hval _ (by intro x; cases x) (by intro x; injection x with _ x; omega))
        rw [hvt] at this
        exact this
      have e2 : rowN { m with slots := m.slots ++ [(k, d, es)] } .slots = m.slots.length + 1 := by show (m.slots ++ [(k, d, es)]).length = _; simp
      rw [e1, e2]; exact hrow
    · rw [hvt]
      have e0 : (m.slots ++ [(k, d, es)]).getD m.slots.length default = (k, d, es) := by simp [List.getD]
      have e1 : rowV { m with slots := m.slots ++ [(k, d, es)] } (upd (upd val (.tab m.slots.length) ev) .slots sv) (.tab m.slots.length) = ints es := by
        show ints ((m.slots ++ [(k, d, es)]).getD m.slots.length default).2.2 = _
        rw [e0]
      have e2 : rowN { m with slots := m.slots ++ [(k, d, es)] } (.tab m.slots.length) = es.length := by
        show ((m.slots ++ [(k, d, es)]).getD m.slots.length default).2.2.length = _
        rw [e0]
      rw [e1, e2]
      exact (hev hes).kept hgrow (hevn hes)
    · rw [hval b h1 h2]
      have e1 : rowV { m with slots := m.slots ++ [(k, d, es)] } (upd (upd val (.tab m.slots.length) ev) .slots sv) b = rowV m val b ∧ rowN { m with slots := m.slots ++ [(k, d, es)] } b = rowN m b := by
        rcases hb'.cases with rfl | rfl | rfl | rfl | ⟨j, rfl, hj⟩ | ⟨j, rfl, hj⟩
        · exact ⟨rfl, rfl⟩
        · exact absurd rfl h1
        · exact ⟨rfl, rfl⟩
        · refine ⟨?_, rfl⟩
          show flatN m.snaps _ = flatN m.snaps _
          unfold flatN
          refine congrArg List.flatten (List.map_congr_left fun j _ => ?_)
          dsimp only
          rw [hval (.sr j) (by intro x; cases x) (by intro x; cases x)]
        · have e : (m.slots ++ [(k, d, es)]).getD j default = m.slots.getD j default := by simp [List.getD, List.getElem?_append, hj.1]
          constructor
          · show ints ((m.slots ++ [(k, d, es)]).getD j default).2.2 = _
            rw [e]; rfl
          · show ((m.slots ++ [(k, d, es)]).getD j default).2.2.length = _
            rw [e]; rfl
        · exact ⟨rfl, rfl⟩
      rw [e1.1, e1.2]
      exact (h.row b hb').kept hgrow (hnot b hb' h1)
  · rcases hcase b hb with rfl | ⟨rfl, hes⟩ | ⟨hb', h1, h2⟩
    · rw [hvs] at hq
      rcases hcase c hc with rfl | ⟨rfl, hes2⟩ | ⟨hc', g1, g2⟩
      · exact absurd rfl hne
      · rw [hvt]; exact hsvev hes2 q hq
      · rw [hval c g1 g2]; exact hsvfar c hc' g1 q hq
    · rw [hvt] at hq
      rcases hcase c hc with rfl | ⟨rfl, hes2⟩ | ⟨hc', g1, g2⟩
      · rw [hvs]; exact fun x => hsvev hes q x hq
      · exact absurd rfl hne
      · rw [hval c g1 g2]; exact hfar hes c hc' g2 q hq
    · rw [hval b h1 h2] at hq
      rcases hcase c hc with rfl | ⟨rfl, hes2⟩ | ⟨hc', g1, g2⟩
      · rw [hvs]; exact fun x => hsvfar b hb' h1 q x hq
      · rw [hvt]; exact fun x => hfar hes2 b hb' h2 q x hq
      · rw [hval c g1 g2]; exact h.apart b c hb' hc' hne q hq
  · have hj : j < (m.slots ++ [(k, d, es)]).length := hj
    have e : ((m.slots ++ [(k, d, es)]).getD j default).2.2 = [] := e
    by_cases ej : j = m.slots.length
    · subst ej
      rw [hvt]
      exact hev0 (by simpa [List.getD] using e)
    · have hjl : j < m.slots.length := by simp at hj; omega
      have e2 : (m.slots ++ [(k, d, es)]).getD j default = m.slots.getD j default := by simp [List.getD, List.getElem?_append, hjl]
      rw [hval _ (by intro x; cases x) (by intro x; injection x with _ x; exact ej x)]
      exact h.loose j hjl (by rw [e2] at e; exact e)
theorem flatN_snoc (L : List SnapD) (tv tv' : Nat → Value) (s : SnapD) (htv : ∀ j, j < L.length → tv' j = tv j) : flatN (L ++ [s]) tv' = flatN L tv ++ [.string s.1, .int .i64 s.2.1, tv' L.length] := by
  unfold flatN
  rw [List.length_append, List.length_singleton, List.range_succ, List.flatMap_append]
  have e1 : (List.range L.length).flatMap (fun j => [Value.string ((L ++ [s]).getD j default).1, .int .i64 ((L ++ [s]).getD j default).2.1, tv' j]) = (List.range L.length).flatMap (fun j => [Value.string (L.getD j default).1, .int .i64 (L.getD j default).2.1, tv j]) := by
    refine congrArg List.flatten (List.map_congr_left fun j hj => ?_)
    have hj := List.mem_range.1 hj
    have e : (L ++ [s]).getD j default = L.getD j default := by simp [List.getD, List.getElem?_append, hj]
    rw [e, htv j hj]
  rw [e1]
  simp
theorem OX.addSnap {W W' : World} {B : Nat} {val : Nm → Value} {m : ImgD} (h : OX W B val m) {k : Int} {d : ByteArray} {es : List Int} {ev sv : Value} (hev : W.ownsRow B 3 1 ev es.length (ints es)) (hfar : FarX m val (.sr m.snaps.length) ev)
    (hgrow : W.grownBy W' (val .snaps).ownBlock) (hrow : W'.ownsRow B 74 3 sv (m.snaps.length + 1) (flatN m.snaps (fun j => val (.sr j)) ++ [.string d, .int .i64 k, ev])) (hblk : sv.ownBlock = (val .snaps).ownBlock ∨ ∀ g, sv.ownBlock = some g → W.heap.size ≤ g) :
    OX W' B (upd (upd val (.sr m.snaps.length) ev) .snaps sv) { m with snaps := m.snaps ++ [(d, k, es)] } := by
  have hval : ∀ b, b ≠ .snaps → b ≠ .sr m.snaps.length → upd (upd val (.sr m.snaps.length) ev) .snaps sv b = val b := fun b h1 h2 => by rw [upd_other _ sv h1, upd_other _ ev h2]
  have hvs : upd (upd val (.sr m.snaps.length) ev) .snaps sv .snaps = sv := upd_same _ _ _
  have hvt : upd (upd val (.sr m.snaps.length) ev) .snaps sv (.sr m.snaps.length) = ev := by rw [upd_other _ sv (by intro x; cases x), upd_same]
  have hcase : ∀ b, LiveX { m with snaps := m.snaps ++ [(d, k, es)] } b → b = .snaps ∨ b = .sr m.snaps.length ∨ (LiveX m b ∧ b ≠ .snaps ∧ b ≠ .sr m.snaps.length) := fun b hb => by
    rcases hb.cases with rfl | rfl | rfl | rfl | ⟨j, rfl, hj⟩ | ⟨j, rfl, hj⟩
    · exact .inr (.inr ⟨LiveX.root m, (by intro x; cases x), (by intro x; cases x)⟩)
    · exact .inr (.inr ⟨LiveX.slots m, (by intro x; cases x), (by intro x; cases x)⟩)
    · exact .inr (.inr ⟨LiveX.refs m, (by intro x; cases x), (by intro x; cases x)⟩)
    · exact .inl rfl
    · exact .inr (.inr ⟨LiveX.tab hj, (by intro x; cases x), (by intro x; cases x)⟩)
    · by_cases e : j = m.snaps.length
      · subst e; exact .inr (.inl rfl)
      · refine .inr (.inr ⟨LiveX.sr (by simp at hj; omega), (by intro x; cases x), ?_⟩)
        intro x; apply e; injection x
  have hnot : ∀ b, LiveX m b → b ≠ .snaps → (val b).ownBlock = none ∨ (val b).ownBlock ≠ (val .snaps).ownBlock := fun b hb hne => by
    cases hg : (val b).ownBlock with
    | none => exact .inl rfl
    | some g => exact .inr (fun x => h.apart b .snaps hb (LiveX.snaps m) hne g hg x.symm)
  have hevn : ev.ownBlock = none ∨ ev.ownBlock ≠ (val .snaps).ownBlock := by
    cases hg : ev.ownBlock with
    | none => exact .inl rfl
    | some g => exact .inr (fun x => hfar .snaps (LiveX.snaps m) (by intro y; cases y) g hg x.symm)
  have hsvfar : ∀ b, LiveX m b → b ≠ .snaps → ∀ g, sv.ownBlock = some g → (val b).ownBlock ≠ some g := fun b hb hne g hg hx => by
    rcases hblk with e | e
    · rw [e] at hg; exact h.apart b .snaps hb (LiveX.snaps m) hne g hx hg
    · have := ((h.row b hb).lt g hx).2
      have := e g hg
      omega
  have hsvev : ∀ g, sv.ownBlock = some g → ev.ownBlock ≠ some g := fun g hg hx => by
    rcases hblk with e | e
    · rw [e] at hg; exact hfar .snaps (LiveX.snaps m) (by intro y; cases y) g hx hg
    · have := (hev.lt g hx).2
      have := e g hg
      omega
  refine ⟨fun b hb => ?_, fun b c hb hc hne q hq => ?_, fun j hj e => by rw [hval _ (by intro x; cases x) (by intro x; cases x)]; exact h.loose j hj e⟩
  · rcases hcase b hb with rfl | rfl | ⟨hb', h1, h2⟩
    · rw [hvs]
      have e1 : rowV { m with snaps := m.snaps ++ [(d, k, es)] } (upd (upd val (.sr m.snaps.length) ev) .snaps sv) .snaps = flatN m.snaps (fun j => val (.sr j)) ++ [.string d, .int .i64 k, ev] := by
        have := flatN_snoc m.snaps (fun j => val (.sr j)) (fun j => upd (upd val (.sr m.snaps.length) ev) .snaps sv (.sr j)) (d, k, es) (fun j hj => hval _ (by intro x; cases x) (by intro x; injection x with _ x; omega))
        rw [hvt] at this
        exact this
      have e2 : rowN { m with snaps := m.snaps ++ [(d, k, es)] } .snaps = m.snaps.length + 1 := by show (m.snaps ++ [(d, k, es)]).length = _; simp
      rw [e1, e2]; exact hrow
    · rw [hvt]
      have e0 : (m.snaps ++ [(d, k, es)]).getD m.snaps.length default = (d, k, es) := by simp [List.getD]
      have e1 : rowV { m with snaps := m.snaps ++ [(d, k, es)] } (upd (upd val (.sr m.snaps.length) ev) .snaps sv) (.sr m.snaps.length) = ints es := by
        show ints ((m.snaps ++ [(d, k, es)]).getD m.snaps.length default).2.2 = _
        rw [e0]
      have e2 : rowN { m with snaps := m.snaps ++ [(d, k, es)] } (.sr m.snaps.length) = es.length := by
        show ((m.snaps ++ [(d, k, es)]).getD m.snaps.length default).2.2.length = _
        rw [e0]
      rw [e1, e2]
      exact hev.kept hgrow hevn
    · rw [hval b h1 h2]
      have e1 : rowV { m with snaps := m.snaps ++ [(d, k, es)] } (upd (upd val (.sr m.snaps.length) ev) .snaps sv) b = rowV m val b ∧ rowN { m with snaps := m.snaps ++ [(d, k, es)] } b = rowN m b := by
        rcases hb'.cases with rfl | rfl | rfl | rfl | ⟨j, rfl, hj⟩ | ⟨j, rfl, hj⟩
        · exact ⟨rfl, rfl⟩
        · refine ⟨?_, rfl⟩
          show flatS m.slots _ = flatS m.slots _
          unfold flatS
          refine congrArg List.flatten (List.map_congr_left fun j _ => ?_)
          dsimp only
          rw [hval (.tab j) (by intro x; cases x) (by intro x; cases x)]
        · exact ⟨rfl, rfl⟩
        · exact absurd rfl h1
        · exact ⟨rfl, rfl⟩
        · have e : (m.snaps ++ [(d, k, es)]).getD j default = m.snaps.getD j default := by simp [List.getD, List.getElem?_append, hj]
          constructor
          · show ints ((m.snaps ++ [(d, k, es)]).getD j default).2.2 = _
            rw [e]; rfl
          · show ((m.snaps ++ [(d, k, es)]).getD j default).2.2.length = _
            rw [e]; rfl
      rw [e1.1, e1.2]
      exact (h.row b hb').kept hgrow (hnot b hb' h1)
  · rcases hcase b hb with rfl | rfl | ⟨hb', h1, h2⟩
    · rw [hvs] at hq
      rcases hcase c hc with rfl | rfl | ⟨hc', g1, g2⟩
      · exact absurd rfl hne
      · rw [hvt]; exact hsvev q hq
      · rw [hval c g1 g2]; exact hsvfar c hc' g1 q hq
    · rw [hvt] at hq
      rcases hcase c hc with rfl | rfl | ⟨hc', g1, g2⟩
      · rw [hvs]; exact fun x => hsvev q x hq
      · exact absurd rfl hne
      · rw [hval c g1 g2]; exact hfar c hc' g2 q hq
    · rw [hval b h1 h2] at hq
      rcases hcase c hc with rfl | rfl | ⟨hc', g1, g2⟩
      · rw [hvs]; exact fun x => hsvfar b hb' h1 q x hq
      · rw [hvt]; exact fun x => hfar b hb' h2 q x hq
      · rw [hval c g1 g2]; exact h.apart b c hb' hc' hne q hq

theorem OX.far {W : World} {B : Nat} {val : Nm → Value} {m : ImgD} (h : OX W B val m) {g i : Nat} {u : Value} (hg : ∀ a, LiveX m a → (val a).ownBlock ≠ some g) : OX (W.setCell ⟨g, i, none⟩ u) B val m :=
  ⟨fun a ha => ownsRow_setCell_other (h.row a ha) (hg a ha) u, h.apart, h.loose⟩
theorem OX.lt {W : World} {B : Nat} {val : Nm → Value} {m : ImgD} (h : OX W B val m) {g : Nat} (hg : W.heap.size ≤ g) : ∀ a, LiveX m a → (val a).ownBlock ≠ some g := fun a ha e => by
  have := ((h.row a ha).lt g e).2
  omega

def KeepX (w w' : World) (m : ImgD) (val : Nm → Value) : Prop := ∀ q, q < w.heap.size → (∀ a, LiveX m a → (val a).ownBlock ≠ some q) → w'.heap[q]? = w.heap[q]?
theorem KeepX.refl (w : World) (m : ImgD) (val : Nm → Value) : KeepX w w m val := fun _ _ _ => rfl
theorem KeepX.alloc {w W : World} {m : ImgD} {val : Nm → Value} (h : KeepX w W m val) (hs : w.heap.size ≤ W.heap.size) (o : Obj) : KeepX w (W.alloc o) m val := fun q hq hn => (Below.heap_alloc W o q (by omega)).trans (h q hq hn)
theorem KeepX.own {w W : World} {m : ImgD} {val : Nm → Value} (h : KeepX w W m val) {a : Nm} (ha : LiveX m a) {g n c : Nat} (hg : val a = .slice (some ⟨g, 0, none⟩) n c) {i : Nat} {v : Value} : KeepX w (W.setCell ⟨g, i, none⟩ v) m val := fun q hq hn =>
  (Below.heap_setCell W ⟨g, i, none⟩ v q (fun e => hn a ha (by rw [hg]; exact congrArg some e.symm))).trans (h q hq hn)
theorem KeepX.new {w W : World} {m : ImgD} {val : Nm → Value} (h : KeepX w W m val) {g i : Nat} (hg : w.heap.size ≤ g) {v : Value} : KeepX w (W.setCell ⟨g, i, none⟩ v) m val := fun q hq hn =>
  (Below.heap_setCell W ⟨g, i, none⟩ v q (fun e => by have e : q = g := e; omega)).trans (h q hq hn)
theorem KeepX.grown {w W W' : World} {m : ImgD} {val : Nm → Value} (h : KeepX w W m val) (hs : w.heap.size ≤ W.heap.size) {a : Nm} (ha : LiveX m a) {v : Value} (hv : val a = v) (hg : W.grownBy W' v.ownBlock) : KeepX w W' m val := fun q hq hn =>
  (hg.block q (by omega) (fun e => hn a ha (by rw [hv]; exact e.symm))).trans (h q hq hn)
theorem KeepX.below {w W W' : World} {m : ImgD} {val : Nm → Value} (h : KeepX w W m val) {n : Nat} (hs : w.heap.size ≤ n) (hg : Below n W W') : KeepX w W' m val := fun q hq hn => (hg.block q (by omega)).trans (h q hq hn)

theorem OX.forms {W : World} {B : Nat} {val : Nm → Value} {m : ImgD} (h : OX W B val m) (a : Nm) (ha : LiveX m a) : ∃ ao cap, val a = .slice ao (rowN m a) cap ∧ (0 < rowN m a → ∃ g, ao = some ⟨g, 0, none⟩) := by
  rcases row_form (h.row a ha) with ⟨e, hn⟩ | ⟨g, cap, e, _⟩
  · exact ⟨none, 0, by rw [e, hn], fun hp => absurd hp (by omega)⟩
  · exact ⟨_, cap, e, fun _ => ⟨g, rfl⟩⟩
end Go.Proofs.Ytehleeibgkpjmag
/- Contract of the document's OwnImage. -/
namespace Go.Proofs.Ytehleeibgkpjmag
open Go.RowKit Go.Shelf
set_option maxRecDepth 20000
set_option linter.unusedVariables false

structure OwR (w1 wr : World) (D : Nat) (p : ImgD) : Prop where
  ex : ∃ val, OX wr w1.heap.size val p ∧ wr.heap[D]? = some (.cells #[.int .i64 p.guest, val .root, val .slots, val .refs, val .snaps] 26) ∧ ∀ a, LiveX p a → (val a).ownBlock ≠ some D
  ge : w1.heap.size ≤ D
  bel : Below w1.heap.size w1 wr
theorem row_loose0 {W : World} {B : Nat} {v : Value} {es : List Int} (h : W.ownsRow B 3 1 v es.length (ints es)) (e : es = []) : ∃ ao cap, v = .slice ao 0 cap := by
  subst e
  rcases row_form h with ⟨x, _⟩ | ⟨g', cap', x, _⟩
  · exact ⟨_, _, x⟩
  · exact ⟨_, _, x⟩
theorem OX.zero (W : World) (B : Nat) : OX W B valZ imgZ := by
  have h := OI.zero W B
  exact ⟨fun a ha => h.row a ha.live, fun a b ha hb => h.apart a b ha.live hb.live, fun j hj => absurd hj (Nat.not_lt_zero _)⟩
def StL (w1 : World) (xs : List Int) (W : World) : Option (Nat ⊕ Value) → Prop
  | none => True
  | some (.inl g) => w1.heap.size ≤ g ∧ W.heap[g]? = some e3
  | some (.inr v) => W.ownsRow w1.heap.size 3 1 v xs.length (ints xs)
def stB : Option (Nat ⊕ Value) → Option Nat
  | none => none
  | some (.inl g) => some g
  | some (.inr v) => v.ownBlock
def StC (w1 W : World) : Option Nat → Prop
  | none => True
  | some D => w1.heap.size ≤ D ∧ W.heap[D]? = some (.cells #[.int .i64 0, .slice none 0 0, .slice none 0 0, .slice none 0 0, .slice none 0 0] 26)
structure CpS (w1 : World) (xs ys : List Int) (a b : Option (Nat ⊕ Value)) (c : Option Nat) (W : World) : Prop where
  bel : Below w1.heap.size w1 W
  ha : StL w1 xs W a
  hb : StL w1 ys W b
  hc : StC w1 W c
  ab : ∀ g, stB a = some g → stB b ≠ some g
  ac : ∀ g, stB a = some g → c ≠ some g
  bc : ∀ g, stB b = some g → c ≠ some g
theorem StL.keep {w1 W W' : World} {xs : List Int} {a : Option (Nat ⊕ Value)} (h : StL w1 xs W a) (hk : ∀ g, stB a = some g → W'.heap[g]? = W.heap[g]?) : StL w1 xs W' a := by
  match a, h with
  | none, _ => trivial
  | some (.inl g), h => exact ⟨h.1, (hk g rfl).trans h.2⟩
  | some (.inr v), h =>
    refine ⟨h.1, ?_⟩
    rcases h.2 with hn | ⟨g, cap, cur, hv, hb, hg, rest⟩
    · exact .inl hn
    · exact .inr ⟨g, cap, cur, hv, hb, (hk g (by show v.ownBlock = some g; rw [hv]; rfl)).trans hg, rest⟩
theorem StL.lt {w1 W : World} {xs : List Int} {a : Option (Nat ⊕ Value)} (h : StL w1 xs W a) {g : Nat} (e : stB a = some g) : w1.heap.size ≤ g ∧ g < W.heap.size := by
  match a, h, e with
  | some (.inl g'), h, e => have e : g' = g := Option.some.inj e; subst e; exact ⟨h.1, (Array.getElem?_eq_some_iff.1 h.2).1⟩
  | some (.inr v), h, e => exact World.ownsRow.lt h g e
theorem StC.keep {w1 W W' : World} {c : Option Nat} (h : StC w1 W c) (hk : ∀ g, c = some g → W'.heap[g]? = W.heap[g]?) : StC w1 W' c := by
  match c, h with
  | none, _ => trivial
  | some D, h => exact ⟨h.1, (hk D rfl).trans h.2⟩
theorem StC.lt {w1 W : World} {c : Option Nat} (h : StC w1 W c) {g : Nat} (e : c = some g) : w1.heap.size ≤ g ∧ g < W.heap.size := by
  subst e; exact ⟨h.1, (Array.getElem?_eq_some_iff.1 h.2).1⟩
theorem CpS.zero (w1 : World) (xs ys : List Int) : CpS w1 xs ys none none none w1 := ⟨Below.refl _ _, trivial, trivial, trivial, fun g h => by (cases h), fun g h => by (cases h), fun g h => by (cases h)⟩
theorem CpS.drew {w1 W : World} {xs ys : List Int} {a b : Option (Nat ⊕ Value)} {c : Option Nat} (h : CpS w1 xs ys a b c W) : CpS w1 xs ys a b c W.drew :=
  ⟨h.bel.drew, h.ha.keep (fun _ _ => rfl), h.hb.keep (fun _ _ => rfl), h.hc.keep (fun _ _ => rfl), h.ab, h.ac, h.bc⟩
end Go.Proofs.Ytehleeibgkpjmag
/- What stands while an image is read: the program's reader. -/
namespace Go.Proofs.Ytehleeibgkpjmag
open Go.RowKit Go.Shelf Go.Lib
set_option maxRecDepth 20000
set_option linter.unusedVariables false
set_option linter.unusedSimpArgs false

structure RdM (w X : World) (R D : Nat) (l : List UInt8) (M : ImgD) : Prop where
  t : RdT w X R l
  hR : R < w.heap.size
  hD : w.heap.size ≤ D
  ex : ∃ val, OX X (D + 1) val M ∧ X.heap[D]? = some (.cells #[.int .i64 M.guest, val .root, val .slots, val .refs, val .snaps] 26)
theorem RdT.grow {W X Y : World} {R : Nat} {l : List UInt8} {v : Value} (h : RdT W X R l) (hR : R < W.heap.size) (g : X.grownBy Y v.ownBlock) (hv : ∀ q, v.ownBlock = some q → W.heap.size ≤ q) : RdT W Y R l :=
  ⟨g.os.trans h.os, g.tape.trans h.tape, g.output.trans h.output, Nat.le_trans h.size g.size, fun q hq hn => (g.block q (Nat.lt_of_lt_of_le hq h.size) (fun e => by have := hv q e.symm; omega)).trans (h.keep q hq hn), (g.block R h.lt (fun e => by have := hv R e.symm; omega)).trans h.box⟩
theorem RdT.drew {W X : World} {R : Nat} {l : List UInt8} (h : RdT W X R l) : RdT W X.drew R l := ⟨h.os, h.tape, h.output, h.size, h.keep, h.box⟩
theorem RdM.drew {w X : World} {R D : Nat} {l : List UInt8} {M : ImgD} (h : RdM w X R D l M) : RdM w X.drew R D l M := by
  obtain ⟨val, hX, hb⟩ := h.ex
  exact ⟨h.t.drew, h.hR, h.hD, val, hX.drew, hb⟩
theorem RdM.read {w X Y : World} {R D : Nat} {l l' : List UInt8} {M : ImgD} (h : RdM w X R D l M) (t : RdT X Y R l') : RdM w Y R D l' M := by
  obtain ⟨val, hX, hb⟩ := h.ex
  have hR := h.hR
  have hD := h.hD
  exact ⟨h.t.trans t, h.hR, h.hD, val, hX.keep (fun g hg hl => t.keep g hl (by omega)), (t.keep D (Array.getElem?_eq_some_iff.1 hb).1 (by omega)).trans hb⟩
theorem RdM.alloc {w X : World} {R D : Nat} {l : List UInt8} {M : ImgD} (h : RdM w X R D l M) (o : Obj) : RdM w (X.alloc o) R D l M := h.read ((RdT.refl h.t.box).alloc o)
theorem RdM.start {w X : World} {R : Nat} {l : List UInt8} (t : RdT w X R l) (hR : R < w.heap.size) (g : Int) : RdM w (X.alloc (.cells #[.int .i64 g, .slice none 0 0, .slice none 0 0, .slice none 0 0, .slice none 0 0] 26)) R X.heap.size l ⟨g, [], [], [], []⟩ := by
  have h0 := OX.zero (X.alloc (.cells #[.int .i64 g, .slice none 0 0, .slice none 0 0, .slice none 0 0, .slice none 0 0] 26)) (X.heap.size + 1)
  have h1 := h0.swapRoot (v := .slice none 0 0) (r := []) (World.ownsRow_nil _ _ _ _) (fun b _ _ g hg _ => by cases hg) g
  refine ⟨t.alloc _, hR, t.size, _, h1, ?_⟩
  rw [World.alloc_heap_new, upd_same, upd_other _ _ (b := .slots) (by intro x; cases x), upd_other _ _ (b := .refs) (by intro x; cases x), upd_other _ _ (b := .snaps) (by intro x; cases x)]
  rfl
theorem RdM.slot {w Wa w' : World} {R D : Nat} {l : List UInt8} {val : Nm → Value} {M : ImgD} {kk : Int} {dd : ByteArray} {es : List Int} {ev sv : Value} (t : RdT w Wa R l) (hR : R < w.heap.size) (hD : w.heap.size ≤ D) (hX : OX Wa (D + 1) val M) (hbox : Wa.heap[D]? = some (.cells #[.int .i64 M.guest, val .root, val .slots, val .refs, val .snaps] 26))
    (hev : Wa.ownsRow (D + 1) 3 1 ev es.length (ints es)) (hfe : FarX M val (.tab M.slots.length) ev) (h2 : Wa.grownBy w' (val .slots).ownBlock) (h1 : w'.ownsRow (D + 1) 60 3 sv (M.slots.length + 1) (flatS M.slots (fun j => val (.tab j)) ++ [.int .i64 kk, .string dd, ev])) (hblk : sv.ownBlock = (val .slots).ownBlock ∨ ∀ g, sv.ownBlock = some g → Wa.heap.size ≤ g) :
    RdM w (w'.setCell ⟨D, 2, none⟩ sv) R D l { M with slots := M.slots ++ [(kk, dd, es)] } := by
  have hDl := (Array.getElem?_eq_some_iff.1 hbox).1
  have hlt := fun q e => ((hX.row .slots (LiveX.slots M)).lt q e).1
  have hN := hX.addSlot (fun _ => hev) (row_loose0 hev) (fun _ => hfe) h2 h1 hblk
  have hb2 := (h2.block D hDl (fun e => by have := hlt D e.symm; omega)).trans hbox
  have hb3 := cells_set hb2 2 sv
  refine ⟨(t.grow hR h2 (fun q e => by have := hlt q e; omega)).other hD hR _, hR, hD, _, hN.far (fun a ha e => by have := ((hN.row a ha).lt D e).1; omega), ?_⟩
  rw [hb3, upd_same, upd_other _ sv (a := .slots) (b := .root) (by intro x; cases x), upd_other _ ev (b := .root) (by intro x; cases x), upd_other _ sv (a := .slots) (b := .refs) (by intro x; cases x), upd_other _ ev (b := .refs) (by intro x; cases x), upd_other _ sv (a := .slots) (b := .snaps) (by intro x; cases x), upd_other _ ev (b := .snaps) (by intro x; cases x)]
  rfl
theorem RdM.snap {w Wa w' : World} {R D : Nat} {l : List UInt8} {val : Nm → Value} {M : ImgD} {kk : Int} {dd : ByteArray} {es : List Int} {ev sv : Value} (t : RdT w Wa R l) (hR : R < w.heap.size) (hD : w.heap.size ≤ D) (hX : OX Wa (D + 1) val M) (hbox : Wa.heap[D]? = some (.cells #[.int .i64 M.guest, val .root, val .slots, val .refs, val .snaps] 26))
    (hev : Wa.ownsRow (D + 1) 3 1 ev es.length (ints es)) (hfe : FarX M val (.sr M.snaps.length) ev) (h2 : Wa.grownBy w' (val .snaps).ownBlock) (h1 : w'.ownsRow (D + 1) 74 3 sv (M.snaps.length + 1) (flatN M.snaps (fun j => val (.sr j)) ++ [.string dd, .int .i64 kk, ev])) (hblk : sv.ownBlock = (val .snaps).ownBlock ∨ ∀ g, sv.ownBlock = some g → Wa.heap.size ≤ g) :
    RdM w (w'.setCell ⟨D, 4, none⟩ sv) R D l { M with snaps := M.snaps ++ [(dd, kk, es)] } := by
  have hDl := (Array.getElem?_eq_some_iff.1 hbox).1
  have hlt := fun q e => ((hX.row .snaps (LiveX.snaps M)).lt q e).1
  have hN := hX.addSnap hev hfe h2 h1 hblk
  have hb2 := (h2.block D hDl (fun e => by have := hlt D e.symm; omega)).trans hbox
  have hb3 := cells_set hb2 4 sv
  refine ⟨(t.grow hR h2 (fun q e => by have := hlt q e; omega)).other hD hR _, hR, hD, _, hN.far (fun a ha e => by have := ((hN.row a ha).lt D e).1; omega), ?_⟩
  rw [hb3, upd_same, upd_other _ sv (a := .snaps) (b := .root) (by intro x; cases x), upd_other _ ev (b := .root) (by intro x; cases x), upd_other _ sv (a := .snaps) (b := .slots) (by intro x; cases x), upd_other _ ev (b := .slots) (by intro x; cases x), upd_other _ sv (a := .snaps) (b := .refs) (by intro x; cases x), upd_other _ ev (b := .refs) (by intro x; cases x)]
  rfl
theorem RdM.root {w X : World} {R D : Nat} {l : List UInt8} {val : Nm → Value} {M : ImgD} {es : List Int} {ev : Value} (t : RdT w X R l) (hR : R < w.heap.size) (hD : w.heap.size ≤ D) (hX : OX X (D + 1) val M) (hbox : X.heap[D]? = some (.cells #[.int .i64 M.guest, val .root, val .slots, val .refs, val .snaps] 26))
    (hev : X.ownsRow (D + 1) 3 1 ev es.length (ints es)) (hfe : FarX M val .root ev) : RdM w (X.setCell ⟨D, 1, none⟩ ev) R D l { M with root := es } := by
  have hN := hX.swapRoot hev hfe M.guest
  have hb3 := cells_set hbox 1 ev
  refine ⟨t.other hD hR _, hR, hD, _, hN.far (fun a ha e => by have := ((hN.row a ha).lt D e).1; omega), ?_⟩
  rw [hb3, upd_same, upd_other _ _ (b := .slots) (by intro x; cases x), upd_other _ _ (b := .refs) (by intro x; cases x), upd_other _ _ (b := .snaps) (by intro x; cases x)]
  rfl
theorem RdM.refs {w X : World} {R D : Nat} {l : List UInt8} {val : Nm → Value} {M : ImgD} {es : List Int} {ev : Value} (t : RdT w X R l) (hR : R < w.heap.size) (hD : w.heap.size ≤ D) (hX : OX X (D + 1) val M) (hbox : X.heap[D]? = some (.cells #[.int .i64 M.guest, val .root, val .slots, val .refs, val .snaps] 26))
    (hev : X.ownsRow (D + 1) 3 1 ev es.length (ints es)) (hfe : FarX M val .refs ev) : RdM w (X.setCell ⟨D, 3, none⟩ ev) R D l { M with refs := es } := by
  have hN := hX.swapRefs hev hfe
  have hb3 := cells_set hbox 3 ev
  refine ⟨t.other hD hR _, hR, hD, _, hN.far (fun a ha e => by have := ((hN.row a ha).lt D e).1; omega), ?_⟩
  rw [hb3, upd_same, upd_other _ _ (b := .slots) (by intro x; cases x), upd_other _ _ (b := .root) (by intro x; cases x), upd_other _ _ (b := .snaps) (by intro x; cases x)]
  rfl
theorem RdM.img {w X : World} {R D : Nat} {l : List UInt8} {M : ImgD} (h : RdM w X R D l M) : ∃ a0 c0 a1 c1 a2 c2 a3 c3, X.heap[D]? = some (.cells #[.int .i64 M.guest, .slice a0 M.root.length c0, .slice a1 M.slots.length c1, .slice a2 M.refs.length c2, .slice a3 M.snaps.length c3] 26) ∧ Img X (.agg #[.int .i64 M.guest, .slice a0 M.root.length c0, .slice a1 M.slots.length c1, .slice a2 M.refs.length c2, .slice a3 M.snaps.length c3]) M ∧ ∀ Y, (∀ q, D < q → q < X.heap.size → Y.heap[q]? = X.heap[q]?) → Img Y (.agg #[.int .i64 M.guest, .slice a0 M.root.length c0, .slice a1 M.slots.length c1, .slice a2 M.refs.length c2, .slice a3 M.snaps.length c3]) M := by
  obtain ⟨val, hX, hb⟩ := h.ex
  obtain ⟨a0, c0, e0, _⟩ := hX.forms .root (LiveX.root _)
  obtain ⟨a1, c1, e1, _⟩ := hX.forms .slots (LiveX.slots _)
  obtain ⟨a2, c2, e2, _⟩ := hX.forms .refs (LiveX.refs _)
  obtain ⟨a3, c3, e3, _⟩ := hX.forms .snaps (LiveX.snaps _)
  have hI := hX.img
  have hF : ∀ Y : World, (∀ q, D < q → q < X.heap.size → Y.heap[q]? = X.heap[q]?) → Img Y (imgV M.guest val) M := fun Y hY => (hX.keep (fun g hg hl => hY g hg hl)).img
  unfold imgV at hI hF
  rw [e0, e1, e2, e3] at hb hI hF
  exact ⟨a0, c0, a1, c1, a2, c2, a3, c3, hb, hI, hF⟩
theorem pMany_none {α : Type} {f : List UInt8 → Option (α × List UInt8)} {l : List UInt8} {k : Nat} (h : pMany f k l = none) : ∀ n, k ≤ n → pMany f n l = none
  | 0, hk => by rw [show k = 0 by omega] at h; exact h
  | n + 1, hk => by
    by_cases e : k = n + 1
    · rw [← e]; exact h
    · show (pMany f n l).bind _ = none
      rw [pMany_none h n (by omega)]; rfl
theorem pMany_next {α : Type} {f : List UInt8 → Option (α × List UInt8)} {l r r' : List UInt8} {k : Nat} {S : List α} {s : α} (h : pMany f k l = some (S, r)) (h2 : f r = some (s, r')) : pMany f (k + 1) l = some (S ++ [s], r') := by
  show (pMany f k l).bind _ = _
  rw [h]; show (f r).map _ = _; rw [h2]; rfl
theorem pMany_stop {α : Type} {f : List UInt8 → Option (α × List UInt8)} {l r : List UInt8} {k : Nat} {S : List α} (h : pMany f k l = some (S, r)) (h2 : f r = none) : pMany f (k + 1) l = none := by
  show (pMany f k l).bind _ = _
  rw [h]; show (f r).map _ = _; rw [h2]; rfl
theorem pSlot_le {l r : List UInt8} {s : SlotD} (h : pSlot l = some (s, r)) : r.length ≤ l.length := by
  obtain ⟨a, h1, h2⟩ := bindS h
  cases l with
  | nil => simp [pNum] at h1
  | cons b t =>
    simp only [pNum, Option.some.injEq] at h1
    subst h1
    unfold pKind at h2
    simp only at h2
    split at h2
    · simp only [Option.some.injEq, Prod.mk.injEq] at h2; rw [← h2.2]; simp
    · split at h2
      · obtain ⟨q, h3, h4⟩ := mapS h2
        unfold pText at h3
        split at h3
        · simp only [Option.some.injEq] at h3; subst h3; simp only [Prod.mk.injEq] at h4; rw [← h4.2]; simp only [List.length_drop, List.length_cons]; omega
        · simp at h3
      · split at h2
        · obtain ⟨q, h3, h4⟩ := mapS h2
          unfold pEnts at h3
          split at h3
          · simp only [Option.some.injEq] at h3; subst h3; simp only [Prod.mk.injEq] at h4; rw [← h4.2]; simp only [List.length_drop, List.length_cons]; omega
          · simp at h3
        · simp at h2
theorem pNum_le {l : List UInt8} {q : Nat × List UInt8} (h : pNum l = some q) : q.2.length ≤ l.length := by
  cases l with
  | nil => simp [pNum] at h
  | cons b t => simp only [pNum, Option.some.injEq] at h; subst h; simp
theorem pText_le {n : Nat} {l : List UInt8} {q : List UInt8 × List UInt8} (h : pText n l = some q) : q.2.length ≤ l.length := by
  unfold pText at h
  split at h
  · simp only [Option.some.injEq] at h; subst h; simp
  · simp at h
theorem pEnts_le {n : Nat} {l : List UInt8} {q : List Int × List UInt8} (h : pEnts n l = some q) : q.2.length ≤ l.length := by
  unfold pEnts at h
  split at h
  · simp only [Option.some.injEq] at h; subst h; simp
  · simp at h
theorem pSnap_le {l r : List UInt8} {s : SnapD} (h : pSnap l = some (s, r)) : r.length ≤ l.length := by
  obtain ⟨a, h1, h⟩ := bindS h
  obtain ⟨t, h2, h⟩ := bindS h
  obtain ⟨g, h3, h⟩ := bindS h
  obtain ⟨q, h4, h5⟩ := mapS h
  simp only [Prod.mk.injEq] at h5
  rw [← h5.2]
  have := pNum_le h1
  have := pText_le h2
  have := pNum_le h3
  have := pEnts_le h4
  omega
theorem pMany_le {α : Type} {f : List UInt8 → Option (α × List UInt8)} (hf : ∀ l s r, f l = some (s, r) → r.length ≤ l.length) {l : List UInt8} : ∀ k S r, pMany f k l = some (S, r) → r.length ≤ l.length ∧ S.length = k
  | 0, S, r, h => by simp only [pMany, Option.some.injEq, Prod.mk.injEq] at h; rw [← h.1, ← h.2]; exact ⟨Nat.le_refl _, rfl⟩
  | k + 1, S, r, h => by
    obtain ⟨q, h1, h2⟩ := bindS h
    obtain ⟨p, h3, h4⟩ := mapS h2
    have ih := pMany_le hf k q.1 q.2 h1
    have := hf q.2 p.1 p.2 h3
    simp only [Prod.mk.injEq] at h4
    rw [← h4.1, ← h4.2]
    exact ⟨by omega, by simp [ih.2]⟩
end Go.Proofs.Ytehleeibgkpjmag
