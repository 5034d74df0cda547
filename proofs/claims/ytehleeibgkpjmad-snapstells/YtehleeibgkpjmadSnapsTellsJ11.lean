/- Texts joined: NoR, SnI, SnD, SnU, NoD. -/
import Derived.Test.YtehleeibgkpjmadSnapsTellsJ8
import Derived.Test.YtehleeibgkpjmadSnapsTellsJ9
import Derived.Lib.AppendZerosOnto
import Derived.Lib.Overlaps
import Derived.Shelf.Spec.SlicesInsert
import Derived.Test.YtehleeibgkpjmadSnapsTellsJ3
import Derived.Test.YtehleeibgkpjmadSnapsTellsJ5
/- Contract of the document's RevertOf. -/
namespace Go.Proofs.Ytehleeibgkpjmad
open Go.RowKit Go.Shelf
set_option maxRecDepth 20000
set_option linter.unusedVariables false
set_option linter.unusedSimpArgs false

set_option maxHeartbeats 4000000 in
theorem nor_bad (ra : Option Addr) (rc : Nat) (sa : Option Addr) (sc : Nat) (fa : Option Addr) (fc : Nat) (na : Option Addr) (nc : Nat) (m : ImgD) (nm : ByteArray) (w : World) (h : Img w (.agg #[.int .i64 m.guest, .slice ra m.root.length rc, .slice sa m.slots.length sc, .slice fa m.refs.length fc, .slice na m.snaps.length nc]) m) (E : Int) (hE : checkE m = E) (hne : (E != 0) = true) :
    Calls Try.prog 28 #[.agg #[.int .i64 m.guest, .slice ra m.root.length rc, .slice sa m.slots.length sc, .slice fa m.refs.length fc, .slice na m.snaps.length nc], .string nm] w (AnsJ w imgZ E) := by
  have b0 : Below w.heap.size w ((w.alloc (.cells #[.int .i64 m.guest, .slice ra m.root.length rc, .slice sa m.slots.length sc, .slice fa m.refs.length fc, .slice na m.snaps.length nc] 26)).alloc (.cells #[.int .i64 0, .slice none 0 0, .slice none 0 0, .slice none 0 0, .slice none 0 0] 26)) := ((Below.refl _ _).alloc (Nat.le_refl _) _).alloc (by simp) _
  have m0 : ((w.alloc (.cells #[.int .i64 m.guest, .slice ra m.root.length rc, .slice sa m.slots.length sc, .slice fa m.refs.length fc, .slice na m.snaps.length nc] 26)).alloc (.cells #[.int .i64 0, .slice none 0 0, .slice none 0 0, .slice none 0 0, .slice none 0 0] 26)).heap[w.heap.size]? = some (.cells #[.int .i64 m.guest, .slice ra m.root.length rc, .slice sa m.slots.length sc, .slice fa m.refs.length fc, .slice na m.snaps.length nc] 26) := cells_alloc (World.alloc_heap_new _ _) _
  have m1 : ((w.alloc (.cells #[.int .i64 m.guest, .slice ra m.root.length rc, .slice sa m.slots.length sc, .slice fa m.refs.length fc, .slice na m.snaps.length nc] 26)).alloc (.cells #[.int .i64 0, .slice none 0 0, .slice none 0 0, .slice none 0 0, .slice none 0 0] 26)).heap[w.heap.size + 1]? = some (.cells #[.int .i64 0, .slice none 0 0, .slice none 0 0, .slice none 0 0, .slice none 0 0] 26) := by have := World.alloc_heap_new (w.alloc (.cells #[.int .i64 m.guest, .slice ra m.root.length rc, .slice sa m.slots.length sc, .slice fa m.refs.length fc, .slice na m.snaps.length nc] 26)) (.cells #[.int .i64 0, .slice none 0 0, .slice none 0 0, .slice none 0 0, .slice none 0 0] 26); simpa using this
  have hsz : w.heap.size + 1 < ((w.alloc (.cells #[.int .i64 m.guest, .slice ra m.root.length rc, .slice sa m.slots.length sc, .slice fa m.refs.length fc, .slice na m.snaps.length nc] 26)).alloc (.cells #[.int .i64 0, .slice none 0 0, .slice none 0 0, .slice none 0 0, .slice none 0 0] 26)).heap.size := by simp
  have I0 := h.below b0
  obtain ⟨c0, c1, c2, c3, c4⟩ := five m0
  have hck := checkImage_is I0 hE
  clear h hE I0
  go_enter Try.func28, Try.ntmps28
  go_wp2_with (go_at_call 59; refine hck.mono ?_; rintro e1 wA ⟨rfl, bA⟩; have n0 := cells_below m0 bA (by omega); have n1 := cells_below m1 bA hsz; obtain ⟨d0, d1, d2, d3, d4⟩ := five n0; obtain ⟨z0, z1, z2, z3, z4⟩ := five n1; have y0 := cells_frozen n1 0; have y1 := cells_frozen n1 1; have y2 := cells_frozen n1 2; have y3 := cells_frozen n1 3; have y4 := cells_frozen n1 4)
  refine bodyPost_ret (v := .tuple #[.agg #[.int .i64 0, .slice none 0 0, .slice none 0 0, .slice none 0 0, .slice none 0 0], .int .i64 E]) (by simp [results, Try.results28, go_sem, z0, z1, z2, z3, z4]) rfl ⟨none, 0, none, 0, none, 0, none, 0, rfl, fun W' _ => imgZ_im W', below_five (Below.on b0 bA) (Nat.le_succ _) _ _ _ _ _⟩

set_option maxHeartbeats 4000000 in
theorem nor_none (ra : Option Addr) (rc : Nat) (sa : Option Addr) (sc : Nat) (fa : Option Addr) (fc : Nat) (na : Option Addr) (nc : Nat) (m : ImgD) (nm : ByteArray) (w : World) (h : Img w (.agg #[.int .i64 m.guest, .slice ra m.root.length rc, .slice sa m.slots.length sc, .slice fa m.refs.length fc, .slice na m.snaps.length nc]) m) (hE : checkE m = 0) (hi : ixOf (snapIx m.snaps nm) = -1) :
    Calls Try.prog 28 #[.agg #[.int .i64 m.guest, .slice ra m.root.length rc, .slice sa m.slots.length sc, .slice fa m.refs.length fc, .slice na m.snaps.length nc], .string nm] w (AnsJ w imgZ 5) := by
  have b0 : Below w.heap.size w ((w.alloc (.cells #[.int .i64 m.guest, .slice ra m.root.length rc, .slice sa m.slots.length sc, .slice fa m.refs.length fc, .slice na m.snaps.length nc] 26)).alloc (.cells #[.int .i64 0, .slice none 0 0, .slice none 0 0, .slice none 0 0, .slice none 0 0] 26)) := ((Below.refl _ _).alloc (Nat.le_refl _) _).alloc (by simp) _
  have m0 : ((w.alloc (.cells #[.int .i64 m.guest, .slice ra m.root.length rc, .slice sa m.slots.length sc, .slice fa m.refs.length fc, .slice na m.snaps.length nc] 26)).alloc (.cells #[.int .i64 0, .slice none 0 0, .slice none 0 0, .slice none 0 0, .slice none 0 0] 26)).heap[w.heap.size]? = some (.cells #[.int .i64 m.guest, .slice ra m.root.length rc, .slice sa m.slots.length sc, .slice fa m.refs.length fc, .slice na m.snaps.length nc] 26) := cells_alloc (World.alloc_heap_new _ _) _
  have m1 : ((w.alloc (.cells #[.int .i64 m.guest, .slice ra m.root.length rc, .slice sa m.slots.length sc, .slice fa m.refs.length fc, .slice na m.snaps.length nc] 26)).alloc (.cells #[.int .i64 0, .slice none 0 0, .slice none 0 0, .slice none 0 0, .slice none 0 0] 26)).heap[w.heap.size + 1]? = some (.cells #[.int .i64 0, .slice none 0 0, .slice none 0 0, .slice none 0 0, .slice none 0 0] 26) := by have := World.alloc_heap_new (w.alloc (.cells #[.int .i64 m.guest, .slice ra m.root.length rc, .slice sa m.slots.length sc, .slice fa m.refs.length fc, .slice na m.snaps.length nc] 26)) (.cells #[.int .i64 0, .slice none 0 0, .slice none 0 0, .slice none 0 0, .slice none 0 0] 26); simpa using this
  have hsz : w.heap.size + 1 < ((w.alloc (.cells #[.int .i64 m.guest, .slice ra m.root.length rc, .slice sa m.slots.length sc, .slice fa m.refs.length fc, .slice na m.snaps.length nc] 26)).alloc (.cells #[.int .i64 0, .slice none 0 0, .slice none 0 0, .slice none 0 0, .slice none 0 0] 26)).heap.size := by simp
  have I0 := h.below b0
  obtain ⟨c0, c1, c2, c3, c4⟩ := five m0
  have hck := checkImage_is I0 hE
  have HSA : Hid (∀ W, Below ((w.alloc (.cells #[.int .i64 m.guest, .slice ra m.root.length rc, .slice sa m.slots.length sc, .slice fa m.refs.length fc, .slice na m.snaps.length nc] 26)).alloc (.cells #[.int .i64 0, .slice none 0 0, .slice none 0 0, .slice none 0 0, .slice none 0 0] 26)).heap.size ((w.alloc (.cells #[.int .i64 m.guest, .slice ra m.root.length rc, .slice sa m.slots.length sc, .slice fa m.refs.length fc, .slice na m.snaps.length nc] 26)).alloc (.cells #[.int .i64 0, .slice none 0 0, .slice none 0 0, .slice none 0 0, .slice none 0 0] 26)) W → Calls Try.prog 61 #[.agg #[.int .i64 m.guest, .slice ra m.root.length rc, .slice sa m.slots.length sc, .slice fa m.refs.length fc, .slice na m.snaps.length nc], .string nm] W fun r w' => r = .returned (.int .i64 (-1)) ∧ Below W.heap.size W w') := fun W hW => snapAt_is (I0.below hW) nm (by have := (shapeE_zero (checkE_shape hE)).1; omega) hi
  clear h hE I0
  go_enter Try.func28, Try.ntmps28
  go_wp2_with (first | (go_at_call 61; refine (HSA.out _ bA).mono ?_; rintro e2 wB ⟨rfl, bB⟩; have bC := Below.on bA bB; have k0 := cells_below m0 bC (by omega); have k1 := cells_below m1 bC hsz; obtain ⟨g0, g1, g2, g3, g4⟩ := five k0; obtain ⟨z0, z1, z2, z3, z4⟩ := five k1; have y0 := cells_frozen k1 0; have y1 := cells_frozen k1 1; have y2 := cells_frozen k1 2; have y3 := cells_frozen k1 3; have y4 := cells_frozen k1 4) | (go_at_call 59; refine hck.mono ?_; rintro e1 wA ⟨rfl, bA⟩; have n0 := cells_below m0 bA (by omega); obtain ⟨d0, d1, d2, d3, d4⟩ := five n0))
  refine bodyPost_ret (v := .tuple #[.agg #[.int .i64 0, .slice none 0 0, .slice none 0 0, .slice none 0 0, .slice none 0 0], .int .i64 5]) (by simp [results, Try.results28, go_sem, z0, z1, z2, z3, z4]) rfl ⟨none, 0, none, 0, none, 0, none, 0, rfl, fun W' _ => imgZ_im W', below_five (Below.on b0 bC) (Nat.le_succ _) _ _ _ _ _⟩

set_option maxHeartbeats 16000000 in
theorem nor_ok (ra : Option Addr) (rc : Nat) (sa : Option Addr) (sc : Nat) (fa : Option Addr) (fc : Nat) (nb no : Nat) (nc : Nat) (m : ImgD) (nm : ByteArray) (k : Nat) (w : World) (h : Img w (.agg #[.int .i64 m.guest, .slice ra m.root.length rc, .slice sa m.slots.length sc, .slice fa m.refs.length fc, .slice (some ⟨nb, no, none⟩) m.snaps.length nc]) m) (hC : checkE m = 0) (hi : ixOf (snapIx m.snaps nm) = (k : Int)) (hk : k < m.snaps.length) (hnb : nb < w.heap.size) (sn : ByteArray) (sg : Int) (sr : List Int) (rv : Value) (s1 : w.cell? ⟨nb, no + k * 3 + 1, none⟩ = some (.int .i64 sg)) (s2 : w.cell? ⟨nb, no + k * 3 + 1 + 1, none⟩ = some rv) (hsl : Sl w rv sr) (hs4 : sr.length ≤ 4) (MR : ImgD) (HMR : Hid ({ { m with guest := sg } with root := sr } = MR)) (HSh : Hid (shapeE { MR with refs := rfZ MR.slots } = 0)) :
    Calls Try.prog 28 #[.agg #[.int .i64 m.guest, .slice ra m.root.length rc, .slice sa m.slots.length sc, .slice fa m.refs.length fc, .slice (some ⟨nb, no, none⟩) m.snaps.length nc], .string nm] w (AnsJ w (countedD MR) 0) := by
  have b0 : Below w.heap.size w ((w.alloc (.cells #[.int .i64 m.guest, .slice ra m.root.length rc, .slice sa m.slots.length sc, .slice fa m.refs.length fc, .slice (some ⟨nb, no, none⟩) m.snaps.length nc] 26)).alloc (.cells #[.int .i64 0, .slice none 0 0, .slice none 0 0, .slice none 0 0, .slice none 0 0] 26)) := ((Below.refl _ _).alloc (Nat.le_refl _) _).alloc (by simp) _
  have m0 : ((w.alloc (.cells #[.int .i64 m.guest, .slice ra m.root.length rc, .slice sa m.slots.length sc, .slice fa m.refs.length fc, .slice (some ⟨nb, no, none⟩) m.snaps.length nc] 26)).alloc (.cells #[.int .i64 0, .slice none 0 0, .slice none 0 0, .slice none 0 0, .slice none 0 0] 26)).heap[w.heap.size]? = some (.cells #[.int .i64 m.guest, .slice ra m.root.length rc, .slice sa m.slots.length sc, .slice fa m.refs.length fc, .slice (some ⟨nb, no, none⟩) m.snaps.length nc] 26) := cells_alloc (World.alloc_heap_new _ _) _
  have m1 : ((w.alloc (.cells #[.int .i64 m.guest, .slice ra m.root.length rc, .slice sa m.slots.length sc, .slice fa m.refs.length fc, .slice (some ⟨nb, no, none⟩) m.snaps.length nc] 26)).alloc (.cells #[.int .i64 0, .slice none 0 0, .slice none 0 0, .slice none 0 0, .slice none 0 0] 26)).heap[w.heap.size + 1]? = some (.cells #[.int .i64 0, .slice none 0 0, .slice none 0 0, .slice none 0 0, .slice none 0 0] 26) := by have := World.alloc_heap_new (w.alloc (.cells #[.int .i64 m.guest, .slice ra m.root.length rc, .slice sa m.slots.length sc, .slice fa m.refs.length fc, .slice (some ⟨nb, no, none⟩) m.snaps.length nc] 26)) (.cells #[.int .i64 0, .slice none 0 0, .slice none 0 0, .slice none 0 0, .slice none 0 0] 26); simpa using this
  have hsz : w.heap.size + 1 < ((w.alloc (.cells #[.int .i64 m.guest, .slice ra m.root.length rc, .slice sa m.slots.length sc, .slice fa m.refs.length fc, .slice (some ⟨nb, no, none⟩) m.snaps.length nc] 26)).alloc (.cells #[.int .i64 0, .slice none 0 0, .slice none 0 0, .slice none 0 0, .slice none 0 0] 26)).heap.size := by simp
  have I0 := h.below b0
  have hs := checkE_shape hC
  have hck := checkImage_is I0 hC
  have HSA : Hid (∀ W, Below ((w.alloc (.cells #[.int .i64 m.guest, .slice ra m.root.length rc, .slice sa m.slots.length sc, .slice fa m.refs.length fc, .slice (some ⟨nb, no, none⟩) m.snaps.length nc] 26)).alloc (.cells #[.int .i64 0, .slice none 0 0, .slice none 0 0, .slice none 0 0, .slice none 0 0] 26)).heap.size ((w.alloc (.cells #[.int .i64 m.guest, .slice ra m.root.length rc, .slice sa m.slots.length sc, .slice fa m.refs.length fc, .slice (some ⟨nb, no, none⟩) m.snaps.length nc] 26)).alloc (.cells #[.int .i64 0, .slice none 0 0, .slice none 0 0, .slice none 0 0, .slice none 0 0] 26)) W → Calls Try.prog 61 #[.agg #[.int .i64 m.guest, .slice ra m.root.length rc, .slice sa m.slots.length sc, .slice fa m.refs.length fc, .slice (some ⟨nb, no, none⟩) m.snaps.length nc], .string nm] W fun r w' => r = .returned (.int .i64 (k : Int)) ∧ Below W.heap.size W w') := fun W hW => snapAt_is (I0.below hW) nm (by have := (shapeE_zero (checkE_shape hC)).1; omega) hi
  have hk0 : ¬ (k : Int) < 0 := by omega
  have hk0b : decide ((k : Int) < 0) = false := by simp
  have hkn : (k : Int) < (m.snaps.length : Int) := by omega
  obtain ⟨c0, c1, c2, c3, c4⟩ := five m0
  have HSn : Hid (((w.alloc (.cells #[.int .i64 m.guest, .slice ra m.root.length rc, .slice sa m.slots.length sc, .slice fa m.refs.length fc, .slice (some ⟨nb, no, none⟩) m.snaps.length nc] 26)).alloc (.cells #[.int .i64 0, .slice none 0 0, .slice none 0 0, .slice none 0 0, .slice none 0 0] 26)).cell? ⟨nb, no + k * 3 + 1, none⟩ = some (.int .i64 sg) ∧ ((w.alloc (.cells #[.int .i64 m.guest, .slice ra m.root.length rc, .slice sa m.slots.length sc, .slice fa m.refs.length fc, .slice (some ⟨nb, no, none⟩) m.snaps.length nc] 26)).alloc (.cells #[.int .i64 0, .slice none 0 0, .slice none 0 0, .slice none 0 0, .slice none 0 0] 26)).cell? ⟨nb, no + k * 3 + 1 + 1, none⟩ = some rv ∧ Sl ((w.alloc (.cells #[.int .i64 m.guest, .slice ra m.root.length rc, .slice sa m.slots.length sc, .slice fa m.refs.length fc, .slice (some ⟨nb, no, none⟩) m.snaps.length nc] 26)).alloc (.cells #[.int .i64 0, .slice none 0 0, .slice none 0 0, .slice none 0 0, .slice none 0 0] 26)) rv sr ∧ nb < ((w.alloc (.cells #[.int .i64 m.guest, .slice ra m.root.length rc, .slice sa m.slots.length sc, .slice fa m.refs.length fc, .slice (some ⟨nb, no, none⟩) m.snaps.length nc] 26)).alloc (.cells #[.int .i64 0, .slice none 0 0, .slice none 0 0, .slice none 0 0, .slice none 0 0] 26)).heap.size) := ⟨(b0.cell (p := ⟨nb, no + k * 3 + 1, none⟩) hnb).trans s1, (b0.cell (p := ⟨nb, no + k * 3 + 1 + 1, none⟩) hnb).trans s2, hsl.below b0, Nat.lt_of_lt_of_le hnb b0.size⟩
  obtain ⟨va, vc, rfl⟩ := hsl.form
  clear h hC s1 s2 hsl hi
  go_enter Try.func28, Try.ntmps28
  go_upto_region 7 with (first | (go_at_call 61; refine (HSA.out _ bA).mono ?_; rintro e2 wB ⟨rfl, bB⟩; have bC := Below.on bA bB; have kB := cells_below m0 bC (by omega); obtain ⟨g0, g1, g2, g3, g4⟩ := five kB) | (go_at_call 59; refine hck.mono ?_; rintro e1 wA ⟨rfl, bA⟩; have nA := cells_below m0 bA (by omega); obtain ⟨d0, d1, d2, d3, d4⟩ := five nA))
  clear c0 c1 c2 c3 c4 d0 d1 d2 d3 d4 g0 g1 g2 g3 g4 kB nA
  obtain ⟨w1, hw1⟩ : ∃ X, X = wB := ⟨_, rfl⟩
  have b1 : Below ((w.alloc (.cells #[.int .i64 m.guest, .slice ra m.root.length rc, .slice sa m.slots.length sc, .slice fa m.refs.length fc, .slice (some ⟨nb, no, none⟩) m.snaps.length nc] 26)).alloc (.cells #[.int .i64 0, .slice none 0 0, .slice none 0 0, .slice none 0 0, .slice none 0 0] 26)).heap.size ((w.alloc (.cells #[.int .i64 m.guest, .slice ra m.root.length rc, .slice sa m.slots.length sc, .slice fa m.refs.length fc, .slice (some ⟨nb, no, none⟩) m.snaps.length nc] 26)).alloc (.cells #[.int .i64 0, .slice none 0 0, .slice none 0 0, .slice none 0 0, .slice none 0 0] 26)) w1 := by rw [hw1]; exact bC
  rw [← hw1]
  clear hw1
  have hz1 : w.heap.size + 1 < w1.heap.size := Nat.lt_of_lt_of_le hsz b1.size
  have n0 := cells_below m0 b1 (by omega)
  have n1 := cells_below m1 b1 hsz
  have bw : Below w.heap.size w w1 := Below.on b0 b1
  have I1 := I0.below b1
  obtain ⟨f0, f1, f2, f3, f4⟩ := five n0
  have HOw := ownImage_is I1 hs
  go_cut [8] from 9 (fun s wx => ∃ D, s = .pointer (some ⟨D, 0, none⟩) ∧ Hid (OwR w1 wx D m))
  case first =>
    go_wp2_with (go_at_call 62; refine HOw.mono ?_; rintro e3 w3 ⟨val, rfl, hO, b3⟩; obtain ⟨p0, q0, p1, q1, p2, q2, p3, q3, x0, x1, x2, x3⟩ := hO.four'; unfold imgV; rw [x0, x1, x2, x3])
    go_meet
    have s3 := b3.size
    exact ⟨_, rfl, ⟨⟨val, hO.alloc _, by rw [x0, x1, x2, x3]; exact World.alloc_heap_new _ _, hO.lt (Nat.le_refl _)⟩, s3, b3.alloc s3 _⟩⟩
  case rest =>
  obtain ⟨D, rfl, HD1⟩ := hcut
  obtain ⟨wa, hwa⟩ : ∃ X, X = wc := ⟨_, rfl⟩
  subst hwa
  clear HOw f0 f1 f2 f3 f4
  have HS1 : Hid (w1.cell? ⟨nb, no + k * 3 + 1, none⟩ = some (.int .i64 sg) ∧ w1.cell? ⟨nb, no + k * 3 + 1 + 1, none⟩ = some (.slice va sr.length vc) ∧ Sl w1 (.slice va sr.length vc) sr ∧ nb < w1.heap.size) := ⟨(b1.cell (p := ⟨nb, no + k * 3 + 1, none⟩) HSn.out.2.2.2).trans HSn.out.1, (b1.cell (p := ⟨nb, no + k * 3 + 1 + 1, none⟩) HSn.out.2.2.2).trans HSn.out.2.1, HSn.out.2.2.1.below b1, Nat.lt_of_lt_of_le HSn.out.2.2.2 b1.size⟩
  clear HSn HSA
  go_upto_region 8 with fail
  go_cut [] from 9 (fun wx => Hid (OwR w1 wx D { m with guest := sg }))
  case first =>
    obtain ⟨val, hX, hbox, hfar⟩ := HD1.out.ex
    have hbel := HD1.out.bel
    have hDge := HD1.out.ge
    obtain ⟨p0, q0, p1, q1, p2, q2, p3, q3, x0, x1, x2, x3⟩ := hX.four'
    have hbx := hbox
    rw [x0, x1, x2, x3] at hbx
    have hDl := (Array.getElem?_eq_some_iff.1 hbx).1
    have hs1 := hbel.size
    obtain ⟨d0, d1, d2, d3, d4⟩ := five hbx
    have ff0 := cells_frozen hbx 0; have ff1 := cells_frozen hbx 1; have ff2 := cells_frozen hbx 2; have ff3 := cells_frozen hbx 3; have ff4 := cells_frozen hbx 4
    have cg := (hbel.cell (p := ⟨nb, no + k * 3 + 1, none⟩) HS1.out.2.2.2).trans HS1.out.1
    have nX := cells_below n0 hbel (by omega)
    obtain ⟨g0, g1, g2, g3, g4⟩ := five nX
    go_wp2_with fail
    go_meet
    exact ow_guest hX hbel hbox hDge hfar sg
  case rest =>
  have HD2 := hcut
  obtain ⟨wb, hwb⟩ : ∃ X, X = wc := ⟨_, rfl⟩
  subst hwb
  clear hcut HD1
  go_upto_region 9 with fail
  go_cut [] from 9 (fun wx => Hid (OwR w1 wx D MR))
  case first =>
    obtain ⟨val, hX, hbox, hfar⟩ := HD2.out.ex
    have hbel := HD2.out.bel
    have hDge := HD2.out.ge
    obtain ⟨p0, q0, p1, q1, p2, q2, p3, q3, x0, x1, x2, x3⟩ := hX.four'
    have hbx := hbox
    rw [x0, x1, x2, x3] at hbx
    have hDl := (Array.getElem?_eq_some_iff.1 hbx).1
    have hs1 := hbel.size
    obtain ⟨d0, d1, d2, d3, d4⟩ := five hbx
    have cg := (hbel.cell (p := ⟨nb, no + k * 3 + 1 + 1, none⟩) HS1.out.2.2.2).trans HS1.out.2.1
    have cg2 : (wb.alloc (.cells #[] 3)).cell? ⟨nb, no + k * 3 + 1 + 1, none⟩ = some (.slice va sr.length vc) := (((Below.refl _ _).alloc (Nat.le_refl _) _).cell (p := ⟨nb, no + k * 3 + 1 + 1, none⟩) (Nat.lt_of_lt_of_le HS1.out.2.2.2 hs1)).trans cg
    have nX := cells_alloc (cells_below n0 hbel (by omega)) (.cells #[] 3)
    obtain ⟨g0, g1, g2, g3, g4⟩ := five nX
    have hslb : Sl (wb.alloc (.cells #[] 3)) (.slice va sr.length vc) sr := (HS1.out.2.2.1.below hbel).below ((Below.refl _ _).alloc (Nat.le_refl _) _)
    have hne : wb.heap[wb.heap.size]? = none := by simp
    have HX : Hid (OX wb w1.heap.size val { m with guest := sg } ∧ wb.heap[D]? = some (.cells #[.int .i64 sg, val .root, val .slots, val .refs, val .snaps] 26) ∧ (∀ a, LiveX { m with guest := sg } a → (val a).ownBlock ≠ some D) ∧ Below w1.heap.size w1 wb) := ⟨hX, hbox, hfar, hbel⟩
    have HDx : Hid (wb.heap[D]? = some (.cells #[.int .i64 sg, .slice p0 m.root.length q0, .slice p1 m.slots.length q1, .slice p2 m.refs.length q2, .slice p3 m.snaps.length q3] 26)) := hbx
    clear hX hbox hfar hbel hbx x0 x1 x2 x3 hne
    go_wp2_with (at_builtin; refine wpList_copy (by rfl) _ _ (by rfl) (B := w1.heap.size) (by rfl) (World.alloc_heap_new _ _) hs1 (by rfl) hslb (by omega) ?_; intro v1 w8 h1 h2 h3; obtain ⟨ya, yc, hy⟩ := row_slice h1.out; subst hy; have hD8 : w8.heap[D]? = some (.cells #[.int .i64 sg, .slice p0 m.root.length q0, .slice p1 m.slots.length q1, .slice p2 m.refs.length q2, .slice p3 m.snaps.length q3] 26) := (h2.block D (by simp; omega) (by intro e; injection e with e; omega)).trans (cells_alloc HDx.out _); obtain ⟨r0, r1, r2, r3, r4⟩ := five hD8; have rr0 := cells_frozen hD8 0; have rr1 := cells_frozen hD8 1; have rr2 := cells_frozen hD8 2; have rr3 := cells_frozen hD8 3; have rr4 := cells_frozen hD8 4; have H2 : Hid ((wb.alloc (.cells #[] 3)).grownBy w8 (some wb.heap.size)) := h2; clear h2 hD8)
    go_meet
    obtain ⟨hX, hbox, hfar, hbel⟩ := HX.out
    rw [← HMR.out]
    have hg2 := H2.out
    have hbW : Below w1.heap.size w1 w8 := Below.grown (hbel.alloc hs1 _) hg2 (by simp; omega) (fun q e => by injection e with e; omega)
    refine ow_newroot (V := w1) (X := wb) (W := w8) (r := sr) hX hbox hDge hfar h1.out (fun q hq _ => ?_) hbW (.inr (fun q e => ?_))
    · exact (hg2.block q (by simp; omega) (by intro e; injection e with e; omega)).trans (Below.heap_alloc wb _ q hq)
    · rcases h3.out with x | x
      · rw [x] at e; injection e with e; omega
      · rw [x] at e; injection e with e; simp at e; omega
  case rest =>
  have HD3 := hcut
  obtain ⟨wg, hwg⟩ : ∃ X, X = wc := ⟨_, rfl⟩
  subst hwg
  clear hcut HD2
  obtain ⟨val, hX, hbox, hfar⟩ := HD3.out.ex
  have hbel := HD3.out.bel
  have hDge := HD3.out.ge
  obtain ⟨p0, q0, p1, q1, p2, q2, p3, q3, x0, x1, x2, x3⟩ := hX.four'
  have hbx := hbox
  rw [x0, x1, x2, x3] at hbx
  obtain ⟨d0, d1, d2, d3, d4⟩ := five hbx
  have z9 := cells_below n1 hbel hz1
  obtain ⟨z0, z1, z2, z3, z4⟩ := five z9
  have y0 := cells_frozen z9 0; have y1 := cells_frozen z9 1; have y2 := cells_frozen z9 2; have y3 := cells_frozen z9 3; have y4 := cells_frozen z9 4
  have nD1 : ¬ D = w.heap.size + 1 := by omega
  have nD2 : ¬ w.heap.size + 1 = D := by omega
  have hc := countedX_is hX hbel.size HSh.out
  unfold imgV at hc
  rw [x0, x1, x2, x3] at hc
  have HCt : Hid (Calls Try.prog 63 #[.agg #[.int .i64 MR.guest, .slice p0 MR.root.length q0, .slice p1 MR.slots.length q1, .slice p2 MR.refs.length q2, .slice p3 MR.snaps.length q3]] wg fun r w' => ∃ val', r = .returned (imgV MR.guest val') ∧ OX w' w1.heap.size val' (countedD MR) ∧ Below w1.heap.size wg w' ∧ KeepX wg w' MR val ∧ SrcX wg MR val (.slice none 0 0) (countedD MR) val') := hc
  have hzl : w.heap.size + 1 < wg.heap.size := Nat.lt_of_lt_of_le hz1 hbel.size
  have hfz : ∀ a, LiveX MR a → (val a).ownBlock ≠ some (w.heap.size + 1) := fun a ha x => by have := ((hX.row a ha).lt _ x).1; omega
  clear hc
  go_wp2_with (go_at_call 63; refine HCt.out.mono ?_; rintro e7 w7 ⟨val2, rfl, hO7, b7, k7, s7⟩; obtain ⟨u0, v0, u1, v1, u2, v2, u3, v3, j0, j1, j2, j3⟩ := hO7.four'; have k17 := (k7 (w.heap.size + 1) hzl hfz).trans z9; obtain ⟨o0, o1, o2, o3, o4⟩ := five k17; have oo0 := cells_frozen k17 0; have oo1 := cells_frozen k17 1; have oo2 := cells_frozen k17 2; have oo3 := cells_frozen k17 3; have oo4 := cells_frozen k17 4; unfold imgV; rw [j0, j1, j2, j3])
  have hfr : ∀ a, LiveX (countedD MR) a → (val2 a).ownBlock ≠ some (w.heap.size + 1) := fun a ha x => by
    have := ((hO7.row a ha).lt _ x).1
    omega
  have hI := fun x0 x1 x2 x3 x4 => hO7.five hfr x0 x1 x2 x3 x4
  have eI : imgV (countedD MR).guest val2 = .agg #[.int .i64 MR.guest, .slice u0 (countedD MR).root.length v0, .slice u1 (countedD MR).slots.length v1, .slice u2 (countedD MR).refs.length v2, .slice u3 (countedD MR).snaps.length v3] := by unfold imgV; rw [j0, j1, j2, j3]; rfl
  have hB8 : Below w.heap.size w w7 := (Below.on bw hbel).trans (b7.mono (by omega))
  refine bodyPost_ret (v := .tuple #[.agg #[.int .i64 MR.guest, .slice u0 (countedD MR).root.length v0, .slice u1 (countedD MR).slots.length v1, .slice u2 (countedD MR).refs.length v2, .slice u3 (countedD MR).snaps.length v3], .int .i64 0]) (by simp [results, Try.results28, go_sem, o0, o1, o2, o3, o4]) rfl ⟨u0, v0, u1, v1, u2, v2, u3, v3, rfl, fun W' hW => (by have := ((hI _ _ _ _ _).keep (fun q hq _ => hW q (by omega))).img; rw [eI] at this; exact this), below_five hB8 (Nat.le_succ _) _ _ _ _ _⟩

theorem nor_is {w : World} {v : Value} {m : ImgD} (h : Img w v m) (nm : ByteArray) {M : ImgD} {E : Int} (hM : rvM m nm = M) (hE : pastE m nm = E) :
    Calls Try.prog 28 #[v, .string nm] w (AnsJ w M E) := by
  have h' := h
  obtain ⟨ra, rc, sa, sc, fa, fc, na, nc, rfl, _⟩ := h.parts
  subst hM hE
  by_cases h0 : pastE m nm = 0
  · obtain ⟨hC, k, hk, hl, e, hs, _⟩ := rv_ok h0
    rw [h0, e]
    obtain ⟨nb, no, nc', ev, _, hlt, hS⟩ := h'.four.2.2.2.open (by omega)
    simp only [Value.slice.injEq] at ev
    obtain ⟨rfl, _, rfl⟩ := ev
    obtain ⟨rv, a0, a1, a2, a3⟩ := hS k hl
    have hg : m.snaps[k] = m.snaps.getD k default := by simp [List.getD, hl]
    obtain ⟨f1, f2, f3, _⟩ := snap_fit (checkE_shape hC) (s := m.snaps[k]) (List.mem_cons_of_mem _ (List.getElem_mem hl))
    exact nor_ok ra rc sa sc fa fc nb no nc m nm k w h' hC (by rw [hk]; rfl) hl hlt m.snaps[k].1 m.snaps[k].2.1 m.snaps[k].2.2 rv a1 a2 a3 (by omega) _ (by rw [hg]; rfl) (shape_rfq hs)
  · rw [rv_bad h0]
    unfold pastE at h0 ⊢
    by_cases hC : checkE m = 0
    · rw [if_neg (fun x => x hC)] at h0 ⊢
      cases hx : snapIx m.snaps nm with
      | some k => rw [hx] at h0; exact absurd rfl h0
      | none => exact nor_none ra rc sa sc fa fc na nc m nm w h' hC (by rw [hx]; rfl)
    · rw [if_pos hC]
      exact nor_bad ra rc sa sc fa fc na nc m nm w h' _ rfl (by simp [hC])
end Go.Proofs.Ytehleeibgkpjmad
/- slices.Insert of one snapshot into a row of snapshots that is one's own. -/
namespace Go.Proofs.Ytehleeibgkpjmad
open Go.RowKit Go.Shelf Go.Lib
set_option maxRecDepth 20000
set_option linter.unusedVariables false
set_option linter.unusedSimpArgs false

theorem run_copy3 (w : World) (dT sT ty elem : TypeId) (g o dLen dCap : Nat) (a : Addr) (sLen sCap : Nat) (cur : Array Value) (t : TypeId) (cs : List Value)
    (hu : Try.prog.underlying dT = some (.slice elem)) (hs : (Try.prog.info? elem).map (·.size) = some 3)
    (hg : w.heap[g]? = some (.cells cur t (0, 0))) (hn : cs.length = Nat.min sLen dLen * 3)
    (hsrc : ∀ j v, cs[j]? = some v → w.cell? (a.add j) = some v) (hfit : o + cs.length ≤ cur.size) (h1 : ∀ v ∈ cs, v.oneCell' = true) :
    (Builtin.copy_ #[dT, sT] ty #[.slice (some ⟨g, o, none⟩) dLen dCap, .slice (some a) sLen sCap]).run Try.prog w =
      .ok (goInt (Nat.min sLen dLen)) (w.setRow g (cur.toList.take o ++ cs ++ cur.toList.drop (o + cs.length)).toArray) := by
  have hl := run_loadCells_list (P := Try.prog) w a cs hsrc
  have hst := run_storeCells_at Try.prog g o t cs 0 cur w hg (by simpa using hfit) h1
  cases hq : Try.prog.info? elem with
  | none => simp [hq] at hs
  | some i =>
    have hi : i.size = 3 := by simpa [hq] using hs
    simp [Builtin.copy_, run_underlying hu, Builtin.lenOf, Builtin.firstCells, sizeOf, typeInfo, hq, hi, ← hn, hl, hst]

theorem infoSnap3 : (Try.prog.info? 72).map (·.size) = some 3 := by kernel_rfl

def shL (cur : List Value) (n i : Nat) : List Value := cur.take ((i + 1) * 3) ++ (cur.take (n * 3)).drop (i * 3) ++ cur.drop ((i + 1) * 3 + ((cur.take (n * 3)).drop (i * 3)).length)
def inL (L : List Value) (i : Nat) (x : List Value) : List Value := L.take (i * 3) ++ x ++ L.drop (i * 3 + x.length)
theorem shL_length {cur : List Value} {n i c : Nat} (hi : i < n) (hc : n + 1 ≤ c) (h : cur.length = c * 3) : (shL cur n i).length = c * 3 := by
  unfold shL; simp only [List.length_append, List.length_take, List.length_drop, h]; omega
theorem inL_length {L x : List Value} {i c : Nat} (hi : i < c) (h : L.length = c * 3) (hx : x.length = 3) : (inL L i x).length = c * 3 := by
  unfold inL; simp only [List.length_append, List.length_take, List.length_drop, h, hx]; omega
theorem in_sh {cur x : List Value} {n i c : Nat} (hi : i < n) (hc : n + 1 ≤ c) (h : cur.length = c * 3) (hx : x.length = 3) : (inL (shL cur n i) i x).take ((n + 1) * 3) = (cur.take (n * 3)).take (i * 3) ++ x ++ (cur.take (n * 3)).drop (i * 3) := by
  have hl : ((cur.take (n * 3)).drop (i * 3)).length = (n - i) * 3 := by simp only [List.length_take, List.length_drop, h]; omega
  apply List.ext_getElem?
  intro j
  unfold inL shL
  rw [hl]
  simp only [List.getElem?_take, List.getElem?_append, List.getElem?_drop, List.length_append, List.length_take, List.length_drop, h, hx]
  repeat' split
  all_goals first | rfl | omega | (congr 1; omega) | (exfalso; omega) | (rw [List.getElem?_eq_none (by omega)])
set_option maxHeartbeats 4000000 in
theorem ins_shift (g n c i N : Nat) (cur : Array Value) (x0 x1 x2 : Value) (w : World) (hi : i < n) (hroom : n + 1 ≤ c) (hc : c ≤ 9223372036854775807) (hNg : N ≠ g)
    (hg : w.heap[g]? = some (.cells cur 72)) (hsz : cur.size = c * 3) (hN : w.heap[N]? = some (.cells #[x0, x1, x2] 72)) (h1 : ∀ u ∈ cur.toList.take (n * 3), u.oneCell' = true) (h1x : ∀ u ∈ [x0, x1, x2], u.oneCell' = true) :
    Calls Try.prog 54 #[.slice (some ⟨g, 0, none⟩) n c, .int .i64 i, .slice (some ⟨N, 0, none⟩) 1 1] w fun r w' => r = .returned (.slice (some ⟨g, 0, none⟩) (n + 1) c) ∧ w'.heap[g]? = some (.cells (inL (shL cur.toList n i) i [x0, x1, x2]).toArray 72) ∧ w.grownBy w' (some g) := by
  have hz2 : ¬ ((i : Int) = (n : Int)) := by omega
  have hw1 : IntKind.i64.wrap ((i : Int) + 1) = (i : Int) + 1 := by rw [IntKind.wrap_i64]; omega
  have hb1 : (0 : Int) ≤ (i : Int) + 1 := by omega
  have hin : i ≤ n := by omega
  have htn : ((i : Int) + 1).toNat = i + 1 := by omega
  have hb2 : ¬ (c = i + 1) := by omega
  have hb3 : (i : Int) ≤ (n : Int) + 1 := by omega
  have hb4 : ¬ (c = i) := by omega
  have hz3 : ¬ ((c : Int) < (n : Int) + 1) := by omega
  have hov : ∀ lb cb, (callFunc 86 #[.slice (some ⟨N, 0, none⟩) 1 1, .slice (some ⟨g, (i + 1) * 3, none⟩) lb cb]).run Try.prog w = .ok (.value (.bool false)) w := fun lb cb => by
    rw [run_callFunc_extern Try.func86 (by kernel_rfl) (by kernel_rfl) (by kernel_rfl) (e := Extern.SlicesOverlaps.overlaps #[24, 24] #[4]) (by kernel_rfl),
      Lib.run_overlaps_apart w 24 4 72 (by kernel_rfl) 3 (fun w => by kernel_rfl) ⟨N, 0, none⟩ ⟨g, (i + 1) * 3, none⟩ 1 1 lb cb hNg 72 72 3 (c * 3) (by simp [World.shape?, hN]) (by simp [World.shape?, hg, hsz]) (by omega) (by simp [World.frozen?, hN]) (by simp [World.frozen?, hN])]
    rfl
  have hcp1 : ∀ ty dc sc, (Builtin.copy_ #[24, 24] ty #[.slice (some ⟨g, (i + 1) * 3, none⟩) (n - i) dc, .slice (some ⟨g, i * 3, none⟩) (n + 1 - i) sc]).run Try.prog w.drew = .ok (goInt (Nat.min (n + 1 - i) (n - i))) (w.drew.setRow g (shL cur.toList n i).toArray) := fun ty dc sc =>
    run_copy3 w.drew 24 24 ty 72 g ((i + 1) * 3) (n - i) dc ⟨g, i * 3, none⟩ (n + 1 - i) sc cur 72 ((cur.toList.take (n * 3)).drop (i * 3)) (by kernel_rfl) infoSnap3 hg (by simp only [List.length_take, List.length_drop, Array.length_toList, hsz]; simp only [Nat.min_def]; split <;> split <;> omega)
      (fun j v hj => by
        rw [Addr.add_lit]
        rw [List.getElem?_drop, List.getElem?_take] at hj
        split at hj
        · simp only [World.cell?, World.drew]
          rw [hg]
          simpa using hj
        · cases hj)
      (by simp only [List.length_take, List.length_drop, Array.length_toList, hsz]; omega) (fun u hu => h1 u (List.mem_of_mem_drop hu))
  have hW1 : (w.drew.setRow g (shL cur.toList n i).toArray).heap[g]? = some (.cells (shL cur.toList n i).toArray 72) := setRow_heap w.drew g cur _ 72 (0, 0) hg
  have hN1 : (w.drew.setRow g (shL cur.toList n i).toArray).heap[N]? = some (.cells #[x0, x1, x2] 72) := (setRow_other w.drew g N _ hNg).trans hN
  obtain ⟨W1, eW1⟩ : ∃ W1, w.drew.setRow g (shL cur.toList n i).toArray = W1 := ⟨_, rfl⟩
  rw [eW1] at hcp1 hW1 hN1
  have hcp2 : ∀ ty dc, (Builtin.copy_ #[24, 24] ty #[.slice (some ⟨g, i * 3, none⟩) (n + 1 - i) dc, .slice (some ⟨N, 0, none⟩) 1 1]).run Try.prog W1 = .ok (goInt (Nat.min 1 (n + 1 - i))) (W1.setRow g (inL (shL cur.toList n i) i [x0, x1, x2]).toArray) := fun ty dc => by
    have := run_copy3 W1 24 24 ty 72 g (i * 3) (n + 1 - i) dc ⟨N, 0, none⟩ 1 1 (shL cur.toList n i).toArray 72 [x0, x1, x2] (by kernel_rfl) infoSnap3 hW1 (by simp only [List.length_cons, List.length_nil, Nat.min_def]; split <;> omega)
      (fun j v hj => by
        rw [Addr.add_lit]
        simp only [World.cell?]
        rw [hN1]
        simpa using hj)
      (by simp only [List.size_toArray, shL_length hi hroom (show cur.toList.length = c * 3 by rw [Array.length_toList]; exact hsz), List.length_cons, List.length_nil]; omega) h1x
    simpa [inL] using this
  have HH : Hid (w.heap[g]? = some (.cells cur 72) ∧ w.heap[N]? = some (.cells #[x0, x1, x2] 72)) := ⟨hg, hN⟩
  clear hg hN
  have mixed : Try.prog.follows Departure.mixedOrders = true := by kernel_rfl
  go_enter Try.func54, Try.ntmps54
  go_wp2_with (simp only [hov])
  go_region_law_o (refine step_copy_runI rfl _ _ 24 24 rfl _ _ (by simp [Act.eval, Act.put]) (by simp [Act.eval, Act.put]) (hcp1 _ _ _) ?_)
  go_wp2_with (at_builtin; refine wpList_copy_runI _ rfl _ _ 24 24 rfl _ _ rfl rfl (hcp2 _ _) ?_)
  go_ret
  refine ⟨rfl, ?_, ?_⟩
  · exact setRow_heap W1 g _ _ 72 (0, 0) hW1
  · subst eW1
    exact ⟨rfl, rfl, rfl, by simp, fun k _ hk => (setRow_other _ g k _ (fun e => hk (by rw [e]))).trans (setRow_other _ g k _ (fun e => hk (by rw [e])))⟩

def zSnap : Value := .agg #[.string ByteArray.empty, .int .i64 0, .slice none 0 0]
def grL (L xs : List Value) (i : Nat) : List Value := L.take ((i + 1) * 3) ++ xs.drop (i * 3) ++ L.drop ((i + 1) * 3 + (xs.drop (i * 3)).length)
theorem grL_length {L xs : List Value} {n i c : Nat} (hi : i < n) (hc : n + 1 ≤ c) (h : L.length = c * 3) (hx : xs.length = n * 3) : (grL L xs i).length = c * 3 := by
  unfold grL; simp only [List.length_append, List.length_take, List.length_drop, h, hx]; omega
theorem in_gr {xs x Z : List Value} {n i c : Nat} (hi : i < n) (hc : n + 1 ≤ c) (h : xs.length = n * 3) (hZ : i * 3 + Z.length = c * 3) (hx : x.length = 3) : (grL (inL (xs.take (i * 3) ++ Z) i x) xs i).take ((n + 1) * 3) = xs.take (i * 3) ++ x ++ xs.drop (i * 3) := by
  have hl : (xs.drop (i * 3)).length = (n - i) * 3 := by simp only [List.length_drop, h]; omega
  apply List.ext_getElem?
  intro j
  unfold grL inL
  rw [hl]
  simp only [List.getElem?_take, List.getElem?_append, List.getElem?_drop, List.length_append, List.length_take, List.length_drop, h, hx]
  repeat' split
  all_goals first | rfl | omega | (congr 1; omega) | (exfalso; omega) | (rw [List.getElem?_eq_none (by omega)])
set_option maxHeartbeats 4000000 in
theorem ins_grow (g n i N : Nat) (cur : Array Value) (x0 x1 x2 : Value) (w : World) (hi : i < n) (hn2 : n ≤ 1000)
    (hg : w.heap[g]? = some (.cells cur 72)) (hsz : cur.size = n * 3) (hN : w.heap[N]? = some (.cells #[x0, x1, x2] 72)) (h1 : ∀ u ∈ cur.toList, u.oneCell' = true) (h1x : ∀ u ∈ [x0, x1, x2], u.oneCell' = true) :
    Calls Try.prog 54 #[.slice (some ⟨g, 0, none⟩) n n, .int .i64 i, .slice (some ⟨N, 0, none⟩) 1 1] w fun r w' => ∃ G Z, n + 1 ≤ G ∧ G ≤ maxLen ∧ i * 3 + Z.length = G * 3 ∧ r = .returned (.slice (some ⟨w.heap.size, 0, none⟩) (n + 1) G) ∧ w'.heap[w.heap.size]? = some (.cells (grL (inL (cur.toList.take (i * 3) ++ Z) i [x0, x1, x2]) cur.toList i).toArray 72) ∧ w.grownBy w' none := by
  have hz2 : ¬ ((i : Int) = (n : Int)) := by omega
  have hw1 : IntKind.i64.wrap ((i : Int) + 1) = (i : Int) + 1 := by rw [IntKind.wrap_i64]; omega
  have hb1 : (0 : Int) ≤ (i : Int) + 1 := by omega
  have hin : i ≤ n := by omega
  have htn : ((i : Int) + 1).toNat = i + 1 := by omega
  have hb3 : (i : Int) ≤ (n : Int) := by omega
  have hb5 : (i : Int) ≤ (n : Int) + 1 := by omega
  have hb4 : ¬ (n = i) := by omega
  have hz3 : (n : Int) < (n : Int) + 1 := by omega
  have hgw : g < w.heap.size := (Array.getElem?_eq_some_iff.1 hg).1
  have hNw : N < w.heap.size := (Array.getElem?_eq_some_iff.1 hN).1
  obtain ⟨i0, hi0, hz0, hzs, hzb⟩ := info_parts infoSnap
  have hkk : (n : Int) + 1 - (i : Int) = ((n + 1 - i : Nat) : Int) := by omega
  have hik : i + (n + 1 - i) = n + 1 := by omega
  have hold : (Builtin.firstCells i0.size i (.slice (some ⟨g, 0, none⟩) i n)).run Try.prog w.drew = .ok (cur.toList.take (i * 3)).toArray w.drew := by
    rw [hzs]
    exact run_firstCells_some w.drew 3 i ⟨g, 0, none⟩ i n (cur.toList.take (i * 3)) (by rw [List.length_take, Array.length_toList]; omega) (fun j v hj => by
      rw [Addr.add_lit]
      rw [List.getElem?_take] at hj
      split at hj
      · simp only [World.cell?, World.drew]
        rw [hg]
        simpa using hj
      · cases hj)
  have hrz : ∀ ty, (Builtin.append_ #[24, 3] ty #[.slice (some ⟨g, 0, none⟩) i n, .int .i64 ((n : Int) + 1 - (i : Int))]).run Try.prog w =
      .ok (.slice (some ⟨w.heap.size, 0, none⟩) (n + 1) (grownCap w (n + 1) n 72)) (w.drew.alloc (.cells ((cur.toList.take (i * 3)).toArray ++ Builtin.zeroCells zSnap.cells (n + 1 - i) ++ Builtin.zeroCells zSnap.cells (grownCap w (n + 1) n 72 - (n + 1))) 72)) := fun ty => by
    have h := Lib.run_append_grow_zeros w 24 3 ty 72 i0 zSnap .i64 .i64 (by kernel_rfl) (by kernel_rfl) hi0 hz0 (some ⟨g, 0, none⟩) i n (cur.toList.take (i * 3)) hold (n + 1 - i) (by omega) (by omega) (by omega) (by omega) (by rw [hzb]; omega) (by rw [hzb, hik]; exact growslice_fits (by omega) (by omega))
    rw [hik] at h
    rw [hkk]
    exact h
  have hGn : n + 1 ≤ grownCap w (n + 1) n 72 := grownCap_ge w _ _ _
  have hGm : grownCap w (n + 1) n 72 ≤ maxLen := grownCap_le_maxLen w _ _ _ (by unfold maxLen; omega)
  obtain ⟨G, hG⟩ : ∃ G, grownCap w (n + 1) n 72 = G := ⟨_, rfl⟩
  rw [hG] at hrz hGn hGm
  have hG63 : G ≤ 9223372036854775807 := by unfold maxLen at hGm; omega
  obtain ⟨Z, hZ⟩ : ∃ Z : List Value, (Builtin.zeroCells zSnap.cells (n + 1 - i) ++ Builtin.zeroCells zSnap.cells (G - (n + 1))).toList = Z := ⟨_, rfl⟩
  have hZl : i * 3 + Z.length = G * 3 := by
    rw [← hZ, Array.length_toList, Array.size_append, size_zeroCells, size_zeroCells, show zSnap.cells.size = 3 by rfl]; omega
  have hR : (cur.toList.take (i * 3)).toArray ++ Builtin.zeroCells zSnap.cells (n + 1 - i) ++ Builtin.zeroCells zSnap.cells (G - (n + 1)) = (cur.toList.take (i * 3) ++ Z).toArray := by
    rw [← hZ]; apply Array.toList_inj.1; simp
  rw [hR] at hrz
  have hLl : (cur.toList.take (i * 3) ++ Z).length = G * 3 := by rw [List.length_append, List.length_take, Array.length_toList]; omega
  obtain ⟨L0, hL0⟩ : ∃ L0, cur.toList.take (i * 3) ++ Z = L0 := ⟨_, rfl⟩
  rw [hL0] at hrz hLl
  obtain ⟨W1, eW1⟩ : ∃ W1, w.drew.alloc (.cells L0.toArray 72) = W1 := ⟨_, rfl⟩
  have hW1 : W1.heap[w.heap.size]? = some (.cells L0.toArray 72) := by rw [← eW1]; exact World.alloc_heap_new w.drew _
  have hold1 : ∀ k, k < w.heap.size → W1.heap[k]? = w.heap[k]? := fun k hk => by
    rw [← eW1]; exact ((Below.refl w.drew.heap.size w.drew).alloc (Nat.le_refl _) (.cells L0.toArray 72)).block k hk
  rw [eW1] at hrz
  have hN1 := (hold1 N hNw).trans hN
  have hcp2 : ∀ ty dc, (Builtin.copy_ #[24, 24] ty #[.slice (some ⟨w.heap.size, i * 3, none⟩) (n + 1 - i) dc, .slice (some ⟨N, 0, none⟩) 1 1]).run Try.prog W1 = .ok (goInt (Nat.min 1 (n + 1 - i))) (W1.setRow w.heap.size (inL L0 i [x0, x1, x2]).toArray) := fun ty dc => by
    have := run_copy3 W1 24 24 ty 72 w.heap.size (i * 3) (n + 1 - i) dc ⟨N, 0, none⟩ 1 1 L0.toArray 72 [x0, x1, x2] (by kernel_rfl) infoSnap3 hW1 (by simp only [List.length_cons, List.length_nil, Nat.min_def]; split <;> omega)
      (fun j v hj => by
        rw [Addr.add_lit]
        simp only [World.cell?]
        rw [hN1]
        simpa using hj)
      (by simp only [List.size_toArray, hLl, List.length_cons, List.length_nil]; omega) h1x
    simpa [inL] using this
  obtain ⟨W2, eW2⟩ : ∃ W2, W1.setRow w.heap.size (inL L0 i [x0, x1, x2]).toArray = W2 := ⟨_, rfl⟩
  have hW2 : W2.heap[w.heap.size]? = some (.cells (inL L0 i [x0, x1, x2]).toArray 72) := by rw [← eW2]; exact setRow_heap W1 _ _ _ 72 (0, 0) hW1
  have hold2 : ∀ k, k < w.heap.size → W2.heap[k]? = w.heap[k]? := fun k hk => by
    rw [← eW2]; exact (setRow_other W1 _ k _ (by omega)).trans (hold1 k hk)
  rw [eW2] at hcp2
  have hg2 := (hold2 g hgw).trans hg
  have hil : (inL L0 i [x0, x1, x2]).length = G * 3 := inL_length (by omega) hLl rfl
  have hcp1 : ∀ ty dc sc, (Builtin.copy_ #[24, 24] ty #[.slice (some ⟨w.heap.size, (i + 1) * 3, none⟩) (n - i) dc, .slice (some ⟨g, i * 3, none⟩) (n - i) sc]).run Try.prog W2.drew = .ok (goInt (Nat.min (n - i) (n - i))) (W2.drew.setRow w.heap.size (grL (inL L0 i [x0, x1, x2]) cur.toList i).toArray) := fun ty dc sc =>
    run_copy3 W2.drew 24 24 ty 72 w.heap.size ((i + 1) * 3) (n - i) dc ⟨g, i * 3, none⟩ (n - i) sc (inL L0 i [x0, x1, x2]).toArray 72 (cur.toList.drop (i * 3)) (by kernel_rfl) infoSnap3 hW2 (by simp only [List.length_drop, Array.length_toList, hsz]; simp only [Nat.min_def]; split <;> omega)
      (fun j v hj => by
        rw [Addr.add_lit]
        rw [List.getElem?_drop] at hj
        simp only [World.cell?, World.drew]
        rw [hg2]
        simpa using hj)
      (by simp only [List.length_drop, Array.length_toList, hsz, List.size_toArray, hil]; omega) (fun u hu => h1 u (List.mem_of_mem_drop hu))
  have hend : W2.drew.heap[w.heap.size]? = some (.cells (inL L0 i [x0, x1, x2]).toArray 72) := hW2
  have hGi : ¬ (G = i) := by omega
  have hGim : ¬ (G = i + 1) := by omega
  have HE : Hid (i * 3 + Z.length = G * 3 ∧ cur.toList.take (i * 3) ++ Z = L0 ∧ n + 1 ≤ G ∧ G ≤ maxLen) := ⟨hZl, hL0, hGn, hGm⟩
  have HG : Hid (w.grownBy W2 none) := by
    refine ⟨?_, ?_, ?_, ?_, fun k hk _ => hold2 k hk⟩ <;> rw [← eW2, ← eW1]
    · rfl
    · rfl
    · rfl
    · simp
  clear hg hN hkk hik hold hG hR hZ hZl hL0 hGm hW1 hold1 hN1 hW2 hold2 hg2 hil hLl h1 h1x hsz hi0 hz0 hzs hzb eW1 eW2
  have mixed : Try.prog.follows Departure.mixedOrders = true := by kernel_rfl
  go_enter Try.func54, Try.ntmps54
  go_wp2_with (first
    | (at_builtin; refine Lib.wpList_append_run _ rfl _ _ _ _ rfl _ _ rfl rfl _ _ (hrz _) ?_)
    | (at_builtin; refine wpList_copy_runI _ rfl _ _ 24 24 rfl _ _ rfl rfl (hcp2 _ _) ?_))
  go_region_law_o (refine step_copy_runI rfl _ _ 24 24 rfl _ _ (by simp [Act.eval, Act.put]) (by simp [Act.eval, Act.put]) (hcp1 _ _ _) ?_)
  go_wp2
  go_ret
  refine ⟨G, Z, HE.out.2.2.1, HE.out.2.2.2, HE.out.1, rfl, ?_, ?_⟩
  · rw [HE.out.2.1]; exact setRow_heap W2.drew _ _ _ 72 (0, 0) hend
  · exact ⟨HG.out.os, HG.out.tape, HG.out.output, by simpa using HG.out.size, fun k hk _ => (setRow_other W2.drew _ k _ (by omega)).trans (HG.out.block k hk (by simp))⟩

set_option maxHeartbeats 4000000 in
theorem ins_end (B n N : Nat) (v : Value) (xs : List Value) (x0 x1 x2 : Value) (w : World) (hB : B ≤ w.heap.size) (hn2 : n ≤ 1000)
    (h : w.ownsRow B 72 3 v n xs) (hN : w.heap[N]? = some (.cells #[x0, x1, x2] 72)) (hNv : v.ownBlock ≠ some N) (h1x : ∀ u ∈ [x0, x1, x2], u.oneCell' = true) :
    Calls Try.prog 54 #[v, .int .i64 n, .slice (some ⟨N, 0, none⟩) 1 1] w fun r w' => ∃ v', r = .returned v' ∧ w'.ownsRow B 72 3 v' (n + 1) (xs ++ [x0, x1, x2]) ∧ w.grownBy w' v.ownBlock ∧ (v'.ownBlock = v.ownBlock ∨ v'.ownBlock = some w.heap.size) := by
  obtain ⟨i0, hi0, hz0, hzs, hzb⟩ := info_parts infoSnap
  have hrun : ∀ ty, ∃ v' w', (Builtin.append_ #[24, 24] ty #[v, .slice (some ⟨N, 0, none⟩) 1 1]).run Try.prog w = .ok v' w' ∧ w'.ownsRow B 72 3 v' (n + 1) (xs ++ [x0, x1, x2]) ∧ w.grownBy w' v.ownBlock ∧ (v'.ownBlock = v.ownBlock ∨ v'.ownBlock = some w.heap.size) := fun ty => by
    obtain ⟨v', w', hr, g2, g3, _, g5⟩ := run_append_own_at (P := Try.prog) w B 24 ty 72 i0 _ 3 48 (by kernel_rfl) hi0 hz0 hzs hzb (by rfl) (by decide) v n xs h ⟨N, 0, none⟩ 1 1 [x0, x1, x2] rfl (fun j u hj => by
      rw [Addr.add_lit]
      simp only [World.cell?]
      rw [hN]
      simpa using hj) h1x (by unfold maxLen; omega) (by omega) hB
    exact ⟨v', w', hr, g2, g3, g5⟩
  obtain ⟨v', w', hr, k1, k2, k3⟩ := hrun 24
  have HK : Hid (w'.ownsRow B 72 3 v' (n + 1) (xs ++ [x0, x1, x2]) ∧ w.grownBy w' v.ownBlock ∧ (v'.ownBlock = v.ownBlock ∨ v'.ownBlock = some w.heap.size)) := ⟨k1, k2, k3⟩
  rcases row_form h with ⟨e1, e2⟩ | ⟨g, c, e1, hgB, e2⟩
  · subst e1 e2
    clear h hN h1x hrun k1 k2 k3
    go_enter Try.func54, Try.ntmps54
    go_wp2_with (at_builtin; refine Lib.wpList_append_run _ rfl _ _ _ _ rfl _ _ rfl rfl _ _ hr ?_)
    go_ret
    exact ⟨v', rfl, HK.out⟩
  · have hnc : n ≤ c := by
      rcases h.2 with ⟨rfl, _⟩ | ⟨g', c', cur, e, _, _, hh, _⟩
      · cases e1
      · rw [e1] at e; cases e; exact hh
    subst e1
    clear h hN h1x hrun k1 k2 k3
    go_enter Try.func54, Try.ntmps54
    go_wp2_with (at_builtin; refine Lib.wpList_append_run _ rfl _ _ _ _ rfl _ _ rfl rfl _ _ hr ?_)
    all_goals (go_ret; exact ⟨v', rfl, HK.out⟩)

theorem insert_is (B n i N : Nat) (v : Value) (xs : List Value) (x0 x1 x2 : Value) (w : World) (hB : B ≤ w.heap.size) (hn2 : n ≤ 1000) (hi : i ≤ n)
    (h : w.ownsRow B 72 3 v n xs) (h1 : ∀ u ∈ xs, u.oneCell' = true) (hN : w.heap[N]? = some (.cells #[x0, x1, x2] 72)) (hNv : v.ownBlock ≠ some N) (h1x : ∀ u ∈ [x0, x1, x2], u.oneCell' = true) :
    Calls Try.prog 54 #[v, .int .i64 i, .slice (some ⟨N, 0, none⟩) 1 1] w fun r w' => ∃ v', r = .returned v' ∧ w'.ownsRow B 72 3 v' (n + 1) (xs.take (i * 3) ++ [x0, x1, x2] ++ xs.drop (i * 3)) ∧ w.grownBy w' v.ownBlock ∧ (v'.ownBlock = v.ownBlock ∨ v'.ownBlock = some w.heap.size) := by
  have hl := h.1
  rcases Nat.lt_or_ge i n with hin | hin
  · rcases h.2 with ⟨_, e⟩ | ⟨g, c, cur, rfl, hgB, hg, hnc, hcm, hsz, htk⟩
    · omega
    · have hNg : N ≠ g := fun e => hNv (by rw [e]; rfl)
      have hcl : cur.toList.length = c * 3 := by rw [Array.length_toList]; exact hsz
      rcases Nat.lt_or_ge c (n + 1) with hc | hc
      · have e : c = n := by omega
        subst e
        have hxs : cur.toList = xs := by rw [← htk, List.take_of_length_le (by omega)]
        refine (ins_grow g c i N cur x0 x1 x2 w hin hn2 hg hsz hN (by rw [hxs]; exact h1) h1x).mono ?_
        rintro r w' ⟨G, Z, g1, g2, g3, rfl, g4, g5⟩
        rw [hxs] at g4
        refine ⟨_, rfl, ⟨?_, .inr ⟨w.heap.size, G, _, rfl, hB, g4, g1, g2, ?_, ?_⟩⟩, ⟨g5.os, g5.tape, g5.output, g5.size, fun k hk _ => g5.block k hk (by simp)⟩, .inr rfl⟩
        · simp only [List.length_append, List.length_take, List.length_drop, List.length_cons, List.length_nil, hl]; omega
        · rw [List.size_toArray]
          exact grL_length hin g1 (inL_length (by omega) (by rw [List.length_append, List.length_take, hl]; omega) rfl) hl
        · rw [List.toList_toArray]
          exact in_gr hin g1 hl g3 rfl
      · refine (ins_shift g n c i N cur x0 x1 x2 w hin hc (by unfold maxLen at hcm; omega) hNg hg hsz hN (by rw [htk]; exact h1) h1x).mono ?_
        rintro r w' ⟨rfl, g4, g5⟩
        refine ⟨_, rfl, ⟨?_, .inr ⟨g, c, _, rfl, hgB, g4, hc, hcm, ?_, ?_⟩⟩, g5, .inl rfl⟩
        · simp only [List.length_append, List.length_take, List.length_drop, List.length_cons, List.length_nil, hl]; omega
        · rw [List.size_toArray]
          exact inL_length (by omega) (shL_length hin hc hcl) rfl
        · rw [List.toList_toArray, ← htk]
          exact in_sh hin hc hcl rfl
  · have e : i = n := by omega
    subst e
    rw [List.take_of_length_le (by omega), List.drop_of_length_le (by omega), List.append_nil]
    exact ins_end B i N v xs x0 x1 x2 w hB hn2 h hN hNv h1x
end Go.Proofs.Ytehleeibgkpjmad
/- slices.Delete of one snapshot out of a row of snapshots that is one's own. -/
namespace Go.Proofs.Ytehleeibgkpjmad
open Go.RowKit Go.Shelf Go.Lib
set_option maxRecDepth 20000
set_option linter.unusedVariables false
set_option linter.unusedSimpArgs false

theorem run_app3 (w : World) (ty : TypeId) (g n c : Nat) (a : Addr) (m mc : Nat) (cur : Array Value) (t : TypeId) (cs : List Value)
    (hg : w.heap[g]? = some (.cells cur t (0, 0))) (hn : cs.length = m * 3) (hroom : n + m ≤ c)
    (hsrc : ∀ j v, cs[j]? = some v → w.cell? (a.add j) = some v) (hfit : n * 3 + cs.length ≤ cur.size) (h1 : ∀ v ∈ cs, v.oneCell' = true) :
    (Builtin.append_ #[24, 24] ty #[.slice (some ⟨g, 0, none⟩) n c, .slice (some a) m mc]).run Try.prog w =
      .ok (.slice (some ⟨g, 0, none⟩) (n + m) c) (w.setRow g (cur.toList.take (n * 3) ++ cs ++ cur.toList.drop (n * 3 + cs.length)).toArray) := by
  have hl := run_loadCells_list (P := Try.prog) w a cs hsrc
  have hst := run_storeCells_at Try.prog g (n * 3) t cs 0 cur w hg (by simpa using hfit) h1
  have hu : Try.prog.underlying 24 = some (.slice 72) := by kernel_rfl
  have hadd : (⟨g, 0, none⟩ : Addr).add (n * 3) = ⟨g, n * 3, none⟩ := by rw [Addr.add_lit, Nat.zero_add]
  cases hq : Try.prog.info? 72 with
  | none => have := infoSnap3; simp [hq] at this
  | some i =>
    have hi : i.size = 3 := by have := infoSnap3; simpa [hq] using this
    simp [Builtin.append_, run_underlying hu, Builtin.lenOf, Builtin.firstCells, sizeOf, typeInfo, hq, hi, ← hn, hl, hroom, hadd, hst]
theorem wp_app_run {o : Oper} {a : Act} {w : World} {K : Act → World → Prop} {Q : Exit → Act → World → Prop} (s x : Operand) (t t' : TypeId) (ho : o.op = .call { callee := .builtin .append, args := #[s, x], argTypes := #[t, t'] })
    (v u : Value) (hs : a.eval s = v) (hx : a.eval x = u) {v' : Value} {w' : World} (hr : (Builtin.append_ #[t, t'] o.type #[v, u]).run Try.prog w = .ok v' w') (h : K (a.put o.dst v') w') : o.wp Try.prog a w K Q := by
  unfold Oper.wp execOp
  simp only [ho, resolve, invoke, builtin, Sem.run_bind, Sem.run_pure, Result.andThen_ok, List.map_toArray, List.map_cons, List.map_nil, hs, hx, hr]
  exact h
theorem step_app_run {ops : Array Oper} {o : Oper} {a : Act} {w : World} {K : Act → World → Prop} {Q : Exit → Act → World → Prop} {E : Prop} (hgd : o.guard = none) (s x : Operand) (t t' : TypeId) (ho : o.op = .call { callee := .builtin .append, args := #[s, x], argTypes := #[t, t'] })
    (v u : Value) (hs : a.eval s = v) (hx : a.eval x = u) {v' : Value} {w' : World} (hr : (Builtin.append_ #[t, t'] o.type #[v, u]).run Try.prog w = .ok v' w') (h : K (a.put o.dst v') w') : if Region.wanted o (yielded ops a.tmps) = true then Oper.wp Try.prog o a w K Q else E := by
  have hw : Region.wanted o (yielded ops a.tmps) = true := by simp [Region.wanted, hgd]
  rw [if_pos hw]
  exact wp_app_run s x t t' ho v u hs hx hr h
theorem wpList_clear_run {w : World} {ops : Array Oper} {rest : List Oper} {o : Oper} {a : Act} {Q : Exit → Act → World → Prop} (hgd : o.guard = none) (s : Operand) (t : TypeId) (ho : o.op = .call { callee := .builtin .clear, args := #[s], argTypes := #[t] })
    (v : Value) (hs : a.eval s = v) {v' : Value} {w' : World} (hr : (Builtin.clear_ #[t] o.type #[v]).run Try.prog w = .ok v' w') (h : wpList Try.prog ops Q rest (a.put o.dst v') w') : wpList Try.prog ops Q (o :: rest) a w :=
  wpList_plain hgd fun _ hK => by
    unfold Oper.wp execOp
    simp only [ho, resolve, invoke, builtin, Sem.run_bind, Sem.run_pure, Result.andThen_ok, List.map_toArray, List.map_cons, List.map_nil, hs, hr]
    exact hK _ _ h
def zList : List Value := [.string ByteArray.empty, .int .i64 0, .slice none 0 0]
def inLo (L : List Value) (o : Nat) (x : List Value) : List Value := L.take o ++ x ++ L.drop (o + x.length)
theorem run_clear3 (w : World) (ty : TypeId) (g o c : Nat) (cur : Array Value) (t : TypeId) (hg : w.heap[g]? = some (.cells cur t (0, 0))) (hfit : o + 3 ≤ cur.size) :
    (Builtin.clear_ #[24] ty #[.slice (some ⟨g, o, none⟩) 1 c]).run Try.prog w = .ok (.tuple #[]) (w.setRow g (inLo cur.toList o zList).toArray) := by
  have hst := run_storeCells_at Try.prog g o t zList 0 cur w hg (by simpa [zList] using hfit) (by intro v hv; simp [zList] at hv; rcases hv with rfl | rfl | rfl <;> rfl)
  have hu : Try.prog.underlying 24 = some (.slice 72) := by kernel_rfl
  have hz : ∀ w, (zeroValue 72).run Try.prog w = .ok zSnap w := fun w => by kernel_rfl
  have hzc : (Builtin.zeroCells zSnap.cells 1).toList = zList := by
    have e : List.range 3 = [0, 1, 2] := by decide
    first
      | kernel_rfl
      | simp [Builtin.zeroCells, zSnap, Value.cells, zList, e]
  simp [Builtin.clear_, run_underlying hu, hz, hzc, hst, inLo]

def deL (cur : List Value) (n i : Nat) : List Value := cur.take (i * 3) ++ (cur.take (n * 3)).drop ((i + 1) * 3) ++ cur.drop (i * 3 + ((cur.take (n * 3)).drop ((i + 1) * 3)).length)
theorem deL_length {cur : List Value} {n i c : Nat} (hi : i < n) (hc : n ≤ c) (h : cur.length = c * 3) : (deL cur n i).length = c * 3 := by
  unfold deL; simp only [List.length_append, List.length_take, List.length_drop, h]; omega
theorem inLo_length {L x : List Value} {o k : Nat} (h : L.length = k) (ho : o + x.length ≤ k) : (inLo L o x).length = k := by
  unfold inLo; simp only [List.length_append, List.length_take, List.length_drop, h]; omega
theorem in_de {cur x : List Value} {n i c : Nat} (hi : i < n) (hc : n ≤ c) (h : cur.length = c * 3) (hx : x.length = 3) : (inLo (deL cur n i) ((n - 1) * 3) x).take ((n - 1) * 3) = (cur.take (n * 3)).take (i * 3) ++ (cur.take (n * 3)).drop ((i + 1) * 3) := by
  have hl : ((cur.take (n * 3)).drop ((i + 1) * 3)).length = (n - 1 - i) * 3 := by simp only [List.length_take, List.length_drop, h]; omega
  apply List.ext_getElem?
  intro j
  unfold inLo deL
  rw [hl]
  simp only [List.getElem?_take, List.getElem?_append, List.getElem?_drop, List.length_append, List.length_take, List.length_drop, h, hx]
  repeat' split
  all_goals first | rfl | omega | (congr 1; omega) | (exfalso; omega) | (rw [List.getElem?_eq_none (by omega)])
set_option maxHeartbeats 4000000 in
theorem del_at (g n c i : Nat) (cur : Array Value) (w : World) (hi : i < n) (hnc : n ≤ c) (hc : c ≤ 9223372036854775807)
    (hg : w.heap[g]? = some (.cells cur 72)) (hsz : cur.size = c * 3) (h1 : ∀ u ∈ cur.toList.take (n * 3), u.oneCell' = true) :
    Calls Try.prog 58 #[.slice (some ⟨g, 0, none⟩) n c, .int .i64 i, .int .i64 ((i : Int) + 1)] w fun r w' => r = .returned (.slice (some ⟨g, 0, none⟩) (n - 1) c) ∧ w'.heap[g]? = some (.cells (inLo (deL cur.toList n i) ((n - 1) * 3) zList).toArray 72) ∧ w.grownBy w' (some g) := by
  have hz2 : ¬ ((i : Int) = (i : Int) + 1) := by omega
  have hb1 : (0 : Int) ≤ (i : Int) + 1 := by omega
  have hin : i ≤ n := by omega
  have htn : ((i : Int) + 1).toNat = i + 1 := by omega
  have hb3 : (i : Int) + 1 ≤ (n : Int) := by omega
  have hb5 : i + 1 ≤ n := by omega
  have hb4 : ¬ (c = i) := by omega
  have hcl : cur.toList.length = c * 3 := by rw [Array.length_toList]; exact hsz
  have hdl : ((cur.toList.take (n * 3)).drop ((i + 1) * 3)).length = (n - (i + 1)) * 3 := by simp only [List.length_take, List.length_drop, hcl]; omega
  have hnn : i + (n - (i + 1)) = n - 1 := by omega
  have hap : ∀ ty mc o, (o = (i + 1) * 3 ∨ n - (i + 1) = 0) → (Builtin.append_ #[24, 24] ty #[.slice (some ⟨g, 0, none⟩) i c, .slice (some ⟨g, o, none⟩) (n - (i + 1)) mc]).run Try.prog w.drew = .ok (.slice (some ⟨g, 0, none⟩) (n - 1) c) (w.drew.setRow g (deL cur.toList n i).toArray) := fun ty mc o ho => by
    have := run_app3 w.drew ty g i c ⟨g, o, none⟩ (n - (i + 1)) mc cur 72 ((cur.toList.take (n * 3)).drop ((i + 1) * 3)) hg hdl (by omega)
      (fun j v hj => by
        rcases ho with rfl | ho
        · rw [Addr.add_lit]
          rw [List.getElem?_drop, List.getElem?_take] at hj
          split at hj
          · simp only [World.cell?, World.drew]
            rw [hg]
            simpa using hj
          · cases hj
        · rw [ho, Nat.zero_mul, List.length_eq_zero_iff] at hdl
          rw [hdl] at hj
          cases hj)
      (by rw [hdl]; omega) (fun u hu => h1 u (List.mem_of_mem_drop hu))
    rw [hnn] at this
    exact this
  have hW1 : (w.drew.setRow g (deL cur.toList n i).toArray).heap[g]? = some (.cells (deL cur.toList n i).toArray 72) := setRow_heap w.drew g cur _ 72 (0, 0) hg
  obtain ⟨W1, eW1⟩ : ∃ W1, w.drew.setRow g (deL cur.toList n i).toArray = W1 := ⟨_, rfl⟩
  rw [eW1] at hap hW1
  have hcr : ∀ ty cc, (Builtin.clear_ #[24] ty #[.slice (some ⟨g, (n - 1) * 3, none⟩) 1 cc]).run Try.prog W1 = .ok (.tuple #[]) (W1.setRow g (inLo (deL cur.toList n i) ((n - 1) * 3) zList).toArray) := fun ty cc => by
    have := run_clear3 W1 ty g ((n - 1) * 3) cc (deL cur.toList n i).toArray 72 hW1 (by rw [List.size_toArray, deL_length hi hnc hcl]; omega)
    simpa using this
  have hself : n = i + 1 → W1 = w.drew := fun e => by
    have hd : (cur.toList.take (n * 3)).drop ((i + 1) * 3) = [] := List.eq_nil_of_length_eq_zero (by rw [hdl]; omega)
    have hde : deL cur.toList n i = cur.toList := by unfold deL; rw [hd]; simp
    rw [← eW1, hde, Array.toArray_toList]
    exact setRow_self w.drew g cur 72 (0, 0) hg
  clear h1 hg hdl hcl
  have hm1 : n - 1 ≤ n := by omega
  have hm2 : ¬ (c = n - 1) := by omega
  have hm3 : n - (n - 1) = 1 := by omega
  have mixed : Try.prog.follows Departure.mixedOrders = true := by kernel_rfl
  have hend : ∀ v, v = (.slice (some ⟨g, 0, none⟩) (n - 1) c) → Ending.returned v = .returned (.slice (some ⟨g, 0, none⟩) (n - 1) c) ∧ (W1.setRow g (inLo (deL cur.toList n i) ((n - 1) * 3) zList).toArray).heap[g]? = some (.cells (inLo (deL cur.toList n i) ((n - 1) * 3) zList).toArray 72) ∧ w.grownBy (W1.setRow g (inLo (deL cur.toList n i) ((n - 1) * 3) zList).toArray) (some g) := by
    rintro v rfl
    refine ⟨rfl, setRow_heap W1 g _ _ 72 (0, 0) hW1, ?_⟩
    subst eW1
    exact ⟨rfl, rfl, rfl, by simp, fun k _ hk => (setRow_other _ g k _ (fun e => hk (by rw [e]))).trans (setRow_other _ g k _ (fun e => hk (by rw [e])))⟩
  clear hW1 eW1
  have hbc : (i : Int) ≤ (c : Int) := by omega
  have hbc2 : i ≤ c := by omega
  by_cases hcc : c = i + 1
  · have e2 : n = i + 1 := by omega
    subst e2
    subst hcc
    have hbd : (i : Int) ≤ (i : Int) + 1 := by omega
    have hs := hself rfl
    subst hs
    clear hap hself
    simp only [Nat.sub_self, Nat.add_sub_cancel] at hcr hend ⊢
    go_enter Try.func58, Try.ntmps58
    go_wp2_with (at_builtin; refine wpList_clear_run rfl _ 24 rfl _ rfl (hcr _ _) ?_)
    go_region_law_o (refine step_app_run rfl _ _ 24 24 rfl (.slice (some ⟨g, 0, none⟩) i (i + 1)) (.slice (some ⟨g, 0, none⟩) 0 0) (by simp [Act.eval, Act.put]) (by simp [Act.eval, Act.put]) rfl ?_)
    go_wp2_with (at_builtin; refine wpList_clear_run rfl _ 24 rfl _ rfl (hcr _ _) ?_)
    go_ret
    exact hend _ rfl
  · have hap := fun ty mc => hap ty mc ((i + 1) * 3) (.inl rfl)
    go_enter Try.func58, Try.ntmps58
    go_wp2_with fail
    go_region_law_o (refine step_app_run rfl _ _ 24 24 rfl (.slice (some ⟨g, 0, none⟩) i c) (.slice (some ⟨g, (i + 1) * 3, none⟩) (n - (i + 1)) (c - (i + 1))) (by simp [Act.eval, Act.put]) (by simp [Act.eval, Act.put]) (hap 24 (c - (i + 1))) ?_)
    go_wp2_with (at_builtin; refine wpList_clear_run rfl _ 24 rfl _ rfl (hcr _ _) ?_)
    go_ret
    exact hend _ rfl

theorem delete_is (B n i : Nat) (v : Value) (xs : List Value) (w : World) (hi : i < n) (h : w.ownsRow B 72 3 v n xs) (h1 : ∀ u ∈ xs, u.oneCell' = true) :
    Calls Try.prog 58 #[v, .int .i64 i, .int .i64 ((i : Int) + 1)] w fun r w' => ∃ v', r = .returned v' ∧ w'.ownsRow B 72 3 v' (n - 1) (xs.take (i * 3) ++ xs.drop ((i + 1) * 3)) ∧ w.grownBy w' v.ownBlock ∧ v'.ownBlock = v.ownBlock := by
  have hl := h.1
  rcases h.2 with ⟨_, e⟩ | ⟨g, c, cur, rfl, hgB, hg, hnc, hcm, hsz, htk⟩
  · omega
  · have hcl : cur.toList.length = c * 3 := by rw [Array.length_toList]; exact hsz
    refine (del_at g n c i cur w hi hnc (by unfold maxLen at hcm; omega) hg hsz (by rw [htk]; exact h1)).mono ?_
    rintro r w' ⟨rfl, g4, g5⟩
    refine ⟨_, rfl, ⟨?_, .inr ⟨g, c, _, rfl, hgB, g4, by omega, hcm, ?_, ?_⟩⟩, g5, rfl⟩
    · simp only [List.length_append, List.length_take, List.length_drop, hl]; omega
    · rw [List.size_toArray]
      exact inLo_length (deL_length hi hnc hcl) (by simp only [zList, List.length_cons, List.length_nil]; omega)
    · rw [List.toList_toArray, ← htk]
      exact in_de hi hnc hcl rfl
end Go.Proofs.Ytehleeibgkpjmad
/- What Delete, Revert and Create do on the desk. -/
namespace Go.Proofs.Ytehleeibgkpjmad
open Go.RowKit Go.Shelf Go.Lib
set_option maxRecDepth 20000
set_option linter.unusedVariables false
set_option linter.unusedSimpArgs false

theorem flatN_one {W : World} {B : Nat} {val : Nm → Value} {m : ImgD} (h : OI W B val m) : ∀ u ∈ flatN m.snaps (fun j => val (.sr j)), u.oneCell' = true :=
  flatN_mem fun j hj => slice_one (h.row (.sr j) (Live.sr hj))
set_option maxHeartbeats 2000000 in
theorem delete_desk {W : World} {B D k : Nat} {val : Nm → Value} {m : ImgD} (h : DK W B D val m) (hB : B ≤ W.heap.size) (hk : k < m.snaps.length) (h3 : m.snaps.length ≤ 1000) :
    Calls Try.prog 57 #[.pointer (some ⟨D, 0, none⟩), .int .i64 k] W fun r W' => ∃ val', r = .returned (.tuple #[]) ∧ DTo W W' B D m val nilV (deleteM m k) val' := by
  have hrow : W.ownsRow B 72 3 (val .snaps) m.snaps.length (flatN m.snaps (fun j => val (.sr j))) := h.own.row .snaps (Live.snaps m)
  have hdel := delete_is B m.snaps.length k (val .snaps) _ W hk hrow (flatN_one h.own)
  obtain ⟨c0, c1, c2, c3, c4⟩ := h.five
  obtain ⟨ao, cap, hvs⟩ := row_slice hrow
  have hw1 : IntKind.i64.wrap ((k : Int) + 1) = (k : Int) + 1 := by rw [IntKind.wrap_i64]; omega
  rw [hvs] at c4 hdel
  obtain ⟨n1, hn1⟩ : ∃ n1, n1 = m.snaps.length - 1 := ⟨_, rfl⟩
  rw [← hn1] at hdel
  have HP : Hid (∀ v' w', w'.ownsRow B 72 3 v' n1 ((flatN m.snaps (fun j => val (.sr j))).take (k * 3) ++ (flatN m.snaps (fun j => val (.sr j))).drop ((k + 1) * 3)) → W.grownBy w' (Value.slice ao m.snaps.length cap).ownBlock → v'.ownBlock = (Value.slice ao m.snaps.length cap).ownBlock → DTo W (w'.setCell ⟨D, 4, none⟩ v') B D m val nilV (deleteM m k) (delVal val v' k) ∧ w'.heap[D]? = some (.cells #[.int .i64 m.guest, val .root, val .slots, val .refs, val .snaps] 57)) := fun v' w' a b c => ⟨DTo.del h hB hk (hn1 ▸ a) (by rw [hvs]; exact b) (by rw [hvs]; exact c), (b.block D h.lt (fun e => h.far .snaps (Live.snaps m) (by rw [hvs]; exact e.symm))).trans h.box⟩
  clear c0 c1 c2 c3 hrow h hvs hn1
  go_enter Try.func57, Try.ntmps57
  go_wp2_with (go_at_call 58; refine hdel.mono ?_; rintro e w1 ⟨v1, rfl, k1, k2, k3⟩; obtain ⟨ao1, cap1, rfl⟩ := row_slice k1; have hq := HP.out _ w1 k1 k2 k3; have d4 := (five hq.2).2.2.2.2; have f4 : w1.frozen? ⟨D, 4, none⟩ = false := cells_frozen hq.2 4; have HQ : Hid (DTo W (w1.setCell ⟨D, 4, none⟩ (.slice ao1 n1 cap1)) B D m val nilV (deleteM m k) (delVal val (.slice ao1 n1 cap1) k)) := hq.1; clear hq k1 k2 k3)
  go_end0
  exact ⟨_, rfl, HQ.out⟩
end Go.Proofs.Ytehleeibgkpjmad
/- Contract of the document's DeleteOf. -/
namespace Go.Proofs.Ytehleeibgkpjmad
open Go.RowKit Go.Shelf
set_option maxRecDepth 20000
set_option linter.unusedVariables false
set_option linter.unusedSimpArgs false

set_option maxHeartbeats 4000000 in
theorem nod_bad (ra : Option Addr) (rc : Nat) (sa : Option Addr) (sc : Nat) (fa : Option Addr) (fc : Nat) (na : Option Addr) (nc : Nat) (m : ImgD) (nm : ByteArray) (w : World) (h : Img w (.agg #[.int .i64 m.guest, .slice ra m.root.length rc, .slice sa m.slots.length sc, .slice fa m.refs.length fc, .slice na m.snaps.length nc]) m) (E : Int) (hE : checkE m = E) (hne : (E != 0) = true) :
    Calls Try.prog 29 #[.agg #[.int .i64 m.guest, .slice ra m.root.length rc, .slice sa m.slots.length sc, .slice fa m.refs.length fc, .slice na m.snaps.length nc], .string nm] w (AnsJ w imgZ E) := by
  have b0 : Below w.heap.size w ((w.alloc (.cells #[.int .i64 m.guest, .slice ra m.root.length rc, .slice sa m.slots.length sc, .slice fa m.refs.length fc, .slice na m.snaps.length nc] 26)).alloc (.cells #[.int .i64 0, .slice none 0 0, .slice none 0 0, .slice none 0 0, .slice none 0 0] 26)) := ((Below.refl _ _).alloc (Nat.le_refl _) _).alloc (by simp) _
  have m0 : ((w.alloc (.cells #[.int .i64 m.guest, .slice ra m.root.length rc, .slice sa m.slots.length sc, .slice fa m.refs.length fc, .slice na m.snaps.length nc] 26)).alloc (.cells #[.int .i64 0, .slice none 0 0, .slice none 0 0, .slice none 0 0, .slice none 0 0] 26)).heap[w.heap.size]? = some (.cells #[.int .i64 m.guest, .slice ra m.root.length rc, .slice sa m.slots.length sc, .slice fa m.refs.length fc, .slice na m.snaps.length nc] 26) := cells_alloc (World.alloc_heap_new _ _) _
  have m1 : ((w.alloc (.cells #[.int .i64 m.guest, .slice ra m.root.length rc, .slice sa m.slots.length sc, .slice fa m.refs.length fc, .slice na m.snaps.length nc] 26)).alloc (.cells #[.int .i64 0, .slice none 0 0, .slice none 0 0, .slice none 0 0, .slice none 0 0] 26)).heap[w.heap.size + 1]? = some (.cells #[.int .i64 0, .slice none 0 0, .slice none 0 0, .slice none 0 0, .slice none 0 0] 26) := by have := World.alloc_heap_new (w.alloc (.cells #[.int .i64 m.guest, .slice ra m.root.length rc, .slice sa m.slots.length sc, .slice fa m.refs.length fc, .slice na m.snaps.length nc] 26)) (.cells #[.int .i64 0, .slice none 0 0, .slice none 0 0, .slice none 0 0, .slice none 0 0] 26); simpa using this
  have hsz : w.heap.size + 1 < ((w.alloc (.cells #[.int .i64 m.guest, .slice ra m.root.length rc, .slice sa m.slots.length sc, .slice fa m.refs.length fc, .slice na m.snaps.length nc] 26)).alloc (.cells #[.int .i64 0, .slice none 0 0, .slice none 0 0, .slice none 0 0, .slice none 0 0] 26)).heap.size := by simp
  have I0 := h.below b0
  obtain ⟨c0, c1, c2, c3, c4⟩ := five m0
  have hck := checkImage_is I0 hE
  clear h hE I0
  go_enter Try.func29, Try.ntmps29
  go_wp2_with (go_at_call 59; refine hck.mono ?_; rintro e1 wA ⟨rfl, bA⟩; have n0 := cells_below m0 bA (by omega); have n1 := cells_below m1 bA hsz; obtain ⟨d0, d1, d2, d3, d4⟩ := five n0; obtain ⟨z0, z1, z2, z3, z4⟩ := five n1; have y0 := cells_frozen n1 0; have y1 := cells_frozen n1 1; have y2 := cells_frozen n1 2; have y3 := cells_frozen n1 3; have y4 := cells_frozen n1 4)
  refine bodyPost_ret (v := .tuple #[.agg #[.int .i64 0, .slice none 0 0, .slice none 0 0, .slice none 0 0, .slice none 0 0], .int .i64 E]) (by simp [results, Try.results29, go_sem, z0, z1, z2, z3, z4]) rfl ⟨none, 0, none, 0, none, 0, none, 0, rfl, fun W' _ => imgZ_im W', below_five (Below.on b0 bA) (Nat.le_succ _) _ _ _ _ _⟩

set_option maxHeartbeats 4000000 in
theorem nod_none (ra : Option Addr) (rc : Nat) (sa : Option Addr) (sc : Nat) (fa : Option Addr) (fc : Nat) (na : Option Addr) (nc : Nat) (m : ImgD) (nm : ByteArray) (w : World) (h : Img w (.agg #[.int .i64 m.guest, .slice ra m.root.length rc, .slice sa m.slots.length sc, .slice fa m.refs.length fc, .slice na m.snaps.length nc]) m) (hE : checkE m = 0) (hi : ixOf (snapIx m.snaps nm) = -1) :
    Calls Try.prog 29 #[.agg #[.int .i64 m.guest, .slice ra m.root.length rc, .slice sa m.slots.length sc, .slice fa m.refs.length fc, .slice na m.snaps.length nc], .string nm] w (AnsJ w imgZ 5) := by
  have b0 : Below w.heap.size w ((w.alloc (.cells #[.int .i64 m.guest, .slice ra m.root.length rc, .slice sa m.slots.length sc, .slice fa m.refs.length fc, .slice na m.snaps.length nc] 26)).alloc (.cells #[.int .i64 0, .slice none 0 0, .slice none 0 0, .slice none 0 0, .slice none 0 0] 26)) := ((Below.refl _ _).alloc (Nat.le_refl _) _).alloc (by simp) _
  have m0 : ((w.alloc (.cells #[.int .i64 m.guest, .slice ra m.root.length rc, .slice sa m.slots.length sc, .slice fa m.refs.length fc, .slice na m.snaps.length nc] 26)).alloc (.cells #[.int .i64 0, .slice none 0 0, .slice none 0 0, .slice none 0 0, .slice none 0 0] 26)).heap[w.heap.size]? = some (.cells #[.int .i64 m.guest, .slice ra m.root.length rc, .slice sa m.slots.length sc, .slice fa m.refs.length fc, .slice na m.snaps.length nc] 26) := cells_alloc (World.alloc_heap_new _ _) _
  have m1 : ((w.alloc (.cells #[.int .i64 m.guest, .slice ra m.root.length rc, .slice sa m.slots.length sc, .slice fa m.refs.length fc, .slice na m.snaps.length nc] 26)).alloc (.cells #[.int .i64 0, .slice none 0 0, .slice none 0 0, .slice none 0 0, .slice none 0 0] 26)).heap[w.heap.size + 1]? = some (.cells #[.int .i64 0, .slice none 0 0, .slice none 0 0, .slice none 0 0, .slice none 0 0] 26) := by have := World.alloc_heap_new (w.alloc (.cells #[.int .i64 m.guest, .slice ra m.root.length rc, .slice sa m.slots.length sc, .slice fa m.refs.length fc, .slice na m.snaps.length nc] 26)) (.cells #[.int .i64 0, .slice none 0 0, .slice none 0 0, .slice none 0 0, .slice none 0 0] 26); simpa using this
  have hsz : w.heap.size + 1 < ((w.alloc (.cells #[.int .i64 m.guest, .slice ra m.root.length rc, .slice sa m.slots.length sc, .slice fa m.refs.length fc, .slice na m.snaps.length nc] 26)).alloc (.cells #[.int .i64 0, .slice none 0 0, .slice none 0 0, .slice none 0 0, .slice none 0 0] 26)).heap.size := by simp
  have I0 := h.below b0
  obtain ⟨c0, c1, c2, c3, c4⟩ := five m0
  have hck := checkImage_is I0 hE
  have HSA : Hid (∀ W, Below ((w.alloc (.cells #[.int .i64 m.guest, .slice ra m.root.length rc, .slice sa m.slots.length sc, .slice fa m.refs.length fc, .slice na m.snaps.length nc] 26)).alloc (.cells #[.int .i64 0, .slice none 0 0, .slice none 0 0, .slice none 0 0, .slice none 0 0] 26)).heap.size ((w.alloc (.cells #[.int .i64 m.guest, .slice ra m.root.length rc, .slice sa m.slots.length sc, .slice fa m.refs.length fc, .slice na m.snaps.length nc] 26)).alloc (.cells #[.int .i64 0, .slice none 0 0, .slice none 0 0, .slice none 0 0, .slice none 0 0] 26)) W → Calls Try.prog 61 #[.agg #[.int .i64 m.guest, .slice ra m.root.length rc, .slice sa m.slots.length sc, .slice fa m.refs.length fc, .slice na m.snaps.length nc], .string nm] W fun r w' => r = .returned (.int .i64 (-1)) ∧ Below W.heap.size W w') := fun W hW => snapAt_is (I0.below hW) nm (by have := (shapeE_zero (checkE_shape hE)).1; omega) hi
  clear h hE I0
  go_enter Try.func29, Try.ntmps29
  go_wp2_with (first | (go_at_call 61; refine (HSA.out _ bA).mono ?_; rintro e2 wB ⟨rfl, bB⟩; have bC := Below.on bA bB; have k0 := cells_below m0 bC (by omega); have k1 := cells_below m1 bC hsz; obtain ⟨g0, g1, g2, g3, g4⟩ := five k0; obtain ⟨z0, z1, z2, z3, z4⟩ := five k1; have y0 := cells_frozen k1 0; have y1 := cells_frozen k1 1; have y2 := cells_frozen k1 2; have y3 := cells_frozen k1 3; have y4 := cells_frozen k1 4) | (go_at_call 59; refine hck.mono ?_; rintro e1 wA ⟨rfl, bA⟩; have n0 := cells_below m0 bA (by omega); obtain ⟨d0, d1, d2, d3, d4⟩ := five n0))
  refine bodyPost_ret (v := .tuple #[.agg #[.int .i64 0, .slice none 0 0, .slice none 0 0, .slice none 0 0, .slice none 0 0], .int .i64 5]) (by simp [results, Try.results29, go_sem, z0, z1, z2, z3, z4]) rfl ⟨none, 0, none, 0, none, 0, none, 0, rfl, fun W' _ => imgZ_im W', below_five (Below.on b0 bC) (Nat.le_succ _) _ _ _ _ _⟩

theorem appd_run {w : World} {B n k g c : Nat} {xs : List Value} (hk : k < n) (h : w.ownsRow B 72 3 (.slice (some ⟨g, 0, none⟩) n c) n xs) (h1 : ∀ u ∈ xs, u.oneCell' = true) (hx : n - (k + 1) ≠ 0 → True) :
    ∃ W', (∀ ty mc o, (o = (k + 1) * 3 ∨ n = k + 1) → (Builtin.append_ #[24, 24] ty #[.slice (some ⟨g, 0, none⟩) k c, .slice (some ⟨g, o, none⟩) (n - (k + 1)) mc]).run Try.prog w = .ok (.slice (some ⟨g, 0, none⟩) (n - 1) c) W') ∧ W'.ownsRow B 72 3 (.slice (some ⟨g, 0, none⟩) (n - 1) c) (n - 1) (xs.take (k * 3) ++ xs.drop ((k + 1) * 3)) ∧ w.grownBy W' (some g) := by
  rcases h.2 with ⟨e, _⟩ | ⟨g', c', cur, e, hgB, hg, hnc, hcm, hsz, htk⟩
  · cases e
  · simp only [Value.slice.injEq, Option.some.injEq, Addr.mk.injEq, and_true, true_and] at e
    obtain ⟨rfl, rfl⟩ := e
    have hcl : cur.toList.length = c * 3 := by rw [Array.length_toList]; exact hsz
    have hxl := h.1
    have hdl : ((cur.toList.take (n * 3)).drop ((k + 1) * 3)).length = (n - (k + 1)) * 3 := by rw [List.length_drop, List.length_take, hcl]; omega
    refine ⟨w.setRow g (deL cur.toList n k).toArray, fun ty mc o ho => ?_, ?_, ?_⟩
    · have := run_app3 w ty g k c ⟨g, o, none⟩ (n - (k + 1)) mc cur 72 ((cur.toList.take (n * 3)).drop ((k + 1) * 3)) hg hdl (by omega)
        (fun j v hj => by
          rcases ho with rfl | ho
          · rw [Addr.add_lit]
            rw [List.getElem?_drop, List.getElem?_take] at hj
            split at hj
            · simp only [World.cell?]
              rw [hg]
              simpa using hj
            · cases hj
          · rw [show n - (k + 1) = 0 by omega, Nat.zero_mul, List.length_eq_zero_iff] at hdl
            rw [hdl] at hj
            cases hj)
        (by rw [hdl, hsz]; omega) (fun u hu => h1 u (by rw [htk] at hu; exact List.mem_of_mem_drop hu))
      rw [show k + (n - (k + 1)) = n - 1 by omega] at this
      exact this
    · refine ⟨?_, .inr ⟨g, c, _, rfl, hgB, setRow_heap w g _ _ 72 (0, 0) hg, by omega, hcm, ?_, ?_⟩⟩
      · rw [List.length_append, List.length_take, List.length_drop, hxl]; omega
      · rw [List.size_toArray, deL_length hk hnc hcl]
      · rw [← htk]
        have : ((deL cur.toList n k).toArray.toList.take ((n - 1) * 3)) = (cur.toList.take (n * 3)).take (k * 3) ++ (cur.toList.take (n * 3)).drop ((k + 1) * 3) := by
          unfold deL
          rw [List.take_append_of_le_length (by rw [List.length_append, hdl, List.length_take, hcl]; omega), List.take_of_length_le (by rw [List.length_append, hdl, List.length_take, hcl]; omega), List.take_take, Nat.min_eq_left (by omega)]
        exact this
    · exact ⟨rfl, rfl, rfl, by simp, fun q _ hq => setRow_other _ g q _ (fun e => hq (by rw [e]))⟩

set_option maxHeartbeats 16000000 in
theorem nod_ok (ra : Option Addr) (rc : Nat) (sa : Option Addr) (sc : Nat) (fa : Option Addr) (fc : Nat) (nb no : Nat) (nc : Nat) (m : ImgD) (nm : ByteArray) (k : Nat) (w : World) (h : Img w (.agg #[.int .i64 m.guest, .slice ra m.root.length rc, .slice sa m.slots.length sc, .slice fa m.refs.length fc, .slice (some ⟨nb, no, none⟩) m.snaps.length nc]) m) (hC : checkE m = 0) (hi : ixOf (snapIx m.snaps nm) = (k : Int)) (hk : k < m.snaps.length) (hnb : nb < w.heap.size) (MR : ImgD) (HMR : Hid (deleteM m k = MR)) (HSh : Hid (shapeE { MR with refs := rfZ MR.slots } = 0)) :
    Calls Try.prog 29 #[.agg #[.int .i64 m.guest, .slice ra m.root.length rc, .slice sa m.slots.length sc, .slice fa m.refs.length fc, .slice (some ⟨nb, no, none⟩) m.snaps.length nc], .string nm] w (AnsJ w (countedD MR) 0) := by
  have b0 : Below w.heap.size w ((w.alloc (.cells #[.int .i64 m.guest, .slice ra m.root.length rc, .slice sa m.slots.length sc, .slice fa m.refs.length fc, .slice (some ⟨nb, no, none⟩) m.snaps.length nc] 26)).alloc (.cells #[.int .i64 0, .slice none 0 0, .slice none 0 0, .slice none 0 0, .slice none 0 0] 26)) := ((Below.refl _ _).alloc (Nat.le_refl _) _).alloc (by simp) _
  have m0 : ((w.alloc (.cells #[.int .i64 m.guest, .slice ra m.root.length rc, .slice sa m.slots.length sc, .slice fa m.refs.length fc, .slice (some ⟨nb, no, none⟩) m.snaps.length nc] 26)).alloc (.cells #[.int .i64 0, .slice none 0 0, .slice none 0 0, .slice none 0 0, .slice none 0 0] 26)).heap[w.heap.size]? = some (.cells #[.int .i64 m.guest, .slice ra m.root.length rc, .slice sa m.slots.length sc, .slice fa m.refs.length fc, .slice (some ⟨nb, no, none⟩) m.snaps.length nc] 26) := cells_alloc (World.alloc_heap_new _ _) _
  have m1 : ((w.alloc (.cells #[.int .i64 m.guest, .slice ra m.root.length rc, .slice sa m.slots.length sc, .slice fa m.refs.length fc, .slice (some ⟨nb, no, none⟩) m.snaps.length nc] 26)).alloc (.cells #[.int .i64 0, .slice none 0 0, .slice none 0 0, .slice none 0 0, .slice none 0 0] 26)).heap[w.heap.size + 1]? = some (.cells #[.int .i64 0, .slice none 0 0, .slice none 0 0, .slice none 0 0, .slice none 0 0] 26) := by have := World.alloc_heap_new (w.alloc (.cells #[.int .i64 m.guest, .slice ra m.root.length rc, .slice sa m.slots.length sc, .slice fa m.refs.length fc, .slice (some ⟨nb, no, none⟩) m.snaps.length nc] 26)) (.cells #[.int .i64 0, .slice none 0 0, .slice none 0 0, .slice none 0 0, .slice none 0 0] 26); simpa using this
  have hsz : w.heap.size + 1 < ((w.alloc (.cells #[.int .i64 m.guest, .slice ra m.root.length rc, .slice sa m.slots.length sc, .slice fa m.refs.length fc, .slice (some ⟨nb, no, none⟩) m.snaps.length nc] 26)).alloc (.cells #[.int .i64 0, .slice none 0 0, .slice none 0 0, .slice none 0 0, .slice none 0 0] 26)).heap.size := by simp
  have I0 := h.below b0
  have hs := checkE_shape hC
  have hck := checkImage_is I0 hC
  have HSA : Hid (∀ W, Below ((w.alloc (.cells #[.int .i64 m.guest, .slice ra m.root.length rc, .slice sa m.slots.length sc, .slice fa m.refs.length fc, .slice (some ⟨nb, no, none⟩) m.snaps.length nc] 26)).alloc (.cells #[.int .i64 0, .slice none 0 0, .slice none 0 0, .slice none 0 0, .slice none 0 0] 26)).heap.size ((w.alloc (.cells #[.int .i64 m.guest, .slice ra m.root.length rc, .slice sa m.slots.length sc, .slice fa m.refs.length fc, .slice (some ⟨nb, no, none⟩) m.snaps.length nc] 26)).alloc (.cells #[.int .i64 0, .slice none 0 0, .slice none 0 0, .slice none 0 0, .slice none 0 0] 26)) W → Calls Try.prog 61 #[.agg #[.int .i64 m.guest, .slice ra m.root.length rc, .slice sa m.slots.length sc, .slice fa m.refs.length fc, .slice (some ⟨nb, no, none⟩) m.snaps.length nc], .string nm] W fun r w' => r = .returned (.int .i64 (k : Int)) ∧ Below W.heap.size W w') := fun W hW => snapAt_is (I0.below hW) nm (by have := (shapeE_zero (checkE_shape hC)).1; omega) hi
  have hk0 : ¬ (k : Int) < 0 := by omega
  have hk0b : decide ((k : Int) < 0) = false := by simp
  have hkn : (k : Int) < (m.snaps.length : Int) := by omega
  obtain ⟨c0, c1, c2, c3, c4⟩ := five m0
  clear h hC hi
  go_enter Try.func29, Try.ntmps29
  go_upto_region 7 with (first | (go_at_call 61; refine (HSA.out _ bA).mono ?_; rintro e2 wB ⟨rfl, bB⟩; have bC := Below.on bA bB; have kB := cells_below m0 bC (by omega); obtain ⟨g0, g1, g2, g3, g4⟩ := five kB) | (go_at_call 59; refine hck.mono ?_; rintro e1 wA ⟨rfl, bA⟩; have nA := cells_below m0 bA (by omega); obtain ⟨d0, d1, d2, d3, d4⟩ := five nA))
  clear c0 c1 c2 c3 c4 d0 d1 d2 d3 d4 g0 g1 g2 g3 g4 kB nA
  obtain ⟨w1, hw1⟩ : ∃ X, X = wB := ⟨_, rfl⟩
  have b1 : Below ((w.alloc (.cells #[.int .i64 m.guest, .slice ra m.root.length rc, .slice sa m.slots.length sc, .slice fa m.refs.length fc, .slice (some ⟨nb, no, none⟩) m.snaps.length nc] 26)).alloc (.cells #[.int .i64 0, .slice none 0 0, .slice none 0 0, .slice none 0 0, .slice none 0 0] 26)).heap.size ((w.alloc (.cells #[.int .i64 m.guest, .slice ra m.root.length rc, .slice sa m.slots.length sc, .slice fa m.refs.length fc, .slice (some ⟨nb, no, none⟩) m.snaps.length nc] 26)).alloc (.cells #[.int .i64 0, .slice none 0 0, .slice none 0 0, .slice none 0 0, .slice none 0 0] 26)) w1 := by rw [hw1]; exact bC
  rw [← hw1]
  clear hw1
  have hz1 : w.heap.size + 1 < w1.heap.size := Nat.lt_of_lt_of_le hsz b1.size
  have n0 := cells_below m0 b1 (by omega)
  have n1 := cells_below m1 b1 hsz
  have bw : Below w.heap.size w w1 := Below.on b0 b1
  have I1 := I0.below b1
  obtain ⟨f0, f1, f2, f3, f4⟩ := five n0
  have HOw := ownImage_is I1 hs
  go_cut [8] from 9 (fun s wx => ∃ D, s = .pointer (some ⟨D, 0, none⟩) ∧ Hid (OwR w1 wx D m))
  case first =>
    go_wp2_with (go_at_call 62; refine HOw.mono ?_; rintro e3 w3 ⟨val, rfl, hO, b3⟩; obtain ⟨p0, q0, p1, q1, p2, q2, p3, q3, x0, x1, x2, x3⟩ := hO.four'; unfold imgV; rw [x0, x1, x2, x3])
    go_meet
    have s3 := b3.size
    exact ⟨_, rfl, ⟨⟨val, hO.alloc _, by rw [x0, x1, x2, x3]; exact World.alloc_heap_new _ _, hO.lt (Nat.le_refl _)⟩, s3, b3.alloc s3 _⟩⟩
  case rest =>
  obtain ⟨D, rfl, HD1⟩ := hcut
  obtain ⟨wa, hwa⟩ : ∃ X, X = wc := ⟨_, rfl⟩
  subst hwa
  clear HOw f0 f1 f2 f3 f4
  clear HSA
  go_upto_region 8 with fail
  go_cut [] from 9 (fun wx => Hid (OwR w1 wx D MR))
  case first =>
    obtain ⟨val, hX, hbox, hfar⟩ := HD1.out.ex
    have hbel := HD1.out.bel
    have hDge := HD1.out.ge
    obtain ⟨p0, q0, p1, q1, p2, q2, p3, q3, x0, x1, x2, x3⟩ := hX.four'
    have hbx := hbox
    rw [x0, x1, x2, x3] at hbx
    have hDl := (Array.getElem?_eq_some_iff.1 hbx).1
    have hs1 := hbel.size
    obtain ⟨d0, d1, d2, d3, d4⟩ := five hbx
    have hrow : wa.ownsRow w1.heap.size 72 3 (val .snaps) m.snaps.length (flatN m.snaps (fun j => val (.sr j))) := hX.row .snaps (LiveX.snaps m)
    obtain ⟨_, _, e3, hp3⟩ := hX.forms .snaps (LiveX.snaps m)
    rw [x3] at e3
    simp only [Value.slice.injEq] at e3
    obtain ⟨rfl, hmid, rfl⟩ := e3
    clear hmid
    obtain ⟨g, rfl⟩ := hp3 (by show 0 < m.snaps.length; omega)
    rw [x3] at hrow
    have h1c : ∀ u ∈ flatN m.snaps (fun j => val (.sr j)), u.oneCell' = true := flatN_mem fun j hj => slice_one (hX.row (.sr j) (LiveX.sr hj))
    obtain ⟨hcap1, hcap2⟩ := (row_lt hrow).2.2
    obtain ⟨W8, hrun, hrow8, hg8⟩ := appd_run hk (World.ownsRow.drew hrow) h1c (fun _ => trivial)
    obtain ⟨o2, ho2⟩ : ∃ o, (q3 = k + 1 ∧ o = 0) ∨ (¬ q3 = k + 1 ∧ o = (k + 1) * 3) := by
      by_cases e : q3 = k + 1
      · exact ⟨0, .inl ⟨e, rfl⟩⟩
      · exact ⟨_, .inr ⟨e, rfl⟩⟩
    have HCC : Hid ((q3 = k + 1 ∧ o2 = 0) ∨ (¬ q3 = k + 1 ∧ o2 = (k + 1) * 3)) := ho2
    have HO2 : Hid (o2 = (k + 1) * 3 ∨ m.snaps.length = k + 1) := by rcases ho2 with ⟨e, _⟩ | ⟨_, e⟩; exact .inr (by omega); exact .inl e
    have HAP : Hid ((∀ ty mc o, (o = (k + 1) * 3 ∨ m.snaps.length = k + 1) → (Builtin.append_ #[24, 24] ty #[.slice (some ⟨g, 0, none⟩) k q3, .slice (some ⟨g, o, none⟩) (m.snaps.length - (k + 1)) mc]).run Try.prog wa.drew = .ok (.slice (some ⟨g, 0, none⟩) (m.snaps.length - 1) q3) W8) ∧ True) := ⟨hrun, trivial⟩
    have hDg : D ≠ g := fun e => hfar .snaps (LiveX.snaps m) (by rw [x3, e]; rfl)
    have HD8 : Hid (W8.heap[D]? = some (.cells #[.int .i64 m.guest, .slice p0 m.root.length q0, .slice p1 m.slots.length q1, .slice p2 m.refs.length q2, .slice (some ⟨g, 0, none⟩) m.snaps.length q3] 26)) := (hg8.block D hDl (by intro e; injection e with e; exact hDg e)).trans hbx
    have HFin : Hid (Hid (OwR w1 (W8.setCell ⟨D, 4, none⟩ (.slice (some ⟨g, 0, none⟩) (m.snaps.length - 1) q3)) D MR)) := by
      rw [← HMR.out]
      exact ow_del hX.drew hbel.drew hbox hDge hfar hk hrow8 (by rw [x3]; exact hg8) (by rw [x3]; rfl)
    have hw1 : IntKind.i64.wrap ((k : Int) + 1) = (k : Int) + 1 := by rw [IntKind.wrap_i64]; unfold maxLen at hcap2; omega
    have t1 : (k : Int) ≤ (q3 : Int) := by omega
    have t2 : k ≤ q3 := by omega
    have t3 : (0 : Int) ≤ (k : Int) + 1 := by omega
    have t4 : (k : Int) + 1 ≤ (m.snaps.length : Int) := by omega
    have t5 : k + 1 ≤ m.snaps.length := by omega
    have t6 : ((k : Int) + 1).toNat = k + 1 := by omega
    have t7 : ¬ q3 = 0 := by omega
    clear hX hbox hfar hbel hrow h1c hrun hrow8 hg8 hbx x0 x1 x2 x3 hcap1 hcap2 ho2 hp3
    refine wp_region_held_drew (S := fun _ => True) (by kernel_rfl) trivial (fun hHeld => ?_)
    refine wpAnyH_take (i := 0) (v := .pointer (some ⟨D, 4, none⟩)) rfl (by kernel_rfl) (by kernel_rfl) (by kernel_rfl) (fun _ _ _ h => h) (Or.inl ⟨by rfl, fun w' hSw => by go_simp⟩) hHeld ?_
    simp only [Act.put, List.getElem_toArray, List.getElem_cons_succ, List.getElem_cons_zero, List.setIfInBounds_toArray, List.set_cons_zero, List.set_cons_succ]
    refine wpAnyH_take (i := 2) (v := .int .i64 (k : Int)) rfl (by kernel_rfl) (by kernel_rfl) (by kernel_rfl) (fun _ _ _ h => h) (Or.inl ⟨by rfl, fun w' hSw => by go_simp⟩) hHeld ?_
    simp only [Act.put, List.getElem_toArray, List.getElem_cons_succ, List.getElem_cons_zero, List.setIfInBounds_toArray, List.set_cons_zero, List.set_cons_succ]
    refine wpAnyH_take (i := 4) (v := .pointer (some ⟨D, 4, none⟩)) rfl (by kernel_rfl) (by kernel_rfl) (by kernel_rfl) (fun _ _ _ h => h) (Or.inl ⟨by rfl, fun w' hSw => by go_simp⟩) hHeld ?_
    simp only [Act.put, List.getElem_toArray, List.getElem_cons_succ, List.getElem_cons_zero, List.setIfInBounds_toArray, List.set_cons_zero, List.set_cons_succ]
    refine wpAnyH_take (i := 6) (v := .int .i64 (k : Int)) rfl (by kernel_rfl) (by kernel_rfl) (by kernel_rfl) (fun _ _ _ h => h) (Or.inl ⟨by rfl, fun w' hSw => by go_simp⟩) hHeld ?_
    simp only [Act.put, List.getElem_toArray, List.getElem_cons_succ, List.getElem_cons_zero, List.setIfInBounds_toArray, List.set_cons_zero, List.set_cons_succ]
    refine wpAnyH_take (i := 7) (v := .int .i64 ((k : Int) + 1)) rfl (by kernel_rfl) (by kernel_rfl) (by kernel_rfl) (fun _ _ _ h => h) (Or.inl ⟨by rfl, fun w' hSw => by go_simp⟩) hHeld ?_
    simp only [Act.put, List.getElem_toArray, List.getElem_cons_succ, List.getElem_cons_zero, List.setIfInBounds_toArray, List.set_cons_zero, List.set_cons_succ]
    refine wpAnyH_ready (rs := [1, 5]) (by kernel_rfl) (by simp) ?_
    refine AllReadyH.cons rfl (fun K hK => ?_) (AllReadyH.cons rfl (fun K hK => ?_) AllReadyH.nil)
    · clear hHeld
      simp only [Act.put, List.getElem_toArray, List.getElem_cons_succ, List.getElem_cons_zero, List.setIfInBounds_toArray, List.set_cons_zero, List.set_cons_succ]
      rw [if_pos (by rfl)]
      go_simp
      refine hK.out _ _ trivial (fun hHeld => ?_)
      clear hK K
      try simp only [Act.put, List.getElem_toArray, List.getElem_cons_succ, List.getElem_cons_zero, List.setIfInBounds_toArray, List.set_cons_zero, List.set_cons_succ]
      refine wpAnyH_take (i := 3) (v := .slice (some ⟨g, 0, none⟩) k q3) rfl (by kernel_rfl) (by kernel_rfl) (by kernel_rfl) (fun _ _ _ h => h) (Or.inl ⟨by rfl, fun w' hSw => by go_simp⟩) hHeld ?_
      simp only [Act.put, List.getElem_toArray, List.getElem_cons_succ, List.getElem_cons_zero, List.setIfInBounds_toArray, List.set_cons_zero, List.set_cons_succ]
      refine wpAnyH_ready (rs := [5]) (by kernel_rfl) (by simp) ?_
      refine AllReadyH.cons rfl (fun K hK => ?_) AllReadyH.nil
      clear hHeld
      simp only [Act.put, List.getElem_toArray, List.getElem_cons_succ, List.getElem_cons_zero, List.setIfInBounds_toArray, List.set_cons_zero, List.set_cons_succ]
      rw [if_pos (by rfl)]
      go_simp
      refine hK.out _ _ trivial (fun hHeld => ?_)
      clear hK K
      try simp only [Act.put, List.getElem_toArray, List.getElem_cons_succ, List.getElem_cons_zero, List.setIfInBounds_toArray, List.set_cons_zero, List.set_cons_succ]
      refine wpAnyH_take (i := 8) (v := .slice (some ⟨g, o2, none⟩) (m.snaps.length - (k + 1)) (q3 - (k + 1))) rfl (by kernel_rfl) (by kernel_rfl) (by kernel_rfl) (fun _ _ _ h => h) (Or.inl ⟨by rfl, fun w' hSw => by rcases HCC.out with ⟨hcc, rfl⟩ | ⟨hcc, rfl⟩ <;> go_simp⟩) hHeld ?_
      simp only [Act.put, List.getElem_toArray, List.getElem_cons_succ, List.getElem_cons_zero, List.setIfInBounds_toArray, List.set_cons_zero, List.set_cons_succ]
      refine wpAnyH_ready (rs := [9]) (by kernel_rfl) (by simp) ?_
      refine AllReadyH.cons rfl (fun K hK => ?_) AllReadyH.nil
      clear hHeld
      simp only [Act.put, List.getElem_toArray, List.getElem_cons_succ, List.getElem_cons_zero, List.setIfInBounds_toArray, List.set_cons_zero, List.set_cons_succ]
      rw [if_pos (by rfl)]
      refine wp_app_run _ _ 24 24 (by rfl) (.slice (some ⟨g, 0, none⟩) k q3) (.slice (some ⟨g, o2, none⟩) (m.snaps.length - (k + 1)) (q3 - (k + 1))) (by simp [Act.eval, Act.put]) (by simp [Act.eval, Act.put]) (HAP.out.1 _ _ _ HO2.out) ?_
      refine hK.out _ _ trivial (fun hHeld => ?_)
      clear hK K
      try simp only [Act.put, List.getElem_toArray, List.getElem_cons_succ, List.getElem_cons_zero, List.setIfInBounds_toArray, List.set_cons_zero, List.set_cons_succ]
      refine wpAnyH_take (i := 10) (v := .pointer (some ⟨D, 4, none⟩)) rfl (by kernel_rfl) (by kernel_rfl) (by kernel_rfl) (fun _ _ _ h => h) (Or.inl ⟨by rfl, fun w' hSw => by go_simp⟩) hHeld ?_
      simp only [Act.put, List.getElem_toArray, List.getElem_cons_succ, List.getElem_cons_zero, List.setIfInBounds_toArray, List.set_cons_zero, List.set_cons_succ]
      refine wpAnyH_ready (rs := [11]) (by kernel_rfl) (by simp) ?_
      refine AllReadyH.cons rfl (fun K hK => ?_) AllReadyH.nil
      clear hHeld
      simp only [Act.put, List.getElem_toArray, List.getElem_cons_succ, List.getElem_cons_zero, List.setIfInBounds_toArray, List.set_cons_zero, List.set_cons_succ]
      rw [if_pos (by rfl)]
      have hD8 : W8.heap[D]? = some (.cells #[.int .i64 m.guest, .slice p0 m.root.length q0, .slice p1 m.slots.length q1, .slice p2 m.refs.length q2, .slice (some ⟨g, 0, none⟩) m.snaps.length q3] 26) := HD8.out
      obtain ⟨r0, r1, r2, r3, r4⟩ := five hD8
      have rr0 := cells_frozen hD8 0; have rr1 := cells_frozen hD8 1; have rr2 := cells_frozen hD8 2; have rr3 := cells_frozen hD8 3; have rr4 := cells_frozen hD8 4
      clear hD8
      go_simp
      refine hK.out _ _ trivial (fun hHeld => ?_)
      clear hK K hHeld
      try simp only [Act.put, List.getElem_toArray, List.getElem_cons_succ, List.getElem_cons_zero, List.setIfInBounds_toArray, List.set_cons_zero, List.set_cons_succ]
      refine wpAnyH_done (by kernel_rfl) ?_ _
      go_wp2_with fail
      go_meet
      exact HFin.out
    · clear hHeld
      simp only [Act.put, List.getElem_toArray, List.getElem_cons_succ, List.getElem_cons_zero, List.setIfInBounds_toArray, List.set_cons_zero, List.set_cons_succ]
      rw [if_pos (by rfl)]
      go_simp
      refine hK.out _ _ trivial (fun hHeld => ?_)
      clear hK K
      try simp only [Act.put, List.getElem_toArray, List.getElem_cons_succ, List.getElem_cons_zero, List.setIfInBounds_toArray, List.set_cons_zero, List.set_cons_succ]
      refine wpAnyH_take (i := 8) (v := .slice (some ⟨g, o2, none⟩) (m.snaps.length - (k + 1)) (q3 - (k + 1))) rfl (by kernel_rfl) (by kernel_rfl) (by kernel_rfl) (fun _ _ _ h => h) (Or.inl ⟨by rfl, fun w' hSw => by rcases HCC.out with ⟨hcc, rfl⟩ | ⟨hcc, rfl⟩ <;> go_simp⟩) hHeld ?_
      simp only [Act.put, List.getElem_toArray, List.getElem_cons_succ, List.getElem_cons_zero, List.setIfInBounds_toArray, List.set_cons_zero, List.set_cons_succ]
      refine wpAnyH_ready (rs := [1]) (by kernel_rfl) (by simp) ?_
      refine AllReadyH.cons rfl (fun K hK => ?_) AllReadyH.nil
      clear hHeld
      simp only [Act.put, List.getElem_toArray, List.getElem_cons_succ, List.getElem_cons_zero, List.setIfInBounds_toArray, List.set_cons_zero, List.set_cons_succ]
      rw [if_pos (by rfl)]
      go_simp
      refine hK.out _ _ trivial (fun hHeld => ?_)
      clear hK K
      try simp only [Act.put, List.getElem_toArray, List.getElem_cons_succ, List.getElem_cons_zero, List.setIfInBounds_toArray, List.set_cons_zero, List.set_cons_succ]
      refine wpAnyH_take (i := 3) (v := .slice (some ⟨g, 0, none⟩) k q3) rfl (by kernel_rfl) (by kernel_rfl) (by kernel_rfl) (fun _ _ _ h => h) (Or.inl ⟨by rfl, fun w' hSw => by go_simp⟩) hHeld ?_
      simp only [Act.put, List.getElem_toArray, List.getElem_cons_succ, List.getElem_cons_zero, List.setIfInBounds_toArray, List.set_cons_zero, List.set_cons_succ]
      refine wpAnyH_ready (rs := [9]) (by kernel_rfl) (by simp) ?_
      refine AllReadyH.cons rfl (fun K hK => ?_) AllReadyH.nil
      clear hHeld
      simp only [Act.put, List.getElem_toArray, List.getElem_cons_succ, List.getElem_cons_zero, List.setIfInBounds_toArray, List.set_cons_zero, List.set_cons_succ]
      rw [if_pos (by rfl)]
      refine wp_app_run _ _ 24 24 (by rfl) (.slice (some ⟨g, 0, none⟩) k q3) (.slice (some ⟨g, o2, none⟩) (m.snaps.length - (k + 1)) (q3 - (k + 1))) (by simp [Act.eval, Act.put]) (by simp [Act.eval, Act.put]) (HAP.out.1 _ _ _ HO2.out) ?_
      refine hK.out _ _ trivial (fun hHeld => ?_)
      clear hK K
      try simp only [Act.put, List.getElem_toArray, List.getElem_cons_succ, List.getElem_cons_zero, List.setIfInBounds_toArray, List.set_cons_zero, List.set_cons_succ]
      refine wpAnyH_take (i := 10) (v := .pointer (some ⟨D, 4, none⟩)) rfl (by kernel_rfl) (by kernel_rfl) (by kernel_rfl) (fun _ _ _ h => h) (Or.inl ⟨by rfl, fun w' hSw => by go_simp⟩) hHeld ?_
      simp only [Act.put, List.getElem_toArray, List.getElem_cons_succ, List.getElem_cons_zero, List.setIfInBounds_toArray, List.set_cons_zero, List.set_cons_succ]
      refine wpAnyH_ready (rs := [11]) (by kernel_rfl) (by simp) ?_
      refine AllReadyH.cons rfl (fun K hK => ?_) AllReadyH.nil
      clear hHeld
      simp only [Act.put, List.getElem_toArray, List.getElem_cons_succ, List.getElem_cons_zero, List.setIfInBounds_toArray, List.set_cons_zero, List.set_cons_succ]
      rw [if_pos (by rfl)]
      have hD8 : W8.heap[D]? = some (.cells #[.int .i64 m.guest, .slice p0 m.root.length q0, .slice p1 m.slots.length q1, .slice p2 m.refs.length q2, .slice (some ⟨g, 0, none⟩) m.snaps.length q3] 26) := HD8.out
      obtain ⟨r0, r1, r2, r3, r4⟩ := five hD8
      have rr0 := cells_frozen hD8 0; have rr1 := cells_frozen hD8 1; have rr2 := cells_frozen hD8 2; have rr3 := cells_frozen hD8 3; have rr4 := cells_frozen hD8 4
      clear hD8
      go_simp
      refine hK.out _ _ trivial (fun hHeld => ?_)
      clear hK K hHeld
      try simp only [Act.put, List.getElem_toArray, List.getElem_cons_succ, List.getElem_cons_zero, List.setIfInBounds_toArray, List.set_cons_zero, List.set_cons_succ]
      refine wpAnyH_done (by kernel_rfl) ?_ _
      go_wp2_with fail
      go_meet
      exact HFin.out
  case rest =>
  have HD3 := hcut
  obtain ⟨wg, hwg⟩ : ∃ X, X = wc := ⟨_, rfl⟩
  subst hwg
  clear hcut HD1
  obtain ⟨val, hX, hbox, hfar⟩ := HD3.out.ex
  have hbel := HD3.out.bel
  have hDge := HD3.out.ge
  obtain ⟨p0, q0, p1, q1, p2, q2, p3, q3, x0, x1, x2, x3⟩ := hX.four'
  have hbx := hbox
  rw [x0, x1, x2, x3] at hbx
  obtain ⟨d0, d1, d2, d3, d4⟩ := five hbx
  have z9 := cells_below n1 hbel hz1
  obtain ⟨z0, z1, z2, z3, z4⟩ := five z9
  have y0 := cells_frozen z9 0; have y1 := cells_frozen z9 1; have y2 := cells_frozen z9 2; have y3 := cells_frozen z9 3; have y4 := cells_frozen z9 4
  have nD1 : ¬ D = w.heap.size + 1 := by omega
  have nD2 : ¬ w.heap.size + 1 = D := by omega
  have hc := countedX_is hX hbel.size HSh.out
  unfold imgV at hc
  rw [x0, x1, x2, x3] at hc
  have HCt : Hid (Calls Try.prog 63 #[.agg #[.int .i64 MR.guest, .slice p0 MR.root.length q0, .slice p1 MR.slots.length q1, .slice p2 MR.refs.length q2, .slice p3 MR.snaps.length q3]] wg fun r w' => ∃ val', r = .returned (imgV MR.guest val') ∧ OX w' w1.heap.size val' (countedD MR) ∧ Below w1.heap.size wg w' ∧ KeepX wg w' MR val ∧ SrcX wg MR val (.slice none 0 0) (countedD MR) val') := hc
  have hzl : w.heap.size + 1 < wg.heap.size := Nat.lt_of_lt_of_le hz1 hbel.size
  have hfz : ∀ a, LiveX MR a → (val a).ownBlock ≠ some (w.heap.size + 1) := fun a ha x => by have := ((hX.row a ha).lt _ x).1; omega
  clear hc
  go_wp2_with (go_at_call 63; refine HCt.out.mono ?_; rintro e7 w7 ⟨val2, rfl, hO7, b7, k7, s7⟩; obtain ⟨u0, v0, u1, v1, u2, v2, u3, v3, j0, j1, j2, j3⟩ := hO7.four'; have k17 := (k7 (w.heap.size + 1) hzl hfz).trans z9; obtain ⟨o0, o1, o2, o3, o4⟩ := five k17; have oo0 := cells_frozen k17 0; have oo1 := cells_frozen k17 1; have oo2 := cells_frozen k17 2; have oo3 := cells_frozen k17 3; have oo4 := cells_frozen k17 4; unfold imgV; rw [j0, j1, j2, j3])
  have hfr : ∀ a, LiveX (countedD MR) a → (val2 a).ownBlock ≠ some (w.heap.size + 1) := fun a ha x => by
    have := ((hO7.row a ha).lt _ x).1
    omega
  have hI := fun x0 x1 x2 x3 x4 => hO7.five hfr x0 x1 x2 x3 x4
  have eI : imgV (countedD MR).guest val2 = .agg #[.int .i64 MR.guest, .slice u0 (countedD MR).root.length v0, .slice u1 (countedD MR).slots.length v1, .slice u2 (countedD MR).refs.length v2, .slice u3 (countedD MR).snaps.length v3] := by unfold imgV; rw [j0, j1, j2, j3]; rfl
  have hB8 : Below w.heap.size w w7 := (Below.on bw hbel).trans (b7.mono (by omega))
  refine bodyPost_ret (v := .tuple #[.agg #[.int .i64 MR.guest, .slice u0 (countedD MR).root.length v0, .slice u1 (countedD MR).slots.length v1, .slice u2 (countedD MR).refs.length v2, .slice u3 (countedD MR).snaps.length v3], .int .i64 0]) (by simp [results, Try.results29, go_sem, o0, o1, o2, o3, o4]) rfl ⟨u0, v0, u1, v1, u2, v2, u3, v3, rfl, fun W' hW => (by have := ((hI _ _ _ _ _).keep (fun q hq _ => hW q (by omega))).img; rw [eI] at this; exact this), below_five hB8 (Nat.le_succ _) _ _ _ _ _⟩

theorem nod_is {w : World} {v : Value} {m : ImgD} (h : Img w v m) (nm : ByteArray) {M : ImgD} {E : Int} (hM : dlM m nm = M) (hE : pastE m nm = E) :
    Calls Try.prog 29 #[v, .string nm] w (AnsJ w M E) := by
  have h' := h
  obtain ⟨ra, rc, sa, sc, fa, fc, na, nc, rfl, _⟩ := h.parts
  subst hM hE
  by_cases h0 : pastE m nm = 0
  · obtain ⟨hC, k, hk, hl, e, hs, _⟩ := dl_ok h0
    rw [h0, e]
    obtain ⟨nb, no, nc', ev, _, hlt, hS⟩ := h'.four.2.2.2.open (by omega)
    simp only [Value.slice.injEq] at ev
    obtain ⟨rfl, _, rfl⟩ := ev
    exact nod_ok ra rc sa sc fa fc nb no nc m nm k w h' hC (by rw [hk]; rfl) hl hlt _ rfl (shape_rfq hs)
  · rw [dl_bad h0]
    unfold pastE at h0 ⊢
    by_cases hC : checkE m = 0
    · rw [if_neg (fun x => x hC)] at h0 ⊢
      cases hx : snapIx m.snaps nm with
      | some k => rw [hx] at h0; exact absurd rfl h0
      | none => exact nod_none ra rc sa sc fa fc na nc m nm w h' hC (by rw [hx]; rfl)
    · rw [if_pos hC]
      exact nod_bad ra rc sa sc fa fc na nc m nm w h' _ rfl (by simp [hC])
end Go.Proofs.Ytehleeibgkpjmad
