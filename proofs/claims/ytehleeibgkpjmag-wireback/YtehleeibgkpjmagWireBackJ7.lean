/- Texts joined: WiJ, WiK, First, With, Cut, SameInts, OxL, OxC, SlotRef, TbdI, TbdJ, OxT, FlPlain, WrR, WrA, SetI, CpyI, OfI, TakI, TakJ, TakL, TakK, WrI, WrJ, WrK, WrL, WrS, WrT, WrM, WrN, WrO, WrX, MendI, WrV, SCheck, WrY, WrW, WrU, WrE, WrZ, WrRz, WrB, RefF, PutI, WoA, RoA, WiN, WiQ, WiT, Pair, PDec. -/
import Derived.Test.YtehleeibgkpjmagWireBackJ5
import Derived.Test.YtehleeibgkpjmagWireBackJ3
import Derived.Test.YtehleeibgkpjmagWireBackJ4
import Derived.Deep.CutRange
import Derived.Defers
import Derived.Recover
import Derived.Test.YtehleeibgkpjmagWireBackJ1
import Derived.Laws.CopyOwn
import Derived.Deep.QuietTactic
import Derived.BigQuiet
import Derived.Deep.RegionHeld3
import Derived.Deep.RegionLaw
import Derived.Deep.RegionHeld
import Derived.Deep.RegionWith
import Derived.Laws.CopyRow
import Derived.Laws.IdiomCopy
import Derived.Test.YtehleeibgkpjmagWireBackJ6
set_option linter.unusedVariables false
set_option linter.unusedSimpArgs false
/- The program's counted. -/
namespace Go.Proofs.Ytehleeibgkpjmag
open Go.RowKit Go.Shelf Go.Lib
set_option maxRecDepth 20000
set_option linter.unusedVariables false
set_option linter.unusedSimpArgs false

def AnsR (w : World) (M : ImgD) (err : Int) (r : Ending) (w' : World) : Prop := ∃ a0 c0 a1 c1 a2 c2 a3 c3, r = .returned (.tuple #[.agg #[.int .i64 M.guest, .slice a0 M.root.length c0, .slice a1 M.slots.length c1, .slice a2 M.refs.length c2, .slice a3 M.snaps.length c3], .int .i64 err]) ∧ Img w' (.agg #[.int .i64 M.guest, .slice a0 M.root.length c0, .slice a1 M.slots.length c1, .slice a2 M.refs.length c2, .slice a3 M.snaps.length c3]) M ∧ Below w.heap.size w w'
def AnsC (w : World) (m : ImgD) (ra : Option Addr) (rc : Nat) (sa : Option Addr) (sc : Nat) (na : Option Addr) (nc : Nat) (r : Ending) (w' : World) : Prop := ∃ g, w.heap.size ≤ g ∧ r = .returned (.tuple #[.agg #[.int .i64 m.guest, .slice ra m.root.length rc, .slice sa m.slots.length sc, .slice (some ⟨g, 0, none⟩) m.slots.length m.slots.length, .slice na m.snaps.length nc], .int .i64 0]) ∧ LAt w' g (cntL m) ∧ Below w.heap.size w w'
theorem zer_sl {W : World} {g n : Nat} (h : W.heap[g]? = some (.cells ((List.replicate n (0 : Int)).map (Value.int .i64)).toArray 3)) (hn : n ≤ 1000) : Sl W (.slice (some ⟨g, 0, none⟩) n n) (List.replicate n 0) := by
  refine ⟨some ⟨g, 0, none⟩, n, by rw [List.length_replicate], by rw [List.length_replicate]; unfold maxLen; omega, by rw [List.length_replicate]; exact Nat.le_refl _, fun _ => ⟨g, 0, rfl, (Array.getElem?_eq_some_iff.1 h).1, fun j hj => ?_⟩⟩
  have hj : j < n := by simpa using hj
  simp [World.cell?, h, List.getD, hj]
theorem img_refs {w W : World} {m : ImgD} {gv r s f n fv : Value} {l : List Int} (h : Img w (.agg #[gv, r, s, f, n]) m) (hb : Below w.heap.size w W) (hl : Sl W fv l) : Img W (.agg #[gv, r, s, fv, n]) { m with refs := l } := by
  have hW := h.below hb
  obtain ⟨r', s', f', n', e, h1, h2, h3, h4⟩ := hW
  simp only [Value.agg.injEq, Array.mk.injEq, List.cons.injEq, and_true] at e
  obtain ⟨e0, e1, e2, e3, e4⟩ := e
  subst e1 e2 e4
  exact ⟨_, _, _, _, by rw [e0], h1, h2, hl, h4⟩
theorem Hid_mkJ {p : Prop} (h : p) : Hid p := h
set_option maxHeartbeats 2000000 in
theorem counted_err (ra : Option Addr) (rc : Nat) (sa : Option Addr) (sc : Nat) (fa : Option Addr) (fc : Nat) (na : Option Addr) (nc : Nat) (m : ImgD) (w : World) (h : Img w (.agg #[.int .i64 m.guest, .slice ra m.root.length rc, .slice sa m.slots.length sc, .slice fa m.refs.length fc, .slice na m.snaps.length nc]) m) (hs9 : m.slots.length ≤ 1000) (E : Int) (hE : shapeE (wzer m) = E) (hne : (E != 0) = true) :
    Calls Try.prog 42 #[.agg #[.int .i64 m.guest, .slice ra m.root.length rc, .slice sa m.slots.length sc, .slice fa m.refs.length fc, .slice na m.snaps.length nc]] w (AnsR w imgZ 1) := by
  have hmk : ∀ W, (Instr.makeSlice 22 (.int .i64 (m.slots.length : Int)) (.int .i64 (m.slots.length : Int))).run Try.prog W = .ok (.slice (some ⟨W.heap.size, 0, none⟩) m.slots.length m.slots.length) (W.alloc (.cells (Array.replicate m.slots.length (.int .i64 0)) 3)) := fun W => by have := mk_intsR m.slots.length hs9 W; simpa using this
  have b0 : Below w.heap.size w (((w.alloc (.cells #[.int .i64 m.guest, .slice ra m.root.length rc, .slice sa m.slots.length sc, .slice (some ⟨w.heap.size + 1 + 1, 0, none⟩) m.slots.length m.slots.length, .slice na m.snaps.length nc] 26)).alloc (.cells #[.int .i64 0, .slice none 0 0, .slice none 0 0, .slice none 0 0, .slice none 0 0] 26)).alloc (.cells (Array.replicate m.slots.length (.int .i64 0)) 3)) := (((Below.refl _ _).alloc (Nat.le_refl _) _).alloc (by simp) _).alloc (by simp; omega) _
  have m0 : (((w.alloc (.cells #[.int .i64 m.guest, .slice ra m.root.length rc, .slice sa m.slots.length sc, .slice (some ⟨w.heap.size + 1 + 1, 0, none⟩) m.slots.length m.slots.length, .slice na m.snaps.length nc] 26)).alloc (.cells #[.int .i64 0, .slice none 0 0, .slice none 0 0, .slice none 0 0, .slice none 0 0] 26)).alloc (.cells (Array.replicate m.slots.length (.int .i64 0)) 3)).heap[w.heap.size]? = some (.cells #[.int .i64 m.guest, .slice ra m.root.length rc, .slice sa m.slots.length sc, .slice (some ⟨w.heap.size + 1 + 1, 0, none⟩) m.slots.length m.slots.length, .slice na m.snaps.length nc] 26) := cells_alloc (cells_alloc (World.alloc_heap_new _ _) _) _
  have m1 : (((w.alloc (.cells #[.int .i64 m.guest, .slice ra m.root.length rc, .slice sa m.slots.length sc, .slice (some ⟨w.heap.size + 1 + 1, 0, none⟩) m.slots.length m.slots.length, .slice na m.snaps.length nc] 26)).alloc (.cells #[.int .i64 0, .slice none 0 0, .slice none 0 0, .slice none 0 0, .slice none 0 0] 26)).alloc (.cells (Array.replicate m.slots.length (.int .i64 0)) 3)).heap[w.heap.size + 1]? = some (.cells #[.int .i64 0, .slice none 0 0, .slice none 0 0, .slice none 0 0, .slice none 0 0] 26) := cells_alloc (by have := World.alloc_heap_new (w.alloc (.cells #[.int .i64 m.guest, .slice ra m.root.length rc, .slice sa m.slots.length sc, .slice (some ⟨w.heap.size + 1 + 1, 0, none⟩) m.slots.length m.slots.length, .slice na m.snaps.length nc] 26)) (.cells #[.int .i64 0, .slice none 0 0, .slice none 0 0, .slice none 0 0, .slice none 0 0] 26); simpa using this) _
  have m2 : (((w.alloc (.cells #[.int .i64 m.guest, .slice ra m.root.length rc, .slice sa m.slots.length sc, .slice (some ⟨w.heap.size + 1 + 1, 0, none⟩) m.slots.length m.slots.length, .slice na m.snaps.length nc] 26)).alloc (.cells #[.int .i64 0, .slice none 0 0, .slice none 0 0, .slice none 0 0, .slice none 0 0] 26)).alloc (.cells (Array.replicate m.slots.length (.int .i64 0)) 3)).heap[w.heap.size + 1 + 1]? = some (.cells (Array.replicate m.slots.length (.int .i64 0)) 3) := by have := World.alloc_heap_new ((w.alloc (.cells #[.int .i64 m.guest, .slice ra m.root.length rc, .slice sa m.slots.length sc, .slice (some ⟨w.heap.size + 1 + 1, 0, none⟩) m.slots.length m.slots.length, .slice na m.snaps.length nc] 26)).alloc (.cells #[.int .i64 0, .slice none 0 0, .slice none 0 0, .slice none 0 0, .slice none 0 0] 26)) (.cells (Array.replicate m.slots.length (.int .i64 0)) 3); simpa using this
  have hI2 : Img (((w.alloc (.cells #[.int .i64 m.guest, .slice ra m.root.length rc, .slice sa m.slots.length sc, .slice (some ⟨w.heap.size + 1 + 1, 0, none⟩) m.slots.length m.slots.length, .slice na m.snaps.length nc] 26)).alloc (.cells #[.int .i64 0, .slice none 0 0, .slice none 0 0, .slice none 0 0, .slice none 0 0] 26)).alloc (.cells (Array.replicate m.slots.length (.int .i64 0)) 3)) (.agg #[.int .i64 m.guest, .slice ra m.root.length rc, .slice sa m.slots.length sc, .slice (some ⟨w.heap.size + 1 + 1, 0, none⟩) m.slots.length m.slots.length, .slice na m.snaps.length nc]) (wzer m) := img_refs h b0 (zer_sl (by rw [m2]; simp) hs9)
  have hz : (((w.alloc (.cells #[.int .i64 m.guest, .slice ra m.root.length rc, .slice sa m.slots.length sc, .slice (some ⟨w.heap.size + 1 + 1, 0, none⟩) m.slots.length m.slots.length, .slice na m.snaps.length nc] 26)).alloc (.cells #[.int .i64 0, .slice none 0 0, .slice none 0 0, .slice none 0 0, .slice none 0 0] 26)).alloc (.cells (Array.replicate m.slots.length (.int .i64 0)) 3)).heap.size = w.heap.size + 3 := by simp
  have HI : Hid (Img w (.agg #[.int .i64 m.guest, .slice ra m.root.length rc, .slice sa m.slots.length sc, .slice fa m.refs.length fc, .slice na m.snaps.length nc]) m ∧ Below w.heap.size w (((w.alloc (.cells #[.int .i64 m.guest, .slice ra m.root.length rc, .slice sa m.slots.length sc, .slice (some ⟨w.heap.size + 1 + 1, 0, none⟩) m.slots.length m.slots.length, .slice na m.snaps.length nc] 26)).alloc (.cells #[.int .i64 0, .slice none 0 0, .slice none 0 0, .slice none 0 0, .slice none 0 0] 26)).alloc (.cells (Array.replicate m.slots.length (.int .i64 0)) 3))) := ⟨h, b0⟩
  have HM : Hid ((((w.alloc (.cells #[.int .i64 m.guest, .slice ra m.root.length rc, .slice sa m.slots.length sc, .slice (some ⟨w.heap.size + 1 + 1, 0, none⟩) m.slots.length m.slots.length, .slice na m.snaps.length nc] 26)).alloc (.cells #[.int .i64 0, .slice none 0 0, .slice none 0 0, .slice none 0 0, .slice none 0 0] 26)).alloc (.cells (Array.replicate m.slots.length (.int .i64 0)) 3)).heap[w.heap.size]? = some (.cells #[.int .i64 m.guest, .slice ra m.root.length rc, .slice sa m.slots.length sc, .slice (some ⟨w.heap.size + 1 + 1, 0, none⟩) m.slots.length m.slots.length, .slice na m.snaps.length nc] 26) ∧ (((w.alloc (.cells #[.int .i64 m.guest, .slice ra m.root.length rc, .slice sa m.slots.length sc, .slice (some ⟨w.heap.size + 1 + 1, 0, none⟩) m.slots.length m.slots.length, .slice na m.snaps.length nc] 26)).alloc (.cells #[.int .i64 0, .slice none 0 0, .slice none 0 0, .slice none 0 0, .slice none 0 0] 26)).alloc (.cells (Array.replicate m.slots.length (.int .i64 0)) 3)).heap[w.heap.size + 1]? = some (.cells #[.int .i64 0, .slice none 0 0, .slice none 0 0, .slice none 0 0, .slice none 0 0] 26) ∧ (((w.alloc (.cells #[.int .i64 m.guest, .slice ra m.root.length rc, .slice sa m.slots.length sc, .slice (some ⟨w.heap.size + 1 + 1, 0, none⟩) m.slots.length m.slots.length, .slice na m.snaps.length nc] 26)).alloc (.cells #[.int .i64 0, .slice none 0 0, .slice none 0 0, .slice none 0 0, .slice none 0 0] 26)).alloc (.cells (Array.replicate m.slots.length (.int .i64 0)) 3)).heap.size = w.heap.size + 3) := ⟨m0, m1, hz⟩
  have HCn := Hid_mkJ (counts_err hI2 hE hne)
  clear hI2 m0 m1 m2 b0 h hz
  go_enter Try.func42, Try.ntmps42
  go_wp2_with fail
  refine HCn.out.mono ?_
  rintro e w3 ⟨rfl, b3⟩
  have s3 := b3.size
  rw [HM.out.2.2] at s3
  have n0 := cells_below HM.out.1 b3 (by rw [HM.out.2.2]; omega)
  have n1 := cells_below HM.out.2.1 b3 (by rw [HM.out.2.2]; omega)
  have HB3 := Hid_mkJ (Below.on HI.out.2 b3)
  obtain ⟨c0, c1, c2, c3, c4⟩ := five n0
  have f3 := cells_frozen n0 3
  obtain ⟨z0, z1, z2, z3, z4⟩ := five n1
  have y0 := cells_frozen n1 0; have y1 := cells_frozen n1 1; have y2 := cells_frozen n1 2; have y3 := cells_frozen n1 3; have y4 := cells_frozen n1 4
  clear b3 n0 n1 HCn hmk
  go_wp2_with fail
  refine bodyPost_ret (v := .tuple #[.agg #[.int .i64 0, .slice none 0 0, .slice none 0 0, .slice none 0 0, .slice none 0 0], .int .i64 1]) (by simp [results, Try.results42, go_sem, z0, z1, z2, z3, z4]) rfl ⟨none, 0, none, 0, none, 0, none, 0, rfl, (OI.zero _ 0).img, ?_⟩
  have i1 : w.heap.size ≤ w.heap.size + 1 := Nat.le_succ _
  first
    | exact (((((HB3.out.setCell (p := ⟨w.heap.size, 3, none⟩) (Nat.le_refl _) _).setCell i1 _).setCell i1 _).setCell i1 _).setCell i1 _).setCell i1 _
    | exact HB3.out.setCell (p := ⟨w.heap.size, 3, none⟩) (Nat.le_refl _) _
set_option maxHeartbeats 4000000 in
theorem counted_no (ra : Option Addr) (rc : Nat) (sa : Option Addr) (sc : Nat) (fa : Option Addr) (fc : Nat) (na : Option Addr) (nc : Nat) (m : ImgD) (w : World) (h : Img w (.agg #[.int .i64 m.guest, .slice ra m.root.length rc, .slice sa m.slots.length sc, .slice fa m.refs.length fc, .slice na m.snaps.length nc]) m) (hs9 : m.slots.length ≤ 1000) (hE : shapeE (wzer m) = 0) (E : Int) (hC : checkE (wcnt m) = E) (hne : (E != 0) = true) :
    Calls Try.prog 42 #[.agg #[.int .i64 m.guest, .slice ra m.root.length rc, .slice sa m.slots.length sc, .slice fa m.refs.length fc, .slice na m.snaps.length nc]] w (AnsR w imgZ 1) := by
  have hmk : ∀ W, (Instr.makeSlice 22 (.int .i64 (m.slots.length : Int)) (.int .i64 (m.slots.length : Int))).run Try.prog W = .ok (.slice (some ⟨W.heap.size, 0, none⟩) m.slots.length m.slots.length) (W.alloc (.cells (Array.replicate m.slots.length (.int .i64 0)) 3)) := fun W => by have := mk_intsR m.slots.length hs9 W; simpa using this
  have b0 : Below w.heap.size w (((w.alloc (.cells #[.int .i64 m.guest, .slice ra m.root.length rc, .slice sa m.slots.length sc, .slice (some ⟨w.heap.size + 1 + 1, 0, none⟩) m.slots.length m.slots.length, .slice na m.snaps.length nc] 26)).alloc (.cells #[.int .i64 0, .slice none 0 0, .slice none 0 0, .slice none 0 0, .slice none 0 0] 26)).alloc (.cells (Array.replicate m.slots.length (.int .i64 0)) 3)) := (((Below.refl _ _).alloc (Nat.le_refl _) _).alloc (by simp) _).alloc (by simp; omega) _
  have m0 : (((w.alloc (.cells #[.int .i64 m.guest, .slice ra m.root.length rc, .slice sa m.slots.length sc, .slice (some ⟨w.heap.size + 1 + 1, 0, none⟩) m.slots.length m.slots.length, .slice na m.snaps.length nc] 26)).alloc (.cells #[.int .i64 0, .slice none 0 0, .slice none 0 0, .slice none 0 0, .slice none 0 0] 26)).alloc (.cells (Array.replicate m.slots.length (.int .i64 0)) 3)).heap[w.heap.size]? = some (.cells #[.int .i64 m.guest, .slice ra m.root.length rc, .slice sa m.slots.length sc, .slice (some ⟨w.heap.size + 1 + 1, 0, none⟩) m.slots.length m.slots.length, .slice na m.snaps.length nc] 26) := cells_alloc (cells_alloc (World.alloc_heap_new _ _) _) _
  have m1 : (((w.alloc (.cells #[.int .i64 m.guest, .slice ra m.root.length rc, .slice sa m.slots.length sc, .slice (some ⟨w.heap.size + 1 + 1, 0, none⟩) m.slots.length m.slots.length, .slice na m.snaps.length nc] 26)).alloc (.cells #[.int .i64 0, .slice none 0 0, .slice none 0 0, .slice none 0 0, .slice none 0 0] 26)).alloc (.cells (Array.replicate m.slots.length (.int .i64 0)) 3)).heap[w.heap.size + 1]? = some (.cells #[.int .i64 0, .slice none 0 0, .slice none 0 0, .slice none 0 0, .slice none 0 0] 26) := cells_alloc (by have := World.alloc_heap_new (w.alloc (.cells #[.int .i64 m.guest, .slice ra m.root.length rc, .slice sa m.slots.length sc, .slice (some ⟨w.heap.size + 1 + 1, 0, none⟩) m.slots.length m.slots.length, .slice na m.snaps.length nc] 26)) (.cells #[.int .i64 0, .slice none 0 0, .slice none 0 0, .slice none 0 0, .slice none 0 0] 26); simpa using this) _
  have m2 : (((w.alloc (.cells #[.int .i64 m.guest, .slice ra m.root.length rc, .slice sa m.slots.length sc, .slice (some ⟨w.heap.size + 1 + 1, 0, none⟩) m.slots.length m.slots.length, .slice na m.snaps.length nc] 26)).alloc (.cells #[.int .i64 0, .slice none 0 0, .slice none 0 0, .slice none 0 0, .slice none 0 0] 26)).alloc (.cells (Array.replicate m.slots.length (.int .i64 0)) 3)).heap[w.heap.size + 1 + 1]? = some (.cells (Array.replicate m.slots.length (.int .i64 0)) 3) := by have := World.alloc_heap_new ((w.alloc (.cells #[.int .i64 m.guest, .slice ra m.root.length rc, .slice sa m.slots.length sc, .slice (some ⟨w.heap.size + 1 + 1, 0, none⟩) m.slots.length m.slots.length, .slice na m.snaps.length nc] 26)).alloc (.cells #[.int .i64 0, .slice none 0 0, .slice none 0 0, .slice none 0 0, .slice none 0 0] 26)) (.cells (Array.replicate m.slots.length (.int .i64 0)) 3); simpa using this
  have hI2 : Img (((w.alloc (.cells #[.int .i64 m.guest, .slice ra m.root.length rc, .slice sa m.slots.length sc, .slice (some ⟨w.heap.size + 1 + 1, 0, none⟩) m.slots.length m.slots.length, .slice na m.snaps.length nc] 26)).alloc (.cells #[.int .i64 0, .slice none 0 0, .slice none 0 0, .slice none 0 0, .slice none 0 0] 26)).alloc (.cells (Array.replicate m.slots.length (.int .i64 0)) 3)) (.agg #[.int .i64 m.guest, .slice ra m.root.length rc, .slice sa m.slots.length sc, .slice (some ⟨w.heap.size + 1 + 1, 0, none⟩) m.slots.length m.slots.length, .slice na m.snaps.length nc]) (wzer m) := img_refs h b0 (zer_sl (by rw [m2]; simp) hs9)
  have hz : (((w.alloc (.cells #[.int .i64 m.guest, .slice ra m.root.length rc, .slice sa m.slots.length sc, .slice (some ⟨w.heap.size + 1 + 1, 0, none⟩) m.slots.length m.slots.length, .slice na m.snaps.length nc] 26)).alloc (.cells #[.int .i64 0, .slice none 0 0, .slice none 0 0, .slice none 0 0, .slice none 0 0] 26)).alloc (.cells (Array.replicate m.slots.length (.int .i64 0)) 3)).heap.size = w.heap.size + 3 := by simp
  have HI : Hid (Img w (.agg #[.int .i64 m.guest, .slice ra m.root.length rc, .slice sa m.slots.length sc, .slice fa m.refs.length fc, .slice na m.snaps.length nc]) m ∧ Below w.heap.size w (((w.alloc (.cells #[.int .i64 m.guest, .slice ra m.root.length rc, .slice sa m.slots.length sc, .slice (some ⟨w.heap.size + 1 + 1, 0, none⟩) m.slots.length m.slots.length, .slice na m.snaps.length nc] 26)).alloc (.cells #[.int .i64 0, .slice none 0 0, .slice none 0 0, .slice none 0 0, .slice none 0 0] 26)).alloc (.cells (Array.replicate m.slots.length (.int .i64 0)) 3))) := ⟨h, b0⟩
  have HM : Hid ((((w.alloc (.cells #[.int .i64 m.guest, .slice ra m.root.length rc, .slice sa m.slots.length sc, .slice (some ⟨w.heap.size + 1 + 1, 0, none⟩) m.slots.length m.slots.length, .slice na m.snaps.length nc] 26)).alloc (.cells #[.int .i64 0, .slice none 0 0, .slice none 0 0, .slice none 0 0, .slice none 0 0] 26)).alloc (.cells (Array.replicate m.slots.length (.int .i64 0)) 3)).heap[w.heap.size]? = some (.cells #[.int .i64 m.guest, .slice ra m.root.length rc, .slice sa m.slots.length sc, .slice (some ⟨w.heap.size + 1 + 1, 0, none⟩) m.slots.length m.slots.length, .slice na m.snaps.length nc] 26) ∧ (((w.alloc (.cells #[.int .i64 m.guest, .slice ra m.root.length rc, .slice sa m.slots.length sc, .slice (some ⟨w.heap.size + 1 + 1, 0, none⟩) m.slots.length m.slots.length, .slice na m.snaps.length nc] 26)).alloc (.cells #[.int .i64 0, .slice none 0 0, .slice none 0 0, .slice none 0 0, .slice none 0 0] 26)).alloc (.cells (Array.replicate m.slots.length (.int .i64 0)) 3)).heap[w.heap.size + 1]? = some (.cells #[.int .i64 0, .slice none 0 0, .slice none 0 0, .slice none 0 0, .slice none 0 0] 26) ∧ (((w.alloc (.cells #[.int .i64 m.guest, .slice ra m.root.length rc, .slice sa m.slots.length sc, .slice (some ⟨w.heap.size + 1 + 1, 0, none⟩) m.slots.length m.slots.length, .slice na m.snaps.length nc] 26)).alloc (.cells #[.int .i64 0, .slice none 0 0, .slice none 0 0, .slice none 0 0, .slice none 0 0] 26)).alloc (.cells (Array.replicate m.slots.length (.int .i64 0)) 3)).heap.size = w.heap.size + 3) := ⟨m0, m1, hz⟩
  have HCn := Hid_mkJ (show Calls Try.prog 47 #[.agg #[.int .i64 m.guest, .slice ra m.root.length rc, .slice sa m.slots.length sc, .slice (some ⟨w.heap.size + 1 + 1, 0, none⟩) m.slots.length m.slots.length, .slice na m.snaps.length nc]] (((w.alloc (.cells #[.int .i64 m.guest, .slice ra m.root.length rc, .slice sa m.slots.length sc, .slice (some ⟨w.heap.size + 1 + 1, 0, none⟩) m.slots.length m.slots.length, .slice na m.snaps.length nc] 26)).alloc (.cells #[.int .i64 0, .slice none 0 0, .slice none 0 0, .slice none 0 0, .slice none 0 0] 26)).alloc (.cells (Array.replicate m.slots.length (.int .i64 0)) 3)) fun e w' => (∃ g, (((w.alloc (.cells #[.int .i64 m.guest, .slice ra m.root.length rc, .slice sa m.slots.length sc, .slice (some ⟨w.heap.size + 1 + 1, 0, none⟩) m.slots.length m.slots.length, .slice na m.snaps.length nc] 26)).alloc (.cells #[.int .i64 0, .slice none 0 0, .slice none 0 0, .slice none 0 0, .slice none 0 0] 26)).alloc (.cells (Array.replicate m.slots.length (.int .i64 0)) 3)).heap.size ≤ g ∧ e = .returned (.tuple #[.slice (some ⟨g, 0, none⟩) m.slots.length m.slots.length, .int .i64 0]) ∧ LAt w' g (cntL m)) ∧ Below (((w.alloc (.cells #[.int .i64 m.guest, .slice ra m.root.length rc, .slice sa m.slots.length sc, .slice (some ⟨w.heap.size + 1 + 1, 0, none⟩) m.slots.length m.slots.length, .slice na m.snaps.length nc] 26)).alloc (.cells #[.int .i64 0, .slice none 0 0, .slice none 0 0, .slice none 0 0, .slice none 0 0] 26)).alloc (.cells (Array.replicate m.slots.length (.int .i64 0)) 3)).heap.size (((w.alloc (.cells #[.int .i64 m.guest, .slice ra m.root.length rc, .slice sa m.slots.length sc, .slice (some ⟨w.heap.size + 1 + 1, 0, none⟩) m.slots.length m.slots.length, .slice na m.snaps.length nc] 26)).alloc (.cells #[.int .i64 0, .slice none 0 0, .slice none 0 0, .slice none 0 0, .slice none 0 0] 26)).alloc (.cells (Array.replicate m.slots.length (.int .i64 0)) 3)) w' from (by have h9 := counts_own (m := wzer m) hI2 hE; exact h9))
  clear hI2 m0 m1 m2 b0 h hz
  go_enter Try.func42, Try.ntmps42
  go_wp2_with fail
  refine HCn.out.mono ?_
  rintro e w3 ⟨⟨g, hg, rfl, hL⟩, b3⟩
  have s3 := b3.size
  rw [HM.out.2.2] at s3
  have n0 := cells_below HM.out.1 b3 (by rw [HM.out.2.2]; omega)
  have n1 := cells_below HM.out.2.1 b3 (by rw [HM.out.2.2]; omega)
  have HB3 := Hid_mkJ (Below.on HI.out.2 b3)
  rw [HM.out.2.2] at hg
  have hgP : g ≠ w.heap.size := by omega
  obtain ⟨c0, c1, c2, c3, c4⟩ := five n0
  have f3 := cells_frozen n0 3
  obtain ⟨w4, hw4⟩ : ∃ X, w3.setCell ⟨w.heap.size, 3, none⟩ (.slice (some ⟨g, 0, none⟩) m.slots.length m.slots.length) = X := ⟨_, rfl⟩
  have HB4 := Hid_mkJ (show Below w.heap.size w w4 by rw [← hw4]; exact HB3.out.setCell (p := ⟨w.heap.size, 3, none⟩) (Nat.le_refl _) _)
  have o0 : w4.heap[w.heap.size]? = some (.cells #[.int .i64 m.guest, .slice ra m.root.length rc, .slice sa m.slots.length sc, .slice (some ⟨g, 0, none⟩) m.slots.length m.slots.length, .slice na m.snaps.length nc] 26) := by rw [← hw4]; exact cells_set n0 3 _
  have o1 : w4.heap[w.heap.size + 1]? = some (.cells #[.int .i64 0, .slice none 0 0, .slice none 0 0, .slice none 0 0, .slice none 0 0] 26) := by rw [← hw4]; exact (Below.heap_setCell _ ⟨w.heap.size, 3, none⟩ _ _ (by show w.heap.size + 1 ≠ w.heap.size; omega)).trans n1
  have hL4 : LAt w4 g (cntL m) := by rw [← hw4]; exact (Below.heap_setCell _ ⟨w.heap.size, 3, none⟩ _ _ hgP).trans hL
  have hI4 : Img w4 (.agg #[.int .i64 m.guest, .slice ra m.root.length rc, .slice sa m.slots.length sc, .slice (some ⟨g, 0, none⟩) m.slots.length m.slots.length, .slice na m.snaps.length nc]) (wcnt m) := img_refs HI.out.1 HB4.out (LAt.sl hL4 (cntL_length m) (by unfold maxLen; omega))
  have HCk := Hid_mkJ (tcheck_is hI4 hC)
  have hl4 := hL4.lt
  have HW4 := Hid_mkJ hw4
  obtain ⟨d0, d1, d2, d3, d4⟩ := five o0
  have HO := Hid_mkJ (And.intro o0 (And.intro o1 hL4))
  clear b3 n0 n1 HCn hmk hL hw4 o0 o1 hL4 hI4
  go_upto_region 4 with fail
  rw [HW4.out]
  clear c0 c1 c2 c3 c4 f3
  go_wp2_with (go_at_call 18; refine HCk.out.mono ?_; rintro e w5 ⟨rfl, b5⟩; have p0 := cells_below HO.out.1 b5 (Array.getElem?_eq_some_iff.1 HO.out.1).1; have p1 := cells_below HO.out.2.1 b5 (Array.getElem?_eq_some_iff.1 HO.out.2.1).1; have HB5 := Hid_mkJ (Below.on HB4.out b5); have HG := Hid_mkJ (And.intro (show LAt w5 g (cntL m) from (b5.block g hl4).trans HO.out.2.2) hg); clear b5; obtain ⟨z0, z1, z2, z3, z4⟩ := five p1; have y0 := cells_frozen p1 0; have y1 := cells_frozen p1 1; have y2 := cells_frozen p1 2; have y3 := cells_frozen p1 3; have y4 := cells_frozen p1 4; obtain ⟨q0, q1, q2, q3, q4⟩ := five p0)
  refine bodyPost_ret (v := .tuple #[.agg #[.int .i64 0, .slice none 0 0, .slice none 0 0, .slice none 0 0, .slice none 0 0], .int .i64 1]) (by simp [results, Try.results42, go_sem, z0, z1, z2, z3, z4]) rfl ⟨none, 0, none, 0, none, 0, none, 0, rfl, (OI.zero _ 0).img, ?_⟩
  have i1 : w.heap.size ≤ w.heap.size + 1 := Nat.le_succ _
  first
    | exact (((((HB5.out).setCell i1 _).setCell i1 _).setCell i1 _).setCell i1 _).setCell i1 _
    | exact HB5.out
set_option maxHeartbeats 4000000 in
theorem counted_yes (ra : Option Addr) (rc : Nat) (sa : Option Addr) (sc : Nat) (fa : Option Addr) (fc : Nat) (na : Option Addr) (nc : Nat) (m : ImgD) (w : World) (h : Img w (.agg #[.int .i64 m.guest, .slice ra m.root.length rc, .slice sa m.slots.length sc, .slice fa m.refs.length fc, .slice na m.snaps.length nc]) m) (hs9 : m.slots.length ≤ 1000) (hE : shapeE (wzer m) = 0) (hC : checkE (wcnt m) = 0) :
    Calls Try.prog 42 #[.agg #[.int .i64 m.guest, .slice ra m.root.length rc, .slice sa m.slots.length sc, .slice fa m.refs.length fc, .slice na m.snaps.length nc]] w (AnsC w m ra rc sa sc na nc) := by
  have hmk : ∀ W, (Instr.makeSlice 22 (.int .i64 (m.slots.length : Int)) (.int .i64 (m.slots.length : Int))).run Try.prog W = .ok (.slice (some ⟨W.heap.size, 0, none⟩) m.slots.length m.slots.length) (W.alloc (.cells (Array.replicate m.slots.length (.int .i64 0)) 3)) := fun W => by have := mk_intsR m.slots.length hs9 W; simpa using this
  have b0 : Below w.heap.size w (((w.alloc (.cells #[.int .i64 m.guest, .slice ra m.root.length rc, .slice sa m.slots.length sc, .slice (some ⟨w.heap.size + 1 + 1, 0, none⟩) m.slots.length m.slots.length, .slice na m.snaps.length nc] 26)).alloc (.cells #[.int .i64 0, .slice none 0 0, .slice none 0 0, .slice none 0 0, .slice none 0 0] 26)).alloc (.cells (Array.replicate m.slots.length (.int .i64 0)) 3)) := (((Below.refl _ _).alloc (Nat.le_refl _) _).alloc (by simp) _).alloc (by simp; omega) _
  have m0 : (((w.alloc (.cells #[.int .i64 m.guest, .slice ra m.root.length rc, .slice sa m.slots.length sc, .slice (some ⟨w.heap.size + 1 + 1, 0, none⟩) m.slots.length m.slots.length, .slice na m.snaps.length nc] 26)).alloc (.cells #[.int .i64 0, .slice none 0 0, .slice none 0 0, .slice none 0 0, .slice none 0 0] 26)).alloc (.cells (Array.replicate m.slots.length (.int .i64 0)) 3)).heap[w.heap.size]? = some (.cells #[.int .i64 m.guest, .slice ra m.root.length rc, .slice sa m.slots.length sc, .slice (some ⟨w.heap.size + 1 + 1, 0, none⟩) m.slots.length m.slots.length, .slice na m.snaps.length nc] 26) := cells_alloc (cells_alloc (World.alloc_heap_new _ _) _) _
  have m1 : (((w.alloc (.cells #[.int .i64 m.guest, .slice ra m.root.length rc, .slice sa m.slots.length sc, .slice (some ⟨w.heap.size + 1 + 1, 0, none⟩) m.slots.length m.slots.length, .slice na m.snaps.length nc] 26)).alloc (.cells #[.int .i64 0, .slice none 0 0, .slice none 0 0, .slice none 0 0, .slice none 0 0] 26)).alloc (.cells (Array.replicate m.slots.length (.int .i64 0)) 3)).heap[w.heap.size + 1]? = some (.cells #[.int .i64 0, .slice none 0 0, .slice none 0 0, .slice none 0 0, .slice none 0 0] 26) := cells_alloc (by have := World.alloc_heap_new (w.alloc (.cells #[.int .i64 m.guest, .slice ra m.root.length rc, .slice sa m.slots.length sc, .slice (some ⟨w.heap.size + 1 + 1, 0, none⟩) m.slots.length m.slots.length, .slice na m.snaps.length nc] 26)) (.cells #[.int .i64 0, .slice none 0 0, .slice none 0 0, .slice none 0 0, .slice none 0 0] 26); simpa using this) _
  have m2 : (((w.alloc (.cells #[.int .i64 m.guest, .slice ra m.root.length rc, .slice sa m.slots.length sc, .slice (some ⟨w.heap.size + 1 + 1, 0, none⟩) m.slots.length m.slots.length, .slice na m.snaps.length nc] 26)).alloc (.cells #[.int .i64 0, .slice none 0 0, .slice none 0 0, .slice none 0 0, .slice none 0 0] 26)).alloc (.cells (Array.replicate m.slots.length (.int .i64 0)) 3)).heap[w.heap.size + 1 + 1]? = some (.cells (Array.replicate m.slots.length (.int .i64 0)) 3) := by have := World.alloc_heap_new ((w.alloc (.cells #[.int .i64 m.guest, .slice ra m.root.length rc, .slice sa m.slots.length sc, .slice (some ⟨w.heap.size + 1 + 1, 0, none⟩) m.slots.length m.slots.length, .slice na m.snaps.length nc] 26)).alloc (.cells #[.int .i64 0, .slice none 0 0, .slice none 0 0, .slice none 0 0, .slice none 0 0] 26)) (.cells (Array.replicate m.slots.length (.int .i64 0)) 3); simpa using this
  have hI2 : Img (((w.alloc (.cells #[.int .i64 m.guest, .slice ra m.root.length rc, .slice sa m.slots.length sc, .slice (some ⟨w.heap.size + 1 + 1, 0, none⟩) m.slots.length m.slots.length, .slice na m.snaps.length nc] 26)).alloc (.cells #[.int .i64 0, .slice none 0 0, .slice none 0 0, .slice none 0 0, .slice none 0 0] 26)).alloc (.cells (Array.replicate m.slots.length (.int .i64 0)) 3)) (.agg #[.int .i64 m.guest, .slice ra m.root.length rc, .slice sa m.slots.length sc, .slice (some ⟨w.heap.size + 1 + 1, 0, none⟩) m.slots.length m.slots.length, .slice na m.snaps.length nc]) (wzer m) := img_refs h b0 (zer_sl (by rw [m2]; simp) hs9)
  have hz : (((w.alloc (.cells #[.int .i64 m.guest, .slice ra m.root.length rc, .slice sa m.slots.length sc, .slice (some ⟨w.heap.size + 1 + 1, 0, none⟩) m.slots.length m.slots.length, .slice na m.snaps.length nc] 26)).alloc (.cells #[.int .i64 0, .slice none 0 0, .slice none 0 0, .slice none 0 0, .slice none 0 0] 26)).alloc (.cells (Array.replicate m.slots.length (.int .i64 0)) 3)).heap.size = w.heap.size + 3 := by simp
  have HI : Hid (Img w (.agg #[.int .i64 m.guest, .slice ra m.root.length rc, .slice sa m.slots.length sc, .slice fa m.refs.length fc, .slice na m.snaps.length nc]) m ∧ Below w.heap.size w (((w.alloc (.cells #[.int .i64 m.guest, .slice ra m.root.length rc, .slice sa m.slots.length sc, .slice (some ⟨w.heap.size + 1 + 1, 0, none⟩) m.slots.length m.slots.length, .slice na m.snaps.length nc] 26)).alloc (.cells #[.int .i64 0, .slice none 0 0, .slice none 0 0, .slice none 0 0, .slice none 0 0] 26)).alloc (.cells (Array.replicate m.slots.length (.int .i64 0)) 3))) := ⟨h, b0⟩
  have HM : Hid ((((w.alloc (.cells #[.int .i64 m.guest, .slice ra m.root.length rc, .slice sa m.slots.length sc, .slice (some ⟨w.heap.size + 1 + 1, 0, none⟩) m.slots.length m.slots.length, .slice na m.snaps.length nc] 26)).alloc (.cells #[.int .i64 0, .slice none 0 0, .slice none 0 0, .slice none 0 0, .slice none 0 0] 26)).alloc (.cells (Array.replicate m.slots.length (.int .i64 0)) 3)).heap[w.heap.size]? = some (.cells #[.int .i64 m.guest, .slice ra m.root.length rc, .slice sa m.slots.length sc, .slice (some ⟨w.heap.size + 1 + 1, 0, none⟩) m.slots.length m.slots.length, .slice na m.snaps.length nc] 26) ∧ (((w.alloc (.cells #[.int .i64 m.guest, .slice ra m.root.length rc, .slice sa m.slots.length sc, .slice (some ⟨w.heap.size + 1 + 1, 0, none⟩) m.slots.length m.slots.length, .slice na m.snaps.length nc] 26)).alloc (.cells #[.int .i64 0, .slice none 0 0, .slice none 0 0, .slice none 0 0, .slice none 0 0] 26)).alloc (.cells (Array.replicate m.slots.length (.int .i64 0)) 3)).heap[w.heap.size + 1]? = some (.cells #[.int .i64 0, .slice none 0 0, .slice none 0 0, .slice none 0 0, .slice none 0 0] 26) ∧ (((w.alloc (.cells #[.int .i64 m.guest, .slice ra m.root.length rc, .slice sa m.slots.length sc, .slice (some ⟨w.heap.size + 1 + 1, 0, none⟩) m.slots.length m.slots.length, .slice na m.snaps.length nc] 26)).alloc (.cells #[.int .i64 0, .slice none 0 0, .slice none 0 0, .slice none 0 0, .slice none 0 0] 26)).alloc (.cells (Array.replicate m.slots.length (.int .i64 0)) 3)).heap.size = w.heap.size + 3) := ⟨m0, m1, hz⟩
  have HCn := Hid_mkJ (show Calls Try.prog 47 #[.agg #[.int .i64 m.guest, .slice ra m.root.length rc, .slice sa m.slots.length sc, .slice (some ⟨w.heap.size + 1 + 1, 0, none⟩) m.slots.length m.slots.length, .slice na m.snaps.length nc]] (((w.alloc (.cells #[.int .i64 m.guest, .slice ra m.root.length rc, .slice sa m.slots.length sc, .slice (some ⟨w.heap.size + 1 + 1, 0, none⟩) m.slots.length m.slots.length, .slice na m.snaps.length nc] 26)).alloc (.cells #[.int .i64 0, .slice none 0 0, .slice none 0 0, .slice none 0 0, .slice none 0 0] 26)).alloc (.cells (Array.replicate m.slots.length (.int .i64 0)) 3)) fun e w' => (∃ g, (((w.alloc (.cells #[.int .i64 m.guest, .slice ra m.root.length rc, .slice sa m.slots.length sc, .slice (some ⟨w.heap.size + 1 + 1, 0, none⟩) m.slots.length m.slots.length, .slice na m.snaps.length nc] 26)).alloc (.cells #[.int .i64 0, .slice none 0 0, .slice none 0 0, .slice none 0 0, .slice none 0 0] 26)).alloc (.cells (Array.replicate m.slots.length (.int .i64 0)) 3)).heap.size ≤ g ∧ e = .returned (.tuple #[.slice (some ⟨g, 0, none⟩) m.slots.length m.slots.length, .int .i64 0]) ∧ LAt w' g (cntL m)) ∧ Below (((w.alloc (.cells #[.int .i64 m.guest, .slice ra m.root.length rc, .slice sa m.slots.length sc, .slice (some ⟨w.heap.size + 1 + 1, 0, none⟩) m.slots.length m.slots.length, .slice na m.snaps.length nc] 26)).alloc (.cells #[.int .i64 0, .slice none 0 0, .slice none 0 0, .slice none 0 0, .slice none 0 0] 26)).alloc (.cells (Array.replicate m.slots.length (.int .i64 0)) 3)).heap.size (((w.alloc (.cells #[.int .i64 m.guest, .slice ra m.root.length rc, .slice sa m.slots.length sc, .slice (some ⟨w.heap.size + 1 + 1, 0, none⟩) m.slots.length m.slots.length, .slice na m.snaps.length nc] 26)).alloc (.cells #[.int .i64 0, .slice none 0 0, .slice none 0 0, .slice none 0 0, .slice none 0 0] 26)).alloc (.cells (Array.replicate m.slots.length (.int .i64 0)) 3)) w' from (by have h9 := counts_own (m := wzer m) hI2 hE; exact h9))
  clear hI2 m0 m1 m2 b0 h hz
  go_enter Try.func42, Try.ntmps42
  go_wp2_with fail
  refine HCn.out.mono ?_
  rintro e w3 ⟨⟨g, hg, rfl, hL⟩, b3⟩
  have s3 := b3.size
  rw [HM.out.2.2] at s3
  have n0 := cells_below HM.out.1 b3 (by rw [HM.out.2.2]; omega)
  have n1 := cells_below HM.out.2.1 b3 (by rw [HM.out.2.2]; omega)
  have HB3 := Hid_mkJ (Below.on HI.out.2 b3)
  rw [HM.out.2.2] at hg
  have hgP : g ≠ w.heap.size := by omega
  obtain ⟨c0, c1, c2, c3, c4⟩ := five n0
  have f3 := cells_frozen n0 3
  obtain ⟨w4, hw4⟩ : ∃ X, w3.setCell ⟨w.heap.size, 3, none⟩ (.slice (some ⟨g, 0, none⟩) m.slots.length m.slots.length) = X := ⟨_, rfl⟩
  have HB4 := Hid_mkJ (show Below w.heap.size w w4 by rw [← hw4]; exact HB3.out.setCell (p := ⟨w.heap.size, 3, none⟩) (Nat.le_refl _) _)
  have o0 : w4.heap[w.heap.size]? = some (.cells #[.int .i64 m.guest, .slice ra m.root.length rc, .slice sa m.slots.length sc, .slice (some ⟨g, 0, none⟩) m.slots.length m.slots.length, .slice na m.snaps.length nc] 26) := by rw [← hw4]; exact cells_set n0 3 _
  have o1 : w4.heap[w.heap.size + 1]? = some (.cells #[.int .i64 0, .slice none 0 0, .slice none 0 0, .slice none 0 0, .slice none 0 0] 26) := by rw [← hw4]; exact (Below.heap_setCell _ ⟨w.heap.size, 3, none⟩ _ _ (by show w.heap.size + 1 ≠ w.heap.size; omega)).trans n1
  have hL4 : LAt w4 g (cntL m) := by rw [← hw4]; exact (Below.heap_setCell _ ⟨w.heap.size, 3, none⟩ _ _ hgP).trans hL
  have hI4 : Img w4 (.agg #[.int .i64 m.guest, .slice ra m.root.length rc, .slice sa m.slots.length sc, .slice (some ⟨g, 0, none⟩) m.slots.length m.slots.length, .slice na m.snaps.length nc]) (wcnt m) := img_refs HI.out.1 HB4.out (LAt.sl hL4 (cntL_length m) (by unfold maxLen; omega))
  have HCk := Hid_mkJ (tcheck_is hI4 hC)
  have hl4 := hL4.lt
  have HW4 := Hid_mkJ hw4
  obtain ⟨d0, d1, d2, d3, d4⟩ := five o0
  have HO := Hid_mkJ (And.intro o0 (And.intro o1 hL4))
  clear b3 n0 n1 HCn hmk hL hw4 o0 o1 hL4 hI4
  go_upto_region 4 with fail
  rw [HW4.out]
  clear c0 c1 c2 c3 c4 f3
  go_wp2_with (go_at_call 18; refine HCk.out.mono ?_; rintro e w5 ⟨rfl, b5⟩; have p0 := cells_below HO.out.1 b5 (Array.getElem?_eq_some_iff.1 HO.out.1).1; have p1 := cells_below HO.out.2.1 b5 (Array.getElem?_eq_some_iff.1 HO.out.2.1).1; have HB5 := Hid_mkJ (Below.on HB4.out b5); have HG := Hid_mkJ (And.intro (show LAt w5 g (cntL m) from (b5.block g hl4).trans HO.out.2.2) hg); clear b5; obtain ⟨z0, z1, z2, z3, z4⟩ := five p1; have y0 := cells_frozen p1 0; have y1 := cells_frozen p1 1; have y2 := cells_frozen p1 2; have y3 := cells_frozen p1 3; have y4 := cells_frozen p1 4; obtain ⟨q0, q1, q2, q3, q4⟩ := five p0)
  have i1 : w.heap.size ≤ w.heap.size + 1 := Nat.le_succ _
  refine bodyPost_ret (v := .tuple #[.agg #[.int .i64 m.guest, .slice ra m.root.length rc, .slice sa m.slots.length sc, .slice (some ⟨g, 0, none⟩) m.slots.length m.slots.length, .slice na m.snaps.length nc], .int .i64 0]) (by simp [results, Try.results42, go_sem, z0, z1, z2, z3, z4]) rfl ⟨g, by have := HG.out.2; omega, rfl, ?_, ((((HB5.out.setCell i1 _).setCell i1 _).setCell i1 _).setCell i1 _).setCell i1 _⟩
  have hg1 : g ≠ w.heap.size + 1 := by have := HG.out.2; omega
  unfold LAt
  rw [Below.heap_setCell _ ⟨w.heap.size + 1, 4, none⟩ _ g hg1, Below.heap_setCell _ ⟨w.heap.size + 1, 3, none⟩ _ g hg1, Below.heap_setCell _ ⟨w.heap.size + 1, 2, none⟩ _ g hg1, Below.heap_setCell _ ⟨w.heap.size + 1, 1, none⟩ _ g hg1, Below.heap_setCell _ ⟨w.heap.size + 1, 0, none⟩ _ g hg1]
  exact HG.out.1
end Go.Proofs.Ytehleeibgkpjmag
/- What parsed defers: the panic of a reader is caught. -/
namespace Go.Proofs.Ytehleeibgkpjmag
open Go.RowKit Go.Shelf Go.Lib
set_option maxRecDepth 20000
set_option linter.unusedVariables false
set_option linter.unusedSimpArgs false

theorem pcatch_idle (p q : Addr) (w : World) :
    CallsD Try.prog 70 #[.pointer (some p), .pointer (some q)] .returning w fun e u' w' => e = .returned (.tuple #[]) ∧ u' = .returning ∧ w' = w := by
  refine callsD_of_wpS Try.func70 rfl fun c₀ cs hu => ?_
  apply wpS_seq
  apply wpS_region
  simp [wpOpsS, go_sem, recoverD, hu, Try.ntmps70, Exit.thenS]
  refine wpS_of_wp ?_
  simp only [Array.replicate_succ, Array.replicate_zero, List.push_toArray, List.append_toArray, List.nil_append, List.cons_append, List.setIfInBounds_toArray, List.set_cons_zero, List.set_cons_succ]
  go_wp2
  cases c₀
  simp_all [bodyPostS, results, Try.results70]
set_option maxHeartbeats 2000000 in
theorem pcatch_wrong (b c : Nat) (x0 x1 x2 x3 x4 y : Value) (older : List PanicEntry) (w : World) (hm : w.heap[b]? = some (.cells #[x0, x1, x2, x3, x4] 26)) (hc : w.heap[c]? = some (.cells #[y] 4)) (hbc : ¬ b = c) :
    CallsD Try.prog 70 #[.pointer (some ⟨b, 0, none⟩), .pointer (some ⟨c, 0, none⟩)] (.panicking ({ v := .iface 110 (.agg #[]), recovered := false } :: older)) w fun e u' w' =>
      e = .returned (.tuple #[]) ∧ u' = .panicking ({ v := .iface 110 (.agg #[]), recovered := true } :: older) ∧ w' = ((((((w.setCell ⟨b, 0, none⟩ (.int .i64 0)).setCell ⟨b, 1, none⟩ (.slice none 0 0)).setCell ⟨b, 2, none⟩ (.slice none 0 0)).setCell ⟨b, 3, none⟩ (.slice none 0 0)).setCell ⟨b, 4, none⟩ (.slice none 0 0)).setCell ⟨c, 0, none⟩ (.bool false)).alloc (.cells #[] 110) := by
  have hta : ∀ w, (Instr.typeAssert (.iface 110 (.agg #[])) 20 110 true).run Try.prog w = .ok (.tuple #[.agg #[], .bool true]) w := fun w => by kernel_rfl
  have hcb : ¬ c = b := fun e => hbc e.symm
  have lb := (Array.getElem?_eq_some_iff.1 hm).1
  have lc := (Array.getElem?_eq_some_iff.1 hc).1
  have nb : ¬ b = w.heap.size := by omega
  have nc : ¬ c = w.heap.size := by omega
  obtain ⟨m0, m1, m2, m3, m4⟩ := five hm
  have f0 := cells_frozen hm 0
  have f1 := cells_frozen hm 1
  have f2 := cells_frozen hm 2
  have f3 := cells_frozen hm 3
  have f4 := cells_frozen hm 4
  have c0 : w.cell? ⟨c, 0, none⟩ = some y := by simp [World.cell?, hc]
  have g0 := cells_frozen hc 0
  have hmA := cells_alloc hm (.cells #[] 110)
  obtain ⟨n0, n1, n2, n3, n4⟩ := five hmA
  have hcA := cells_alloc hc (.cells #[] 110)
  have d0 : (w.alloc (.cells #[] 110)).cell? ⟨c, 0, none⟩ = some y := by simp [World.cell?, hcA]
  clear hm hc hmA hcA
  refine callsD_of_wpS Try.func70 rfl fun c₀ cs hu => ?_
  apply wpS_seq
  apply wpS_region
  simp [wpOpsS, go_sem, recoverD, hu, Try.ntmps70, Exit.thenS]
  refine wpS_of_wp ?_
  simp only [Array.replicate_succ, Array.replicate_zero, List.push_toArray, List.append_toArray, List.nil_append, List.cons_append, List.setIfInBounds_toArray, List.set_cons_zero, List.set_cons_succ]
  go_wp2
  cases c₀
  simp_all [bodyPostS, results, Try.results70]
end Go.Proofs.Ytehleeibgkpjmag
/- Contract of firstEntries: a list of its own, the first n as they were, 0 behind. -/
namespace Go.Proofs.Ytehleeibgkpjmag
open Go.RowKit
end Go.Proofs.Ytehleeibgkpjmag
/- Contracts of With and Cut, and of the document's WithOf and CutOf: the same answers, each in a list of its own. -/
namespace Go.Proofs.Ytehleeibgkpjmag
open Go.RowKit
end Go.Proofs.Ytehleeibgkpjmag
/- Contracts of Cut, and of the document's WithOf and CutOf. -/
namespace Go.Proofs.Ytehleeibgkpjmag
open Go.RowKit
end Go.Proofs.Ytehleeibgkpjmag
/- Contract of SameInts. -/
namespace Go.Proofs.Ytehleeibgkpjmag
open Go.RowKit
set_option maxRecDepth 20000

theorem same_at (ao bo : Option Addr) (n cap cap' : Nat) (xs : List Int) (w : World) (hn : xs.length = n) (hm : n ≤ 9223372036854775807)
    (hc : ∀ j, j < n → ∃ b off, ao = some ⟨b, off, none⟩ ∧ b < w.heap.size ∧ w.cell? ⟨b, off + j, none⟩ = some (.int .i64 (xs.getD j 0)))
    (hd : ∀ j, j < n → ∃ b off, bo = some ⟨b, off, none⟩ ∧ b < w.heap.size ∧ w.cell? ⟨b, off + j, none⟩ = some (.int .i64 (xs.getD j 0))) :
    Calls Try.prog 33 #[.slice ao n cap, .slice bo n cap'] w fun r w' => r = .returned (.bool true) ∧ Below w.heap.size w w' := by
  have HC : Hid (∀ j, j < n → ∃ b off, ao = some ⟨b, off, none⟩ ∧ b < w.heap.size ∧ w.cell? ⟨b, off + j, none⟩ = some (.int .i64 (xs.getD j 0))) := hc
  have HD : Hid (∀ j, j < n → ∃ b off, bo = some ⟨b, off, none⟩ ∧ b < w.heap.size ∧ w.cell? ⟨b, off + j, none⟩ = some (.int .i64 (xs.getD j 0))) := hd
  clear hc hd
  have HN : Hid (xs.length = n) := hn
  clear hn
  go_enter Try.func33, Try.ntmps33
  go_wp2
  go_loopw [5] (fun i wr => ∃ k : Nat, k ≤ n ∧ i = .int .i64 k ∧ Below w.heap.size w wr) (fun i _ => n - (intOf i).toNat)
  case atStart => exact ⟨0, by omega, rfl, Below.refl _ _⟩
  case round =>
    obtain ⟨k, hk, rfl, hbel⟩ := hrel
    by_cases hlt : k < n
    · obtain ⟨x, hx⟩ : ∃ x, xs.getD k 0 = x := ⟨_, rfl⟩
      obtain ⟨b, off, hao, hl1, hck⟩ := HC.out k hlt
      obtain ⟨b', off', hbo, hl2, hck'⟩ := HD.out k hlt
      rw [hx] at hck hck'
      clear hx
      have g1 : wr.cell? ⟨b, off + k, none⟩ = some (.int .i64 x) := (hbel.cell (p := ⟨b, off + k, none⟩) hl1).trans hck
      have g2 : wr.cell? ⟨b', off' + k, none⟩ = some (.int .i64 x) := (hbel.cell (p := ⟨b', off' + k, none⟩) hl2).trans hck'
      have i1 : (k : Int) < (n : Int) := by omega
      go_wp2
      go_quiet (fail)
      go_wp2
      go_roundw
      case rel => exact ⟨k + 1, by omega, by go_num, below_drewN hbel _⟩
      case measure => simp [intOf]; omega
    · have e4 : k = n := by omega
      subst e4
      go_wp2
      go_ret
      exact ⟨rfl, hbel⟩
theorem same_any {v u : Value} {xs : List Int} {w : World} (h : Sl w v xs) (k : Sl w u xs) :
    Calls Try.prog 33 #[v, u] w fun r w' => r = .returned (.bool true) ∧ Below w.heap.size w w' := by
  obtain ⟨ao, cap, rfl⟩ := h.form
  obtain ⟨bo, cap', rfl⟩ := k.form
  obtain ⟨hn, hm, _, hc⟩ := h.cells
  obtain ⟨_, _, _, hd⟩ := k.cells
  exact same_at ao bo _ cap cap' xs w hn hm hc hd

end Go.Proofs.Ytehleeibgkpjmag
/- Contract of the document's lay, of an image as the document makes it. -/
namespace Go.Proofs.Ytehleeibgkpjmag
open Go.RowKit Go.Shelf
end Go.Proofs.Ytehleeibgkpjmag
/- Contract of the document's counted, of an image as the document makes it. -/
namespace Go.Proofs.Ytehleeibgkpjmag
open Go.RowKit Go.Shelf
end Go.Proofs.Ytehleeibgkpjmag
/- Contracts of the document's GrabOf, UsedOf. -/
namespace Go.Proofs.Ytehleeibgkpjmag
open Go.RowKit
end Go.Proofs.Ytehleeibgkpjmag
/- Contract of the document's tabled: a table is stored. -/
namespace Go.Proofs.Ytehleeibgkpjmag
open Go.RowKit Go.Shelf
end Go.Proofs.Ytehleeibgkpjmag
/- tabled, its ways joined. -/
namespace Go.Proofs.Ytehleeibgkpjmag
open Go.RowKit Go.Shelf
end Go.Proofs.Ytehleeibgkpjmag
/- Contract of the document's tabled, of an image as the document makes it. -/
namespace Go.Proofs.Ytehleeibgkpjmag
open Go.RowKit Go.Shelf
end Go.Proofs.Ytehleeibgkpjmag
/- Flat images, plainly: what Read, Write and Resize answer, over lists of pages. -/
namespace Go.Proofs.Ytehleeibgkpjmag
open Go.RowKit
end Go.Proofs.Ytehleeibgkpjmag
/- Resizing: what comes is right, and how it is read; the answers of Write, Wipe, Punch, Resize. Plain lists. -/
namespace Go.Proofs.Ytehleeibgkpjmag
open Go.RowKit Go.Shelf
end Go.Proofs.Ytehleeibgkpjmag
/- What Write, Wipe, Punch and Resize answer, plain: it is right, how much greater it is, and how it is read. -/
namespace Go.Proofs.Ytehleeibgkpjmag
open Go.RowKit Go.Shelf
set_option maxRecDepth 20000


end Go.Proofs.Ytehleeibgkpjmag
/- Contract of settled: the counts are told, and what nothing tells is free. -/
namespace Go.Proofs.Ytehleeibgkpjmag
open Go.RowKit Go.Shelf
end Go.Proofs.Ytehleeibgkpjmag
/- Contract of copied: the walk. -/
namespace Go.Proofs.Ytehleeibgkpjmag
open Go.RowKit Go.Shelf
theorem row_mono {W : World} {B B' n size : Nat} {e : TypeId} {v : Value} {xs : List Value} (h : W.ownsRow B e size v n xs) (hB : B' ≤ B) : W.ownsRow B' e size v n xs := by
  refine ⟨h.1, ?_⟩
  rcases h.2 with hn | ⟨g, cap, cur, hv, hb', rest⟩
  · exact .inl hn
  · exact .inr ⟨g, cap, cur, hv, Nat.le_trans hB hb', rest⟩

theorem OI.mono {W : World} {B B' : Nat} {val : Nm → Value} {m : ImgD} (h : OI W B val m) (hB : B' ≤ B) : OI W B' val m := ⟨fun a ha => row_mono (h.row a ha) hB, h.apart⟩
structure CpR (w wr : World) (m : ImgD) (tv qv : Nat → Value) (va vb vc vd : Value) (k l : Nat) : Prop where
  own : ∃ val, HC wr (w.heap.size + 2) val m tv qv k l ∧ val .root = va ∧ val .slots = vb ∧ val .refs = vc ∧ val .snaps = vd
  box : wr.heap[w.heap.size]? = some (.cells #[.int .i64 m.guest, va, vb, vc, vd] 26)
  res : wr.heap[w.heap.size + 1]? = some (.cells #[.int .i64 0, .slice none 0 0, .slice none 0 0, .slice none 0 0, .slice none 0 0] 26)
  bel : Below w.heap.size w wr
theorem CpR.below {w wr wr' : World} {m : ImgD} {tv qv : Nat → Value} {va vb vc vd : Value} {k l : Nat} (h : CpR w wr m tv qv va vb vc vd k l) (hb : Below wr.heap.size wr wr') : CpR w wr' m tv qv va vb vc vd k l := by
  obtain ⟨⟨val, hH, e⟩, h1, h2, h3⟩ := h
  exact ⟨⟨val, hH.below hb, e⟩, cells_below h1 hb (Array.getElem?_eq_some_iff.1 h1).1, cells_below h2 hb (Array.getElem?_eq_some_iff.1 h2).1, Below.on h3 hb⟩
theorem CpR.tab {w wr wr' : World} {m : ImgD} {tv qv : Nat → Value} {va vc vd v : Value} {k l g n cap : Nat} (h : CpR w wr m tv qv va (.slice (some ⟨g, 0, none⟩) n cap) vc vd k l) (hb : Below wr.heap.size wr wr') (hr : wr'.ownsRow wr.heap.size 3 1 v (m.slots.getD k default).2.2.length (ints (m.slots.getD k default).2.2)) : CpR w (wr'.setCell ⟨g, k * 3 + 2, none⟩ v) m tv qv va (.slice (some ⟨g, 0, none⟩) n cap) vc vd (k + 1) l := by
  have hk := h.below hb
  obtain ⟨⟨val, hH, e0, e1, e2, e3⟩, h1, h2, h3⟩ := h
  obtain ⟨_, k1, k2, k3⟩ := hk
  have hg := (hH.row .slots (.inl ⟨by decide, rfl⟩)).lt g (by rw [e1]; rfl)
  have hsz : w.heap.size + 2 ≤ wr.heap.size := (Array.getElem?_eq_some_iff.1 h2).1
  refine ⟨⟨upd val (.tab k) v, (hH.below hb).tab e1 (row_mono hr hsz) (fun a ha q hq x => ?_), (upd_other _ _ (by intro x; cases x)).trans e0, (upd_other _ _ (by intro x; cases x)).trans e1, (upd_other _ _ (by intro x; cases x)).trans e2, (upd_other _ _ (by intro x; cases x)).trans e3⟩, cells_other k1 (by omega) _ _, cells_other k2 (by omega) _ _, k3.setCell (by show _ ≤ g; omega) _⟩
  have x1 := ((hH.row a ha).lt q x).2
  have x2 := (hr.lt q hq).1
  omega
theorem CpR.sr {w wr wr' : World} {m : ImgD} {tv qv : Nat → Value} {va vb vc v : Value} {k l g n cap : Nat} (h : CpR w wr m tv qv va vb vc (.slice (some ⟨g, 0, none⟩) n cap) k l) (hb : Below wr.heap.size wr wr') (hr : wr'.ownsRow wr.heap.size 3 1 v (m.snaps.getD l default).2.2.length (ints (m.snaps.getD l default).2.2)) : CpR w (wr'.setCell ⟨g, l * 3 + 2, none⟩ v) m tv qv va vb vc (.slice (some ⟨g, 0, none⟩) n cap) k (l + 1) := by
  have hk := h.below hb
  obtain ⟨⟨val, hH, e0, e1, e2, e3⟩, h1, h2, h3⟩ := h
  obtain ⟨_, k1, k2, k3⟩ := hk
  have hg := (hH.row .snaps (.inl ⟨by decide, rfl⟩)).lt g (by rw [e3]; rfl)
  have hsz : w.heap.size + 2 ≤ wr.heap.size := (Array.getElem?_eq_some_iff.1 h2).1
  refine ⟨⟨upd val (.sr l) v, (hH.below hb).sr e3 (row_mono hr hsz) (fun a ha q hq x => ?_), (upd_other _ _ (by intro x; cases x)).trans e0, (upd_other _ _ (by intro x; cases x)).trans e1, (upd_other _ _ (by intro x; cases x)).trans e2, (upd_other _ _ (by intro x; cases x)).trans e3⟩, cells_other k1 (by omega) _ _, cells_other k2 (by omega) _ _, k3.setCell (by show _ ≤ g; omega) _⟩
  have x1 := ((hH.row a ha).lt q x).2
  have x2 := (hr.lt q hq).1
  omega

end Go.Proofs.Ytehleeibgkpjmag
/- Contract of Of: a copy is turned, and settled; where no slot is left, the panic is caught. -/
namespace Go.Proofs.Ytehleeibgkpjmag
open Go.RowKit Go.Shelf
def ofM (o : Option ImgD) : ImgD := match o with | none => imgZ | some M => if shapeE M = 0 then countedD M else imgZ
end Go.Proofs.Ytehleeibgkpjmag
/- Contract of Take: a slot is grabbed and laid, or there is none. -/
namespace Go.Proofs.Ytehleeibgkpjmag
open Go.RowKit Go.Shelf
end Go.Proofs.Ytehleeibgkpjmag
/- Take: a slot is put behind all. -/
namespace Go.Proofs.Ytehleeibgkpjmag
open Go.RowKit Go.Shelf
set_option maxRecDepth 20000

abbrev z3 : List Value := [.int .i64 0, .string ⟨#[]⟩, .slice none 0 0]
abbrev z1 : List Value := [.int .i64 0]
structure TkI (w1 : World) (B : Nat) (sv0 fv0 : Value) (n : Nat) (xs ys : List Value) (sv fv : Value) (cS cR : Bool) (W : World) : Prop where
  bel : Below B w1 W
  bB : B ≤ w1.heap.size
  s : W.ownsRow B 60 3 sv (if cS then n + 1 else n) (if cS then xs ++ z3 else xs)
  r : W.ownsRow B 3 1 fv (if cR then n + 1 else n) (if cR then ys ++ z1 else ys)
  keep : ∀ q, q < w1.heap.size → sv0.ownBlock ≠ some q → fv0.ownBlock ≠ some q → W.heap[q]? = w1.heap[q]?
  sb : sv.ownBlock = sv0.ownBlock ∨ ∀ g, sv.ownBlock = some g → w1.heap.size ≤ g
  fb : fv.ownBlock = fv0.ownBlock ∨ ∀ g, fv.ownBlock = some g → w1.heap.size ≤ g
  ap : ∀ g, sv.ownBlock = some g → fv.ownBlock ≠ some g
theorem TkI.alloc {w1 : World} {B : Nat} {sv0 fv0 : Value} {n : Nat} {xs ys : List Value} {sv fv : Value} {cS cR : Bool} {W : World} (h : TkI w1 B sv0 fv0 n xs ys sv fv cS cR W) (o : Obj) : TkI w1 B sv0 fv0 n xs ys sv fv cS cR (W.alloc o) :=
  ⟨h.bel.alloc (Nat.le_trans h.bB h.bel.size) o, h.bB, h.s.alloc o, h.r.alloc o, fun q hq h1 h2 => (Below.heap_alloc W o q (Nat.lt_of_lt_of_le hq h.bel.size)).trans (h.keep q hq h1 h2), h.sb, h.fb, h.ap⟩
theorem TkI.drew {w1 : World} {B : Nat} {sv0 fv0 : Value} {n : Nat} {xs ys : List Value} {sv fv : Value} {cS cR : Bool} {W : World} (h : TkI w1 B sv0 fv0 n xs ys sv fv cS cR W) : TkI w1 B sv0 fv0 n xs ys sv fv cS cR W.drew :=
  ⟨h.bel.drew, h.bB, h.s.drew, h.r.drew, h.keep, h.sb, h.fb, h.ap⟩
end Go.Proofs.Ytehleeibgkpjmag
/- Take: both rows have been put one behind, and the desk tells so. -/
namespace Go.Proofs.Ytehleeibgkpjmag
open Go.RowKit Go.Shelf
end Go.Proofs.Ytehleeibgkpjmag
/- Take: the walk where a slot is put behind all. -/
namespace Go.Proofs.Ytehleeibgkpjmag
open Go.RowKit Go.Shelf
end Go.Proofs.Ytehleeibgkpjmag
/- Contracts of what is done on a desk: entries, lay, put. -/
namespace Go.Proofs.Ytehleeibgkpjmag
open Go.RowKit Go.Shelf


end Go.Proofs.Ytehleeibgkpjmag
/- Contracts of what is done on a desk: lay, put. -/
namespace Go.Proofs.Ytehleeibgkpjmag
open Go.RowKit Go.Shelf
end Go.Proofs.Ytehleeibgkpjmag
/- Contracts of what is done on a desk: Take, all ways. -/
namespace Go.Proofs.Ytehleeibgkpjmag
open Go.RowKit Go.Shelf
set_option maxRecDepth 20000


end Go.Proofs.Ytehleeibgkpjmag
/- Contracts of what is done on a desk: lay that finds no slot. -/
namespace Go.Proofs.Ytehleeibgkpjmag
open Go.RowKit Go.Shelf
end Go.Proofs.Ytehleeibgkpjmag
/- What the program makes on its desk is what the document asks: the plain part. -/
namespace Go.Proofs.Ytehleeibgkpjmag
open Go.RowKit Go.Shelf
set_option maxRecDepth 20000

structure Kin (a b : ImgD) : Prop where
  guest : a.guest = b.guest
  root : a.root = b.root
  slots : a.slots = b.slots
  snaps : a.snaps = b.snaps
  refs : a.refs.length = b.refs.length
theorem Kin.roots {a b : ImgD} (h : Kin a b) : rootsOf a = rootsOf b := by unfold rootsOf; rw [h.guest, h.root, h.snaps]
theorem Kin.shape {a b : ImgD} (h : Kin a b) : shapeE a = shapeE b := by
  unfold shapeE
  rw [h.roots, h.slots, h.snaps, h.refs]
structure Meets (o p : Option ImgD) : Prop where
  none : o = none → p = none
  some : ∀ M, o = some M → shapeE M = 0 ∧ p = some (countedD M)
theorem Meets.m {o p : Option ImgD} (h : Meets o p) : ofM o = p.getD imgZ := by
  cases ho : o with
  | none => rw [h.none ho]; rfl
  | some M =>
    obtain ⟨h1, h2⟩ := h.some M ho
    rw [h2]
    unfold ofM
    dsimp only
    rw [if_pos h1]
    rfl
end Go.Proofs.Ytehleeibgkpjmag
/- What the program writes on its desk is what the document asks: the plain part of Write. -/
namespace Go.Proofs.Ytehleeibgkpjmag
open Go.RowKit Go.Shelf
end Go.Proofs.Ytehleeibgkpjmag
/- Contracts of what is done on a desk: lay, all ways; put; vacate's closure. -/
namespace Go.Proofs.Ytehleeibgkpjmag
open Go.RowKit Go.Shelf
end Go.Proofs.Ytehleeibgkpjmag
/- What the two turns of a page's table need of the image: plain. -/
namespace Go.Proofs.Ytehleeibgkpjmag
open Go.RowKit Go.Shelf
end Go.Proofs.Ytehleeibgkpjmag
/- Contracts of writing: Write's closure. -/
namespace Go.Proofs.Ytehleeibgkpjmag
open Go.RowKit Go.Shelf
end Go.Proofs.Ytehleeibgkpjmag
/- Contracts of writing: Write's closure, in place; joined. -/
namespace Go.Proofs.Ytehleeibgkpjmag
open Go.RowKit Go.Shelf
end Go.Proofs.Ytehleeibgkpjmag
/- Contracts of mending: Repair and Leaks. -/
namespace Go.Proofs.Ytehleeibgkpjmag
open Go.RowKit Go.Shelf
theorem AnsI.open {w w' : World} {B : Nat} {m : ImgD} {err : Int} {r : Ending} (h : AnsI w B m err r w') : ∃ val ra rc sa sc fa fc na nc, r = .returned (.tuple #[.agg #[.int .i64 m.guest, .slice ra m.root.length rc, .slice sa m.slots.length sc, .slice fa m.refs.length fc, .slice na m.snaps.length nc], .int .i64 err]) ∧ OI w' B val m ∧ Below B w w' ∧ imgV m.guest val = .agg #[.int .i64 m.guest, .slice ra m.root.length rc, .slice sa m.slots.length sc, .slice fa m.refs.length fc, .slice na m.snaps.length nc] := by
  obtain ⟨val, rfl, hO, hb⟩ := h
  obtain ⟨ra, rc, e0, _⟩ := hO.forms .root (Live.root m)
  obtain ⟨sa, sc, e1, _⟩ := hO.forms .slots (Live.slots m)
  obtain ⟨fa, fc, e2, _⟩ := hO.forms .refs (Live.refs m)
  obtain ⟨na, nc, e3, _⟩ := hO.forms .snaps (Live.snaps m)
  have e : imgV m.guest val = .agg #[.int .i64 m.guest, .slice ra m.root.length rc, .slice sa m.slots.length sc, .slice fa m.refs.length fc, .slice na m.snaps.length nc] := by
    unfold imgV
    rw [e0, e1, e2, e3]
    rfl
  exact ⟨val, ra, rc, sa, sc, fa, fc, na, nc, by rw [e], hO, hb, e⟩


end Go.Proofs.Ytehleeibgkpjmag
/- Contracts of writing: vacate, Wipe, Punch. -/
namespace Go.Proofs.Ytehleeibgkpjmag
open Go.RowKit Go.Shelf
end Go.Proofs.Ytehleeibgkpjmag
/- Contract of slots.Check. -/
namespace Go.Proofs.Ytehleeibgkpjmag
open Go.RowKit
end Go.Proofs.Ytehleeibgkpjmag
/- Contracts of writing: Write. -/
namespace Go.Proofs.Ytehleeibgkpjmag
open Go.RowKit Go.Shelf
end Go.Proofs.Ytehleeibgkpjmag
/- Contracts of writing: Wipe, Punch. -/
namespace Go.Proofs.Ytehleeibgkpjmag
open Go.RowKit Go.Shelf
end Go.Proofs.Ytehleeibgkpjmag
/- What the program resizes on its desk is what the document asks: the plain part of Resize. -/
namespace Go.Proofs.Ytehleeibgkpjmag
open Go.RowKit Go.Shelf
end Go.Proofs.Ytehleeibgkpjmag
/- Contracts of writing: slices.Equal at entries, Cut with its row, cut. -/
namespace Go.Proofs.Ytehleeibgkpjmag
open Go.RowKit Go.Shelf
end Go.Proofs.Ytehleeibgkpjmag
/- Contracts of writing: Resize. -/
namespace Go.Proofs.Ytehleeibgkpjmag
open Go.RowKit Go.Shelf
end Go.Proofs.Ytehleeibgkpjmag
/- Contracts of writing: Resize. -/
namespace Go.Proofs.Ytehleeibgkpjmag
open Go.RowKit Go.Shelf
end Go.Proofs.Ytehleeibgkpjmag
/- What Write, Wipe, Punch and Resize answer, errors too, and what it is to the image that was handed in. -/
namespace Go.Proofs.Ytehleeibgkpjmag
open Go.RowKit Go.Shelf
end Go.Proofs.Ytehleeibgkpjmag
/- Contracts of the document's CheckImage, look, LookError, LookOf. -/
namespace Go.Proofs.Ytehleeibgkpjmag
open Go.RowKit Go.Shelf
end Go.Proofs.Ytehleeibgkpjmag
/- Contract of the document's putOf. -/
namespace Go.Proofs.Ytehleeibgkpjmag
open Go.RowKit Go.Shelf
end Go.Proofs.Ytehleeibgkpjmag
/- The document's WriteOf: what lies in memory between its steps; plain facts. -/
namespace Go.Proofs.Ytehleeibgkpjmag
open Go.RowKit Go.Shelf


end Go.Proofs.Ytehleeibgkpjmag
/- The document's ResizeOf: the calls it leans on (CutOf's row is one's own; SameInts of two lists that differ). -/
namespace Go.Proofs.Ytehleeibgkpjmag
open Go.RowKit Go.Shelf

theorem OwR.drew {V X : World} {D : Nat} {p : ImgD} (h : OwR V X D p) : OwR V X.drew D p := by
  obtain ⟨val, h1, h2, h3⟩ := h.ex
  exact ⟨⟨val, h1.drew, h2, h3⟩, h.ge, to_drew h.bel⟩
end Go.Proofs.Ytehleeibgkpjmag
/- The document's nose: byte, text, list. -/
namespace Go.Proofs.Ytehleeibgkpjmag
open Go.RowKit Go.Shelf Go.Lib
set_option maxRecDepth 20000
set_option linter.unusedVariables false
set_option linter.unusedSimpArgs false

structure NoX (W X : World) (R : Nat) (l : List UInt8) : Prop where
  os : X.os = W.os
  tape : X.tape = W.tape
  output : X.output = W.output
  size : W.heap.size ≤ X.heap.size
  keep : ∀ q, q < W.heap.size → q ≠ R → X.heap[q]? = W.heap[q]?
  box : X.heap[R]? = some (.cells #[.string (bstr (l))] 80)
theorem NoX.refl {W : World} {R : Nat} {l : List UInt8} (h : W.heap[R]? = some (.cells #[.string (bstr (l))] 80)) : NoX W W R l := ⟨rfl, rfl, rfl, Nat.le_refl _, fun _ _ _ => rfl, h⟩
theorem NoX.lt {W X : World} {R : Nat} {l : List UInt8} (h : NoX W X R l) : R < X.heap.size := (Array.getElem?_eq_some_iff.1 h.box).1
theorem NoX.trans {W X Y : World} {R : Nat} {l l' : List UInt8} (h : NoX W X R l) (k : NoX X Y R l') : NoX W Y R l' := ⟨k.os.trans h.os, k.tape.trans h.tape, k.output.trans h.output, Nat.le_trans h.size k.size, fun q hq hn => (k.keep q (Nat.lt_of_lt_of_le hq h.size) hn).trans (h.keep q hq hn), k.box⟩
theorem NoX.alloc {W X : World} {R : Nat} {l : List UInt8} (h : NoX W X R l) (o : Obj) : NoX W (X.alloc o) R l := ⟨h.os, h.tape, h.output, Nat.le_trans h.size (by simp), fun q hq hn => (Below.heap_alloc _ _ q (Nat.lt_of_lt_of_le hq h.size)).trans (h.keep q hq hn), cells_alloc h.box _⟩
theorem NoX.set {W X : World} {R : Nat} {l : List UInt8} (h : NoX W X R l) (l' : List UInt8) : NoX W (X.setCell ⟨R, 0, none⟩ (.string (bstr l'))) R l' := ⟨h.os, h.tape, h.output, Nat.le_trans h.size (by simp), fun q hq hn => (Below.heap_setCell _ ⟨R, 0, none⟩ _ q hn).trans (h.keep q hq hn), cells_set h.box 0 _⟩
theorem NoX.other {W X : World} {R g i : Nat} {l : List UInt8} (h : NoX W X R l) (hg : W.heap.size ≤ g) (hR : R < W.heap.size) (v : Value) : NoX W (X.setCell ⟨g, i, none⟩ v) R l := ⟨h.os, h.tape, h.output, Nat.le_trans h.size (by simp), fun q hq hn => (Below.heap_setCell _ ⟨g, i, none⟩ _ q (by show q ≠ g; omega)).trans (h.keep q hq hn), (Below.heap_setCell _ ⟨g, i, none⟩ _ R (by show R ≠ g; omega)).trans h.box⟩

theorem toList_nilN {u : ByteArray} (h : u.size = 0) : (u.toList == []) = true := by
  have : u.toList = [] := (ba_nil u).2 h
  rw [this]; rfl
theorem toList_someN {u : ByteArray} (h : 0 < u.size) : (u.toList == []) = false := by
  have : u.toList ≠ [] := fun e => by have := (ba_nil u).1 e; omega
  cases hx : u.toList with
  | nil => exact absurd hx this
  | cons a b => rfl
theorem NoX.grow {W X Y : World} {R : Nat} {l : List UInt8} {v : Value} (h : NoX W X R l) (hR : R < W.heap.size) (g : X.grownBy Y v.ownBlock) (hv : ∀ q, v.ownBlock = some q → W.heap.size ≤ q) : NoX W Y R l :=
  ⟨g.os.trans h.os, g.tape.trans h.tape, g.output.trans h.output, Nat.le_trans h.size g.size, fun q hq hn => (g.block q (Nat.lt_of_lt_of_le hq h.size) (fun e => by have := hv q e.symm; omega)).trans (h.keep q hq hn), (g.block R h.lt (fun e => by have := hv R e.symm; omega)).trans h.box⟩
end Go.Proofs.Ytehleeibgkpjmag
/- parsed: the image whose bytes these are, or none. -/
namespace Go.Proofs.Ytehleeibgkpjmag
open Go.RowKit Go.Shelf Go.Lib
set_option maxRecDepth 20000
set_option linter.unusedVariables false
set_option linter.unusedSimpArgs false

def PrsA (w : World) (L : List UInt8) (e : Ending) (W' : World) : Prop :=
  (∃ m, parse L = some m ∧ ∃ a0 c0 a1 c1 a2 c2 a3 c3, e = .returned (.tuple #[(.agg #[.int .i64 m.guest, .slice a0 m.root.length c0, .slice a1 m.slots.length c1, .slice a2 m.refs.length c2, .slice a3 m.snaps.length c3]), .bool true]) ∧ (∀ Y : World, (∀ q, w.heap.size ≤ q → q < W'.heap.size → Y.heap[q]? = W'.heap[q]?) → Img Y (.agg #[.int .i64 m.guest, .slice a0 m.root.length c0, .slice a1 m.slots.length c1, .slice a2 m.refs.length c2, .slice a3 m.snaps.length c3]) m) ∧ Below w.heap.size w W') ∨ (parse L = none ∧ e = .returned (.tuple #[(.agg #[.int .i64 0, .slice none 0 0, .slice none 0 0, .slice none 0 0, .slice none 0 0]), .bool false]) ∧ Below w.heap.size w W')
theorem pw_after {w w' : World} {b c : Nat} {x0 x1 x2 x3 x4 y : Value} (hm : w.heap[b]? = some (.cells #[x0, x1, x2, x3, x4] 26)) (hc : w.heap[c]? = some (.cells #[y] 4)) (hbc : ¬ b = c)
    (hw : w' = ((((((w.setCell ⟨b, 0, none⟩ (.int .i64 0)).setCell ⟨b, 1, none⟩ (.slice none 0 0)).setCell ⟨b, 2, none⟩ (.slice none 0 0)).setCell ⟨b, 3, none⟩ (.slice none 0 0)).setCell ⟨b, 4, none⟩ (.slice none 0 0)).setCell ⟨c, 0, none⟩ (.bool false)).alloc (.cells #[] 110)) :
    w'.heap[b]? = some (.cells #[.int .i64 0, .slice none 0 0, .slice none 0 0, .slice none 0 0, .slice none 0 0] 26) ∧ w'.heap[c]? = some (.cells #[.bool false] 4) ∧ ∀ (B : Nat) (W0 : World), B ≤ b → B ≤ c → Below B W0 w → Below B W0 w' := by
  have h0 := cells_set hm 0 (.int .i64 0)
  have h1 := cells_set h0 1 (.slice none 0 0)
  have h2 := cells_set h1 2 (.slice none 0 0)
  have h3 := cells_set h2 3 (.slice none 0 0)
  have h4 := cells_set h3 4 (.slice none 0 0)
  have hcb : c ≠ b := fun e => hbc e.symm
  have g0 := (Below.heap_setCell w ⟨b, 0, none⟩ (.int .i64 0) c hcb).trans hc
  have g1 := (Below.heap_setCell _ ⟨b, 1, none⟩ (.slice none 0 0) c hcb).trans g0
  have g2 := (Below.heap_setCell _ ⟨b, 2, none⟩ (.slice none 0 0) c hcb).trans g1
  have g3 := (Below.heap_setCell _ ⟨b, 3, none⟩ (.slice none 0 0) c hcb).trans g2
  have g4 := (Below.heap_setCell _ ⟨b, 4, none⟩ (.slice none 0 0) c hcb).trans g3
  have h5 := (Below.heap_setCell _ ⟨c, 0, none⟩ (.bool false) b (fun e => hbc e)).trans h4
  have g5 := cells_set g4 0 (.bool false)
  refine ⟨by rw [hw]; exact cells_alloc h5 _, by rw [hw]; exact cells_alloc g5 _, fun B W0 hb hc' hB => ?_⟩
  rw [hw]
  have key : Below B W0 ((((((w.setCell ⟨b, 0, none⟩ (.int .i64 0)).setCell ⟨b, 1, none⟩ (.slice none 0 0)).setCell ⟨b, 2, none⟩ (.slice none 0 0)).setCell ⟨b, 3, none⟩ (.slice none 0 0)).setCell ⟨b, 4, none⟩ (.slice none 0 0)).setCell ⟨c, 0, none⟩ (.bool false)) := (((((hB.setCell (p := ⟨b, 0, none⟩) hb _).setCell (p := ⟨b, 1, none⟩) hb _).setCell (p := ⟨b, 2, none⟩) hb _).setCell (p := ⟨b, 3, none⟩) hb _).setCell (p := ⟨b, 4, none⟩) hb _).setCell (p := ⟨c, 0, none⟩) hc' _
  refine key.alloc ?_ _
  have := (Array.getElem?_eq_some_iff.1 g5).1
  omega
theorem set_six {w w' : World} {b c : Nat} {x0 x1 x2 x3 x4 y v0 v1 v2 v3 v4 u : Value} (hm : w.heap[b]? = some (.cells #[x0, x1, x2, x3, x4] 26)) (hc : w.heap[c]? = some (.cells #[y] 4)) (hbc : ¬ b = c)
    (hw : w' = (((((w.setCell ⟨b, 0, none⟩ v0).setCell ⟨b, 1, none⟩ v1).setCell ⟨b, 2, none⟩ v2).setCell ⟨b, 3, none⟩ v3).setCell ⟨b, 4, none⟩ v4).setCell ⟨c, 0, none⟩ u) :
    w'.heap[b]? = some (.cells #[v0, v1, v2, v3, v4] 26) ∧ w'.heap[c]? = some (.cells #[u] 4) ∧ (∀ q, q ≠ b → q ≠ c → w'.heap[q]? = w.heap[q]?) ∧ ∀ (B : Nat) (W0 : World), B ≤ b → B ≤ c → Below B W0 w → Below B W0 w' := by
  have h0 := cells_set hm 0 v0
  have h1 := cells_set h0 1 v1
  have h2 := cells_set h1 2 v2
  have h3 := cells_set h2 3 v3
  have h4 := cells_set h3 4 v4
  have hcb : c ≠ b := fun e => hbc e.symm
  have hq : ∀ q, q ≠ b → (((((w.setCell ⟨b, 0, none⟩ v0).setCell ⟨b, 1, none⟩ v1).setCell ⟨b, 2, none⟩ v2).setCell ⟨b, 3, none⟩ v3).setCell ⟨b, 4, none⟩ v4).heap[q]? = w.heap[q]? := fun q hq => by rw [Below.heap_setCell _ ⟨b, 4, none⟩ _ q hq, Below.heap_setCell _ ⟨b, 3, none⟩ _ q hq, Below.heap_setCell _ ⟨b, 2, none⟩ _ q hq, Below.heap_setCell _ ⟨b, 1, none⟩ _ q hq, Below.heap_setCell _ ⟨b, 0, none⟩ _ q hq]
  have h5 := (Below.heap_setCell _ ⟨c, 0, none⟩ u b (fun e => hbc e)).trans h4
  have g5 := cells_set ((hq c hcb).trans hc) 0 u
  refine ⟨by rw [hw]; exact h5, by rw [hw]; exact g5, fun q hb hc' => by rw [hw, Below.heap_setCell _ ⟨c, 0, none⟩ u q hc']; exact hq q hb, fun B W0 hb hc' hB => ?_⟩
  rw [hw]
  exact (((((hB.setCell (p := ⟨b, 0, none⟩) hb _).setCell (p := ⟨b, 1, none⟩) hb _).setCell (p := ⟨b, 2, none⟩) hb _).setCell (p := ⟨b, 3, none⟩) hb _).setCell (p := ⟨b, 4, none⟩) hb _).setCell (p := ⟨c, 0, none⟩) hc' _
theorem rd_below {w W W' : World} {R : Nat} {l : List UInt8} (hb : Below w.heap.size w W) (hR : W.heap.size = R + 1) (hwR : w.heap.size ≤ R) (h : RdT W W' R l) : Below w.heap.size w W' :=
  ⟨h.os.trans hb.os, h.tape.trans hb.tape, h.output.trans hb.output, Nat.le_trans hb.size h.size, fun q hq => (h.keep q (by omega) (by omega)).trans (hb.block q hq)⟩
set_option maxHeartbeats 1000000 in
theorem parsed_is (L : List UInt8) (w : World) (hm : L.length ≤ 4096) : Calls Try.prog 41 #[.string (bstr L)] w (PrsA w L) := by
  have hmf : ∀ (fn : Fn) (first cap : Array Value) (w : World), (Instr.makeFunc fn first cap).run Try.prog w = .ok (.func fn first cap) w := fun _ _ _ _ => rfl
  have m0 : (((w.alloc (.cells #[.int .i64 0, .slice none 0 0, .slice none 0 0, .slice none 0 0, .slice none 0 0] 26)).alloc (.cells #[.bool false] 4)).alloc (.cells #[.string (bstr L)] 112)).heap[w.heap.size]? = some (.cells #[.int .i64 0, .slice none 0 0, .slice none 0 0, .slice none 0 0, .slice none 0 0] 26) := cells_alloc (cells_alloc (World.alloc_heap_new _ _) _) _
  have m1 : (((w.alloc (.cells #[.int .i64 0, .slice none 0 0, .slice none 0 0, .slice none 0 0, .slice none 0 0] 26)).alloc (.cells #[.bool false] 4)).alloc (.cells #[.string (bstr L)] 112)).heap[w.heap.size + 1]? = some (.cells #[.bool false] 4) := cells_alloc (by have := World.alloc_heap_new (w.alloc (.cells #[.int .i64 0, .slice none 0 0, .slice none 0 0, .slice none 0 0, .slice none 0 0] 26)) (.cells #[.bool false] 4); simpa using this) _
  have m2 : (((w.alloc (.cells #[.int .i64 0, .slice none 0 0, .slice none 0 0, .slice none 0 0, .slice none 0 0] 26)).alloc (.cells #[.bool false] 4)).alloc (.cells #[.string (bstr L)] 112)).heap[w.heap.size + 1 + 1]? = some (.cells #[.string (bstr L)] 112) := by have := World.alloc_heap_new ((w.alloc (.cells #[.int .i64 0, .slice none 0 0, .slice none 0 0, .slice none 0 0, .slice none 0 0] 26)).alloc (.cells #[.bool false] 4)) (.cells #[.string (bstr L)] 112); simpa using this
  have hz3 : (((w.alloc (.cells #[.int .i64 0, .slice none 0 0, .slice none 0 0, .slice none 0 0, .slice none 0 0] 26)).alloc (.cells #[.bool false] 4)).alloc (.cells #[.string (bstr L)] 112)).heap.size = w.heap.size + 1 + 1 + 1 := by simp
  have b0 : Below w.heap.size w (((w.alloc (.cells #[.int .i64 0, .slice none 0 0, .slice none 0 0, .slice none 0 0, .slice none 0 0] 26)).alloc (.cells #[.bool false] 4)).alloc (.cells #[.string (bstr L)] 112)) := (((Below.refl _ _).alloc (Nat.le_refl _) _).alloc (by simp) _).alloc (by simp <;> omega) _
  have HIm := Hid_mkG (image_is (w.heap.size + 1 + 1) L (((w.alloc (.cells #[.int .i64 0, .slice none 0 0, .slice none 0 0, .slice none 0 0, .slice none 0 0] 26)).alloc (.cells #[.bool false] 4)).alloc (.cells #[.string (bstr L)] 112)) m2 hm)
  have HM := Hid_mkG (And.intro m0 (And.intro m1 (And.intro hz3 b0)))
  clear m0 m1 m2 hz3 b0
  go_enter_defers Try.func41, Try.ntmps41
  go_wp2_with fail
  refine HIm.out.mono ?_
  rintro e W' (⟨m, r, hp, a0, c0, a1, c1, a2, c2, a3, c3, rfl, T, F⟩ | ⟨hp, rfl, l', T⟩)
  · dsimp only
    have bb : Below w.heap.size w W' := rd_below HM.out.2.2.2 HM.out.2.2.1 (by omega) T
    have k0 := (T.keep w.heap.size (by rw [HM.out.2.2.1]; omega) (by omega)).trans HM.out.1
    have k1 := (T.keep (w.heap.size + 1) (by rw [HM.out.2.2.1]; omega) (by omega)).trans HM.out.2.1
    have k2 := T.box
    have sz := HM.out.2.2.1
    obtain ⟨x0, x1, x2, x3, x4⟩ := five k0
    have f0 := cells_frozen k0 0
    have f1 := cells_frozen k0 1
    have f2 := cells_frozen k0 2
    have f3 := cells_frozen k0 3
    have f4 := cells_frozen k0 4
    have g0 := cells_set k0 0 (.int .i64 m.guest)
    have g1 := cells_set g0 1 (.slice a0 m.root.length c0)
    have g2 := cells_set g1 2 (.slice a1 m.slots.length c1)
    have g3 := cells_set g2 3 (.slice a2 m.refs.length c2)
    have g4 := cells_set g3 4 (.slice a3 m.snaps.length c3)
    obtain ⟨W4, hW4⟩ : ∃ X, ((((W'.setCell ⟨w.heap.size, 0, none⟩ (.int .i64 m.guest)).setCell ⟨w.heap.size, 1, none⟩ (.slice a0 m.root.length c0)).setCell ⟨w.heap.size, 2, none⟩ (.slice a1 m.slots.length c1)).setCell ⟨w.heap.size, 3, none⟩ (.slice a2 m.refs.length c2)).setCell ⟨w.heap.size, 4, none⟩ (.slice a3 m.snaps.length c3) = X := ⟨_, rfl⟩
    have hk4 : ∀ q, q ≠ w.heap.size → W4.heap[q]? = W'.heap[q]? := fun q hq => by rw [← hW4, Below.heap_setCell _ ⟨w.heap.size, 4, none⟩ _ q hq, Below.heap_setCell _ ⟨w.heap.size, 3, none⟩ _ q hq, Below.heap_setCell _ ⟨w.heap.size, 2, none⟩ _ q hq, Below.heap_setCell _ ⟨w.heap.size, 1, none⟩ _ q hq, Below.heap_setCell _ ⟨w.heap.size, 0, none⟩ _ q hq]
    have hb4 : Below w.heap.size w W4 := by rw [← hW4]; exact ((((bb.setCell (p := ⟨w.heap.size, 0, none⟩) (Nat.le_refl _) _).setCell (p := ⟨w.heap.size, 1, none⟩) (Nat.le_refl _) _).setCell (p := ⟨w.heap.size, 2, none⟩) (Nat.le_refl _) _).setCell (p := ⟨w.heap.size, 3, none⟩) (Nat.le_refl _) _).setCell (p := ⟨w.heap.size, 4, none⟩) (Nat.le_refl _) _
    rw [hW4] at g4
    have k1 := (hk4 (w.heap.size + 1) (by omega)).trans k1
    have k2 := (hk4 (w.heap.size + 1 + 1) (by omega)).trans k2
    have HF := Hid_mkG F
    have Hk := Hid_mkG (And.intro hk4 hb4)
    have Hz := Hid_mkG sz
    have r0 : W4.cell? ⟨w.heap.size + 1 + 1, 0, none⟩ = some (.string (bstr r)) := by simp only [World.cell?, k2]; rfl
    have HT := Hid_mkG T
    have Hk0 := Hid_mkG g4
    have Hk1 := Hid_mkG k1
    clear g0 g1 g2 g3 F T k2 sz hk4 hb4 bb k0
    go_upto_region 4 with fail
    try rw [hW4]
    clear x0 x1 x2 x3 x4 f0 f1 f2 f3 f4 hW4 HIm
    by_cases hr : r = []
    · subst hr
      have hs : ((bstr ([] : List UInt8)).toList == []) = true := toList_nilN (by rw [bstr_size]; rfl)
      have hs2 : ((bstr ([] : List UInt8)).toList != []) = false := by rw [bne, hs]; rfl
      obtain ⟨u, hu⟩ : ∃ x, bstr ([] : List UInt8) = x := ⟨_, rfl⟩
      rw [hu] at r0 hs hs2
      clear hu
      have hyes : parse L = some m := by unfold parse; rw [hp]; rfl
      have Hy := Hid_mkG hyes
      obtain ⟨v0, v1, v2, v3, v4⟩ := five g4
      have f0 := cells_frozen g4 0
      have f1 := cells_frozen g4 1
      have f2 := cells_frozen g4 2
      have f3 := cells_frozen g4 3
      have f4 := cells_frozen g4 4
      have b1 : W4.cell? ⟨w.heap.size + 1, 0, none⟩ = some (.bool false) := by simp only [World.cell?, k1]; rfl
      have bf := cells_frozen k1 0
      clear hyes hp g4 k1
      go_wp2_with fail
      obtain ⟨W6, hW6⟩ : ∃ X, X = (((((W4.setCell ⟨w.heap.size, 0, none⟩ (.int .i64 m.guest)).setCell ⟨w.heap.size, 1, none⟩ (.slice a0 m.root.length c0)).setCell ⟨w.heap.size, 2, none⟩ (.slice a1 m.slots.length c1)).setCell ⟨w.heap.size, 3, none⟩ (.slice a2 m.refs.length c2)).setCell ⟨w.heap.size, 4, none⟩ (.slice a3 m.snaps.length c3)).setCell ⟨w.heap.size + 1, 0, none⟩ (.bool true) := ⟨_, rfl⟩
      obtain ⟨e1, e2, e3, e4⟩ := set_six Hk0.out Hk1.out (by omega) hW6
      have hB6 := e4 _ _ (Nat.le_refl _) (Nat.le_succ _) Hk.out.2
      have hI6 : ∀ Y : World, (∀ q, w.heap.size ≤ q → q < W6.heap.size → Y.heap[q]? = W6.heap[q]?) → Img Y (.agg #[.int .i64 m.guest, .slice a0 m.root.length c0, .slice a1 m.slots.length c1, .slice a2 m.refs.length c2, .slice a3 m.snaps.length c3]) m := fun Y hY => HF.out _ (fun q hq hl => by
        have hz := Hz.out
        have hq0 : q ≠ w.heap.size := by omega
        have h6 := (e3 q hq0 (by omega)).trans (Hk.out.1 q hq0)
        refine (hY q (by omega) ?_).trans h6
        rw [Array.getElem?_eq_getElem hl] at h6
        exact (Array.getElem?_eq_some_iff.1 h6).1)
      rw [← hW6]
      clear hW6 e3 e4
      obtain ⟨z0, z1, z2, z3, z4⟩ := five e1
      have ce : W6.cell? ⟨w.heap.size + 1, 0, none⟩ = some (.bool true) := by simp only [World.cell?, e2]; rfl
      clear e1 e2
      refine leaves_cons (f := 70) (args := #[.pointer (some ⟨w.heap.size, 0, none⟩), .pointer (some ⟨w.heap.size + 1, 0, none⟩)]) (by simp) (by simp [go_sem]) ?_
      refine (pcatch_idle _ _ _).mono ?_
      rintro e u' w'' ⟨rfl, rfl, rfl⟩
      refine ⟨.tuple #[(.agg #[.int .i64 m.guest, .slice a0 m.root.length c0, .slice a1 m.slots.length c1, .slice a2 m.refs.length c2, .slice a3 m.snaps.length c3]), .bool true], ?_, Or.inl ⟨m, Hy.out, a0, c0, a1, c1, a2, c2, a3, c3, rfl, hI6, hB6⟩⟩
      simp [results, Try.results41, go_sem, z0, z1, z2, z3, z4, ce]
    · have hs : ((bstr r).toList == []) = false := toList_someN (by rw [bstr_size]; exact List.length_pos_iff.2 hr)
      have hs2 : ((bstr r).toList != []) = true := by rw [bne, hs]; rfl
      have hno : parse L = none := by unfold parse; rw [hp]; show (if r = [] then some m else none) = none; rw [if_neg hr]
      have k0 := g4
      have bb := Hk.out.2
      have Hn := Hid_mkG (And.intro hno (And.intro k0 (And.intro k1 bb)))
      clear hno k0 k1 bb hp g4 hr
      go_wp2_with fail
      obtain ⟨hno, k0, k1, bb⟩ := Hn.out
      refine leaves_cons (f := 70) (args := #[.pointer (some ⟨w.heap.size, 0, none⟩), .pointer (some ⟨w.heap.size + 1, 0, none⟩)]) (by simp) (by simp [go_sem]) ?_
      refine (pcatch_wrong w.heap.size (w.heap.size + 1) _ _ _ _ _ _ [] _ k0 k1 (by omega)).mono ?_
      rintro e u' w'' ⟨rfl, rfl, hw⟩
      obtain ⟨j0, j1, jb⟩ := pw_after k0 k1 (by omega) hw
      obtain ⟨z0, z1, z2, z3, z4⟩ := five j0
      have ce : w''.cell? ⟨w.heap.size + 1, 0, none⟩ = some (.bool false) := by simp only [World.cell?, j1]; rfl
      clear hw
      refine ⟨.tuple #[(.agg #[.int .i64 0, .slice none 0 0, .slice none 0 0, .slice none 0 0, .slice none 0 0]), .bool false], ?_, Or.inr ⟨hno, rfl, jb _ _ (Nat.le_refl _) (Nat.le_succ _) bb⟩⟩
      simp [results, Try.results41, go_sem, z0, z1, z2, z3, z4, ce]

  · dsimp only
    have bb : Below w.heap.size w W' := rd_below HM.out.2.2.2 HM.out.2.2.1 (by omega) T
    have k0 := (T.keep w.heap.size (by rw [HM.out.2.2.1]; omega) (by omega)).trans HM.out.1
    have k1 := (T.keep (w.heap.size + 1) (by rw [HM.out.2.2.1]; omega) (by omega)).trans HM.out.2.1
    have hno : parse L = none := by unfold parse; rw [hp]; rfl
    refine leaves_cons (f := 70) (args := #[.pointer (some ⟨w.heap.size, 0, none⟩), .pointer (some ⟨w.heap.size + 1, 0, none⟩)]) (by simp) (by simp [go_sem]) ?_
    refine (pcatch_wrong w.heap.size (w.heap.size + 1) _ _ _ _ _ _ [] _ k0 k1 (by omega)).mono ?_
    rintro e u' w'' ⟨rfl, rfl, hw⟩
    obtain ⟨j0, j1, jb⟩ := pw_after k0 k1 (by omega) hw
    obtain ⟨z0, z1, z2, z3, z4⟩ := five j0
    have ce : w''.cell? ⟨w.heap.size + 1, 0, none⟩ = some (.bool false) := by simp only [World.cell?, j1]; rfl
    clear hw
    refine ⟨.tuple #[(.agg #[.int .i64 0, .slice none 0 0, .slice none 0 0, .slice none 0 0, .slice none 0 0]), .bool false], ?_, Or.inr ⟨hno, rfl, jb _ _ (Nat.le_refl _) (Nat.le_succ _) bb⟩⟩
    simp [results, Try.results41, go_sem, z0, z1, z2, z3, z4, ce]

end Go.Proofs.Ytehleeibgkpjmag
/- wire.Read. -/
namespace Go.Proofs.Ytehleeibgkpjmag
open Go.RowKit Go.Shelf Go.Lib
set_option maxRecDepth 20000
set_option linter.unusedVariables false
set_option linter.unusedSimpArgs false

def rdE (u : ByteArray) : ImgD × Int := if 4096 < u.size then (imgZ, 2) else match rdO (bytes u) with | some m => (m, 0) | none => (imgZ, 1)
theorem rdE_many {u : ByteArray} (h : 4096 < u.size) : rdE u = (imgZ, 2) := by unfold rdE; rw [if_pos h]
theorem rdE_none {u : ByteArray} (h : ¬ 4096 < u.size) (hp : rdO (bytes u) = none) : rdE u = (imgZ, 1) := by unfold rdE; rw [if_neg h, hp]
theorem rdE_some {u : ByteArray} {m : ImgD} (h : ¬ 4096 < u.size) (hp : rdO (bytes u) = some m) : rdE u = (m, 0) := by unfold rdE; rw [if_neg h, hp]
theorem parse_slots {l : List UInt8} {m : ImgD} (h : parse l = some m) : m.slots.length ≤ 255 := by
  obtain ⟨q, h1, h2⟩ := bindS h
  split at h2
  · have h2 : q.1 = m := by simpa using h2
    subst h2
    obtain ⟨g, h3, h1⟩ := bindS h1
    obtain ⟨n, h4, h1⟩ := bindS h1
    obtain ⟨S, h5, h1⟩ := bindS h1
    obtain ⟨k, h6, h1⟩ := bindS h1
    obtain ⟨N, h7, h1⟩ := bindS h1
    obtain ⟨r, h8, h1⟩ := mapS h1
    subst h1
    have := (pMany_le (f := pSlot) (fun l s r h => pSlot_le h) n.1 S.1 S.2 h5).2
    show S.1.length ≤ 255
    rw [this]
    cases hg : g.2 with
    | nil => rw [hg] at h4; simp [pNum] at h4
    | cons a t =>
      rw [hg] at h4
      simp only [pNum, Option.some.injEq] at h4
      subst h4
      have := a.toNat_lt
      show a.toNat ≤ 255
      omega
  · simp at h2
theorem set_five {w w' : World} {b : Nat} {x0 x1 x2 x3 x4 v0 v1 v2 v3 v4 : Value} (hm : w.heap[b]? = some (.cells #[x0, x1, x2, x3, x4] 26))
    (hw : w' = ((((w.setCell ⟨b, 0, none⟩ v0).setCell ⟨b, 1, none⟩ v1).setCell ⟨b, 2, none⟩ v2).setCell ⟨b, 3, none⟩ v3).setCell ⟨b, 4, none⟩ v4) :
    w'.heap[b]? = some (.cells #[v0, v1, v2, v3, v4] 26) ∧ (∀ q, q ≠ b → w'.heap[q]? = w.heap[q]?) ∧ ∀ (B : Nat) (W0 : World), B ≤ b → Below B W0 w → Below B W0 w' := by
  have h0 := cells_set hm 0 v0
  have h1 := cells_set h0 1 v1
  have h2 := cells_set h1 2 v2
  have h3 := cells_set h2 3 v3
  have h4 := cells_set h3 4 v4
  refine ⟨by rw [hw]; exact h4, fun q hq => by rw [hw, Below.heap_setCell _ ⟨b, 4, none⟩ _ q hq, Below.heap_setCell _ ⟨b, 3, none⟩ _ q hq, Below.heap_setCell _ ⟨b, 2, none⟩ _ q hq, Below.heap_setCell _ ⟨b, 1, none⟩ _ q hq, Below.heap_setCell _ ⟨b, 0, none⟩ _ q hq], fun B W0 hb hB => ?_⟩
  rw [hw]
  exact ((((hB.setCell (p := ⟨b, 0, none⟩) hb _).setCell (p := ⟨b, 1, none⟩) hb _).setCell (p := ⟨b, 2, none⟩) hb _).setCell (p := ⟨b, 3, none⟩) hb _).setCell (p := ⟨b, 4, none⟩) hb _
theorem sl_nil {W W2 : World} {v : Value} (h : Sl W v []) : Sl W2 v [] := by
  obtain ⟨ao, cap, e, h1, h2, _⟩ := h
  exact ⟨ao, cap, e, h1, h2, fun x => absurd rfl x⟩
theorem img_nil {W W2 : World} {v : Value} (h : Img W v imgZ) : Img W2 v imgZ := by
  obtain ⟨r, s, f, n, e, h1, h2, h3, h4⟩ := h
  refine ⟨r, s, f, n, e, sl_nil h1, ?_, sl_nil h3, ?_⟩
  · obtain ⟨ao, cap, e, h1, h2, _⟩ := h2
    exact ⟨ao, cap, e, h1, h2, fun x => absurd rfl x⟩
  · obtain ⟨ao, cap, e, h1, h2, _⟩ := h4
    exact ⟨ao, cap, e, h1, h2, fun x => absurd rfl x⟩
theorem AnsR.bad {w w' : World} (E : Int) (hb : Below w.heap.size w w') : AnsR w imgZ E (.returned (.tuple #[(.agg #[.int .i64 0, .slice none 0 0, .slice none 0 0, .slice none 0 0, .slice none 0 0]), .int .i64 E])) w' := ⟨none, 0, none, 0, none, 0, none, 0, rfl, (OI.zero _ 0).img, hb⟩
set_option maxHeartbeats 1000000 in
theorem read_many (u : ByteArray) (w : World) (h : 4096 < u.size) : Calls Try.prog 14 #[.string u] w (AnsR w imgZ 2) := by
  have m0 : (w.alloc (.cells #[.int .i64 0, .slice none 0 0, .slice none 0 0, .slice none 0 0, .slice none 0 0] 26)).heap[w.heap.size]? = some (.cells #[.int .i64 0, .slice none 0 0, .slice none 0 0, .slice none 0 0, .slice none 0 0] 26) := World.alloc_heap_new _ _
  obtain ⟨c0, c1, c2, c3, c4⟩ := five m0
  have f0 := cells_frozen m0 0
  have f1 := cells_frozen m0 1
  have f2 := cells_frozen m0 2
  have f3 := cells_frozen m0 3
  have f4 := cells_frozen m0 4
  have b0 : Below w.heap.size w (w.alloc (.cells #[.int .i64 0, .slice none 0 0, .slice none 0 0, .slice none 0 0, .slice none 0 0] 26)) := (Below.refl _ _).alloc (Nat.le_refl _) _
  have hi : (4096 : Int) < (u.size : Int) := by omega
  clear m0
  go_enter Try.func14, Try.ntmps14
  go_wp2_with fail
  refine bodyPost_ret (v := .tuple #[(.agg #[.int .i64 0, .slice none 0 0, .slice none 0 0, .slice none 0 0, .slice none 0 0]), .int .i64 2]) (by simp [results, Try.results14, go_sem, c0, c1, c2, c3, c4]) rfl (AnsR.bad 2 ?_)
  first
    | exact b0
    | exact (((((b0.setCell (p := ⟨w.heap.size, 0, none⟩) (Nat.le_refl _) _).setCell (p := ⟨w.heap.size, 1, none⟩) (Nat.le_refl _) _).setCell (p := ⟨w.heap.size, 2, none⟩) (Nat.le_refl _) _).setCell (p := ⟨w.heap.size, 3, none⟩) (Nat.le_refl _) _).setCell (p := ⟨w.heap.size, 4, none⟩) (Nat.le_refl _) _)
set_option maxHeartbeats 1000000 in
theorem read_no (u : ByteArray) (w : World) (h : ¬ 4096 < u.size) (hp : parse (bytes u) = none) : Calls Try.prog 14 #[.string u] w (AnsR w imgZ 1) := by
  have m0 : (w.alloc (.cells #[.int .i64 0, .slice none 0 0, .slice none 0 0, .slice none 0 0, .slice none 0 0] 26)).heap[w.heap.size]? = some (.cells #[.int .i64 0, .slice none 0 0, .slice none 0 0, .slice none 0 0, .slice none 0 0] 26) := World.alloc_heap_new _ _
  have b0 : Below w.heap.size w (w.alloc (.cells #[.int .i64 0, .slice none 0 0, .slice none 0 0, .slice none 0 0, .slice none 0 0] 26)) := (Below.refl _ _).alloc (Nat.le_refl _) _
  have hi : ¬ (4096 : Int) < (u.size : Int) := by omega
  have hz : (w.alloc (.cells #[.int .i64 0, .slice none 0 0, .slice none 0 0, .slice none 0 0, .slice none 0 0] 26)).heap.size = w.heap.size + 1 := by simp
  have hlen : (bytes u).length ≤ 4096 := by rw [show (bytes u).length = u.size by unfold bytes; rfl]; omega
  have HP : Hid (Calls Try.prog 41 #[.string u] (w.alloc (.cells #[.int .i64 0, .slice none 0 0, .slice none 0 0, .slice none 0 0, .slice none 0 0] 26)) fun e W' => e = .returned (.tuple #[(.agg #[.int .i64 0, .slice none 0 0, .slice none 0 0, .slice none 0 0, .slice none 0 0]), .bool false]) ∧ Below (w.alloc (.cells #[.int .i64 0, .slice none 0 0, .slice none 0 0, .slice none 0 0, .slice none 0 0] 26)).heap.size (w.alloc (.cells #[.int .i64 0, .slice none 0 0, .slice none 0 0, .slice none 0 0, .slice none 0 0] 26)) W') := by
    have := parsed_is (bytes u) (w.alloc (.cells #[.int .i64 0, .slice none 0 0, .slice none 0 0, .slice none 0 0, .slice none 0 0] 26)) hlen
    rw [bstr_bytes] at this
    refine this.mono fun e W' hA => ?_
    rcases hA with ⟨m, hq, _⟩ | ⟨_, h1, h2⟩
    · rw [hp] at hq; cases hq
    · exact ⟨h1, h2⟩
  have HM := Hid_mkG (And.intro m0 (And.intro b0 hz))
  clear m0 b0 hz hlen hp h
  go_enter Try.func14, Try.ntmps14
  go_wp2_with fail
  refine HP.out.mono ?_
  rintro e W' ⟨rfl, b1⟩
  have k0 := cells_below HM.out.1 b1 (by rw [HM.out.2.2]; omega)
  have HB := Hid_mkG (show Below w.heap.size w W' from HM.out.2.1.trans (b1.mono (by rw [HM.out.2.2]; omega)))
  have hB2 := HB.out.size
  obtain ⟨Wp, hWp⟩ : ∃ X, W'.alloc (.cells #[.int .i64 0, .slice none 0 0, .slice none 0 0, .slice none 0 0, .slice none 0 0] 26) = X := ⟨_, rfl⟩
  have kp := cells_alloc k0 (.cells #[.int .i64 0, .slice none 0 0, .slice none 0 0, .slice none 0 0, .slice none 0 0] 26)
  have HBp := Hid_mkG (HB.out.alloc hB2 (.cells #[.int .i64 0, .slice none 0 0, .slice none 0 0, .slice none 0 0, .slice none 0 0] 26))
  rw [hWp] at kp HBp
  obtain ⟨c0, c1, c2, c3, c4⟩ := five kp
  have f0 := cells_frozen kp 0
  have f1 := cells_frozen kp 1
  have f2 := cells_frozen kp 2
  have f3 := cells_frozen kp 3
  have f4 := cells_frozen kp 4
  have HKp := Hid_mkG kp
  have HWp := Hid_mkG hWp
  clear k0 b1 kp hWp
  go_upto_region 5 with fail
  rw [HWp.out]
  go_wp2_with fail
  obtain ⟨W3, hW3⟩ : ∃ X, X = ((((Wp.setCell ⟨w.heap.size, 0, none⟩ (.int .i64 0)).setCell ⟨w.heap.size, 1, none⟩ (.slice none 0 0)).setCell ⟨w.heap.size, 2, none⟩ (.slice none 0 0)).setCell ⟨w.heap.size, 3, none⟩ (.slice none 0 0)).setCell ⟨w.heap.size, 4, none⟩ (.slice none 0 0) := ⟨_, rfl⟩
  obtain ⟨j0, j1, j2⟩ := set_five HKp.out hW3
  obtain ⟨z0, z1, z2, z3, z4⟩ := five j0
  rw [← hW3]
  clear hW3
  refine bodyPost_ret (v := .tuple #[(.agg #[.int .i64 0, .slice none 0 0, .slice none 0 0, .slice none 0 0, .slice none 0 0]), .int .i64 1]) (by simp [results, Try.results14, go_sem, z0, z1, z2, z3, z4]) rfl (AnsR.bad 1 (j2 _ _ (Nat.le_refl _) HBp.out))
set_option maxHeartbeats 2000000 in
theorem read_bad (u : ByteArray) (w : World) (h : ¬ 4096 < u.size) (m : ImgD) (E : Int) (hp : parse (bytes u) = some m) (hC : ∀ (W : World) a0 c0 a1 c1 a2 c2 a3 c3, Img W (.agg #[.int .i64 m.guest, .slice a0 m.root.length c0, .slice a1 m.slots.length c1, .slice a2 m.refs.length c2, .slice a3 m.snaps.length c3]) m → Calls Try.prog 42 #[(.agg #[.int .i64 m.guest, .slice a0 m.root.length c0, .slice a1 m.slots.length c1, .slice a2 m.refs.length c2, .slice a3 m.snaps.length c3])] W (AnsR W imgZ E)) : Calls Try.prog 14 #[.string u] w (AnsR w imgZ E) := by
  have m0 : (w.alloc (.cells #[.int .i64 0, .slice none 0 0, .slice none 0 0, .slice none 0 0, .slice none 0 0] 26)).heap[w.heap.size]? = some (.cells #[.int .i64 0, .slice none 0 0, .slice none 0 0, .slice none 0 0, .slice none 0 0] 26) := World.alloc_heap_new _ _
  have b0 : Below w.heap.size w (w.alloc (.cells #[.int .i64 0, .slice none 0 0, .slice none 0 0, .slice none 0 0, .slice none 0 0] 26)) := (Below.refl _ _).alloc (Nat.le_refl _) _
  have hi : ¬ (4096 : Int) < (u.size : Int) := by omega
  have hz : (w.alloc (.cells #[.int .i64 0, .slice none 0 0, .slice none 0 0, .slice none 0 0, .slice none 0 0] 26)).heap.size = w.heap.size + 1 := by simp
  have hlen : (bytes u).length ≤ 4096 := by rw [show (bytes u).length = u.size by unfold bytes; rfl]; omega
  have HP : Hid (Calls Try.prog 41 #[.string u] (w.alloc (.cells #[.int .i64 0, .slice none 0 0, .slice none 0 0, .slice none 0 0, .slice none 0 0] 26)) fun e W' => ∃ a0 c0 a1 c1 a2 c2 a3 c3, e = .returned (.tuple #[(.agg #[.int .i64 m.guest, .slice a0 m.root.length c0, .slice a1 m.slots.length c1, .slice a2 m.refs.length c2, .slice a3 m.snaps.length c3]), .bool true]) ∧ (∀ Y : World, (∀ q, (w.alloc (.cells #[.int .i64 0, .slice none 0 0, .slice none 0 0, .slice none 0 0, .slice none 0 0] 26)).heap.size ≤ q → q < W'.heap.size → Y.heap[q]? = W'.heap[q]?) → Img Y (.agg #[.int .i64 m.guest, .slice a0 m.root.length c0, .slice a1 m.slots.length c1, .slice a2 m.refs.length c2, .slice a3 m.snaps.length c3]) m) ∧ Below (w.alloc (.cells #[.int .i64 0, .slice none 0 0, .slice none 0 0, .slice none 0 0, .slice none 0 0] 26)).heap.size (w.alloc (.cells #[.int .i64 0, .slice none 0 0, .slice none 0 0, .slice none 0 0, .slice none 0 0] 26)) W') := by
    have := parsed_is (bytes u) (w.alloc (.cells #[.int .i64 0, .slice none 0 0, .slice none 0 0, .slice none 0 0, .slice none 0 0] 26)) hlen
    rw [bstr_bytes] at this
    refine this.mono fun e W' hA => ?_
    rcases hA with ⟨m', hq, hA⟩ | ⟨hq, _⟩
    · rw [hp] at hq; cases hq; exact hA
    · rw [hp] at hq; cases hq
  have HM := Hid_mkG (And.intro m0 (And.intro b0 hz))
  have HC := Hid_mkG hC
  have Hp := Hid_mkG hp
  clear m0 b0 hz hlen hp h hC
  go_enter Try.func14, Try.ntmps14
  go_wp2_with fail
  refine HP.out.mono ?_
  rintro e W' ⟨a0, c0, a1, c1, a2, c2, a3, c3, rfl, I1, b1⟩
  have k0 := cells_below HM.out.1 b1 (by rw [HM.out.2.2]; omega)
  have HB := Hid_mkG (show Below w.heap.size w W' from HM.out.2.1.trans (b1.mono (by rw [HM.out.2.2]; omega)))
  have ne : ¬ w.heap.size = W'.heap.size := by have := b1.size; rw [HM.out.2.2] at this; omega
  have ne2 : ¬ W'.heap.size = w.heap.size := fun e => ne e.symm
  have hB2 := HB.out.size
  have HK := Hid_mkG k0
  have I2 := I1 (W'.alloc (.cells #[.int .i64 m.guest, .slice a0 m.root.length c0, .slice a1 m.slots.length c1, .slice a2 m.refs.length c2, .slice a3 m.snaps.length c3] 26)) (fun q _ hl => Below.heap_alloc _ _ q hl)
  have HC2 := Hid_mkG (HC.out _ _ _ _ _ _ _ _ _ I2)
  have HI1 := Hid_mkG I1
  clear k0 b1 I1 I2 HC HP
  go_wp2_with fail
  refine HC2.out.mono ?_
  rintro e W2 ⟨d0, e0, d1, e1, d2, e2, d3, e3, rfl, I3, b3⟩
  have hz2 : ∀ o : Obj, (W'.alloc o).heap.size = W'.heap.size + 1 := fun o => by simp
  have k1 := cells_below (cells_alloc HK.out _) b3 (by rw [hz2]; omega)
  obtain ⟨y0, y1, y2, y3, y4⟩ := five k1
  have f0 := cells_frozen k1 0
  have f1 := cells_frozen k1 1
  have f2 := cells_frozen k1 2
  have f3 := cells_frozen k1 3
  have f4 := cells_frozen k1 4
  have HB3 := Hid_mkG (show Below w.heap.size w W2 from (HB.out.alloc hB2 _).trans (b3.mono (by rw [hz2]; omega)))
  have HK3 := Hid_mkG (show ∀ q, q < W'.heap.size → W2.heap[q]? = W'.heap[q]? from fun q hq => (b3.block q (by rw [hz2]; omega)).trans (Below.heap_alloc _ _ q hq))
  have HK1 := Hid_mkG k1
  have HI3 := Hid_mkG I3
  clear b3 I3 k1 HC2 hz2
  go_wp2_with fail
  obtain ⟨W3, hW3⟩ : ∃ X, X = ((((W2.setCell ⟨w.heap.size, 0, none⟩ (.int .i64 imgZ.guest)).setCell ⟨w.heap.size, 1, none⟩ (.slice d0 imgZ.root.length e0)).setCell ⟨w.heap.size, 2, none⟩ (.slice d1 imgZ.slots.length e1)).setCell ⟨w.heap.size, 3, none⟩ (.slice d2 imgZ.refs.length e2)).setCell ⟨w.heap.size, 4, none⟩ (.slice d3 imgZ.snaps.length e3) := ⟨_, rfl⟩
  obtain ⟨j0, j1, j2⟩ := set_five HK1.out hW3
  obtain ⟨z0, z1, z2, z3, z4⟩ := five j0
  rw [← hW3]
  clear hW3
  refine bodyPost_ret (v := .tuple #[.agg #[.int .i64 imgZ.guest, .slice d0 imgZ.root.length e0, .slice d1 imgZ.slots.length e1, .slice d2 imgZ.refs.length e2, .slice d3 imgZ.snaps.length e3], .int .i64 E]) (by simp [results, Try.results14, go_sem, z0, z1, z2, z3, z4]) rfl ⟨d0, e0, d1, e1, d2, e2, d3, e3, rfl, img_nil HI3.out, j2 _ _ (Nat.le_refl _) HB3.out⟩
set_option maxHeartbeats 2000000 in
theorem read_ok (u : ByteArray) (w : World) (h : ¬ 4096 < u.size) (m : ImgD) (hp : parse (bytes u) = some m) (hC : ∀ (W : World) a0 c0 a1 c1 a2 c2 a3 c3, Img W (.agg #[.int .i64 m.guest, .slice a0 m.root.length c0, .slice a1 m.slots.length c1, .slice a2 m.refs.length c2, .slice a3 m.snaps.length c3]) m → Calls Try.prog 42 #[(.agg #[.int .i64 m.guest, .slice a0 m.root.length c0, .slice a1 m.slots.length c1, .slice a2 m.refs.length c2, .slice a3 m.snaps.length c3])] W (AnsC W m a0 c0 a1 c1 a3 c3)) : Calls Try.prog 14 #[.string u] w (AnsR w (wcnt m) 0) := by
  have m0 : (w.alloc (.cells #[.int .i64 0, .slice none 0 0, .slice none 0 0, .slice none 0 0, .slice none 0 0] 26)).heap[w.heap.size]? = some (.cells #[.int .i64 0, .slice none 0 0, .slice none 0 0, .slice none 0 0, .slice none 0 0] 26) := World.alloc_heap_new _ _
  have b0 : Below w.heap.size w (w.alloc (.cells #[.int .i64 0, .slice none 0 0, .slice none 0 0, .slice none 0 0, .slice none 0 0] 26)) := (Below.refl _ _).alloc (Nat.le_refl _) _
  have hi : ¬ (4096 : Int) < (u.size : Int) := by omega
  have hz : (w.alloc (.cells #[.int .i64 0, .slice none 0 0, .slice none 0 0, .slice none 0 0, .slice none 0 0] 26)).heap.size = w.heap.size + 1 := by simp
  have hlen : (bytes u).length ≤ 4096 := by rw [show (bytes u).length = u.size by unfold bytes; rfl]; omega
  have HP : Hid (Calls Try.prog 41 #[.string u] (w.alloc (.cells #[.int .i64 0, .slice none 0 0, .slice none 0 0, .slice none 0 0, .slice none 0 0] 26)) fun e W' => ∃ a0 c0 a1 c1 a2 c2 a3 c3, e = .returned (.tuple #[(.agg #[.int .i64 m.guest, .slice a0 m.root.length c0, .slice a1 m.slots.length c1, .slice a2 m.refs.length c2, .slice a3 m.snaps.length c3]), .bool true]) ∧ (∀ Y : World, (∀ q, (w.alloc (.cells #[.int .i64 0, .slice none 0 0, .slice none 0 0, .slice none 0 0, .slice none 0 0] 26)).heap.size ≤ q → q < W'.heap.size → Y.heap[q]? = W'.heap[q]?) → Img Y (.agg #[.int .i64 m.guest, .slice a0 m.root.length c0, .slice a1 m.slots.length c1, .slice a2 m.refs.length c2, .slice a3 m.snaps.length c3]) m) ∧ Below (w.alloc (.cells #[.int .i64 0, .slice none 0 0, .slice none 0 0, .slice none 0 0, .slice none 0 0] 26)).heap.size (w.alloc (.cells #[.int .i64 0, .slice none 0 0, .slice none 0 0, .slice none 0 0, .slice none 0 0] 26)) W') := by
    have := parsed_is (bytes u) (w.alloc (.cells #[.int .i64 0, .slice none 0 0, .slice none 0 0, .slice none 0 0, .slice none 0 0] 26)) hlen
    rw [bstr_bytes] at this
    refine this.mono fun e W' hA => ?_
    rcases hA with ⟨m', hq, hA⟩ | ⟨hq, _⟩
    · rw [hp] at hq; cases hq; exact hA
    · rw [hp] at hq; cases hq
  have HM := Hid_mkG (And.intro m0 (And.intro b0 hz))
  have HC := Hid_mkG hC
  have Hp := Hid_mkG hp
  clear m0 b0 hz hlen hp h hC
  go_enter Try.func14, Try.ntmps14
  go_wp2_with fail
  refine HP.out.mono ?_
  rintro e W' ⟨a0, c0, a1, c1, a2, c2, a3, c3, rfl, I1, b1⟩
  have k0 := cells_below HM.out.1 b1 (by rw [HM.out.2.2]; omega)
  have HB := Hid_mkG (show Below w.heap.size w W' from HM.out.2.1.trans (b1.mono (by rw [HM.out.2.2]; omega)))
  have ne : ¬ w.heap.size = W'.heap.size := by have := b1.size; rw [HM.out.2.2] at this; omega
  have ne2 : ¬ W'.heap.size = w.heap.size := fun e => ne e.symm
  have hB2 := HB.out.size
  have HK := Hid_mkG k0
  have I2 := I1 (W'.alloc (.cells #[.int .i64 m.guest, .slice a0 m.root.length c0, .slice a1 m.slots.length c1, .slice a2 m.refs.length c2, .slice a3 m.snaps.length c3] 26)) (fun q _ hl => Below.heap_alloc _ _ q hl)
  have HC2 := Hid_mkG (HC.out _ _ _ _ _ _ _ _ _ I2)
  have HI1 := Hid_mkG I1
  clear k0 b1 I1 I2 HC HP
  go_wp2_with fail
  refine HC2.out.mono ?_
  rintro e W2 ⟨g, hg, rfl, L3, b3⟩
  have hz2 : ∀ o : Obj, (W'.alloc o).heap.size = W'.heap.size + 1 := fun o => by simp
  have k1 := cells_below (cells_alloc HK.out _) b3 (by rw [hz2]; omega)
  obtain ⟨y0, y1, y2, y3, y4⟩ := five k1
  have f0 := cells_frozen k1 0
  have f1 := cells_frozen k1 1
  have f2 := cells_frozen k1 2
  have f3 := cells_frozen k1 3
  have f4 := cells_frozen k1 4
  have HB3 := Hid_mkG (show Below w.heap.size w W2 from (HB.out.alloc hB2 _).trans (b3.mono (by rw [hz2]; omega)))
  have HK3 := Hid_mkG (show ∀ q, q < W'.heap.size → W2.heap[q]? = W'.heap[q]? from fun q hq => (b3.block q (by rw [hz2]; omega)).trans (Below.heap_alloc _ _ q hq))
  have HK1 := Hid_mkG k1
  have HL := Hid_mkG (And.intro L3 hg)
  clear b3 k1 HC2 hz2 L3 hg
  go_wp2_with fail
  obtain ⟨W3, hW3⟩ : ∃ X, X = ((((W2.setCell ⟨w.heap.size, 0, none⟩ (.int .i64 m.guest)).setCell ⟨w.heap.size, 1, none⟩ (.slice a0 m.root.length c0)).setCell ⟨w.heap.size, 2, none⟩ (.slice a1 m.slots.length c1)).setCell ⟨w.heap.size, 3, none⟩ (.slice (some ⟨g, 0, none⟩) m.slots.length m.slots.length)).setCell ⟨w.heap.size, 4, none⟩ (.slice a3 m.snaps.length c3) := ⟨_, rfl⟩
  obtain ⟨j0, j1, j2⟩ := set_five HK1.out hW3
  obtain ⟨z0, z1, z2, z3, z4⟩ := five j0
  rw [← hW3]
  clear hW3
  have hgz := HL.out.2
  have hgn : g ≠ w.heap.size := by simp at hgz; omega
  have hL3 : LAt W3 g (cntL m) := (j1 g hgn).trans HL.out.1
  have hI := HI1.out W3 (fun q hq hl => by
    rw [HM.out.2.2] at hq
    exact (j1 q (by omega)).trans (HK3.out q hl))
  have hlen : (wcnt m).refs.length = m.slots.length := cntL_length m
  have hs := parse_slots Hp.out
  refine bodyPost_ret (v := .tuple #[.agg #[.int .i64 m.guest, .slice a0 m.root.length c0, .slice a1 m.slots.length c1, .slice (some ⟨g, 0, none⟩) m.slots.length m.slots.length, .slice a3 m.snaps.length c3], .int .i64 0]) (by simp [results, Try.results14, go_sem, z0, z1, z2, z3, z4]) rfl ⟨a0, c0, a1, c1, some ⟨g, 0, none⟩, m.slots.length, a3, c3, by rw [hlen]; rfl, ?_, j2 _ _ (Nat.le_refl _) HB3.out⟩
  rw [hlen]
  exact img_refs hI (Below.refl _ _) (LAt.sl hL3 (cntL_length m) (by unfold maxLen; omega))
theorem wread_is (u : ByteArray) (w : World) : Calls Try.prog 14 #[.string u] w (AnsR w (rdE u).1 (rdE u).2) := by
  by_cases h : 4096 < u.size
  · rw [rdE_many h]; exact read_many u w h
  cases hp : parse (bytes u) with
  | none =>
    rw [rdE_none h (by unfold rdO; rw [hp]; rfl)]
    exact read_no u w h hp
  | some m =>
    have hs := parse_slots hp
    by_cases h1 : shapeE (wzer m) = 0
    · by_cases h2 : checkE (wcnt m) = 0
      · rw [rdE_some (m := wcnt m) h (by unfold rdO; rw [hp]; show (if fine m = true then some (wcnt m) else none) = _; rw [if_pos (by unfold fine; rw [h1, h2]; rfl)])]
        exact read_ok u w h m hp (fun W a0 c0 a1 c1 a2 c2 a3 c3 hI => counted_yes a0 c0 a1 c1 a2 c2 a3 c3 m W hI (by omega) h1 h2)
      · rw [rdE_none h (by unfold rdO; rw [hp]; show (if fine m = true then some (wcnt m) else none) = _; rw [if_neg (by unfold fine; intro x; simp only [Bool.and_eq_true, beq_iff_eq] at x; exact h2 x.2)])]
        exact read_bad u w h m 1 hp (fun W a0 c0 a1 c1 a2 c2 a3 c3 hI => counted_no a0 c0 a1 c1 a2 c2 a3 c3 m W hI (by omega) h1 _ rfl (by simpa using h2))
    · rw [rdE_none h (by unfold rdO; rw [hp]; show (if fine m = true then some (wcnt m) else none) = _; rw [if_neg (by unfold fine; intro x; simp only [Bool.and_eq_true, beq_iff_eq] at x; exact h1 x.1)])]
      exact read_bad u w h m 1 hp (fun W a0 c0 a1 c1 a2 c2 a3 c3 hI => counted_err a0 c0 a1 c1 a2 c2 a3 c3 m W hI (by omega) _ rfl (by simpa using h1))
end Go.Proofs.Ytehleeibgkpjmag
/- Contract of pair: the image that every beginning looks at. -/
namespace Go.Proofs.Ytehleeibgkpjmag
open Go.RowKit Go.Shelf
set_option maxRecDepth 20000

def aaaa : ByteArray := ⟨#[97, 97, 97, 97]⟩
def bbbb : ByteArray := ⟨#[98, 98, 98, 98]⟩
def nOld : ByteArray := ⟨#[111, 108, 100]⟩

def pairD (g : Int) (R T : List Int) : ImgD := ⟨g, [2, 4], [(0, ⟨#[]⟩, []), (1, aaaa, []), (2, ⟨#[]⟩, [1, 0, -1, 1]), (1, bbbb, []), (2, ⟨#[]⟩, T)], R, [(nOld, 4, [2])]⟩
structure PairW (n : Nat) (W : World) (R T : List Int) : Prop where
  root : LAt W (n + 1) [2, 4]
  ta : LAt W (n + 2) [1, 0, -1, 1]
  tb : LAt W (n + 3) T
  slots : W.heap[n + 4]? = some (.cells #[.int .i64 0, .string ⟨#[]⟩, .slice none 0 0, .int .i64 1, .string aaaa, .slice none 0 0, .int .i64 2, .string ⟨#[]⟩, .slice (some ⟨n + 2, 0, none⟩) 4 4, .int .i64 1, .string bbbb, .slice none 0 0, .int .i64 2, .string ⟨#[]⟩, .slice (some ⟨n + 3, 0, none⟩) 4 4] 60)
  refs : LAt W (n + 5) R
  sroot : LAt W (n + 6) [2]
  snaps : W.heap[n + 7]? = some (.cells #[.string nOld, .int .i64 4, .slice (some ⟨n + 6, 0, none⟩) 1 1] 74)

theorem alloc_get (W : World) (o : Obj) (i : Nat) : (W.alloc o).heap[i]? = if i = W.heap.size then some o else W.heap[i]? := by
  show (W.heap.push o)[i]? = _
  rw [Array.getElem?_push]

theorem size_alloc (W : World) (o : Obj) : (W.alloc o).heap.size = W.heap.size + 1 := by simp

set_option linter.unusedSimpArgs false in
theorem pair_at (w : World) : Calls Try.prog 32 #[] w fun r w' => r = .returned (.agg #[.int .i64 6, .slice (some ⟨w.heap.size + 1, 0, none⟩) 2 2, .slice (some ⟨w.heap.size + 4, 0, none⟩) 5 5, .slice (some ⟨w.heap.size + 5, 0, none⟩) 5 5, .slice (some ⟨w.heap.size + 7, 0, none⟩) 1 1]) ∧ PairW w.heap.size w' [0, 2, 2, 1, 1] [3, 0, 0, 0] ∧ Below w.heap.size w w' := by
  go_enter Try.func32, Try.ntmps32
  go_wp2
  refine bodyPost_ret (v := .agg #[.int .i64 6, .slice (some ⟨w.heap.size + 1, 0, none⟩) 2 2, .slice (some ⟨w.heap.size + 4, 0, none⟩) 5 5, .slice (some ⟨w.heap.size + 5, 0, none⟩) 5 5, .slice (some ⟨w.heap.size + 7, 0, none⟩) 1 1]) (by simp [results, Try.results32, go_sem]) rfl ⟨rfl, ⟨?_, ?_, ?_, ?_, ?_, ?_, ?_⟩, ?_⟩
  · show _ = _; simp only [alloc_get, size_alloc, Nat.add_right_cancel_iff, Nat.add_assoc, Nat.reduceAdd, Nat.add_left_cancel_iff, Nat.reduceEqDiff, ↓reduceIte, List.map, Nat.left_eq_add, reduceCtorEq, Nat.add_eq_left, Nat.succ_ne_self]
  · show _ = _; simp only [alloc_get, size_alloc, Nat.add_right_cancel_iff, Nat.add_assoc, Nat.reduceAdd, Nat.add_left_cancel_iff, Nat.reduceEqDiff, ↓reduceIte, List.map, Nat.left_eq_add, reduceCtorEq, Nat.add_eq_left, Nat.succ_ne_self]
  · show _ = _; simp only [alloc_get, size_alloc, Nat.add_right_cancel_iff, Nat.add_assoc, Nat.reduceAdd, Nat.add_left_cancel_iff, Nat.reduceEqDiff, ↓reduceIte, List.map, Nat.left_eq_add, reduceCtorEq, Nat.add_eq_left, Nat.succ_ne_self]
  · show _ = _; simp only [alloc_get, size_alloc, Nat.add_assoc, Nat.reduceAdd, Nat.add_left_cancel_iff, Nat.reduceEqDiff, ↓reduceIte, aaaa, bbbb]
  · show _ = _; simp only [alloc_get, size_alloc, Nat.add_right_cancel_iff, Nat.add_assoc, Nat.reduceAdd, Nat.add_left_cancel_iff, Nat.reduceEqDiff, ↓reduceIte, List.map, Nat.left_eq_add, reduceCtorEq, Nat.add_eq_left, Nat.succ_ne_self]
  · show _ = _; simp only [alloc_get, size_alloc, Nat.add_right_cancel_iff, Nat.add_assoc, Nat.reduceAdd, Nat.add_left_cancel_iff, Nat.reduceEqDiff, ↓reduceIte, List.map, Nat.left_eq_add, reduceCtorEq, Nat.add_eq_left, Nat.succ_ne_self]
  · show _ = _; simp only [alloc_get, size_alloc, Nat.add_assoc, Nat.reduceAdd, Nat.add_left_cancel_iff, Nat.reduceEqDiff, ↓reduceIte, nOld]
  · exact ((((((((Below.refl _ _).alloc (Nat.le_refl _) _).alloc (by simp) _).alloc (by simp; omega) _).alloc (by simp; omega) _).alloc (by simp; omega) _).alloc (by simp; omega) _).alloc (by simp; omega) _).alloc (by simp; omega) _

theorem PairW.below {n : Nat} {W W' : World} {R T : List Int} (h : PairW n W R T) {k : Nat} (hb : Below k W W') (hk : n + 8 ≤ k) : PairW n W' R T :=
  ⟨(hb.block _ (by omega)).trans h.root, (hb.block _ (by omega)).trans h.ta, (hb.block _ (by omega)).trans h.tb, (hb.block _ (by omega)).trans h.slots, (hb.block _ (by omega)).trans h.refs, (hb.block _ (by omega)).trans h.sroot, (hb.block _ (by omega)).trans h.snaps⟩
theorem PairW.size {n : Nat} {W : World} {R T : List Int} (h : PairW n W R T) : n + 8 ≤ W.heap.size := by
  have := (Array.getElem?_eq_some_iff.1 h.snaps).1; omega
theorem cell_of {W : World} {g : Nat} {A : Array Value} {t : TypeId} {fr : Nat × Nat} (h : W.heap[g]? = some (.cells A t fr)) {j : Nat} {v : Value} (hv : A[j]? = some v) : W.cell? ⟨g, j, none⟩ = some v := by
  simp [World.cell?, h, hv]
theorem PairW.img {n : Nat} {W : World} {R T : List Int} (h : PairW n W R T) (hR : R.length = 5) (hT : T.length = 4) (g : Int) :
    Img W (.agg #[.int .i64 g, .slice (some ⟨n + 1, 0, none⟩) 2 2, .slice (some ⟨n + 4, 0, none⟩) 5 5, .slice (some ⟨n + 5, 0, none⟩) 5 5, .slice (some ⟨n + 7, 0, none⟩) 1 1]) (pairD g R T) := by
  refine ⟨_, _, _, _, rfl, h.root.sl rfl (by decide), ⟨some ⟨n + 4, 0, none⟩, 5, rfl, show (5 : Nat) ≤ maxLen by decide, Nat.le_refl _, fun _ => ⟨n + 4, 0, rfl, (Array.getElem?_eq_some_iff.1 h.slots).1, ?_⟩⟩, h.refs.sl hR (by decide), ⟨some ⟨n + 7, 0, none⟩, 1, rfl, show (1 : Nat) ≤ maxLen by decide, Nat.le_refl _, fun _ => ⟨n + 7, 0, rfl, (Array.getElem?_eq_some_iff.1 h.snaps).1, ?_⟩⟩⟩
  · intro j hj
    have h5 : j < 5 := hj
    match j, h5 with
    | 0, _ => exact ⟨_, cell_of h.slots rfl, cell_of h.slots rfl, cell_of h.slots rfl, Sl.nil W⟩
    | 1, _ => exact ⟨_, cell_of h.slots rfl, cell_of h.slots rfl, cell_of h.slots rfl, Sl.nil W⟩
    | 2, _ => exact ⟨_, cell_of h.slots rfl, cell_of h.slots rfl, cell_of h.slots rfl, h.ta.sl rfl (by decide)⟩
    | 3, _ => exact ⟨_, cell_of h.slots rfl, cell_of h.slots rfl, cell_of h.slots rfl, Sl.nil W⟩
    | 4, _ => exact ⟨_, cell_of h.slots rfl, cell_of h.slots rfl, cell_of h.slots rfl, h.tb.sl hT (by decide)⟩
  · intro j hj
    have h1 : j < 1 := hj
    match j, h1 with
    | 0, _ => exact ⟨_, cell_of h.snaps rfl, cell_of h.snaps rfl, cell_of h.snaps rfl, h.sroot.sl rfl (by decide)⟩
theorem LAt.other {W : World} {g g' : Nat} {l : List Int} (h : LAt W g l) (hne : g ≠ g') (j : Nat) (v : Value) : LAt (W.setCell ⟨g', j, none⟩ v) g l := ((Only.set g' W j v).block g hne).trans h
theorem pair_is (w : World) : Calls Try.prog 32 #[] w fun r w' => (∃ v, r = .returned v ∧ Img w' v (pairD 6 [0, 2, 2, 1, 1] [3, 0, 0, 0])) ∧ Below w.heap.size w w' :=
  (pair_at w).mono fun _ _ h => ⟨⟨_, h.1, h.2.1.img rfl rfl 6⟩, h.2.2⟩
end Go.Proofs.Ytehleeibgkpjmag
/- The image of pair: what is decided of it. -/
namespace Go.Proofs.Ytehleeibgkpjmag
open Go.RowKit Go.Shelf
set_option maxRecDepth 20000

abbrev pD : ImgD := pairD 6 [0, 2, 2, 1, 1] [3, 0, 0, 0]
theorem pD_check : checkE pD = 0 := by decide +kernel
end Go.Proofs.Ytehleeibgkpjmag
