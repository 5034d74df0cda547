/- Texts joined: SkV, FrI, SkC, PDec, SameInts, WBegun, SBegun, SameI. -/
import Derived.Test.YtehleeibgkpjmaeGreatStackTellsJ5
import Derived.Test.YtehleeibgkpjmaeGreatStackTellsJ1
import Derived.Test.YtehleeibgkpjmaeGreatStackTellsJ10
import Derived.Test.YtehleeibgkpjmaeGreatStackTellsJ13
import Derived.Deep.QuietTactic
import Derived.BigQuiet
import Derived.Test.YtehleeibgkpjmaeGreatStackTellsJ3
import Derived.Deep.RegionHeld3
namespace Go.Proofs.YtehleeibgkpjmaeGreat
open Go.RowKit Go.Shelf
set_option maxRecDepth 20000
set_option linter.unusedVariables false
set_option linter.unusedSimpArgs false
def OI2 (w1 w2 : World) (v : Value) (M : ImgD) : Prop := ∀ W', (∀ q, w1.heap.size ≤ q → W'.heap[q]? = w2.heap[q]?) → Img W' v M
theorem Img.within {W W' : World} {v : Value} {M : ImgD} (h : Img W v M) (hs : W.heap.size ≤ W'.heap.size) (hk : ∀ q, q < W.heap.size → W'.heap[q]? = W.heap[q]?) : Img W' v M := by
 have hb : Below W.heap.size W { W with heap := W'.heap } := ⟨rfl, rfl, rfl, hs, fun g hg => hk g hg⟩
 have h2 := h.below hb
 exact h2
theorem OI2.keep {w1 w2 W' : World} {v : Value} {M : ImgD} (h : OI2 w1 w2 v M) (hs : w2.heap.size ≤ W'.heap.size) (hk : ∀ q, w1.heap.size ≤ q → q < w2.heap.size → W'.heap[q]? = w2.heap[q]?) : Img W' v M := by
 have hx : ∀ q, (W'.heap.extract 0 w2.heap.size)[q]? = if q < w2.heap.size then W'.heap[q]? else none := fun q => by
  by_cases hq : q < w2.heap.size
  ·rw [if_pos hq, Array.getElem?_extract]
   simp; omega
  ·rw [if_neg hq]
   exact Array.getElem?_eq_none (by simp; omega)
 have hY : Img { W' with heap := W'.heap.extract 0 w2.heap.size } v M := h _ (fun q hq => by
  show (W'.heap.extract 0 w2.heap.size)[q]? = _
  rw [hx]
  by_cases hq2 : q < w2.heap.size
  ·rw [if_pos hq2]; exact hk q hq hq2
  ·rw [if_neg hq2]; exact (Array.getElem?_eq_none (by omega)).symm)
 refine hY.within (by show (W'.heap.extract 0 w2.heap.size).size ≤ _; simp; omega) (fun q hq => ?_)
 have hq : q < (W'.heap.extract 0 w2.heap.size).size := hq
 show _ = (W'.heap.extract 0 w2.heap.size)[q]?
 rw [hx, if_pos (by simp at hq; omega)]
set_option maxHeartbeats 4000000 in
theorem stkW_bad (ba : Option Addr) (bc : Nat) (ra : Option Addr) (rc : Nat) (sa : Option Addr) (sc : Nat) (fa : Option Addr) (fc : Nat) (na : Option Addr) (nc : Nat) (b : List ByteArray) (m : ImgD) (n : Int) (page : ByteArray) (w : World) (hS : Ss w (.slice ba b.length bc) b) (hI : Img w (.agg #[.int .i64 m.guest, .slice ra m.root.length rc, .slice sa m.slots.length sc, .slice fa m.refs.length fc, .slice na m.snaps.length nc]) m) (E : Int) (hE : scE b m = E) (hne : (E != 0) = true) :
  Calls Tryz.prog 8 #[.agg #[.slice ba b.length bc, .int .i64 m.guest, .slice ra m.root.length rc, .slice sa m.slots.length sc, .slice fa m.refs.length fc, .slice na m.snaps.length nc], .int .i64 n, .string page] w (AnsK w [] imgZ E) := by
 have b0 : Below w.heap.size w ((w.alloc (.cells #[.slice ba b.length bc, .int .i64 m.guest, .slice ra m.root.length rc, .slice sa m.slots.length sc, .slice fa m.refs.length fc, .slice na m.snaps.length nc] 29)).alloc (.cells #[.slice none 0 0, .int .i64 0, .slice none 0 0, .slice none 0 0, .slice none 0 0, .slice none 0 0] 29)) := ((Below.refl _ _).alloc (Nat.le_refl _) _).alloc (by simp) _
 have q0 : ((w.alloc (.cells #[.slice ba b.length bc, .int .i64 m.guest, .slice ra m.root.length rc, .slice sa m.slots.length sc, .slice fa m.refs.length fc, .slice na m.snaps.length nc] 29)).alloc (.cells #[.slice none 0 0, .int .i64 0, .slice none 0 0, .slice none 0 0, .slice none 0 0, .slice none 0 0] 29)).heap[w.heap.size]? = some (.cells #[.slice ba b.length bc, .int .i64 m.guest, .slice ra m.root.length rc, .slice sa m.slots.length sc, .slice fa m.refs.length fc, .slice na m.snaps.length nc] 29) := cells_alloc (World.alloc_heap_new _ _) _
 have r0 : ((w.alloc (.cells #[.slice ba b.length bc, .int .i64 m.guest, .slice ra m.root.length rc, .slice sa m.slots.length sc, .slice fa m.refs.length fc, .slice na m.snaps.length nc] 29)).alloc (.cells #[.slice none 0 0, .int .i64 0, .slice none 0 0, .slice none 0 0, .slice none 0 0, .slice none 0 0] 29)).heap[w.heap.size + 1]? = some (.cells #[.slice none 0 0, .int .i64 0, .slice none 0 0, .slice none 0 0, .slice none 0 0, .slice none 0 0] 29) := by have := World.alloc_heap_new (w.alloc (.cells #[.slice ba b.length bc, .int .i64 m.guest, .slice ra m.root.length rc, .slice sa m.slots.length sc, .slice fa m.refs.length fc, .slice na m.snaps.length nc] 29)) (.cells #[.slice none 0 0, .int .i64 0, .slice none 0 0, .slice none 0 0, .slice none 0 0, .slice none 0 0] 29); simpa using this
 have hsz : w.heap.size + 1 < ((w.alloc (.cells #[.slice ba b.length bc, .int .i64 m.guest, .slice ra m.root.length rc, .slice sa m.slots.length sc, .slice fa m.refs.length fc, .slice na m.snaps.length nc] 29)).alloc (.cells #[.slice none 0 0, .int .i64 0, .slice none 0 0, .slice none 0 0, .slice none 0 0, .slice none 0 0] 29)).heap.size := by simp
 obtain ⟨c0, c1, c2, c3, c4, c5⟩ := six q0
 have hS1 := hS.below b0
 have hI1 := hI.below b0
 have hck := ckStk_is (w := ((w.alloc (.cells #[.slice ba b.length bc, .int .i64 m.guest, .slice ra m.root.length rc, .slice sa m.slots.length sc, .slice fa m.refs.length fc, .slice na m.snaps.length nc] 29)).alloc (.cells #[.slice none 0 0, .int .i64 0, .slice none 0 0, .slice none 0 0, .slice none 0 0, .slice none 0 0] 29))) (v := .agg #[.slice ba b.length bc, .int .i64 m.guest, .slice ra m.root.length rc, .slice sa m.slots.length sc, .slice fa m.refs.length fc, .slice na m.snaps.length nc]) ⟨_, _, _, _, _, rfl, hS1, hI1⟩ hE
 clear hS hI hI1 hS1 hE
 go_enter Tryz.func8, Tryz.ntmps8
 go_wp2_with (go_at_call 11; refine hck.mono ?_; rintro e w1 ⟨rfl, b1⟩; have q1 := cells_below q0 b1 (by omega); have r1 := cells_below r0 b1 hsz; obtain ⟨d0, d1, d2, d3, d4, d5⟩ := six q1; obtain ⟨x0, x1, x2, x3, x4, x5⟩ := six r1; have y0 := cells_frozen r1 0; have y1 := cells_frozen r1 1; have y2 := cells_frozen r1 2; have y3 := cells_frozen r1 3; have y4 := cells_frozen r1 4; have y5 := cells_frozen r1 5)
 refine bodyPost_ret (v := .tuple #[.agg #[.slice none 0 0, .int .i64 0, .slice none 0 0, .slice none 0 0, .slice none 0 0, .slice none 0 0], .int .i64 E]) (by simp [results, Tryz.results8, go_sem, x0, x1, x2, x3, x4, x5]) rfl ⟨_, rfl, Stk.zero _, six_below (Below.on b0 b1) _ _ _ _ _ _⟩
set_option maxHeartbeats 4000000 in
theorem stkW_err (ba : Option Addr) (bc : Nat) (ra : Option Addr) (rc : Nat) (sa : Option Addr) (sc : Nat) (fa : Option Addr) (fc : Nat) (na : Option Addr) (nc : Nat) (b : List ByteArray) (m : ImgD) (n : Int) (page : ByteArray) (w : World) (hS : Ss w (.slice ba b.length bc) b) (hI : Img w (.agg #[.int .i64 m.guest, .slice ra m.root.length rc, .slice sa m.slots.length sc, .slice fa m.refs.length fc, .slice na m.snaps.length nc]) m) (hC : scE b m = 0) (M : ImgD) (E : Int) (hE : wrE m n page = E) (hM : wrM m n page = M) (hne : (E != 0) = true) :
  Calls Tryz.prog 8 #[.agg #[.slice ba b.length bc, .int .i64 m.guest, .slice ra m.root.length rc, .slice sa m.slots.length sc, .slice fa m.refs.length fc, .slice na m.snaps.length nc], .int .i64 n, .string page] w (AnsK w [] imgZ E) := by
 have b0 : Below w.heap.size w ((w.alloc (.cells #[.slice ba b.length bc, .int .i64 m.guest, .slice ra m.root.length rc, .slice sa m.slots.length sc, .slice fa m.refs.length fc, .slice na m.snaps.length nc] 29)).alloc (.cells #[.slice none 0 0, .int .i64 0, .slice none 0 0, .slice none 0 0, .slice none 0 0, .slice none 0 0] 29)) := ((Below.refl _ _).alloc (Nat.le_refl _) _).alloc (by simp) _
 have q0 : ((w.alloc (.cells #[.slice ba b.length bc, .int .i64 m.guest, .slice ra m.root.length rc, .slice sa m.slots.length sc, .slice fa m.refs.length fc, .slice na m.snaps.length nc] 29)).alloc (.cells #[.slice none 0 0, .int .i64 0, .slice none 0 0, .slice none 0 0, .slice none 0 0, .slice none 0 0] 29)).heap[w.heap.size]? = some (.cells #[.slice ba b.length bc, .int .i64 m.guest, .slice ra m.root.length rc, .slice sa m.slots.length sc, .slice fa m.refs.length fc, .slice na m.snaps.length nc] 29) := cells_alloc (World.alloc_heap_new _ _) _
 have r0 : ((w.alloc (.cells #[.slice ba b.length bc, .int .i64 m.guest, .slice ra m.root.length rc, .slice sa m.slots.length sc, .slice fa m.refs.length fc, .slice na m.snaps.length nc] 29)).alloc (.cells #[.slice none 0 0, .int .i64 0, .slice none 0 0, .slice none 0 0, .slice none 0 0, .slice none 0 0] 29)).heap[w.heap.size + 1]? = some (.cells #[.slice none 0 0, .int .i64 0, .slice none 0 0, .slice none 0 0, .slice none 0 0, .slice none 0 0] 29) := by have := World.alloc_heap_new (w.alloc (.cells #[.slice ba b.length bc, .int .i64 m.guest, .slice ra m.root.length rc, .slice sa m.slots.length sc, .slice fa m.refs.length fc, .slice na m.snaps.length nc] 29)) (.cells #[.slice none 0 0, .int .i64 0, .slice none 0 0, .slice none 0 0, .slice none 0 0, .slice none 0 0] 29); simpa using this
 have hsz : w.heap.size + 1 < ((w.alloc (.cells #[.slice ba b.length bc, .int .i64 m.guest, .slice ra m.root.length rc, .slice sa m.slots.length sc, .slice fa m.refs.length fc, .slice na m.snaps.length nc] 29)).alloc (.cells #[.slice none 0 0, .int .i64 0, .slice none 0 0, .slice none 0 0, .slice none 0 0, .slice none 0 0] 29)).heap.size := by simp
 obtain ⟨c0, c1, c2, c3, c4, c5⟩ := six q0
 have hS1 := hS.below b0
 have hI1 := hI.below b0
 have hck := ckStk_is (w := ((w.alloc (.cells #[.slice ba b.length bc, .int .i64 m.guest, .slice ra m.root.length rc, .slice sa m.slots.length sc, .slice fa m.refs.length fc, .slice na m.snaps.length nc] 29)).alloc (.cells #[.slice none 0 0, .int .i64 0, .slice none 0 0, .slice none 0 0, .slice none 0 0, .slice none 0 0] 29))) (v := .agg #[.slice ba b.length bc, .int .i64 m.guest, .slice ra m.root.length rc, .slice sa m.slots.length sc, .slice fa m.refs.length fc, .slice na m.snaps.length nc]) ⟨_, _, _, _, _, rfl, hS1, hI1⟩ hC
 have HWr : Hid (∀ w1, Below ((w.alloc (.cells #[.slice ba b.length bc, .int .i64 m.guest, .slice ra m.root.length rc, .slice sa m.slots.length sc, .slice fa m.refs.length fc, .slice na m.snaps.length nc] 29)).alloc (.cells #[.slice none 0 0, .int .i64 0, .slice none 0 0, .slice none 0 0, .slice none 0 0, .slice none 0 0] 29)).heap.size ((w.alloc (.cells #[.slice ba b.length bc, .int .i64 m.guest, .slice ra m.root.length rc, .slice sa m.slots.length sc, .slice fa m.refs.length fc, .slice na m.snaps.length nc] 29)).alloc (.cells #[.slice none 0 0, .int .i64 0, .slice none 0 0, .slice none 0 0, .slice none 0 0, .slice none 0 0] 29)) w1 → Calls Tryz.prog 21 #[.agg #[.int .i64 m.guest, .slice ra m.root.length rc, .slice sa m.slots.length sc, .slice fa m.refs.length fc, .slice na m.snaps.length nc], .int .i64 n, .string page] w1 (AnsJ w1 M E)) := fun w1 b1 => writeOf_is (hI1.below b1) n page hM hE
 clear hS hI hI1 hS1 hE hM hC
 go_enter Tryz.func8, Tryz.ntmps8
 go_wp2_with (first | (go_at_call 21; refine (HWr.out w1 b1).mono ?_; rintro e w2 ⟨g0, k0, g1, k1, g2, k2, g3, k3, rfl, hst, b2⟩; have q2 := cells_alloc (cells_below q1 b2 (by have := b1.size; omega)) (.cells #[.int .i64 M.guest, .slice g0 M.root.length k0, .slice g1 M.slots.length k1, .slice g2 M.refs.length k2, .slice g3 M.snaps.length k3] 27); have r2 := cells_alloc (cells_below r1 b2 (by have := b1.size; omega)) (.cells #[.int .i64 M.guest, .slice g0 M.root.length k0, .slice g1 M.slots.length k1, .slice g2 M.refs.length k2, .slice g3 M.snaps.length k3] 27); have m2 : (w2.alloc (.cells #[.int .i64 M.guest, .slice g0 M.root.length k0, .slice g1 M.slots.length k1, .slice g2 M.refs.length k2, .slice g3 M.snaps.length k3] 27)).heap[w2.heap.size]? = some (.cells #[.int .i64 M.guest, .slice g0 M.root.length k0, .slice g1 M.slots.length k1, .slice g2 M.refs.length k2, .slice g3 M.snaps.length k3] 27) := World.alloc_heap_new _ _; obtain ⟨f0, f1, f2, f3, f4, f5⟩ := six q2; obtain ⟨x0, x1, x2, x3, x4, x5⟩ := six r2; have y0 := cells_frozen r2 0; have y1 := cells_frozen r2 1; have y2 := cells_frozen r2 2; have y3 := cells_frozen r2 3; have y4 := cells_frozen r2 4; have y5 := cells_frozen r2 5; obtain ⟨m0, m1, m3, m4, m5⟩ := five m2) | (go_at_call 11; refine hck.mono ?_; rintro e w1 ⟨rfl, b1⟩; have q1 := cells_below q0 b1 (by omega); have r1 := cells_below r0 b1 hsz; obtain ⟨d0, d1, d2, d3, d4, d5⟩ := six q1; obtain ⟨x0, x1, x2, x3, x4, x5⟩ := six r1; have y0 := cells_frozen r1 0; have y1 := cells_frozen r1 1; have y2 := cells_frozen r1 2; have y3 := cells_frozen r1 3; have y4 := cells_frozen r1 4; have y5 := cells_frozen r1 5))
 refine bodyPost_ret (v := .tuple #[.agg #[.slice none 0 0, .int .i64 0, .slice none 0 0, .slice none 0 0, .slice none 0 0, .slice none 0 0], .int .i64 E]) (by simp [results, Tryz.results8, go_sem, x0, x1, x2, x3, x4, x5]) rfl ⟨_, rfl, Stk.zero _, six_below ((Below.on (Below.on b0 b1) b2).alloc (by have := b1.size; have := b2.size; omega) _) _ _ _ _ _ _⟩
set_option maxHeartbeats 8000000 in
theorem stkW_ok (ba : Option Addr) (bc : Nat) (ra : Option Addr) (rc : Nat) (sa : Option Addr) (sc : Nat) (fa : Option Addr) (fc : Nat) (na : Option Addr) (nc : Nat) (b : List ByteArray) (m : ImgD) (n : Int) (page : ByteArray) (w : World) (hS : Ss w (.slice ba b.length bc) b) (hI : Img w (.agg #[.int .i64 m.guest, .slice ra m.root.length rc, .slice sa m.slots.length sc, .slice fa m.refs.length fc, .slice na m.snaps.length nc]) m) (hC : scE b m = 0) (M : ImgD) (hE : wrE m n page = 0) (hM : wrM m n page = M) :
  Calls Tryz.prog 8 #[.agg #[.slice ba b.length bc, .int .i64 m.guest, .slice ra m.root.length rc, .slice sa m.slots.length sc, .slice fa m.refs.length fc, .slice na m.snaps.length nc], .int .i64 n, .string page] w (AnsK w b M 0) := by
 have b0 : Below w.heap.size w ((w.alloc (.cells #[.slice ba b.length bc, .int .i64 m.guest, .slice ra m.root.length rc, .slice sa m.slots.length sc, .slice fa m.refs.length fc, .slice na m.snaps.length nc] 29)).alloc (.cells #[.slice none 0 0, .int .i64 0, .slice none 0 0, .slice none 0 0, .slice none 0 0, .slice none 0 0] 29)) := ((Below.refl _ _).alloc (Nat.le_refl _) _).alloc (by simp) _
 have q0 : ((w.alloc (.cells #[.slice ba b.length bc, .int .i64 m.guest, .slice ra m.root.length rc, .slice sa m.slots.length sc, .slice fa m.refs.length fc, .slice na m.snaps.length nc] 29)).alloc (.cells #[.slice none 0 0, .int .i64 0, .slice none 0 0, .slice none 0 0, .slice none 0 0, .slice none 0 0] 29)).heap[w.heap.size]? = some (.cells #[.slice ba b.length bc, .int .i64 m.guest, .slice ra m.root.length rc, .slice sa m.slots.length sc, .slice fa m.refs.length fc, .slice na m.snaps.length nc] 29) := cells_alloc (World.alloc_heap_new _ _) _
 have r0 : ((w.alloc (.cells #[.slice ba b.length bc, .int .i64 m.guest, .slice ra m.root.length rc, .slice sa m.slots.length sc, .slice fa m.refs.length fc, .slice na m.snaps.length nc] 29)).alloc (.cells #[.slice none 0 0, .int .i64 0, .slice none 0 0, .slice none 0 0, .slice none 0 0, .slice none 0 0] 29)).heap[w.heap.size + 1]? = some (.cells #[.slice none 0 0, .int .i64 0, .slice none 0 0, .slice none 0 0, .slice none 0 0, .slice none 0 0] 29) := by have := World.alloc_heap_new (w.alloc (.cells #[.slice ba b.length bc, .int .i64 m.guest, .slice ra m.root.length rc, .slice sa m.slots.length sc, .slice fa m.refs.length fc, .slice na m.snaps.length nc] 29)) (.cells #[.slice none 0 0, .int .i64 0, .slice none 0 0, .slice none 0 0, .slice none 0 0, .slice none 0 0] 29); simpa using this
 have hsz : w.heap.size + 1 < ((w.alloc (.cells #[.slice ba b.length bc, .int .i64 m.guest, .slice ra m.root.length rc, .slice sa m.slots.length sc, .slice fa m.refs.length fc, .slice na m.snaps.length nc] 29)).alloc (.cells #[.slice none 0 0, .int .i64 0, .slice none 0 0, .slice none 0 0, .slice none 0 0, .slice none 0 0] 29)).heap.size := by simp
 obtain ⟨c0, c1, c2, c3, c4, c5⟩ := six q0
 have hS1 := hS.below b0
 have hI1 := hI.below b0
 have hck := ckStk_is (w := ((w.alloc (.cells #[.slice ba b.length bc, .int .i64 m.guest, .slice ra m.root.length rc, .slice sa m.slots.length sc, .slice fa m.refs.length fc, .slice na m.snaps.length nc] 29)).alloc (.cells #[.slice none 0 0, .int .i64 0, .slice none 0 0, .slice none 0 0, .slice none 0 0, .slice none 0 0] 29))) (v := .agg #[.slice ba b.length bc, .int .i64 m.guest, .slice ra m.root.length rc, .slice sa m.slots.length sc, .slice fa m.refs.length fc, .slice na m.snaps.length nc]) ⟨_, _, _, _, _, rfl, hS1, hI1⟩ hC
 have HWr : Hid (∀ w1, Below ((w.alloc (.cells #[.slice ba b.length bc, .int .i64 m.guest, .slice ra m.root.length rc, .slice sa m.slots.length sc, .slice fa m.refs.length fc, .slice na m.snaps.length nc] 29)).alloc (.cells #[.slice none 0 0, .int .i64 0, .slice none 0 0, .slice none 0 0, .slice none 0 0, .slice none 0 0] 29)).heap.size ((w.alloc (.cells #[.slice ba b.length bc, .int .i64 m.guest, .slice ra m.root.length rc, .slice sa m.slots.length sc, .slice fa m.refs.length fc, .slice na m.snaps.length nc] 29)).alloc (.cells #[.slice none 0 0, .int .i64 0, .slice none 0 0, .slice none 0 0, .slice none 0 0, .slice none 0 0] 29)) w1 → Calls Tryz.prog 21 #[.agg #[.int .i64 m.guest, .slice ra m.root.length rc, .slice sa m.slots.length sc, .slice fa m.refs.length fc, .slice na m.snaps.length nc], .int .i64 n, .string page] w1 (AnsJ w1 M 0)) := fun w1 b1 => writeOf_is (hI1.below b1) n page hM hE
 have HLn : Hid (b.length ≤ 1000) := by have := (ckP_parts (scE_zero hC).1).1; show b.length ≤ 1000; omega
 have HS : Hid (∀ {w1 w2 : World} (o : Obj), Below ((w.alloc (.cells #[.slice ba b.length bc, .int .i64 m.guest, .slice ra m.root.length rc, .slice sa m.slots.length sc, .slice fa m.refs.length fc, .slice na m.snaps.length nc] 29)).alloc (.cells #[.slice none 0 0, .int .i64 0, .slice none 0 0, .slice none 0 0, .slice none 0 0, .slice none 0 0] 29)).heap.size ((w.alloc (.cells #[.slice ba b.length bc, .int .i64 m.guest, .slice ra m.root.length rc, .slice sa m.slots.length sc, .slice fa m.refs.length fc, .slice na m.snaps.length nc] 29)).alloc (.cells #[.slice none 0 0, .int .i64 0, .slice none 0 0, .slice none 0 0, .slice none 0 0, .slice none 0 0] 29)) w1 → Below w1.heap.size w1 w2 → Ss ((w2.alloc o).alloc (.cells #[] 9)) (.slice ba b.length bc) b) := fun o b1 b2 => (((hS1.below b1).below b2).below ((Below.refl _ _).alloc (Nat.le_refl _) o)).below ((Below.refl _ _).alloc (Nat.le_refl _) _)
 clear hS hI hI1 hS1 hE hM hC
 go_enter Tryz.func8, Tryz.ntmps8
 go_wp2_with (first | (go_at_call 21; refine (HWr.out w1 b1).mono ?_; rintro e w2 ⟨g0, k0, g1, k1, g2, k2, g3, k3, rfl, hst, b2⟩; have q2 := cells_alloc (cells_below q1 b2 (by have := b1.size; omega)) (.cells #[.int .i64 M.guest, .slice g0 M.root.length k0, .slice g1 M.slots.length k1, .slice g2 M.refs.length k2, .slice g3 M.snaps.length k3] 27); have r2 := cells_alloc (cells_below r1 b2 (by have := b1.size; omega)) (.cells #[.int .i64 M.guest, .slice g0 M.root.length k0, .slice g1 M.slots.length k1, .slice g2 M.refs.length k2, .slice g3 M.snaps.length k3] 27); have m2 : (w2.alloc (.cells #[.int .i64 M.guest, .slice g0 M.root.length k0, .slice g1 M.slots.length k1, .slice g2 M.refs.length k2, .slice g3 M.snaps.length k3] 27)).heap[w2.heap.size]? = some (.cells #[.int .i64 M.guest, .slice g0 M.root.length k0, .slice g1 M.slots.length k1, .slice g2 M.refs.length k2, .slice g3 M.snaps.length k3] 27) := World.alloc_heap_new _ _; obtain ⟨f0, f1, f2, f3, f4, f5⟩ := six q2; obtain ⟨x0, x1, x2, x3, x4, x5⟩ := six r2; have y0 := cells_frozen r2 0; have y1 := cells_frozen r2 1; have y2 := cells_frozen r2 2; have y3 := cells_frozen r2 3; have y4 := cells_frozen r2 4; have y5 := cells_frozen r2 5; obtain ⟨m0, m1, m3, m4, m5⟩ := five m2) | (go_at_call 11; refine hck.mono ?_; rintro e w1 ⟨rfl, b1⟩; have q1 := cells_below q0 b1 (by omega); have r1 := cells_below r0 b1 hsz; obtain ⟨d0, d1, d2, d3, d4, d5⟩ := six q1; obtain ⟨x0, x1, x2, x3, x4, x5⟩ := six r1; have y0 := cells_frozen r1 0; have y1 := cells_frozen r1 1; have y2 := cells_frozen r1 2; have y3 := cells_frozen r1 3; have y4 := cells_frozen r1 4; have y5 := cells_frozen r1 5))
 refine wp_region_held_drew (S := (fun X : World => X.heap[w.heap.size]? = some (.cells #[.slice ba b.length bc, .int .i64 m.guest, .slice ra m.root.length rc, .slice sa m.slots.length sc, .slice fa m.refs.length fc, .slice na m.snaps.length nc] 29) ∧ X.heap[w2.heap.size]? = some (.cells #[.int .i64 M.guest, .slice g0 M.root.length k0, .slice g1 M.slots.length k1, .slice g2 M.refs.length k2, .slice g3 M.snaps.length k3] 27))) (by kernel_rfl) ⟨q2, m2⟩ (fun hHeld => ?_)
 refine tkH 1 (.pointer (some ⟨w.heap.size, 0, none⟩)) rfl (Or.inl ⟨by rfl, fun w' hSw => by obtain ⟨qa, qb⟩ := hSw; obtain ⟨j0, j1, j2, j3, j4, j5⟩ := six qa; obtain ⟨i0, i1, i2, i3, i4⟩ := five qb; go_simp⟩) hHeld ?_
 simp only [lays]
 refine tkH 2 (.slice ba b.length bc) rfl (Or.inl ⟨by rfl, fun w' hSw => by obtain ⟨qa, qb⟩ := hSw; obtain ⟨j0, j1, j2, j3, j4, j5⟩ := six qa; obtain ⟨i0, i1, i2, i3, i4⟩ := five qb; go_simp⟩) hHeld ?_
 simp only [lays]
 refine tkH 4 (.agg #[.int .i64 M.guest, .slice g0 M.root.length k0, .slice g1 M.slots.length k1, .slice g2 M.refs.length k2, .slice g3 M.snaps.length k3]) rfl (Or.inl ⟨by rfl, fun w' hSw => by obtain ⟨qa, qb⟩ := hSw; obtain ⟨j0, j1, j2, j3, j4, j5⟩ := six qa; obtain ⟨i0, i1, i2, i3, i4⟩ := five qb; go_simp⟩) hHeld ?_
 simp only [lays]
 refine wpAnyH_ready (rs := [0]) (by kernel_rfl) (by simp) ?_
 refine AllReadyH.cons rfl (fun K hK => ?_) AllReadyH.nil
 clear hHeld
 simp only [lays]
 rw [if_pos (by rfl)]
 go_simp
 have q3 := cells_alloc q2 (.cells #[] 9)
 have r3 := cells_alloc r2 (.cells #[] 9)
 have m3' := cells_alloc m2 (.cells #[] 9)
 have n3 : ((w2.alloc (.cells #[.int .i64 M.guest, .slice g0 M.root.length k0, .slice g1 M.slots.length k1, .slice g2 M.refs.length k2, .slice g3 M.snaps.length k3] 27)).alloc (.cells #[] 9)).heap[w2.heap.size + 1]? = some (.cells #[] 9) := by have := World.alloc_heap_new (w2.alloc (.cells #[.int .i64 M.guest, .slice g0 M.root.length k0, .slice g1 M.slots.length k1, .slice g2 M.refs.length k2, .slice g3 M.snaps.length k3] 27)) (.cells #[] 9); simpa using this
 have hS3 : Ss ((w2.alloc (.cells #[.int .i64 M.guest, .slice g0 M.root.length k0, .slice g1 M.slots.length k1, .slice g2 M.refs.length k2, .slice g3 M.snaps.length k3] 27)).alloc (.cells #[] 9)) (.slice ba b.length bc) b := HS.out _ b1 b2
 have b3 : Below w.heap.size w ((w2.alloc (.cells #[.int .i64 M.guest, .slice g0 M.root.length k0, .slice g1 M.slots.length k1, .slice g2 M.refs.length k2, .slice g3 M.snaps.length k3] 27)).alloc (.cells #[] 9)) := ((Below.on (Below.on b0 b1) b2).alloc (by have := b1.size; have := b2.size; omega) _).alloc (by have := b1.size; have := b2.size; simp <;> omega) _
 obtain ⟨X3, hX3⟩ : ∃ Z, ((w2.alloc (.cells #[.int .i64 M.guest, .slice g0 M.root.length k0, .slice g1 M.slots.length k1, .slice g2 M.refs.length k2, .slice g3 M.snaps.length k3] 27)).alloc (.cells #[] 9)).drew = Z := ⟨_, rfl⟩
 replace q3 : X3.heap[w.heap.size]? = some (.cells #[.slice ba b.length bc, .int .i64 m.guest, .slice ra m.root.length rc, .slice sa m.slots.length sc, .slice fa m.refs.length fc, .slice na m.snaps.length nc] 29) := by rw [← hX3]; exact q3
 replace r3 : X3.heap[w.heap.size + 1]? = some (.cells #[.slice none 0 0, .int .i64 0, .slice none 0 0, .slice none 0 0, .slice none 0 0, .slice none 0 0] 29) := by rw [← hX3]; exact r3
 replace m3' : X3.heap[w2.heap.size]? = some (.cells #[.int .i64 M.guest, .slice g0 M.root.length k0, .slice g1 M.slots.length k1, .slice g2 M.refs.length k2, .slice g3 M.snaps.length k3] 27) := by rw [← hX3]; exact m3'
 replace n3 : X3.heap[w2.heap.size + 1]? = some (.cells #[] 9) := by rw [← hX3]; exact n3
 replace hS3 : Ss X3 (.slice ba b.length bc) b := by rw [← hX3]; exact hS3.below (to_drew (Below.refl _ _))
 replace b3 : Below w.heap.size w X3 := by rw [← hX3]; exact to_drew b3
 have hst3 : ∀ W', w2.heap.size ≤ W'.heap.size → (∀ q, w1.heap.size ≤ q → q < w2.heap.size → W'.heap[q]? = X3.heap[q]?) → Img W' (.agg #[.int .i64 M.guest, .slice g0 M.root.length k0, .slice g1 M.slots.length k1, .slice g2 M.refs.length k2, .slice g3 M.snaps.length k3]) M := fun W' hz hW => by
  have hI2 : OI2 w1 w2 (.agg #[.int .i64 M.guest, .slice g0 M.root.length k0, .slice g1 M.slots.length k1, .slice g2 M.refs.length k2, .slice g3 M.snaps.length k3]) M := hst
  exact hI2.keep hz (fun q h1 h2 => (hW q h1 h2).trans (by rw [← hX3]; exact (Below.heap_alloc _ _ q (by simp <;> omega)).trans (Below.heap_alloc _ _ q h2)))
 rw [hX3]
 clear hX3
 refine hK.out _ _ ⟨q3, m3'⟩ (fun hHeld => ?_)
 clear hK K
 try simp only [lays]
 refine wpAnyH_ready (rs := [3]) (by kernel_rfl) (by simp) ?_
 refine AllReadyH.cons rfl (fun K hK => ?_) AllReadyH.nil
 clear hHeld
 simp only [lays]
 rw [if_pos (by rfl)]
 refine wp_copyS _ _ (by rfl) (g := w2.heap.size + 1) (B := w2.heap.size + 1) (by rfl) n3 (Nat.le_refl _) (src := .slice ba b.length bc) (by rfl) hS3 HLn.out ?_
 intro v X4 t1 t2 t3
 obtain ⟨pa, pc, rfl⟩ := row_slice t1.out
 have hk4 : ∀ q, q < w2.heap.size + 1 → X4.heap[q]? = X3.heap[q]? := fun q hq => t2.block q (by have := (szH n3); omega) (fun e => by have := Option.some.inj e; omega)
 have q4 := (hk4 w.heap.size (by have := b1.size; have := b2.size; omega)).trans q3
 have r4 := (hk4 (w.heap.size + 1) (by have := b1.size; have := b2.size; omega)).trans r3
 have m4' := (hk4 w2.heap.size (by omega)).trans m3'
 have b4 : Below w.heap.size w X4 := b3.grown t2 b3.size (fun k e => by have := b1.size; have := b2.size; have := Option.some.inj e; omega)
 refine hK.out _ _ ⟨q4, m4'⟩ (fun hHeld => ?_)
 clear hK K
 try simp only [lays]
 refine tkH 5 (.agg #[.slice pa b.length pc, .int .i64 M.guest, .slice g0 M.root.length k0, .slice g1 M.slots.length k1, .slice g2 M.refs.length k2, .slice g3 M.snaps.length k3]) rfl (Or.inl ⟨by rfl, fun w' hSw => by obtain ⟨qa, qb⟩ := hSw; obtain ⟨j0, j1, j2, j3, j4, j5⟩ := six qa; obtain ⟨i0, i1, i2, i3, i4⟩ := five qb; go_simp⟩) hHeld ?_
 simp only [lays]
 refine wpAnyH_ready (rs := [6]) (by kernel_rfl) (by simp) ?_
 refine AllReadyH.cons rfl (fun K hK => ?_) AllReadyH.nil
 clear hHeld
 simp only [lays]
 rw [if_pos (by rfl)]
 obtain ⟨x0, x1, x2, x3, x4, x5⟩ := six r4
 have y0 := cells_frozen r4 0; have y1 := cells_frozen r4 1; have y2 := cells_frozen r4 2; have y3 := cells_frozen r4 3; have y4 := cells_frozen r4 4; have y5 := cells_frozen r4 5
 go_simp
 refine hK.out _ _ ⟨(heap_six _ _ _ _ _ _ _ (by omega)).trans q4, (heap_six _ _ _ _ _ _ _ (by have := b1.size; have := b2.size; omega)).trans m4'⟩ (fun hHeld => ?_)
 clear hK K
 try simp only [lays]
 refine tkH 7 (.int .i64 0) rfl (Or.inl ⟨by rfl, fun w' hSw => by go_simp⟩) hHeld ?_
 simp only [lays]
 clear hHeld
 refine wpAnyH_done (by kernel_rfl) ?_ _
 go_wp2_with fail
 have hrow := fun a0 a1 a2 a3 a4 a5 => six_far (w := w) t1.out (by have := b1.size; have := b2.size; omega) a0 a1 a2 a3 a4 a5
 have hImg := fun a0 a1 a2 a3 a4 a5 => hst3 _ (by simp; have := (szH m4'); omega) (fun q h1 h2 => (heap_six (w := w) (W := X4) a0 a1 a2 a3 a4 a5 q (by have := b1.size; omega)).trans (hk4 q (by omega)))
 refine bodyPost_ret (v := .tuple #[.agg #[.slice pa b.length pc, .int .i64 M.guest, .slice g0 M.root.length k0, .slice g1 M.slots.length k1, .slice g2 M.refs.length k2, .slice g3 M.snaps.length k3], .int .i64 0]) (by simp [results, Tryz.results8, go_sem, x0, x1, x2, x3, x4, x5]) rfl ⟨_, rfl, ⟨_, _, _, _, _, rfl, row_ss (hrow _ _ _ _ _ _), hImg _ _ _ _ _ _⟩, six_below b4 _ _ _ _ _ _⟩
theorem stkWrite_is {w : World} {v : Value} {b : List ByteArray} {m : ImgD} (h : Stk w v b m) (n : Int) (page : ByteArray) {B : List ByteArray} {M : ImgD} {E : Int} (hE : skE b m n page = E) (hM : skM b m n page = M) (hB : skB b m n page = B) : Calls Tryz.prog 8 #[v, .int .i64 n, .string page] w (AnsK w B M E) := by
 subst hE hM hB
 obtain ⟨ba, bc, ra, rc, sa, sc, fa, fc, na, nc, rfl, hS, hI⟩ := h.parts
 by_cases hC : scE b m = 0
 ·have hne : ¬ scE b m ≠ 0 := by simpa using hC
  have e1 : skE b m n page = wrE m n page := by unfold skE; rw [if_neg hne]
  have e2 : skM b m n page = wrM m n page := by unfold skM; rw [if_neg hne]
  by_cases hW : wrE m n page = 0
  ·have e3 : skB b m n page = b := by unfold skB; rw [if_neg (by rw [e1]; simpa using hW)]
   rw [e1, e2, e3, hW]
   exact stkW_ok ba bc ra rc sa sc fa fc na nc b m n page w hS hI hC _ hW rfl
  ·have e3 : skB b m n page = [] := by unfold skB; rw [if_pos (by rw [e1]; exact hW)]
   rw [e1, e2, e3, wr_bad hW]
   exact stkW_err ba bc ra rc sa sc fa fc na nc b m n page w hS hI hC _ _ rfl rfl (by simpa using hW)
 ·have e1 : skE b m n page = scE b m := by unfold skE; rw [if_pos hC]
  have e2 : skM b m n page = imgZ := by unfold skM; rw [if_pos hC]
  have e3 : skB b m n page = [] := by unfold skB; rw [if_pos (by rw [e1]; exact hC)]
  rw [e1, e2, e3]
  exact stkW_bad ba bc ra rc sa sc fa fc na nc b m n page w hS hI _ rfl (by simpa using hC)
def zD : ImgD := ⟨0, [], [(0, ⟨#[]⟩, [])], [0], []⟩
def freshD (g : Nat) : ImgD := ⟨g, List.replicate ((g + 3) / 4) 0, [(0, ⟨#[]⟩, [])], [0], []⟩
def frsM (g : Int) : ImgD := rzM zD g
def frsE (g : Int) : Int := rzE zD g
theorem frs_is : ∀ k : Nat, k ≤ 16 → frsM k = freshD k ∧ frsE k = 0 ∧ checkE (freshD k) = 0
 | 0, _ => ⟨by kernel_rfl, by decide +kernel, by decide +kernel⟩
 | 1, _ => ⟨by kernel_rfl, by decide +kernel, by decide +kernel⟩
 | 2, _ => ⟨by kernel_rfl, by decide +kernel, by decide +kernel⟩
 | 3, _ => ⟨by kernel_rfl, by decide +kernel, by decide +kernel⟩
 | 4, _ => ⟨by kernel_rfl, by decide +kernel, by decide +kernel⟩
 | 5, _ => ⟨by kernel_rfl, by decide +kernel, by decide +kernel⟩
 | 6, _ => ⟨by kernel_rfl, by decide +kernel, by decide +kernel⟩
 | 7, _ => ⟨by kernel_rfl, by decide +kernel, by decide +kernel⟩
 | 8, _ => ⟨by kernel_rfl, by decide +kernel, by decide +kernel⟩
 | 9, _ => ⟨by kernel_rfl, by decide +kernel, by decide +kernel⟩
 | 10, _ => ⟨by kernel_rfl, by decide +kernel, by decide +kernel⟩
 | 11, _ => ⟨by kernel_rfl, by decide +kernel, by decide +kernel⟩
 | 12, _ => ⟨by kernel_rfl, by decide +kernel, by decide +kernel⟩
 | 13, _ => ⟨by kernel_rfl, by decide +kernel, by decide +kernel⟩
 | 14, _ => ⟨by kernel_rfl, by decide +kernel, by decide +kernel⟩
 | 15, _ => ⟨by kernel_rfl, by decide +kernel, by decide +kernel⟩
 | 16, _ => ⟨by kernel_rfl, by decide +kernel, by decide +kernel⟩
 | k + 17, h => absurd h (by omega)
theorem al2a (W : World) (a b : Obj) : ((W.alloc a).alloc b).heap[W.heap.size]? = some a := (Below.heap_alloc _ _ _ (by simp)).trans (World.alloc_heap_new W a)
theorem al2b (W : World) (a b : Obj) : ((W.alloc a).alloc b).heap[(W.alloc a).heap.size]? = some b := World.alloc_heap_new _ _
theorem zD_img {W : World} {x y : Nat} (hx : W.heap[x]? = some (.cells #[.int .i64 0, .string ⟨#[]⟩, .slice none 0 0] 58)) (hy : W.heap[y]? = some (.cells #[.int .i64 0] 3)) : Img W (.agg #[.int .i64 0, .slice none 0 0, .slice (some ⟨x, 0, none⟩) 1 1, .slice (some ⟨y, 0, none⟩) 1 1, .slice none 0 0]) zD := by
 refine ⟨_, _, _, _, rfl, Sl.nil W, ?_, ?_, ?_⟩
 ·refine ⟨some ⟨x, 0, none⟩, 1, rfl, show (1 : Nat) ≤ maxLen by decide, Nat.le_refl _, fun _ => ⟨x, 0, rfl, (szH hx), ?_⟩⟩
  intro j hj
  have h1 : j < 1 := hj
  match j, h1 with
  | 0, _ => exact ⟨_, cell_of hx rfl, cell_of hx rfl, cell_of hx rfl, Sl.nil W⟩
 ·refine ⟨some ⟨y, 0, none⟩, 1, rfl, show (1 : Nat) ≤ maxLen by decide, Nat.le_refl _, fun _ => ⟨y, 0, rfl, (szH hy), fun j hj => ?_⟩⟩
  have h1 : j < 1 := hj
  match j, h1 with
  | 0, _ => exact cell_of hy rfl
 ·exact ⟨none, 0, rfl, Nat.zero_le _, Nat.le_refl _, fun x => absurd rfl x⟩
set_option maxHeartbeats 4000000 in
theorem fresh_at (g : Int) (w : World) (M : ImgD) (E : Int) (hM : frsM g = M) (hE : frsE g = E) : Calls Tryz.prog 46 #[.int .i64 g] w (AnsI w w.heap.size M E) := by
 have m0 : (w.alloc (.cells #[.int .i64 0, .slice none 0 0, .slice none 0 0, .slice none 0 0, .slice none 0 0] 27)).heap[w.heap.size]? = some (.cells #[.int .i64 0, .slice none 0 0, .slice none 0 0, .slice none 0 0, .slice none 0 0] 27) := World.alloc_heap_new _ _
 have HR : Hid (∀ (W : World) (x y : Nat), W.heap[x]? = some (.cells #[.int .i64 0, .string ⟨#[]⟩, .slice none 0 0] 58) → W.heap[y]? = some (.cells #[.int .i64 0] 3) → Calls Tryz.prog 64 #[.agg #[.int .i64 0, .slice none 0 0, .slice (some ⟨x, 0, none⟩) 1 1, .slice (some ⟨y, 0, none⟩) 1 1, .slice none 0 0], .int .i64 g] W (AnsI W W.heap.size M E)) := fun W x y hx hy => resize_to (zD_img hx hy) g hM hE
 have hb1 : Below w.heap.size w ((w.alloc (.cells #[.int .i64 0, .slice none 0 0, .slice none 0 0, .slice none 0 0, .slice none 0 0] 27)).alloc (.cells #[.int .i64 0, .string ⟨#[]⟩, .slice none 0 0] 58) |>.alloc (.cells #[.int .i64 0] 3)).drew := ((((Below.refl _ _).alloc (Nat.le_refl _) _).alloc (by simp) _).alloc (by simp; omega) _).drew
 have hb2 : Below w.heap.size w ((w.alloc (.cells #[.int .i64 0, .slice none 0 0, .slice none 0 0, .slice none 0 0, .slice none 0 0] 27)).alloc (.cells #[.int .i64 0] 3) |>.alloc (.cells #[.int .i64 0, .string ⟨#[]⟩, .slice none 0 0] 58)).drew := ((((Below.refl _ _).alloc (Nat.le_refl _) _).alloc (by simp) _).alloc (by simp; omega) _).drew
 clear hM hE
 go_enter Tryz.func46, Tryz.ntmps46
 have hm1 : ∀ w, (Instr.makeSlice 24 (.int .i64 1) (.int .i64 1)).run Tryz.prog w = .ok (.slice (some ⟨w.heap.size, 0, none⟩) 1 1) (w.alloc (.cells #[.int .i64 0, .string ⟨#[]⟩, .slice none 0 0] 58)) := fun _ => by kernel_rfl
 have hm2 : ∀ w, (Instr.makeSlice 23 (.int .i64 1) (.int .i64 1)).run Tryz.prog w = .ok (.slice (some ⟨w.heap.size, 0, none⟩) 1 1) (w.alloc (.cells #[.int .i64 0] 3)) := fun _ => by kernel_rfl
 have x1 : (((w.alloc (.cells #[.int .i64 0, .slice none 0 0, .slice none 0 0, .slice none 0 0, .slice none 0 0] 27)).alloc (.cells #[.int .i64 0, .string ⟨#[]⟩, .slice none 0 0] 58)).alloc (.cells #[.int .i64 0] 3)).heap[w.heap.size + 1]? = some (.cells #[.int .i64 0, .string ⟨#[]⟩, .slice none 0 0] 58) := by have := al2a (w.alloc (.cells #[.int .i64 0, .slice none 0 0, .slice none 0 0, .slice none 0 0, .slice none 0 0] 27)) (.cells #[.int .i64 0, .string ⟨#[]⟩, .slice none 0 0] 58) (.cells #[.int .i64 0] 3); simpa using this
 have y1 : (((w.alloc (.cells #[.int .i64 0, .slice none 0 0, .slice none 0 0, .slice none 0 0, .slice none 0 0] 27)).alloc (.cells #[.int .i64 0, .string ⟨#[]⟩, .slice none 0 0] 58)).alloc (.cells #[.int .i64 0] 3)).heap[w.heap.size + 1 + 1]? = some (.cells #[.int .i64 0] 3) := by have := al2b (w.alloc (.cells #[.int .i64 0, .slice none 0 0, .slice none 0 0, .slice none 0 0, .slice none 0 0] 27)) (.cells #[.int .i64 0, .string ⟨#[]⟩, .slice none 0 0] 58) (.cells #[.int .i64 0] 3); simpa using this
 have x2 : (((w.alloc (.cells #[.int .i64 0, .slice none 0 0, .slice none 0 0, .slice none 0 0, .slice none 0 0] 27)).alloc (.cells #[.int .i64 0] 3)).alloc (.cells #[.int .i64 0, .string ⟨#[]⟩, .slice none 0 0] 58)).heap[w.heap.size + 1 + 1]? = some (.cells #[.int .i64 0, .string ⟨#[]⟩, .slice none 0 0] 58) := by have := al2b (w.alloc (.cells #[.int .i64 0, .slice none 0 0, .slice none 0 0, .slice none 0 0, .slice none 0 0] 27)) (.cells #[.int .i64 0] 3) (.cells #[.int .i64 0, .string ⟨#[]⟩, .slice none 0 0] 58); simpa using this
 have y2 : (((w.alloc (.cells #[.int .i64 0, .slice none 0 0, .slice none 0 0, .slice none 0 0, .slice none 0 0] 27)).alloc (.cells #[.int .i64 0] 3)).alloc (.cells #[.int .i64 0, .string ⟨#[]⟩, .slice none 0 0] 58)).heap[w.heap.size + 1]? = some (.cells #[.int .i64 0] 3) := by have := al2a (w.alloc (.cells #[.int .i64 0, .slice none 0 0, .slice none 0 0, .slice none 0 0, .slice none 0 0] 27)) (.cells #[.int .i64 0] 3) (.cells #[.int .i64 0, .string ⟨#[]⟩, .slice none 0 0] 58); simpa using this
 go_upto_region 1 with fail
 go_region_with (go_at_call 64; refine (HR.out _ _ _ (by first | exact x1 | exact x2) (by first | exact y1 | exact y2)).mono ?_; intro e w2 hA; obtain ⟨val, a1, a2, a3, a4, a5, a6, a7, a8, rfl, hO, bb, hI⟩ := hA.open; have zz := (bb.block w.heap.size (by simp <;> omega)).trans (cells_alloc (cells_alloc m0 _) _); obtain ⟨z0, z1, z2, z3, z4⟩ := five zz; have f0 := cells_frozen zz 0; have f1 := cells_frozen zz 1; have f2 := cells_frozen zz 2; have f3 := cells_frozen zz 3; have f4 := cells_frozen zz 4; have HO : Hid (OI w2 _ val M ∧ _ = imgV M.guest val) := ⟨hO, hI.symm⟩; have HB : Hid (Below w.heap.size w w2) := (by first | exact hb1.trans (bb.mono (by simp <;> omega)) | exact hb2.trans (bb.mono (by simp <;> omega))); clear hA hO hI bb)
 all_goals
  go_wp2_with fail
  have i1 : w.heap.size ≤ w.heap.size := Nat.le_refl _
  have hfr : ∀ a, Live M a → (val a).ownBlock ≠ some w.heap.size := fun a ha e => by
   have := ((HO.out.1.row a ha).lt _ e).1
   simp at this
   omega
  refine bodyPost_ret (v := .tuple #[.agg #[.int .i64 M.guest, .slice a1 M.root.length a2, .slice a3 M.slots.length a4, .slice a5 M.refs.length a6, .slice a7 M.snaps.length a8], .int .i64 E]) (by simp [results, Tryz.results46, go_sem, z0, z1, z2, z3, z4]) rfl ⟨val, by rw [← HO.out.2], OI.mono (((((HO.out.1.far hfr).far hfr).far hfr).far hfr).far hfr) (by simp <;> omega), ((((HB.out.setCell i1 _).setCell i1 _).setCell i1 _).setCell i1 _).setCell i1 _⟩
theorem fresh_is (g : Int) (w : World) {M : ImgD} {E : Int} (hM : frsM g = M) (hE : frsE g = E) : Calls Tryz.prog 46 #[.int .i64 g] w (AnsI w w.heap.size M E) := fresh_at g w M E hM hE
def rowK (b : List ByteArray) (m : ImgD) (g k : Nat) : List ByteArray := (List.range g).map (fun n : Nat => if n < k then srV b m (n : Int) else ByteArray.empty)
def pgs (b : List ByteArray) (m : ImgD) : List ByteArray := (List.range m.guest.toNat).map (fun n : Nat => srV b m (n : Int))
theorem rowK_length (b : List ByteArray) (m : ImgD) (g k : Nat) : (rowK b m g k).length = g := by simp [rowK]
theorem rowK_zero (b : List ByteArray) (m : ImgD) (g : Nat) : rowK b m g 0 = List.replicate g ByteArray.empty := by
 apply List.ext_getElem <;> simp [rowK]
theorem rowK_end (b : List ByteArray) (m : ImgD) (g : Nat) : rowK b m g g = (List.range g).map (fun n : Nat => srV b m (n : Int)) := by
 unfold rowK
 exact List.map_congr_left fun n hn => by rw [if_pos (List.mem_range.1 hn)]
theorem rowK_set (b : List ByteArray) (m : ImgD) (g k : Nat) : (rowK b m g k).set k (srV b m (k : Int)) = rowK b m g (k + 1) := by
 unfold rowK
 apply List.ext_getElem
 ·simp
 ·intro i h1 h2
  rw [List.getElem_set]
  simp only [List.getElem_map, List.getElem_range]
  by_cases e : k = i
  ·subst e; rw [if_pos rfl, if_pos (by omega)]
  ·rw [if_neg e]
   by_cases h : i < k
   ·rw [if_pos h, if_pos (by omega)]
   ·rw [if_neg h, if_neg (by omega)]
theorem sr_in {b : List ByteArray} {m : ImgD} (h : scE b m = 0) {k : Nat} (hk : (k : Int) < m.guest) : srE b m (k : Int) = 0 := by
 unfold srE
 rw [if_neg (by simpa using h)]
 exact lookE_of (scE_zero h).2 hk
set_option maxHeartbeats 4000000 in
theorem sk_pages_at (ba : Option Addr) (bc : Nat) (ra : Option Addr) (rc : Nat) (sa : Option Addr) (sc : Nat) (fa : Option Addr) (fc : Nat) (na : Option Addr) (nc : Nat) (b : List ByteArray) (m : ImgD) (g : Nat) (w : World) (hS : Ss w (.slice ba b.length bc) b) (hI : Img w (.agg #[.int .i64 (g : Int), .slice ra m.root.length rc, .slice sa m.slots.length sc, .slice fa m.refs.length fc, .slice na m.snaps.length nc]) m) (hC : scE b m = 0) (hg : m.guest = (g : Int)) (hg16 : g ≤ 16) :
  Calls Tryz.prog 45 #[.agg #[.slice ba b.length bc, .int .i64 (g : Int), .slice ra m.root.length rc, .slice sa m.slots.length sc, .slice fa m.refs.length fc, .slice na m.snaps.length nc]] w fun r w' => (r = .returned (.tuple #[.slice (some ⟨w.heap.size + 1, 0, none⟩) g g, .int .i64 0]) ∧ SAt w' (w.heap.size + 1) (rowK b m g g)) ∧ Below w.heap.size w w' := by
 have b0 : Below w.heap.size w (w.alloc (.cells #[.slice ba b.length bc, .int .i64 (g : Int), .slice ra m.root.length rc, .slice sa m.slots.length sc, .slice fa m.refs.length fc, .slice na m.snaps.length nc] 29)) := (Below.refl _ _).alloc (Nat.le_refl _) _
 have q0 : (w.alloc (.cells #[.slice ba b.length bc, .int .i64 (g : Int), .slice ra m.root.length rc, .slice sa m.slots.length sc, .slice fa m.refs.length fc, .slice na m.snaps.length nc] 29)).heap[w.heap.size]? = some (.cells #[.slice ba b.length bc, .int .i64 (g : Int), .slice ra m.root.length rc, .slice sa m.slots.length sc, .slice fa m.refs.length fc, .slice na m.snaps.length nc] 29) := World.alloc_heap_new _ _
 obtain ⟨c0, c1, c2, c3, c4, c5⟩ := six q0
 have hmk := mk_strs g (by omega)
 have hz : (w.alloc (.cells #[.slice ba b.length bc, .int .i64 (g : Int), .slice ra m.root.length rc, .slice sa m.slots.length sc, .slice fa m.refs.length fc, .slice na m.snaps.length nc] 29)).heap.size = w.heap.size + 1 := by simp
 obtain ⟨W0, hW0⟩ : ∃ W0, (w.alloc (.cells #[.slice ba b.length bc, .int .i64 (g : Int), .slice ra m.root.length rc, .slice sa m.slots.length sc, .slice fa m.refs.length fc, .slice na m.snaps.length nc] 29)).alloc (.cells ((List.replicate g ByteArray.empty).map Value.string).toArray 9) = W0 := ⟨_, rfl⟩
 have l0 : SAt W0 (w.heap.size + 1) (rowK b m g 0) := by
  have := World.alloc_heap_new (w.alloc (.cells #[.slice ba b.length bc, .int .i64 (g : Int), .slice ra m.root.length rc, .slice sa m.slots.length sc, .slice fa m.refs.length fc, .slice na m.snaps.length nc] 29)) (.cells ((List.replicate g ByteArray.empty).map Value.string).toArray 9)
  rw [hW0, hz] at this
  rw [rowK_zero]
  exact this
 have b1 : Below (w.heap.size + 1) (w.alloc (.cells #[.slice ba b.length bc, .int .i64 (g : Int), .slice ra m.root.length rc, .slice sa m.slots.length sc, .slice fa m.refs.length fc, .slice na m.snaps.length nc] 29)) W0 := by rw [← hW0, ← hz]; exact (Below.refl _ _).alloc (Nat.le_refl _) _
 have HS : Hid (Stk (w.alloc (.cells #[.slice ba b.length bc, .int .i64 (g : Int), .slice ra m.root.length rc, .slice sa m.slots.length sc, .slice fa m.refs.length fc, .slice na m.snaps.length nc] 29)) (.agg #[.slice ba b.length bc, .int .i64 (g : Int), .slice ra m.root.length rc, .slice sa m.slots.length sc, .slice fa m.refs.length fc, .slice na m.snaps.length nc]) b m) := ⟨_, _, _, _, _, by rw [hg], hS.below b0, by rw [hg]; exact hI.below b0⟩
 have HQ : Hid ((w.alloc (.cells #[.slice ba b.length bc, .int .i64 (g : Int), .slice ra m.root.length rc, .slice sa m.slots.length sc, .slice fa m.refs.length fc, .slice na m.snaps.length nc] 29)).heap[w.heap.size]? = some (.cells #[.slice ba b.length bc, .int .i64 (g : Int), .slice ra m.root.length rc, .slice sa m.slots.length sc, .slice fa m.refs.length fc, .slice na m.snaps.length nc] 29)) := q0
 have HB : Hid (Below w.heap.size w (w.alloc (.cells #[.slice ba b.length bc, .int .i64 (g : Int), .slice ra m.root.length rc, .slice sa m.slots.length sc, .slice fa m.refs.length fc, .slice na m.snaps.length nc] 29)) ∧ (w.alloc (.cells #[.slice ba b.length bc, .int .i64 (g : Int), .slice ra m.root.length rc, .slice sa m.slots.length sc, .slice fa m.refs.length fc, .slice na m.snaps.length nc] 29)).heap.size = w.heap.size + 1) := ⟨b0, hz⟩
 have HC : Hid (scE b m = 0 ∧ m.guest = (g : Int)) := ⟨hC, hg⟩
 clear hS hI hC hg b0 hz q0
 go_enter Tryz.func45, Tryz.ntmps45
 go_wp2_with fail
 rw [show (w.alloc (.cells #[.slice ba b.length bc, .int .i64 (g : Int), .slice ra m.root.length rc, .slice sa m.slots.length sc, .slice fa m.refs.length fc, .slice na m.snaps.length nc] 29)).alloc (Obj.cells (Array.replicate g (Value.string ByteArray.empty)) 9) = W0 by rw [← hW0]; simp]
 clear hmk hW0 c0 c1 c2 c3 c4 c5
 go_loopw [5, 6, 7, 14] (fun _ _ _ i wq => ∃ k : Nat, k ≤ g ∧ i = .int .i64 k ∧ SAt wq (w.heap.size + 1) (rowK b m g k) ∧ Below (w.heap.size + 1) (w.alloc (.cells #[.slice ba b.length bc, .int .i64 (g : Int), .slice ra m.root.length rc, .slice sa m.slots.length sc, .slice fa m.refs.length fc, .slice na m.snaps.length nc] 29)) wq) (fun _ _ _ i _ => g - (intOf i).toNat)
 case atStart => exact ⟨0, Nat.zero_le _, rfl, l0, b1⟩
 case round =>
  obtain ⟨k, hk, rfl, hL, hbel⟩ := hrel
  by_cases hlk : k < g
  ·have hki : (k : Int) < (g : Int) := by omega
   have hq := cells_below HQ.out hbel (by omega)
   obtain ⟨c0, c1, c2, c3, c4, c5⟩ := six hq
   have hbel' : Below (w.alloc (.cells #[.slice ba b.length bc, .int .i64 (g : Int), .slice ra m.root.length rc, .slice sa m.slots.length sc, .slice fa m.refs.length fc, .slice na m.snaps.length nc] 29)).heap.size (w.alloc (.cells #[.slice ba b.length bc, .int .i64 (g : Int), .slice ra m.root.length rc, .slice sa m.slots.length sc, .slice fa m.refs.length fc, .slice na m.snaps.length nc] 29)) wr := by rw [HB.out.2]; exact hbel
   obtain ⟨p, hp⟩ : ∃ p, srV b m (k : Int) = p := ⟨_, rfl⟩
   have hcall := sk_read (HS.out.below hbel') (k : Int) (sr_in HC.out.1 (by rw [HC.out.2]; exact hki)) hp
   have HP : Hid ((rowK b m g k).set k p = rowK b m g (k + 1)) := by show _ = _; rw [← hp]; exact rowK_set b m g k
   have hfx := hL.frozen k
   have hcx := hL.cell (j := k) (by rw [rowK_length]; exact hlk)
   have hzr := hL.lt
   clear hp hbel'
   go_wp2_with fail
   refine hcall.mono ?_
   rintro e w1 ⟨rfl, b2⟩
   have hL1 := hL.below b2 hzr
   have hfx := hL1.frozen k
   have hcx := hL1.cell (j := k) (by rw [rowK_length]; exact hlk)
   have hb1 : Below (w.heap.size + 1) (w.alloc (.cells #[.slice ba b.length bc, .int .i64 (g : Int), .slice ra m.root.length rc, .slice sa m.slots.length sc, .slice fa m.refs.length fc, .slice na m.snaps.length nc] 29)) w1 := hbel.trans (b2.mono (by omega))
   clear hcall
   go_wp2_with fail
   go_roundw
   case rel => exact ⟨k + 1, by omega, by go_num, by rw [← HP.out]; exact hL1.set k p, hb1.setCell (Nat.le_refl _) _⟩
   case measure => simp [intOf]; omega
  ·have e4 : k = g := by omega
   subst e4
   go_wp2_with fail
   go_ret2
   exact ⟨⟨rfl, hL⟩, HB.out.1.trans (hbel.mono (Nat.le_succ _))⟩
def ccE (b : List ByteArray) (m : ImgD) : Int := if scE b m ≠ 0 then scE b m else if m.snaps = [] then 0 else 8
set_option maxHeartbeats 4000000 in
theorem sk_commit_bad (ba : Option Addr) (bc : Nat) (ra : Option Addr) (rc : Nat) (sa : Option Addr) (sc : Nat) (fa : Option Addr) (fc : Nat) (na : Option Addr) (nc : Nat) (b : List ByteArray) (m : ImgD) (w : World) (hS : Ss w (.slice ba b.length bc) b) (hI : Img w (.agg #[.int .i64 m.guest, .slice ra m.root.length rc, .slice sa m.slots.length sc, .slice fa m.refs.length fc, .slice na m.snaps.length nc]) m) (E : Int) (hE : scE b m = E) (hne : (E != 0) = true) :
  Calls Tryz.prog 23 #[.agg #[.slice ba b.length bc, .int .i64 m.guest, .slice ra m.root.length rc, .slice sa m.slots.length sc, .slice fa m.refs.length fc, .slice na m.snaps.length nc]] w (AnsK w [] imgZ E) := by
 have b0 : Below w.heap.size w ((w.alloc (.cells #[.slice ba b.length bc, .int .i64 m.guest, .slice ra m.root.length rc, .slice sa m.slots.length sc, .slice fa m.refs.length fc, .slice na m.snaps.length nc] 29)).alloc (.cells #[.slice none 0 0, .int .i64 0, .slice none 0 0, .slice none 0 0, .slice none 0 0, .slice none 0 0] 29)) := ((Below.refl _ _).alloc (Nat.le_refl _) _).alloc (by simp) _
 have q0 : ((w.alloc (.cells #[.slice ba b.length bc, .int .i64 m.guest, .slice ra m.root.length rc, .slice sa m.slots.length sc, .slice fa m.refs.length fc, .slice na m.snaps.length nc] 29)).alloc (.cells #[.slice none 0 0, .int .i64 0, .slice none 0 0, .slice none 0 0, .slice none 0 0, .slice none 0 0] 29)).heap[w.heap.size]? = some (.cells #[.slice ba b.length bc, .int .i64 m.guest, .slice ra m.root.length rc, .slice sa m.slots.length sc, .slice fa m.refs.length fc, .slice na m.snaps.length nc] 29) := cells_alloc (World.alloc_heap_new _ _) _
 have r0 : ((w.alloc (.cells #[.slice ba b.length bc, .int .i64 m.guest, .slice ra m.root.length rc, .slice sa m.slots.length sc, .slice fa m.refs.length fc, .slice na m.snaps.length nc] 29)).alloc (.cells #[.slice none 0 0, .int .i64 0, .slice none 0 0, .slice none 0 0, .slice none 0 0, .slice none 0 0] 29)).heap[w.heap.size + 1]? = some (.cells #[.slice none 0 0, .int .i64 0, .slice none 0 0, .slice none 0 0, .slice none 0 0, .slice none 0 0] 29) := by have := World.alloc_heap_new (w.alloc (.cells #[.slice ba b.length bc, .int .i64 m.guest, .slice ra m.root.length rc, .slice sa m.slots.length sc, .slice fa m.refs.length fc, .slice na m.snaps.length nc] 29)) (.cells #[.slice none 0 0, .int .i64 0, .slice none 0 0, .slice none 0 0, .slice none 0 0, .slice none 0 0] 29); simpa using this
 have hz : w.heap.size + 1 < ((w.alloc (.cells #[.slice ba b.length bc, .int .i64 m.guest, .slice ra m.root.length rc, .slice sa m.slots.length sc, .slice fa m.refs.length fc, .slice na m.snaps.length nc] 29)).alloc (.cells #[.slice none 0 0, .int .i64 0, .slice none 0 0, .slice none 0 0, .slice none 0 0, .slice none 0 0] 29)).heap.size := by simp
 have hS1 := hS.below b0
 have hI1 := hI.below b0
 obtain ⟨c0, c1, c2, c3, c4, c5⟩ := six q0
 have hck := sk_check (w := ((w.alloc (.cells #[.slice ba b.length bc, .int .i64 m.guest, .slice ra m.root.length rc, .slice sa m.slots.length sc, .slice fa m.refs.length fc, .slice na m.snaps.length nc] 29)).alloc (.cells #[.slice none 0 0, .int .i64 0, .slice none 0 0, .slice none 0 0, .slice none 0 0, .slice none 0 0] 29))) (v := .agg #[.slice ba b.length bc, .int .i64 m.guest, .slice ra m.root.length rc, .slice sa m.slots.length sc, .slice fa m.refs.length fc, .slice na m.snaps.length nc]) ⟨_, _, _, _, _, rfl, hS1, hI1⟩ hE
 clear hS hI hI1 hS1 hE
 go_enter Tryz.func23, Tryz.ntmps23
 go_wp2_with (go_at_call 10; refine hck.mono ?_; rintro e w1 ⟨rfl, b1⟩; have q1 := cells_below q0 b1 (by omega); have r1 := cells_below r0 b1 hz; obtain ⟨d0, d1, d2, d3, d4, d5⟩ := six q1; obtain ⟨x0, x1, x2, x3, x4, x5⟩ := six r1; have y0 := cells_frozen r1 0; have y1 := cells_frozen r1 1; have y2 := cells_frozen r1 2; have y3 := cells_frozen r1 3; have y4 := cells_frozen r1 4; have y5 := cells_frozen r1 5)
 refine bodyPost_ret (v := .tuple #[.agg #[.slice none 0 0, .int .i64 0, .slice none 0 0, .slice none 0 0, .slice none 0 0, .slice none 0 0], .int .i64 E]) (by simp [results, Tryz.results23, go_sem, x0, x1, x2, x3, x4, x5]) rfl ⟨_, rfl, Stk.zero _, six_below (Below.on b0 b1) _ _ _ _ _ _⟩
set_option maxHeartbeats 4000000 in
theorem sk_commit_busy (ba : Option Addr) (bc : Nat) (ra : Option Addr) (rc : Nat) (sa : Option Addr) (sc : Nat) (fa : Option Addr) (fc : Nat) (na : Option Addr) (nc : Nat) (b : List ByteArray) (m : ImgD) (w : World) (hS : Ss w (.slice ba b.length bc) b) (hI : Img w (.agg #[.int .i64 m.guest, .slice ra m.root.length rc, .slice sa m.slots.length sc, .slice fa m.refs.length fc, .slice na m.snaps.length nc]) m) (hE : scE b m = 0) (hne : decide (0 < m.snaps.length) = true) :
  Calls Tryz.prog 23 #[.agg #[.slice ba b.length bc, .int .i64 m.guest, .slice ra m.root.length rc, .slice sa m.slots.length sc, .slice fa m.refs.length fc, .slice na m.snaps.length nc]] w (AnsK w [] imgZ 8) := by
 have b0 : Below w.heap.size w ((w.alloc (.cells #[.slice ba b.length bc, .int .i64 m.guest, .slice ra m.root.length rc, .slice sa m.slots.length sc, .slice fa m.refs.length fc, .slice na m.snaps.length nc] 29)).alloc (.cells #[.slice none 0 0, .int .i64 0, .slice none 0 0, .slice none 0 0, .slice none 0 0, .slice none 0 0] 29)) := ((Below.refl _ _).alloc (Nat.le_refl _) _).alloc (by simp) _
 have q0 : ((w.alloc (.cells #[.slice ba b.length bc, .int .i64 m.guest, .slice ra m.root.length rc, .slice sa m.slots.length sc, .slice fa m.refs.length fc, .slice na m.snaps.length nc] 29)).alloc (.cells #[.slice none 0 0, .int .i64 0, .slice none 0 0, .slice none 0 0, .slice none 0 0, .slice none 0 0] 29)).heap[w.heap.size]? = some (.cells #[.slice ba b.length bc, .int .i64 m.guest, .slice ra m.root.length rc, .slice sa m.slots.length sc, .slice fa m.refs.length fc, .slice na m.snaps.length nc] 29) := cells_alloc (World.alloc_heap_new _ _) _
 have r0 : ((w.alloc (.cells #[.slice ba b.length bc, .int .i64 m.guest, .slice ra m.root.length rc, .slice sa m.slots.length sc, .slice fa m.refs.length fc, .slice na m.snaps.length nc] 29)).alloc (.cells #[.slice none 0 0, .int .i64 0, .slice none 0 0, .slice none 0 0, .slice none 0 0, .slice none 0 0] 29)).heap[w.heap.size + 1]? = some (.cells #[.slice none 0 0, .int .i64 0, .slice none 0 0, .slice none 0 0, .slice none 0 0, .slice none 0 0] 29) := by have := World.alloc_heap_new (w.alloc (.cells #[.slice ba b.length bc, .int .i64 m.guest, .slice ra m.root.length rc, .slice sa m.slots.length sc, .slice fa m.refs.length fc, .slice na m.snaps.length nc] 29)) (.cells #[.slice none 0 0, .int .i64 0, .slice none 0 0, .slice none 0 0, .slice none 0 0, .slice none 0 0] 29); simpa using this
 have hz : w.heap.size + 1 < ((w.alloc (.cells #[.slice ba b.length bc, .int .i64 m.guest, .slice ra m.root.length rc, .slice sa m.slots.length sc, .slice fa m.refs.length fc, .slice na m.snaps.length nc] 29)).alloc (.cells #[.slice none 0 0, .int .i64 0, .slice none 0 0, .slice none 0 0, .slice none 0 0, .slice none 0 0] 29)).heap.size := by simp
 have hS1 := hS.below b0
 have hI1 := hI.below b0
 obtain ⟨c0, c1, c2, c3, c4, c5⟩ := six q0
 have hck := sk_check (w := ((w.alloc (.cells #[.slice ba b.length bc, .int .i64 m.guest, .slice ra m.root.length rc, .slice sa m.slots.length sc, .slice fa m.refs.length fc, .slice na m.snaps.length nc] 29)).alloc (.cells #[.slice none 0 0, .int .i64 0, .slice none 0 0, .slice none 0 0, .slice none 0 0, .slice none 0 0] 29))) (v := .agg #[.slice ba b.length bc, .int .i64 m.guest, .slice ra m.root.length rc, .slice sa m.slots.length sc, .slice fa m.refs.length fc, .slice na m.snaps.length nc]) ⟨_, _, _, _, _, rfl, hS1, hI1⟩ hE
 clear hS hI hI1 hS1 hE
 go_enter Tryz.func23, Tryz.ntmps23
 go_wp2_with (go_at_call 10; refine hck.mono ?_; rintro e w1 ⟨rfl, b1⟩; have q1 := cells_below q0 b1 (by omega); have r1 := cells_below r0 b1 hz; obtain ⟨d0, d1, d2, d3, d4, d5⟩ := six q1; obtain ⟨x0, x1, x2, x3, x4, x5⟩ := six r1; have y0 := cells_frozen r1 0; have y1 := cells_frozen r1 1; have y2 := cells_frozen r1 2; have y3 := cells_frozen r1 3; have y4 := cells_frozen r1 4; have y5 := cells_frozen r1 5)
 refine bodyPost_ret (v := .tuple #[.agg #[.slice none 0 0, .int .i64 0, .slice none 0 0, .slice none 0 0, .slice none 0 0, .slice none 0 0], .int .i64 8]) (by simp [results, Tryz.results23, go_sem, x0, x1, x2, x3, x4, x5]) rfl ⟨_, rfl, Stk.zero _, six_below (Below.on b0 b1) _ _ _ _ _ _⟩
set_option maxHeartbeats 4000000 in
theorem sk_commit_ok (ba : Option Addr) (bc : Nat) (ra : Option Addr) (rc : Nat) (sa : Option Addr) (sc : Nat) (fa : Option Addr) (fc : Nat) (na : Option Addr) (nc : Nat) (b : List ByteArray) (m : ImgD) (g : Nat) (w : World) (hS : Ss w (.slice ba b.length bc) b) (hI : Img w (.agg #[.int .i64 (g : Int), .slice ra m.root.length rc, .slice sa m.slots.length sc, .slice fa m.refs.length fc, .slice na m.snaps.length nc]) m) (hE : scE b m = 0) (hsn : decide (0 < m.snaps.length) = false) (hg : m.guest = (g : Int)) (hg16 : g ≤ 16) (M : ImgD) (hM : freshD g = M) :
  Calls Tryz.prog 23 #[.agg #[.slice ba b.length bc, .int .i64 (g : Int), .slice ra m.root.length rc, .slice sa m.slots.length sc, .slice fa m.refs.length fc, .slice na m.snaps.length nc]] w (AnsK w (rowK b m g g) M 0) := by
 have b0 : Below w.heap.size w ((w.alloc (.cells #[.slice ba b.length bc, .int .i64 (g : Int), .slice ra m.root.length rc, .slice sa m.slots.length sc, .slice fa m.refs.length fc, .slice na m.snaps.length nc] 29)).alloc (.cells #[.slice none 0 0, .int .i64 0, .slice none 0 0, .slice none 0 0, .slice none 0 0, .slice none 0 0] 29)) := ((Below.refl _ _).alloc (Nat.le_refl _) _).alloc (by simp) _
 have q0 : ((w.alloc (.cells #[.slice ba b.length bc, .int .i64 (g : Int), .slice ra m.root.length rc, .slice sa m.slots.length sc, .slice fa m.refs.length fc, .slice na m.snaps.length nc] 29)).alloc (.cells #[.slice none 0 0, .int .i64 0, .slice none 0 0, .slice none 0 0, .slice none 0 0, .slice none 0 0] 29)).heap[w.heap.size]? = some (.cells #[.slice ba b.length bc, .int .i64 (g : Int), .slice ra m.root.length rc, .slice sa m.slots.length sc, .slice fa m.refs.length fc, .slice na m.snaps.length nc] 29) := cells_alloc (World.alloc_heap_new _ _) _
 have r0 : ((w.alloc (.cells #[.slice ba b.length bc, .int .i64 (g : Int), .slice ra m.root.length rc, .slice sa m.slots.length sc, .slice fa m.refs.length fc, .slice na m.snaps.length nc] 29)).alloc (.cells #[.slice none 0 0, .int .i64 0, .slice none 0 0, .slice none 0 0, .slice none 0 0, .slice none 0 0] 29)).heap[w.heap.size + 1]? = some (.cells #[.slice none 0 0, .int .i64 0, .slice none 0 0, .slice none 0 0, .slice none 0 0, .slice none 0 0] 29) := by have := World.alloc_heap_new (w.alloc (.cells #[.slice ba b.length bc, .int .i64 (g : Int), .slice ra m.root.length rc, .slice sa m.slots.length sc, .slice fa m.refs.length fc, .slice na m.snaps.length nc] 29)) (.cells #[.slice none 0 0, .int .i64 0, .slice none 0 0, .slice none 0 0, .slice none 0 0, .slice none 0 0] 29); simpa using this
 have hz : w.heap.size + 1 < ((w.alloc (.cells #[.slice ba b.length bc, .int .i64 (g : Int), .slice ra m.root.length rc, .slice sa m.slots.length sc, .slice fa m.refs.length fc, .slice na m.snaps.length nc] 29)).alloc (.cells #[.slice none 0 0, .int .i64 0, .slice none 0 0, .slice none 0 0, .slice none 0 0, .slice none 0 0] 29)).heap.size := by simp
 have hS1 := hS.below b0
 have hI1 := hI.below b0
 obtain ⟨c0, c1, c2, c3, c4, c5⟩ := six q0
 have hck := sk_check (w := ((w.alloc (.cells #[.slice ba b.length bc, .int .i64 (g : Int), .slice ra m.root.length rc, .slice sa m.slots.length sc, .slice fa m.refs.length fc, .slice na m.snaps.length nc] 29)).alloc (.cells #[.slice none 0 0, .int .i64 0, .slice none 0 0, .slice none 0 0, .slice none 0 0, .slice none 0 0] 29))) (v := .agg #[.slice ba b.length bc, .int .i64 (g : Int), .slice ra m.root.length rc, .slice sa m.slots.length sc, .slice fa m.refs.length fc, .slice na m.snaps.length nc]) ⟨_, _, _, _, _, by rw [hg], hS1, by rw [hg]; exact hI1⟩ hE
 have HP : Hid (∀ w1, Below ((w.alloc (.cells #[.slice ba b.length bc, .int .i64 (g : Int), .slice ra m.root.length rc, .slice sa m.slots.length sc, .slice fa m.refs.length fc, .slice na m.snaps.length nc] 29)).alloc (.cells #[.slice none 0 0, .int .i64 0, .slice none 0 0, .slice none 0 0, .slice none 0 0, .slice none 0 0] 29)).heap.size ((w.alloc (.cells #[.slice ba b.length bc, .int .i64 (g : Int), .slice ra m.root.length rc, .slice sa m.slots.length sc, .slice fa m.refs.length fc, .slice na m.snaps.length nc] 29)).alloc (.cells #[.slice none 0 0, .int .i64 0, .slice none 0 0, .slice none 0 0, .slice none 0 0, .slice none 0 0] 29)) w1 → Calls Tryz.prog 45 #[.agg #[.slice ba b.length bc, .int .i64 (g : Int), .slice ra m.root.length rc, .slice sa m.slots.length sc, .slice fa m.refs.length fc, .slice na m.snaps.length nc]] w1 fun r w' => (r = .returned (.tuple #[.slice (some ⟨w1.heap.size + 1, 0, none⟩) g g, .int .i64 0]) ∧ SAt w' (w1.heap.size + 1) (rowK b m g g)) ∧ Below w1.heap.size w1 w') := fun w1 b1 => sk_pages_at ba bc ra rc sa sc fa fc na nc b m g w1 (hS1.below b1) (hI1.below b1) hE hg hg16
 have hMg : M.guest = (g : Int) := by rw [← hM]; rfl
 have HF : Hid (∀ w2, Calls Tryz.prog 46 #[.int .i64 (g : Int)] w2 (AnsI w2 w2.heap.size M 0)) := fun w2 => fresh_is (g : Int) w2 ((frs_is g hg16).1.trans hM) (frs_is g hg16).2.1
 have HG : Hid (M.guest = (g : Int)) := hMg
 clear hS hI hI1 hS1 hE hg hM hMg
 go_enter Tryz.func23, Tryz.ntmps23
 go_wp2_with (first
  | (go_at_call 46; refine (HF.out w2).mono ?_; intro e w3 hA; obtain ⟨val, g0, k0, g1, k1, g2, k2, g3, k3, rfl, hO, b3, hI⟩ := hA.open; rw [HG.out] at hI ⊢; have r3 := cells_alloc (cells_below r2 b3 (by have := b1.size; have := b2.size; omega)) (.cells #[.int .i64 (g : Int), .slice g0 M.root.length k0, .slice g1 M.slots.length k1, .slice g2 M.refs.length k2, .slice g3 M.snaps.length k3] 27); have m3 : (w3.alloc (.cells #[.int .i64 (g : Int), .slice g0 M.root.length k0, .slice g1 M.slots.length k1, .slice g2 M.refs.length k2, .slice g3 M.snaps.length k3] 27)).heap[w3.heap.size]? = some (.cells #[.int .i64 (g : Int), .slice g0 M.root.length k0, .slice g1 M.slots.length k1, .slice g2 M.refs.length k2, .slice g3 M.snaps.length k3] 27) := World.alloc_heap_new _ _; obtain ⟨u0, u1, u2, u3, u4, u5⟩ := six r3; have v0 := cells_frozen r3 0; have v1 := cells_frozen r3 1; have v2 := cells_frozen r3 2; have v3 := cells_frozen r3 3; have v4 := cells_frozen r3 4; have v5 := cells_frozen r3 5; obtain ⟨n0, n1, n2, n3, n4⟩ := five m3)
  | (go_at_call 45; refine (HP.out w1 b1).mono ?_; rintro e w2 ⟨⟨rfl, hL⟩, b2⟩; have q2 := cells_below q1 b2 (by have := b1.size; omega); have r2 := cells_below r1 b2 (by have := b1.size; omega); obtain ⟨e0, e1, e2, e3, e4, e5⟩ := six q2; have HL : Hid (SAt w2 (w1.heap.size + 1) (rowK b m g g)) := hL)
  | (go_at_call 10; refine hck.mono ?_; rintro e w1 ⟨rfl, b1⟩; have q1 := cells_below q0 b1 (by omega); have r1 := cells_below r0 b1 hz; obtain ⟨d0, d1, d2, d3, d4, d5⟩ := six q1; obtain ⟨x0, x1, x2, x3, x4, x5⟩ := six r1; have y0 := cells_frozen r1 0; have y1 := cells_frozen r1 1; have y2 := cells_frozen r1 2; have y3 := cells_frozen r1 3; have y4 := cells_frozen r1 4; have y5 := cells_frozen r1 5))
 have hs1 := b1.size
 have hs2 := b2.size
 have hs3 := b3.size
 have hO4 : OI (w3.alloc (.cells #[.int .i64 (g : Int), .slice g0 M.root.length k0, .slice g1 M.slots.length k1, .slice g2 M.refs.length k2, .slice g3 M.snaps.length k3] 27)) w2.heap.size val M := hO.alloc _
 have hfr : ∀ a, Live M a → (val a).ownBlock ≠ some (w.heap.size + 1) := fun a ha e => by
  have := ((hO4.row a ha).lt _ e).1
  omega
 have hImg := fun a0 a1 a2 a3 a4 a5 => (OI.six (w := w) hO4 hfr a0 a1 a2 a3 a4 a5).img
 have hL4 := cells_alloc (hL.below b3 hL.lt) (.cells #[.int .i64 (g : Int), .slice g0 M.root.length k0, .slice g1 M.slots.length k1, .slice g2 M.refs.length k2, .slice g3 M.snaps.length k3] 27)
 have hL5 := fun a0 a1 a2 a3 a4 a5 => SAt.ss (n := g) ((heap_six (w := w) (W := w3.alloc (.cells #[.int .i64 (g : Int), .slice g0 M.root.length k0, .slice g1 M.slots.length k1, .slice g2 M.refs.length k2, .slice g3 M.snaps.length k3] 27)) a0 a1 a2 a3 a4 a5 (w1.heap.size + 1) (by omega)).trans hL4) (rowK_length b m g g) (by unfold maxLen; omega)
 refine bodyPost_ret (v := .tuple #[.agg #[.slice (some ⟨w1.heap.size + 1, 0, none⟩) g g, .int .i64 (g : Int), .slice g0 M.root.length k0, .slice g1 M.slots.length k1, .slice g2 M.refs.length k2, .slice g3 M.snaps.length k3], .int .i64 0]) (by simp [results, Tryz.results23, go_sem, u0, u1, u2, u3, u4, u5]) rfl ⟨_, rfl, ⟨_, _, _, _, _, by rw [HG.out], hL5 _ _ _ _ _ _, (by have e := hImg; simp only [HG.out, hI] at e; rw [HG.out]; exact e _ _ _ _ _ _)⟩, six_below (((Below.on (Below.on (Below.on b0 b1) b2) b3)).alloc (by omega) _) _ _ _ _ _ _⟩
theorem sk_commit {w : World} {v : Value} {b : List ByteArray} {m : ImgD} (h : Stk w v b m) {B : List ByteArray} {M : ImgD} {E : Int} (hE : ccE b m = E) (hB : (if ccE b m = 0 then pgs b m else []) = B) (hM : (if ccE b m = 0 then freshD m.guest.toNat else imgZ) = M) : Calls Tryz.prog 23 #[v] w (AnsK w B M E) := by
 subst hE hB hM
 obtain ⟨ba, bc, ra, rc, sa, sc, fa, fc, na, nc, rfl, hS, hI⟩ := h.parts
 by_cases hC : scE b m = 0
 ·by_cases hn : m.snaps = []
  ·have e1 : ccE b m = 0 := by unfold ccE; rw [if_neg (by simpa using hC), if_pos hn]
   have hg := guest_ok (checkE_shape (scE_zero hC).2)
   obtain ⟨g, hgg⟩ : ∃ g : Nat, m.guest = (g : Int) := ⟨m.guest.toNat, by omega⟩
   rw [e1, if_pos rfl, if_pos rfl]
   have e2 : pgs b m = rowK b m g g := by rw [rowK_end]; unfold pgs; rw [hgg, Int.toNat_natCast]
   rw [e2, hgg, Int.toNat_natCast]
   rw [hgg] at hI
   exact sk_commit_ok ba bc ra rc sa sc fa fc na nc b m g w hS hI hC (by rw [hn]; rfl) hgg (by omega) _ rfl
  ·have e1 : ccE b m = 8 := by unfold ccE; rw [if_neg (by simpa using hC), if_neg hn]
   rw [e1, if_neg (by decide), if_neg (by decide)]
   exact sk_commit_busy ba bc ra rc sa sc fa fc na nc b m w hS hI hC (by have := List.length_pos_iff.2 hn; simp [this])
 ·have e1 : ccE b m = scE b m := by unfold ccE; rw [if_pos hC]
  rw [e1, if_neg hC, if_neg hC]
  exact sk_commit_bad ba bc ra rc sa sc fa fc na nc b m w hS hI _ rfl (by simpa using hC)
end Go.Proofs.YtehleeibgkpjmaeGreat
namespace Go.Proofs.YtehleeibgkpjmaeGreat
open Go.RowKit
set_option maxRecDepth 20000
theorem same_at (ao bo : Option Addr) (n cap cap' : Nat) (xs : List Int) (w : World) (hn : xs.length = n) (hm : n ≤ 9223372036854775807)
  (hc : ∀ j, j < n → ∃ b off, ao = some ⟨b, off, none⟩ ∧ b < w.heap.size ∧ w.cell? ⟨b, off + j, none⟩ = some (.int .i64 (xs.getD j 0)))
  (hd : ∀ j, j < n → ∃ b off, bo = some ⟨b, off, none⟩ ∧ b < w.heap.size ∧ w.cell? ⟨b, off + j, none⟩ = some (.int .i64 (xs.getD j 0))) :
  Calls Tryz.prog 52 #[.slice ao n cap, .slice bo n cap'] w fun r w' => r = .returned (.bool true) ∧ Below w.heap.size w w' := by
 have HC : Hid (∀ j, j < n → ∃ b off, ao = some ⟨b, off, none⟩ ∧ b < w.heap.size ∧ w.cell? ⟨b, off + j, none⟩ = some (.int .i64 (xs.getD j 0))) := hc
 have HD : Hid (∀ j, j < n → ∃ b off, bo = some ⟨b, off, none⟩ ∧ b < w.heap.size ∧ w.cell? ⟨b, off + j, none⟩ = some (.int .i64 (xs.getD j 0))) := hd
 clear hc hd
 have HN : Hid (xs.length = n) := hn
 clear hn
 go_enter Tryz.func52, Tryz.ntmps52
 go_wp2
 go_loopw [5] (fun i wr => ∃ k : Nat, k ≤ n ∧ i = .int .i64 k ∧ Below w.heap.size w wr) (fun i _ => n - (intOf i).toNat)
 case atStart => exact ⟨0, by omega, rfl, Below.refl _ _⟩
 case round =>
  obtain ⟨k, hk, rfl, hbel⟩ := hrel
  by_cases hlt : k < n
  ·obtain ⟨x, hx⟩ : ∃ x, xs.getD k 0 = x := ⟨_, rfl⟩
   obtain ⟨b, off, hao, hl1, hck⟩ := HC.out k hlt
   obtain ⟨b', off', hbo, hl2, hck'⟩ := HD.out k hlt
   rw [hx] at hck hck'
   clear hx
   have g1 : wr.cell? ⟨b, off + k, none⟩ = some (.int .i64 x) := (hbel.cell (p := ⟨b, off + k, none⟩) hl1).trans hck
   have g2 : wr.cell? ⟨b', off' + k, none⟩ = some (.int .i64 x) := (hbel.cell (p := ⟨b', off' + k, none⟩) hl2).trans hck'
   have i1 : (k : Int) < (n : Int) := by omega
   go_wp2
   go_quiet (fail)
   go_wp2
   go_roundw
   case rel => exact ⟨k + 1, by omega, by go_num, below_drewN hbel _⟩
   case measure => simp [intOf]; omega
  ·have e4 : k = n := by omega
   subst e4
   go_wp2
   go_ret
   exact ⟨rfl, hbel⟩
theorem same_any {v u : Value} {xs : List Int} {w : World} (h : Sl w v xs) (k : Sl w u xs) :
  Calls Tryz.prog 52 #[v, u] w fun r w' => r = .returned (.bool true) ∧ Below w.heap.size w w' := by
 obtain ⟨ao, cap, rfl⟩ := h.form
 obtain ⟨bo, cap', rfl⟩ := k.form
 obtain ⟨hn, hm, _, hc⟩ := h.cells
 obtain ⟨_, _, _, hd⟩ := k.cells
 exact same_at ao bo _ cap cap' xs w hn hm hc hd
end Go.Proofs.YtehleeibgkpjmaeGreat
namespace Go.Proofs.YtehleeibgkpjmaeGreat
open Go.RowKit Go.Shelf
set_option maxRecDepth 20000
def CAt (W : World) (p : Addr) (v : Value) : Prop := W.cell? p = some v ∧ p.block < W.heap.size
theorem CAt.below {W W' : World} {p : Addr} {v : Value} (h : CAt W p v) (bb : Below W.heap.size W W') : CAt W' p v := ⟨(bb.cell h.2).trans h.1, Nat.lt_of_lt_of_le h.2 bb.size⟩
set_option linter.unusedVariables false
def sbB : List ByteArray := [⟨#[120, 120, 120, 120]⟩, ⟨#[121, 121, 121, 121]⟩, ⟨#[122, 122, 122, 122]⟩]
def sbT : ImgD := ⟨6, [2, 4], [(0, ⟨#[]⟩, []), (1, aaaa, []), (2, ⟨#[]⟩, [1, 0, -1, 1]), (1, bbbb, []), (2, ⟨#[]⟩, [3, 0, 0, 0])], [0, 2, 1, 1, 1], []⟩
def sbC : List ByteArray := [aaaa, ⟨#[121, 121, 121, 121]⟩, ⟨#[0, 0, 0, 0]⟩, aaaa, ⟨#[98, 98, 98, 98]⟩, ⟨#[0, 0, 0, 0]⟩]
def sbW : ImgD := ⟨6, [2, 4], [(0, ⟨#[]⟩, []), (1, aaaa, []), (2, ⟨#[]⟩, [1, 5, -1, 1]), (1, bbbb, []), (2, ⟨#[]⟩, [3, 0, 0, 0]), (1, ⟨#[119, 119, 119, 119]⟩, [])], [0, 2, 1, 1, 1, 1], []⟩
theorem sb_check : scE sbB sbT = 0 := by decide +kernel
theorem sb_e1 : srE sbB sbT 1 = 0 := by decide +kernel
theorem sb_e2 : srE sbB sbT 2 = 0 := by decide +kernel
theorem sb_v1 : srV sbB sbT 1 = ⟨#[121, 121, 121, 121]⟩ := by kernel_rfl
theorem sb_v2 : srV sbB sbT 2 = ⟨#[0, 0, 0, 0]⟩ := by kernel_rfl
theorem sb_ce : ccE sbB sbT = 0 := by decide +kernel
theorem sb_cb : (if ccE sbB sbT = 0 then pgs sbB sbT else []) = sbC := by kernel_rfl
theorem sb_cm : (if ccE sbB sbT = 0 then freshD sbT.guest.toNat else imgZ) = freshD 6 := by kernel_rfl
theorem sb_we : skE sbB sbT 1 ⟨#[119, 119, 119, 119]⟩ = 0 := by decide +kernel
theorem sb_wm : skM sbB sbT 1 ⟨#[119, 119, 119, 119]⟩ = sbW := by kernel_rfl
theorem sb_wb : skB sbB sbT 1 ⟨#[119, 119, 119, 119]⟩ = sbB := by kernel_rfl
theorem Stk.base {w : World} {b : List ByteArray} {m : ImgD} {bv gv r s f n : Value} (h : Stk w (.agg #[bv, gv, r, s, f, n]) b m) : Ss w bv b := by
 obtain ⟨bv', r', s', f', n', e, h1, h2⟩ := h
 simp only [Value.agg.injEq, Array.mk.injEq, List.cons.injEq, and_true] at e
 rw [e.1]; exact h1
set_option maxHeartbeats 200000000 in
theorem stackBegun_any (w : World) : Calls Tryz.prog 9 #[] w fun r w' => r = .returned (.bool true) ∧ Below w.heap.size w w' := by
 go_enter Tryz.func9, Tryz.ntmps9
 go_wp2_with fail
 refine (pair_is _).mono ?_
 rintro e w1 ⟨⟨v, rfl, P⟩, bb⟩
 obtain ⟨ra, rc, sa, sc, fa, fc, na, nc, rfl, h1, h2, h3, h4⟩ := P.parts
 rw [show (pairD 6 [0, 2, 2, 1, 1] [3, 0, 0, 0]).guest = 6 from rfl, show (pairD 6 [0, 2, 2, 1, 1] [3, 0, 0, 0]).root.length = 2 from rfl, show (pairD 6 [0, 2, 2, 1, 1] [3, 0, 0, 0]).slots.length = 5 from rfl, show (pairD 6 [0, 2, 2, 1, 1] [3, 0, 0, 0]).refs.length = 5 from rfl, show (pairD 6 [0, 2, 2, 1, 1] [3, 0, 0, 0]).snaps.length = 1 from rfl]
 go_wp2_with fail
 rw [show (pairD 6 [0, 2, 2, 1, 1] [3, 0, 0, 0]).root.length = 2 from rfl] at h1
 rw [show (pairD 6 [0, 2, 2, 1, 1] [3, 0, 0, 0]).slots.length = 5 from rfl] at h2
 have ba : Below w1.heap.size w1 (w1.alloc (.cells #[.int .i64 6, .slice ra 2 rc, .slice sa 5 sc, .slice (some ⟨w1.heap.size + 1, 0, none⟩) 5 5, .slice none 0 0] 27)) := (Below.refl _ _).alloc (Nat.le_refl _) _
 have bc : Below ((w1.alloc (.cells #[.int .i64 6, .slice ra 2 rc, .slice sa 5 sc, .slice (some ⟨w1.heap.size + 1, 0, none⟩) 5 5, .slice none 0 0] 27)).alloc (.cells #[.int .i64 0, .int .i64 2, .int .i64 1, .int .i64 1, .int .i64 1] 3)).heap.size ((w1.alloc (.cells #[.int .i64 6, .slice ra 2 rc, .slice sa 5 sc, .slice (some ⟨w1.heap.size + 1, 0, none⟩) 5 5, .slice none 0 0] 27)).alloc (.cells #[.int .i64 0, .int .i64 2, .int .i64 1, .int .i64 1, .int .i64 1] 3)) (((w1.alloc (.cells #[.int .i64 6, .slice ra 2 rc, .slice sa 5 sc, .slice (some ⟨w1.heap.size + 1, 0, none⟩) 5 5, .slice none 0 0] 27)).alloc (.cells #[.int .i64 0, .int .i64 2, .int .i64 1, .int .i64 1, .int .i64 1] 3)).alloc (.cells #[.string ⟨#[120, 120, 120, 120]⟩, .string ⟨#[121, 121, 121, 121]⟩, .string ⟨#[122, 122, 122, 122]⟩] 9)) := (Below.refl _ _).alloc (Nat.le_refl _) _
 have bd : Below (((w1.alloc (.cells #[.int .i64 6, .slice ra 2 rc, .slice sa 5 sc, .slice (some ⟨w1.heap.size + 1, 0, none⟩) 5 5, .slice none 0 0] 27)).alloc (.cells #[.int .i64 0, .int .i64 2, .int .i64 1, .int .i64 1, .int .i64 1] 3)).alloc (.cells #[.string ⟨#[120, 120, 120, 120]⟩, .string ⟨#[121, 121, 121, 121]⟩, .string ⟨#[122, 122, 122, 122]⟩] 9)).heap.size (((w1.alloc (.cells #[.int .i64 6, .slice ra 2 rc, .slice sa 5 sc, .slice (some ⟨w1.heap.size + 1, 0, none⟩) 5 5, .slice none 0 0] 27)).alloc (.cells #[.int .i64 0, .int .i64 2, .int .i64 1, .int .i64 1, .int .i64 1] 3)).alloc (.cells #[.string ⟨#[120, 120, 120, 120]⟩, .string ⟨#[121, 121, 121, 121]⟩, .string ⟨#[122, 122, 122, 122]⟩] 9)) ((((w1.alloc (.cells #[.int .i64 6, .slice ra 2 rc, .slice sa 5 sc, .slice (some ⟨w1.heap.size + 1, 0, none⟩) 5 5, .slice none 0 0] 27)).alloc (.cells #[.int .i64 0, .int .i64 2, .int .i64 1, .int .i64 1, .int .i64 1] 3)).alloc (.cells #[.string ⟨#[120, 120, 120, 120]⟩, .string ⟨#[121, 121, 121, 121]⟩, .string ⟨#[122, 122, 122, 122]⟩] 9)).alloc (.cells #[.slice (some ⟨w1.heap.size + 1 + 1, 0, none⟩) 3 3, .int .i64 6, .slice ra 2 rc, .slice sa 5 sc, .slice (some ⟨w1.heap.size + 1, 0, none⟩) 5 5, .slice none 0 0] 29)) := (Below.refl _ _).alloc (Nat.le_refl _) _
 have bwb : Below w1.heap.size w1 ((w1.alloc (.cells #[.int .i64 6, .slice ra 2 rc, .slice sa 5 sc, .slice (some ⟨w1.heap.size + 1, 0, none⟩) 5 5, .slice none 0 0] 27)).alloc (.cells #[.int .i64 0, .int .i64 2, .int .i64 1, .int .i64 1, .int .i64 1] 3)) := ba.alloc (by simp) _
 have bwc : Below w1.heap.size w1 (((w1.alloc (.cells #[.int .i64 6, .slice ra 2 rc, .slice sa 5 sc, .slice (some ⟨w1.heap.size + 1, 0, none⟩) 5 5, .slice none 0 0] 27)).alloc (.cells #[.int .i64 0, .int .i64 2, .int .i64 1, .int .i64 1, .int .i64 1] 3)).alloc (.cells #[.string ⟨#[120, 120, 120, 120]⟩, .string ⟨#[121, 121, 121, 121]⟩, .string ⟨#[122, 122, 122, 122]⟩] 9)) := bwb.alloc (by simp <;> omega) _
 have bwd : Below w1.heap.size w1 ((((w1.alloc (.cells #[.int .i64 6, .slice ra 2 rc, .slice sa 5 sc, .slice (some ⟨w1.heap.size + 1, 0, none⟩) 5 5, .slice none 0 0] 27)).alloc (.cells #[.int .i64 0, .int .i64 2, .int .i64 1, .int .i64 1, .int .i64 1] 3)).alloc (.cells #[.string ⟨#[120, 120, 120, 120]⟩, .string ⟨#[121, 121, 121, 121]⟩, .string ⟨#[122, 122, 122, 122]⟩] 9)).alloc (.cells #[.slice (some ⟨w1.heap.size + 1 + 1, 0, none⟩) 3 3, .int .i64 6, .slice ra 2 rc, .slice sa 5 sc, .slice (some ⟨w1.heap.size + 1, 0, none⟩) 5 5, .slice none 0 0] 29)) := bwc.alloc (by simp <;> omega) _
 have hl := Sl_new (w1.alloc (.cells #[.int .i64 6, .slice ra 2 rc, .slice sa 5 sc, .slice (some ⟨w1.heap.size + 1, 0, none⟩) 5 5, .slice none 0 0] 27)) [0, 2, 1, 1, 1] 5 rfl (by decide)
 rw [show (w1.alloc (.cells #[.int .i64 6, .slice ra 2 rc, .slice sa 5 sc, .slice (some ⟨w1.heap.size + 1, 0, none⟩) 5 5, .slice none 0 0] 27)).heap.size = w1.heap.size + 1 by simp] at hl
 have hl : Sl ((w1.alloc (.cells #[.int .i64 6, .slice ra 2 rc, .slice sa 5 sc, .slice (some ⟨w1.heap.size + 1, 0, none⟩) 5 5, .slice none 0 0] 27)).alloc (.cells #[.int .i64 0, .int .i64 2, .int .i64 1, .int .i64 1, .int .i64 1] 3)) (.slice (some ⟨w1.heap.size + 1, 0, none⟩) 5 5) [0, 2, 1, 1, 1] := hl
 have hst := Ss_new ((w1.alloc (.cells #[.int .i64 6, .slice ra 2 rc, .slice sa 5 sc, .slice (some ⟨w1.heap.size + 1, 0, none⟩) 5 5, .slice none 0 0] 27)).alloc (.cells #[.int .i64 0, .int .i64 2, .int .i64 1, .int .i64 1, .int .i64 1] 3)) sbB 3 rfl (by decide)
 rw [show ((w1.alloc (.cells #[.int .i64 6, .slice ra 2 rc, .slice sa 5 sc, .slice (some ⟨w1.heap.size + 1, 0, none⟩) 5 5, .slice none 0 0] 27)).alloc (.cells #[.int .i64 0, .int .i64 2, .int .i64 1, .int .i64 1, .int .i64 1] 3)).heap.size = w1.heap.size + 1 + 1 by simp] at hst
 have hst : Ss (((w1.alloc (.cells #[.int .i64 6, .slice ra 2 rc, .slice sa 5 sc, .slice (some ⟨w1.heap.size + 1, 0, none⟩) 5 5, .slice none 0 0] 27)).alloc (.cells #[.int .i64 0, .int .i64 2, .int .i64 1, .int .i64 1, .int .i64 1] 3)).alloc (.cells #[.string ⟨#[120, 120, 120, 120]⟩, .string ⟨#[121, 121, 121, 121]⟩, .string ⟨#[122, 122, 122, 122]⟩] 9)) (.slice (some ⟨w1.heap.size + 1 + 1, 0, none⟩) 3 3) sbB := hst
 have K_s : Stk ((((w1.alloc (.cells #[.int .i64 6, .slice ra 2 rc, .slice sa 5 sc, .slice (some ⟨w1.heap.size + 1, 0, none⟩) 5 5, .slice none 0 0] 27)).alloc (.cells #[.int .i64 0, .int .i64 2, .int .i64 1, .int .i64 1, .int .i64 1] 3)).alloc (.cells #[.string ⟨#[120, 120, 120, 120]⟩, .string ⟨#[121, 121, 121, 121]⟩, .string ⟨#[122, 122, 122, 122]⟩] 9)).alloc (.cells #[.slice (some ⟨w1.heap.size + 1 + 1, 0, none⟩) 3 3, .int .i64 6, .slice ra 2 rc, .slice sa 5 sc, .slice (some ⟨w1.heap.size + 1, 0, none⟩) 5 5, .slice none 0 0] 29)) (.agg #[.slice (some ⟨w1.heap.size + 1 + 1, 0, none⟩) 3 3, .int .i64 6, .slice ra 2 rc, .slice sa 5 sc, .slice (some ⟨w1.heap.size + 1, 0, none⟩) 5 5, .slice none 0 0]) sbB sbT := ⟨_, _, _, _, _, rfl, hst.below bd, ⟨_, _, _, _, rfl, h1.below bwd, h2.below bwd, (hl.below bc).below bd, (OI.zero ((((w1.alloc (.cells #[.int .i64 6, .slice ra 2 rc, .slice sa 5 sc, .slice (some ⟨w1.heap.size + 1, 0, none⟩) 5 5, .slice none 0 0] 27)).alloc (.cells #[.int .i64 0, .int .i64 2, .int .i64 1, .int .i64 1, .int .i64 1] 3)).alloc (.cells #[.string ⟨#[120, 120, 120, 120]⟩, .string ⟨#[121, 121, 121, 121]⟩, .string ⟨#[122, 122, 122, 122]⟩] 9)).alloc (.cells #[.slice (some ⟨w1.heap.size + 1 + 1, 0, none⟩) 3 3, .int .i64 6, .slice ra 2 rc, .slice sa 5 sc, .slice (some ⟨w1.heap.size + 1, 0, none⟩) 5 5, .slice none 0 0] 29)) 0).img.four.2.2.2⟩⟩
 have mb_s : ((((w1.alloc (.cells #[.int .i64 6, .slice ra 2 rc, .slice sa 5 sc, .slice (some ⟨w1.heap.size + 1, 0, none⟩) 5 5, .slice none 0 0] 27)).alloc (.cells #[.int .i64 0, .int .i64 2, .int .i64 1, .int .i64 1, .int .i64 1] 3)).alloc (.cells #[.string ⟨#[120, 120, 120, 120]⟩, .string ⟨#[121, 121, 121, 121]⟩, .string ⟨#[122, 122, 122, 122]⟩] 9)).alloc (.cells #[.slice (some ⟨w1.heap.size + 1 + 1, 0, none⟩) 3 3, .int .i64 6, .slice ra 2 rc, .slice sa 5 sc, .slice (some ⟨w1.heap.size + 1, 0, none⟩) 5 5, .slice none 0 0] 29)).heap[w1.heap.size + 1 + 1 + 1]? = some (.cells #[.slice (some ⟨w1.heap.size + 1 + 1, 0, none⟩) 3 3, .int .i64 6, .slice ra 2 rc, .slice sa 5 sc, .slice (some ⟨w1.heap.size + 1, 0, none⟩) 5 5, .slice none 0 0] 29) := by have := World.alloc_heap_new (((w1.alloc (.cells #[.int .i64 6, .slice ra 2 rc, .slice sa 5 sc, .slice (some ⟨w1.heap.size + 1, 0, none⟩) 5 5, .slice none 0 0] 27)).alloc (.cells #[.int .i64 0, .int .i64 2, .int .i64 1, .int .i64 1, .int .i64 1] 3)).alloc (.cells #[.string ⟨#[120, 120, 120, 120]⟩, .string ⟨#[121, 121, 121, 121]⟩, .string ⟨#[122, 122, 122, 122]⟩] 9)) (.cells #[.slice (some ⟨w1.heap.size + 1 + 1, 0, none⟩) 3 3, .int .i64 6, .slice ra 2 rc, .slice sa 5 sc, .slice (some ⟨w1.heap.size + 1, 0, none⟩) 5 5, .slice none 0 0] 29); simpa using this
 have hB : Below w.heap.size w ((((w1.alloc (.cells #[.int .i64 6, .slice ra 2 rc, .slice sa 5 sc, .slice (some ⟨w1.heap.size + 1, 0, none⟩) 5 5, .slice none 0 0] 27)).alloc (.cells #[.int .i64 0, .int .i64 2, .int .i64 1, .int .i64 1, .int .i64 1] 3)).alloc (.cells #[.string ⟨#[120, 120, 120, 120]⟩, .string ⟨#[121, 121, 121, 121]⟩, .string ⟨#[122, 122, 122, 122]⟩] 9)).alloc (.cells #[.slice (some ⟨w1.heap.size + 1 + 1, 0, none⟩) 3 3, .int .i64 6, .slice ra 2 rc, .slice sa 5 sc, .slice (some ⟨w1.heap.size + 1, 0, none⟩) 5 5, .slice none 0 0] 29)) := Below.on bb bwd
 clear P h1 h2 h3 h4 ba bc bd bwb bwc bwd hl hst bb
 obtain ⟨W0, hW0⟩ : ∃ X, ((((w1.alloc (.cells #[.int .i64 6, .slice ra 2 rc, .slice sa 5 sc, .slice (some ⟨w1.heap.size + 1, 0, none⟩) 5 5, .slice none 0 0] 27)).alloc (.cells #[.int .i64 0, .int .i64 2, .int .i64 1, .int .i64 1, .int .i64 1] 3)).alloc (.cells #[.string ⟨#[120, 120, 120, 120]⟩, .string ⟨#[121, 121, 121, 121]⟩, .string ⟨#[122, 122, 122, 122]⟩] 9)).alloc (.cells #[.slice (some ⟨w1.heap.size + 1 + 1, 0, none⟩) 3 3, .int .i64 6, .slice ra 2 rc, .slice sa 5 sc, .slice (some ⟨w1.heap.size + 1, 0, none⟩) 5 5, .slice none 0 0] 29)) = X := ⟨_, rfl⟩
 rw [hW0] at K_s mb_s hB ⊢
 clear hW0
 refine (sk_read K_s 1 sb_e1 sb_v1).mono ?_
 rintro e w2 ⟨rfl, bb⟩
 replace mb_s := cells_below mb_s bb (szH mb_s)
 replace hB := Below.on hB bb
 replace K_s := K_s.below bb
 clear bb
 obtain ⟨s0, s1, s2, s3, s4, s5⟩ := six mb_s
 have hh_mb_s := Hid_mkW mb_s
 have hh_K_s := Hid_mkW K_s
 have hh_hB := Hid_mkW hB
 clear mb_s K_s hB
 go_wp2_with fail
 clear s0 s1 s2 s3 s4 s5
 have mb_s := hh_mb_s.out
 have K_s := hh_K_s.out
 have hB := hh_hB.out
 clear hh_mb_s hh_K_s hh_hB
 refine (sk_read K_s 2 sb_e2 sb_v2).mono ?_
 rintro e w3 ⟨rfl, bb⟩
 replace mb_s := cells_below mb_s bb (szH mb_s)
 replace hB := Below.on hB bb
 replace K_s := K_s.below bb
 clear bb
 obtain ⟨s0, s1, s2, s3, s4, s5⟩ := six mb_s
 have hh_mb_s := Hid_mkW mb_s
 have hh_K_s := Hid_mkW K_s
 have hh_hB := Hid_mkW hB
 clear mb_s K_s hB
 go_wp2_with fail
 clear s0 s1 s2 s3 s4 s5
 have mb_s := hh_mb_s.out
 have K_s := hh_K_s.out
 have hB := hh_hB.out
 clear hh_mb_s hh_K_s hh_hB
 refine (sk_commit K_s sb_ce sb_cb sb_cm).mono ?_
 rintro e w4 ⟨v, rfl, K_c, bb⟩
 obtain ⟨c_b, c_bc, c_r, c_rc, c_s, c_sc, c_f, c_fc, c_n, c_nc, rfl, hs_, hi_⟩ := K_c.parts
 clear hs_ hi_
 try dsimp only
 rw [show sbC.length = 6 from rfl, show (freshD 6).guest = 6 from rfl, show (freshD 6).root.length = 2 from rfl, show (freshD 6).slots.length = 1 from rfl, show (freshD 6).refs.length = 1 from rfl, show (freshD 6).snaps.length = 0 from rfl] at K_c ⊢
 replace mb_s := cells_below mb_s bb (szH mb_s)
 replace hB := Below.on hB bb
 replace K_s := K_s.below bb
 clear bb
 replace mb_s := cells_alloc mb_s (.cells #[.slice c_b 6 c_bc, .int .i64 6, .slice c_r 2 c_rc, .slice c_s 1 c_sc, .slice c_f 1 c_fc, .slice c_n 0 c_nc] 29)
 have ba : Below w4.heap.size w4 (w4.alloc (.cells #[.slice c_b 6 c_bc, .int .i64 6, .slice c_r 2 c_rc, .slice c_s 1 c_sc, .slice c_f 1 c_fc, .slice c_n 0 c_nc] 29)) := (Below.refl _ _).alloc (Nat.le_refl _) _
 replace hB := Below.on hB ba
 replace K_s := K_s.below ba
 replace K_c := K_c.below ba
 clear ba
 have mb_c : (w4.alloc (.cells #[.slice c_b 6 c_bc, .int .i64 6, .slice c_r 2 c_rc, .slice c_s 1 c_sc, .slice c_f 1 c_fc, .slice c_n 0 c_nc] 29)).heap[w4.heap.size]? = some (.cells #[.slice c_b 6 c_bc, .int .i64 6, .slice c_r 2 c_rc, .slice c_s 1 c_sc, .slice c_f 1 c_fc, .slice c_n 0 c_nc] 29) := World.alloc_heap_new _ _
 obtain ⟨s0, s1, s2, s3, s4, s5⟩ := six mb_s
 have hh_mb_s := Hid_mkW mb_s
 have hh_mb_c := Hid_mkW mb_c
 have hh_K_s := Hid_mkW K_s
 have hh_K_c := Hid_mkW K_c
 have hh_hB := Hid_mkW hB
 clear mb_s mb_c K_s K_c hB
 go_wp2_with fail
 clear s0 s1 s2 s3 s4 s5
 have mb_s := hh_mb_s.out
 have mb_c := hh_mb_c.out
 have K_s := hh_K_s.out
 have K_c := hh_K_c.out
 have hB := hh_hB.out
 clear hh_mb_s hh_mb_c hh_K_s hh_K_c hh_hB
 refine (sk_write K_s 1 ⟨#[119, 119, 119, 119]⟩ sb_we sb_wm sb_wb).mono ?_
 rintro e w5 ⟨v, rfl, K_x, bb⟩
 obtain ⟨x_b, x_bc, x_r, x_rc, x_s, x_sc, x_f, x_fc, x_n, x_nc, rfl, hs_, hi_⟩ := K_x.parts
 clear hs_ hi_
 try dsimp only
 rw [show sbB.length = 3 from rfl, show sbW.guest = 6 from rfl, show sbW.root.length = 2 from rfl, show sbW.slots.length = 6 from rfl, show sbW.refs.length = 6 from rfl, show sbW.snaps.length = 0 from rfl] at K_x ⊢
 replace mb_s := cells_below mb_s bb (szH mb_s)
 replace mb_c := cells_below mb_c bb (szH mb_c)
 replace hB := Below.on hB bb
 replace K_s := K_s.below bb
 replace K_c := K_c.below bb
 clear bb
 replace mb_s := cells_alloc mb_s (.cells #[.slice x_b 3 x_bc, .int .i64 6, .slice x_r 2 x_rc, .slice x_s 6 x_sc, .slice x_f 6 x_fc, .slice x_n 0 x_nc] 29)
 replace mb_c := cells_alloc mb_c (.cells #[.slice x_b 3 x_bc, .int .i64 6, .slice x_r 2 x_rc, .slice x_s 6 x_sc, .slice x_f 6 x_fc, .slice x_n 0 x_nc] 29)
 have ba : Below w5.heap.size w5 (w5.alloc (.cells #[.slice x_b 3 x_bc, .int .i64 6, .slice x_r 2 x_rc, .slice x_s 6 x_sc, .slice x_f 6 x_fc, .slice x_n 0 x_nc] 29)) := (Below.refl _ _).alloc (Nat.le_refl _) _
 replace hB := Below.on hB ba
 replace K_s := K_s.below ba
 replace K_c := K_c.below ba
 replace K_x := K_x.below ba
 clear ba
 have mb_x : (w5.alloc (.cells #[.slice x_b 3 x_bc, .int .i64 6, .slice x_r 2 x_rc, .slice x_s 6 x_sc, .slice x_f 6 x_fc, .slice x_n 0 x_nc] 29)).heap[w5.heap.size]? = some (.cells #[.slice x_b 3 x_bc, .int .i64 6, .slice x_r 2 x_rc, .slice x_s 6 x_sc, .slice x_f 6 x_fc, .slice x_n 0 x_nc] 29) := World.alloc_heap_new _ _
 obtain ⟨pc, oc, hp_, lc, hc_⟩ := (Stk.base K_c).at (by decide)
 subst hp_
 have cc1 : CAt (w5.alloc (.cells #[.slice x_b 3 x_bc, .int .i64 6, .slice x_r 2 x_rc, .slice x_s 6 x_sc, .slice x_f 6 x_fc, .slice x_n 0 x_nc] 29)) ⟨pc, oc + 1, none⟩ (.string ⟨#[121, 121, 121, 121]⟩) := ⟨hc_ 1 (by decide), lc⟩
 have cc4 : CAt (w5.alloc (.cells #[.slice x_b 3 x_bc, .int .i64 6, .slice x_r 2 x_rc, .slice x_s 6 x_sc, .slice x_f 6 x_fc, .slice x_n 0 x_nc] 29)) ⟨pc, oc + 4, none⟩ (.string ⟨#[98, 98, 98, 98]⟩) := ⟨hc_ 4 (by decide), lc⟩
 clear hc_
 obtain ⟨px, ox, hp_, lx, hc_⟩ := (Stk.base K_x).at (by decide)
 subst hp_
 have cx1 : CAt (w5.alloc (.cells #[.slice (some ⟨px, ox, none⟩) 3 x_bc, .int .i64 6, .slice x_r 2 x_rc, .slice x_s 6 x_sc, .slice x_f 6 x_fc, .slice x_n 0 x_nc] 29)) ⟨px, ox + 1, none⟩ (.string ⟨#[121, 121, 121, 121]⟩) := ⟨hc_ 1 (by decide), lx⟩
 clear hc_
 clear K_c
 clear K_x
 obtain ⟨s0, s1, s2, s3, s4, s5⟩ := six mb_s
 have q_cc1 := cc1.1
 have q_cc4 := cc4.1
 have q_cx1 := cx1.1
 have hh_mb_s := Hid_mkW mb_s
 have hh_mb_c := Hid_mkW mb_c
 have hh_mb_x := Hid_mkW mb_x
 have hh_K_s := Hid_mkW K_s
 have hh_cc1 := Hid_mkW cc1
 have hh_cc4 := Hid_mkW cc4
 have hh_cx1 := Hid_mkW cx1
 have hh_hB := Hid_mkW hB
 clear mb_s mb_c mb_x K_s cc1 cc4 cx1 hB
 go_wp2_with fail
 clear s0 s1 s2 s3 s4 s5 q_cc1 q_cc4 q_cx1
 have mb_s := hh_mb_s.out
 have mb_c := hh_mb_c.out
 have mb_x := hh_mb_x.out
 have K_s := hh_K_s.out
 have cc1 := hh_cc1.out
 have cc4 := hh_cc4.out
 have cx1 := hh_cx1.out
 have hB := hh_hB.out
 clear hh_mb_s hh_mb_c hh_mb_x hh_K_s hh_cc1 hh_cc4 hh_cx1 hh_hB
 refine (sk_check K_s sb_check).mono ?_
 rintro e w6 ⟨rfl, bb⟩
 replace mb_s := cells_below mb_s bb (szH mb_s)
 replace mb_c := cells_below mb_c bb (szH mb_c)
 replace mb_x := cells_below mb_x bb (szH mb_x)
 replace hB := Below.on hB bb
 replace K_s := K_s.below bb
 replace cc1 := cc1.below bb
 replace cc4 := cc4.below bb
 replace cx1 := cx1.below bb
 clear bb
 clear mb_s
 clear K_s
 obtain ⟨c0, c1, c2, c3, c4, c5⟩ := six mb_c
 obtain ⟨x0, x1, x2, x3, x4, x5⟩ := six mb_x
 have q_cc1 := cc1.1
 have q_cc4 := cc4.1
 have q_cx1 := cx1.1
 have hh_mb_c := Hid_mkW mb_c
 have hh_mb_x := Hid_mkW mb_x
 have hh_cc1 := Hid_mkW cc1
 have hh_cc4 := Hid_mkW cc4
 have hh_cx1 := Hid_mkW cx1
 have hh_hB := Hid_mkW hB
 clear mb_c mb_x cc1 cc4 cx1 hB
 go_wp2_with fail
 go_ret
 have hB := hh_hB.out
 exact ⟨rfl, hB⟩
set_option maxHeartbeats 4000000 in
theorem sameI_at (m : ImgD) (ra : Option Addr) (rc : Nat) (sa : Option Addr) (sc : Nat) (fa : Option Addr) (fc : Nat) (na : Option Addr) (nc : Nat) (rb : Option Addr) (rd : Nat) (sb : Option Addr) (sd : Nat) (fb : Option Addr) (fd : Nat) (nb : Option Addr) (nd : Nat) (w : World)
  (h1 : Sl w (.slice ra m.root.length rc) m.root) (h2 : Slots w (.slice sa m.slots.length sc) m.slots) (h3 : Sl w (.slice fa m.refs.length fc) m.refs) (h4 : Snaps w (.slice na m.snaps.length nc) m.snaps)
  (k1 : Sl w (.slice rb m.root.length rd) m.root) (k2 : Slots w (.slice sb m.slots.length sd) m.slots) (k3 : Sl w (.slice fb m.refs.length fd) m.refs) (k4 : Snaps w (.slice nb m.snaps.length nd) m.snaps) :
  Calls Tryz.prog 29 #[.agg #[.int .i64 m.guest, .slice ra m.root.length rc, .slice sa m.slots.length sc, .slice fa m.refs.length fc, .slice na m.snaps.length nc], .agg #[.int .i64 m.guest, .slice rb m.root.length rd, .slice sb m.slots.length sd, .slice fb m.refs.length fd, .slice nb m.snaps.length nd]] w fun r w' => r = .returned (.bool true) ∧ Below w.heap.size w w' := by
 have b0 : Below w.heap.size w ((w.alloc (.cells #[.int .i64 m.guest, .slice ra m.root.length rc, .slice sa m.slots.length sc, .slice fa m.refs.length fc, .slice na m.snaps.length nc] 27)).alloc (.cells #[.int .i64 m.guest, .slice rb m.root.length rd, .slice sb m.slots.length sd, .slice fb m.refs.length fd, .slice nb m.snaps.length nd] 27)) := ((Below.refl _ _).alloc (Nat.le_refl _) _).alloc (by simp) _
 have m0 : ((w.alloc (.cells #[.int .i64 m.guest, .slice ra m.root.length rc, .slice sa m.slots.length sc, .slice fa m.refs.length fc, .slice na m.snaps.length nc] 27)).alloc (.cells #[.int .i64 m.guest, .slice rb m.root.length rd, .slice sb m.slots.length sd, .slice fb m.refs.length fd, .slice nb m.snaps.length nd] 27)).heap[w.heap.size]? = some (.cells #[.int .i64 m.guest, .slice ra m.root.length rc, .slice sa m.slots.length sc, .slice fa m.refs.length fc, .slice na m.snaps.length nc] 27) := cells_alloc (World.alloc_heap_new _ _) _
 have m1 : ((w.alloc (.cells #[.int .i64 m.guest, .slice ra m.root.length rc, .slice sa m.slots.length sc, .slice fa m.refs.length fc, .slice na m.snaps.length nc] 27)).alloc (.cells #[.int .i64 m.guest, .slice rb m.root.length rd, .slice sb m.slots.length sd, .slice fb m.refs.length fd, .slice nb m.snaps.length nd] 27)).heap[w.heap.size + 1]? = some (.cells #[.int .i64 m.guest, .slice rb m.root.length rd, .slice sb m.slots.length sd, .slice fb m.refs.length fd, .slice nb m.snaps.length nd] 27) := by have := World.alloc_heap_new (w.alloc (.cells #[.int .i64 m.guest, .slice ra m.root.length rc, .slice sa m.slots.length sc, .slice fa m.refs.length fc, .slice na m.snaps.length nc] 27)) (.cells #[.int .i64 m.guest, .slice rb m.root.length rd, .slice sb m.slots.length sd, .slice fb m.refs.length fd, .slice nb m.snaps.length nd] 27); simpa using this
 obtain ⟨c0, c1, c2, c3, c4⟩ := five m0
 obtain ⟨d0, d1, d2, d3, d4⟩ := five m1
 have HR := same_any (h1.below b0) (k1.below b0)
 have HF := fun W (hW : Below w.heap.size w W) => same_any (h3.below hW) (k3.below hW)
 have HS : Hid (Slots w (.slice sa m.slots.length sc) m.slots ∧ Slots w (.slice sb m.slots.length sd) m.slots ∧ Snaps w (.slice na m.snaps.length nc) m.snaps ∧ Snaps w (.slice nb m.snaps.length nd) m.snaps) := ⟨h2, k2, h4, k4⟩
 have HL : Hid (m.slots.length ≤ 9223372036854775807 ∧ m.snaps.length ≤ 9223372036854775807) := ⟨h2.small, h4.small⟩
 clear h1 h2 h3 h4 k1 k2 k3 k4
 go_enter Tryz.func29, Tryz.ntmps29
 go_wp2_with (first
  | (go_at_call 52; refine (HF _ bw1).mono ?_; rintro e w2 ⟨rfl, b2⟩; have m4 := cells_below m2 b2 (szH m2); have m5 := cells_below m3 b2 (szH m3); obtain ⟨g0, g1, g2, g3, g4⟩ := five m4; obtain ⟨i0, i1, i2, i3, i4⟩ := five m5; have bw2 := Below.on bw1 b2)
  | (go_at_call 52; refine HR.mono ?_; rintro e w1 ⟨rfl, b1⟩; have m2 := cells_below m0 b1 (by simp <;> omega); have m3 := cells_below m1 b1 (by simp <;> omega); obtain ⟨e0, e1, e2, e3, e4⟩ := five m2; obtain ⟨f0, f1, f2, f3, f4⟩ := five m3; have bw1 := Below.on b0 b1))
 have HB : Hid (w2.heap[w.heap.size]? = some (.cells #[.int .i64 m.guest, .slice ra m.root.length rc, .slice sa m.slots.length sc, .slice fa m.refs.length fc, .slice na m.snaps.length nc] 27) ∧ w2.heap[w.heap.size + 1]? = some (.cells #[.int .i64 m.guest, .slice rb m.root.length rd, .slice sb m.slots.length sd, .slice fb m.refs.length fd, .slice nb m.snaps.length nd] 27) ∧ Below w.heap.size w w2) := ⟨m4, m5, bw2⟩
 clear c0 c1 c2 c3 c4 d0 d1 d2 d3 d4 e0 e1 e2 e3 e4 f0 f1 f2 f3 f4 g0 g1 g2 g3 g4 i0 i1 i2 i3 i4 m0 m1 m2 m3 m4 m5 b0 b1 b2 bw1 bw2 HR HF
 go_loopw [5] (fun i wr => ∃ k : Nat, k ≤ m.slots.length ∧ i = .int .i64 k ∧ Hid (wr.heap[w.heap.size]? = some (.cells #[.int .i64 m.guest, .slice ra m.root.length rc, .slice sa m.slots.length sc, .slice fa m.refs.length fc, .slice na m.snaps.length nc] 27) ∧ wr.heap[w.heap.size + 1]? = some (.cells #[.int .i64 m.guest, .slice rb m.root.length rd, .slice sb m.slots.length sd, .slice fb m.refs.length fd, .slice nb m.snaps.length nd] 27) ∧ Below w.heap.size w wr)) (fun i _ => m.slots.length - (intOf i).toNat)
 case atStart => exact ⟨0, Nat.zero_le _, rfl, HB⟩
 case round =>
  obtain ⟨k, hk, rfl, HC⟩ := hrel
  obtain ⟨mA, mB, hb⟩ := HC.out
  obtain ⟨c0, c1, c2, c3, c4⟩ := five mA
  obtain ⟨d0, d1, d2, d3, d4⟩ := five mB
  have hL := HL.out.1
  by_cases hlk : k < m.slots.length
  ·have hki : (k : Int) < (m.slots.length : Int) := by omega
   have hL1 : (k : Int) + 1 ≤ 9223372036854775807 := by omega
   obtain ⟨pb, po, pc, e, _, hpl, hps⟩ := HS.out.1.open (by omega)
   simp at e
   obtain ⟨rfl, rfl⟩ := e
   obtain ⟨qb, qo, qc, e, _, hql, hqs⟩ := HS.out.2.1.open (by omega)
   simp at e
   obtain ⟨rfl, rfl⟩ := e
   obtain ⟨s, hs⟩ : ∃ s, m.slots[k] = s := ⟨_, rfl⟩
   obtain ⟨kk, dd, tt⟩ := s
   obtain ⟨tv, p0, p1, p2, ps⟩ := hps k hlk
   obtain ⟨uv, q0, q1, q2, qs⟩ := hqs k hlk
   rw [hs] at p0 p1 ps q0 q1 qs
   obtain ⟨ta, tc, rfl⟩ := ps.form
   obtain ⟨ua, uc, rfl⟩ := qs.form
   have p0 : wr.cell? ⟨pb, po + k * 3, none⟩ = some (.int .i64 kk) := (hb.cell (p := ⟨pb, po + k * 3, none⟩) hpl).trans p0
   have p1 : wr.cell? ⟨pb, po + k * 3 + 1, none⟩ = some (.string dd) := (hb.cell (p := ⟨pb, po + k * 3 + 1, none⟩) hpl).trans p1
   have p2 : wr.cell? ⟨pb, po + k * 3 + 1 + 1, none⟩ = some (.slice ta tt.length tc) := (hb.cell (p := ⟨pb, po + k * 3 + 1 + 1, none⟩) hpl).trans p2
   have q0 : wr.cell? ⟨qb, qo + k * 3, none⟩ = some (.int .i64 kk) := (hb.cell (p := ⟨qb, qo + k * 3, none⟩) hql).trans q0
   have q1 : wr.cell? ⟨qb, qo + k * 3 + 1, none⟩ = some (.string dd) := (hb.cell (p := ⟨qb, qo + k * 3 + 1, none⟩) hql).trans q1
   have q2 : wr.cell? ⟨qb, qo + k * 3 + 1 + 1, none⟩ = some (.slice ua tt.length uc) := (hb.cell (p := ⟨qb, qo + k * 3 + 1 + 1, none⟩) hql).trans q2
   have hcall := same_any (w := wr.drew) (ps.below (to_drew hb)) (qs.below (to_drew hb))
   have hpw : pb < wr.heap.size := Nat.lt_of_lt_of_le hpl hb.size
   have hqw : qb < wr.heap.size := Nat.lt_of_lt_of_le hql hb.size
   have HN : Hid (∀ W, Below wr.heap.size wr W → W.heap[w.heap.size]? = some (.cells #[.int .i64 m.guest, .slice ra m.root.length rc, .slice (some ⟨pb, po, none⟩) m.slots.length sc, .slice fa m.refs.length fc, .slice na m.snaps.length nc] 27) ∧ W.heap[w.heap.size + 1]? = some (.cells #[.int .i64 m.guest, .slice rb m.root.length rd, .slice (some ⟨qb, qo, none⟩) m.slots.length sd, .slice fb m.refs.length fd, .slice nb m.snaps.length nd] 27) ∧ Below w.heap.size w W) := fun W hW => ⟨cells_below mA hW (szH mA), cells_below mB hW (szH mB), Below.on hb hW⟩
   have HK : Hid (∀ W, Below wr.heap.size wr W → W.cell? ⟨w.heap.size, 0 + 1 + 1, none⟩ = some (.slice (some ⟨pb, po, none⟩) m.slots.length sc) ∧ W.cell? ⟨w.heap.size + 1, 0 + 1 + 1, none⟩ = some (.slice (some ⟨qb, qo, none⟩) m.slots.length sd) ∧ W.cell? ⟨pb, po + k * 3, none⟩ = some (.int .i64 kk) ∧ W.cell? ⟨pb, po + k * 3 + 1, none⟩ = some (.string dd) ∧ W.cell? ⟨pb, po + k * 3 + 1 + 1, none⟩ = some (.slice ta tt.length tc) ∧ W.cell? ⟨qb, qo + k * 3, none⟩ = some (.int .i64 kk) ∧ W.cell? ⟨qb, qo + k * 3 + 1, none⟩ = some (.string dd) ∧ W.cell? ⟨qb, qo + k * 3 + 1 + 1, none⟩ = some (.slice ua tt.length uc)) := fun W hW => ⟨(hW.cell (p := ⟨w.heap.size, 0 + 1 + 1, none⟩) (szH mA)).trans c2, (hW.cell (p := ⟨w.heap.size + 1, 0 + 1 + 1, none⟩) (szH mB)).trans d2, (hW.cell (p := ⟨pb, po + k * 3, none⟩) hpw).trans p0, (hW.cell (p := ⟨pb, po + k * 3 + 1, none⟩) hpw).trans p1, (hW.cell (p := ⟨pb, po + k * 3 + 1 + 1, none⟩) hpw).trans p2, (hW.cell (p := ⟨qb, qo + k * 3, none⟩) hqw).trans q0, (hW.cell (p := ⟨qb, qo + k * 3 + 1, none⟩) hqw).trans q1, (hW.cell (p := ⟨qb, qo + k * 3 + 1 + 1, none⟩) hqw).trans q2⟩
   clear hs mA mB ps qs hps hqs
   go_wp2_with fail
   go_region_held3 (fun W => W.cell? ⟨w.heap.size, 0 + 1 + 1, none⟩ = some (.slice (some ⟨pb, po, none⟩) m.slots.length sc) ∧ W.cell? ⟨w.heap.size + 1, 0 + 1 + 1, none⟩ = some (.slice (some ⟨qb, qo, none⟩) m.slots.length sd) ∧ W.cell? ⟨pb, po + k * 3, none⟩ = some (.int .i64 kk) ∧ W.cell? ⟨pb, po + k * 3 + 1, none⟩ = some (.string dd) ∧ W.cell? ⟨pb, po + k * 3 + 1 + 1, none⟩ = some (.slice ta tt.length tc) ∧ W.cell? ⟨qb, qo + k * 3, none⟩ = some (.int .i64 kk) ∧ W.cell? ⟨qb, qo + k * 3 + 1, none⟩ = some (.string dd) ∧ W.cell? ⟨qb, qo + k * 3 + 1 + 1, none⟩ = some (.slice ua tt.length uc)) (first | exact HK.out _ b3 | exact HK.out _ (to_drew (Below.refl _ _)))
    (first | (go_at_call 52; refine hcall.mono ?_; rintro e w3 ⟨rfl, b3⟩; have b3 := below_drew b3))
   go_wp2_with fail
   go_roundw
   case rel => exact ⟨k + 1, by omega, by go_num, HN.out _ b3⟩
   case measure => simp [intOf]; omega
  ·have ek : k = m.slots.length := by omega
   subst ek
   obtain ⟨x, hrn⟩ : ∃ X, X = wr := ⟨_, rfl⟩
   subst hrn
   go_wp2_with fail
   clear c0 c1 c2 c3 c4 d0 d1 d2 d3 d4 mA mB hb hL
   go_loopw [6] (fun i wr => ∃ l : Nat, l ≤ m.snaps.length ∧ i = .int .i64 l ∧ Hid (wr.heap[w.heap.size]? = some (.cells #[.int .i64 m.guest, .slice ra m.root.length rc, .slice sa m.slots.length sc, .slice fa m.refs.length fc, .slice na m.snaps.length nc] 27) ∧ wr.heap[w.heap.size + 1]? = some (.cells #[.int .i64 m.guest, .slice rb m.root.length rd, .slice sb m.slots.length sd, .slice fb m.refs.length fd, .slice nb m.snaps.length nd] 27) ∧ Below w.heap.size w wr)) (fun i _ => m.snaps.length - (intOf i).toNat)
   case atStart => exact ⟨0, Nat.zero_le _, rfl, HC⟩
   case round =>
    obtain ⟨l, hl, rfl, HD⟩ := hrel
    obtain ⟨mA, mB, hb⟩ := HD.out
    obtain ⟨c0, c1, c2, c3, c4⟩ := five mA
    obtain ⟨d0, d1, d2, d3, d4⟩ := five mB
    have hL := HL.out.2
    by_cases hll : l < m.snaps.length
    ·have hki : (l : Int) < (m.snaps.length : Int) := by omega
     have hL1 : (l : Int) + 1 ≤ 9223372036854775807 := by omega
     obtain ⟨pb, po, pc, e, _, hpl, hps⟩ := HS.out.2.2.1.open (by omega)
     simp at e
     obtain ⟨rfl, rfl⟩ := e
     obtain ⟨qb, qo, qc, e, _, hql, hqs⟩ := HS.out.2.2.2.open (by omega)
     simp at e
     obtain ⟨rfl, rfl⟩ := e
     obtain ⟨s, hs⟩ : ∃ s, m.snaps[l] = s := ⟨_, rfl⟩
     obtain ⟨nm, sg, tt⟩ := s
     obtain ⟨tv, p0, p1, p2, ps⟩ := hps l hll
     obtain ⟨uv, q0, q1, q2, qs⟩ := hqs l hll
     rw [hs] at p0 p1 ps q0 q1 qs
     obtain ⟨ta, tc, rfl⟩ := ps.form
     obtain ⟨ua, uc, rfl⟩ := qs.form
     have p0 : wr.cell? ⟨pb, po + l * 3, none⟩ = some (.string nm) := (hb.cell (p := ⟨pb, po + l * 3, none⟩) hpl).trans p0
     have p1 : wr.cell? ⟨pb, po + l * 3 + 1, none⟩ = some (.int .i64 sg) := (hb.cell (p := ⟨pb, po + l * 3 + 1, none⟩) hpl).trans p1
     have p2 : wr.cell? ⟨pb, po + l * 3 + 1 + 1, none⟩ = some (.slice ta tt.length tc) := (hb.cell (p := ⟨pb, po + l * 3 + 1 + 1, none⟩) hpl).trans p2
     have q0 : wr.cell? ⟨qb, qo + l * 3, none⟩ = some (.string nm) := (hb.cell (p := ⟨qb, qo + l * 3, none⟩) hql).trans q0
     have q1 : wr.cell? ⟨qb, qo + l * 3 + 1, none⟩ = some (.int .i64 sg) := (hb.cell (p := ⟨qb, qo + l * 3 + 1, none⟩) hql).trans q1
     have q2 : wr.cell? ⟨qb, qo + l * 3 + 1 + 1, none⟩ = some (.slice ua tt.length uc) := (hb.cell (p := ⟨qb, qo + l * 3 + 1 + 1, none⟩) hql).trans q2
     have hcall := same_any (w := wr.drew) (ps.below (to_drew hb)) (qs.below (to_drew hb))
     have hpw : pb < wr.heap.size := Nat.lt_of_lt_of_le hpl hb.size
     have hqw : qb < wr.heap.size := Nat.lt_of_lt_of_le hql hb.size
     have HN : Hid (∀ W, Below wr.heap.size wr W → W.heap[w.heap.size]? = some (.cells #[.int .i64 m.guest, .slice ra m.root.length rc, .slice sa m.slots.length sc, .slice fa m.refs.length fc, .slice (some ⟨pb, po, none⟩) m.snaps.length nc] 27) ∧ W.heap[w.heap.size + 1]? = some (.cells #[.int .i64 m.guest, .slice rb m.root.length rd, .slice sb m.slots.length sd, .slice fb m.refs.length fd, .slice (some ⟨qb, qo, none⟩) m.snaps.length nd] 27) ∧ Below w.heap.size w W) := fun W hW => ⟨cells_below mA hW (szH mA), cells_below mB hW (szH mB), Below.on hb hW⟩
     have HK : Hid (∀ W, Below wr.heap.size wr W → W.cell? ⟨w.heap.size, 0 + 1 + 1 + 1 + 1, none⟩ = some (.slice (some ⟨pb, po, none⟩) m.snaps.length nc) ∧ W.cell? ⟨w.heap.size + 1, 0 + 1 + 1 + 1 + 1, none⟩ = some (.slice (some ⟨qb, qo, none⟩) m.snaps.length nd) ∧ W.cell? ⟨pb, po + l * 3, none⟩ = some (.string nm) ∧ W.cell? ⟨pb, po + l * 3 + 1, none⟩ = some (.int .i64 sg) ∧ W.cell? ⟨pb, po + l * 3 + 1 + 1, none⟩ = some (.slice ta tt.length tc) ∧ W.cell? ⟨qb, qo + l * 3, none⟩ = some (.string nm) ∧ W.cell? ⟨qb, qo + l * 3 + 1, none⟩ = some (.int .i64 sg) ∧ W.cell? ⟨qb, qo + l * 3 + 1 + 1, none⟩ = some (.slice ua tt.length uc)) := fun W hW => ⟨(hW.cell (p := ⟨w.heap.size, 0 + 1 + 1 + 1 + 1, none⟩) (szH mA)).trans c4, (hW.cell (p := ⟨w.heap.size + 1, 0 + 1 + 1 + 1 + 1, none⟩) (szH mB)).trans d4, (hW.cell (p := ⟨pb, po + l * 3, none⟩) hpw).trans p0, (hW.cell (p := ⟨pb, po + l * 3 + 1, none⟩) hpw).trans p1, (hW.cell (p := ⟨pb, po + l * 3 + 1 + 1, none⟩) hpw).trans p2, (hW.cell (p := ⟨qb, qo + l * 3, none⟩) hqw).trans q0, (hW.cell (p := ⟨qb, qo + l * 3 + 1, none⟩) hqw).trans q1, (hW.cell (p := ⟨qb, qo + l * 3 + 1 + 1, none⟩) hqw).trans q2⟩
     clear hs mA mB ps qs hps hqs
     go_wp2_with fail
     go_region_held3 (fun W => W.cell? ⟨w.heap.size, 0 + 1 + 1 + 1 + 1, none⟩ = some (.slice (some ⟨pb, po, none⟩) m.snaps.length nc) ∧ W.cell? ⟨w.heap.size + 1, 0 + 1 + 1 + 1 + 1, none⟩ = some (.slice (some ⟨qb, qo, none⟩) m.snaps.length nd) ∧ W.cell? ⟨pb, po + l * 3, none⟩ = some (.string nm) ∧ W.cell? ⟨pb, po + l * 3 + 1, none⟩ = some (.int .i64 sg) ∧ W.cell? ⟨pb, po + l * 3 + 1 + 1, none⟩ = some (.slice ta tt.length tc) ∧ W.cell? ⟨qb, qo + l * 3, none⟩ = some (.string nm) ∧ W.cell? ⟨qb, qo + l * 3 + 1, none⟩ = some (.int .i64 sg) ∧ W.cell? ⟨qb, qo + l * 3 + 1 + 1, none⟩ = some (.slice ua tt.length uc)) (first | exact HK.out _ b3 | exact HK.out _ (to_drew (Below.refl _ _)))
      (first | (go_at_call 52; refine hcall.mono ?_; rintro e w3 ⟨rfl, b3⟩; have b3 := below_drew b3))
     go_wp2_with fail
     go_roundw
     case rel => exact ⟨l + 1, by omega, by go_num, HN.out _ b3⟩
     case measure => simp [intOf]; omega
    ·have el : l = m.snaps.length := by omega
     subst el
     go_wp2_with fail
     go_ret
     exact ⟨rfl, hb⟩
theorem sameI_is {w : World} {v u : Value} {m : ImgD} (h : Img w v m) (k : Img w u m) : Calls Tryz.prog 29 #[v, u] w fun r w' => r = .returned (.bool true) ∧ Below w.heap.size w w' := by
 obtain ⟨ra, rc, sa, sc, fa, fc, na, nc, rfl, h1, h2, h3, h4⟩ := h.parts
 obtain ⟨rb, rd, sb, sd, fb, fd, nb, nd, rfl, k1, k2, k3, k4⟩ := k.parts
 exact sameI_at m ra rc sa sc fa fc na nc rb rd sb sd fb fd nb nd w h1 h2 h3 h4 k1 k2 k3 k4
end Go.Proofs.YtehleeibgkpjmaeGreat
