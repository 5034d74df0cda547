/- Texts joined: SkW, Pair, FrI, SkC, WrC0, WrG, WrH, WrC, RdP, PDec, RBegun, RdB, RdC, RWalk, SkP, SameInts, WBegun, SBegun, SameI, SkS, Up0. -/
import Derived.Test.YtehleeibgkpjmafStackBareJ3
import Derived.Test.YtehleeibgkpjmafStackBareJ4
import Derived.Test.YtehleeibgkpjmafStackBareJ8
import Derived.Deep.RegionHeld
import Derived.Test.YtehleeibgkpjmafStackBareJ5
import Derived.Test.YtehleeibgkpjmafStackBareJ1
import Derived.Deep.AppendLies
import Derived.Deep.QuietTactic
import Derived.BigQuiet
import Derived.Deep.RegionHeld3
/- Contracts of stack: Write. -/
namespace Go.Proofs.Ytehleeibgkpjmaf
open Go.RowKit Go.Shelf
set_option maxRecDepth 20000
set_option linter.unusedVariables false
set_option linter.unusedSimpArgs false

def AnsK (w : World) (b : List ByteArray) (m : ImgD) (err : Int) (r : Ending) (w' : World) : Prop := ∃ v, r = .returned (.tuple #[v, .int .i64 err]) ∧ Stk w' v b m ∧ Below w.heap.size w w'
theorem Stk.zero (W : World) : Stk W (.agg #[.slice none 0 0, .int .i64 0, .slice none 0 0, .slice none 0 0, .slice none 0 0, .slice none 0 0]) [] imgZ :=
  ⟨_, _, _, _, _, rfl, ⟨none, 0, rfl, Nat.zero_le _, Nat.le_refl _, fun x => absurd rfl x⟩, (OI.zero W 0).img⟩
theorem six_below {w W : World} (h : Below w.heap.size w W) (a0 a1 a2 a3 a4 a5 : Value) : Below w.heap.size w ((((((W.setCell ⟨w.heap.size + 1, 0, none⟩ a0).setCell ⟨w.heap.size + 1, 1, none⟩ a1).setCell ⟨w.heap.size + 1, 2, none⟩ a2).setCell ⟨w.heap.size + 1, 3, none⟩ a3).setCell ⟨w.heap.size + 1, 4, none⟩ a4).setCell ⟨w.heap.size + 1, 5, none⟩ a5) := by
  have i1 : w.heap.size ≤ w.heap.size + 1 := Nat.le_succ _
  exact (((((h.setCell (p := ⟨w.heap.size + 1, 0, none⟩) i1 _).setCell (p := ⟨w.heap.size + 1, 1, none⟩) i1 _).setCell (p := ⟨w.heap.size + 1, 2, none⟩) i1 _).setCell (p := ⟨w.heap.size + 1, 3, none⟩) i1 _).setCell (p := ⟨w.heap.size + 1, 4, none⟩) i1 _).setCell (p := ⟨w.heap.size + 1, 5, none⟩) i1 _
/-- Six cells of a block that came with the call are stored: what came later, and lies elsewhere, stays. -/
theorem Stk.stored {w W : World} {v : Value} {b : List ByteArray} {m : ImgD} (h : Stk W v b m) (a0 a1 a2 a3 a4 a5 : Value) (hk : ∀ W', (∀ q, q ≠ w.heap.size + 1 → W'.heap[q]? = W.heap[q]?) → Stk W' v b m) : Stk ((((((W.setCell ⟨w.heap.size + 1, 0, none⟩ a0).setCell ⟨w.heap.size + 1, 1, none⟩ a1).setCell ⟨w.heap.size + 1, 2, none⟩ a2).setCell ⟨w.heap.size + 1, 3, none⟩ a3).setCell ⟨w.heap.size + 1, 4, none⟩ a4).setCell ⟨w.heap.size + 1, 5, none⟩ a5) v b m :=
  hk _ fun q hq => by
    rw [Below.heap_setCell _ _ _ q hq, Below.heap_setCell _ _ _ q hq, Below.heap_setCell _ _ _ q hq, Below.heap_setCell _ _ _ q hq, Below.heap_setCell _ _ _ q hq, Below.heap_setCell _ _ _ q hq]
def skM (b : List ByteArray) (m : ImgD) (n : Int) (page : ByteArray) : ImgD := if scE b m ≠ 0 then imgZ else wrM m n page
def skE (b : List ByteArray) (m : ImgD) (n : Int) (page : ByteArray) : Int := if scE b m ≠ 0 then scE b m else wrE m n page
def skB (b : List ByteArray) (m : ImgD) (n : Int) (page : ByteArray) : List ByteArray := if skE b m n page ≠ 0 then [] else b

set_option maxHeartbeats 4000000 in
theorem sk_write_bad (ba : Option Addr) (bc : Nat) (ra : Option Addr) (rc : Nat) (sa : Option Addr) (sc : Nat) (fa : Option Addr) (fc : Nat) (na : Option Addr) (nc : Nat) (b : List ByteArray) (m : ImgD) (n : Int) (page : ByteArray) (w : World) (hS : Ss w (.slice ba b.length bc) b) (hI : Img w (.agg #[.int .i64 m.guest, .slice ra m.root.length rc, .slice sa m.slots.length sc, .slice fa m.refs.length fc, .slice na m.snaps.length nc]) m) (E : Int) (hE : scE b m = E) (hne : (E != 0) = true) :
    Calls Try.prog 7 #[.agg #[.slice ba b.length bc, .int .i64 m.guest, .slice ra m.root.length rc, .slice sa m.slots.length sc, .slice fa m.refs.length fc, .slice na m.snaps.length nc], .int .i64 n, .string page] w (AnsK w [] imgZ E) := by
  have b0 : Below w.heap.size w ((w.alloc (.cells #[.slice ba b.length bc, .int .i64 m.guest, .slice ra m.root.length rc, .slice sa m.slots.length sc, .slice fa m.refs.length fc, .slice na m.snaps.length nc] 29)).alloc (.cells #[.slice none 0 0, .int .i64 0, .slice none 0 0, .slice none 0 0, .slice none 0 0, .slice none 0 0] 29)) := ((Below.refl _ _).alloc (Nat.le_refl _) _).alloc (by simp) _
  have q0 : ((w.alloc (.cells #[.slice ba b.length bc, .int .i64 m.guest, .slice ra m.root.length rc, .slice sa m.slots.length sc, .slice fa m.refs.length fc, .slice na m.snaps.length nc] 29)).alloc (.cells #[.slice none 0 0, .int .i64 0, .slice none 0 0, .slice none 0 0, .slice none 0 0, .slice none 0 0] 29)).heap[w.heap.size]? = some (.cells #[.slice ba b.length bc, .int .i64 m.guest, .slice ra m.root.length rc, .slice sa m.slots.length sc, .slice fa m.refs.length fc, .slice na m.snaps.length nc] 29) := cells_alloc (World.alloc_heap_new _ _) _
  have r0 : ((w.alloc (.cells #[.slice ba b.length bc, .int .i64 m.guest, .slice ra m.root.length rc, .slice sa m.slots.length sc, .slice fa m.refs.length fc, .slice na m.snaps.length nc] 29)).alloc (.cells #[.slice none 0 0, .int .i64 0, .slice none 0 0, .slice none 0 0, .slice none 0 0, .slice none 0 0] 29)).heap[w.heap.size + 1]? = some (.cells #[.slice none 0 0, .int .i64 0, .slice none 0 0, .slice none 0 0, .slice none 0 0, .slice none 0 0] 29) := by have := World.alloc_heap_new (w.alloc (.cells #[.slice ba b.length bc, .int .i64 m.guest, .slice ra m.root.length rc, .slice sa m.slots.length sc, .slice fa m.refs.length fc, .slice na m.snaps.length nc] 29)) (.cells #[.slice none 0 0, .int .i64 0, .slice none 0 0, .slice none 0 0, .slice none 0 0, .slice none 0 0] 29); simpa using this
  have hz : w.heap.size + 1 < ((w.alloc (.cells #[.slice ba b.length bc, .int .i64 m.guest, .slice ra m.root.length rc, .slice sa m.slots.length sc, .slice fa m.refs.length fc, .slice na m.snaps.length nc] 29)).alloc (.cells #[.slice none 0 0, .int .i64 0, .slice none 0 0, .slice none 0 0, .slice none 0 0, .slice none 0 0] 29)).heap.size := by simp
  have hS1 := hS.below b0
  have hI1 := hI.below b0
  obtain ⟨c0, c1, c2, c3, c4, c5⟩ := six q0
  have hck := sk_check (w := ((w.alloc (.cells #[.slice ba b.length bc, .int .i64 m.guest, .slice ra m.root.length rc, .slice sa m.slots.length sc, .slice fa m.refs.length fc, .slice na m.snaps.length nc] 29)).alloc (.cells #[.slice none 0 0, .int .i64 0, .slice none 0 0, .slice none 0 0, .slice none 0 0, .slice none 0 0] 29))) (v := .agg #[.slice ba b.length bc, .int .i64 m.guest, .slice ra m.root.length rc, .slice sa m.slots.length sc, .slice fa m.refs.length fc, .slice na m.snaps.length nc]) ⟨_, _, _, _, _, rfl, hS1, hI1⟩ hE
  clear hS hI hI1 hS1 hE
  go_enter Try.func7, Try.ntmps7
  go_wp2_with (go_at_call 11; refine hck.mono ?_; rintro e w1 ⟨rfl, b1⟩; have q1 := cells_below q0 b1 (by omega); have r1 := cells_below r0 b1 hz; obtain ⟨d0, d1, d2, d3, d4, d5⟩ := six q1; obtain ⟨x0, x1, x2, x3, x4, x5⟩ := six r1; have y0 := cells_frozen r1 0; have y1 := cells_frozen r1 1; have y2 := cells_frozen r1 2; have y3 := cells_frozen r1 3; have y4 := cells_frozen r1 4; have y5 := cells_frozen r1 5)
  refine bodyPost_ret (v := .tuple #[.agg #[.slice none 0 0, .int .i64 0, .slice none 0 0, .slice none 0 0, .slice none 0 0, .slice none 0 0], .int .i64 E]) (by simp [results, Try.results7, go_sem, x0, x1, x2, x3, x4, x5]) rfl ⟨_, rfl, Stk.zero _, six_below (Below.on b0 b1) _ _ _ _ _ _⟩

set_option maxHeartbeats 4000000 in
theorem sk_write_err (ba : Option Addr) (bc : Nat) (ra : Option Addr) (rc : Nat) (sa : Option Addr) (sc : Nat) (fa : Option Addr) (fc : Nat) (na : Option Addr) (nc : Nat) (b : List ByteArray) (m : ImgD) (n : Int) (page : ByteArray) (w : World) (hS : Ss w (.slice ba b.length bc) b) (hI : Img w (.agg #[.int .i64 m.guest, .slice ra m.root.length rc, .slice sa m.slots.length sc, .slice fa m.refs.length fc, .slice na m.snaps.length nc]) m) (E : Int) (hC : scE b m = 0) (M : ImgD) (hE : wrE m n page = E) (hM : wrM m n page = M) (hne : (E != 0) = true) :
    Calls Try.prog 7 #[.agg #[.slice ba b.length bc, .int .i64 m.guest, .slice ra m.root.length rc, .slice sa m.slots.length sc, .slice fa m.refs.length fc, .slice na m.snaps.length nc], .int .i64 n, .string page] w (AnsK w [] imgZ E) := by
  have b0 : Below w.heap.size w ((w.alloc (.cells #[.slice ba b.length bc, .int .i64 m.guest, .slice ra m.root.length rc, .slice sa m.slots.length sc, .slice fa m.refs.length fc, .slice na m.snaps.length nc] 29)).alloc (.cells #[.slice none 0 0, .int .i64 0, .slice none 0 0, .slice none 0 0, .slice none 0 0, .slice none 0 0] 29)) := ((Below.refl _ _).alloc (Nat.le_refl _) _).alloc (by simp) _
  have q0 : ((w.alloc (.cells #[.slice ba b.length bc, .int .i64 m.guest, .slice ra m.root.length rc, .slice sa m.slots.length sc, .slice fa m.refs.length fc, .slice na m.snaps.length nc] 29)).alloc (.cells #[.slice none 0 0, .int .i64 0, .slice none 0 0, .slice none 0 0, .slice none 0 0, .slice none 0 0] 29)).heap[w.heap.size]? = some (.cells #[.slice ba b.length bc, .int .i64 m.guest, .slice ra m.root.length rc, .slice sa m.slots.length sc, .slice fa m.refs.length fc, .slice na m.snaps.length nc] 29) := cells_alloc (World.alloc_heap_new _ _) _
  have r0 : ((w.alloc (.cells #[.slice ba b.length bc, .int .i64 m.guest, .slice ra m.root.length rc, .slice sa m.slots.length sc, .slice fa m.refs.length fc, .slice na m.snaps.length nc] 29)).alloc (.cells #[.slice none 0 0, .int .i64 0, .slice none 0 0, .slice none 0 0, .slice none 0 0, .slice none 0 0] 29)).heap[w.heap.size + 1]? = some (.cells #[.slice none 0 0, .int .i64 0, .slice none 0 0, .slice none 0 0, .slice none 0 0, .slice none 0 0] 29) := by have := World.alloc_heap_new (w.alloc (.cells #[.slice ba b.length bc, .int .i64 m.guest, .slice ra m.root.length rc, .slice sa m.slots.length sc, .slice fa m.refs.length fc, .slice na m.snaps.length nc] 29)) (.cells #[.slice none 0 0, .int .i64 0, .slice none 0 0, .slice none 0 0, .slice none 0 0, .slice none 0 0] 29); simpa using this
  have hz : w.heap.size + 1 < ((w.alloc (.cells #[.slice ba b.length bc, .int .i64 m.guest, .slice ra m.root.length rc, .slice sa m.slots.length sc, .slice fa m.refs.length fc, .slice na m.snaps.length nc] 29)).alloc (.cells #[.slice none 0 0, .int .i64 0, .slice none 0 0, .slice none 0 0, .slice none 0 0, .slice none 0 0] 29)).heap.size := by simp
  have hS1 := hS.below b0
  have hI1 := hI.below b0
  obtain ⟨c0, c1, c2, c3, c4, c5⟩ := six q0
  have hck := sk_check (w := ((w.alloc (.cells #[.slice ba b.length bc, .int .i64 m.guest, .slice ra m.root.length rc, .slice sa m.slots.length sc, .slice fa m.refs.length fc, .slice na m.snaps.length nc] 29)).alloc (.cells #[.slice none 0 0, .int .i64 0, .slice none 0 0, .slice none 0 0, .slice none 0 0, .slice none 0 0] 29))) (v := .agg #[.slice ba b.length bc, .int .i64 m.guest, .slice ra m.root.length rc, .slice sa m.slots.length sc, .slice fa m.refs.length fc, .slice na m.snaps.length nc]) ⟨_, _, _, _, _, rfl, hS1, hI1⟩ hC
  have HWr : Hid (∀ w1, Below ((w.alloc (.cells #[.slice ba b.length bc, .int .i64 m.guest, .slice ra m.root.length rc, .slice sa m.slots.length sc, .slice fa m.refs.length fc, .slice na m.snaps.length nc] 29)).alloc (.cells #[.slice none 0 0, .int .i64 0, .slice none 0 0, .slice none 0 0, .slice none 0 0, .slice none 0 0] 29)).heap.size ((w.alloc (.cells #[.slice ba b.length bc, .int .i64 m.guest, .slice ra m.root.length rc, .slice sa m.slots.length sc, .slice fa m.refs.length fc, .slice na m.snaps.length nc] 29)).alloc (.cells #[.slice none 0 0, .int .i64 0, .slice none 0 0, .slice none 0 0, .slice none 0 0, .slice none 0 0] 29)) w1 → Calls Try.prog 26 #[.agg #[.int .i64 m.guest, .slice ra m.root.length rc, .slice sa m.slots.length sc, .slice fa m.refs.length fc, .slice na m.snaps.length nc], .int .i64 n, .string page] w1 (AnsI w1 w1.heap.size M E)) := fun w1 b1 => write_to (hI1.below b1) n page hM hE
  clear hS hI hI1 hS1 hE hM hC
  go_enter Try.func7, Try.ntmps7
  go_wp2_with (first | (go_at_call 26; refine (HWr.out w1 b1).mono ?_; intro e w2 hA; obtain ⟨val, g0, k0, g1, k1, g2, k2, g3, k3, rfl, hO, b2, hI⟩ := hA.open; have q3 := cells_alloc (cells_below q1 b2 (by have := b1.size; omega)) (.cells #[.int .i64 M.guest, .slice g0 M.root.length k0, .slice g1 M.slots.length k1, .slice g2 M.refs.length k2, .slice g3 M.snaps.length k3] 27); have r3 := cells_alloc (cells_below r1 b2 (by have := b1.size; omega)) (.cells #[.int .i64 M.guest, .slice g0 M.root.length k0, .slice g1 M.slots.length k1, .slice g2 M.refs.length k2, .slice g3 M.snaps.length k3] 27); have m3 : (w2.alloc (.cells #[.int .i64 M.guest, .slice g0 M.root.length k0, .slice g1 M.slots.length k1, .slice g2 M.refs.length k2, .slice g3 M.snaps.length k3] 27)).heap[w2.heap.size]? = some (.cells #[.int .i64 M.guest, .slice g0 M.root.length k0, .slice g1 M.slots.length k1, .slice g2 M.refs.length k2, .slice g3 M.snaps.length k3] 27) := World.alloc_heap_new _ _; obtain ⟨e0, e1, e2, e3, e4, e5⟩ := six q3; obtain ⟨u0, u1, u2, u3, u4, u5⟩ := six r3; have v0 := cells_frozen r3 0; have v1 := cells_frozen r3 1; have v2 := cells_frozen r3 2; have v3 := cells_frozen r3 3; have v4 := cells_frozen r3 4; have v5 := cells_frozen r3 5; obtain ⟨n0, n1, n2, n3, n4⟩ := five m3) | (go_at_call 11; refine hck.mono ?_; rintro e w1 ⟨rfl, b1⟩; have q1 := cells_below q0 b1 (by omega); have r1 := cells_below r0 b1 hz; obtain ⟨d0, d1, d2, d3, d4, d5⟩ := six q1; obtain ⟨x0, x1, x2, x3, x4, x5⟩ := six r1; have y0 := cells_frozen r1 0; have y1 := cells_frozen r1 1; have y2 := cells_frozen r1 2; have y3 := cells_frozen r1 3; have y4 := cells_frozen r1 4; have y5 := cells_frozen r1 5))
  refine bodyPost_ret (v := .tuple #[.agg #[.slice none 0 0, .int .i64 0, .slice none 0 0, .slice none 0 0, .slice none 0 0, .slice none 0 0], .int .i64 E]) (by simp [results, Try.results7, go_sem, u0, u1, u2, u3, u4, u5]) rfl ⟨_, rfl, Stk.zero _, six_below ((Below.on (Below.on b0 b1) b2).alloc (by have := b1.size; have := b2.size; omega) _) _ _ _ _ _ _⟩
theorem heap_six {w W : World} (a0 a1 a2 a3 a4 a5 : Value) (q : Nat) (hq : q ≠ w.heap.size + 1) : ((((((W.setCell ⟨w.heap.size + 1, 0, none⟩ a0).setCell ⟨w.heap.size + 1, 1, none⟩ a1).setCell ⟨w.heap.size + 1, 2, none⟩ a2).setCell ⟨w.heap.size + 1, 3, none⟩ a3).setCell ⟨w.heap.size + 1, 4, none⟩ a4).setCell ⟨w.heap.size + 1, 5, none⟩ a5).heap[q]? = W.heap[q]? := by
  rw [Below.heap_setCell _ _ _ q hq, Below.heap_setCell _ _ _ q hq, Below.heap_setCell _ _ _ q hq, Below.heap_setCell _ _ _ q hq, Below.heap_setCell _ _ _ q hq, Below.heap_setCell _ _ _ q hq]
theorem OI.six {w W : World} {B : Nat} {val : Nm → Value} {M : ImgD} (h : OI W B val M) (hfr : ∀ a, Live M a → (val a).ownBlock ≠ some (w.heap.size + 1)) (a0 a1 a2 a3 a4 a5 : Value) : OI ((((((W.setCell ⟨w.heap.size + 1, 0, none⟩ a0).setCell ⟨w.heap.size + 1, 1, none⟩ a1).setCell ⟨w.heap.size + 1, 2, none⟩ a2).setCell ⟨w.heap.size + 1, 3, none⟩ a3).setCell ⟨w.heap.size + 1, 4, none⟩ a4).setCell ⟨w.heap.size + 1, 5, none⟩ a5) B val M := (((((h.far hfr).far hfr).far hfr).far hfr).far hfr).far hfr
theorem six_far {w W : World} {B T S : Nat} {v : Value} {n : Nat} {xs : List Value} (h : W.ownsRow B T S v n xs) (hb : w.heap.size + 1 < B) (a0 a1 a2 a3 a4 a5 : Value) : ((((((W.setCell ⟨w.heap.size + 1, 0, none⟩ a0).setCell ⟨w.heap.size + 1, 1, none⟩ a1).setCell ⟨w.heap.size + 1, 2, none⟩ a2).setCell ⟨w.heap.size + 1, 3, none⟩ a3).setCell ⟨w.heap.size + 1, 4, none⟩ a4).setCell ⟨w.heap.size + 1, 5, none⟩ a5).ownsRow B T S v n xs := by
  have hne : v.ownBlock ≠ some (w.heap.size + 1) := fun e => by have := (h.lt _ e).1; omega
  exact ownsRow_setCell_other (ownsRow_setCell_other (ownsRow_setCell_other (ownsRow_setCell_other (ownsRow_setCell_other (ownsRow_setCell_other h hne _) hne _) hne _) hne _) hne _) hne _
set_option maxHeartbeats 4000000 in
theorem sk_write_ok (ba : Option Addr) (bc : Nat) (ra : Option Addr) (rc : Nat) (sa : Option Addr) (sc : Nat) (fa : Option Addr) (fc : Nat) (na : Option Addr) (nc : Nat) (b : List ByteArray) (m : ImgD) (n : Int) (page : ByteArray) (w : World) (hS : Ss w (.slice ba b.length bc) b) (hI : Img w (.agg #[.int .i64 m.guest, .slice ra m.root.length rc, .slice sa m.slots.length sc, .slice fa m.refs.length fc, .slice na m.snaps.length nc]) m) (hC : scE b m = 0) (M : ImgD) (hE : wrE m n page = 0) (hM : wrM m n page = M) :
    Calls Try.prog 7 #[.agg #[.slice ba b.length bc, .int .i64 m.guest, .slice ra m.root.length rc, .slice sa m.slots.length sc, .slice fa m.refs.length fc, .slice na m.snaps.length nc], .int .i64 n, .string page] w (AnsK w b M 0) := by
  have b0 : Below w.heap.size w ((w.alloc (.cells #[.slice ba b.length bc, .int .i64 m.guest, .slice ra m.root.length rc, .slice sa m.slots.length sc, .slice fa m.refs.length fc, .slice na m.snaps.length nc] 29)).alloc (.cells #[.slice none 0 0, .int .i64 0, .slice none 0 0, .slice none 0 0, .slice none 0 0, .slice none 0 0] 29)) := ((Below.refl _ _).alloc (Nat.le_refl _) _).alloc (by simp) _
  have q0 : ((w.alloc (.cells #[.slice ba b.length bc, .int .i64 m.guest, .slice ra m.root.length rc, .slice sa m.slots.length sc, .slice fa m.refs.length fc, .slice na m.snaps.length nc] 29)).alloc (.cells #[.slice none 0 0, .int .i64 0, .slice none 0 0, .slice none 0 0, .slice none 0 0, .slice none 0 0] 29)).heap[w.heap.size]? = some (.cells #[.slice ba b.length bc, .int .i64 m.guest, .slice ra m.root.length rc, .slice sa m.slots.length sc, .slice fa m.refs.length fc, .slice na m.snaps.length nc] 29) := cells_alloc (World.alloc_heap_new _ _) _
  have r0 : ((w.alloc (.cells #[.slice ba b.length bc, .int .i64 m.guest, .slice ra m.root.length rc, .slice sa m.slots.length sc, .slice fa m.refs.length fc, .slice na m.snaps.length nc] 29)).alloc (.cells #[.slice none 0 0, .int .i64 0, .slice none 0 0, .slice none 0 0, .slice none 0 0, .slice none 0 0] 29)).heap[w.heap.size + 1]? = some (.cells #[.slice none 0 0, .int .i64 0, .slice none 0 0, .slice none 0 0, .slice none 0 0, .slice none 0 0] 29) := by have := World.alloc_heap_new (w.alloc (.cells #[.slice ba b.length bc, .int .i64 m.guest, .slice ra m.root.length rc, .slice sa m.slots.length sc, .slice fa m.refs.length fc, .slice na m.snaps.length nc] 29)) (.cells #[.slice none 0 0, .int .i64 0, .slice none 0 0, .slice none 0 0, .slice none 0 0, .slice none 0 0] 29); simpa using this
  have hz : w.heap.size + 1 < ((w.alloc (.cells #[.slice ba b.length bc, .int .i64 m.guest, .slice ra m.root.length rc, .slice sa m.slots.length sc, .slice fa m.refs.length fc, .slice na m.snaps.length nc] 29)).alloc (.cells #[.slice none 0 0, .int .i64 0, .slice none 0 0, .slice none 0 0, .slice none 0 0, .slice none 0 0] 29)).heap.size := by simp
  have hS1 := hS.below b0
  have hI1 := hI.below b0
  obtain ⟨c0, c1, c2, c3, c4, c5⟩ := six q0
  have hck := sk_check (w := ((w.alloc (.cells #[.slice ba b.length bc, .int .i64 m.guest, .slice ra m.root.length rc, .slice sa m.slots.length sc, .slice fa m.refs.length fc, .slice na m.snaps.length nc] 29)).alloc (.cells #[.slice none 0 0, .int .i64 0, .slice none 0 0, .slice none 0 0, .slice none 0 0, .slice none 0 0] 29))) (v := .agg #[.slice ba b.length bc, .int .i64 m.guest, .slice ra m.root.length rc, .slice sa m.slots.length sc, .slice fa m.refs.length fc, .slice na m.snaps.length nc]) ⟨_, _, _, _, _, rfl, hS1, hI1⟩ hC
  have HWr : Hid (∀ w1, Below ((w.alloc (.cells #[.slice ba b.length bc, .int .i64 m.guest, .slice ra m.root.length rc, .slice sa m.slots.length sc, .slice fa m.refs.length fc, .slice na m.snaps.length nc] 29)).alloc (.cells #[.slice none 0 0, .int .i64 0, .slice none 0 0, .slice none 0 0, .slice none 0 0, .slice none 0 0] 29)).heap.size ((w.alloc (.cells #[.slice ba b.length bc, .int .i64 m.guest, .slice ra m.root.length rc, .slice sa m.slots.length sc, .slice fa m.refs.length fc, .slice na m.snaps.length nc] 29)).alloc (.cells #[.slice none 0 0, .int .i64 0, .slice none 0 0, .slice none 0 0, .slice none 0 0, .slice none 0 0] 29)) w1 → Calls Try.prog 26 #[.agg #[.int .i64 m.guest, .slice ra m.root.length rc, .slice sa m.slots.length sc, .slice fa m.refs.length fc, .slice na m.snaps.length nc], .int .i64 n, .string page] w1 (AnsI w1 w1.heap.size M 0)) := fun w1 b1 => write_to (hI1.below b1) n page hM hE
  have hb16 : b.length * 16 ≤ room := by have := (ckP_parts (scE_zero hC).1).1; rw [room_is]; omega
  have HCl : Hid (∀ w1 w2 o, Below ((w.alloc (.cells #[.slice ba b.length bc, .int .i64 m.guest, .slice ra m.root.length rc, .slice sa m.slots.length sc, .slice fa m.refs.length fc, .slice na m.snaps.length nc] 29)).alloc (.cells #[.slice none 0 0, .int .i64 0, .slice none 0 0, .slice none 0 0, .slice none 0 0, .slice none 0 0] 29)).heap.size ((w.alloc (.cells #[.slice ba b.length bc, .int .i64 m.guest, .slice ra m.root.length rc, .slice sa m.slots.length sc, .slice fa m.refs.length fc, .slice na m.snaps.length nc] 29)).alloc (.cells #[.slice none 0 0, .int .i64 0, .slice none 0 0, .slice none 0 0, .slice none 0 0, .slice none 0 0] 29)) w1 → Below w1.heap.size w1 w2 → Calls Try.prog 27 #[.slice ba b.length bc] (w2.alloc o).drew fun r w' => ∃ v', r = .returned v' ∧ w'.ownsRow w2.heap.size 9 1 v' b.length (strs b) ∧ Below (w2.alloc o).heap.size (w2.alloc o) w') := fun w1 w2 o b1 b2 => (clone_strs (((hS1.below b1).below b2).below (to_drew ((Below.refl _ _).alloc (Nat.le_refl _) o))) hb16).mono (fun r w' ⟨v', h1, h2, h3⟩ => ⟨v', h1, row_mono h2 (by simp), below_drew h3⟩)
  clear hS hI hI1 hS1 hE hM hC hb16
  go_enter Try.func7, Try.ntmps7
  go_wp2_with (first | (go_at_call 26; refine (HWr.out w1 b1).mono ?_; intro e w2 hA; obtain ⟨val, g0, k0, g1, k1, g2, k2, g3, k3, rfl, hO, b2, hI⟩ := hA.open; have q3 := cells_alloc (cells_below q1 b2 (by have := b1.size; omega)) (.cells #[.int .i64 M.guest, .slice g0 M.root.length k0, .slice g1 M.slots.length k1, .slice g2 M.refs.length k2, .slice g3 M.snaps.length k3] 27); have r3 := cells_alloc (cells_below r1 b2 (by have := b1.size; omega)) (.cells #[.int .i64 M.guest, .slice g0 M.root.length k0, .slice g1 M.slots.length k1, .slice g2 M.refs.length k2, .slice g3 M.snaps.length k3] 27); have m3 : (w2.alloc (.cells #[.int .i64 M.guest, .slice g0 M.root.length k0, .slice g1 M.slots.length k1, .slice g2 M.refs.length k2, .slice g3 M.snaps.length k3] 27)).heap[w2.heap.size]? = some (.cells #[.int .i64 M.guest, .slice g0 M.root.length k0, .slice g1 M.slots.length k1, .slice g2 M.refs.length k2, .slice g3 M.snaps.length k3] 27) := World.alloc_heap_new _ _; obtain ⟨e0, e1, e2, e3, e4, e5⟩ := six q3; obtain ⟨u0, u1, u2, u3, u4, u5⟩ := six r3; have v0 := cells_frozen r3 0; have v1 := cells_frozen r3 1; have v2 := cells_frozen r3 2; have v3 := cells_frozen r3 3; have v4 := cells_frozen r3 4; have v5 := cells_frozen r3 5; obtain ⟨n0, n1, n2, n3, n4⟩ := five m3) | (go_at_call 11; refine hck.mono ?_; rintro e w1 ⟨rfl, b1⟩; have q1 := cells_below q0 b1 (by omega); have r1 := cells_below r0 b1 hz; obtain ⟨d0, d1, d2, d3, d4, d5⟩ := six q1; obtain ⟨x0, x1, x2, x3, x4, x5⟩ := six r1; have y0 := cells_frozen r1 0; have y1 := cells_frozen r1 1; have y2 := cells_frozen r1 2; have y3 := cells_frozen r1 3; have y4 := cells_frozen r1 4; have y5 := cells_frozen r1 5))
  have HO : Hid (OI w2 w1.heap.size val M ∧ imgV M.guest val = .agg #[.int .i64 M.guest, .slice g0 M.root.length k0, .slice g1 M.slots.length k1, .slice g2 M.refs.length k2, .slice g3 M.snaps.length k3]) := ⟨hO, hI⟩
  clear hO hI hA
  refine wp_region_held_drew (S := (fun X : World => X.heap[w.heap.size]? = some (.cells #[.slice ba b.length bc, .int .i64 m.guest, .slice ra m.root.length rc, .slice sa m.slots.length sc, .slice fa m.refs.length fc, .slice na m.snaps.length nc] 29) ∧ X.heap[w2.heap.size]? = some (.cells #[.int .i64 M.guest, .slice g0 M.root.length k0, .slice g1 M.slots.length k1, .slice g2 M.refs.length k2, .slice g3 M.snaps.length k3] 27))) (by kernel_rfl) ⟨q3, m3⟩ (fun hHeld => ?_)
  refine wpAnyH_take (i := 0) (v := .pointer (some ⟨w.heap.size, 0, none⟩)) rfl (by kernel_rfl) (by kernel_rfl) (by kernel_rfl) (fun _ _ _ h => h) (Or.inl ⟨by rfl, fun w' hSw => by obtain ⟨qa, qb⟩ := hSw; obtain ⟨j0, j1, j2, j3, j4, j5⟩ := six qa; obtain ⟨i0, i1, i2, i3, i4⟩ := five qb; go_simp⟩) hHeld ?_
  simp only [Act.put, List.getElem_toArray, List.getElem_cons_succ, List.getElem_cons_zero, List.setIfInBounds_toArray, List.set_cons_zero, List.set_cons_succ]
  refine wpAnyH_take (i := 1) (v := .slice ba b.length bc) rfl (by kernel_rfl) (by kernel_rfl) (by kernel_rfl) (fun _ _ _ h => h) (Or.inl ⟨by rfl, fun w' hSw => by obtain ⟨qa, qb⟩ := hSw; obtain ⟨j0, j1, j2, j3, j4, j5⟩ := six qa; obtain ⟨i0, i1, i2, i3, i4⟩ := five qb; go_simp⟩) hHeld ?_
  simp only [Act.put, List.getElem_toArray, List.getElem_cons_succ, List.getElem_cons_zero, List.setIfInBounds_toArray, List.set_cons_zero, List.set_cons_succ]
  refine wpAnyH_take (i := 3) (v := .agg #[.int .i64 M.guest, .slice g0 M.root.length k0, .slice g1 M.slots.length k1, .slice g2 M.refs.length k2, .slice g3 M.snaps.length k3]) rfl (by kernel_rfl) (by kernel_rfl) (by kernel_rfl) (fun _ _ _ h => h) (Or.inl ⟨by rfl, fun w' hSw => by obtain ⟨qa, qb⟩ := hSw; obtain ⟨j0, j1, j2, j3, j4, j5⟩ := six qa; obtain ⟨i0, i1, i2, i3, i4⟩ := five qb; go_simp⟩) hHeld ?_
  simp only [Act.put, List.getElem_toArray, List.getElem_cons_succ, List.getElem_cons_zero, List.setIfInBounds_toArray, List.set_cons_zero, List.set_cons_succ]
  refine wpAnyH_ready (rs := [2]) (by kernel_rfl) (by simp) ?_
  refine AllReadyH.cons rfl (fun K hK => ?_) AllReadyH.nil
  clear hHeld
  simp only [Act.put, List.getElem_toArray, List.getElem_cons_succ, List.getElem_cons_zero, List.setIfInBounds_toArray, List.set_cons_zero, List.set_cons_succ]
  rw [if_pos (by rfl)]
  go_wp2_with (go_at_call 27; refine (HCl.out w1 w2 _ b1 b2).mono ?_; rintro e w4 ⟨v', rfl, hr4, b4⟩; obtain ⟨pa, pc, rfl⟩ := row_slice hr4)
  have q4 := cells_below q3 b4 (by have := b1.size; have := b2.size; simp <;> omega)
  have r4 := cells_below r3 b4 (by have := b1.size; have := b2.size; simp <;> omega)
  have m4 := cells_below m3 b4 (by simp)
  refine hK.out _ _ ⟨q4, m4⟩ (fun hHeld => ?_)
  clear hK K
  try simp only [Act.put, List.getElem_toArray, List.getElem_cons_succ, List.getElem_cons_zero, List.setIfInBounds_toArray, List.set_cons_zero, List.set_cons_succ]
  refine wpAnyH_take (i := 4) (v := .agg #[.slice pa b.length pc, .int .i64 M.guest, .slice g0 M.root.length k0, .slice g1 M.slots.length k1, .slice g2 M.refs.length k2, .slice g3 M.snaps.length k3]) rfl (by kernel_rfl) (by kernel_rfl) (by kernel_rfl) (fun _ _ _ h => h) (Or.inl ⟨by rfl, fun w' hSw => by obtain ⟨qa, qb⟩ := hSw; obtain ⟨j0, j1, j2, j3, j4, j5⟩ := six qa; obtain ⟨i0, i1, i2, i3, i4⟩ := five qb; go_simp⟩) hHeld ?_
  simp only [Act.put, List.getElem_toArray, List.getElem_cons_succ, List.getElem_cons_zero, List.setIfInBounds_toArray, List.set_cons_zero, List.set_cons_succ]
  refine wpAnyH_ready (rs := [5]) (by kernel_rfl) (by simp) ?_
  refine AllReadyH.cons rfl (fun K hK => ?_) AllReadyH.nil
  clear hHeld
  simp only [Act.put, List.getElem_toArray, List.getElem_cons_succ, List.getElem_cons_zero, List.setIfInBounds_toArray, List.set_cons_zero, List.set_cons_succ]
  rw [if_pos (by rfl)]
  obtain ⟨x0, x1, x2, x3, x4, x5⟩ := six r4
  have y0 := cells_frozen r4 0; have y1 := cells_frozen r4 1; have y2 := cells_frozen r4 2; have y3 := cells_frozen r4 3; have y4 := cells_frozen r4 4; have y5 := cells_frozen r4 5
  go_simp
  refine hK.out _ _ ⟨(heap_six _ _ _ _ _ _ _ (by omega)).trans q4, (heap_six _ _ _ _ _ _ _ (by have := b1.size; have := b2.size; omega)).trans m4⟩ (fun hHeld => ?_)
  clear hK K
  try simp only [Act.put, List.getElem_toArray, List.getElem_cons_succ, List.getElem_cons_zero, List.setIfInBounds_toArray, List.set_cons_zero, List.set_cons_succ]
  refine wpAnyH_take (i := 6) (v := .int .i64 0) rfl (by kernel_rfl) (by kernel_rfl) (by kernel_rfl) (fun _ _ _ h => h) (Or.inl ⟨by rfl, fun w' hSw => by go_simp⟩) hHeld ?_
  simp only [Act.put, List.getElem_toArray, List.getElem_cons_succ, List.getElem_cons_zero, List.setIfInBounds_toArray, List.set_cons_zero, List.set_cons_succ]
  clear hHeld
  refine wpAnyH_done (by kernel_rfl) ?_ _
  go_wp2_with fail
  have hO4 : OI w4 w1.heap.size val M := (HO.out.1.alloc _).below b4
  have hfr : ∀ a, Live M a → (val a).ownBlock ≠ some (w.heap.size + 1) := fun a ha e => by
    have := ((hO4.row a ha).lt _ e).1
    have := b1.size
    omega
  have hImg := fun a0 a1 a2 a3 a4 a5 => (OI.six (w := w) hO4 hfr a0 a1 a2 a3 a4 a5).img
  have eI := HO.out.2
  refine bodyPost_ret (v := .tuple #[.agg #[.slice pa b.length pc, .int .i64 M.guest, .slice g0 M.root.length k0, .slice g1 M.slots.length k1, .slice g2 M.refs.length k2, .slice g3 M.snaps.length k3], .int .i64 0]) (by simp [results, Try.results7, go_sem, x0, x1, x2, x3, x4, x5]) rfl ⟨_, rfl, ⟨_, _, _, _, _, rfl, row_ss (six_far hr4 (by have := b1.size; have := b2.size; omega) _ _ _ _ _ _), (by rw [← eI]; exact hImg _ _ _ _ _ _)⟩, six_below (((Below.on (Below.on b0 b1) b2).alloc (by have := b1.size; have := b2.size; omega) _).trans (b4.mono (by have := b1.size; have := b2.size; simp <;> omega))) _ _ _ _ _ _⟩
theorem sk_write {w : World} {v : Value} {b : List ByteArray} {m : ImgD} (h : Stk w v b m) (n : Int) (page : ByteArray) {B : List ByteArray} {M : ImgD} {E : Int} (hE : skE b m n page = E) (hM : skM b m n page = M) (hB : skB b m n page = B) : Calls Try.prog 7 #[v, .int .i64 n, .string page] w (AnsK w B M E) := by
  subst hE hM hB
  obtain ⟨ba, bc, ra, rc, sa, sc, fa, fc, na, nc, rfl, hS, hI⟩ := h.parts
  by_cases hC : scE b m = 0
  · have e1 : skE b m n page = wrE m n page := by unfold skE; rw [if_neg (by simpa using hC)]
    have e2 : skM b m n page = wrM m n page := by unfold skM; rw [if_neg (by simpa using hC)]
    rw [e2]
    unfold skB
    by_cases hW : wrE m n page = 0
    · rw [e1, hW, if_neg (by decide)]
      exact sk_write_ok ba bc ra rc sa sc fa fc na nc b m n page w hS hI hC _ hW rfl
    · rw [e1, if_pos hW, wr_bad hW]
      exact sk_write_err ba bc ra rc sa sc fa fc na nc b m n page w hS hI _ hC _ rfl rfl (by simpa using hW)
  · have e1 : skE b m n page = scE b m := by unfold skE; rw [if_pos hC]
    have e2 : skM b m n page = imgZ := by unfold skM; rw [if_pos hC]
    rw [e2]
    unfold skB
    rw [e1, if_pos hC]
    exact sk_write_bad ba bc ra rc sa sc fa fc na nc b m n page w hS hI _ rfl (by simpa using hC)
end Go.Proofs.Ytehleeibgkpjmaf
/- Contract of pair: the image that every beginning looks at. -/
namespace Go.Proofs.Ytehleeibgkpjmaf
open Go.RowKit Go.Shelf
set_option maxRecDepth 20000

def aaaa : ByteArray := ⟨#[97, 97, 97, 97]⟩
def bbbb : ByteArray := ⟨#[98, 98, 98, 98]⟩
def nOld : ByteArray := ⟨#[111, 108, 100]⟩

/-- The image of pair, where its second table and its Refs may have been changed. -/
def pairD (g : Int) (R T : List Int) : ImgD := ⟨g, [2, 4], [(0, ⟨#[]⟩, []), (1, aaaa, []), (2, ⟨#[]⟩, [1, 0, -1, 1]), (1, bbbb, []), (2, ⟨#[]⟩, T)], R, [(nOld, 4, [2])]⟩
structure PairW (n : Nat) (W : World) (R T : List Int) : Prop where
  root : LAt W (n + 1) [2, 4]
  ta : LAt W (n + 2) [1, 0, -1, 1]
  tb : LAt W (n + 3) T
  slots : W.heap[n + 4]? = some (.cells #[.int .i64 0, .string ⟨#[]⟩, .slice none 0 0, .int .i64 1, .string aaaa, .slice none 0 0, .int .i64 2, .string ⟨#[]⟩, .slice (some ⟨n + 2, 0, none⟩) 4 4, .int .i64 1, .string bbbb, .slice none 0 0, .int .i64 2, .string ⟨#[]⟩, .slice (some ⟨n + 3, 0, none⟩) 4 4] 65)
  refs : LAt W (n + 5) R
  sroot : LAt W (n + 6) [2]
  snaps : W.heap[n + 7]? = some (.cells #[.string nOld, .int .i64 4, .slice (some ⟨n + 6, 0, none⟩) 1 1] 86)

theorem alloc_get (W : World) (o : Obj) (i : Nat) : (W.alloc o).heap[i]? = if i = W.heap.size then some o else W.heap[i]? := by
  show (W.heap.push o)[i]? = _
  rw [Array.getElem?_push]

theorem size_alloc (W : World) (o : Obj) : (W.alloc o).heap.size = W.heap.size + 1 := by simp

set_option linter.unusedSimpArgs false in
theorem pair_at (w : World) : Calls Try.prog 30 #[] w fun r w' => r = .returned (.agg #[.int .i64 6, .slice (some ⟨w.heap.size + 1, 0, none⟩) 2 2, .slice (some ⟨w.heap.size + 4, 0, none⟩) 5 5, .slice (some ⟨w.heap.size + 5, 0, none⟩) 5 5, .slice (some ⟨w.heap.size + 7, 0, none⟩) 1 1]) ∧ PairW w.heap.size w' [0, 2, 2, 1, 1] [3, 0, 0, 0] ∧ Below w.heap.size w w' := by
  go_enter Try.func30, Try.ntmps30
  go_wp2
  refine bodyPost_ret (v := .agg #[.int .i64 6, .slice (some ⟨w.heap.size + 1, 0, none⟩) 2 2, .slice (some ⟨w.heap.size + 4, 0, none⟩) 5 5, .slice (some ⟨w.heap.size + 5, 0, none⟩) 5 5, .slice (some ⟨w.heap.size + 7, 0, none⟩) 1 1]) (by simp [results, Try.results30, go_sem]) rfl ⟨rfl, ⟨?_, ?_, ?_, ?_, ?_, ?_, ?_⟩, ?_⟩
  · show _ = _; simp only [alloc_get, size_alloc, Nat.add_right_cancel_iff, Nat.add_assoc, Nat.reduceAdd, Nat.add_left_cancel_iff, Nat.reduceEqDiff, ↓reduceIte, List.map, Nat.left_eq_add, reduceCtorEq, Nat.add_eq_left, Nat.succ_ne_self]
  · show _ = _; simp only [alloc_get, size_alloc, Nat.add_right_cancel_iff, Nat.add_assoc, Nat.reduceAdd, Nat.add_left_cancel_iff, Nat.reduceEqDiff, ↓reduceIte, List.map, Nat.left_eq_add, reduceCtorEq, Nat.add_eq_left, Nat.succ_ne_self]
  · show _ = _; simp only [alloc_get, size_alloc, Nat.add_right_cancel_iff, Nat.add_assoc, Nat.reduceAdd, Nat.add_left_cancel_iff, Nat.reduceEqDiff, ↓reduceIte, List.map, Nat.left_eq_add, reduceCtorEq, Nat.add_eq_left, Nat.succ_ne_self]
  · show _ = _; simp only [alloc_get, size_alloc, Nat.add_assoc, Nat.reduceAdd, Nat.add_left_cancel_iff, Nat.reduceEqDiff, ↓reduceIte, aaaa, bbbb]
  · show _ = _; simp only [alloc_get, size_alloc, Nat.add_right_cancel_iff, Nat.add_assoc, Nat.reduceAdd, Nat.add_left_cancel_iff, Nat.reduceEqDiff, ↓reduceIte, List.map, Nat.left_eq_add, reduceCtorEq, Nat.add_eq_left, Nat.succ_ne_self]
  · show _ = _; simp only [alloc_get, size_alloc, Nat.add_right_cancel_iff, Nat.add_assoc, Nat.reduceAdd, Nat.add_left_cancel_iff, Nat.reduceEqDiff, ↓reduceIte, List.map, Nat.left_eq_add, reduceCtorEq, Nat.add_eq_left, Nat.succ_ne_self]
  · show _ = _; simp only [alloc_get, size_alloc, Nat.add_assoc, Nat.reduceAdd, Nat.add_left_cancel_iff, Nat.reduceEqDiff, ↓reduceIte, nOld]
  · exact ((((((((Below.refl _ _).alloc (Nat.le_refl _) _).alloc (by simp) _).alloc (by simp; omega) _).alloc (by simp; omega) _).alloc (by simp; omega) _).alloc (by simp; omega) _).alloc (by simp; omega) _).alloc (by simp; omega) _

theorem PairW.below {n : Nat} {W W' : World} {R T : List Int} (h : PairW n W R T) {k : Nat} (hb : Below k W W') (hk : n + 8 ≤ k) : PairW n W' R T :=
  ⟨(hb.block _ (by omega)).trans h.root, (hb.block _ (by omega)).trans h.ta, (hb.block _ (by omega)).trans h.tb, (hb.block _ (by omega)).trans h.slots, (hb.block _ (by omega)).trans h.refs, (hb.block _ (by omega)).trans h.sroot, (hb.block _ (by omega)).trans h.snaps⟩
theorem PairW.size {n : Nat} {W : World} {R T : List Int} (h : PairW n W R T) : n + 8 ≤ W.heap.size := by
  have := (Array.getElem?_eq_some_iff.1 h.snaps).1; omega
theorem cell_of {W : World} {g : Nat} {A : Array Value} {t : TypeId} {fr : Nat × Nat} (h : W.heap[g]? = some (.cells A t fr)) {j : Nat} {v : Value} (hv : A[j]? = some v) : W.cell? ⟨g, j, none⟩ = some v := by
  simp [World.cell?, h, hv]
theorem PairW.img {n : Nat} {W : World} {R T : List Int} (h : PairW n W R T) (hR : R.length = 5) (hT : T.length = 4) (g : Int) :
    Img W (.agg #[.int .i64 g, .slice (some ⟨n + 1, 0, none⟩) 2 2, .slice (some ⟨n + 4, 0, none⟩) 5 5, .slice (some ⟨n + 5, 0, none⟩) 5 5, .slice (some ⟨n + 7, 0, none⟩) 1 1]) (pairD g R T) := by
  refine ⟨_, _, _, _, rfl, h.root.sl rfl (by decide), ⟨some ⟨n + 4, 0, none⟩, 5, rfl, show (5 : Nat) ≤ maxLen by decide, Nat.le_refl _, fun _ => ⟨n + 4, 0, rfl, (Array.getElem?_eq_some_iff.1 h.slots).1, ?_⟩⟩, h.refs.sl hR (by decide), ⟨some ⟨n + 7, 0, none⟩, 1, rfl, show (1 : Nat) ≤ maxLen by decide, Nat.le_refl _, fun _ => ⟨n + 7, 0, rfl, (Array.getElem?_eq_some_iff.1 h.snaps).1, ?_⟩⟩⟩
  · intro j hj
    have h5 : j < 5 := hj
    match j, h5 with
    | 0, _ => exact ⟨_, cell_of h.slots rfl, cell_of h.slots rfl, cell_of h.slots rfl, Sl.nil W⟩
    | 1, _ => exact ⟨_, cell_of h.slots rfl, cell_of h.slots rfl, cell_of h.slots rfl, Sl.nil W⟩
    | 2, _ => exact ⟨_, cell_of h.slots rfl, cell_of h.slots rfl, cell_of h.slots rfl, h.ta.sl rfl (by decide)⟩
    | 3, _ => exact ⟨_, cell_of h.slots rfl, cell_of h.slots rfl, cell_of h.slots rfl, Sl.nil W⟩
    | 4, _ => exact ⟨_, cell_of h.slots rfl, cell_of h.slots rfl, cell_of h.slots rfl, h.tb.sl hT (by decide)⟩
  · intro j hj
    have h1 : j < 1 := hj
    match j, h1 with
    | 0, _ => exact ⟨_, cell_of h.snaps rfl, cell_of h.snaps rfl, cell_of h.snaps rfl, h.sroot.sl rfl (by decide)⟩
theorem LAt.other {W : World} {g g' : Nat} {l : List Int} (h : LAt W g l) (hne : g ≠ g') (j : Nat) (v : Value) : LAt (W.setCell ⟨g', j, none⟩ v) g l := ((Only.set g' W j v).block g hne).trans h
theorem PairW.setRefs {n : Nat} {W : World} {R T : List Int} (h : PairW n W R T) (j : Nat) (x : Int) : PairW n (W.setCell ⟨n + 5, j, none⟩ (.int .i64 x)) (R.set j x) T :=
  ⟨h.root.other (by omega) _ _, h.ta.other (by omega) _ _, h.tb.other (by omega) _ _, ((Only.set (n + 5) W j _).block _ (by omega)).trans h.slots, h.refs.set j x, h.sroot.other (by omega) _ _, ((Only.set (n + 5) W j _).block _ (by omega)).trans h.snaps⟩
theorem pair_is (w : World) : Calls Try.prog 30 #[] w fun r w' => (∃ v, r = .returned v ∧ Img w' v (pairD 6 [0, 2, 2, 1, 1] [3, 0, 0, 0])) ∧ Below w.heap.size w w' :=
  (pair_at w).mono fun _ _ h => ⟨⟨_, h.1, h.2.1.img rfl rfl 6⟩, h.2.2⟩
end Go.Proofs.Ytehleeibgkpjmaf
/- Contract of fresh.Image: an image to which nothing was written. -/
namespace Go.Proofs.Ytehleeibgkpjmaf
open Go.RowKit Go.Shelf
set_option maxRecDepth 20000
set_option linter.unusedVariables false

def zD : ImgD := ⟨0, [], [(0, ⟨#[]⟩, [])], [0], []⟩
def freshD (g : Nat) : ImgD := ⟨g, List.replicate ((g + 3) / 4) 0, [(0, ⟨#[]⟩, [])], [0], []⟩
def frsM (g : Int) : ImgD := rzM zD g
def frsE (g : Int) : Int := rzE zD g
theorem frs_is : ∀ k : Nat, k ≤ 16 → frsM k = freshD k ∧ frsE k = 0 ∧ checkE (freshD k) = 0
  | 0, _ => ⟨by kernel_rfl, by decide +kernel, by decide +kernel⟩
  | 1, _ => ⟨by kernel_rfl, by decide +kernel, by decide +kernel⟩
  | 2, _ => ⟨by kernel_rfl, by decide +kernel, by decide +kernel⟩
  | 3, _ => ⟨by kernel_rfl, by decide +kernel, by decide +kernel⟩
  | 4, _ => ⟨by kernel_rfl, by decide +kernel, by decide +kernel⟩
  | 5, _ => ⟨by kernel_rfl, by decide +kernel, by decide +kernel⟩
  | 6, _ => ⟨by kernel_rfl, by decide +kernel, by decide +kernel⟩
  | 7, _ => ⟨by kernel_rfl, by decide +kernel, by decide +kernel⟩
  | 8, _ => ⟨by kernel_rfl, by decide +kernel, by decide +kernel⟩
  | 9, _ => ⟨by kernel_rfl, by decide +kernel, by decide +kernel⟩
  | 10, _ => ⟨by kernel_rfl, by decide +kernel, by decide +kernel⟩
  | 11, _ => ⟨by kernel_rfl, by decide +kernel, by decide +kernel⟩
  | 12, _ => ⟨by kernel_rfl, by decide +kernel, by decide +kernel⟩
  | 13, _ => ⟨by kernel_rfl, by decide +kernel, by decide +kernel⟩
  | 14, _ => ⟨by kernel_rfl, by decide +kernel, by decide +kernel⟩
  | 15, _ => ⟨by kernel_rfl, by decide +kernel, by decide +kernel⟩
  | 16, _ => ⟨by kernel_rfl, by decide +kernel, by decide +kernel⟩
  | k + 17, h => absurd h (by omega)
theorem al2a (W : World) (a b : Obj) : ((W.alloc a).alloc b).heap[W.heap.size]? = some a := (Below.heap_alloc _ _ _ (by simp)).trans (World.alloc_heap_new W a)
theorem al2b (W : World) (a b : Obj) : ((W.alloc a).alloc b).heap[(W.alloc a).heap.size]? = some b := World.alloc_heap_new _ _
theorem zD_img {W : World} {x y : Nat} (hx : W.heap[x]? = some (.cells #[.int .i64 0, .string ⟨#[]⟩, .slice none 0 0] 65)) (hy : W.heap[y]? = some (.cells #[.int .i64 0] 3)) : Img W (.agg #[.int .i64 0, .slice none 0 0, .slice (some ⟨x, 0, none⟩) 1 1, .slice (some ⟨y, 0, none⟩) 1 1, .slice none 0 0]) zD := by
  refine ⟨_, _, _, _, rfl, Sl.nil W, ?_, ?_, ?_⟩
  · refine ⟨some ⟨x, 0, none⟩, 1, rfl, show (1 : Nat) ≤ maxLen by decide, Nat.le_refl _, fun _ => ⟨x, 0, rfl, (Array.getElem?_eq_some_iff.1 hx).1, ?_⟩⟩
    intro j hj
    have h1 : j < 1 := hj
    match j, h1 with
    | 0, _ => exact ⟨_, cell_of hx rfl, cell_of hx rfl, cell_of hx rfl, Sl.nil W⟩
  · refine ⟨some ⟨y, 0, none⟩, 1, rfl, show (1 : Nat) ≤ maxLen by decide, Nat.le_refl _, fun _ => ⟨y, 0, rfl, (Array.getElem?_eq_some_iff.1 hy).1, fun j hj => ?_⟩⟩
    have h1 : j < 1 := hj
    match j, h1 with
    | 0, _ => exact cell_of hy rfl
  · exact ⟨none, 0, rfl, Nat.zero_le _, Nat.le_refl _, fun x => absurd rfl x⟩

set_option maxHeartbeats 4000000 in
theorem fresh_at (g : Int) (w : World) (M : ImgD) (E : Int) (hM : frsM g = M) (hE : frsE g = E) : Calls Try.prog 29 #[.int .i64 g] w (AnsI w w.heap.size M E) := by
  have m0 : (w.alloc (.cells #[.int .i64 0, .slice none 0 0, .slice none 0 0, .slice none 0 0, .slice none 0 0] 27)).heap[w.heap.size]? = some (.cells #[.int .i64 0, .slice none 0 0, .slice none 0 0, .slice none 0 0, .slice none 0 0] 27) := World.alloc_heap_new _ _
  have HR : Hid (∀ (W : World) (x y : Nat), W.heap[x]? = some (.cells #[.int .i64 0, .string ⟨#[]⟩, .slice none 0 0] 65) → W.heap[y]? = some (.cells #[.int .i64 0] 3) → Calls Try.prog 16 #[.agg #[.int .i64 0, .slice none 0 0, .slice (some ⟨x, 0, none⟩) 1 1, .slice (some ⟨y, 0, none⟩) 1 1, .slice none 0 0], .int .i64 g] W (AnsI W W.heap.size M E)) := fun W x y hx hy => resize_to (zD_img hx hy) g hM hE
  have hb1 : Below w.heap.size w ((w.alloc (.cells #[.int .i64 0, .slice none 0 0, .slice none 0 0, .slice none 0 0, .slice none 0 0] 27)).alloc (.cells #[.int .i64 0, .string ⟨#[]⟩, .slice none 0 0] 65) |>.alloc (.cells #[.int .i64 0] 3)).drew := ((((Below.refl _ _).alloc (Nat.le_refl _) _).alloc (by simp) _).alloc (by simp; omega) _).drew
  have hb2 : Below w.heap.size w ((w.alloc (.cells #[.int .i64 0, .slice none 0 0, .slice none 0 0, .slice none 0 0, .slice none 0 0] 27)).alloc (.cells #[.int .i64 0] 3) |>.alloc (.cells #[.int .i64 0, .string ⟨#[]⟩, .slice none 0 0] 65)).drew := ((((Below.refl _ _).alloc (Nat.le_refl _) _).alloc (by simp) _).alloc (by simp; omega) _).drew
  clear hM hE
  go_enter Try.func29, Try.ntmps29
  have hm1 : ∀ w, (Instr.makeSlice 24 (.int .i64 1) (.int .i64 1)).run Try.prog w = .ok (.slice (some ⟨w.heap.size, 0, none⟩) 1 1) (w.alloc (.cells #[.int .i64 0, .string ⟨#[]⟩, .slice none 0 0] 65)) := fun _ => by kernel_rfl
  have hm2 : ∀ w, (Instr.makeSlice 23 (.int .i64 1) (.int .i64 1)).run Try.prog w = .ok (.slice (some ⟨w.heap.size, 0, none⟩) 1 1) (w.alloc (.cells #[.int .i64 0] 3)) := fun _ => by kernel_rfl
  have x1 : (((w.alloc (.cells #[.int .i64 0, .slice none 0 0, .slice none 0 0, .slice none 0 0, .slice none 0 0] 27)).alloc (.cells #[.int .i64 0, .string ⟨#[]⟩, .slice none 0 0] 65)).alloc (.cells #[.int .i64 0] 3)).heap[w.heap.size + 1]? = some (.cells #[.int .i64 0, .string ⟨#[]⟩, .slice none 0 0] 65) := by have := al2a (w.alloc (.cells #[.int .i64 0, .slice none 0 0, .slice none 0 0, .slice none 0 0, .slice none 0 0] 27)) (.cells #[.int .i64 0, .string ⟨#[]⟩, .slice none 0 0] 65) (.cells #[.int .i64 0] 3); simpa using this
  have y1 : (((w.alloc (.cells #[.int .i64 0, .slice none 0 0, .slice none 0 0, .slice none 0 0, .slice none 0 0] 27)).alloc (.cells #[.int .i64 0, .string ⟨#[]⟩, .slice none 0 0] 65)).alloc (.cells #[.int .i64 0] 3)).heap[w.heap.size + 1 + 1]? = some (.cells #[.int .i64 0] 3) := by have := al2b (w.alloc (.cells #[.int .i64 0, .slice none 0 0, .slice none 0 0, .slice none 0 0, .slice none 0 0] 27)) (.cells #[.int .i64 0, .string ⟨#[]⟩, .slice none 0 0] 65) (.cells #[.int .i64 0] 3); simpa using this
  have x2 : (((w.alloc (.cells #[.int .i64 0, .slice none 0 0, .slice none 0 0, .slice none 0 0, .slice none 0 0] 27)).alloc (.cells #[.int .i64 0] 3)).alloc (.cells #[.int .i64 0, .string ⟨#[]⟩, .slice none 0 0] 65)).heap[w.heap.size + 1 + 1]? = some (.cells #[.int .i64 0, .string ⟨#[]⟩, .slice none 0 0] 65) := by have := al2b (w.alloc (.cells #[.int .i64 0, .slice none 0 0, .slice none 0 0, .slice none 0 0, .slice none 0 0] 27)) (.cells #[.int .i64 0] 3) (.cells #[.int .i64 0, .string ⟨#[]⟩, .slice none 0 0] 65); simpa using this
  have y2 : (((w.alloc (.cells #[.int .i64 0, .slice none 0 0, .slice none 0 0, .slice none 0 0, .slice none 0 0] 27)).alloc (.cells #[.int .i64 0] 3)).alloc (.cells #[.int .i64 0, .string ⟨#[]⟩, .slice none 0 0] 65)).heap[w.heap.size + 1]? = some (.cells #[.int .i64 0] 3) := by have := al2a (w.alloc (.cells #[.int .i64 0, .slice none 0 0, .slice none 0 0, .slice none 0 0, .slice none 0 0] 27)) (.cells #[.int .i64 0] 3) (.cells #[.int .i64 0, .string ⟨#[]⟩, .slice none 0 0] 65); simpa using this
  go_upto_region 1 with fail
  go_region_with (go_at_call 16; refine (HR.out _ _ _ (by first | exact x1 | exact x2) (by first | exact y1 | exact y2)).mono ?_; intro e w2 hA; obtain ⟨val, a1, a2, a3, a4, a5, a6, a7, a8, rfl, hO, bb, hI⟩ := hA.open; have zz := (bb.block w.heap.size (by simp <;> omega)).trans (cells_alloc (cells_alloc m0 _) _); obtain ⟨z0, z1, z2, z3, z4⟩ := five zz; have f0 := cells_frozen zz 0; have f1 := cells_frozen zz 1; have f2 := cells_frozen zz 2; have f3 := cells_frozen zz 3; have f4 := cells_frozen zz 4; have HO : Hid (OI w2 _ val M ∧ _ = imgV M.guest val) := ⟨hO, hI.symm⟩; have HB : Hid (Below w.heap.size w w2) := (by first | exact hb1.trans (bb.mono (by simp <;> omega)) | exact hb2.trans (bb.mono (by simp <;> omega))); clear hA hO hI bb)
  all_goals
    go_wp2_with fail
    have i1 : w.heap.size ≤ w.heap.size := Nat.le_refl _
    have hfr : ∀ a, Live M a → (val a).ownBlock ≠ some w.heap.size := fun a ha e => by
      have := ((HO.out.1.row a ha).lt _ e).1
      simp at this
      omega
    refine bodyPost_ret (v := .tuple #[.agg #[.int .i64 M.guest, .slice a1 M.root.length a2, .slice a3 M.slots.length a4, .slice a5 M.refs.length a6, .slice a7 M.snaps.length a8], .int .i64 E]) (by simp [results, Try.results29, go_sem, z0, z1, z2, z3, z4]) rfl ⟨val, by rw [← HO.out.2], OI.mono (((((HO.out.1.far hfr).far hfr).far hfr).far hfr).far hfr) (by simp <;> omega), ((((HB.out.setCell i1 _).setCell i1 _).setCell i1 _).setCell i1 _).setCell i1 _⟩
theorem fresh_is (g : Int) (w : World) {M : ImgD} {E : Int} (hM : frsM g = M) (hE : frsE g = E) : Calls Try.prog 29 #[.int .i64 g] w (AnsI w w.heap.size M E) := fresh_at g w M E hM hE
end Go.Proofs.Ytehleeibgkpjmaf
/- Contracts of stack: Commit. -/
namespace Go.Proofs.Ytehleeibgkpjmaf
open Go.RowKit Go.Shelf
set_option maxRecDepth 20000
set_option linter.unusedVariables false
set_option linter.unusedSimpArgs false

def rowK (b : List ByteArray) (m : ImgD) (g k : Nat) : List ByteArray := (List.range g).map (fun n : Nat => if n < k then srV b m (n : Int) else ByteArray.empty)
def pgs (b : List ByteArray) (m : ImgD) : List ByteArray := (List.range m.guest.toNat).map (fun n : Nat => srV b m (n : Int))
theorem rowK_length (b : List ByteArray) (m : ImgD) (g k : Nat) : (rowK b m g k).length = g := by simp [rowK]
theorem rowK_zero (b : List ByteArray) (m : ImgD) (g : Nat) : rowK b m g 0 = List.replicate g ByteArray.empty := by
  apply List.ext_getElem <;> simp [rowK]
theorem rowK_end (b : List ByteArray) (m : ImgD) (g : Nat) : rowK b m g g = (List.range g).map (fun n : Nat => srV b m (n : Int)) := by
  unfold rowK
  exact List.map_congr_left fun n hn => by rw [if_pos (List.mem_range.1 hn)]
theorem rowK_set (b : List ByteArray) (m : ImgD) (g k : Nat) : (rowK b m g k).set k (srV b m (k : Int)) = rowK b m g (k + 1) := by
  unfold rowK
  apply List.ext_getElem
  · simp
  · intro i h1 h2
    rw [List.getElem_set]
    simp only [List.getElem_map, List.getElem_range]
    by_cases e : k = i
    · subst e; rw [if_pos rfl, if_pos (by omega)]
    · rw [if_neg e]
      by_cases h : i < k
      · rw [if_pos h, if_pos (by omega)]
      · rw [if_neg h, if_neg (by omega)]
theorem sr_in {b : List ByteArray} {m : ImgD} (h : scE b m = 0) {k : Nat} (hk : (k : Int) < m.guest) : srE b m (k : Int) = 0 := by
  unfold srE
  rw [if_neg (by simpa using h)]
  exact lookE_of (scE_zero h).2 hk
set_option maxHeartbeats 4000000 in
theorem sk_pages_at (ba : Option Addr) (bc : Nat) (ra : Option Addr) (rc : Nat) (sa : Option Addr) (sc : Nat) (fa : Option Addr) (fc : Nat) (na : Option Addr) (nc : Nat) (b : List ByteArray) (m : ImgD) (g : Nat) (w : World) (hS : Ss w (.slice ba b.length bc) b) (hI : Img w (.agg #[.int .i64 (g : Int), .slice ra m.root.length rc, .slice sa m.slots.length sc, .slice fa m.refs.length fc, .slice na m.snaps.length nc]) m) (hC : scE b m = 0) (hg : m.guest = (g : Int)) (hg16 : g ≤ 16) :
    Calls Try.prog 28 #[.agg #[.slice ba b.length bc, .int .i64 (g : Int), .slice ra m.root.length rc, .slice sa m.slots.length sc, .slice fa m.refs.length fc, .slice na m.snaps.length nc]] w fun r w' => (r = .returned (.tuple #[.slice (some ⟨w.heap.size + 1, 0, none⟩) g g, .int .i64 0]) ∧ SAt w' (w.heap.size + 1) (rowK b m g g)) ∧ Below w.heap.size w w' := by
  have b0 : Below w.heap.size w (w.alloc (.cells #[.slice ba b.length bc, .int .i64 (g : Int), .slice ra m.root.length rc, .slice sa m.slots.length sc, .slice fa m.refs.length fc, .slice na m.snaps.length nc] 29)) := (Below.refl _ _).alloc (Nat.le_refl _) _
  have q0 : (w.alloc (.cells #[.slice ba b.length bc, .int .i64 (g : Int), .slice ra m.root.length rc, .slice sa m.slots.length sc, .slice fa m.refs.length fc, .slice na m.snaps.length nc] 29)).heap[w.heap.size]? = some (.cells #[.slice ba b.length bc, .int .i64 (g : Int), .slice ra m.root.length rc, .slice sa m.slots.length sc, .slice fa m.refs.length fc, .slice na m.snaps.length nc] 29) := World.alloc_heap_new _ _
  obtain ⟨c0, c1, c2, c3, c4, c5⟩ := six q0
  have hmk := mk_strs g (by omega)
  have hz : (w.alloc (.cells #[.slice ba b.length bc, .int .i64 (g : Int), .slice ra m.root.length rc, .slice sa m.slots.length sc, .slice fa m.refs.length fc, .slice na m.snaps.length nc] 29)).heap.size = w.heap.size + 1 := by simp
  obtain ⟨W0, hW0⟩ : ∃ W0, (w.alloc (.cells #[.slice ba b.length bc, .int .i64 (g : Int), .slice ra m.root.length rc, .slice sa m.slots.length sc, .slice fa m.refs.length fc, .slice na m.snaps.length nc] 29)).alloc (.cells ((List.replicate g ByteArray.empty).map Value.string).toArray 9) = W0 := ⟨_, rfl⟩
  have l0 : SAt W0 (w.heap.size + 1) (rowK b m g 0) := by
    have := World.alloc_heap_new (w.alloc (.cells #[.slice ba b.length bc, .int .i64 (g : Int), .slice ra m.root.length rc, .slice sa m.slots.length sc, .slice fa m.refs.length fc, .slice na m.snaps.length nc] 29)) (.cells ((List.replicate g ByteArray.empty).map Value.string).toArray 9)
    rw [hW0, hz] at this
    rw [rowK_zero]
    exact this
  have b1 : Below (w.heap.size + 1) (w.alloc (.cells #[.slice ba b.length bc, .int .i64 (g : Int), .slice ra m.root.length rc, .slice sa m.slots.length sc, .slice fa m.refs.length fc, .slice na m.snaps.length nc] 29)) W0 := by rw [← hW0, ← hz]; exact (Below.refl _ _).alloc (Nat.le_refl _) _
  have HS : Hid (Stk (w.alloc (.cells #[.slice ba b.length bc, .int .i64 (g : Int), .slice ra m.root.length rc, .slice sa m.slots.length sc, .slice fa m.refs.length fc, .slice na m.snaps.length nc] 29)) (.agg #[.slice ba b.length bc, .int .i64 (g : Int), .slice ra m.root.length rc, .slice sa m.slots.length sc, .slice fa m.refs.length fc, .slice na m.snaps.length nc]) b m) := ⟨_, _, _, _, _, by rw [hg], hS.below b0, by rw [hg]; exact hI.below b0⟩
  have HQ : Hid ((w.alloc (.cells #[.slice ba b.length bc, .int .i64 (g : Int), .slice ra m.root.length rc, .slice sa m.slots.length sc, .slice fa m.refs.length fc, .slice na m.snaps.length nc] 29)).heap[w.heap.size]? = some (.cells #[.slice ba b.length bc, .int .i64 (g : Int), .slice ra m.root.length rc, .slice sa m.slots.length sc, .slice fa m.refs.length fc, .slice na m.snaps.length nc] 29)) := q0
  have HB : Hid (Below w.heap.size w (w.alloc (.cells #[.slice ba b.length bc, .int .i64 (g : Int), .slice ra m.root.length rc, .slice sa m.slots.length sc, .slice fa m.refs.length fc, .slice na m.snaps.length nc] 29)) ∧ (w.alloc (.cells #[.slice ba b.length bc, .int .i64 (g : Int), .slice ra m.root.length rc, .slice sa m.slots.length sc, .slice fa m.refs.length fc, .slice na m.snaps.length nc] 29)).heap.size = w.heap.size + 1) := ⟨b0, hz⟩
  have HC : Hid (scE b m = 0 ∧ m.guest = (g : Int)) := ⟨hC, hg⟩
  clear hS hI hC hg b0 hz q0
  go_enter Try.func28, Try.ntmps28
  go_wp2_with fail
  rw [show (w.alloc (.cells #[.slice ba b.length bc, .int .i64 (g : Int), .slice ra m.root.length rc, .slice sa m.slots.length sc, .slice fa m.refs.length fc, .slice na m.snaps.length nc] 29)).alloc (Obj.cells (Array.replicate g (Value.string ByteArray.empty)) 9) = W0 by rw [← hW0]; simp]
  clear hmk hW0 c0 c1 c2 c3 c4 c5
  go_loopw [5, 6, 7, 14] (fun _ _ _ i wq => ∃ k : Nat, k ≤ g ∧ i = .int .i64 k ∧ SAt wq (w.heap.size + 1) (rowK b m g k) ∧ Below (w.heap.size + 1) (w.alloc (.cells #[.slice ba b.length bc, .int .i64 (g : Int), .slice ra m.root.length rc, .slice sa m.slots.length sc, .slice fa m.refs.length fc, .slice na m.snaps.length nc] 29)) wq) (fun _ _ _ i _ => g - (intOf i).toNat)
  case atStart => exact ⟨0, Nat.zero_le _, rfl, l0, b1⟩
  case round =>
    obtain ⟨k, hk, rfl, hL, hbel⟩ := hrel
    by_cases hlk : k < g
    · have hki : (k : Int) < (g : Int) := by omega
      have hq := cells_below HQ.out hbel (by omega)
      obtain ⟨c0, c1, c2, c3, c4, c5⟩ := six hq
      have hbel' : Below (w.alloc (.cells #[.slice ba b.length bc, .int .i64 (g : Int), .slice ra m.root.length rc, .slice sa m.slots.length sc, .slice fa m.refs.length fc, .slice na m.snaps.length nc] 29)).heap.size (w.alloc (.cells #[.slice ba b.length bc, .int .i64 (g : Int), .slice ra m.root.length rc, .slice sa m.slots.length sc, .slice fa m.refs.length fc, .slice na m.snaps.length nc] 29)) wr := by rw [HB.out.2]; exact hbel
      obtain ⟨p, hp⟩ : ∃ p, srV b m (k : Int) = p := ⟨_, rfl⟩
      have hcall := sk_read (HS.out.below hbel') (k : Int) (sr_in HC.out.1 (by rw [HC.out.2]; exact hki)) hp
      have HP : Hid ((rowK b m g k).set k p = rowK b m g (k + 1)) := by show _ = _; rw [← hp]; exact rowK_set b m g k
      have hfx := hL.frozen k
      have hcx := hL.cell (j := k) (by rw [rowK_length]; exact hlk)
      have hzr := hL.lt
      clear hp hbel'
      go_wp2_with fail
      refine hcall.mono ?_
      rintro e w1 ⟨rfl, b2⟩
      have hL1 := hL.below b2 hzr
      have hfx := hL1.frozen k
      have hcx := hL1.cell (j := k) (by rw [rowK_length]; exact hlk)
      have hb1 : Below (w.heap.size + 1) (w.alloc (.cells #[.slice ba b.length bc, .int .i64 (g : Int), .slice ra m.root.length rc, .slice sa m.slots.length sc, .slice fa m.refs.length fc, .slice na m.snaps.length nc] 29)) w1 := hbel.trans (b2.mono (by omega))
      clear hcall
      go_wp2_with fail
      go_roundw
      case rel => exact ⟨k + 1, by omega, by go_num, by rw [← HP.out]; exact hL1.set k p, hb1.setCell (Nat.le_refl _) _⟩
      case measure => simp [intOf]; omega
    · have e4 : k = g := by omega
      subst e4
      go_wp2_with fail
      go_ret2
      exact ⟨⟨rfl, hL⟩, HB.out.1.trans (hbel.mono (Nat.le_succ _))⟩

def ccE (b : List ByteArray) (m : ImgD) : Int := if scE b m ≠ 0 then scE b m else if m.snaps = [] then 0 else 8
set_option maxHeartbeats 4000000 in
theorem sk_commit_bad (ba : Option Addr) (bc : Nat) (ra : Option Addr) (rc : Nat) (sa : Option Addr) (sc : Nat) (fa : Option Addr) (fc : Nat) (na : Option Addr) (nc : Nat) (b : List ByteArray) (m : ImgD) (w : World) (hS : Ss w (.slice ba b.length bc) b) (hI : Img w (.agg #[.int .i64 m.guest, .slice ra m.root.length rc, .slice sa m.slots.length sc, .slice fa m.refs.length fc, .slice na m.snaps.length nc]) m) (E : Int) (hE : scE b m = E) (hne : (E != 0) = true) :
    Calls Try.prog 9 #[.agg #[.slice ba b.length bc, .int .i64 m.guest, .slice ra m.root.length rc, .slice sa m.slots.length sc, .slice fa m.refs.length fc, .slice na m.snaps.length nc]] w (AnsK w [] imgZ E) := by
  have b0 : Below w.heap.size w ((w.alloc (.cells #[.slice ba b.length bc, .int .i64 m.guest, .slice ra m.root.length rc, .slice sa m.slots.length sc, .slice fa m.refs.length fc, .slice na m.snaps.length nc] 29)).alloc (.cells #[.slice none 0 0, .int .i64 0, .slice none 0 0, .slice none 0 0, .slice none 0 0, .slice none 0 0] 29)) := ((Below.refl _ _).alloc (Nat.le_refl _) _).alloc (by simp) _
  have q0 : ((w.alloc (.cells #[.slice ba b.length bc, .int .i64 m.guest, .slice ra m.root.length rc, .slice sa m.slots.length sc, .slice fa m.refs.length fc, .slice na m.snaps.length nc] 29)).alloc (.cells #[.slice none 0 0, .int .i64 0, .slice none 0 0, .slice none 0 0, .slice none 0 0, .slice none 0 0] 29)).heap[w.heap.size]? = some (.cells #[.slice ba b.length bc, .int .i64 m.guest, .slice ra m.root.length rc, .slice sa m.slots.length sc, .slice fa m.refs.length fc, .slice na m.snaps.length nc] 29) := cells_alloc (World.alloc_heap_new _ _) _
  have r0 : ((w.alloc (.cells #[.slice ba b.length bc, .int .i64 m.guest, .slice ra m.root.length rc, .slice sa m.slots.length sc, .slice fa m.refs.length fc, .slice na m.snaps.length nc] 29)).alloc (.cells #[.slice none 0 0, .int .i64 0, .slice none 0 0, .slice none 0 0, .slice none 0 0, .slice none 0 0] 29)).heap[w.heap.size + 1]? = some (.cells #[.slice none 0 0, .int .i64 0, .slice none 0 0, .slice none 0 0, .slice none 0 0, .slice none 0 0] 29) := by have := World.alloc_heap_new (w.alloc (.cells #[.slice ba b.length bc, .int .i64 m.guest, .slice ra m.root.length rc, .slice sa m.slots.length sc, .slice fa m.refs.length fc, .slice na m.snaps.length nc] 29)) (.cells #[.slice none 0 0, .int .i64 0, .slice none 0 0, .slice none 0 0, .slice none 0 0, .slice none 0 0] 29); simpa using this
  have hz : w.heap.size + 1 < ((w.alloc (.cells #[.slice ba b.length bc, .int .i64 m.guest, .slice ra m.root.length rc, .slice sa m.slots.length sc, .slice fa m.refs.length fc, .slice na m.snaps.length nc] 29)).alloc (.cells #[.slice none 0 0, .int .i64 0, .slice none 0 0, .slice none 0 0, .slice none 0 0, .slice none 0 0] 29)).heap.size := by simp
  have hS1 := hS.below b0
  have hI1 := hI.below b0
  obtain ⟨c0, c1, c2, c3, c4, c5⟩ := six q0
  have hck := sk_check (w := ((w.alloc (.cells #[.slice ba b.length bc, .int .i64 m.guest, .slice ra m.root.length rc, .slice sa m.slots.length sc, .slice fa m.refs.length fc, .slice na m.snaps.length nc] 29)).alloc (.cells #[.slice none 0 0, .int .i64 0, .slice none 0 0, .slice none 0 0, .slice none 0 0, .slice none 0 0] 29))) (v := .agg #[.slice ba b.length bc, .int .i64 m.guest, .slice ra m.root.length rc, .slice sa m.slots.length sc, .slice fa m.refs.length fc, .slice na m.snaps.length nc]) ⟨_, _, _, _, _, rfl, hS1, hI1⟩ hE
  clear hS hI hI1 hS1 hE
  go_enter Try.func9, Try.ntmps9
  go_wp2_with (go_at_call 11; refine hck.mono ?_; rintro e w1 ⟨rfl, b1⟩; have q1 := cells_below q0 b1 (by omega); have r1 := cells_below r0 b1 hz; obtain ⟨d0, d1, d2, d3, d4, d5⟩ := six q1; obtain ⟨x0, x1, x2, x3, x4, x5⟩ := six r1; have y0 := cells_frozen r1 0; have y1 := cells_frozen r1 1; have y2 := cells_frozen r1 2; have y3 := cells_frozen r1 3; have y4 := cells_frozen r1 4; have y5 := cells_frozen r1 5)
  refine bodyPost_ret (v := .tuple #[.agg #[.slice none 0 0, .int .i64 0, .slice none 0 0, .slice none 0 0, .slice none 0 0, .slice none 0 0], .int .i64 E]) (by simp [results, Try.results9, go_sem, x0, x1, x2, x3, x4, x5]) rfl ⟨_, rfl, Stk.zero _, six_below (Below.on b0 b1) _ _ _ _ _ _⟩
set_option maxHeartbeats 4000000 in
theorem sk_commit_busy (ba : Option Addr) (bc : Nat) (ra : Option Addr) (rc : Nat) (sa : Option Addr) (sc : Nat) (fa : Option Addr) (fc : Nat) (na : Option Addr) (nc : Nat) (b : List ByteArray) (m : ImgD) (w : World) (hS : Ss w (.slice ba b.length bc) b) (hI : Img w (.agg #[.int .i64 m.guest, .slice ra m.root.length rc, .slice sa m.slots.length sc, .slice fa m.refs.length fc, .slice na m.snaps.length nc]) m) (hE : scE b m = 0) (hne : decide (0 < m.snaps.length) = true) :
    Calls Try.prog 9 #[.agg #[.slice ba b.length bc, .int .i64 m.guest, .slice ra m.root.length rc, .slice sa m.slots.length sc, .slice fa m.refs.length fc, .slice na m.snaps.length nc]] w (AnsK w [] imgZ 8) := by
  have b0 : Below w.heap.size w ((w.alloc (.cells #[.slice ba b.length bc, .int .i64 m.guest, .slice ra m.root.length rc, .slice sa m.slots.length sc, .slice fa m.refs.length fc, .slice na m.snaps.length nc] 29)).alloc (.cells #[.slice none 0 0, .int .i64 0, .slice none 0 0, .slice none 0 0, .slice none 0 0, .slice none 0 0] 29)) := ((Below.refl _ _).alloc (Nat.le_refl _) _).alloc (by simp) _
  have q0 : ((w.alloc (.cells #[.slice ba b.length bc, .int .i64 m.guest, .slice ra m.root.length rc, .slice sa m.slots.length sc, .slice fa m.refs.length fc, .slice na m.snaps.length nc] 29)).alloc (.cells #[.slice none 0 0, .int .i64 0, .slice none 0 0, .slice none 0 0, .slice none 0 0, .slice none 0 0] 29)).heap[w.heap.size]? = some (.cells #[.slice ba b.length bc, .int .i64 m.guest, .slice ra m.root.length rc, .slice sa m.slots.length sc, .slice fa m.refs.length fc, .slice na m.snaps.length nc] 29) := cells_alloc (World.alloc_heap_new _ _) _
  have r0 : ((w.alloc (.cells #[.slice ba b.length bc, .int .i64 m.guest, .slice ra m.root.length rc, .slice sa m.slots.length sc, .slice fa m.refs.length fc, .slice na m.snaps.length nc] 29)).alloc (.cells #[.slice none 0 0, .int .i64 0, .slice none 0 0, .slice none 0 0, .slice none 0 0, .slice none 0 0] 29)).heap[w.heap.size + 1]? = some (.cells #[.slice none 0 0, .int .i64 0, .slice none 0 0, .slice none 0 0, .slice none 0 0, .slice none 0 0] 29) := by have := World.alloc_heap_new (w.alloc (.cells #[.slice ba b.length bc, .int .i64 m.guest, .slice ra m.root.length rc, .slice sa m.slots.length sc, .slice fa m.refs.length fc, .slice na m.snaps.length nc] 29)) (.cells #[.slice none 0 0, .int .i64 0, .slice none 0 0, .slice none 0 0, .slice none 0 0, .slice none 0 0] 29); simpa using this
  have hz : w.heap.size + 1 < ((w.alloc (.cells #[.slice ba b.length bc, .int .i64 m.guest, .slice ra m.root.length rc, .slice sa m.slots.length sc, .slice fa m.refs.length fc, .slice na m.snaps.length nc] 29)).alloc (.cells #[.slice none 0 0, .int .i64 0, .slice none 0 0, .slice none 0 0, .slice none 0 0, .slice none 0 0] 29)).heap.size := by simp
  have hS1 := hS.below b0
  have hI1 := hI.below b0
  obtain ⟨c0, c1, c2, c3, c4, c5⟩ := six q0
  have hck := sk_check (w := ((w.alloc (.cells #[.slice ba b.length bc, .int .i64 m.guest, .slice ra m.root.length rc, .slice sa m.slots.length sc, .slice fa m.refs.length fc, .slice na m.snaps.length nc] 29)).alloc (.cells #[.slice none 0 0, .int .i64 0, .slice none 0 0, .slice none 0 0, .slice none 0 0, .slice none 0 0] 29))) (v := .agg #[.slice ba b.length bc, .int .i64 m.guest, .slice ra m.root.length rc, .slice sa m.slots.length sc, .slice fa m.refs.length fc, .slice na m.snaps.length nc]) ⟨_, _, _, _, _, rfl, hS1, hI1⟩ hE
  clear hS hI hI1 hS1 hE
  go_enter Try.func9, Try.ntmps9
  go_wp2_with (go_at_call 11; refine hck.mono ?_; rintro e w1 ⟨rfl, b1⟩; have q1 := cells_below q0 b1 (by omega); have r1 := cells_below r0 b1 hz; obtain ⟨d0, d1, d2, d3, d4, d5⟩ := six q1; obtain ⟨x0, x1, x2, x3, x4, x5⟩ := six r1; have y0 := cells_frozen r1 0; have y1 := cells_frozen r1 1; have y2 := cells_frozen r1 2; have y3 := cells_frozen r1 3; have y4 := cells_frozen r1 4; have y5 := cells_frozen r1 5)
  refine bodyPost_ret (v := .tuple #[.agg #[.slice none 0 0, .int .i64 0, .slice none 0 0, .slice none 0 0, .slice none 0 0, .slice none 0 0], .int .i64 8]) (by simp [results, Try.results9, go_sem, x0, x1, x2, x3, x4, x5]) rfl ⟨_, rfl, Stk.zero _, six_below (Below.on b0 b1) _ _ _ _ _ _⟩
set_option maxHeartbeats 4000000 in
theorem sk_commit_ok (ba : Option Addr) (bc : Nat) (ra : Option Addr) (rc : Nat) (sa : Option Addr) (sc : Nat) (fa : Option Addr) (fc : Nat) (na : Option Addr) (nc : Nat) (b : List ByteArray) (m : ImgD) (g : Nat) (w : World) (hS : Ss w (.slice ba b.length bc) b) (hI : Img w (.agg #[.int .i64 (g : Int), .slice ra m.root.length rc, .slice sa m.slots.length sc, .slice fa m.refs.length fc, .slice na m.snaps.length nc]) m) (hE : scE b m = 0) (hsn : decide (0 < m.snaps.length) = false) (hg : m.guest = (g : Int)) (hg16 : g ≤ 16) (M : ImgD) (hM : freshD g = M) :
    Calls Try.prog 9 #[.agg #[.slice ba b.length bc, .int .i64 (g : Int), .slice ra m.root.length rc, .slice sa m.slots.length sc, .slice fa m.refs.length fc, .slice na m.snaps.length nc]] w (AnsK w (rowK b m g g) M 0) := by
  have b0 : Below w.heap.size w ((w.alloc (.cells #[.slice ba b.length bc, .int .i64 (g : Int), .slice ra m.root.length rc, .slice sa m.slots.length sc, .slice fa m.refs.length fc, .slice na m.snaps.length nc] 29)).alloc (.cells #[.slice none 0 0, .int .i64 0, .slice none 0 0, .slice none 0 0, .slice none 0 0, .slice none 0 0] 29)) := ((Below.refl _ _).alloc (Nat.le_refl _) _).alloc (by simp) _
  have q0 : ((w.alloc (.cells #[.slice ba b.length bc, .int .i64 (g : Int), .slice ra m.root.length rc, .slice sa m.slots.length sc, .slice fa m.refs.length fc, .slice na m.snaps.length nc] 29)).alloc (.cells #[.slice none 0 0, .int .i64 0, .slice none 0 0, .slice none 0 0, .slice none 0 0, .slice none 0 0] 29)).heap[w.heap.size]? = some (.cells #[.slice ba b.length bc, .int .i64 (g : Int), .slice ra m.root.length rc, .slice sa m.slots.length sc, .slice fa m.refs.length fc, .slice na m.snaps.length nc] 29) := cells_alloc (World.alloc_heap_new _ _) _
  have r0 : ((w.alloc (.cells #[.slice ba b.length bc, .int .i64 (g : Int), .slice ra m.root.length rc, .slice sa m.slots.length sc, .slice fa m.refs.length fc, .slice na m.snaps.length nc] 29)).alloc (.cells #[.slice none 0 0, .int .i64 0, .slice none 0 0, .slice none 0 0, .slice none 0 0, .slice none 0 0] 29)).heap[w.heap.size + 1]? = some (.cells #[.slice none 0 0, .int .i64 0, .slice none 0 0, .slice none 0 0, .slice none 0 0, .slice none 0 0] 29) := by have := World.alloc_heap_new (w.alloc (.cells #[.slice ba b.length bc, .int .i64 (g : Int), .slice ra m.root.length rc, .slice sa m.slots.length sc, .slice fa m.refs.length fc, .slice na m.snaps.length nc] 29)) (.cells #[.slice none 0 0, .int .i64 0, .slice none 0 0, .slice none 0 0, .slice none 0 0, .slice none 0 0] 29); simpa using this
  have hz : w.heap.size + 1 < ((w.alloc (.cells #[.slice ba b.length bc, .int .i64 (g : Int), .slice ra m.root.length rc, .slice sa m.slots.length sc, .slice fa m.refs.length fc, .slice na m.snaps.length nc] 29)).alloc (.cells #[.slice none 0 0, .int .i64 0, .slice none 0 0, .slice none 0 0, .slice none 0 0, .slice none 0 0] 29)).heap.size := by simp
  have hS1 := hS.below b0
  have hI1 := hI.below b0
  obtain ⟨c0, c1, c2, c3, c4, c5⟩ := six q0
  have hck := sk_check (w := ((w.alloc (.cells #[.slice ba b.length bc, .int .i64 (g : Int), .slice ra m.root.length rc, .slice sa m.slots.length sc, .slice fa m.refs.length fc, .slice na m.snaps.length nc] 29)).alloc (.cells #[.slice none 0 0, .int .i64 0, .slice none 0 0, .slice none 0 0, .slice none 0 0, .slice none 0 0] 29))) (v := .agg #[.slice ba b.length bc, .int .i64 (g : Int), .slice ra m.root.length rc, .slice sa m.slots.length sc, .slice fa m.refs.length fc, .slice na m.snaps.length nc]) ⟨_, _, _, _, _, by rw [hg], hS1, by rw [hg]; exact hI1⟩ hE
  have HP : Hid (∀ w1, Below ((w.alloc (.cells #[.slice ba b.length bc, .int .i64 (g : Int), .slice ra m.root.length rc, .slice sa m.slots.length sc, .slice fa m.refs.length fc, .slice na m.snaps.length nc] 29)).alloc (.cells #[.slice none 0 0, .int .i64 0, .slice none 0 0, .slice none 0 0, .slice none 0 0, .slice none 0 0] 29)).heap.size ((w.alloc (.cells #[.slice ba b.length bc, .int .i64 (g : Int), .slice ra m.root.length rc, .slice sa m.slots.length sc, .slice fa m.refs.length fc, .slice na m.snaps.length nc] 29)).alloc (.cells #[.slice none 0 0, .int .i64 0, .slice none 0 0, .slice none 0 0, .slice none 0 0, .slice none 0 0] 29)) w1 → Calls Try.prog 28 #[.agg #[.slice ba b.length bc, .int .i64 (g : Int), .slice ra m.root.length rc, .slice sa m.slots.length sc, .slice fa m.refs.length fc, .slice na m.snaps.length nc]] w1 fun r w' => (r = .returned (.tuple #[.slice (some ⟨w1.heap.size + 1, 0, none⟩) g g, .int .i64 0]) ∧ SAt w' (w1.heap.size + 1) (rowK b m g g)) ∧ Below w1.heap.size w1 w') := fun w1 b1 => sk_pages_at ba bc ra rc sa sc fa fc na nc b m g w1 (hS1.below b1) (hI1.below b1) hE hg hg16
  have hMg : M.guest = (g : Int) := by rw [← hM]; rfl
  have HF : Hid (∀ w2, Calls Try.prog 29 #[.int .i64 (g : Int)] w2 (AnsI w2 w2.heap.size M 0)) := fun w2 => fresh_is (g : Int) w2 ((frs_is g hg16).1.trans hM) (frs_is g hg16).2.1
  have HG : Hid (M.guest = (g : Int)) := hMg
  clear hS hI hI1 hS1 hE hg hM hMg
  go_enter Try.func9, Try.ntmps9
  go_wp2_with (first
    | (go_at_call 29; refine (HF.out w2).mono ?_; intro e w3 hA; obtain ⟨val, g0, k0, g1, k1, g2, k2, g3, k3, rfl, hO, b3, hI⟩ := hA.open; rw [HG.out] at hI ⊢; have r3 := cells_alloc (cells_below r2 b3 (by have := b1.size; have := b2.size; omega)) (.cells #[.int .i64 (g : Int), .slice g0 M.root.length k0, .slice g1 M.slots.length k1, .slice g2 M.refs.length k2, .slice g3 M.snaps.length k3] 27); have m3 : (w3.alloc (.cells #[.int .i64 (g : Int), .slice g0 M.root.length k0, .slice g1 M.slots.length k1, .slice g2 M.refs.length k2, .slice g3 M.snaps.length k3] 27)).heap[w3.heap.size]? = some (.cells #[.int .i64 (g : Int), .slice g0 M.root.length k0, .slice g1 M.slots.length k1, .slice g2 M.refs.length k2, .slice g3 M.snaps.length k3] 27) := World.alloc_heap_new _ _; obtain ⟨u0, u1, u2, u3, u4, u5⟩ := six r3; have v0 := cells_frozen r3 0; have v1 := cells_frozen r3 1; have v2 := cells_frozen r3 2; have v3 := cells_frozen r3 3; have v4 := cells_frozen r3 4; have v5 := cells_frozen r3 5; obtain ⟨n0, n1, n2, n3, n4⟩ := five m3)
    | (go_at_call 28; refine (HP.out w1 b1).mono ?_; rintro e w2 ⟨⟨rfl, hL⟩, b2⟩; have q2 := cells_below q1 b2 (by have := b1.size; omega); have r2 := cells_below r1 b2 (by have := b1.size; omega); obtain ⟨e0, e1, e2, e3, e4, e5⟩ := six q2; have HL : Hid (SAt w2 (w1.heap.size + 1) (rowK b m g g)) := hL)
    | (go_at_call 11; refine hck.mono ?_; rintro e w1 ⟨rfl, b1⟩; have q1 := cells_below q0 b1 (by omega); have r1 := cells_below r0 b1 hz; obtain ⟨d0, d1, d2, d3, d4, d5⟩ := six q1; obtain ⟨x0, x1, x2, x3, x4, x5⟩ := six r1; have y0 := cells_frozen r1 0; have y1 := cells_frozen r1 1; have y2 := cells_frozen r1 2; have y3 := cells_frozen r1 3; have y4 := cells_frozen r1 4; have y5 := cells_frozen r1 5))
  have hs1 := b1.size
  have hs2 := b2.size
  have hs3 := b3.size
  have hO4 : OI (w3.alloc (.cells #[.int .i64 (g : Int), .slice g0 M.root.length k0, .slice g1 M.slots.length k1, .slice g2 M.refs.length k2, .slice g3 M.snaps.length k3] 27)) w2.heap.size val M := hO.alloc _
  have hfr : ∀ a, Live M a → (val a).ownBlock ≠ some (w.heap.size + 1) := fun a ha e => by
    have := ((hO4.row a ha).lt _ e).1
    omega
  have hImg := fun a0 a1 a2 a3 a4 a5 => (OI.six (w := w) hO4 hfr a0 a1 a2 a3 a4 a5).img
  have hL4 := cells_alloc (hL.below b3 hL.lt) (.cells #[.int .i64 (g : Int), .slice g0 M.root.length k0, .slice g1 M.slots.length k1, .slice g2 M.refs.length k2, .slice g3 M.snaps.length k3] 27)
  have hL5 := fun a0 a1 a2 a3 a4 a5 => SAt.ss (n := g) ((heap_six (w := w) (W := w3.alloc (.cells #[.int .i64 (g : Int), .slice g0 M.root.length k0, .slice g1 M.slots.length k1, .slice g2 M.refs.length k2, .slice g3 M.snaps.length k3] 27)) a0 a1 a2 a3 a4 a5 (w1.heap.size + 1) (by omega)).trans hL4) (rowK_length b m g g) (by unfold maxLen; omega)
  refine bodyPost_ret (v := .tuple #[.agg #[.slice (some ⟨w1.heap.size + 1, 0, none⟩) g g, .int .i64 (g : Int), .slice g0 M.root.length k0, .slice g1 M.slots.length k1, .slice g2 M.refs.length k2, .slice g3 M.snaps.length k3], .int .i64 0]) (by simp [results, Try.results9, go_sem, u0, u1, u2, u3, u4, u5]) rfl ⟨_, rfl, ⟨_, _, _, _, _, by rw [HG.out], hL5 _ _ _ _ _ _, (by have e := hImg; simp only [HG.out, hI] at e; rw [HG.out]; exact e _ _ _ _ _ _)⟩, six_below (((Below.on (Below.on (Below.on b0 b1) b2) b3)).alloc (by omega) _) _ _ _ _ _ _⟩
theorem sk_commit {w : World} {v : Value} {b : List ByteArray} {m : ImgD} (h : Stk w v b m) {B : List ByteArray} {M : ImgD} {E : Int} (hE : ccE b m = E) (hB : (if ccE b m = 0 then pgs b m else []) = B) (hM : (if ccE b m = 0 then freshD m.guest.toNat else imgZ) = M) : Calls Try.prog 9 #[v] w (AnsK w B M E) := by
  subst hE hB hM
  obtain ⟨ba, bc, ra, rc, sa, sc, fa, fc, na, nc, rfl, hS, hI⟩ := h.parts
  by_cases hC : scE b m = 0
  · by_cases hn : m.snaps = []
    · have e1 : ccE b m = 0 := by unfold ccE; rw [if_neg (by simpa using hC), if_pos hn]
      have hg := guest_ok (checkE_shape (scE_zero hC).2)
      obtain ⟨g, hgg⟩ : ∃ g : Nat, m.guest = (g : Int) := ⟨m.guest.toNat, by omega⟩
      rw [e1, if_pos rfl, if_pos rfl]
      have e2 : pgs b m = rowK b m g g := by rw [rowK_end]; unfold pgs; rw [hgg, Int.toNat_natCast]
      rw [e2, hgg, Int.toNat_natCast]
      rw [hgg] at hI
      exact sk_commit_ok ba bc ra rc sa sc fa fc na nc b m g w hS hI hC (by rw [hn]; rfl) hgg (by omega) _ rfl
    · have e1 : ccE b m = 8 := by unfold ccE; rw [if_neg (by simpa using hC), if_neg hn]
      rw [e1, if_neg (by decide), if_neg (by decide)]
      exact sk_commit_busy ba bc ra rc sa sc fa fc na nc b m w hS hI hC (by have := List.length_pos_iff.2 hn; simp [this])
  · have e1 : ccE b m = scE b m := by unfold ccE; rw [if_pos hC]
    rw [e1, if_neg hC, if_neg hC]
    exact sk_commit_bad ba bc ra rc sa sc fa fc na nc b m w hS hI _ rfl (by simpa using hC)

end Go.Proofs.Ytehleeibgkpjmaf
/- Counting slots. Plain lists. -/
namespace Go.Proofs.Ytehleeibgkpjmaf
open Go.RowKit Go.Shelf
end Go.Proofs.Ytehleeibgkpjmaf
/- Writing, in numbers: how the counts change, and how many slots a write takes. Plain lists. -/
namespace Go.Proofs.Ytehleeibgkpjmaf
open Go.RowKit Go.Shelf
def tC (m : ImgD) (x : Nat) : Nat := (flatR m).count (x : Int)
def pC (m : ImgD) (x : Nat) : Nat := sumT m.slots (flatR m) (x : Int)
/-! ### What a write takes -/
def lo (m : ImgD) (n : Nat) : Bool := m.root.getD (n / 4) 0 != 0 && tC m (m.root.getD (n / 4) 0).toNat == 1
def so (m : ImgD) (n : Nat) : Bool := decide (0 < lookV m m.root n) && pC m (lookV m m.root n).toNat == 1
def need (m : ImgD) (n : Nat) : Nat := if lo m n = true then (if so m n = true then 0 else 1) else 2

/-! ### Used slots -/
end Go.Proofs.Ytehleeibgkpjmaf
/- Writing, in numbers, on: what a write turns; two writes, whichever comes first. Plain lists. -/
namespace Go.Proofs.Ytehleeibgkpjmaf
open Go.RowKit Go.Shelf
end Go.Proofs.Ytehleeibgkpjmaf
/- Written once, a page lies in a place of its own; wiped or punched once, it stays so; a write is refused just if too few slots are left. Plain. -/
namespace Go.Proofs.Ytehleeibgkpjmaf
open Go.RowKit Go.Shelf
set_option maxRecDepth 20000
set_option linter.unusedVariables false

/-! ### Too few slots are left -/
/-! ### Told once -/
end Go.Proofs.Ytehleeibgkpjmaf
/- Contracts of slices.IndexFunc over snapshots, and of Past. -/
namespace Go.Proofs.Ytehleeibgkpjmaf
open Go.RowKit Go.Shelf
end Go.Proofs.Ytehleeibgkpjmaf
/- The image of pair: what is decided of it. -/
namespace Go.Proofs.Ytehleeibgkpjmaf
open Go.RowKit Go.Shelf
end Go.Proofs.Ytehleeibgkpjmaf
/- Contract of readsBegun: it answers true. -/
namespace Go.Proofs.Ytehleeibgkpjmaf
open Go.RowKit Go.Shelf
end Go.Proofs.Ytehleeibgkpjmaf
/- Contracts of the document's pageOf, ReadOf, AllOf, snapAt, PastOf. -/
namespace Go.Proofs.Ytehleeibgkpjmaf
open Go.RowKit Go.Shelf
end Go.Proofs.Ytehleeibgkpjmaf
/- Contract of the document's PastOf. -/
namespace Go.Proofs.Ytehleeibgkpjmaf
open Go.RowKit Go.Shelf
end Go.Proofs.Ytehleeibgkpjmaf
/- The walks of ReadsTells and ReadsTrue. -/
namespace Go.Proofs.Ytehleeibgkpjmaf
open Go.RowKit Go.Shelf
/-! ### ReadsTrue -/
end Go.Proofs.Ytehleeibgkpjmaf
/- Stacks: written and read; committed and read; bare. Plain. -/
namespace Go.Proofs.Ytehleeibgkpjmaf
open Go.RowKit Go.Shelf
theorem look_fresh (g j : Nat) : lookV (freshD g) (freshD g).root j = 0 := by
  unfold lookV
  rw [if_pos]
  show (List.replicate ((g + 3) / 4) (0 : Int)).getD (j / 4) 0 = 0
  simp [List.getD, List.getElem?_replicate]
  split <;> rfl
theorem lookE_fresh {g : Nat} (hg : g ≤ 16) (k : Int) : lookE (freshD g) k = if 0 ≤ k ∧ k < (g : Int) then 0 else 3 := by
  unfold lookE
  rw [if_neg (by simpa using (frs_is g hg).2.2)]
  rfl
/-- A base of nothing; a top of nothing. -/
theorem bare_facts {b : List ByteArray} {m : ImgD} {n : Int} (h : srE b m n = 0) :
    srE [] m n = 0 ∧ srV [] m n = readV m n ∧ lookE m n = 0 ∧ (lookV m m.root n.toNat ≠ 0 → srV b m n = readV m n) ∧ b.length ≤ 16 ∧ srE b (freshD b.length) n = atE b n ∧ srV b (freshD b.length) n = freadA b n := by
  have hs : scE b m = 0 := by
    unfold srE at h
    by_cases x : scE b m = 0
    · exact x
    · rw [if_pos x] at h; exact h
  obtain ⟨hb, hC⟩ := scE_zero hs
  have hlk : lookE m n = 0 := by unfold srE at h; rw [if_neg (by simpa using hs)] at h; exact h
  obtain ⟨_, n0, hn⟩ := lookE_prt hlk
  have hs0 : scE [] m = 0 := by unfold scE; rw [if_neg (by decide +kernel)]; exact hC
  have h0 : srE [] m n = 0 := by unfold srE; rw [if_neg (by simpa using hs0)]; exact hlk
  have hb16 := (ckP_parts hb).1
  have hsF : scE b (freshD b.length) = 0 := by unfold scE; rw [if_neg (by simpa using hb)]; exact (frs_is _ hb16).2.2
  have hEF : srE b (freshD b.length) n = atE b n := by
    unfold srE
    rw [if_neg (by simpa using hsF), lookE_fresh hb16]
    unfold atE
    rw [if_pos hb]
  refine ⟨h0, ?_, hlk, fun hx => ?_, hb16, hEF, ?_⟩
  · unfold srV
    rw [if_neg (by simpa using h0), if_neg (fun x => by have := x.2; simp at this; omega)]
  · unfold srV
    rw [if_neg (by simpa using h), if_neg (fun x => hx x.1)]
  · unfold srV
    rw [hEF]
    by_cases x : atE b n = 0
    · have hr : 0 ≤ n ∧ n < (b.length : Int) := by
        unfold atE at x
        rw [if_pos hb] at x
        by_cases y : 0 ≤ n ∧ n < (b.length : Int)
        · exact y
        · rw [if_neg y] at x; cases x
      rw [if_neg (by simpa using x), if_pos ⟨look_fresh _ _, hr.2⟩]
    · rw [if_pos x]
      unfold freadA
      rw [if_neg x]
end Go.Proofs.Ytehleeibgkpjmaf
/- Contract of SameInts. -/
namespace Go.Proofs.Ytehleeibgkpjmaf
open Go.RowKit
end Go.Proofs.Ytehleeibgkpjmaf
/- Contract of writesBegun: it answers true. -/
namespace Go.Proofs.Ytehleeibgkpjmaf
open Go.RowKit Go.Shelf
set_option maxRecDepth 20000

/-- A cell that lies in the world, and stays. -/
def CAt (W : World) (p : Addr) (v : Value) : Prop := W.cell? p = some v ∧ p.block < W.heap.size
theorem CAt.below {W W' : World} {p : Addr} {v : Value} (h : CAt W p v) (bb : Below W.heap.size W W') : CAt W' p v := ⟨(bb.cell h.2).trans h.1, Nat.lt_of_lt_of_le h.2 bb.size⟩
end Go.Proofs.Ytehleeibgkpjmaf
/- Contract of stackBegun: it answers true. -/
namespace Go.Proofs.Ytehleeibgkpjmaf
open Go.RowKit Go.Shelf
set_option maxRecDepth 20000
set_option linter.unusedVariables false

def sbB : List ByteArray := [⟨#[120, 120, 120, 120]⟩, ⟨#[121, 121, 121, 121]⟩, ⟨#[122, 122, 122, 122]⟩]
def sbT : ImgD := ⟨6, [2, 4], [(0, ⟨#[]⟩, []), (1, aaaa, []), (2, ⟨#[]⟩, [1, 0, -1, 1]), (1, bbbb, []), (2, ⟨#[]⟩, [3, 0, 0, 0])], [0, 2, 1, 1, 1], []⟩
def sbC : List ByteArray := [aaaa, ⟨#[121, 121, 121, 121]⟩, ⟨#[0, 0, 0, 0]⟩, aaaa, ⟨#[98, 98, 98, 98]⟩, ⟨#[0, 0, 0, 0]⟩]
def sbW : ImgD := ⟨6, [2, 4], [(0, ⟨#[]⟩, []), (1, aaaa, []), (2, ⟨#[]⟩, [1, 5, -1, 1]), (1, bbbb, []), (2, ⟨#[]⟩, [3, 0, 0, 0]), (1, ⟨#[119, 119, 119, 119]⟩, [])], [0, 2, 1, 1, 1, 1], []⟩
theorem sb_check : scE sbB sbT = 0 := by decide +kernel
theorem sb_e1 : srE sbB sbT 1 = 0 := by decide +kernel
theorem sb_e2 : srE sbB sbT 2 = 0 := by decide +kernel
theorem sb_v1 : srV sbB sbT 1 = ⟨#[121, 121, 121, 121]⟩ := by kernel_rfl
theorem sb_v2 : srV sbB sbT 2 = ⟨#[0, 0, 0, 0]⟩ := by kernel_rfl
theorem sb_ce : ccE sbB sbT = 0 := by decide +kernel
theorem sb_cb : (if ccE sbB sbT = 0 then pgs sbB sbT else []) = sbC := by kernel_rfl
theorem sb_cm : (if ccE sbB sbT = 0 then freshD sbT.guest.toNat else imgZ) = freshD 6 := by kernel_rfl
theorem sb_we : skE sbB sbT 1 ⟨#[119, 119, 119, 119]⟩ = 0 := by decide +kernel
theorem sb_wm : skM sbB sbT 1 ⟨#[119, 119, 119, 119]⟩ = sbW := by kernel_rfl
theorem sb_wb : skB sbB sbT 1 ⟨#[119, 119, 119, 119]⟩ = sbB := by kernel_rfl

theorem Stk.base {w : World} {b : List ByteArray} {m : ImgD} {bv gv r s f n : Value} (h : Stk w (.agg #[bv, gv, r, s, f, n]) b m) : Ss w bv b := by
  obtain ⟨bv', r', s', f', n', e, h1, h2⟩ := h
  simp only [Value.agg.injEq, Array.mk.injEq, List.cons.injEq, and_true] at e
  rw [e.1]; exact h1
set_option maxHeartbeats 200000000 in
theorem stackBegun_any (w : World) : Calls Try.prog 10 #[] w fun r w' => r = .returned (.bool true) ∧ Below w.heap.size w w' := by
  go_enter Try.func10, Try.ntmps10
  go_wp2_with fail
  refine (pair_is _).mono ?_
  rintro e w1 ⟨⟨v, rfl, P⟩, bb⟩
  obtain ⟨ra, rc, sa, sc, fa, fc, na, nc, rfl, h1, h2, h3, h4⟩ := P.parts
  rw [show (pairD 6 [0, 2, 2, 1, 1] [3, 0, 0, 0]).guest = 6 from rfl, show (pairD 6 [0, 2, 2, 1, 1] [3, 0, 0, 0]).root.length = 2 from rfl, show (pairD 6 [0, 2, 2, 1, 1] [3, 0, 0, 0]).slots.length = 5 from rfl, show (pairD 6 [0, 2, 2, 1, 1] [3, 0, 0, 0]).refs.length = 5 from rfl, show (pairD 6 [0, 2, 2, 1, 1] [3, 0, 0, 0]).snaps.length = 1 from rfl]
  go_wp2_with fail
  rw [show (pairD 6 [0, 2, 2, 1, 1] [3, 0, 0, 0]).root.length = 2 from rfl] at h1
  rw [show (pairD 6 [0, 2, 2, 1, 1] [3, 0, 0, 0]).slots.length = 5 from rfl] at h2
  have ba : Below w1.heap.size w1 (w1.alloc (.cells #[.int .i64 6, .slice ra 2 rc, .slice sa 5 sc, .slice (some ⟨w1.heap.size + 1, 0, none⟩) 5 5, .slice none 0 0] 27)) := (Below.refl _ _).alloc (Nat.le_refl _) _
  have bc : Below ((w1.alloc (.cells #[.int .i64 6, .slice ra 2 rc, .slice sa 5 sc, .slice (some ⟨w1.heap.size + 1, 0, none⟩) 5 5, .slice none 0 0] 27)).alloc (.cells #[.int .i64 0, .int .i64 2, .int .i64 1, .int .i64 1, .int .i64 1] 3)).heap.size ((w1.alloc (.cells #[.int .i64 6, .slice ra 2 rc, .slice sa 5 sc, .slice (some ⟨w1.heap.size + 1, 0, none⟩) 5 5, .slice none 0 0] 27)).alloc (.cells #[.int .i64 0, .int .i64 2, .int .i64 1, .int .i64 1, .int .i64 1] 3)) (((w1.alloc (.cells #[.int .i64 6, .slice ra 2 rc, .slice sa 5 sc, .slice (some ⟨w1.heap.size + 1, 0, none⟩) 5 5, .slice none 0 0] 27)).alloc (.cells #[.int .i64 0, .int .i64 2, .int .i64 1, .int .i64 1, .int .i64 1] 3)).alloc (.cells #[.string ⟨#[120, 120, 120, 120]⟩, .string ⟨#[121, 121, 121, 121]⟩, .string ⟨#[122, 122, 122, 122]⟩] 9)) := (Below.refl _ _).alloc (Nat.le_refl _) _
  have bd : Below (((w1.alloc (.cells #[.int .i64 6, .slice ra 2 rc, .slice sa 5 sc, .slice (some ⟨w1.heap.size + 1, 0, none⟩) 5 5, .slice none 0 0] 27)).alloc (.cells #[.int .i64 0, .int .i64 2, .int .i64 1, .int .i64 1, .int .i64 1] 3)).alloc (.cells #[.string ⟨#[120, 120, 120, 120]⟩, .string ⟨#[121, 121, 121, 121]⟩, .string ⟨#[122, 122, 122, 122]⟩] 9)).heap.size (((w1.alloc (.cells #[.int .i64 6, .slice ra 2 rc, .slice sa 5 sc, .slice (some ⟨w1.heap.size + 1, 0, none⟩) 5 5, .slice none 0 0] 27)).alloc (.cells #[.int .i64 0, .int .i64 2, .int .i64 1, .int .i64 1, .int .i64 1] 3)).alloc (.cells #[.string ⟨#[120, 120, 120, 120]⟩, .string ⟨#[121, 121, 121, 121]⟩, .string ⟨#[122, 122, 122, 122]⟩] 9)) ((((w1.alloc (.cells #[.int .i64 6, .slice ra 2 rc, .slice sa 5 sc, .slice (some ⟨w1.heap.size + 1, 0, none⟩) 5 5, .slice none 0 0] 27)).alloc (.cells #[.int .i64 0, .int .i64 2, .int .i64 1, .int .i64 1, .int .i64 1] 3)).alloc (.cells #[.string ⟨#[120, 120, 120, 120]⟩, .string ⟨#[121, 121, 121, 121]⟩, .string ⟨#[122, 122, 122, 122]⟩] 9)).alloc (.cells #[.slice (some ⟨w1.heap.size + 1 + 1, 0, none⟩) 3 3, .int .i64 6, .slice ra 2 rc, .slice sa 5 sc, .slice (some ⟨w1.heap.size + 1, 0, none⟩) 5 5, .slice none 0 0] 29)) := (Below.refl _ _).alloc (Nat.le_refl _) _
  have bwb : Below w1.heap.size w1 ((w1.alloc (.cells #[.int .i64 6, .slice ra 2 rc, .slice sa 5 sc, .slice (some ⟨w1.heap.size + 1, 0, none⟩) 5 5, .slice none 0 0] 27)).alloc (.cells #[.int .i64 0, .int .i64 2, .int .i64 1, .int .i64 1, .int .i64 1] 3)) := ba.alloc (by simp) _
  have bwc : Below w1.heap.size w1 (((w1.alloc (.cells #[.int .i64 6, .slice ra 2 rc, .slice sa 5 sc, .slice (some ⟨w1.heap.size + 1, 0, none⟩) 5 5, .slice none 0 0] 27)).alloc (.cells #[.int .i64 0, .int .i64 2, .int .i64 1, .int .i64 1, .int .i64 1] 3)).alloc (.cells #[.string ⟨#[120, 120, 120, 120]⟩, .string ⟨#[121, 121, 121, 121]⟩, .string ⟨#[122, 122, 122, 122]⟩] 9)) := bwb.alloc (by simp <;> omega) _
  have bwd : Below w1.heap.size w1 ((((w1.alloc (.cells #[.int .i64 6, .slice ra 2 rc, .slice sa 5 sc, .slice (some ⟨w1.heap.size + 1, 0, none⟩) 5 5, .slice none 0 0] 27)).alloc (.cells #[.int .i64 0, .int .i64 2, .int .i64 1, .int .i64 1, .int .i64 1] 3)).alloc (.cells #[.string ⟨#[120, 120, 120, 120]⟩, .string ⟨#[121, 121, 121, 121]⟩, .string ⟨#[122, 122, 122, 122]⟩] 9)).alloc (.cells #[.slice (some ⟨w1.heap.size + 1 + 1, 0, none⟩) 3 3, .int .i64 6, .slice ra 2 rc, .slice sa 5 sc, .slice (some ⟨w1.heap.size + 1, 0, none⟩) 5 5, .slice none 0 0] 29)) := bwc.alloc (by simp <;> omega) _
  have hl := Sl_new (w1.alloc (.cells #[.int .i64 6, .slice ra 2 rc, .slice sa 5 sc, .slice (some ⟨w1.heap.size + 1, 0, none⟩) 5 5, .slice none 0 0] 27)) [0, 2, 1, 1, 1] 5 rfl (by decide)
  rw [show (w1.alloc (.cells #[.int .i64 6, .slice ra 2 rc, .slice sa 5 sc, .slice (some ⟨w1.heap.size + 1, 0, none⟩) 5 5, .slice none 0 0] 27)).heap.size = w1.heap.size + 1 by simp] at hl
  have hl : Sl ((w1.alloc (.cells #[.int .i64 6, .slice ra 2 rc, .slice sa 5 sc, .slice (some ⟨w1.heap.size + 1, 0, none⟩) 5 5, .slice none 0 0] 27)).alloc (.cells #[.int .i64 0, .int .i64 2, .int .i64 1, .int .i64 1, .int .i64 1] 3)) (.slice (some ⟨w1.heap.size + 1, 0, none⟩) 5 5) [0, 2, 1, 1, 1] := hl
  have hst := Ss_new ((w1.alloc (.cells #[.int .i64 6, .slice ra 2 rc, .slice sa 5 sc, .slice (some ⟨w1.heap.size + 1, 0, none⟩) 5 5, .slice none 0 0] 27)).alloc (.cells #[.int .i64 0, .int .i64 2, .int .i64 1, .int .i64 1, .int .i64 1] 3)) sbB 3 rfl (by decide)
  rw [show ((w1.alloc (.cells #[.int .i64 6, .slice ra 2 rc, .slice sa 5 sc, .slice (some ⟨w1.heap.size + 1, 0, none⟩) 5 5, .slice none 0 0] 27)).alloc (.cells #[.int .i64 0, .int .i64 2, .int .i64 1, .int .i64 1, .int .i64 1] 3)).heap.size = w1.heap.size + 1 + 1 by simp] at hst
  have hst : Ss (((w1.alloc (.cells #[.int .i64 6, .slice ra 2 rc, .slice sa 5 sc, .slice (some ⟨w1.heap.size + 1, 0, none⟩) 5 5, .slice none 0 0] 27)).alloc (.cells #[.int .i64 0, .int .i64 2, .int .i64 1, .int .i64 1, .int .i64 1] 3)).alloc (.cells #[.string ⟨#[120, 120, 120, 120]⟩, .string ⟨#[121, 121, 121, 121]⟩, .string ⟨#[122, 122, 122, 122]⟩] 9)) (.slice (some ⟨w1.heap.size + 1 + 1, 0, none⟩) 3 3) sbB := hst
  have K_s : Stk ((((w1.alloc (.cells #[.int .i64 6, .slice ra 2 rc, .slice sa 5 sc, .slice (some ⟨w1.heap.size + 1, 0, none⟩) 5 5, .slice none 0 0] 27)).alloc (.cells #[.int .i64 0, .int .i64 2, .int .i64 1, .int .i64 1, .int .i64 1] 3)).alloc (.cells #[.string ⟨#[120, 120, 120, 120]⟩, .string ⟨#[121, 121, 121, 121]⟩, .string ⟨#[122, 122, 122, 122]⟩] 9)).alloc (.cells #[.slice (some ⟨w1.heap.size + 1 + 1, 0, none⟩) 3 3, .int .i64 6, .slice ra 2 rc, .slice sa 5 sc, .slice (some ⟨w1.heap.size + 1, 0, none⟩) 5 5, .slice none 0 0] 29)) (.agg #[.slice (some ⟨w1.heap.size + 1 + 1, 0, none⟩) 3 3, .int .i64 6, .slice ra 2 rc, .slice sa 5 sc, .slice (some ⟨w1.heap.size + 1, 0, none⟩) 5 5, .slice none 0 0]) sbB sbT := ⟨_, _, _, _, _, rfl, hst.below bd, ⟨_, _, _, _, rfl, h1.below bwd, h2.below bwd, (hl.below bc).below bd, (OI.zero ((((w1.alloc (.cells #[.int .i64 6, .slice ra 2 rc, .slice sa 5 sc, .slice (some ⟨w1.heap.size + 1, 0, none⟩) 5 5, .slice none 0 0] 27)).alloc (.cells #[.int .i64 0, .int .i64 2, .int .i64 1, .int .i64 1, .int .i64 1] 3)).alloc (.cells #[.string ⟨#[120, 120, 120, 120]⟩, .string ⟨#[121, 121, 121, 121]⟩, .string ⟨#[122, 122, 122, 122]⟩] 9)).alloc (.cells #[.slice (some ⟨w1.heap.size + 1 + 1, 0, none⟩) 3 3, .int .i64 6, .slice ra 2 rc, .slice sa 5 sc, .slice (some ⟨w1.heap.size + 1, 0, none⟩) 5 5, .slice none 0 0] 29)) 0).img.four.2.2.2⟩⟩
  have mb_s : ((((w1.alloc (.cells #[.int .i64 6, .slice ra 2 rc, .slice sa 5 sc, .slice (some ⟨w1.heap.size + 1, 0, none⟩) 5 5, .slice none 0 0] 27)).alloc (.cells #[.int .i64 0, .int .i64 2, .int .i64 1, .int .i64 1, .int .i64 1] 3)).alloc (.cells #[.string ⟨#[120, 120, 120, 120]⟩, .string ⟨#[121, 121, 121, 121]⟩, .string ⟨#[122, 122, 122, 122]⟩] 9)).alloc (.cells #[.slice (some ⟨w1.heap.size + 1 + 1, 0, none⟩) 3 3, .int .i64 6, .slice ra 2 rc, .slice sa 5 sc, .slice (some ⟨w1.heap.size + 1, 0, none⟩) 5 5, .slice none 0 0] 29)).heap[w1.heap.size + 1 + 1 + 1]? = some (.cells #[.slice (some ⟨w1.heap.size + 1 + 1, 0, none⟩) 3 3, .int .i64 6, .slice ra 2 rc, .slice sa 5 sc, .slice (some ⟨w1.heap.size + 1, 0, none⟩) 5 5, .slice none 0 0] 29) := by have := World.alloc_heap_new (((w1.alloc (.cells #[.int .i64 6, .slice ra 2 rc, .slice sa 5 sc, .slice (some ⟨w1.heap.size + 1, 0, none⟩) 5 5, .slice none 0 0] 27)).alloc (.cells #[.int .i64 0, .int .i64 2, .int .i64 1, .int .i64 1, .int .i64 1] 3)).alloc (.cells #[.string ⟨#[120, 120, 120, 120]⟩, .string ⟨#[121, 121, 121, 121]⟩, .string ⟨#[122, 122, 122, 122]⟩] 9)) (.cells #[.slice (some ⟨w1.heap.size + 1 + 1, 0, none⟩) 3 3, .int .i64 6, .slice ra 2 rc, .slice sa 5 sc, .slice (some ⟨w1.heap.size + 1, 0, none⟩) 5 5, .slice none 0 0] 29); simpa using this
  have hB : Below w.heap.size w ((((w1.alloc (.cells #[.int .i64 6, .slice ra 2 rc, .slice sa 5 sc, .slice (some ⟨w1.heap.size + 1, 0, none⟩) 5 5, .slice none 0 0] 27)).alloc (.cells #[.int .i64 0, .int .i64 2, .int .i64 1, .int .i64 1, .int .i64 1] 3)).alloc (.cells #[.string ⟨#[120, 120, 120, 120]⟩, .string ⟨#[121, 121, 121, 121]⟩, .string ⟨#[122, 122, 122, 122]⟩] 9)).alloc (.cells #[.slice (some ⟨w1.heap.size + 1 + 1, 0, none⟩) 3 3, .int .i64 6, .slice ra 2 rc, .slice sa 5 sc, .slice (some ⟨w1.heap.size + 1, 0, none⟩) 5 5, .slice none 0 0] 29)) := Below.on bb bwd
  clear P h1 h2 h3 h4 ba bc bd bwb bwc bwd hl hst bb
  obtain ⟨W0, hW0⟩ : ∃ X, ((((w1.alloc (.cells #[.int .i64 6, .slice ra 2 rc, .slice sa 5 sc, .slice (some ⟨w1.heap.size + 1, 0, none⟩) 5 5, .slice none 0 0] 27)).alloc (.cells #[.int .i64 0, .int .i64 2, .int .i64 1, .int .i64 1, .int .i64 1] 3)).alloc (.cells #[.string ⟨#[120, 120, 120, 120]⟩, .string ⟨#[121, 121, 121, 121]⟩, .string ⟨#[122, 122, 122, 122]⟩] 9)).alloc (.cells #[.slice (some ⟨w1.heap.size + 1 + 1, 0, none⟩) 3 3, .int .i64 6, .slice ra 2 rc, .slice sa 5 sc, .slice (some ⟨w1.heap.size + 1, 0, none⟩) 5 5, .slice none 0 0] 29)) = X := ⟨_, rfl⟩
  rw [hW0] at K_s mb_s hB ⊢
  clear hW0
  refine (sk_read K_s 1 sb_e1 sb_v1).mono ?_
  rintro e w2 ⟨rfl, bb⟩
  replace mb_s := cells_below mb_s bb (Array.getElem?_eq_some_iff.1 mb_s).1
  replace hB := Below.on hB bb
  replace K_s := K_s.below bb
  clear bb
  obtain ⟨s0, s1, s2, s3, s4, s5⟩ := six mb_s
  have hh_mb_s := Hid_mkW mb_s
  have hh_K_s := Hid_mkW K_s
  have hh_hB := Hid_mkW hB
  clear mb_s K_s hB
  go_wp2_with fail
  clear s0 s1 s2 s3 s4 s5
  have mb_s := hh_mb_s.out
  have K_s := hh_K_s.out
  have hB := hh_hB.out
  clear hh_mb_s hh_K_s hh_hB
  refine (sk_read K_s 2 sb_e2 sb_v2).mono ?_
  rintro e w3 ⟨rfl, bb⟩
  replace mb_s := cells_below mb_s bb (Array.getElem?_eq_some_iff.1 mb_s).1
  replace hB := Below.on hB bb
  replace K_s := K_s.below bb
  clear bb
  obtain ⟨s0, s1, s2, s3, s4, s5⟩ := six mb_s
  have hh_mb_s := Hid_mkW mb_s
  have hh_K_s := Hid_mkW K_s
  have hh_hB := Hid_mkW hB
  clear mb_s K_s hB
  go_wp2_with fail
  clear s0 s1 s2 s3 s4 s5
  have mb_s := hh_mb_s.out
  have K_s := hh_K_s.out
  have hB := hh_hB.out
  clear hh_mb_s hh_K_s hh_hB
  refine (sk_commit K_s sb_ce sb_cb sb_cm).mono ?_
  rintro e w4 ⟨v, rfl, K_c, bb⟩
  obtain ⟨c_b, c_bc, c_r, c_rc, c_s, c_sc, c_f, c_fc, c_n, c_nc, rfl, hs_, hi_⟩ := K_c.parts
  clear hs_ hi_
  try dsimp only
  rw [show sbC.length = 6 from rfl, show (freshD 6).guest = 6 from rfl, show (freshD 6).root.length = 2 from rfl, show (freshD 6).slots.length = 1 from rfl, show (freshD 6).refs.length = 1 from rfl, show (freshD 6).snaps.length = 0 from rfl] at K_c ⊢
  replace mb_s := cells_below mb_s bb (Array.getElem?_eq_some_iff.1 mb_s).1
  replace hB := Below.on hB bb
  replace K_s := K_s.below bb
  clear bb
  replace mb_s := cells_alloc mb_s (.cells #[.slice c_b 6 c_bc, .int .i64 6, .slice c_r 2 c_rc, .slice c_s 1 c_sc, .slice c_f 1 c_fc, .slice c_n 0 c_nc] 29)
  have ba : Below w4.heap.size w4 (w4.alloc (.cells #[.slice c_b 6 c_bc, .int .i64 6, .slice c_r 2 c_rc, .slice c_s 1 c_sc, .slice c_f 1 c_fc, .slice c_n 0 c_nc] 29)) := (Below.refl _ _).alloc (Nat.le_refl _) _
  replace hB := Below.on hB ba
  replace K_s := K_s.below ba
  replace K_c := K_c.below ba
  clear ba
  have mb_c : (w4.alloc (.cells #[.slice c_b 6 c_bc, .int .i64 6, .slice c_r 2 c_rc, .slice c_s 1 c_sc, .slice c_f 1 c_fc, .slice c_n 0 c_nc] 29)).heap[w4.heap.size]? = some (.cells #[.slice c_b 6 c_bc, .int .i64 6, .slice c_r 2 c_rc, .slice c_s 1 c_sc, .slice c_f 1 c_fc, .slice c_n 0 c_nc] 29) := World.alloc_heap_new _ _
  obtain ⟨s0, s1, s2, s3, s4, s5⟩ := six mb_s
  have hh_mb_s := Hid_mkW mb_s
  have hh_mb_c := Hid_mkW mb_c
  have hh_K_s := Hid_mkW K_s
  have hh_K_c := Hid_mkW K_c
  have hh_hB := Hid_mkW hB
  clear mb_s mb_c K_s K_c hB
  go_wp2_with fail
  clear s0 s1 s2 s3 s4 s5
  have mb_s := hh_mb_s.out
  have mb_c := hh_mb_c.out
  have K_s := hh_K_s.out
  have K_c := hh_K_c.out
  have hB := hh_hB.out
  clear hh_mb_s hh_mb_c hh_K_s hh_K_c hh_hB
  refine (sk_write K_s 1 ⟨#[119, 119, 119, 119]⟩ sb_we sb_wm sb_wb).mono ?_
  rintro e w5 ⟨v, rfl, K_x, bb⟩
  obtain ⟨x_b, x_bc, x_r, x_rc, x_s, x_sc, x_f, x_fc, x_n, x_nc, rfl, hs_, hi_⟩ := K_x.parts
  clear hs_ hi_
  try dsimp only
  rw [show sbB.length = 3 from rfl, show sbW.guest = 6 from rfl, show sbW.root.length = 2 from rfl, show sbW.slots.length = 6 from rfl, show sbW.refs.length = 6 from rfl, show sbW.snaps.length = 0 from rfl] at K_x ⊢
  replace mb_s := cells_below mb_s bb (Array.getElem?_eq_some_iff.1 mb_s).1
  replace mb_c := cells_below mb_c bb (Array.getElem?_eq_some_iff.1 mb_c).1
  replace hB := Below.on hB bb
  replace K_s := K_s.below bb
  replace K_c := K_c.below bb
  clear bb
  replace mb_s := cells_alloc mb_s (.cells #[.slice x_b 3 x_bc, .int .i64 6, .slice x_r 2 x_rc, .slice x_s 6 x_sc, .slice x_f 6 x_fc, .slice x_n 0 x_nc] 29)
  replace mb_c := cells_alloc mb_c (.cells #[.slice x_b 3 x_bc, .int .i64 6, .slice x_r 2 x_rc, .slice x_s 6 x_sc, .slice x_f 6 x_fc, .slice x_n 0 x_nc] 29)
  have ba : Below w5.heap.size w5 (w5.alloc (.cells #[.slice x_b 3 x_bc, .int .i64 6, .slice x_r 2 x_rc, .slice x_s 6 x_sc, .slice x_f 6 x_fc, .slice x_n 0 x_nc] 29)) := (Below.refl _ _).alloc (Nat.le_refl _) _
  replace hB := Below.on hB ba
  replace K_s := K_s.below ba
  replace K_c := K_c.below ba
  replace K_x := K_x.below ba
  clear ba
  have mb_x : (w5.alloc (.cells #[.slice x_b 3 x_bc, .int .i64 6, .slice x_r 2 x_rc, .slice x_s 6 x_sc, .slice x_f 6 x_fc, .slice x_n 0 x_nc] 29)).heap[w5.heap.size]? = some (.cells #[.slice x_b 3 x_bc, .int .i64 6, .slice x_r 2 x_rc, .slice x_s 6 x_sc, .slice x_f 6 x_fc, .slice x_n 0 x_nc] 29) := World.alloc_heap_new _ _
  obtain ⟨pc, oc, hp_, lc, hc_⟩ := (Stk.base K_c).at (by decide)
  subst hp_
  have cc1 : CAt (w5.alloc (.cells #[.slice x_b 3 x_bc, .int .i64 6, .slice x_r 2 x_rc, .slice x_s 6 x_sc, .slice x_f 6 x_fc, .slice x_n 0 x_nc] 29)) ⟨pc, oc + 1, none⟩ (.string ⟨#[121, 121, 121, 121]⟩) := ⟨hc_ 1 (by decide), lc⟩
  have cc4 : CAt (w5.alloc (.cells #[.slice x_b 3 x_bc, .int .i64 6, .slice x_r 2 x_rc, .slice x_s 6 x_sc, .slice x_f 6 x_fc, .slice x_n 0 x_nc] 29)) ⟨pc, oc + 4, none⟩ (.string ⟨#[98, 98, 98, 98]⟩) := ⟨hc_ 4 (by decide), lc⟩
  clear hc_
  obtain ⟨px, ox, hp_, lx, hc_⟩ := (Stk.base K_x).at (by decide)
  subst hp_
  have cx1 : CAt (w5.alloc (.cells #[.slice (some ⟨px, ox, none⟩) 3 x_bc, .int .i64 6, .slice x_r 2 x_rc, .slice x_s 6 x_sc, .slice x_f 6 x_fc, .slice x_n 0 x_nc] 29)) ⟨px, ox + 1, none⟩ (.string ⟨#[121, 121, 121, 121]⟩) := ⟨hc_ 1 (by decide), lx⟩
  clear hc_
  clear K_c
  clear K_x
  obtain ⟨s0, s1, s2, s3, s4, s5⟩ := six mb_s
  have q_cc1 := cc1.1
  have q_cc4 := cc4.1
  have q_cx1 := cx1.1
  have hh_mb_s := Hid_mkW mb_s
  have hh_mb_c := Hid_mkW mb_c
  have hh_mb_x := Hid_mkW mb_x
  have hh_K_s := Hid_mkW K_s
  have hh_cc1 := Hid_mkW cc1
  have hh_cc4 := Hid_mkW cc4
  have hh_cx1 := Hid_mkW cx1
  have hh_hB := Hid_mkW hB
  clear mb_s mb_c mb_x K_s cc1 cc4 cx1 hB
  go_wp2_with fail
  clear s0 s1 s2 s3 s4 s5 q_cc1 q_cc4 q_cx1
  have mb_s := hh_mb_s.out
  have mb_c := hh_mb_c.out
  have mb_x := hh_mb_x.out
  have K_s := hh_K_s.out
  have cc1 := hh_cc1.out
  have cc4 := hh_cc4.out
  have cx1 := hh_cx1.out
  have hB := hh_hB.out
  clear hh_mb_s hh_mb_c hh_mb_x hh_K_s hh_cc1 hh_cc4 hh_cx1 hh_hB
  refine (sk_check K_s sb_check).mono ?_
  rintro e w6 ⟨rfl, bb⟩
  replace mb_s := cells_below mb_s bb (Array.getElem?_eq_some_iff.1 mb_s).1
  replace mb_c := cells_below mb_c bb (Array.getElem?_eq_some_iff.1 mb_c).1
  replace mb_x := cells_below mb_x bb (Array.getElem?_eq_some_iff.1 mb_x).1
  replace hB := Below.on hB bb
  replace K_s := K_s.below bb
  replace cc1 := cc1.below bb
  replace cc4 := cc4.below bb
  replace cx1 := cx1.below bb
  clear bb
  clear mb_s
  clear K_s
  obtain ⟨c0, c1, c2, c3, c4, c5⟩ := six mb_c
  obtain ⟨x0, x1, x2, x3, x4, x5⟩ := six mb_x
  have q_cc1 := cc1.1
  have q_cc4 := cc4.1
  have q_cx1 := cx1.1
  have hh_mb_c := Hid_mkW mb_c
  have hh_mb_x := Hid_mkW mb_x
  have hh_cc1 := Hid_mkW cc1
  have hh_cc4 := Hid_mkW cc4
  have hh_cx1 := Hid_mkW cx1
  have hh_hB := Hid_mkW hB
  clear mb_c mb_x cc1 cc4 cx1 hB
  go_wp2_with fail
  go_ret
  have hB := hh_hB.out
  exact ⟨rfl, hB⟩
end Go.Proofs.Ytehleeibgkpjmaf
/- Contract of SameImages: of one image, wherever it lies twice. -/
namespace Go.Proofs.Ytehleeibgkpjmaf
open Go.RowKit Go.Shelf
end Go.Proofs.Ytehleeibgkpjmaf
/- Contract of SameStacks: equal stacks answer true. -/
namespace Go.Proofs.Ytehleeibgkpjmaf
open Go.RowKit Go.Shelf
set_option maxRecDepth 20000
set_option linter.unusedVariables false

theorem Stk.top {w : World} {b : List ByteArray} {m : ImgD} {bv gv r s f n : Value} (h : Stk w (.agg #[bv, gv, r, s, f, n]) b m) : Img w (.agg #[gv, r, s, f, n]) m := by
  obtain ⟨bv', r', s', f', n', e, h1, h2⟩ := h
  simp only [Value.agg.injEq, Array.mk.injEq, List.cons.injEq, and_true] at e
  rw [e.2.1, e.2.2.1, e.2.2.2.1, e.2.2.2.2.1, e.2.2.2.2.2]; exact h2
end Go.Proofs.Ytehleeibgkpjmaf
/- Contract of move.Up of no pages. -/
namespace Go.Proofs.Ytehleeibgkpjmaf
open Go.RowKit Go.Shelf
set_option maxRecDepth 20000
set_option linter.unusedVariables false

theorem ckP_nil : ckP [] = 0 := by decide +kernel
set_option maxHeartbeats 4000000 in
theorem up_nil_at (w : World) (M : ImgD) (hM : freshD 0 = M) : Calls Try.prog 15 #[.slice none 0 0] w (AnsI w w.heap.size M 0) := by
  have b0 : Below w.heap.size w (w.alloc (.cells #[.int .i64 0, .slice none 0 0, .slice none 0 0, .slice none 0 0, .slice none 0 0] 27)) := (Below.refl _ _).alloc (Nat.le_refl _) _
  have m0 : (w.alloc (.cells #[.int .i64 0, .slice none 0 0, .slice none 0 0, .slice none 0 0, .slice none 0 0] 27)).heap[w.heap.size]? = some (.cells #[.int .i64 0, .slice none 0 0, .slice none 0 0, .slice none 0 0, .slice none 0 0] 27) := World.alloc_heap_new _ _
  have hS : Ss (w.alloc (.cells #[.int .i64 0, .slice none 0 0, .slice none 0 0, .slice none 0 0, .slice none 0 0] 27)) (.slice none 0 0) [] := ⟨none, 0, rfl, Nat.zero_le _, Nat.le_refl _, fun x => absurd rfl x⟩
  have HF : Hid (∀ w1, Calls Try.prog 29 #[.int .i64 0] w1 (AnsI w1 w1.heap.size M 0)) := fun w1 => fresh_is 0 w1 ((frs_is 0 (by decide)).1.trans hM) (frs_is 0 (by decide)).2.1
  clear hM
  go_enter Try.func15, Try.ntmps15
  go_wp2_with (first
    | (go_at_call 29; refine (HF.out _).mono ?_; intro e w2 hA; obtain ⟨val, g0, k0, g1, k1, g2, k2, g3, k3, rfl, hO, b2, hI⟩ := hA.open; have r3 := cells_alloc (cells_below m0 b2 (by simp)) (.cells #[.int .i64 M.guest, .slice g0 M.root.length k0, .slice g1 M.slots.length k1, .slice g2 M.refs.length k2, .slice g3 M.snaps.length k3] 27); have m3 : (w2.alloc (.cells #[.int .i64 M.guest, .slice g0 M.root.length k0, .slice g1 M.slots.length k1, .slice g2 M.refs.length k2, .slice g3 M.snaps.length k3] 27)).heap[w2.heap.size]? = some (.cells #[.int .i64 M.guest, .slice g0 M.root.length k0, .slice g1 M.slots.length k1, .slice g2 M.refs.length k2, .slice g3 M.snaps.length k3] 27) := World.alloc_heap_new _ _; obtain ⟨z0, z1, z2, z3, z4⟩ := five r3; have y0 := cells_frozen r3 0; have y1 := cells_frozen r3 1; have y2 := cells_frozen r3 2; have y3 := cells_frozen r3 3; have y4 := cells_frozen r3 4; obtain ⟨n0, n1, n2, n3, n4⟩ := five m3)
    | (go_at_call 31; refine (pcheck_is hS ckP_nil).mono ?_; rintro e w' ⟨rfl, hw⟩; subst hw))
  have HO : Hid (OI w2 (w.alloc (.cells #[.int .i64 0, .slice none 0 0, .slice none 0 0, .slice none 0 0, .slice none 0 0] 27)).heap.size val M ∧ imgV M.guest val = .agg #[.int .i64 M.guest, .slice g0 M.root.length k0, .slice g1 M.slots.length k1, .slice g2 M.refs.length k2, .slice g3 M.snaps.length k3]) := ⟨hO, hI⟩
  have HB : Hid (Below w.heap.size w (w2.alloc (.cells #[.int .i64 M.guest, .slice g0 M.root.length k0, .slice g1 M.slots.length k1, .slice g2 M.refs.length k2, .slice g3 M.snaps.length k3] 27)) ∧ (w.alloc (.cells #[.int .i64 0, .slice none 0 0, .slice none 0 0, .slice none 0 0, .slice none 0 0] 27)).heap.size ≤ w2.heap.size) := ⟨(Below.on b0 b2).alloc (by have := b0.size; have := b2.size; omega) _, b2.size⟩
  clear hO hI hA b2 m3 r3 m0 hS HF
  obtain ⟨w3, hw3⟩ : ∃ X, w2.alloc (.cells #[.int .i64 M.guest, .slice g0 M.root.length k0, .slice g1 M.slots.length k1, .slice g2 M.refs.length k2, .slice g3 M.snaps.length k3] 27) = X := ⟨_, rfl⟩
  have HO4 : Hid (OI w3 (w.alloc (.cells #[.int .i64 0, .slice none 0 0, .slice none 0 0, .slice none 0 0, .slice none 0 0] 27)).heap.size val M) := by rw [← hw3]; exact HO.out.1.alloc _
  rw [hw3] at HB z0 z1 z2 z3 z4 y0 y1 y2 y3 y4 n0 n1 n2 n3 n4 ⊢
  clear hw3
  go_loopw [6, 7, 8, 23] (fun e _ _ i wr => e = .int .i64 0 ∧ i = .int .i64 0 ∧ wr = w3) (fun _ _ _ _ _ => 0)
  case atStart => exact ⟨rfl, rfl, rfl⟩
  case round =>
    obtain ⟨rfl, rfl, rfl⟩ := hrel
    have hfr : ∀ a, Live M a → (val a).ownBlock ≠ some w.heap.size := fun a ha e => by
      have := ((HO4.out.row a ha).lt _ e).1
      simp at this
      omega
    go_wp2_with fail
    have hR := fun a0 a1 a2 a3 a4 => ((((HO4.out.far (i := 0) (u := a0) hfr).far (i := 1) (u := a1) hfr).far (i := 2) (u := a2) hfr).far (i := 3) (u := a3) hfr).far (i := 4) (u := a4) hfr
    have i1 : w.heap.size ≤ w.heap.size := Nat.le_refl _
    refine bodyPost_ret (v := .tuple #[.agg #[.int .i64 M.guest, .slice g0 M.root.length k0, .slice g1 M.slots.length k1, .slice g2 M.refs.length k2, .slice g3 M.snaps.length k3], .int .i64 0]) (by simp [results, Try.results15, go_sem, z0, z1, z2, z3, z4]) rfl ⟨val, by rw [HO.out.2], OI.mono (hR _ _ _ _ _) (by simp), ((((HB.out.1.setCell i1 _).setCell i1 _).setCell i1 _).setCell i1 _).setCell i1 _⟩
theorem resize_fresh : ∀ k : Nat, k ≤ 16 → rzM (freshD 0) k = freshD k ∧ rzE (freshD 0) k = 0
  | 0, _ => ⟨by kernel_rfl, by decide +kernel⟩
  | 1, _ => ⟨by kernel_rfl, by decide +kernel⟩
  | 2, _ => ⟨by kernel_rfl, by decide +kernel⟩
  | 3, _ => ⟨by kernel_rfl, by decide +kernel⟩
  | 4, _ => ⟨by kernel_rfl, by decide +kernel⟩
  | 5, _ => ⟨by kernel_rfl, by decide +kernel⟩
  | 6, _ => ⟨by kernel_rfl, by decide +kernel⟩
  | 7, _ => ⟨by kernel_rfl, by decide +kernel⟩
  | 8, _ => ⟨by kernel_rfl, by decide +kernel⟩
  | 9, _ => ⟨by kernel_rfl, by decide +kernel⟩
  | 10, _ => ⟨by kernel_rfl, by decide +kernel⟩
  | 11, _ => ⟨by kernel_rfl, by decide +kernel⟩
  | 12, _ => ⟨by kernel_rfl, by decide +kernel⟩
  | 13, _ => ⟨by kernel_rfl, by decide +kernel⟩
  | 14, _ => ⟨by kernel_rfl, by decide +kernel⟩
  | 15, _ => ⟨by kernel_rfl, by decide +kernel⟩
  | 16, _ => ⟨by kernel_rfl, by decide +kernel⟩
  | k + 17, h => absurd h (by omega)
end Go.Proofs.Ytehleeibgkpjmaf
