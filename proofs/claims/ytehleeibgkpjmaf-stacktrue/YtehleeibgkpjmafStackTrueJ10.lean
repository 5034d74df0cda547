/- Texts joined: SkC, WrC0, WrG, WrH, WrC, RdP, PDec, RBegun, RdB, RdC, RWalk, SkP, SameInts, WBegun, SBegun. -/
import Derived.Test.YtehleeibgkpjmafStackTrueJ9
import Derived.Test.YtehleeibgkpjmafStackTrueJ5
import Derived.Test.YtehleeibgkpjmafStackTrueJ8
import Derived.Test.YtehleeibgkpjmafStackTrueJ3
import Derived.Test.YtehleeibgkpjmafStackTrueJ1
import Derived.Deep.AppendLies
import Derived.Deep.QuietTactic
import Derived.BigQuiet
/- Contracts of stack: Commit. -/
namespace Go.Proofs.Ytehleeibgkpjmaf
open Go.RowKit Go.Shelf
set_option maxRecDepth 20000
set_option linter.unusedVariables false
set_option linter.unusedSimpArgs false

def rowK (b : List ByteArray) (m : ImgD) (g k : Nat) : List ByteArray := (List.range g).map (fun n : Nat => if n < k then srV b m (n : Int) else ByteArray.empty)
def pgs (b : List ByteArray) (m : ImgD) : List ByteArray := (List.range m.guest.toNat).map (fun n : Nat => srV b m (n : Int))
theorem rowK_length (b : List ByteArray) (m : ImgD) (g k : Nat) : (rowK b m g k).length = g := by simp [rowK]
theorem rowK_zero (b : List ByteArray) (m : ImgD) (g : Nat) : rowK b m g 0 = List.replicate g ByteArray.empty := by
  apply List.ext_getElem <;> simp [rowK]
theorem rowK_end (b : List ByteArray) (m : ImgD) (g : Nat) : rowK b m g g = (List.range g).map (fun n : Nat => srV b m (n : Int)) := by
  unfold rowK
  exact List.map_congr_left fun n hn => by rw [if_pos (List.mem_range.1 hn)]
theorem rowK_set (b : List ByteArray) (m : ImgD) (g k : Nat) : (rowK b m g k).set k (srV b m (k : Int)) = rowK b m g (k + 1) := by
  unfold rowK
  apply List.ext_getElem
  · simp
  · intro i h1 h2
    rw [List.getElem_set]
    simp only [List.getElem_map, List.getElem_range]
    by_cases e : k = i
    · subst e; rw [if_pos rfl, if_pos (by omega)]
    · rw [if_neg e]
      by_cases h : i < k
      · rw [if_pos h, if_pos (by omega)]
      · rw [if_neg h, if_neg (by omega)]
theorem sr_in {b : List ByteArray} {m : ImgD} (h : scE b m = 0) {k : Nat} (hk : (k : Int) < m.guest) : srE b m (k : Int) = 0 := by
  unfold srE
  rw [if_neg (by simpa using h)]
  exact lookE_of (scE_zero h).2 hk
set_option maxHeartbeats 4000000 in
theorem sk_pages_at (ba : Option Addr) (bc : Nat) (ra : Option Addr) (rc : Nat) (sa : Option Addr) (sc : Nat) (fa : Option Addr) (fc : Nat) (na : Option Addr) (nc : Nat) (b : List ByteArray) (m : ImgD) (g : Nat) (w : World) (hS : Ss w (.slice ba b.length bc) b) (hI : Img w (.agg #[.int .i64 (g : Int), .slice ra m.root.length rc, .slice sa m.slots.length sc, .slice fa m.refs.length fc, .slice na m.snaps.length nc]) m) (hC : scE b m = 0) (hg : m.guest = (g : Int)) (hg16 : g ≤ 16) :
    Calls Try.prog 28 #[.agg #[.slice ba b.length bc, .int .i64 (g : Int), .slice ra m.root.length rc, .slice sa m.slots.length sc, .slice fa m.refs.length fc, .slice na m.snaps.length nc]] w fun r w' => (r = .returned (.tuple #[.slice (some ⟨w.heap.size + 1, 0, none⟩) g g, .int .i64 0]) ∧ SAt w' (w.heap.size + 1) (rowK b m g g)) ∧ Below w.heap.size w w' := by
  have b0 : Below w.heap.size w (w.alloc (.cells #[.slice ba b.length bc, .int .i64 (g : Int), .slice ra m.root.length rc, .slice sa m.slots.length sc, .slice fa m.refs.length fc, .slice na m.snaps.length nc] 29)) := (Below.refl _ _).alloc (Nat.le_refl _) _
  have q0 : (w.alloc (.cells #[.slice ba b.length bc, .int .i64 (g : Int), .slice ra m.root.length rc, .slice sa m.slots.length sc, .slice fa m.refs.length fc, .slice na m.snaps.length nc] 29)).heap[w.heap.size]? = some (.cells #[.slice ba b.length bc, .int .i64 (g : Int), .slice ra m.root.length rc, .slice sa m.slots.length sc, .slice fa m.refs.length fc, .slice na m.snaps.length nc] 29) := World.alloc_heap_new _ _
  obtain ⟨c0, c1, c2, c3, c4, c5⟩ := six q0
  have hmk := mk_strs g (by omega)
  have hz : (w.alloc (.cells #[.slice ba b.length bc, .int .i64 (g : Int), .slice ra m.root.length rc, .slice sa m.slots.length sc, .slice fa m.refs.length fc, .slice na m.snaps.length nc] 29)).heap.size = w.heap.size + 1 := by simp
  obtain ⟨W0, hW0⟩ : ∃ W0, (w.alloc (.cells #[.slice ba b.length bc, .int .i64 (g : Int), .slice ra m.root.length rc, .slice sa m.slots.length sc, .slice fa m.refs.length fc, .slice na m.snaps.length nc] 29)).alloc (.cells ((List.replicate g ByteArray.empty).map Value.string).toArray 9) = W0 := ⟨_, rfl⟩
  have l0 : SAt W0 (w.heap.size + 1) (rowK b m g 0) := by
    have := World.alloc_heap_new (w.alloc (.cells #[.slice ba b.length bc, .int .i64 (g : Int), .slice ra m.root.length rc, .slice sa m.slots.length sc, .slice fa m.refs.length fc, .slice na m.snaps.length nc] 29)) (.cells ((List.replicate g ByteArray.empty).map Value.string).toArray 9)
    rw [hW0, hz] at this
    rw [rowK_zero]
    exact this
  have b1 : Below (w.heap.size + 1) (w.alloc (.cells #[.slice ba b.length bc, .int .i64 (g : Int), .slice ra m.root.length rc, .slice sa m.slots.length sc, .slice fa m.refs.length fc, .slice na m.snaps.length nc] 29)) W0 := by rw [← hW0, ← hz]; exact (Below.refl _ _).alloc (Nat.le_refl _) _
  have HS : Hid (Stk (w.alloc (.cells #[.slice ba b.length bc, .int .i64 (g : Int), .slice ra m.root.length rc, .slice sa m.slots.length sc, .slice fa m.refs.length fc, .slice na m.snaps.length nc] 29)) (.agg #[.slice ba b.length bc, .int .i64 (g : Int), .slice ra m.root.length rc, .slice sa m.slots.length sc, .slice fa m.refs.length fc, .slice na m.snaps.length nc]) b m) := ⟨_, _, _, _, _, by rw [hg], hS.below b0, by rw [hg]; exact hI.below b0⟩
  have HQ : Hid ((w.alloc (.cells #[.slice ba b.length bc, .int .i64 (g : Int), .slice ra m.root.length rc, .slice sa m.slots.length sc, .slice fa m.refs.length fc, .slice na m.snaps.length nc] 29)).heap[w.heap.size]? = some (.cells #[.slice ba b.length bc, .int .i64 (g : Int), .slice ra m.root.length rc, .slice sa m.slots.length sc, .slice fa m.refs.length fc, .slice na m.snaps.length nc] 29)) := q0
  have HB : Hid (Below w.heap.size w (w.alloc (.cells #[.slice ba b.length bc, .int .i64 (g : Int), .slice ra m.root.length rc, .slice sa m.slots.length sc, .slice fa m.refs.length fc, .slice na m.snaps.length nc] 29)) ∧ (w.alloc (.cells #[.slice ba b.length bc, .int .i64 (g : Int), .slice ra m.root.length rc, .slice sa m.slots.length sc, .slice fa m.refs.length fc, .slice na m.snaps.length nc] 29)).heap.size = w.heap.size + 1) := ⟨b0, hz⟩
  have HC : Hid (scE b m = 0 ∧ m.guest = (g : Int)) := ⟨hC, hg⟩
  clear hS hI hC hg b0 hz q0
  go_enter Try.func28, Try.ntmps28
  go_wp2_with fail
  rw [show (w.alloc (.cells #[.slice ba b.length bc, .int .i64 (g : Int), .slice ra m.root.length rc, .slice sa m.slots.length sc, .slice fa m.refs.length fc, .slice na m.snaps.length nc] 29)).alloc (Obj.cells (Array.replicate g (Value.string ByteArray.empty)) 9) = W0 by rw [← hW0]; simp]
  clear hmk hW0 c0 c1 c2 c3 c4 c5
  go_loopw [5, 6, 7, 14] (fun _ _ _ i wq => ∃ k : Nat, k ≤ g ∧ i = .int .i64 k ∧ SAt wq (w.heap.size + 1) (rowK b m g k) ∧ Below (w.heap.size + 1) (w.alloc (.cells #[.slice ba b.length bc, .int .i64 (g : Int), .slice ra m.root.length rc, .slice sa m.slots.length sc, .slice fa m.refs.length fc, .slice na m.snaps.length nc] 29)) wq) (fun _ _ _ i _ => g - (intOf i).toNat)
  case atStart => exact ⟨0, Nat.zero_le _, rfl, l0, b1⟩
  case round =>
    obtain ⟨k, hk, rfl, hL, hbel⟩ := hrel
    by_cases hlk : k < g
    · have hki : (k : Int) < (g : Int) := by omega
      have hq := cells_below HQ.out hbel (by omega)
      obtain ⟨c0, c1, c2, c3, c4, c5⟩ := six hq
      have hbel' : Below (w.alloc (.cells #[.slice ba b.length bc, .int .i64 (g : Int), .slice ra m.root.length rc, .slice sa m.slots.length sc, .slice fa m.refs.length fc, .slice na m.snaps.length nc] 29)).heap.size (w.alloc (.cells #[.slice ba b.length bc, .int .i64 (g : Int), .slice ra m.root.length rc, .slice sa m.slots.length sc, .slice fa m.refs.length fc, .slice na m.snaps.length nc] 29)) wr := by rw [HB.out.2]; exact hbel
      obtain ⟨p, hp⟩ : ∃ p, srV b m (k : Int) = p := ⟨_, rfl⟩
      have hcall := sk_read (HS.out.below hbel') (k : Int) (sr_in HC.out.1 (by rw [HC.out.2]; exact hki)) hp
      have HP : Hid ((rowK b m g k).set k p = rowK b m g (k + 1)) := by show _ = _; rw [← hp]; exact rowK_set b m g k
      have hfx := hL.frozen k
      have hcx := hL.cell (j := k) (by rw [rowK_length]; exact hlk)
      have hzr := hL.lt
      clear hp hbel'
      go_wp2_with fail
      refine hcall.mono ?_
      rintro e w1 ⟨rfl, b2⟩
      have hL1 := hL.below b2 hzr
      have hfx := hL1.frozen k
      have hcx := hL1.cell (j := k) (by rw [rowK_length]; exact hlk)
      have hb1 : Below (w.heap.size + 1) (w.alloc (.cells #[.slice ba b.length bc, .int .i64 (g : Int), .slice ra m.root.length rc, .slice sa m.slots.length sc, .slice fa m.refs.length fc, .slice na m.snaps.length nc] 29)) w1 := hbel.trans (b2.mono (by omega))
      clear hcall
      go_wp2_with fail
      go_roundw
      case rel => exact ⟨k + 1, by omega, by go_num, by rw [← HP.out]; exact hL1.set k p, hb1.setCell (Nat.le_refl _) _⟩
      case measure => simp [intOf]; omega
    · have e4 : k = g := by omega
      subst e4
      go_wp2_with fail
      go_ret2
      exact ⟨⟨rfl, hL⟩, HB.out.1.trans (hbel.mono (Nat.le_succ _))⟩

def ccE (b : List ByteArray) (m : ImgD) : Int := if scE b m ≠ 0 then scE b m else if m.snaps = [] then 0 else 8
set_option maxHeartbeats 4000000 in
theorem sk_commit_bad (ba : Option Addr) (bc : Nat) (ra : Option Addr) (rc : Nat) (sa : Option Addr) (sc : Nat) (fa : Option Addr) (fc : Nat) (na : Option Addr) (nc : Nat) (b : List ByteArray) (m : ImgD) (w : World) (hS : Ss w (.slice ba b.length bc) b) (hI : Img w (.agg #[.int .i64 m.guest, .slice ra m.root.length rc, .slice sa m.slots.length sc, .slice fa m.refs.length fc, .slice na m.snaps.length nc]) m) (E : Int) (hE : scE b m = E) (hne : (E != 0) = true) :
    Calls Try.prog 9 #[.agg #[.slice ba b.length bc, .int .i64 m.guest, .slice ra m.root.length rc, .slice sa m.slots.length sc, .slice fa m.refs.length fc, .slice na m.snaps.length nc]] w (AnsK w [] imgZ E) := by
  have b0 : Below w.heap.size w ((w.alloc (.cells #[.slice ba b.length bc, .int .i64 m.guest, .slice ra m.root.length rc, .slice sa m.slots.length sc, .slice fa m.refs.length fc, .slice na m.snaps.length nc] 29)).alloc (.cells #[.slice none 0 0, .int .i64 0, .slice none 0 0, .slice none 0 0, .slice none 0 0, .slice none 0 0] 29)) := ((Below.refl _ _).alloc (Nat.le_refl _) _).alloc (by simp) _
  have q0 : ((w.alloc (.cells #[.slice ba b.length bc, .int .i64 m.guest, .slice ra m.root.length rc, .slice sa m.slots.length sc, .slice fa m.refs.length fc, .slice na m.snaps.length nc] 29)).alloc (.cells #[.slice none 0 0, .int .i64 0, .slice none 0 0, .slice none 0 0, .slice none 0 0, .slice none 0 0] 29)).heap[w.heap.size]? = some (.cells #[.slice ba b.length bc, .int .i64 m.guest, .slice ra m.root.length rc, .slice sa m.slots.length sc, .slice fa m.refs.length fc, .slice na m.snaps.length nc] 29) := cells_alloc (World.alloc_heap_new _ _) _
  have r0 : ((w.alloc (.cells #[.slice ba b.length bc, .int .i64 m.guest, .slice ra m.root.length rc, .slice sa m.slots.length sc, .slice fa m.refs.length fc, .slice na m.snaps.length nc] 29)).alloc (.cells #[.slice none 0 0, .int .i64 0, .slice none 0 0, .slice none 0 0, .slice none 0 0, .slice none 0 0] 29)).heap[w.heap.size + 1]? = some (.cells #[.slice none 0 0, .int .i64 0, .slice none 0 0, .slice none 0 0, .slice none 0 0, .slice none 0 0] 29) := by have := World.alloc_heap_new (w.alloc (.cells #[.slice ba b.length bc, .int .i64 m.guest, .slice ra m.root.length rc, .slice sa m.slots.length sc, .slice fa m.refs.length fc, .slice na m.snaps.length nc] 29)) (.cells #[.slice none 0 0, .int .i64 0, .slice none 0 0, .slice none 0 0, .slice none 0 0, .slice none 0 0] 29); simpa using this
  have hz : w.heap.size + 1 < ((w.alloc (.cells #[.slice ba b.length bc, .int .i64 m.guest, .slice ra m.root.length rc, .slice sa m.slots.length sc, .slice fa m.refs.length fc, .slice na m.snaps.length nc] 29)).alloc (.cells #[.slice none 0 0, .int .i64 0, .slice none 0 0, .slice none 0 0, .slice none 0 0, .slice none 0 0] 29)).heap.size := by simp
  have hS1 := hS.below b0
  have hI1 := hI.below b0
  obtain ⟨c0, c1, c2, c3, c4, c5⟩ := six q0
  have hck := sk_check (w := ((w.alloc (.cells #[.slice ba b.length bc, .int .i64 m.guest, .slice ra m.root.length rc, .slice sa m.slots.length sc, .slice fa m.refs.length fc, .slice na m.snaps.length nc] 29)).alloc (.cells #[.slice none 0 0, .int .i64 0, .slice none 0 0, .slice none 0 0, .slice none 0 0, .slice none 0 0] 29))) (v := .agg #[.slice ba b.length bc, .int .i64 m.guest, .slice ra m.root.length rc, .slice sa m.slots.length sc, .slice fa m.refs.length fc, .slice na m.snaps.length nc]) ⟨_, _, _, _, _, rfl, hS1, hI1⟩ hE
  clear hS hI hI1 hS1 hE
  go_enter Try.func9, Try.ntmps9
  go_wp2_with (go_at_call 11; refine hck.mono ?_; rintro e w1 ⟨rfl, b1⟩; have q1 := cells_below q0 b1 (by omega); have r1 := cells_below r0 b1 hz; obtain ⟨d0, d1, d2, d3, d4, d5⟩ := six q1; obtain ⟨x0, x1, x2, x3, x4, x5⟩ := six r1; have y0 := cells_frozen r1 0; have y1 := cells_frozen r1 1; have y2 := cells_frozen r1 2; have y3 := cells_frozen r1 3; have y4 := cells_frozen r1 4; have y5 := cells_frozen r1 5)
  refine bodyPost_ret (v := .tuple #[.agg #[.slice none 0 0, .int .i64 0, .slice none 0 0, .slice none 0 0, .slice none 0 0, .slice none 0 0], .int .i64 E]) (by simp [results, Try.results9, go_sem, x0, x1, x2, x3, x4, x5]) rfl ⟨_, rfl, Stk.zero _, six_below (Below.on b0 b1) _ _ _ _ _ _⟩
set_option maxHeartbeats 4000000 in
theorem sk_commit_busy (ba : Option Addr) (bc : Nat) (ra : Option Addr) (rc : Nat) (sa : Option Addr) (sc : Nat) (fa : Option Addr) (fc : Nat) (na : Option Addr) (nc : Nat) (b : List ByteArray) (m : ImgD) (w : World) (hS : Ss w (.slice ba b.length bc) b) (hI : Img w (.agg #[.int .i64 m.guest, .slice ra m.root.length rc, .slice sa m.slots.length sc, .slice fa m.refs.length fc, .slice na m.snaps.length nc]) m) (hE : scE b m = 0) (hne : decide (0 < m.snaps.length) = true) :
    Calls Try.prog 9 #[.agg #[.slice ba b.length bc, .int .i64 m.guest, .slice ra m.root.length rc, .slice sa m.slots.length sc, .slice fa m.refs.length fc, .slice na m.snaps.length nc]] w (AnsK w [] imgZ 8) := by
  have b0 : Below w.heap.size w ((w.alloc (.cells #[.slice ba b.length bc, .int .i64 m.guest, .slice ra m.root.length rc, .slice sa m.slots.length sc, .slice fa m.refs.length fc, .slice na m.snaps.length nc] 29)).alloc (.cells #[.slice none 0 0, .int .i64 0, .slice none 0 0, .slice none 0 0, .slice none 0 0, .slice none 0 0] 29)) := ((Below.refl _ _).alloc (Nat.le_refl _) _).alloc (by simp) _
  have q0 : ((w.alloc (.cells #[.slice ba b.length bc, .int .i64 m.guest, .slice ra m.root.length rc, .slice sa m.slots.length sc, .slice fa m.refs.length fc, .slice na m.snaps.length nc] 29)).alloc (.cells #[.slice none 0 0, .int .i64 0, .slice none 0 0, .slice none 0 0, .slice none 0 0, .slice none 0 0] 29)).heap[w.heap.size]? = some (.cells #[.slice ba b.length bc, .int .i64 m.guest, .slice ra m.root.length rc, .slice sa m.slots.length sc, .slice fa m.refs.length fc, .slice na m.snaps.length nc] 29) := cells_alloc (World.alloc_heap_new _ _) _
  have r0 : ((w.alloc (.cells #[.slice ba b.length bc, .int .i64 m.guest, .slice ra m.root.length rc, .slice sa m.slots.length sc, .slice fa m.refs.length fc, .slice na m.snaps.length nc] 29)).alloc (.cells #[.slice none 0 0, .int .i64 0, .slice none 0 0, .slice none 0 0, .slice none 0 0, .slice none 0 0] 29)).heap[w.heap.size + 1]? = some (.cells #[.slice none 0 0, .int .i64 0, .slice none 0 0, .slice none 0 0, .slice none 0 0, .slice none 0 0] 29) := by have := World.alloc_heap_new (w.alloc (.cells #[.slice ba b.length bc, .int .i64 m.guest, .slice ra m.root.length rc, .slice sa m.slots.length sc, .slice fa m.refs.length fc, .slice na m.snaps.length nc] 29)) (.cells #[.slice none 0 0, .int .i64 0, .slice none 0 0, .slice none 0 0, .slice none 0 0, .slice none 0 0] 29); simpa using this
  have hz : w.heap.size + 1 < ((w.alloc (.cells #[.slice ba b.length bc, .int .i64 m.guest, .slice ra m.root.length rc, .slice sa m.slots.length sc, .slice fa m.refs.length fc, .slice na m.snaps.length nc] 29)).alloc (.cells #[.slice none 0 0, .int .i64 0, .slice none 0 0, .slice none 0 0, .slice none 0 0, .slice none 0 0] 29)).heap.size := by simp
  have hS1 := hS.below b0
  have hI1 := hI.below b0
  obtain ⟨c0, c1, c2, c3, c4, c5⟩ := six q0
  have hck := sk_check (w := ((w.alloc (.cells #[.slice ba b.length bc, .int .i64 m.guest, .slice ra m.root.length rc, .slice sa m.slots.length sc, .slice fa m.refs.length fc, .slice na m.snaps.length nc] 29)).alloc (.cells #[.slice none 0 0, .int .i64 0, .slice none 0 0, .slice none 0 0, .slice none 0 0, .slice none 0 0] 29))) (v := .agg #[.slice ba b.length bc, .int .i64 m.guest, .slice ra m.root.length rc, .slice sa m.slots.length sc, .slice fa m.refs.length fc, .slice na m.snaps.length nc]) ⟨_, _, _, _, _, rfl, hS1, hI1⟩ hE
  clear hS hI hI1 hS1 hE
  go_enter Try.func9, Try.ntmps9
  go_wp2_with (go_at_call 11; refine hck.mono ?_; rintro e w1 ⟨rfl, b1⟩; have q1 := cells_below q0 b1 (by omega); have r1 := cells_below r0 b1 hz; obtain ⟨d0, d1, d2, d3, d4, d5⟩ := six q1; obtain ⟨x0, x1, x2, x3, x4, x5⟩ := six r1; have y0 := cells_frozen r1 0; have y1 := cells_frozen r1 1; have y2 := cells_frozen r1 2; have y3 := cells_frozen r1 3; have y4 := cells_frozen r1 4; have y5 := cells_frozen r1 5)
  refine bodyPost_ret (v := .tuple #[.agg #[.slice none 0 0, .int .i64 0, .slice none 0 0, .slice none 0 0, .slice none 0 0, .slice none 0 0], .int .i64 8]) (by simp [results, Try.results9, go_sem, x0, x1, x2, x3, x4, x5]) rfl ⟨_, rfl, Stk.zero _, six_below (Below.on b0 b1) _ _ _ _ _ _⟩
set_option maxHeartbeats 4000000 in
theorem sk_commit_ok (ba : Option Addr) (bc : Nat) (ra : Option Addr) (rc : Nat) (sa : Option Addr) (sc : Nat) (fa : Option Addr) (fc : Nat) (na : Option Addr) (nc : Nat) (b : List ByteArray) (m : ImgD) (g : Nat) (w : World) (hS : Ss w (.slice ba b.length bc) b) (hI : Img w (.agg #[.int .i64 (g : Int), .slice ra m.root.length rc, .slice sa m.slots.length sc, .slice fa m.refs.length fc, .slice na m.snaps.length nc]) m) (hE : scE b m = 0) (hsn : decide (0 < m.snaps.length) = false) (hg : m.guest = (g : Int)) (hg16 : g ≤ 16) (M : ImgD) (hM : freshD g = M) :
    Calls Try.prog 9 #[.agg #[.slice ba b.length bc, .int .i64 (g : Int), .slice ra m.root.length rc, .slice sa m.slots.length sc, .slice fa m.refs.length fc, .slice na m.snaps.length nc]] w (AnsK w (rowK b m g g) M 0) := by
  have b0 : Below w.heap.size w ((w.alloc (.cells #[.slice ba b.length bc, .int .i64 (g : Int), .slice ra m.root.length rc, .slice sa m.slots.length sc, .slice fa m.refs.length fc, .slice na m.snaps.length nc] 29)).alloc (.cells #[.slice none 0 0, .int .i64 0, .slice none 0 0, .slice none 0 0, .slice none 0 0, .slice none 0 0] 29)) := ((Below.refl _ _).alloc (Nat.le_refl _) _).alloc (by simp) _
  have q0 : ((w.alloc (.cells #[.slice ba b.length bc, .int .i64 (g : Int), .slice ra m.root.length rc, .slice sa m.slots.length sc, .slice fa m.refs.length fc, .slice na m.snaps.length nc] 29)).alloc (.cells #[.slice none 0 0, .int .i64 0, .slice none 0 0, .slice none 0 0, .slice none 0 0, .slice none 0 0] 29)).heap[w.heap.size]? = some (.cells #[.slice ba b.length bc, .int .i64 (g : Int), .slice ra m.root.length rc, .slice sa m.slots.length sc, .slice fa m.refs.length fc, .slice na m.snaps.length nc] 29) := cells_alloc (World.alloc_heap_new _ _) _
  have r0 : ((w.alloc (.cells #[.slice ba b.length bc, .int .i64 (g : Int), .slice ra m.root.length rc, .slice sa m.slots.length sc, .slice fa m.refs.length fc, .slice na m.snaps.length nc] 29)).alloc (.cells #[.slice none 0 0, .int .i64 0, .slice none 0 0, .slice none 0 0, .slice none 0 0, .slice none 0 0] 29)).heap[w.heap.size + 1]? = some (.cells #[.slice none 0 0, .int .i64 0, .slice none 0 0, .slice none 0 0, .slice none 0 0, .slice none 0 0] 29) := by have := World.alloc_heap_new (w.alloc (.cells #[.slice ba b.length bc, .int .i64 (g : Int), .slice ra m.root.length rc, .slice sa m.slots.length sc, .slice fa m.refs.length fc, .slice na m.snaps.length nc] 29)) (.cells #[.slice none 0 0, .int .i64 0, .slice none 0 0, .slice none 0 0, .slice none 0 0, .slice none 0 0] 29); simpa using this
  have hz : w.heap.size + 1 < ((w.alloc (.cells #[.slice ba b.length bc, .int .i64 (g : Int), .slice ra m.root.length rc, .slice sa m.slots.length sc, .slice fa m.refs.length fc, .slice na m.snaps.length nc] 29)).alloc (.cells #[.slice none 0 0, .int .i64 0, .slice none 0 0, .slice none 0 0, .slice none 0 0, .slice none 0 0] 29)).heap.size := by simp
  have hS1 := hS.below b0
  have hI1 := hI.below b0
  obtain ⟨c0, c1, c2, c3, c4, c5⟩ := six q0
  have hck := sk_check (w := ((w.alloc (.cells #[.slice ba b.length bc, .int .i64 (g : Int), .slice ra m.root.length rc, .slice sa m.slots.length sc, .slice fa m.refs.length fc, .slice na m.snaps.length nc] 29)).alloc (.cells #[.slice none 0 0, .int .i64 0, .slice none 0 0, .slice none 0 0, .slice none 0 0, .slice none 0 0] 29))) (v := .agg #[.slice ba b.length bc, .int .i64 (g : Int), .slice ra m.root.length rc, .slice sa m.slots.length sc, .slice fa m.refs.length fc, .slice na m.snaps.length nc]) ⟨_, _, _, _, _, by rw [hg], hS1, by rw [hg]; exact hI1⟩ hE
  have HP : Hid (∀ w1, Below ((w.alloc (.cells #[.slice ba b.length bc, .int .i64 (g : Int), .slice ra m.root.length rc, .slice sa m.slots.length sc, .slice fa m.refs.length fc, .slice na m.snaps.length nc] 29)).alloc (.cells #[.slice none 0 0, .int .i64 0, .slice none 0 0, .slice none 0 0, .slice none 0 0, .slice none 0 0] 29)).heap.size ((w.alloc (.cells #[.slice ba b.length bc, .int .i64 (g : Int), .slice ra m.root.length rc, .slice sa m.slots.length sc, .slice fa m.refs.length fc, .slice na m.snaps.length nc] 29)).alloc (.cells #[.slice none 0 0, .int .i64 0, .slice none 0 0, .slice none 0 0, .slice none 0 0, .slice none 0 0] 29)) w1 → Calls Try.prog 28 #[.agg #[.slice ba b.length bc, .int .i64 (g : Int), .slice ra m.root.length rc, .slice sa m.slots.length sc, .slice fa m.refs.length fc, .slice na m.snaps.length nc]] w1 fun r w' => (r = .returned (.tuple #[.slice (some ⟨w1.heap.size + 1, 0, none⟩) g g, .int .i64 0]) ∧ SAt w' (w1.heap.size + 1) (rowK b m g g)) ∧ Below w1.heap.size w1 w') := fun w1 b1 => sk_pages_at ba bc ra rc sa sc fa fc na nc b m g w1 (hS1.below b1) (hI1.below b1) hE hg hg16
  have hMg : M.guest = (g : Int) := by rw [← hM]; rfl
  have HF : Hid (∀ w2, Calls Try.prog 29 #[.int .i64 (g : Int)] w2 (AnsI w2 w2.heap.size M 0)) := fun w2 => fresh_is (g : Int) w2 ((frs_is g hg16).1.trans hM) (frs_is g hg16).2.1
  have HG : Hid (M.guest = (g : Int)) := hMg
  clear hS hI hI1 hS1 hE hg hM hMg
  go_enter Try.func9, Try.ntmps9
  go_wp2_with (first
    | (go_at_call 29; refine (HF.out w2).mono ?_; intro e w3 hA; obtain ⟨val, g0, k0, g1, k1, g2, k2, g3, k3, rfl, hO, b3, hI⟩ := hA.open; rw [HG.out] at hI ⊢; have r3 := cells_alloc (cells_below r2 b3 (by have := b1.size; have := b2.size; omega)) (.cells #[.int .i64 (g : Int), .slice g0 M.root.length k0, .slice g1 M.slots.length k1, .slice g2 M.refs.length k2, .slice g3 M.snaps.length k3] 27); have m3 : (w3.alloc (.cells #[.int .i64 (g : Int), .slice g0 M.root.length k0, .slice g1 M.slots.length k1, .slice g2 M.refs.length k2, .slice g3 M.snaps.length k3] 27)).heap[w3.heap.size]? = some (.cells #[.int .i64 (g : Int), .slice g0 M.root.length k0, .slice g1 M.slots.length k1, .slice g2 M.refs.length k2, .slice g3 M.snaps.length k3] 27) := World.alloc_heap_new _ _; obtain ⟨u0, u1, u2, u3, u4, u5⟩ := six r3; have v0 := cells_frozen r3 0; have v1 := cells_frozen r3 1; have v2 := cells_frozen r3 2; have v3 := cells_frozen r3 3; have v4 := cells_frozen r3 4; have v5 := cells_frozen r3 5; obtain ⟨n0, n1, n2, n3, n4⟩ := five m3)
    | (go_at_call 28; refine (HP.out w1 b1).mono ?_; rintro e w2 ⟨⟨rfl, hL⟩, b2⟩; have q2 := cells_below q1 b2 (by have := b1.size; omega); have r2 := cells_below r1 b2 (by have := b1.size; omega); obtain ⟨e0, e1, e2, e3, e4, e5⟩ := six q2; have HL : Hid (SAt w2 (w1.heap.size + 1) (rowK b m g g)) := hL)
    | (go_at_call 11; refine hck.mono ?_; rintro e w1 ⟨rfl, b1⟩; have q1 := cells_below q0 b1 (by omega); have r1 := cells_below r0 b1 hz; obtain ⟨d0, d1, d2, d3, d4, d5⟩ := six q1; obtain ⟨x0, x1, x2, x3, x4, x5⟩ := six r1; have y0 := cells_frozen r1 0; have y1 := cells_frozen r1 1; have y2 := cells_frozen r1 2; have y3 := cells_frozen r1 3; have y4 := cells_frozen r1 4; have y5 := cells_frozen r1 5))
  have hs1 := b1.size
  have hs2 := b2.size
  have hs3 := b3.size
  have hO4 : OI (w3.alloc (.cells #[.int .i64 (g : Int), .slice g0 M.root.length k0, .slice g1 M.slots.length k1, .slice g2 M.refs.length k2, .slice g3 M.snaps.length k3] 27)) w2.heap.size val M := hO.alloc _
  have hfr : ∀ a, Live M a → (val a).ownBlock ≠ some (w.heap.size + 1) := fun a ha e => by
    have := ((hO4.row a ha).lt _ e).1
    omega
  have hImg := fun a0 a1 a2 a3 a4 a5 => (OI.six (w := w) hO4 hfr a0 a1 a2 a3 a4 a5).img
  have hL4 := cells_alloc (hL.below b3 hL.lt) (.cells #[.int .i64 (g : Int), .slice g0 M.root.length k0, .slice g1 M.slots.length k1, .slice g2 M.refs.length k2, .slice g3 M.snaps.length k3] 27)
  have hL5 := fun a0 a1 a2 a3 a4 a5 => SAt.ss (n := g) ((heap_six (w := w) (W := w3.alloc (.cells #[.int .i64 (g : Int), .slice g0 M.root.length k0, .slice g1 M.slots.length k1, .slice g2 M.refs.length k2, .slice g3 M.snaps.length k3] 27)) a0 a1 a2 a3 a4 a5 (w1.heap.size + 1) (by omega)).trans hL4) (rowK_length b m g g) (by unfold maxLen; omega)
  refine bodyPost_ret (v := .tuple #[.agg #[.slice (some ⟨w1.heap.size + 1, 0, none⟩) g g, .int .i64 (g : Int), .slice g0 M.root.length k0, .slice g1 M.slots.length k1, .slice g2 M.refs.length k2, .slice g3 M.snaps.length k3], .int .i64 0]) (by simp [results, Try.results9, go_sem, u0, u1, u2, u3, u4, u5]) rfl ⟨_, rfl, ⟨_, _, _, _, _, by rw [HG.out], hL5 _ _ _ _ _ _, (by have e := hImg; simp only [HG.out, hI] at e; rw [HG.out]; exact e _ _ _ _ _ _)⟩, six_below (((Below.on (Below.on (Below.on b0 b1) b2) b3)).alloc (by omega) _) _ _ _ _ _ _⟩
theorem sk_commit {w : World} {v : Value} {b : List ByteArray} {m : ImgD} (h : Stk w v b m) {B : List ByteArray} {M : ImgD} {E : Int} (hE : ccE b m = E) (hB : (if ccE b m = 0 then pgs b m else []) = B) (hM : (if ccE b m = 0 then freshD m.guest.toNat else imgZ) = M) : Calls Try.prog 9 #[v] w (AnsK w B M E) := by
  subst hE hB hM
  obtain ⟨ba, bc, ra, rc, sa, sc, fa, fc, na, nc, rfl, hS, hI⟩ := h.parts
  by_cases hC : scE b m = 0
  · by_cases hn : m.snaps = []
    · have e1 : ccE b m = 0 := by unfold ccE; rw [if_neg (by simpa using hC), if_pos hn]
      have hg := guest_ok (checkE_shape (scE_zero hC).2)
      obtain ⟨g, hgg⟩ : ∃ g : Nat, m.guest = (g : Int) := ⟨m.guest.toNat, by omega⟩
      rw [e1, if_pos rfl, if_pos rfl]
      have e2 : pgs b m = rowK b m g g := by rw [rowK_end]; unfold pgs; rw [hgg, Int.toNat_natCast]
      rw [e2, hgg, Int.toNat_natCast]
      rw [hgg] at hI
      exact sk_commit_ok ba bc ra rc sa sc fa fc na nc b m g w hS hI hC (by rw [hn]; rfl) hgg (by omega) _ rfl
    · have e1 : ccE b m = 8 := by unfold ccE; rw [if_neg (by simpa using hC), if_neg hn]
      rw [e1, if_neg (by decide), if_neg (by decide)]
      exact sk_commit_busy ba bc ra rc sa sc fa fc na nc b m w hS hI hC (by have := List.length_pos_iff.2 hn; simp [this])
  · have e1 : ccE b m = scE b m := by unfold ccE; rw [if_pos hC]
    rw [e1, if_neg hC, if_neg hC]
    exact sk_commit_bad ba bc ra rc sa sc fa fc na nc b m w hS hI _ rfl (by simpa using hC)

end Go.Proofs.Ytehleeibgkpjmaf
/- Counting slots. Plain lists. -/
namespace Go.Proofs.Ytehleeibgkpjmaf
open Go.RowKit Go.Shelf
theorem used_kd (L : List SlotD) : usedN L = (List.range L.length).countP (fun j => kd L j != 0) := by
  unfold usedN
  have hl : L = (List.range L.length).map (fun j => L.getD j default) := by
    apply List.ext_getElem
    · simp
    · intro j h1 h2; simp [List.getD, h1]
  conv => lhs; rw [hl]
  rw [List.countP_map]
  rfl
theorem count_set_one {l : List Int} {k : Nat} {t : Int} (hk : k < l.length) (h : ∀ i, i < l.length → i ≠ k → l.getD i 0 ≠ t) : (l.set k t).count t = 1 := by
  have h1 : t ∈ l.set k t := List.mem_iff_getElem.2 ⟨k, by rw [List.length_set]; exact hk, by simp⟩
  have hpos := List.count_pos_iff.2 h1
  rcases Nat.lt_or_ge 1 ((l.set k t).count t) with hgt | hle
  · exfalso
    have e : (l.set k t).count t = (l.eraseIdx k).count t + 1 := by
      rw [List.set_eq_take_append_cons_drop, if_pos hk, List.count_append, List.count_cons_self, List.eraseIdx_eq_take_drop_succ, List.count_append]
      omega
    have h2 : 0 < (l.eraseIdx k).count t := by omega
    obtain ⟨i, hi, ei⟩ := List.mem_iff_getElem.1 (List.count_pos_iff.1 h2)
    rw [List.getElem_eraseIdx] at ei
    have hlen : (l.eraseIdx k).length = l.length - 1 := by rw [List.length_eraseIdx, if_pos hk]
    split at ei
    · rename_i hik
      exact h i (by omega) (by omega) (by simp [List.getD, show i < l.length by omega, ei])
    · rename_i hik
      exact h (i + 1) (by omega) (by omega) (by simp [List.getD, show i + 1 < l.length by omega, ei])
  · omega
theorem count_none {l : List Int} {t : Int} (h : t ∉ l) : l.count t = 0 := List.count_eq_zero.2 h
theorem used_setP {L : List SlotD} {e : Nat} {page : ByteArray} (hk : kd L e = 1) : usedN (L.set e (1, page, [])) = usedN L := by
  rw [used_kd, used_kd, List.length_set]
  refine List.countP_congr fun j _ => ?_
  rw [kd_setP hk]
end Go.Proofs.Ytehleeibgkpjmaf
/- Writing, in numbers: how the counts change, and how many slots a write takes. Plain lists. -/
namespace Go.Proofs.Ytehleeibgkpjmaf
open Go.RowKit Go.Shelf
theorem root_natG {m : ImgD} (hs : shapeE m = 0) {r : Nat} (hr : r < m.root.length) : ∃ t : Nat, m.root.getD r 0 = (t : Int) ∧ t < m.slots.length := by
  have hro := root_ok hs
  have hm : m.root.getD r 0 ∈ m.root := by simp [List.getD, hr]
  have hE := List.all_eq_true.1 hro.2 _ hm
  have hp := slotsE_parts (shapeE_zero hs).2.1
  by_cases h0 : m.root.getD r 0 = 0
  · exact ⟨0, h0, by omega⟩
  · unfold rootE at hE
    have hk : isKd m.slots (m.root.getD r 0) 2 = true := by
      cases hx : isKd m.slots (m.root.getD r 0) 2 with
      | true => rfl
      | false => rw [hx] at hE; simp at hE; exact absurd hE h0
    obtain ⟨j, hj, hjl, _⟩ := isKd_yes hk
    exact ⟨j, hj, hjl⟩
theorem sum_at {f g : Nat → Nat} {k : Nat} : ∀ n, k < n → (∀ j, j ≠ k → g j = f j) → ((List.range n).map g).sum + f k = ((List.range n).map f).sum + g k
  | 0, h, _ => absurd h (by omega)
  | n + 1, h, ho => by
    rw [List.range_succ, List.map_append, List.map_append, List.sum_append, List.sum_append]
    by_cases e : k = n
    · subst e
      have : (List.range k).map g = (List.range k).map f := List.map_congr_left fun j hj => ho j (by have := List.mem_range.1 hj; omega)
      rw [this]; simp; omega
    · have := sum_at n (by omega) ho
      simp [ho n (fun x => e x.symm)]; omega
theorem sum_pad {f : Nat → Nat} {n : Nat} : ∀ d, (∀ j, n ≤ j → f j = 0) → ((List.range (n + d)).map f).sum = ((List.range n).map f).sum
  | 0, _ => rfl
  | d + 1, h => by rw [← Nat.add_assoc, List.range_succ, List.map_append, List.sum_append, sum_pad d h]; simp [h (n + d) (by omega)]
def tC (m : ImgD) (x : Nat) : Nat := (flatR m).count (x : Int)
def pC (m : ImgD) (x : Nat) : Nat := sumT m.slots (flatR m) (x : Int)
theorem pC_40 {m : ImgD} (hl : m.slots.length ≤ 40) (x : Nat) : pC m x = ((List.range 40).map (toldT m.slots (flatR m) (x : Int))).sum := by
  have := sum_pad (f := toldT m.slots (flatR m) (x : Int)) (n := m.slots.length) (40 - m.slots.length) (fun j hj => by
    unfold toldT
    rw [if_neg]
    rintro ⟨h, _⟩
    have := kd_lt (L := m.slots) (j := j) (by rw [h]; decide)
    omega)
  rw [Nat.add_sub_cancel' hl] at this
  exact this.symm
theorem kd_one {m : ImgD} (h : shapeE m = 0) {x : Nat} (hk : kd m.slots x ≠ 0) : 1 ≤ x ∧ x < m.slots.length := by
  refine ⟨?_, kd_lt hk⟩
  rcases Nat.eq_zero_or_pos x with e | e
  · rw [e] at hk; exact absurd (slot0 (shapeE_zero h).2.1) hk
  · exact e
theorem kd_cases {L : List SlotD} (h : slotsE L = 0) {j : Nat} (hj : j < L.length) : kd L j = 0 ∨ kd L j = 1 ∨ kd L j = 2 := by
  have := slotsE_all h hj
  rw [← kd_getElem hj]
  unfold okD slotOK at this
  split at this
  · left; assumption
  · split at this
    · right; left; assumption
    · split at this
      · right; right; assumption
      · cases this
theorem cnt_tab {m : ImgD} (h : shapeE m = 0) {x : Nat} (hk : kd m.slots x = 2) : (cntL m).getD x 0 = (tC m x : Int) := by
  obtain ⟨h1, hx⟩ := kd_one h (x := x) (by rw [hk]; decide)
  rw [cntL_get h x hx]
  unfold cntI tC
  rw [if_neg (by omega), sumT_no (shapeE_zero h).2.2.2.2.2.1 _ h1 (by rw [hk]; decide), Nat.add_zero]
theorem tC_none {m : ImgD} (h : shapeE m = 0) {x : Nat} (h1 : 1 ≤ x) (hk : kd m.slots x ≠ 2) : tC m x = 0 :=
  count_none (fun hm => hk (told_root h hm h1).2.1)
theorem pC_none {m : ImgD} (h : shapeE m = 0) {x : Nat} (h1 : 1 ≤ x) (hk : kd m.slots x ≠ 1) : pC m x = 0 :=
  sumT_no (shapeE_zero h).2.2.2.2.2.1 _ h1 hk
theorem cnt_page {m : ImgD} (h : shapeE m = 0) {x : Nat} (hk : kd m.slots x = 1) : (cntL m).getD x 0 = (pC m x : Int) := by
  obtain ⟨h1, hx⟩ := kd_one h (x := x) (by rw [hk]; decide)
  rw [cntL_get h x hx]
  have h0 := tC_none h h1 (by rw [hk]; decide)
  unfold tC at h0
  unfold cntI pC
  rw [if_neg (by omega), h0, Nat.zero_add]
theorem count_setI (a x : Int) : ∀ (l : List Int) (i : Nat), i < l.length → (l.set i a).count x + (if l.getD i 0 = x then 1 else 0) = l.count x + (if a = x then 1 else 0)
  | [], i, h => absurd h (by simp)
  | b :: l, 0, _ => by
    simp only [List.set_cons_zero, List.count_cons, beq_iff_eq, List.getD_cons_zero]
    omega
  | b :: l, i + 1, h => by
    have := count_setI a x l i (by simpa using h)
    simp only [List.set_cons_succ, List.count_cons, beq_iff_eq, List.getD_cons_succ]
    omega
theorem flatR_cd (m : ImgD) : flatR (countedD m) = flatR m := rfl
theorem pC_counted {m : ImgD} (h : shapeE m = 0) {x : Nat} (h1 : 1 ≤ x) (hx : x < m.slots.length) : pC (countedD m) x = pC m x := by
  have e1 := cntL_get (counted_shape h) x (by show x < (freeUn _ _).length; rw [freeUn_length]; exact hx)
  have e2 := cntL_get h x hx
  rw [counted_cnt h, e2] at e1
  unfold cntI at e1
  rw [if_neg (by omega), if_neg (by omega), flatR_cd] at e1
  unfold pC
  rw [flatR_cd]
  omega

/-! ### What a write takes -/
def lo (m : ImgD) (n : Nat) : Bool := m.root.getD (n / 4) 0 != 0 && tC m (m.root.getD (n / 4) 0).toNat == 1
def so (m : ImgD) (n : Nat) : Bool := decide (0 < lookV m m.root n) && pC m (lookV m m.root n).toNat == 1
def need (m : ImgD) (n : Nat) : Nat := if lo m n = true then (if so m n = true then 0 else 1) else 2

theorem root_facts {m : ImgD} (hC : checkE m = 0) {k : Nat} (hk : k < m.root.length) : ∃ t : Nat, m.root.getD k 0 = (t : Int) ∧ (t = 0 ∨ (1 ≤ t ∧ kd m.slots t = 2 ∧ 1 ≤ tC m t ∧ m.refs.getD t 0 = (tC m t : Int))) := by
  obtain ⟨hs, hr, _⟩ := checkE_zero hC
  obtain ⟨t, ht, _⟩ := root_natG hs hk
  refine ⟨t, ht, ?_⟩
  rcases Nat.eq_zero_or_pos t with e | e
  · exact .inl e
  · have hm : (t : Int) ∈ flatR m := by
      rw [flatR_app, ← ht, getD_at hk]
      exact List.mem_append_left _ (List.getElem_mem hk)
    have h2 := (told_root hs hm e).2.1
    refine .inr ⟨e, h2, List.count_pos_iff.2 hm, ?_⟩
    rw [← hr]; exact cnt_tab hs h2
theorem look_facts {m : ImgD} (hC : checkE m = 0) {n : Nat} (hk : n / 4 < m.root.length) : lookV m m.root n ≤ 0 ∨ ∃ e : Nat, lookV m m.root n = (e : Int) ∧ 1 ≤ e ∧ kd m.slots e = 1 ∧ m.refs.getD e 0 = (pC m e : Int) := by
  obtain ⟨hs, hr, _⟩ := checkE_zero hC
  obtain ⟨ock, oent⟩ := tableO_ok hs hk
  rw [lookV_tableO]
  have h4 : n % 4 < (tableO m (n / 4)).length := by rw [ckE_len ock]; omega
  have hmem : (tableO m (n / 4)).getD (n % 4) 0 ∈ tableO m (n / 4) := by rw [getD_at h4]; exact List.getElem_mem h4
  rcases tabE_cases (oent _ hmem) with e | e | ⟨j, e, _, hkj⟩
  · left; omega
  · left; omega
  · right
    refine ⟨j, e, (kd_one hs (by rw [hkj]; decide)).1, hkj, ?_⟩
    rw [← hr]; exact cnt_page hs hkj
theorem lo_inPl {m : ImgD} (hC : checkE m = 0) {n : Nat} (hk : n / 4 < m.root.length) : lo m n = inPl m (n / 4) := by
  obtain ⟨t, ht, h⟩ := root_facts hC hk
  unfold lo inPl
  rw [ht, Int.toNat_natCast]
  rcases h with h | ⟨_, _, _, h⟩
  · subst h; rfl
  · rw [h]
    congr 1
    rw [Bool.eq_iff_iff]; simp only [beq_iff_eq]; omega
theorem so_wInPl {m : ImgD} (hC : checkE m = 0) {n : Nat} (hk : n / 4 < m.root.length) : wInPl m n = (lo m n && so m n) := by
  rw [lo_inPl hC hk]
  unfold wInPl so
  rcases look_facts hC hk with h | ⟨e, he, h1, _, h2⟩
  · rw [show decide (0 < lookV m m.root n) = false by simp; omega]; simp
  · rw [he, Int.toNat_natCast, h2, show decide (0 < (e : Int)) = true by simp; omega, Bool.true_and, Bool.true_and]
    congr 1
    rw [Bool.eq_iff_iff]; simp only [beq_iff_eq]; omega
/-! ### Used slots -/
theorem used_lay {L : List SlotD} {n : Nat} {s : SlotD} (hn : n ≤ L.length) (hs : s.1 ≠ 0) : usedN (layS L n s) = usedN L + (if kd L n = 0 then 1 else 0) := by
  unfold layS
  by_cases e : n = L.length
  · rw [if_pos e]
    have : kd L n = 0 := by unfold kd; rw [e]; simp [List.getD]; rfl
    rw [if_pos this]
    unfold usedN
    rw [List.countP_append, List.countP_cons]
    simp [hs]
  · rw [if_neg e]
    have hl : n < L.length := by omega
    unfold usedN
    rw [List.countP_set hl]
    have hle : (if (L[n].1 != 0) = true then 1 else 0) ≤ L.countP (fun s => s.1 != 0) := List.boole_getElem_le_countP (p := fun s : SlotD => s.1 != 0) hl
    rw [kd_getElem hl] at hle ⊢
    simp only [hs, bne_iff_ne, ne_eq, not_false_eq_true, if_true]
    by_cases hk : kd L n = 0
    · simp [hk]
    · rw [if_neg hk]
      simp only [bne_iff_ne, ne_eq, hk, not_false_eq_true, if_true] at hle ⊢
      omega
end Go.Proofs.Ytehleeibgkpjmaf
/- Writing, in numbers, on: what a write turns; two writes, whichever comes first. Plain lists. -/
namespace Go.Proofs.Ytehleeibgkpjmaf
open Go.RowKit Go.Shelf
set_option maxRecDepth 20000
set_option linter.unusedVariables false

theorem ite_cast (a b : Nat) : (if a = b then 1 else 0 : Nat) = (if (a : Int) = (b : Int) then 1 else 0) := by
  by_cases e : a = b
  · rw [if_pos e, if_pos (by omega)]
  · rw [if_neg e, if_neg (by omega)]
/-- What a write turns, in numbers: t the table that the page's entry lies in then, d the page's slot. -/
structure Step (m A : ImgD) (n t d : Nat) : Prop where
  right : checkE A = 0
  guest : A.guest = m.guest
  rlen : A.root.length = m.root.length
  root : ∀ j, j < m.root.length → A.root.getD j 0 = if j = n / 4 then (t : Int) else m.root.getD j 0
  look : ∀ q, q / 4 < m.root.length → q ≠ n → lookV A A.root q = lookV m m.root q
  t1 : 1 ≤ t
  tlone : lo m n = true → m.root.getD (n / 4) 0 = (t : Int)
  tfresh : lo m n = false → tC m t = 0
  dsame : lo m n = true → so m n = true → lookV m m.root n = (d : Int)
  dfresh : ¬ (lo m n = true ∧ so m n = true) → pC m d = 0
  tc : ∀ x : Nat, 1 ≤ x → tC A x + (if m.root.getD (n / 4) 0 = (x : Int) then 1 else 0) = tC m x + (if t = x then 1 else 0)
  pc : ∀ x : Nat, 1 ≤ x → x < m.slots.length → pC A x + (if lookV m m.root n = (x : Int) then 1 else 0) = pC m x + (if lo m n = true then 0 else (tableO m (n / 4)).count (x : Int)) + (if d = x then 1 else 0)
  used : usedN A.slots = usedN m.slots + need m n

theorem step_in {m : ImgD} (hC : checkE m = 0) {n : Nat} (hn : (n : Int) < m.guest) {page : ByteArray} (hp : page.size = 4) (hi : wInPl m n = true) :
    ∃ t d, Step m { m with slots := m.slots.set (lookV m m.root n).toNat (1, page, []) } n t d := by
  have hs := checkE_shape hC
  have hr := root_ok hs
  have hg := guest_ok hs
  have hk : n / 4 < m.root.length := by omega
  have hw := so_wInPl hC hk
  rw [hi] at hw
  have hw' : lo m n = true ∧ so m n = true := by simpa using hw.symm
  obtain ⟨t, ht, hT⟩ := root_facts hC hk
  have hpos : 0 < lookV m m.root n := by have := hw'.2; unfold so at this; simp at this; exact this.1
  rcases look_facts hC hk with h | ⟨e, he, e1, hke, _⟩
  · omega
  have t1 : 1 ≤ t := by
    have := hw'.1
    unfold lo at this
    rw [ht] at this
    simp at this
    omega
  rw [he, Int.toNat_natCast]
  obtain ⟨hright, hlook⟩ := setP_same (page := page) hC hke hp
  have hrf : cntL { m with slots := m.slots.set e (1, page, []) } = m.refs := (checkE_zero hright).2.1
  have hpc : ∀ x : Nat, 1 ≤ x → x < m.slots.length → pC { m with slots := m.slots.set e (1, page, []) } x = pC m x := fun x x1 xl => by
    have a1 := cntL_get (checkE_shape hright) x (by show x < (m.slots.set e _).length; rw [List.length_set]; exact xl)
    have a2 := cntL_get hs x xl
    rw [hrf] at a1
    rw [(checkE_zero hC).2.1, a1] at a2
    unfold cntI at a2
    rw [if_neg (by omega), if_neg (by omega)] at a2
    have hfl : flatR { m with slots := m.slots.set e (1, page, []) } = flatR m := rfl
    rw [hfl] at a2
    unfold pC
    rw [hfl]
    omega
  refine ⟨t, e, ⟨hright, rfl, rfl, fun j _ => ?_, fun q hq _ => hlook _ _, t1, fun _ => ht, fun x => ?_, fun _ _ => he, fun x => absurd hw' x, fun x x1 => ?_, fun x x1 xl => ?_, ?_⟩⟩
  · by_cases ej : j = n / 4
    · rw [if_pos ej, ej]; exact ht
    · rw [if_neg ej]
  · rw [hw'.1] at x; cases x
  · show tC m x + _ = _
    rw [ht]
    congr 1
    by_cases ex : t = x
    · rw [if_pos ex, if_pos (by omega)]
    · rw [if_neg ex, if_neg (by omega)]
  · rw [hpc x x1 xl, if_pos hw'.1, he]
    by_cases ex : e = x
    · rw [if_pos ex, if_pos (by omega)]
    · rw [if_neg ex, if_neg (by omega)]
  · show usedN (m.slots.set e (1, page, [])) = _
    rw [used_setP hke]
    unfold need
    rw [if_pos hw'.1, if_pos hw'.2]; rfl

theorem step_else {m : ImgD} (hC : checkE m = 0) {n : Nat} (hn : (n : Int) < m.guest) {page : ByteArray} (hp : page.size = 4) (hi : ¬ wInPl m n = true) (h40 : tabN m (n / 4) ≠ 40) (hd40 : wD m n ≠ 40) :
    Step m (countedD (tabSet m (n / 4) (tabN m (n / 4)) (wL m n page) (rfZ (wL m n page)))) n (tabN m (n / 4)) (wD m n) := by
  obtain ⟨hx, hl, hz, hk, d1, d40, hkd, hdt⟩ := write_ext hC hn h40 hd40 hp
  obtain ⟨hL, hpg, _⟩ := write_laid hC hn h40 hd40 hp
  obtain ⟨t1, tl, t40, tk, _⟩ := tabN_spec hC hk h40
  have hs := checkE_shape hC
  have hsl := (shapeE_zero hs).2.1
  have h40m := (slotsE_parts hsl).2
  obtain ⟨ock, oent⟩ := tableO_ok hs hk
  have hlen := ckE_len ock
  have hlo := lo_inPl hC hk
  have hw := so_wInPl hC hk
  have hlkO := lookV_tableO m n
  obtain ⟨r, hr, hR⟩ := root_facts hC hk
  -- the table: told once, it stays; else it is fresh
  have htl1 : lo m n = true → r = tabN m (n / 4) ∧ kd m.slots (tabN m (n / 4)) = 2 := fun x => by
    rw [hlo] at x
    have e : tabN m (n / 4) = r := by unfold tabN; rw [if_pos x, hr]; simp
    refine ⟨e.symm, ?_⟩
    rw [e]
    rcases hR with h | h
    · omega
    · exact h.2.1
  have htl0 : lo m n = false → kd m.slots (tabN m (n / 4)) = 0 := fun x => by
    rw [hlo] at x
    have e : tabN m (n / 4) = grabN m.slots := by unfold tabN; rw [if_neg (by rw [x]; decide)]
    rw [e]; exact (grabN_spec (slotsE_parts hsl).1).2.2.2
  have hmany : lo m n = false → 1 ≤ r → 2 ≤ tC m r := fun x r1 => by
    rcases hR with h | ⟨_, _, h1, _⟩
    · omega
    · unfold lo at x
      rw [hr, Int.toNat_natCast] at x
      have : ((r : Int) != 0) = true := by simp; omega
      rw [this, Bool.true_and] at x
      have : ¬ tC m r = 1 := by simpa using x
      omega
  obtain ⟨t, ht⟩ : ∃ t, tabN m (n / 4) = t := ⟨_, rfl⟩
  obtain ⟨d, hd⟩ : ∃ d, wD m n = d := ⟨_, rfl⟩
  have es_eq : wEs m n = (tableO m (n / 4)).set (n % 4) (d : Int) := by unfold wEs; rw [hd]
  have hused : usedN (wL m n page) = usedN m.slots + (if lo m n = true then 1 else 2) := by
    unfold wL tabL
    rw [used_lay (by
      have := (grabN_spec (L := tabL m (n / 4) (tableO m (n / 4))) (by unfold tabL; rw [layS_length]; split <;> omega)).2.1
      unfold tabL at this
      rw [layS_length] at this ⊢
      exact this) (by show (1 : Int) ≠ 0; decide), used_lay tl (by show (2 : Int) ≠ 0; decide), layS_kd tl, if_neg hdt, if_pos hkd]
    cases hb : lo m n with
    | true => rw [if_neg (by rw [(htl1 hb).2]; decide), if_pos rfl]
    | false => rw [if_pos (htl0 hb), if_neg (by decide)]
  obtain ⟨T, hT⟩ : ∃ T, tabSet m (n / 4) (tabN m (n / 4)) (wL m n page) (rfZ (wL m n page)) = T := ⟨_, rfl⟩
  have hTs : T.slots = wL m n page := by rw [← hT]; rfl
  have hTr : T.root = m.root.set (n / 4) (t : Int) := by rw [← hT, ← ht]; rfl
  have hTn : T.snaps = m.snaps := by rw [← hT]; rfl
  rw [hT] at hL ⊢
  rw [ht] at hx hl t1 tl t40 hdt htl1 htl0 ⊢
  rw [hd] at d1 d40 hkd hdt ⊢
  have hsh := hL.shape
  obtain ⟨z1, z2, z3, z4, z5, z6, z7⟩ := shapeE_zero hsh
  have h40T := (slotsE_parts z2).2
  have kdt : kd T.slots t = 2 := by rw [hTs]; unfold kd; rw [hx.tab]
  have hfl : flatR T = m.root.set (n / 4) (t : Int) ++ m.snaps.flatMap (fun s => s.2.2) := by rw [flatR_app, hTr, hTn]
  have tc : ∀ x : Nat, 1 ≤ x → tC T x + (if m.root.getD (n / 4) 0 = (x : Int) then 1 else 0) = tC m x + (if t = x then 1 else 0) := fun x x1 => by
    unfold tC
    rw [hfl, flatR_app, List.count_append, List.count_append]
    have := count_setI (t : Int) (x : Int) m.root (n / 4) hk
    rw [ite_cast t x]
    omega
  have tmem : (t : Int) ∈ flatR T := by rw [hfl]; exact List.mem_append_left _ (List.mem_iff_getElem.2 ⟨n / 4, by rw [List.length_set]; exact hk, by simp⟩)
  -- another slot is told by T just if it is told by m
  have told : ∀ j : Nat, j ≠ t → 1 ≤ j → ((j : Int) ∈ flatR T ↔ (j : Int) ∈ flatR m) := fun j hj j1 => by
    have := tc j j1
    have e0 : (if t = j then 1 else 0 : Nat) = 0 := if_neg (fun x => hj x.symm)
    rw [hr, e0] at this
    rw [← List.count_pos_iff, ← List.count_pos_iff]
    show 0 < tC T j ↔ 0 < tC m j
    by_cases e : r = j
    · subst e
      rw [if_pos rfl] at this
      have hb : lo m n = false := by
        cases hb : lo m n with
        | false => rfl
        | true => exact absurd (htl1 hb).1 hj
      have := hmany hb j1
      omega
    · rw [if_neg (by omega)] at this
      omega
  have hoth : ∀ (x j : Nat), j ≠ t → toldT T.slots (flatR T) (x : Int) j = toldT m.slots (flatR m) (x : Int) j := fun x j hj => by
    unfold toldT
    have hkk : kd T.slots j = 2 ↔ kd m.slots j = 2 := by
      rw [hTs]
      refine ⟨hx.tabs j hj, fun h2 => ?_⟩
      have := hx.keep j hj (by rw [h2]; decide)
      unfold kd at h2 ⊢
      rw [this]; exact h2
    by_cases h2 : kd m.slots j = 2
    · have j1 := (kd_one hs (x := j) (by rw [h2]; decide)).1
      have etab : tabOf T.slots j = tabOf m.slots j := by unfold tabOf; rw [Int.toNat_natCast, hTs, hx.keep j hj (by rw [h2]; decide)]
      rw [etab]
      by_cases hm : (j : Int) ∈ flatR m
      · rw [if_pos ⟨hkk.2 h2, (told j hj j1).2 hm⟩, if_pos ⟨h2, hm⟩]
      · rw [if_neg (fun h => hm ((told j hj j1).1 h.2)), if_neg (fun h => hm h.2)]
    · rw [if_neg (fun h => h2 (hkk.1 h.1)), if_neg (fun h => h2 h.1)]
  have pcT : ∀ x : Nat, 1 ≤ x → pC T x + (if lookV m m.root n = (x : Int) then 1 else 0) = pC m x + (if lo m n = true then 0 else (tableO m (n / 4)).count (x : Int)) + (if d = x then 1 else 0) := fun x x1 => by
    have hsum := sum_at (f := toldT m.slots (flatR m) (x : Int)) (g := toldT T.slots (flatR T) (x : Int)) (k := t) 40 t40 (hoth x)
    rw [← pC_40 h40T, ← pC_40 h40m] at hsum
    have e1 : toldT T.slots (flatR T) (x : Int) t = ((tableO m (n / 4)).set (n % 4) (d : Int)).count (x : Int) := by
      unfold toldT
      rw [if_pos ⟨kdt, tmem⟩]
      congr 1
      rw [← es_eq]
      unfold tabOf; rw [Int.toNat_natCast, hTs, hx.tab]
    have e2 := count_setI (d : Int) (x : Int) (tableO m (n / 4)) (n % 4) (by omega)
    rw [← hlkO] at e2
    rw [ite_cast d x]
    cases hb : lo m n with
    | true =>
      obtain ⟨er, ek⟩ := htl1 hb
      have e3 : toldT m.slots (flatR m) (x : Int) t = (tableO m (n / 4)).count (x : Int) := by
        unfold toldT
        have r1 : 1 ≤ r := by omega
        have hm : (t : Int) ∈ flatR m := by
          rw [← er, ← List.count_pos_iff]
          rcases hR with h | h
          · omega
          · exact h.2.2.1
        rw [if_pos ⟨ek, hm⟩]
        congr 1
        unfold tableO
        rw [hr, if_neg (by omega), er]
      rw [if_pos (show true = true from rfl)]
      omega
    | false =>
      have e3 : toldT m.slots (flatR m) (x : Int) t = 0 := by
        unfold toldT
        rw [if_neg (fun h => by rw [htl0 hb] at h; exact absurd h.1 (by decide))]
      rw [if_neg (show ¬ false = true by decide)]
      omega
  have hnso : ¬ (lo m n = true ∧ so m n = true) := fun ⟨a, b⟩ => hi (by rw [hw, a, b]; rfl)
  -- nothing becomes free
  have hfree : ∀ j, kd T.slots j ≠ 0 → (cntL T).getD j 0 ≠ 0 := fun j hj => by
    obtain ⟨j1, jl⟩ := kd_one hsh hj
    have hok := kd_cases z2 jl
    rcases hok with h0 | h1 | h2
    · exact absurd h0 hj
    · rw [cnt_page hsh h1]
      have hp := pcT j j1
      by_cases ed : d = j
      · rw [if_pos ed] at hp
        have : 1 ≤ (tableO m (n / 4)).count (lookV m m.root n) := List.count_pos_iff.2 (by rw [hlkO, getD_at (by omega)]; exact List.getElem_mem (by omega))
        by_cases el : lookV m m.root n = (j : Int)
        · exfalso
          have hkj : kd m.slots j ≠ 0 := by
            rcases look_facts hC hk with h | ⟨e, he, e1, hke, _⟩
            · omega
            · have : e = j := by omega
              rw [← this, hke]; decide
          rw [← ed] at hkj
          exact hkj hkd
        · rw [if_neg el] at hp; omega
      · have hkm : kd m.slots j = 1 := by
          have hjt : j ≠ t := fun e => by rw [e, kdt] at h1; cases h1
          by_cases hz0 : kd m.slots j = 0
          · exfalso
            rw [hTs] at h1
            unfold wL tabL at h1
            rw [ht, hd] at h1
            rw [layS_kd (by
              have := (grabN_spec (L := tabL m (n / 4) (tableO m (n / 4))) (by unfold tabL; rw [layS_length]; split <;> omega)).2.1
              unfold tabL at this
              rw [layS_length] at this ⊢
              rw [← hd, ← ht]; exact this), if_neg (fun e => ed e.symm), layS_kd tl, if_neg hjt, hz0] at h1
            cases h1
          · have := hx.keep j hjt hz0
            rw [hTs] at h1
            unfold kd at h1 ⊢
            rw [← this]; exact h1
        have hm1 : 1 ≤ pC m j := by
          have h3 := (checkE_zero hC).2.2 j (kd_one hs (by rw [hkm]; decide)).2
          unfold freeAt at h3
          have h4 := cnt_page hs hkm
          rw [h4] at h3
          unfold kd at hkm
          rw [hkm] at h3
          simp at h3
          omega
        rw [if_neg ed] at hp
        by_cases el : lookV m m.root n = (j : Int)
        · rw [if_pos el] at hp
          cases hb : lo m n with
          | true =>
            rw [hb, if_pos (show true = true from rfl)] at hp
            have : so m n = false := by
              cases hc : so m n with
              | false => rfl
              | true => exact absurd ⟨hb, hc⟩ hnso
            unfold so at this
            rw [el, Int.toNat_natCast] at this
            have hpos : decide (0 < (j : Int)) = true := by simp; omega
            rw [hpos, Bool.true_and] at this
            have : ¬ pC m j = 1 := by simpa using this
            omega
          | false =>
            rw [hb, if_neg (show ¬ false = true by decide)] at hp
            have : 1 ≤ (tableO m (n / 4)).count (j : Int) := List.count_pos_iff.2 (by rw [← el, hlkO, getD_at (by omega)]; exact List.getElem_mem (by omega))
            omega
        · rw [if_neg el] at hp; omega
    · rw [cnt_tab hsh h2]
      by_cases ej : j = t
      · subst ej
        have : 0 < tC T j := List.count_pos_iff.2 tmem
        omega
      · have hkm : kd m.slots j = 2 := hx.tabs j ej (by rw [← hTs]; exact h2)
        have hm1 : 1 ≤ tC m j := by
          have h3 := (checkE_zero hC).2.2 j (kd_one hs (by rw [hkm]; decide)).2
          unfold freeAt at h3
          have h4 := cnt_tab hs hkm
          rw [h4] at h3
          unfold kd at hkm
          rw [hkm] at h3
          simp at h3
          omega
        have : 0 < tC T j := List.count_pos_iff.2 ((told j ej j1).2 (List.count_pos_iff.1 hm1))
        omega
  have hlT : m.slots.length ≤ T.slots.length := by
    rw [hTs]; unfold wL tabL; rw [layS_length, layS_length]; split <;> split <;> omega
  refine ⟨counted_right hsh, hL.guest, hL.rlen, fun j hj => ?_, fun q hq hqn => ?_, t1, fun x => ?_, fun x => tC_none hs t1 (by rw [htl0 x]; decide), fun a b => absurd ⟨a, b⟩ hnso, fun _ => pC_none hs d1 (by rw [hkd]; decide), tc, fun x x1 xl => ?_, ?_⟩
  · show T.root.getD j 0 = _
    rw [hTr, getD_setI]
    by_cases ej : j = n / 4
    · rw [if_pos ⟨ej.symm, hj⟩, if_pos ej]
    · rw [if_neg (fun h => ej h.1.symm), if_neg ej]
  · have e1 : lookV (countedD T) (countedD T).root q = lookV T T.root q := lookV_counted hsh (s := (⟨#[]⟩, T.guest, T.root)) List.mem_cons_self (n := q) (by show q / 4 < T.root.length; rw [hL.rlen]; exact hq)
    rw [e1, hL.look q hq]
    by_cases eq : q / 4 = n / 4
    · rw [if_pos eq, es_eq, lookV_tableO m q, eq]
      rw [getD_setI, if_neg (fun h => by omega)]
    · rw [if_neg eq]
  · rw [hr, (htl1 x).1]
  · rw [pC_counted hsh x1 (by omega)]
    exact pcT x x1
  · have : usedN (countedD T).slots = usedN T.slots := by
      rw [used_kd, used_kd]
      show (List.range (freeUn T.slots (cntL T)).length).countP _ = _
      rw [freeUn_length]
      refine List.countP_congr (fun j hj => ?_)
      have hj := List.mem_range.1 hj
      have e : kd (countedD T).slots j = if (cntL T).getD j 0 = 0 then 0 else kd T.slots j := by
        show ((freeUn T.slots (cntL T)).getD j default).1 = _
        rw [freeUn_get hj]
        split
        · rfl
        · rfl
      rw [e]
      by_cases hc : (cntL T).getD j 0 = 0
      · rw [if_pos hc]
        have : kd T.slots j = 0 := by
          by_cases h : kd T.slots j = 0
          · exact h
          · exact absurd hc (hfree j h)
        rw [this]
      · rw [if_neg hc]
    rw [this, hTs, hused]
    unfold need
    cases hb : lo m n with
    | true =>
      have : so m n = false := by
        cases hc : so m n with
        | false => rfl
        | true => exact absurd ⟨hb, hc⟩ hnso
      rw [if_pos rfl, if_pos rfl, this, if_neg (by decide)]
    | false => rw [if_neg (by decide), if_neg (by decide)]
theorem step_write {m : ImgD} (hC : checkE m = 0) {n : Nat} (hn : (n : Int) < m.guest) {page : ByteArray} (hp : page.size = 4) {A : ImgD} (hA : writeD m n page = some A) : ∃ t d, Step m A n t d := by
  unfold writeD at hA
  by_cases hi : wInPl m n = true
  · rw [if_pos hi] at hA
    cases hA
    exact step_in hC hn hp hi
  · rw [if_neg hi] at hA
    by_cases h40 : tabN m (n / 4) = 40
    · rw [if_pos h40] at hA; cases hA
    · rw [if_neg h40] at hA
      by_cases hd : wD m n = 40
      · rw [if_pos hd] at hA; cases hA
      · rw [if_neg hd] at hA
        cases hA
        exact ⟨_, _, step_else hC hn hp hi h40 hd⟩
end Go.Proofs.Ytehleeibgkpjmaf
/- Written once, a page lies in a place of its own; wiped or punched once, it stays so; a write is refused just if too few slots are left. Plain. -/
namespace Go.Proofs.Ytehleeibgkpjmaf
open Go.RowKit Go.Shelf
set_option maxRecDepth 20000
set_option linter.unusedVariables false

/-! ### Too few slots are left -/
/-! ### Told once -/
/-- What was written elsewhere lies in place. -/
theorem again_in {m : ImgD} (hC : checkE m = 0) {n : Nat} (hn : (n : Int) < m.guest) (h40 : tabN m (n / 4) ≠ 40) (hd40 : wD m n ≠ 40) {page : ByteArray} (hp : page.size = 4) :
    wInPl (countedD (tabSet m (n / 4) (tabN m (n / 4)) (wL m n page) (rfZ (wL m n page)))) n = true := by
  obtain ⟨hx, hl, hz, hk, d1, d40, hkd, hdt⟩ := write_ext hC hn h40 hd40 hp
  obtain ⟨hL, hpg, _⟩ := write_laid hC hn h40 hd40 hp
  obtain ⟨t1, tl, t40, tk, _⟩ := tabN_spec hC hk h40
  have h := checkE_shape hC
  have hs := (shapeE_zero h).2.1
  obtain ⟨ock, oent⟩ := tableO_ok h hk
  have hlen := ckE_len ock
  obtain ⟨t, ht⟩ : ∃ t, tabN m (n / 4) = t := ⟨_, rfl⟩
  obtain ⟨d, hd⟩ : ∃ d, wD m n = d := ⟨_, rfl⟩
  obtain ⟨T, hT⟩ : ∃ T, tabSet m (n / 4) (tabN m (n / 4)) (wL m n page) (rfZ (wL m n page)) = T := ⟨_, rfl⟩
  have hTs : T.slots = wL m n page := by rw [← hT]; rfl
  have hTr : T.root = m.root.set (n / 4) (t : Int) := by rw [← hT, ← ht]; rfl
  have hTn : T.snaps = m.snaps := by rw [← hT]; rfl
  have es_eq : wEs m n = (tableO m (n / 4)).set (n % 4) (d : Int) := by unfold wEs; rw [hd]
  rw [hT] at hL ⊢
  rw [ht] at hx hl t1 tl t40 hdt
  rw [hd] at d1 d40 hkd hdt
  have hsh := hL.shape
  obtain ⟨z1, z2, z3, z4, z5, z6, z7⟩ := shapeE_zero hsh
  have kdt : kd T.slots t = 2 := by rw [hTs]; unfold kd; rw [hx.tab]
  have kdd : kd T.slots d = 1 := by
    have hdin : (d : Int) ∈ wEs m n := by rw [es_eq]; exact List.mem_iff_getElem.2 ⟨n % 4, by rw [List.length_set]; omega, by simp⟩
    have he := hx.ents _ hdin
    rcases tabE_cases he with e | e | ⟨j, e, _, hkj⟩
    · omega
    · omega
    · have : d = j := by omega
      rw [hTs, this]; exact hkj
  have tlt : t < T.slots.length := kd_lt (by rw [kdt]; decide)
  have dlt : d < T.slots.length := kd_lt (by rw [kdd]; decide)
  have hfl : flatR T = m.root.set (n / 4) (t : Int) ++ m.snaps.flatMap (fun s => s.2.2) := by rw [flatR_app, hTr, hTn]
  -- t is told once
  have ct : (cntL T).getD t 0 = 1 := by
    rw [cntL_get hsh t tlt]
    unfold cntI
    rw [if_neg (by omega), sumT_no z6 _ t1 (by rw [kdt]; decide), hfl, List.count_append, count_set_one hk (fun i hi hne => hl.root i hi hne), count_none]
    · rfl
    · rw [List.mem_flatMap]
      rintro ⟨s, hsm, hm⟩
      exact hl.snap s hsm hm
  -- d is told once
  have cd : (cntL T).getD d 0 = 1 := by
    rw [cntL_get hsh d dlt]
    unfold cntI
    have c0 : (flatR T).count (d : Int) = 0 := count_none (fun hm => by
      have := (told_root hsh hm d1).2.1
      rw [kdd] at this
      cases this)
    have s1 : sumT T.slots (flatR T) (d : Int) = 1 := by
      unfold sumT
      have hz0 : ((List.range T.slots.length).map (fun _ => 0)).sum = 0 := by
        generalize T.slots.length = q
        induction q with
        | zero => rfl
        | succ q ih => rw [List.range_succ, List.map_append, List.sum_append, ih]; rfl
      rw [sum_one (f := fun _ => 0) (k := t) (d := 1) T.slots.length tlt ?_ ?_, hz0]
      · show toldT T.slots (flatR T) d t = 0 + 1
        unfold toldT
        have hm : (t : Int) ∈ flatR T := by rw [hfl]; exact List.mem_append_left _ (List.mem_iff_getElem.2 ⟨n / 4, by rw [List.length_set]; exact hk, by simp⟩)
        rw [if_pos ⟨kdt, hm⟩]
        have etab : tabOf T.slots t = wEs m n := by unfold tabOf; rw [Int.toNat_natCast, hTs, hx.tab]
        rw [etab, es_eq, count_set_one (by omega) (fun i hi _ e => by
          rcases tabE_cases (oent (d : Int) (by rw [← e, getD_at hi]; exact List.getElem_mem hi)) with x | x | ⟨j, x, _, hkj⟩
          · omega
          · omega
          · have : d = j := by omega
            rw [← this, hkd] at hkj
            cases hkj)]
      · intro j hj
        show toldT T.slots (flatR T) d j = 0
        unfold toldT
        by_cases hc : kd T.slots j = 2 ∧ (j : Int) ∈ flatR T
        · rw [if_pos hc]
          refine count_none (fun hm => ?_)
          have hkj : kd m.slots j = 2 := hx.tabs j hj (by rw [← hTs]; exact hc.1)
          have etab : tabOf T.slots j = tabOf m.slots j := by unfold tabOf; rw [Int.toNat_natCast, hTs, hx.keep j hj (by rw [hkj]; decide)]
          rw [etab] at hm
          rcases tab_ent (shapeE_zero h).2.2.2.2.2.1 _ hm with x | x | ⟨i, x, _, hki⟩
          · omega
          · omega
          · have : d = i := by omega
            rw [← this, hkd] at hki
            cases hki
        · rw [if_neg hc]
    rw [if_neg (by omega), c0, s1]
    rfl
  have hroot : (countedD T).root.getD (n / 4) 0 = (t : Int) := by
    show T.root.getD (n / 4) 0 = _
    rw [hTr, getD_setI, if_pos ⟨rfl, hk⟩]
  have hlook : lookV (countedD T) (countedD T).root n = (d : Int) := by
    have e1 := lookV_counted hsh (s := (⟨#[]⟩, T.guest, T.root)) List.mem_cons_self (n := n) (by show n / 4 < T.root.length; rw [hL.rlen]; exact hk)
    have e1 : lookV (countedD T) (countedD T).root n = lookV T T.root n := e1
    rw [e1, hL.look n hk, if_pos rfl, es_eq, set_get (by omega)]
  unfold wInPl inPl
  rw [hlook, hroot, Int.toNat_natCast, Int.toNat_natCast]
  show (decide (0 < (d : Int)) && (((t : Int) != 0) && (cntL T).getD t 0 == 1 && (cntL T).getD d 0 == 1)) = true
  rw [ct, cd]
  simp
  omega
end Go.Proofs.Ytehleeibgkpjmaf
/- Contracts of slices.IndexFunc over snapshots, and of Past. -/
namespace Go.Proofs.Ytehleeibgkpjmaf
open Go.RowKit Go.Shelf
end Go.Proofs.Ytehleeibgkpjmaf
/- The image of pair: what is decided of it. -/
namespace Go.Proofs.Ytehleeibgkpjmaf
open Go.RowKit Go.Shelf
end Go.Proofs.Ytehleeibgkpjmaf
/- Contract of readsBegun: it answers true. -/
namespace Go.Proofs.Ytehleeibgkpjmaf
open Go.RowKit Go.Shelf
end Go.Proofs.Ytehleeibgkpjmaf
/- Contracts of the document's pageOf, ReadOf, AllOf, snapAt, PastOf. -/
namespace Go.Proofs.Ytehleeibgkpjmaf
open Go.RowKit Go.Shelf
end Go.Proofs.Ytehleeibgkpjmaf
/- Contract of the document's PastOf. -/
namespace Go.Proofs.Ytehleeibgkpjmaf
open Go.RowKit Go.Shelf
end Go.Proofs.Ytehleeibgkpjmaf
/- The walks of ReadsTells and ReadsTrue. -/
namespace Go.Proofs.Ytehleeibgkpjmaf
open Go.RowKit Go.Shelf
/-! ### ReadsTrue -/
theorem pageV_size {m : ImgD} (h : shapeE m = 0) {e : Int} (he : e = 0 ∨ e = -1 ∨ ∃ j : Nat, e = j ∧ 1 ≤ j ∧ j < m.slots.length ∧ kd m.slots j = 1) : (pageV m.slots e).size = 4 := by
  unfold pageV
  rcases he with rfl | rfl | ⟨j, rfl, h1, hj, hk⟩
  · rw [if_pos (by decide)]; rfl
  · rw [if_pos (by decide)]; rfl
  · rw [if_neg (by omega)]
    have e : m.slots.getD (j : Int).toNat default = m.slots[j] := by simp [List.getD, hj]
    rw [e]
    have ok := slotsE_all (shapeE_zero h).2.1 hj
    have hk' : m.slots[j].1 = 1 := by rw [← hk]; unfold kd; simp [List.getD, hj]
    unfold okD slotOK at ok
    rw [if_neg (by rw [hk']; decide), if_pos hk'] at ok
    simp at ok
    exact ok.1
theorem allP_ck {m : ImgD} (h : shapeE m = 0) {root : List Int} {g : Nat} (hg : g ≤ 16) (hall : root.all (rootE m.slots) = true) (hl : (root.length : Int) = ((g : Int) + 3) / 4) : ckP (allP m root g) = 0 := by
  refine ckP_ok (by rw [allP_length]; exact hg) (fun j hj => ?_)
  rw [allP_length] at hj
  have e : (allP m root g).getD j ByteArray.empty = pageV m.slots (lookV m root j) := by unfold allP; simp [List.getD, hj]
  rw [e]
  exact pageV_size h (lookV_ent h hall j (by omega))
theorem allV_facts {m : ImgD} (hC : checkE m = 0) : ckP (allV m) = 0 ∧ ((allV m).length : Int) = m.guest ∧ ∀ n, atE (allV m) n = lookE m n ∧ freadA (allV m) n = readV m n := by
  have hs := checkE_shape hC
  have hg := guest_ok hs
  have hr := root_ok hs
  obtain ⟨k, hk⟩ : ∃ k : Nat, m.guest = k := ⟨m.guest.toNat, by omega⟩
  have e : allV m = allP m m.root k := by unfold allV; rw [if_pos hC, hk]; rfl
  have hck := allP_ck hs (g := k) (by omega) hr.2 (by rw [← hk]; exact hr.1)
  rw [e]
  have ha : ∀ n, atE (allP m m.root k) n = lookE m n := fun n => by
    have e2 : lookE m n = if 0 ≤ n ∧ n < m.guest then 0 else 3 := by unfold lookE; rw [if_neg (by simpa using hC)]
    rw [e2]
    unfold atE
    rw [if_pos hck, allP_length, hk]
  refine ⟨hck, by rw [allP_length, hk], fun n => ⟨ha n, ?_⟩⟩
  unfold freadA readV
  rw [ha n]
  by_cases hL : lookE m n = 0
  · rw [if_pos hL, if_pos hL]
    obtain ⟨_, h1, h2⟩ := lookE_parts hL
    unfold allP
    have : n.toNat < k := by omega
    simp [List.getD, this]
  · rw [if_neg hL, if_neg hL]

end Go.Proofs.Ytehleeibgkpjmaf
/- Stacks: written and read; committed and read; bare. Plain. -/
namespace Go.Proofs.Ytehleeibgkpjmaf
open Go.RowKit Go.Shelf
set_option maxRecDepth 20000
set_option linter.unusedVariables false

theorem wr_look {m : ImgD} (hC : checkE m = 0) {n : Nat} (hn : (n : Int) < m.guest) {page : ByteArray} (hp : page.size = 4) {A : ImgD} (hA : writeD m n page = some A) : 0 < lookV A A.root n := by
  have key : ∀ {M : ImgD}, wInPl M n = true → 0 < lookV M M.root n := fun h => by
    unfold wInPl at h
    simp only [Bool.and_eq_true, decide_eq_true_eq] at h
    exact h.1
  unfold writeD at hA
  by_cases hi : wInPl m n = true
  · rw [if_pos hi] at hA
    cases hA
    obtain ⟨e, he, _, _, hke, _⟩ := inplace_only hC hn hi
    rw [he, Int.toNat_natCast]
    have h2 := (setP_same (page := page) hC hke hp).2 m.root n
    have h3 := key hi
    show 0 < lookV { m with slots := m.slots.set e (1, page, []) } m.root n
    rw [h2]; exact h3
  · rw [if_neg hi] at hA
    by_cases h40 : tabN m (n / 4) = 40
    · rw [if_pos h40] at hA; cases hA
    · rw [if_neg h40] at hA
      by_cases hd : wD m n = 40
      · rw [if_pos hd] at hA; cases hA
      · rw [if_neg hd] at hA
        cases hA
        exact key (again_in hC hn h40 hd hp)
theorem wr_stack {b : List ByteArray} {m : ImgD} {n : Int} {page : ByteArray} (hs : scE b m = 0) (hw : wrE m n page = 0) :
    scE b (wrM m n page) = 0 ∧ srE b (wrM m n page) n = 0 ∧ srV b (wrM m n page) n = page ∧ ∀ k, srE b (wrM m n page) k = srE b m k ∧ (k ≠ n → srV b (wrM m n page) k = srV b m k) := by
  obtain ⟨hl, hp, hW, hr⟩ := wr_ok hw
  obtain ⟨hC, n0, hn⟩ := lookE_prt hl
  obtain ⟨i, rfl⟩ := Int.eq_ofNat_of_zero_le n0
  rw [Int.toNat_natCast] at hW hr
  obtain ⟨t, d, S⟩ := step_write hC hn hp hW
  have hpos := wr_look hC hn hp hW
  obtain ⟨A, hA⟩ : ∃ A, wrM m i page = A := ⟨_, rfl⟩
  rw [hA] at hr S hpos ⊢
  clear hA hW hw
  have hsA : scE b A = 0 := by unfold scE; rw [if_neg (by simpa using (scE_zero hs).1)]; exact hr.right
  have hlk : ∀ k, lookE A k = lookE m k := fun k => by
    have c1 : ¬ checkE A ≠ 0 := by simpa using hr.right
    have c2 : ¬ checkE m ≠ 0 := by simpa using hC
    unfold lookE; rw [if_neg c1, if_neg c2, hr.guest]
  have hE : ∀ k, srE b A k = srE b m k := fun k => by
    have c1 : ¬ scE b A ≠ 0 := by simpa using hsA
    have c2 : ¬ scE b m ≠ 0 := by simpa using hs
    unfold srE; rw [if_neg c1, if_neg c2, hlk]
  have fa := allV_facts hr.right
  have fm := allV_facts hC
  have hrt := root_ok (checkE_shape hC)
  have hgt := guest_ok (checkE_shape hC)
  have hlen : ((allV m).length : Int) = m.guest := fm.2.1
  have hRn : readV A i = page := by
    rw [← (fa.2.2 i).2, hr.all]
    unfold freadA
    have h1 := (fa.2.2 i).1
    rw [hr.all, hlk, hl] at h1
    rw [h1, if_pos rfl, Int.toNat_natCast]
    have hil : i < (allV m).length := by omega
    simp [List.getD, hil]
  have hRk : ∀ j : Nat, (j : Int) < m.guest → j ≠ i → readV A j = readV m j := fun j hj hji => by
    rw [← (fa.2.2 j).2, ← (fm.2.2 j).2, hr.all]
    unfold freadA
    have h1 := (fa.2.2 j).1
    have h2 := (fm.2.2 j).1
    rw [hr.all, hlk] at h1
    rw [h1, h2, Int.toNat_natCast]
    have : ((allV m).set i page).getD j ByteArray.empty = (allV m).getD j ByteArray.empty := by
      simp only [List.getD]
      rw [List.getElem?_set_ne (fun e => hji e.symm)]
    rw [this]
  have hEi : srE b A i = 0 := by rw [hE]; unfold srE; rw [if_neg (by simpa using hs)]; exact hl
  refine ⟨hsA, hEi, ?_, fun k => ⟨hE k, fun hk => ?_⟩⟩
  · unfold srV
    rw [if_neg (by simpa using hEi), if_neg (fun h => by rw [Int.toNat_natCast] at h; omega)]
    exact hRn
  · unfold srV
    rw [hE]
    by_cases he : srE b m k = 0
    · have c1 : ¬ srE b m k ≠ 0 := by simpa using he
      rw [if_neg c1, if_neg c1]
      have hlk0 : lookE m k = 0 := by unfold srE at he; rw [if_neg (by simpa using hs)] at he; exact he
      obtain ⟨_, k0, hk2⟩ := lookE_prt hlk0
      obtain ⟨j, rfl⟩ := Int.eq_ofNat_of_zero_le k0
      have hji : j ≠ i := fun e => hk (by rw [e])
      rw [Int.toNat_natCast, S.look j (by omega) hji, hRk j hk2 hji]
    · rw [if_pos he, if_pos he]
theorem srV_size {b : List ByteArray} {m : ImgD} (hs : scE b m = 0) {j : Nat} (hj : (j : Int) < m.guest) : (srV b m j).size = 4 := by
  obtain ⟨hb, hC⟩ := scE_zero hs
  have hE := sr_in hs hj
  have fm := allV_facts hC
  unfold srV
  rw [if_neg (by simpa using hE)]
  split
  · rename_i h
    unfold freadA
    have h1 : atE b j = 0 := by unfold atE; rw [if_pos hb, if_pos ⟨by omega, h.2⟩]
    rw [if_pos h1, Int.toNat_natCast]
    have hl : j < b.length := by omega
    have : b.getD j ByteArray.empty = b[j] := by simp [List.getD, hl]
    rw [this]
    exact (ckP_parts hb).2 _ (List.getElem_mem hl)
  · rw [← (fm.2.2 j).2]
    unfold freadA
    have h1 : atE (allV m) j = 0 := by rw [(fm.2.2 j).1]; exact lookE_of hC hj
    rw [if_pos h1, Int.toNat_natCast]
    have hl : j < (allV m).length := by have := fm.2.1; omega
    have : (allV m).getD j ByteArray.empty = (allV m)[j] := by simp [List.getD, hl]
    rw [this]
    exact (ckP_parts fm.1).2 _ (List.getElem_mem hl)
theorem look_fresh (g j : Nat) : lookV (freshD g) (freshD g).root j = 0 := by
  unfold lookV
  rw [if_pos]
  show (List.replicate ((g + 3) / 4) (0 : Int)).getD (j / 4) 0 = 0
  simp [List.getD, List.getElem?_replicate]
  split <;> rfl
theorem lookE_fresh {g : Nat} (hg : g ≤ 16) (k : Int) : lookE (freshD g) k = if 0 ≤ k ∧ k < (g : Int) then 0 else 3 := by
  unfold lookE
  rw [if_neg (by simpa using (frs_is g hg).2.2)]
  rfl
theorem cm_stack {b : List ByteArray} {m : ImgD} (h : ccE b m = 0) :
    scE (pgs b m) (freshD m.guest.toNat) = 0 ∧ (∀ k, srE (pgs b m) (freshD m.guest.toNat) k = srE b m k ∧ srV (pgs b m) (freshD m.guest.toNat) k = srV b m k) ∧ ccE (pgs b m) (freshD m.guest.toNat) = 0 ∧ pgs (pgs b m) (freshD m.guest.toNat) = pgs b m ∧ freshD (freshD m.guest.toNat).guest.toNat = freshD m.guest.toNat := by
  have hs : scE b m = 0 := by
    unfold ccE at h
    by_cases x : scE b m = 0
    · exact x
    · rw [if_pos x] at h; exact h
  obtain ⟨hb, hC⟩ := scE_zero hs
  have hgt := guest_ok (checkE_shape hC)
  obtain ⟨g, hg⟩ : ∃ g : Nat, m.guest = (g : Int) := ⟨m.guest.toNat, by omega⟩
  have hg16 : g ≤ 16 := by omega
  have hgn : m.guest.toNat = g := by omega
  have hpl : (pgs b m).length = g := by unfold pgs; simp [hgn]
  have hpg : ∀ j, j < g → (pgs b m).getD j ByteArray.empty = srV b m j := fun j hj => by
    unfold pgs
    rw [hgn]
    simp [List.getD, hj]
  rw [hgn]
  have hck : ckP (pgs b m) = 0 := ckP_ok (by omega) (fun j hj => by rw [hpg j (by omega)]; exact srV_size hs (by omega))
  have hsF : scE (pgs b m) (freshD g) = 0 := by unfold scE; rw [if_neg (by simpa using hck)]; exact (frs_is g hg16).2.2
  have hEk : ∀ k, srE (pgs b m) (freshD g) k = srE b m k := fun k => by
    unfold srE
    have c1 : ¬ scE (pgs b m) (freshD g) ≠ 0 := by simpa using hsF
    have c2 : ¬ scE b m ≠ 0 := by simpa using hs
    have c3 : ¬ checkE m ≠ 0 := by simpa using hC
    rw [if_neg c1, if_neg c2, lookE_fresh hg16]
    unfold lookE
    rw [if_neg c3, hg]
  have hVk : ∀ k, srV (pgs b m) (freshD g) k = srV b m k := fun k => by
    by_cases he : srE b m k = 0
    · have hlk0 : lookE m k = 0 := by unfold srE at he; rw [if_neg (by simpa using hs)] at he; exact he
      obtain ⟨_, k0, hk2⟩ := lookE_prt hlk0
      obtain ⟨j, rfl⟩ := Int.eq_ofNat_of_zero_le k0
      have hj : j < g := by omega
      rw [← hpg j hj]
      conv => lhs; unfold srV
      rw [hEk, if_neg (by simpa using he), if_pos ⟨look_fresh g _, by rw [hpl]; omega⟩]
      unfold freadA
      rw [if_pos (by unfold atE; rw [if_pos hck, if_pos ⟨by omega, by rw [hpl]; omega⟩]), Int.toNat_natCast]
    · unfold srV
      rw [hEk, if_pos he, if_pos he]
  refine ⟨hsF, fun k => ⟨hEk k, hVk k⟩, ?_, ?_, rfl⟩
  · unfold ccE
    rw [if_neg (by simpa using hsF)]
    rfl
  · show (List.range g).map (fun n : Nat => srV (pgs b m) (freshD g) (n : Int)) = pgs b m
    unfold pgs
    rw [hgn]
    refine List.map_congr_left fun n _ => ?_
    have := hVk (n : Int)
    unfold pgs at this
    rw [hgn] at this
    exact this
end Go.Proofs.Ytehleeibgkpjmaf
/- Contract of SameInts. -/
namespace Go.Proofs.Ytehleeibgkpjmaf
open Go.RowKit
set_option maxRecDepth 20000

theorem same_at (ao bo : Option Addr) (n cap cap' : Nat) (xs : List Int) (w : World) (hn : xs.length = n) (hm : n ≤ 9223372036854775807)
    (hc : ∀ j, j < n → ∃ b off, ao = some ⟨b, off, none⟩ ∧ b < w.heap.size ∧ w.cell? ⟨b, off + j, none⟩ = some (.int .i64 (xs.getD j 0)))
    (hd : ∀ j, j < n → ∃ b off, bo = some ⟨b, off, none⟩ ∧ b < w.heap.size ∧ w.cell? ⟨b, off + j, none⟩ = some (.int .i64 (xs.getD j 0))) :
    Calls Try.prog 45 #[.slice ao n cap, .slice bo n cap'] w fun r w' => r = .returned (.bool true) ∧ Below w.heap.size w w' := by
  have HC : Hid (∀ j, j < n → ∃ b off, ao = some ⟨b, off, none⟩ ∧ b < w.heap.size ∧ w.cell? ⟨b, off + j, none⟩ = some (.int .i64 (xs.getD j 0))) := hc
  have HD : Hid (∀ j, j < n → ∃ b off, bo = some ⟨b, off, none⟩ ∧ b < w.heap.size ∧ w.cell? ⟨b, off + j, none⟩ = some (.int .i64 (xs.getD j 0))) := hd
  clear hc hd
  have HN : Hid (xs.length = n) := hn
  clear hn
  go_enter Try.func45, Try.ntmps45
  go_wp2
  go_loopw [5] (fun i wr => ∃ k : Nat, k ≤ n ∧ i = .int .i64 k ∧ Below w.heap.size w wr) (fun i _ => n - (intOf i).toNat)
  case atStart => exact ⟨0, by omega, rfl, Below.refl _ _⟩
  case round =>
    obtain ⟨k, hk, rfl, hbel⟩ := hrel
    by_cases hlt : k < n
    · obtain ⟨x, hx⟩ : ∃ x, xs.getD k 0 = x := ⟨_, rfl⟩
      obtain ⟨b, off, hao, hl1, hck⟩ := HC.out k hlt
      obtain ⟨b', off', hbo, hl2, hck'⟩ := HD.out k hlt
      rw [hx] at hck hck'
      clear hx
      have g1 : wr.cell? ⟨b, off + k, none⟩ = some (.int .i64 x) := (hbel.cell (p := ⟨b, off + k, none⟩) hl1).trans hck
      have g2 : wr.cell? ⟨b', off' + k, none⟩ = some (.int .i64 x) := (hbel.cell (p := ⟨b', off' + k, none⟩) hl2).trans hck'
      have i1 : (k : Int) < (n : Int) := by omega
      go_wp2
      go_quiet (fail)
      go_wp2
      go_roundw
      case rel => exact ⟨k + 1, by omega, by go_num, below_drewN hbel _⟩
      case measure => simp [intOf]; omega
    · have e4 : k = n := by omega
      subst e4
      go_wp2
      go_ret
      exact ⟨rfl, hbel⟩
theorem same_any {v u : Value} {xs : List Int} {w : World} (h : Sl w v xs) (k : Sl w u xs) :
    Calls Try.prog 45 #[v, u] w fun r w' => r = .returned (.bool true) ∧ Below w.heap.size w w' := by
  obtain ⟨ao, cap, rfl⟩ := h.form
  obtain ⟨bo, cap', rfl⟩ := k.form
  obtain ⟨hn, hm, _, hc⟩ := h.cells
  obtain ⟨_, _, _, hd⟩ := k.cells
  exact same_at ao bo _ cap cap' xs w hn hm hc hd

end Go.Proofs.Ytehleeibgkpjmaf
/- Contract of writesBegun: it answers true. -/
namespace Go.Proofs.Ytehleeibgkpjmaf
open Go.RowKit Go.Shelf
set_option maxRecDepth 20000

/-- A cell that lies in the world, and stays. -/
def CAt (W : World) (p : Addr) (v : Value) : Prop := W.cell? p = some v ∧ p.block < W.heap.size
theorem CAt.below {W W' : World} {p : Addr} {v : Value} (h : CAt W p v) (bb : Below W.heap.size W W') : CAt W' p v := ⟨(bb.cell h.2).trans h.1, Nat.lt_of_lt_of_le h.2 bb.size⟩
end Go.Proofs.Ytehleeibgkpjmaf
/- Contract of stackBegun: it answers true. -/
namespace Go.Proofs.Ytehleeibgkpjmaf
open Go.RowKit Go.Shelf
set_option maxRecDepth 20000
set_option linter.unusedVariables false

def sbB : List ByteArray := [⟨#[120, 120, 120, 120]⟩, ⟨#[121, 121, 121, 121]⟩, ⟨#[122, 122, 122, 122]⟩]
def sbT : ImgD := ⟨6, [2, 4], [(0, ⟨#[]⟩, []), (1, aaaa, []), (2, ⟨#[]⟩, [1, 0, -1, 1]), (1, bbbb, []), (2, ⟨#[]⟩, [3, 0, 0, 0])], [0, 2, 1, 1, 1], []⟩
def sbC : List ByteArray := [aaaa, ⟨#[121, 121, 121, 121]⟩, ⟨#[0, 0, 0, 0]⟩, aaaa, ⟨#[98, 98, 98, 98]⟩, ⟨#[0, 0, 0, 0]⟩]
def sbW : ImgD := ⟨6, [2, 4], [(0, ⟨#[]⟩, []), (1, aaaa, []), (2, ⟨#[]⟩, [1, 5, -1, 1]), (1, bbbb, []), (2, ⟨#[]⟩, [3, 0, 0, 0]), (1, ⟨#[119, 119, 119, 119]⟩, [])], [0, 2, 1, 1, 1, 1], []⟩
theorem sb_check : scE sbB sbT = 0 := by decide +kernel
theorem sb_e1 : srE sbB sbT 1 = 0 := by decide +kernel
theorem sb_e2 : srE sbB sbT 2 = 0 := by decide +kernel
theorem sb_v1 : srV sbB sbT 1 = ⟨#[121, 121, 121, 121]⟩ := by kernel_rfl
theorem sb_v2 : srV sbB sbT 2 = ⟨#[0, 0, 0, 0]⟩ := by kernel_rfl
theorem sb_ce : ccE sbB sbT = 0 := by decide +kernel
theorem sb_cb : (if ccE sbB sbT = 0 then pgs sbB sbT else []) = sbC := by kernel_rfl
theorem sb_cm : (if ccE sbB sbT = 0 then freshD sbT.guest.toNat else imgZ) = freshD 6 := by kernel_rfl
theorem sb_we : skE sbB sbT 1 ⟨#[119, 119, 119, 119]⟩ = 0 := by decide +kernel
theorem sb_wm : skM sbB sbT 1 ⟨#[119, 119, 119, 119]⟩ = sbW := by kernel_rfl
theorem sb_wb : skB sbB sbT 1 ⟨#[119, 119, 119, 119]⟩ = sbB := by kernel_rfl

theorem Stk.base {w : World} {b : List ByteArray} {m : ImgD} {bv gv r s f n : Value} (h : Stk w (.agg #[bv, gv, r, s, f, n]) b m) : Ss w bv b := by
  obtain ⟨bv', r', s', f', n', e, h1, h2⟩ := h
  simp only [Value.agg.injEq, Array.mk.injEq, List.cons.injEq, and_true] at e
  rw [e.1]; exact h1
set_option maxHeartbeats 200000000 in
theorem stackBegun_any (w : World) : Calls Try.prog 10 #[] w fun r w' => r = .returned (.bool true) ∧ Below w.heap.size w w' := by
  go_enter Try.func10, Try.ntmps10
  go_wp2_with fail
  refine (pair_is _).mono ?_
  rintro e w1 ⟨⟨v, rfl, P⟩, bb⟩
  obtain ⟨ra, rc, sa, sc, fa, fc, na, nc, rfl, h1, h2, h3, h4⟩ := P.parts
  rw [show (pairD 6 [0, 2, 2, 1, 1] [3, 0, 0, 0]).guest = 6 from rfl, show (pairD 6 [0, 2, 2, 1, 1] [3, 0, 0, 0]).root.length = 2 from rfl, show (pairD 6 [0, 2, 2, 1, 1] [3, 0, 0, 0]).slots.length = 5 from rfl, show (pairD 6 [0, 2, 2, 1, 1] [3, 0, 0, 0]).refs.length = 5 from rfl, show (pairD 6 [0, 2, 2, 1, 1] [3, 0, 0, 0]).snaps.length = 1 from rfl]
  go_wp2_with fail
  rw [show (pairD 6 [0, 2, 2, 1, 1] [3, 0, 0, 0]).root.length = 2 from rfl] at h1
  rw [show (pairD 6 [0, 2, 2, 1, 1] [3, 0, 0, 0]).slots.length = 5 from rfl] at h2
  have ba : Below w1.heap.size w1 (w1.alloc (.cells #[.int .i64 6, .slice ra 2 rc, .slice sa 5 sc, .slice (some ⟨w1.heap.size + 1, 0, none⟩) 5 5, .slice none 0 0] 27)) := (Below.refl _ _).alloc (Nat.le_refl _) _
  have bc : Below ((w1.alloc (.cells #[.int .i64 6, .slice ra 2 rc, .slice sa 5 sc, .slice (some ⟨w1.heap.size + 1, 0, none⟩) 5 5, .slice none 0 0] 27)).alloc (.cells #[.int .i64 0, .int .i64 2, .int .i64 1, .int .i64 1, .int .i64 1] 3)).heap.size ((w1.alloc (.cells #[.int .i64 6, .slice ra 2 rc, .slice sa 5 sc, .slice (some ⟨w1.heap.size + 1, 0, none⟩) 5 5, .slice none 0 0] 27)).alloc (.cells #[.int .i64 0, .int .i64 2, .int .i64 1, .int .i64 1, .int .i64 1] 3)) (((w1.alloc (.cells #[.int .i64 6, .slice ra 2 rc, .slice sa 5 sc, .slice (some ⟨w1.heap.size + 1, 0, none⟩) 5 5, .slice none 0 0] 27)).alloc (.cells #[.int .i64 0, .int .i64 2, .int .i64 1, .int .i64 1, .int .i64 1] 3)).alloc (.cells #[.string ⟨#[120, 120, 120, 120]⟩, .string ⟨#[121, 121, 121, 121]⟩, .string ⟨#[122, 122, 122, 122]⟩] 9)) := (Below.refl _ _).alloc (Nat.le_refl _) _
  have bd : Below (((w1.alloc (.cells #[.int .i64 6, .slice ra 2 rc, .slice sa 5 sc, .slice (some ⟨w1.heap.size + 1, 0, none⟩) 5 5, .slice none 0 0] 27)).alloc (.cells #[.int .i64 0, .int .i64 2, .int .i64 1, .int .i64 1, .int .i64 1] 3)).alloc (.cells #[.string ⟨#[120, 120, 120, 120]⟩, .string ⟨#[121, 121, 121, 121]⟩, .string ⟨#[122, 122, 122, 122]⟩] 9)).heap.size (((w1.alloc (.cells #[.int .i64 6, .slice ra 2 rc, .slice sa 5 sc, .slice (some ⟨w1.heap.size + 1, 0, none⟩) 5 5, .slice none 0 0] 27)).alloc (.cells #[.int .i64 0, .int .i64 2, .int .i64 1, .int .i64 1, .int .i64 1] 3)).alloc (.cells #[.string ⟨#[120, 120, 120, 120]⟩, .string ⟨#[121, 121, 121, 121]⟩, .string ⟨#[122, 122, 122, 122]⟩] 9)) ((((w1.alloc (.cells #[.int .i64 6, .slice ra 2 rc, .slice sa 5 sc, .slice (some ⟨w1.heap.size + 1, 0, none⟩) 5 5, .slice none 0 0] 27)).alloc (.cells #[.int .i64 0, .int .i64 2, .int .i64 1, .int .i64 1, .int .i64 1] 3)).alloc (.cells #[.string ⟨#[120, 120, 120, 120]⟩, .string ⟨#[121, 121, 121, 121]⟩, .string ⟨#[122, 122, 122, 122]⟩] 9)).alloc (.cells #[.slice (some ⟨w1.heap.size + 1 + 1, 0, none⟩) 3 3, .int .i64 6, .slice ra 2 rc, .slice sa 5 sc, .slice (some ⟨w1.heap.size + 1, 0, none⟩) 5 5, .slice none 0 0] 29)) := (Below.refl _ _).alloc (Nat.le_refl _) _
  have bwb : Below w1.heap.size w1 ((w1.alloc (.cells #[.int .i64 6, .slice ra 2 rc, .slice sa 5 sc, .slice (some ⟨w1.heap.size + 1, 0, none⟩) 5 5, .slice none 0 0] 27)).alloc (.cells #[.int .i64 0, .int .i64 2, .int .i64 1, .int .i64 1, .int .i64 1] 3)) := ba.alloc (by simp) _
  have bwc : Below w1.heap.size w1 (((w1.alloc (.cells #[.int .i64 6, .slice ra 2 rc, .slice sa 5 sc, .slice (some ⟨w1.heap.size + 1, 0, none⟩) 5 5, .slice none 0 0] 27)).alloc (.cells #[.int .i64 0, .int .i64 2, .int .i64 1, .int .i64 1, .int .i64 1] 3)).alloc (.cells #[.string ⟨#[120, 120, 120, 120]⟩, .string ⟨#[121, 121, 121, 121]⟩, .string ⟨#[122, 122, 122, 122]⟩] 9)) := bwb.alloc (by simp <;> omega) _
  have bwd : Below w1.heap.size w1 ((((w1.alloc (.cells #[.int .i64 6, .slice ra 2 rc, .slice sa 5 sc, .slice (some ⟨w1.heap.size + 1, 0, none⟩) 5 5, .slice none 0 0] 27)).alloc (.cells #[.int .i64 0, .int .i64 2, .int .i64 1, .int .i64 1, .int .i64 1] 3)).alloc (.cells #[.string ⟨#[120, 120, 120, 120]⟩, .string ⟨#[121, 121, 121, 121]⟩, .string ⟨#[122, 122, 122, 122]⟩] 9)).alloc (.cells #[.slice (some ⟨w1.heap.size + 1 + 1, 0, none⟩) 3 3, .int .i64 6, .slice ra 2 rc, .slice sa 5 sc, .slice (some ⟨w1.heap.size + 1, 0, none⟩) 5 5, .slice none 0 0] 29)) := bwc.alloc (by simp <;> omega) _
  have hl := Sl_new (w1.alloc (.cells #[.int .i64 6, .slice ra 2 rc, .slice sa 5 sc, .slice (some ⟨w1.heap.size + 1, 0, none⟩) 5 5, .slice none 0 0] 27)) [0, 2, 1, 1, 1] 5 rfl (by decide)
  rw [show (w1.alloc (.cells #[.int .i64 6, .slice ra 2 rc, .slice sa 5 sc, .slice (some ⟨w1.heap.size + 1, 0, none⟩) 5 5, .slice none 0 0] 27)).heap.size = w1.heap.size + 1 by simp] at hl
  have hl : Sl ((w1.alloc (.cells #[.int .i64 6, .slice ra 2 rc, .slice sa 5 sc, .slice (some ⟨w1.heap.size + 1, 0, none⟩) 5 5, .slice none 0 0] 27)).alloc (.cells #[.int .i64 0, .int .i64 2, .int .i64 1, .int .i64 1, .int .i64 1] 3)) (.slice (some ⟨w1.heap.size + 1, 0, none⟩) 5 5) [0, 2, 1, 1, 1] := hl
  have hst := Ss_new ((w1.alloc (.cells #[.int .i64 6, .slice ra 2 rc, .slice sa 5 sc, .slice (some ⟨w1.heap.size + 1, 0, none⟩) 5 5, .slice none 0 0] 27)).alloc (.cells #[.int .i64 0, .int .i64 2, .int .i64 1, .int .i64 1, .int .i64 1] 3)) sbB 3 rfl (by decide)
  rw [show ((w1.alloc (.cells #[.int .i64 6, .slice ra 2 rc, .slice sa 5 sc, .slice (some ⟨w1.heap.size + 1, 0, none⟩) 5 5, .slice none 0 0] 27)).alloc (.cells #[.int .i64 0, .int .i64 2, .int .i64 1, .int .i64 1, .int .i64 1] 3)).heap.size = w1.heap.size + 1 + 1 by simp] at hst
  have hst : Ss (((w1.alloc (.cells #[.int .i64 6, .slice ra 2 rc, .slice sa 5 sc, .slice (some ⟨w1.heap.size + 1, 0, none⟩) 5 5, .slice none 0 0] 27)).alloc (.cells #[.int .i64 0, .int .i64 2, .int .i64 1, .int .i64 1, .int .i64 1] 3)).alloc (.cells #[.string ⟨#[120, 120, 120, 120]⟩, .string ⟨#[121, 121, 121, 121]⟩, .string ⟨#[122, 122, 122, 122]⟩] 9)) (.slice (some ⟨w1.heap.size + 1 + 1, 0, none⟩) 3 3) sbB := hst
  have K_s : Stk ((((w1.alloc (.cells #[.int .i64 6, .slice ra 2 rc, .slice sa 5 sc, .slice (some ⟨w1.heap.size + 1, 0, none⟩) 5 5, .slice none 0 0] 27)).alloc (.cells #[.int .i64 0, .int .i64 2, .int .i64 1, .int .i64 1, .int .i64 1] 3)).alloc (.cells #[.string ⟨#[120, 120, 120, 120]⟩, .string ⟨#[121, 121, 121, 121]⟩, .string ⟨#[122, 122, 122, 122]⟩] 9)).alloc (.cells #[.slice (some ⟨w1.heap.size + 1 + 1, 0, none⟩) 3 3, .int .i64 6, .slice ra 2 rc, .slice sa 5 sc, .slice (some ⟨w1.heap.size + 1, 0, none⟩) 5 5, .slice none 0 0] 29)) (.agg #[.slice (some ⟨w1.heap.size + 1 + 1, 0, none⟩) 3 3, .int .i64 6, .slice ra 2 rc, .slice sa 5 sc, .slice (some ⟨w1.heap.size + 1, 0, none⟩) 5 5, .slice none 0 0]) sbB sbT := ⟨_, _, _, _, _, rfl, hst.below bd, ⟨_, _, _, _, rfl, h1.below bwd, h2.below bwd, (hl.below bc).below bd, (OI.zero ((((w1.alloc (.cells #[.int .i64 6, .slice ra 2 rc, .slice sa 5 sc, .slice (some ⟨w1.heap.size + 1, 0, none⟩) 5 5, .slice none 0 0] 27)).alloc (.cells #[.int .i64 0, .int .i64 2, .int .i64 1, .int .i64 1, .int .i64 1] 3)).alloc (.cells #[.string ⟨#[120, 120, 120, 120]⟩, .string ⟨#[121, 121, 121, 121]⟩, .string ⟨#[122, 122, 122, 122]⟩] 9)).alloc (.cells #[.slice (some ⟨w1.heap.size + 1 + 1, 0, none⟩) 3 3, .int .i64 6, .slice ra 2 rc, .slice sa 5 sc, .slice (some ⟨w1.heap.size + 1, 0, none⟩) 5 5, .slice none 0 0] 29)) 0).img.four.2.2.2⟩⟩
  have mb_s : ((((w1.alloc (.cells #[.int .i64 6, .slice ra 2 rc, .slice sa 5 sc, .slice (some ⟨w1.heap.size + 1, 0, none⟩) 5 5, .slice none 0 0] 27)).alloc (.cells #[.int .i64 0, .int .i64 2, .int .i64 1, .int .i64 1, .int .i64 1] 3)).alloc (.cells #[.string ⟨#[120, 120, 120, 120]⟩, .string ⟨#[121, 121, 121, 121]⟩, .string ⟨#[122, 122, 122, 122]⟩] 9)).alloc (.cells #[.slice (some ⟨w1.heap.size + 1 + 1, 0, none⟩) 3 3, .int .i64 6, .slice ra 2 rc, .slice sa 5 sc, .slice (some ⟨w1.heap.size + 1, 0, none⟩) 5 5, .slice none 0 0] 29)).heap[w1.heap.size + 1 + 1 + 1]? = some (.cells #[.slice (some ⟨w1.heap.size + 1 + 1, 0, none⟩) 3 3, .int .i64 6, .slice ra 2 rc, .slice sa 5 sc, .slice (some ⟨w1.heap.size + 1, 0, none⟩) 5 5, .slice none 0 0] 29) := by have := World.alloc_heap_new (((w1.alloc (.cells #[.int .i64 6, .slice ra 2 rc, .slice sa 5 sc, .slice (some ⟨w1.heap.size + 1, 0, none⟩) 5 5, .slice none 0 0] 27)).alloc (.cells #[.int .i64 0, .int .i64 2, .int .i64 1, .int .i64 1, .int .i64 1] 3)).alloc (.cells #[.string ⟨#[120, 120, 120, 120]⟩, .string ⟨#[121, 121, 121, 121]⟩, .string ⟨#[122, 122, 122, 122]⟩] 9)) (.cells #[.slice (some ⟨w1.heap.size + 1 + 1, 0, none⟩) 3 3, .int .i64 6, .slice ra 2 rc, .slice sa 5 sc, .slice (some ⟨w1.heap.size + 1, 0, none⟩) 5 5, .slice none 0 0] 29); simpa using this
  have hB : Below w.heap.size w ((((w1.alloc (.cells #[.int .i64 6, .slice ra 2 rc, .slice sa 5 sc, .slice (some ⟨w1.heap.size + 1, 0, none⟩) 5 5, .slice none 0 0] 27)).alloc (.cells #[.int .i64 0, .int .i64 2, .int .i64 1, .int .i64 1, .int .i64 1] 3)).alloc (.cells #[.string ⟨#[120, 120, 120, 120]⟩, .string ⟨#[121, 121, 121, 121]⟩, .string ⟨#[122, 122, 122, 122]⟩] 9)).alloc (.cells #[.slice (some ⟨w1.heap.size + 1 + 1, 0, none⟩) 3 3, .int .i64 6, .slice ra 2 rc, .slice sa 5 sc, .slice (some ⟨w1.heap.size + 1, 0, none⟩) 5 5, .slice none 0 0] 29)) := Below.on bb bwd
  clear P h1 h2 h3 h4 ba bc bd bwb bwc bwd hl hst bb
  obtain ⟨W0, hW0⟩ : ∃ X, ((((w1.alloc (.cells #[.int .i64 6, .slice ra 2 rc, .slice sa 5 sc, .slice (some ⟨w1.heap.size + 1, 0, none⟩) 5 5, .slice none 0 0] 27)).alloc (.cells #[.int .i64 0, .int .i64 2, .int .i64 1, .int .i64 1, .int .i64 1] 3)).alloc (.cells #[.string ⟨#[120, 120, 120, 120]⟩, .string ⟨#[121, 121, 121, 121]⟩, .string ⟨#[122, 122, 122, 122]⟩] 9)).alloc (.cells #[.slice (some ⟨w1.heap.size + 1 + 1, 0, none⟩) 3 3, .int .i64 6, .slice ra 2 rc, .slice sa 5 sc, .slice (some ⟨w1.heap.size + 1, 0, none⟩) 5 5, .slice none 0 0] 29)) = X := ⟨_, rfl⟩
  rw [hW0] at K_s mb_s hB ⊢
  clear hW0
  refine (sk_read K_s 1 sb_e1 sb_v1).mono ?_
  rintro e w2 ⟨rfl, bb⟩
  replace mb_s := cells_below mb_s bb (Array.getElem?_eq_some_iff.1 mb_s).1
  replace hB := Below.on hB bb
  replace K_s := K_s.below bb
  clear bb
  obtain ⟨s0, s1, s2, s3, s4, s5⟩ := six mb_s
  have hh_mb_s := Hid_mkW mb_s
  have hh_K_s := Hid_mkW K_s
  have hh_hB := Hid_mkW hB
  clear mb_s K_s hB
  go_wp2_with fail
  clear s0 s1 s2 s3 s4 s5
  have mb_s := hh_mb_s.out
  have K_s := hh_K_s.out
  have hB := hh_hB.out
  clear hh_mb_s hh_K_s hh_hB
  refine (sk_read K_s 2 sb_e2 sb_v2).mono ?_
  rintro e w3 ⟨rfl, bb⟩
  replace mb_s := cells_below mb_s bb (Array.getElem?_eq_some_iff.1 mb_s).1
  replace hB := Below.on hB bb
  replace K_s := K_s.below bb
  clear bb
  obtain ⟨s0, s1, s2, s3, s4, s5⟩ := six mb_s
  have hh_mb_s := Hid_mkW mb_s
  have hh_K_s := Hid_mkW K_s
  have hh_hB := Hid_mkW hB
  clear mb_s K_s hB
  go_wp2_with fail
  clear s0 s1 s2 s3 s4 s5
  have mb_s := hh_mb_s.out
  have K_s := hh_K_s.out
  have hB := hh_hB.out
  clear hh_mb_s hh_K_s hh_hB
  refine (sk_commit K_s sb_ce sb_cb sb_cm).mono ?_
  rintro e w4 ⟨v, rfl, K_c, bb⟩
  obtain ⟨c_b, c_bc, c_r, c_rc, c_s, c_sc, c_f, c_fc, c_n, c_nc, rfl, hs_, hi_⟩ := K_c.parts
  clear hs_ hi_
  try dsimp only
  rw [show sbC.length = 6 from rfl, show (freshD 6).guest = 6 from rfl, show (freshD 6).root.length = 2 from rfl, show (freshD 6).slots.length = 1 from rfl, show (freshD 6).refs.length = 1 from rfl, show (freshD 6).snaps.length = 0 from rfl] at K_c ⊢
  replace mb_s := cells_below mb_s bb (Array.getElem?_eq_some_iff.1 mb_s).1
  replace hB := Below.on hB bb
  replace K_s := K_s.below bb
  clear bb
  replace mb_s := cells_alloc mb_s (.cells #[.slice c_b 6 c_bc, .int .i64 6, .slice c_r 2 c_rc, .slice c_s 1 c_sc, .slice c_f 1 c_fc, .slice c_n 0 c_nc] 29)
  have ba : Below w4.heap.size w4 (w4.alloc (.cells #[.slice c_b 6 c_bc, .int .i64 6, .slice c_r 2 c_rc, .slice c_s 1 c_sc, .slice c_f 1 c_fc, .slice c_n 0 c_nc] 29)) := (Below.refl _ _).alloc (Nat.le_refl _) _
  replace hB := Below.on hB ba
  replace K_s := K_s.below ba
  replace K_c := K_c.below ba
  clear ba
  have mb_c : (w4.alloc (.cells #[.slice c_b 6 c_bc, .int .i64 6, .slice c_r 2 c_rc, .slice c_s 1 c_sc, .slice c_f 1 c_fc, .slice c_n 0 c_nc] 29)).heap[w4.heap.size]? = some (.cells #[.slice c_b 6 c_bc, .int .i64 6, .slice c_r 2 c_rc, .slice c_s 1 c_sc, .slice c_f 1 c_fc, .slice c_n 0 c_nc] 29) := World.alloc_heap_new _ _
  obtain ⟨s0, s1, s2, s3, s4, s5⟩ := six mb_s
  have hh_mb_s := Hid_mkW mb_s
  have hh_mb_c := Hid_mkW mb_c
  have hh_K_s := Hid_mkW K_s
  have hh_K_c := Hid_mkW K_c
  have hh_hB := Hid_mkW hB
  clear mb_s mb_c K_s K_c hB
  go_wp2_with fail
  clear s0 s1 s2 s3 s4 s5
  have mb_s := hh_mb_s.out
  have mb_c := hh_mb_c.out
  have K_s := hh_K_s.out
  have K_c := hh_K_c.out
  have hB := hh_hB.out
  clear hh_mb_s hh_mb_c hh_K_s hh_K_c hh_hB
  refine (sk_write K_s 1 ⟨#[119, 119, 119, 119]⟩ sb_we sb_wm sb_wb).mono ?_
  rintro e w5 ⟨v, rfl, K_x, bb⟩
  obtain ⟨x_b, x_bc, x_r, x_rc, x_s, x_sc, x_f, x_fc, x_n, x_nc, rfl, hs_, hi_⟩ := K_x.parts
  clear hs_ hi_
  try dsimp only
  rw [show sbB.length = 3 from rfl, show sbW.guest = 6 from rfl, show sbW.root.length = 2 from rfl, show sbW.slots.length = 6 from rfl, show sbW.refs.length = 6 from rfl, show sbW.snaps.length = 0 from rfl] at K_x ⊢
  replace mb_s := cells_below mb_s bb (Array.getElem?_eq_some_iff.1 mb_s).1
  replace mb_c := cells_below mb_c bb (Array.getElem?_eq_some_iff.1 mb_c).1
  replace hB := Below.on hB bb
  replace K_s := K_s.below bb
  replace K_c := K_c.below bb
  clear bb
  replace mb_s := cells_alloc mb_s (.cells #[.slice x_b 3 x_bc, .int .i64 6, .slice x_r 2 x_rc, .slice x_s 6 x_sc, .slice x_f 6 x_fc, .slice x_n 0 x_nc] 29)
  replace mb_c := cells_alloc mb_c (.cells #[.slice x_b 3 x_bc, .int .i64 6, .slice x_r 2 x_rc, .slice x_s 6 x_sc, .slice x_f 6 x_fc, .slice x_n 0 x_nc] 29)
  have ba : Below w5.heap.size w5 (w5.alloc (.cells #[.slice x_b 3 x_bc, .int .i64 6, .slice x_r 2 x_rc, .slice x_s 6 x_sc, .slice x_f 6 x_fc, .slice x_n 0 x_nc] 29)) := (Below.refl _ _).alloc (Nat.le_refl _) _
  replace hB := Below.on hB ba
  replace K_s := K_s.below ba
  replace K_c := K_c.below ba
  replace K_x := K_x.below ba
  clear ba
  have mb_x : (w5.alloc (.cells #[.slice x_b 3 x_bc, .int .i64 6, .slice x_r 2 x_rc, .slice x_s 6 x_sc, .slice x_f 6 x_fc, .slice x_n 0 x_nc] 29)).heap[w5.heap.size]? = some (.cells #[.slice x_b 3 x_bc, .int .i64 6, .slice x_r 2 x_rc, .slice x_s 6 x_sc, .slice x_f 6 x_fc, .slice x_n 0 x_nc] 29) := World.alloc_heap_new _ _
  obtain ⟨pc, oc, hp_, lc, hc_⟩ := (Stk.base K_c).at (by decide)
  subst hp_
  have cc1 : CAt (w5.alloc (.cells #[.slice x_b 3 x_bc, .int .i64 6, .slice x_r 2 x_rc, .slice x_s 6 x_sc, .slice x_f 6 x_fc, .slice x_n 0 x_nc] 29)) ⟨pc, oc + 1, none⟩ (.string ⟨#[121, 121, 121, 121]⟩) := ⟨hc_ 1 (by decide), lc⟩
  have cc4 : CAt (w5.alloc (.cells #[.slice x_b 3 x_bc, .int .i64 6, .slice x_r 2 x_rc, .slice x_s 6 x_sc, .slice x_f 6 x_fc, .slice x_n 0 x_nc] 29)) ⟨pc, oc + 4, none⟩ (.string ⟨#[98, 98, 98, 98]⟩) := ⟨hc_ 4 (by decide), lc⟩
  clear hc_
  obtain ⟨px, ox, hp_, lx, hc_⟩ := (Stk.base K_x).at (by decide)
  subst hp_
  have cx1 : CAt (w5.alloc (.cells #[.slice (some ⟨px, ox, none⟩) 3 x_bc, .int .i64 6, .slice x_r 2 x_rc, .slice x_s 6 x_sc, .slice x_f 6 x_fc, .slice x_n 0 x_nc] 29)) ⟨px, ox + 1, none⟩ (.string ⟨#[121, 121, 121, 121]⟩) := ⟨hc_ 1 (by decide), lx⟩
  clear hc_
  clear K_c
  clear K_x
  obtain ⟨s0, s1, s2, s3, s4, s5⟩ := six mb_s
  have q_cc1 := cc1.1
  have q_cc4 := cc4.1
  have q_cx1 := cx1.1
  have hh_mb_s := Hid_mkW mb_s
  have hh_mb_c := Hid_mkW mb_c
  have hh_mb_x := Hid_mkW mb_x
  have hh_K_s := Hid_mkW K_s
  have hh_cc1 := Hid_mkW cc1
  have hh_cc4 := Hid_mkW cc4
  have hh_cx1 := Hid_mkW cx1
  have hh_hB := Hid_mkW hB
  clear mb_s mb_c mb_x K_s cc1 cc4 cx1 hB
  go_wp2_with fail
  clear s0 s1 s2 s3 s4 s5 q_cc1 q_cc4 q_cx1
  have mb_s := hh_mb_s.out
  have mb_c := hh_mb_c.out
  have mb_x := hh_mb_x.out
  have K_s := hh_K_s.out
  have cc1 := hh_cc1.out
  have cc4 := hh_cc4.out
  have cx1 := hh_cx1.out
  have hB := hh_hB.out
  clear hh_mb_s hh_mb_c hh_mb_x hh_K_s hh_cc1 hh_cc4 hh_cx1 hh_hB
  refine (sk_check K_s sb_check).mono ?_
  rintro e w6 ⟨rfl, bb⟩
  replace mb_s := cells_below mb_s bb (Array.getElem?_eq_some_iff.1 mb_s).1
  replace mb_c := cells_below mb_c bb (Array.getElem?_eq_some_iff.1 mb_c).1
  replace mb_x := cells_below mb_x bb (Array.getElem?_eq_some_iff.1 mb_x).1
  replace hB := Below.on hB bb
  replace K_s := K_s.below bb
  replace cc1 := cc1.below bb
  replace cc4 := cc4.below bb
  replace cx1 := cx1.below bb
  clear bb
  clear mb_s
  clear K_s
  obtain ⟨c0, c1, c2, c3, c4, c5⟩ := six mb_c
  obtain ⟨x0, x1, x2, x3, x4, x5⟩ := six mb_x
  have q_cc1 := cc1.1
  have q_cc4 := cc4.1
  have q_cx1 := cx1.1
  have hh_mb_c := Hid_mkW mb_c
  have hh_mb_x := Hid_mkW mb_x
  have hh_cc1 := Hid_mkW cc1
  have hh_cc4 := Hid_mkW cc4
  have hh_cx1 := Hid_mkW cx1
  have hh_hB := Hid_mkW hB
  clear mb_c mb_x cc1 cc4 cx1 hB
  go_wp2_with fail
  go_ret
  have hB := hh_hB.out
  exact ⟨rfl, hB⟩
end Go.Proofs.Ytehleeibgkpjmaf
