/- Texts joined: SkC, RdP, RdB, SkR, CpyS. -/
import Derived.Test.YtehleeibgkpjmafGreatStackCommitsJ10
import Derived.Test.YtehleeibgkpjmafGreatStackCommitsJ5
import Derived.Test.YtehleeibgkpjmafGreatStackCommitsJ1
import Derived.Deep.AppendLies
import Derived.Test.YtehleeibgkpjmafGreatStackCommitsJ4
/- Contracts of stack: Commit. -/
namespace Go.Proofs.YtehleeibgkpjmafGreat
open Go.RowKit Go.Shelf
set_option maxRecDepth 20000
set_option linter.unusedVariables false
set_option linter.unusedSimpArgs false

def rowK (b : List ByteArray) (m : ImgD) (g k : Nat) : List ByteArray := (List.range g).map (fun n : Nat => if n < k then srV b m (n : Int) else ByteArray.empty)
def pgs (b : List ByteArray) (m : ImgD) : List ByteArray := (List.range m.guest.toNat).map (fun n : Nat => srV b m (n : Int))
theorem rowK_length (b : List ByteArray) (m : ImgD) (g k : Nat) : (rowK b m g k).length = g := by simp [rowK]
theorem rowK_zero (b : List ByteArray) (m : ImgD) (g : Nat) : rowK b m g 0 = List.replicate g ByteArray.empty := by
  apply List.ext_getElem <;> simp [rowK]
theorem rowK_end (b : List ByteArray) (m : ImgD) (g : Nat) : rowK b m g g = (List.range g).map (fun n : Nat => srV b m (n : Int)) := by
  unfold rowK
  exact List.map_congr_left fun n hn => by rw [if_pos (List.mem_range.1 hn)]
theorem rowK_set (b : List ByteArray) (m : ImgD) (g k : Nat) : (rowK b m g k).set k (srV b m (k : Int)) = rowK b m g (k + 1) := by
  unfold rowK
  apply List.ext_getElem
  · simp
  · intro i h1 h2
    rw [List.getElem_set]
    simp only [List.getElem_map, List.getElem_range]
    by_cases e : k = i
    · subst e; rw [if_pos rfl, if_pos (by omega)]
    · rw [if_neg e]
      by_cases h : i < k
      · rw [if_pos h, if_pos (by omega)]
      · rw [if_neg h, if_neg (by omega)]
theorem sr_in {b : List ByteArray} {m : ImgD} (h : scE b m = 0) {k : Nat} (hk : (k : Int) < m.guest) : srE b m (k : Int) = 0 := by
  unfold srE
  rw [if_neg (by simpa using h)]
  exact lookE_of (scE_zero h).2 hk
set_option maxHeartbeats 4000000 in
theorem sk_pages_at (ba : Option Addr) (bc : Nat) (ra : Option Addr) (rc : Nat) (sa : Option Addr) (sc : Nat) (fa : Option Addr) (fc : Nat) (na : Option Addr) (nc : Nat) (b : List ByteArray) (m : ImgD) (g : Nat) (w : World) (hS : Ss w (.slice ba b.length bc) b) (hI : Img w (.agg #[.int .i64 (g : Int), .slice ra m.root.length rc, .slice sa m.slots.length sc, .slice fa m.refs.length fc, .slice na m.snaps.length nc]) m) (hC : scE b m = 0) (hg : m.guest = (g : Int)) (hg16 : g ≤ 16) :
    Calls Tryz.prog 21 #[.agg #[.slice ba b.length bc, .int .i64 (g : Int), .slice ra m.root.length rc, .slice sa m.slots.length sc, .slice fa m.refs.length fc, .slice na m.snaps.length nc]] w fun r w' => (r = .returned (.tuple #[.slice (some ⟨w.heap.size + 1, 0, none⟩) g g, .int .i64 0]) ∧ SAt w' (w.heap.size + 1) (rowK b m g g)) ∧ Below w.heap.size w w' := by
  have b0 : Below w.heap.size w (w.alloc (.cells #[.slice ba b.length bc, .int .i64 (g : Int), .slice ra m.root.length rc, .slice sa m.slots.length sc, .slice fa m.refs.length fc, .slice na m.snaps.length nc] 29)) := (Below.refl _ _).alloc (Nat.le_refl _) _
  have q0 : (w.alloc (.cells #[.slice ba b.length bc, .int .i64 (g : Int), .slice ra m.root.length rc, .slice sa m.slots.length sc, .slice fa m.refs.length fc, .slice na m.snaps.length nc] 29)).heap[w.heap.size]? = some (.cells #[.slice ba b.length bc, .int .i64 (g : Int), .slice ra m.root.length rc, .slice sa m.slots.length sc, .slice fa m.refs.length fc, .slice na m.snaps.length nc] 29) := World.alloc_heap_new _ _
  obtain ⟨c0, c1, c2, c3, c4, c5⟩ := six q0
  have hmk := mk_strs g (by omega)
  have hz : (w.alloc (.cells #[.slice ba b.length bc, .int .i64 (g : Int), .slice ra m.root.length rc, .slice sa m.slots.length sc, .slice fa m.refs.length fc, .slice na m.snaps.length nc] 29)).heap.size = w.heap.size + 1 := by simp
  obtain ⟨W0, hW0⟩ : ∃ W0, (w.alloc (.cells #[.slice ba b.length bc, .int .i64 (g : Int), .slice ra m.root.length rc, .slice sa m.slots.length sc, .slice fa m.refs.length fc, .slice na m.snaps.length nc] 29)).alloc (.cells ((List.replicate g ByteArray.empty).map Value.string).toArray 9) = W0 := ⟨_, rfl⟩
  have l0 : SAt W0 (w.heap.size + 1) (rowK b m g 0) := by
    have := World.alloc_heap_new (w.alloc (.cells #[.slice ba b.length bc, .int .i64 (g : Int), .slice ra m.root.length rc, .slice sa m.slots.length sc, .slice fa m.refs.length fc, .slice na m.snaps.length nc] 29)) (.cells ((List.replicate g ByteArray.empty).map Value.string).toArray 9)
    rw [hW0, hz] at this
    rw [rowK_zero]
    exact this
  have b1 : Below (w.heap.size + 1) (w.alloc (.cells #[.slice ba b.length bc, .int .i64 (g : Int), .slice ra m.root.length rc, .slice sa m.slots.length sc, .slice fa m.refs.length fc, .slice na m.snaps.length nc] 29)) W0 := by rw [← hW0, ← hz]; exact (Below.refl _ _).alloc (Nat.le_refl _) _
  have HS : Hid (Stk (w.alloc (.cells #[.slice ba b.length bc, .int .i64 (g : Int), .slice ra m.root.length rc, .slice sa m.slots.length sc, .slice fa m.refs.length fc, .slice na m.snaps.length nc] 29)) (.agg #[.slice ba b.length bc, .int .i64 (g : Int), .slice ra m.root.length rc, .slice sa m.slots.length sc, .slice fa m.refs.length fc, .slice na m.snaps.length nc]) b m) := ⟨_, _, _, _, _, by rw [hg], hS.below b0, by rw [hg]; exact hI.below b0⟩
  have HQ : Hid ((w.alloc (.cells #[.slice ba b.length bc, .int .i64 (g : Int), .slice ra m.root.length rc, .slice sa m.slots.length sc, .slice fa m.refs.length fc, .slice na m.snaps.length nc] 29)).heap[w.heap.size]? = some (.cells #[.slice ba b.length bc, .int .i64 (g : Int), .slice ra m.root.length rc, .slice sa m.slots.length sc, .slice fa m.refs.length fc, .slice na m.snaps.length nc] 29)) := q0
  have HB : Hid (Below w.heap.size w (w.alloc (.cells #[.slice ba b.length bc, .int .i64 (g : Int), .slice ra m.root.length rc, .slice sa m.slots.length sc, .slice fa m.refs.length fc, .slice na m.snaps.length nc] 29)) ∧ (w.alloc (.cells #[.slice ba b.length bc, .int .i64 (g : Int), .slice ra m.root.length rc, .slice sa m.slots.length sc, .slice fa m.refs.length fc, .slice na m.snaps.length nc] 29)).heap.size = w.heap.size + 1) := ⟨b0, hz⟩
  have HC : Hid (scE b m = 0 ∧ m.guest = (g : Int)) := ⟨hC, hg⟩
  clear hS hI hC hg b0 hz q0
  go_enter Tryz.func21, Tryz.ntmps21
  go_wp2_with fail
  rw [show (w.alloc (.cells #[.slice ba b.length bc, .int .i64 (g : Int), .slice ra m.root.length rc, .slice sa m.slots.length sc, .slice fa m.refs.length fc, .slice na m.snaps.length nc] 29)).alloc (Obj.cells (Array.replicate g (Value.string ByteArray.empty)) 9) = W0 by rw [← hW0]; simp]
  clear hmk hW0 c0 c1 c2 c3 c4 c5
  go_loopw [5, 6, 7, 14] (fun _ _ _ i wq => ∃ k : Nat, k ≤ g ∧ i = .int .i64 k ∧ SAt wq (w.heap.size + 1) (rowK b m g k) ∧ Below (w.heap.size + 1) (w.alloc (.cells #[.slice ba b.length bc, .int .i64 (g : Int), .slice ra m.root.length rc, .slice sa m.slots.length sc, .slice fa m.refs.length fc, .slice na m.snaps.length nc] 29)) wq) (fun _ _ _ i _ => g - (intOf i).toNat)
  case atStart => exact ⟨0, Nat.zero_le _, rfl, l0, b1⟩
  case round =>
    obtain ⟨k, hk, rfl, hL, hbel⟩ := hrel
    by_cases hlk : k < g
    · have hki : (k : Int) < (g : Int) := by omega
      have hq := cells_below HQ.out hbel (by omega)
      obtain ⟨c0, c1, c2, c3, c4, c5⟩ := six hq
      have hbel' : Below (w.alloc (.cells #[.slice ba b.length bc, .int .i64 (g : Int), .slice ra m.root.length rc, .slice sa m.slots.length sc, .slice fa m.refs.length fc, .slice na m.snaps.length nc] 29)).heap.size (w.alloc (.cells #[.slice ba b.length bc, .int .i64 (g : Int), .slice ra m.root.length rc, .slice sa m.slots.length sc, .slice fa m.refs.length fc, .slice na m.snaps.length nc] 29)) wr := by rw [HB.out.2]; exact hbel
      obtain ⟨p, hp⟩ : ∃ p, srV b m (k : Int) = p := ⟨_, rfl⟩
      have hcall := sk_read (HS.out.below hbel') (k : Int) (sr_in HC.out.1 (by rw [HC.out.2]; exact hki)) hp
      have HP : Hid ((rowK b m g k).set k p = rowK b m g (k + 1)) := by show _ = _; rw [← hp]; exact rowK_set b m g k
      have hfx := hL.frozen k
      have hcx := hL.cell (j := k) (by rw [rowK_length]; exact hlk)
      have hzr := hL.lt
      clear hp hbel'
      go_wp2_with fail
      refine hcall.mono ?_
      rintro e w1 ⟨rfl, b2⟩
      have hL1 := hL.below b2 hzr
      have hfx := hL1.frozen k
      have hcx := hL1.cell (j := k) (by rw [rowK_length]; exact hlk)
      have hb1 : Below (w.heap.size + 1) (w.alloc (.cells #[.slice ba b.length bc, .int .i64 (g : Int), .slice ra m.root.length rc, .slice sa m.slots.length sc, .slice fa m.refs.length fc, .slice na m.snaps.length nc] 29)) w1 := hbel.trans (b2.mono (by omega))
      clear hcall
      go_wp2_with fail
      go_roundw
      case rel => exact ⟨k + 1, by omega, by go_num, by rw [← HP.out]; exact hL1.set k p, hb1.setCell (Nat.le_refl _) _⟩
      case measure => simp [intOf]; omega
    · have e4 : k = g := by omega
      subst e4
      go_wp2_with fail
      go_ret2
      exact ⟨⟨rfl, hL⟩, HB.out.1.trans (hbel.mono (Nat.le_succ _))⟩

def ccE (b : List ByteArray) (m : ImgD) : Int := if scE b m ≠ 0 then scE b m else if m.snaps = [] then 0 else 8
set_option maxHeartbeats 4000000 in
theorem sk_commit_bad (ba : Option Addr) (bc : Nat) (ra : Option Addr) (rc : Nat) (sa : Option Addr) (sc : Nat) (fa : Option Addr) (fc : Nat) (na : Option Addr) (nc : Nat) (b : List ByteArray) (m : ImgD) (w : World) (hS : Ss w (.slice ba b.length bc) b) (hI : Img w (.agg #[.int .i64 m.guest, .slice ra m.root.length rc, .slice sa m.slots.length sc, .slice fa m.refs.length fc, .slice na m.snaps.length nc]) m) (E : Int) (hE : scE b m = E) (hne : (E != 0) = true) :
    Calls Tryz.prog 6 #[.agg #[.slice ba b.length bc, .int .i64 m.guest, .slice ra m.root.length rc, .slice sa m.slots.length sc, .slice fa m.refs.length fc, .slice na m.snaps.length nc]] w (AnsK w [] imgZ E) := by
  have b0 : Below w.heap.size w ((w.alloc (.cells #[.slice ba b.length bc, .int .i64 m.guest, .slice ra m.root.length rc, .slice sa m.slots.length sc, .slice fa m.refs.length fc, .slice na m.snaps.length nc] 29)).alloc (.cells #[.slice none 0 0, .int .i64 0, .slice none 0 0, .slice none 0 0, .slice none 0 0, .slice none 0 0] 29)) := ((Below.refl _ _).alloc (Nat.le_refl _) _).alloc (by simp) _
  have q0 : ((w.alloc (.cells #[.slice ba b.length bc, .int .i64 m.guest, .slice ra m.root.length rc, .slice sa m.slots.length sc, .slice fa m.refs.length fc, .slice na m.snaps.length nc] 29)).alloc (.cells #[.slice none 0 0, .int .i64 0, .slice none 0 0, .slice none 0 0, .slice none 0 0, .slice none 0 0] 29)).heap[w.heap.size]? = some (.cells #[.slice ba b.length bc, .int .i64 m.guest, .slice ra m.root.length rc, .slice sa m.slots.length sc, .slice fa m.refs.length fc, .slice na m.snaps.length nc] 29) := cells_alloc (World.alloc_heap_new _ _) _
  have r0 : ((w.alloc (.cells #[.slice ba b.length bc, .int .i64 m.guest, .slice ra m.root.length rc, .slice sa m.slots.length sc, .slice fa m.refs.length fc, .slice na m.snaps.length nc] 29)).alloc (.cells #[.slice none 0 0, .int .i64 0, .slice none 0 0, .slice none 0 0, .slice none 0 0, .slice none 0 0] 29)).heap[w.heap.size + 1]? = some (.cells #[.slice none 0 0, .int .i64 0, .slice none 0 0, .slice none 0 0, .slice none 0 0, .slice none 0 0] 29) := by have := World.alloc_heap_new (w.alloc (.cells #[.slice ba b.length bc, .int .i64 m.guest, .slice ra m.root.length rc, .slice sa m.slots.length sc, .slice fa m.refs.length fc, .slice na m.snaps.length nc] 29)) (.cells #[.slice none 0 0, .int .i64 0, .slice none 0 0, .slice none 0 0, .slice none 0 0, .slice none 0 0] 29); simpa using this
  have hz : w.heap.size + 1 < ((w.alloc (.cells #[.slice ba b.length bc, .int .i64 m.guest, .slice ra m.root.length rc, .slice sa m.slots.length sc, .slice fa m.refs.length fc, .slice na m.snaps.length nc] 29)).alloc (.cells #[.slice none 0 0, .int .i64 0, .slice none 0 0, .slice none 0 0, .slice none 0 0, .slice none 0 0] 29)).heap.size := by simp
  have hS1 := hS.below b0
  have hI1 := hI.below b0
  obtain ⟨c0, c1, c2, c3, c4, c5⟩ := six q0
  have hck := sk_check (w := ((w.alloc (.cells #[.slice ba b.length bc, .int .i64 m.guest, .slice ra m.root.length rc, .slice sa m.slots.length sc, .slice fa m.refs.length fc, .slice na m.snaps.length nc] 29)).alloc (.cells #[.slice none 0 0, .int .i64 0, .slice none 0 0, .slice none 0 0, .slice none 0 0, .slice none 0 0] 29))) (v := .agg #[.slice ba b.length bc, .int .i64 m.guest, .slice ra m.root.length rc, .slice sa m.slots.length sc, .slice fa m.refs.length fc, .slice na m.snaps.length nc]) ⟨_, _, _, _, _, rfl, hS1, hI1⟩ hE
  clear hS hI hI1 hS1 hE
  go_enter Tryz.func6, Tryz.ntmps6
  go_wp2_with (go_at_call 20; refine hck.mono ?_; rintro e w1 ⟨rfl, b1⟩; have q1 := cells_below q0 b1 (by omega); have r1 := cells_below r0 b1 hz; obtain ⟨d0, d1, d2, d3, d4, d5⟩ := six q1; obtain ⟨x0, x1, x2, x3, x4, x5⟩ := six r1; have y0 := cells_frozen r1 0; have y1 := cells_frozen r1 1; have y2 := cells_frozen r1 2; have y3 := cells_frozen r1 3; have y4 := cells_frozen r1 4; have y5 := cells_frozen r1 5)
  refine bodyPost_ret (v := .tuple #[.agg #[.slice none 0 0, .int .i64 0, .slice none 0 0, .slice none 0 0, .slice none 0 0, .slice none 0 0], .int .i64 E]) (by simp [results, Tryz.results6, go_sem, x0, x1, x2, x3, x4, x5]) rfl ⟨_, rfl, Stk.zero _, six_below (Below.on b0 b1) _ _ _ _ _ _⟩
set_option maxHeartbeats 4000000 in
theorem sk_commit_busy (ba : Option Addr) (bc : Nat) (ra : Option Addr) (rc : Nat) (sa : Option Addr) (sc : Nat) (fa : Option Addr) (fc : Nat) (na : Option Addr) (nc : Nat) (b : List ByteArray) (m : ImgD) (w : World) (hS : Ss w (.slice ba b.length bc) b) (hI : Img w (.agg #[.int .i64 m.guest, .slice ra m.root.length rc, .slice sa m.slots.length sc, .slice fa m.refs.length fc, .slice na m.snaps.length nc]) m) (hE : scE b m = 0) (hne : decide (0 < m.snaps.length) = true) :
    Calls Tryz.prog 6 #[.agg #[.slice ba b.length bc, .int .i64 m.guest, .slice ra m.root.length rc, .slice sa m.slots.length sc, .slice fa m.refs.length fc, .slice na m.snaps.length nc]] w (AnsK w [] imgZ 8) := by
  have b0 : Below w.heap.size w ((w.alloc (.cells #[.slice ba b.length bc, .int .i64 m.guest, .slice ra m.root.length rc, .slice sa m.slots.length sc, .slice fa m.refs.length fc, .slice na m.snaps.length nc] 29)).alloc (.cells #[.slice none 0 0, .int .i64 0, .slice none 0 0, .slice none 0 0, .slice none 0 0, .slice none 0 0] 29)) := ((Below.refl _ _).alloc (Nat.le_refl _) _).alloc (by simp) _
  have q0 : ((w.alloc (.cells #[.slice ba b.length bc, .int .i64 m.guest, .slice ra m.root.length rc, .slice sa m.slots.length sc, .slice fa m.refs.length fc, .slice na m.snaps.length nc] 29)).alloc (.cells #[.slice none 0 0, .int .i64 0, .slice none 0 0, .slice none 0 0, .slice none 0 0, .slice none 0 0] 29)).heap[w.heap.size]? = some (.cells #[.slice ba b.length bc, .int .i64 m.guest, .slice ra m.root.length rc, .slice sa m.slots.length sc, .slice fa m.refs.length fc, .slice na m.snaps.length nc] 29) := cells_alloc (World.alloc_heap_new _ _) _
  have r0 : ((w.alloc (.cells #[.slice ba b.length bc, .int .i64 m.guest, .slice ra m.root.length rc, .slice sa m.slots.length sc, .slice fa m.refs.length fc, .slice na m.snaps.length nc] 29)).alloc (.cells #[.slice none 0 0, .int .i64 0, .slice none 0 0, .slice none 0 0, .slice none 0 0, .slice none 0 0] 29)).heap[w.heap.size + 1]? = some (.cells #[.slice none 0 0, .int .i64 0, .slice none 0 0, .slice none 0 0, .slice none 0 0, .slice none 0 0] 29) := by have := World.alloc_heap_new (w.alloc (.cells #[.slice ba b.length bc, .int .i64 m.guest, .slice ra m.root.length rc, .slice sa m.slots.length sc, .slice fa m.refs.length fc, .slice na m.snaps.length nc] 29)) (.cells #[.slice none 0 0, .int .i64 0, .slice none 0 0, .slice none 0 0, .slice none 0 0, .slice none 0 0] 29); simpa using this
  have hz : w.heap.size + 1 < ((w.alloc (.cells #[.slice ba b.length bc, .int .i64 m.guest, .slice ra m.root.length rc, .slice sa m.slots.length sc, .slice fa m.refs.length fc, .slice na m.snaps.length nc] 29)).alloc (.cells #[.slice none 0 0, .int .i64 0, .slice none 0 0, .slice none 0 0, .slice none 0 0, .slice none 0 0] 29)).heap.size := by simp
  have hS1 := hS.below b0
  have hI1 := hI.below b0
  obtain ⟨c0, c1, c2, c3, c4, c5⟩ := six q0
  have hck := sk_check (w := ((w.alloc (.cells #[.slice ba b.length bc, .int .i64 m.guest, .slice ra m.root.length rc, .slice sa m.slots.length sc, .slice fa m.refs.length fc, .slice na m.snaps.length nc] 29)).alloc (.cells #[.slice none 0 0, .int .i64 0, .slice none 0 0, .slice none 0 0, .slice none 0 0, .slice none 0 0] 29))) (v := .agg #[.slice ba b.length bc, .int .i64 m.guest, .slice ra m.root.length rc, .slice sa m.slots.length sc, .slice fa m.refs.length fc, .slice na m.snaps.length nc]) ⟨_, _, _, _, _, rfl, hS1, hI1⟩ hE
  clear hS hI hI1 hS1 hE
  go_enter Tryz.func6, Tryz.ntmps6
  go_wp2_with (go_at_call 20; refine hck.mono ?_; rintro e w1 ⟨rfl, b1⟩; have q1 := cells_below q0 b1 (by omega); have r1 := cells_below r0 b1 hz; obtain ⟨d0, d1, d2, d3, d4, d5⟩ := six q1; obtain ⟨x0, x1, x2, x3, x4, x5⟩ := six r1; have y0 := cells_frozen r1 0; have y1 := cells_frozen r1 1; have y2 := cells_frozen r1 2; have y3 := cells_frozen r1 3; have y4 := cells_frozen r1 4; have y5 := cells_frozen r1 5)
  refine bodyPost_ret (v := .tuple #[.agg #[.slice none 0 0, .int .i64 0, .slice none 0 0, .slice none 0 0, .slice none 0 0, .slice none 0 0], .int .i64 8]) (by simp [results, Tryz.results6, go_sem, x0, x1, x2, x3, x4, x5]) rfl ⟨_, rfl, Stk.zero _, six_below (Below.on b0 b1) _ _ _ _ _ _⟩
set_option maxHeartbeats 4000000 in
theorem sk_commit_ok (ba : Option Addr) (bc : Nat) (ra : Option Addr) (rc : Nat) (sa : Option Addr) (sc : Nat) (fa : Option Addr) (fc : Nat) (na : Option Addr) (nc : Nat) (b : List ByteArray) (m : ImgD) (g : Nat) (w : World) (hS : Ss w (.slice ba b.length bc) b) (hI : Img w (.agg #[.int .i64 (g : Int), .slice ra m.root.length rc, .slice sa m.slots.length sc, .slice fa m.refs.length fc, .slice na m.snaps.length nc]) m) (hE : scE b m = 0) (hsn : decide (0 < m.snaps.length) = false) (hg : m.guest = (g : Int)) (hg16 : g ≤ 16) (M : ImgD) (hM : freshD g = M) :
    Calls Tryz.prog 6 #[.agg #[.slice ba b.length bc, .int .i64 (g : Int), .slice ra m.root.length rc, .slice sa m.slots.length sc, .slice fa m.refs.length fc, .slice na m.snaps.length nc]] w (AnsK w (rowK b m g g) M 0) := by
  have b0 : Below w.heap.size w ((w.alloc (.cells #[.slice ba b.length bc, .int .i64 (g : Int), .slice ra m.root.length rc, .slice sa m.slots.length sc, .slice fa m.refs.length fc, .slice na m.snaps.length nc] 29)).alloc (.cells #[.slice none 0 0, .int .i64 0, .slice none 0 0, .slice none 0 0, .slice none 0 0, .slice none 0 0] 29)) := ((Below.refl _ _).alloc (Nat.le_refl _) _).alloc (by simp) _
  have q0 : ((w.alloc (.cells #[.slice ba b.length bc, .int .i64 (g : Int), .slice ra m.root.length rc, .slice sa m.slots.length sc, .slice fa m.refs.length fc, .slice na m.snaps.length nc] 29)).alloc (.cells #[.slice none 0 0, .int .i64 0, .slice none 0 0, .slice none 0 0, .slice none 0 0, .slice none 0 0] 29)).heap[w.heap.size]? = some (.cells #[.slice ba b.length bc, .int .i64 (g : Int), .slice ra m.root.length rc, .slice sa m.slots.length sc, .slice fa m.refs.length fc, .slice na m.snaps.length nc] 29) := cells_alloc (World.alloc_heap_new _ _) _
  have r0 : ((w.alloc (.cells #[.slice ba b.length bc, .int .i64 (g : Int), .slice ra m.root.length rc, .slice sa m.slots.length sc, .slice fa m.refs.length fc, .slice na m.snaps.length nc] 29)).alloc (.cells #[.slice none 0 0, .int .i64 0, .slice none 0 0, .slice none 0 0, .slice none 0 0, .slice none 0 0] 29)).heap[w.heap.size + 1]? = some (.cells #[.slice none 0 0, .int .i64 0, .slice none 0 0, .slice none 0 0, .slice none 0 0, .slice none 0 0] 29) := by have := World.alloc_heap_new (w.alloc (.cells #[.slice ba b.length bc, .int .i64 (g : Int), .slice ra m.root.length rc, .slice sa m.slots.length sc, .slice fa m.refs.length fc, .slice na m.snaps.length nc] 29)) (.cells #[.slice none 0 0, .int .i64 0, .slice none 0 0, .slice none 0 0, .slice none 0 0, .slice none 0 0] 29); simpa using this
  have hz : w.heap.size + 1 < ((w.alloc (.cells #[.slice ba b.length bc, .int .i64 (g : Int), .slice ra m.root.length rc, .slice sa m.slots.length sc, .slice fa m.refs.length fc, .slice na m.snaps.length nc] 29)).alloc (.cells #[.slice none 0 0, .int .i64 0, .slice none 0 0, .slice none 0 0, .slice none 0 0, .slice none 0 0] 29)).heap.size := by simp
  have hS1 := hS.below b0
  have hI1 := hI.below b0
  obtain ⟨c0, c1, c2, c3, c4, c5⟩ := six q0
  have hck := sk_check (w := ((w.alloc (.cells #[.slice ba b.length bc, .int .i64 (g : Int), .slice ra m.root.length rc, .slice sa m.slots.length sc, .slice fa m.refs.length fc, .slice na m.snaps.length nc] 29)).alloc (.cells #[.slice none 0 0, .int .i64 0, .slice none 0 0, .slice none 0 0, .slice none 0 0, .slice none 0 0] 29))) (v := .agg #[.slice ba b.length bc, .int .i64 (g : Int), .slice ra m.root.length rc, .slice sa m.slots.length sc, .slice fa m.refs.length fc, .slice na m.snaps.length nc]) ⟨_, _, _, _, _, by rw [hg], hS1, by rw [hg]; exact hI1⟩ hE
  have HP : Hid (∀ w1, Below ((w.alloc (.cells #[.slice ba b.length bc, .int .i64 (g : Int), .slice ra m.root.length rc, .slice sa m.slots.length sc, .slice fa m.refs.length fc, .slice na m.snaps.length nc] 29)).alloc (.cells #[.slice none 0 0, .int .i64 0, .slice none 0 0, .slice none 0 0, .slice none 0 0, .slice none 0 0] 29)).heap.size ((w.alloc (.cells #[.slice ba b.length bc, .int .i64 (g : Int), .slice ra m.root.length rc, .slice sa m.slots.length sc, .slice fa m.refs.length fc, .slice na m.snaps.length nc] 29)).alloc (.cells #[.slice none 0 0, .int .i64 0, .slice none 0 0, .slice none 0 0, .slice none 0 0, .slice none 0 0] 29)) w1 → Calls Tryz.prog 21 #[.agg #[.slice ba b.length bc, .int .i64 (g : Int), .slice ra m.root.length rc, .slice sa m.slots.length sc, .slice fa m.refs.length fc, .slice na m.snaps.length nc]] w1 fun r w' => (r = .returned (.tuple #[.slice (some ⟨w1.heap.size + 1, 0, none⟩) g g, .int .i64 0]) ∧ SAt w' (w1.heap.size + 1) (rowK b m g g)) ∧ Below w1.heap.size w1 w') := fun w1 b1 => sk_pages_at ba bc ra rc sa sc fa fc na nc b m g w1 (hS1.below b1) (hI1.below b1) hE hg hg16
  have hMg : M.guest = (g : Int) := by rw [← hM]; rfl
  have HF : Hid (∀ w2, Calls Tryz.prog 22 #[.int .i64 (g : Int)] w2 (AnsI w2 w2.heap.size M 0)) := fun w2 => fresh_is (g : Int) w2 ((frs_is g hg16).1.trans hM) (frs_is g hg16).2.1
  have HG : Hid (M.guest = (g : Int)) := hMg
  clear hS hI hI1 hS1 hE hg hM hMg
  go_enter Tryz.func6, Tryz.ntmps6
  go_wp2_with (first
    | (go_at_call 22; refine (HF.out w2).mono ?_; intro e w3 hA; obtain ⟨val, g0, k0, g1, k1, g2, k2, g3, k3, rfl, hO, b3, hI⟩ := hA.open; rw [HG.out] at hI ⊢; have r3 := cells_alloc (cells_below r2 b3 (by have := b1.size; have := b2.size; omega)) (.cells #[.int .i64 (g : Int), .slice g0 M.root.length k0, .slice g1 M.slots.length k1, .slice g2 M.refs.length k2, .slice g3 M.snaps.length k3] 27); have m3 : (w3.alloc (.cells #[.int .i64 (g : Int), .slice g0 M.root.length k0, .slice g1 M.slots.length k1, .slice g2 M.refs.length k2, .slice g3 M.snaps.length k3] 27)).heap[w3.heap.size]? = some (.cells #[.int .i64 (g : Int), .slice g0 M.root.length k0, .slice g1 M.slots.length k1, .slice g2 M.refs.length k2, .slice g3 M.snaps.length k3] 27) := World.alloc_heap_new _ _; obtain ⟨u0, u1, u2, u3, u4, u5⟩ := six r3; have v0 := cells_frozen r3 0; have v1 := cells_frozen r3 1; have v2 := cells_frozen r3 2; have v3 := cells_frozen r3 3; have v4 := cells_frozen r3 4; have v5 := cells_frozen r3 5; obtain ⟨n0, n1, n2, n3, n4⟩ := five m3)
    | (go_at_call 21; refine (HP.out w1 b1).mono ?_; rintro e w2 ⟨⟨rfl, hL⟩, b2⟩; have q2 := cells_below q1 b2 (by have := b1.size; omega); have r2 := cells_below r1 b2 (by have := b1.size; omega); obtain ⟨e0, e1, e2, e3, e4, e5⟩ := six q2; have HL : Hid (SAt w2 (w1.heap.size + 1) (rowK b m g g)) := hL)
    | (go_at_call 20; refine hck.mono ?_; rintro e w1 ⟨rfl, b1⟩; have q1 := cells_below q0 b1 (by omega); have r1 := cells_below r0 b1 hz; obtain ⟨d0, d1, d2, d3, d4, d5⟩ := six q1; obtain ⟨x0, x1, x2, x3, x4, x5⟩ := six r1; have y0 := cells_frozen r1 0; have y1 := cells_frozen r1 1; have y2 := cells_frozen r1 2; have y3 := cells_frozen r1 3; have y4 := cells_frozen r1 4; have y5 := cells_frozen r1 5))
  have hs1 := b1.size
  have hs2 := b2.size
  have hs3 := b3.size
  have hO4 : OI (w3.alloc (.cells #[.int .i64 (g : Int), .slice g0 M.root.length k0, .slice g1 M.slots.length k1, .slice g2 M.refs.length k2, .slice g3 M.snaps.length k3] 27)) w2.heap.size val M := hO.alloc _
  have hfr : ∀ a, Live M a → (val a).ownBlock ≠ some (w.heap.size + 1) := fun a ha e => by
    have := ((hO4.row a ha).lt _ e).1
    omega
  have hImg := fun a0 a1 a2 a3 a4 a5 => (OI.six (w := w) hO4 hfr a0 a1 a2 a3 a4 a5).img
  have hL4 := cells_alloc (hL.below b3 hL.lt) (.cells #[.int .i64 (g : Int), .slice g0 M.root.length k0, .slice g1 M.slots.length k1, .slice g2 M.refs.length k2, .slice g3 M.snaps.length k3] 27)
  have hL5 := fun a0 a1 a2 a3 a4 a5 => SAt.ss (n := g) ((heap_six (w := w) (W := w3.alloc (.cells #[.int .i64 (g : Int), .slice g0 M.root.length k0, .slice g1 M.slots.length k1, .slice g2 M.refs.length k2, .slice g3 M.snaps.length k3] 27)) a0 a1 a2 a3 a4 a5 (w1.heap.size + 1) (by omega)).trans hL4) (rowK_length b m g g) (by unfold maxLen; omega)
  refine bodyPost_ret (v := .tuple #[.agg #[.slice (some ⟨w1.heap.size + 1, 0, none⟩) g g, .int .i64 (g : Int), .slice g0 M.root.length k0, .slice g1 M.slots.length k1, .slice g2 M.refs.length k2, .slice g3 M.snaps.length k3], .int .i64 0]) (by simp [results, Tryz.results6, go_sem, u0, u1, u2, u3, u4, u5]) rfl ⟨_, rfl, ⟨_, _, _, _, _, by rw [HG.out], hL5 _ _ _ _ _ _, (by have e := hImg; simp only [HG.out, hI] at e; rw [HG.out]; exact e _ _ _ _ _ _)⟩, six_below (((Below.on (Below.on (Below.on b0 b1) b2) b3)).alloc (by omega) _) _ _ _ _ _ _⟩
theorem sk_commit {w : World} {v : Value} {b : List ByteArray} {m : ImgD} (h : Stk w v b m) {B : List ByteArray} {M : ImgD} {E : Int} (hE : ccE b m = E) (hB : (if ccE b m = 0 then pgs b m else []) = B) (hM : (if ccE b m = 0 then freshD m.guest.toNat else imgZ) = M) : Calls Tryz.prog 6 #[v] w (AnsK w B M E) := by
  subst hE hB hM
  obtain ⟨ba, bc, ra, rc, sa, sc, fa, fc, na, nc, rfl, hS, hI⟩ := h.parts
  by_cases hC : scE b m = 0
  · by_cases hn : m.snaps = []
    · have e1 : ccE b m = 0 := by unfold ccE; rw [if_neg (by simpa using hC), if_pos hn]
      have hg := guest_ok (checkE_shape (scE_zero hC).2)
      obtain ⟨g, hgg⟩ : ∃ g : Nat, m.guest = (g : Int) := ⟨m.guest.toNat, by omega⟩
      rw [e1, if_pos rfl, if_pos rfl]
      have e2 : pgs b m = rowK b m g g := by rw [rowK_end]; unfold pgs; rw [hgg, Int.toNat_natCast]
      rw [e2, hgg, Int.toNat_natCast]
      rw [hgg] at hI
      exact sk_commit_ok ba bc ra rc sa sc fa fc na nc b m g w hS hI hC (by rw [hn]; rfl) hgg (by omega) _ rfl
    · have e1 : ccE b m = 8 := by unfold ccE; rw [if_neg (by simpa using hC), if_neg hn]
      rw [e1, if_neg (by decide), if_neg (by decide)]
      exact sk_commit_busy ba bc ra rc sa sc fa fc na nc b m w hS hI hC (by have := List.length_pos_iff.2 hn; simp [this])
  · have e1 : ccE b m = scE b m := by unfold ccE; rw [if_pos hC]
    rw [e1, if_neg hC, if_neg hC]
    exact sk_commit_bad ba bc ra rc sa sc fa fc na nc b m w hS hI _ rfl (by simpa using hC)

end Go.Proofs.YtehleeibgkpjmafGreat
/- Contracts of slices.IndexFunc over snapshots, and of Past. -/
namespace Go.Proofs.YtehleeibgkpjmafGreat
open Go.RowKit Go.Shelf
end Go.Proofs.YtehleeibgkpjmafGreat
/- Contracts of the document's pageOf, ReadOf, AllOf, snapAt, PastOf. -/
namespace Go.Proofs.YtehleeibgkpjmafGreat
open Go.RowKit Go.Shelf
set_option maxRecDepth 20000

theorem pageOf_zero (gm : Int) (ra : Option Addr) (rn rc : Nat) (sa : Option Addr) (sn sc : Nat) (fa : Option Addr) (fn fc : Nat) (na : Option Addr) (nn nc : Nat) (e : Int) (w : World) (he : e ≤ 0) :
    Calls Tryz.prog 85 #[.agg #[.int .i64 gm, .slice ra rn rc, .slice sa sn sc, .slice fa fn fc, .slice na nn nc], .int .i64 e] w fun r w' => r = .returned (.string Z4) ∧ Below w.heap.size w w' := by
  have b0 : Below w.heap.size w (w.alloc (.cells #[.int .i64 gm, .slice ra rn rc, .slice sa sn sc, .slice fa fn fc, .slice na nn nc] 27)) := (Below.refl _ _).alloc (Nat.le_refl _) _
  go_enter Tryz.func85, Tryz.ntmps85
  go_wp2_with (go_at_call 34; refine (zeroPage_any _).mono ?_; rintro e w1 ⟨rfl, hw⟩; subst hw)
  go_ret
  exact ⟨rfl, b0⟩
theorem pageOf_slot (gm : Int) (ra : Option Addr) (rn rc : Nat) (sb so : Nat) (sn sc : Nat) (fa : Option Addr) (fn fc : Nat) (na : Option Addr) (nn nc : Nat) (j : Nat) (d : ByteArray) (w : World) (h1 : 1 ≤ j) (hj : j < sn) (hsb : sb < w.heap.size) (hc : w.cell? ⟨sb, so + j * 3 + 1, none⟩ = some (.string d)) :
    Calls Tryz.prog 85 #[.agg #[.int .i64 gm, .slice ra rn rc, .slice (some ⟨sb, so, none⟩) sn sc, .slice fa fn fc, .slice na nn nc], .int .i64 j] w fun r w' => r = .returned (.string d) ∧ Below w.heap.size w w' := by
  have b0 : Below w.heap.size w (w.alloc (.cells #[.int .i64 gm, .slice ra rn rc, .slice (some ⟨sb, so, none⟩) sn sc, .slice fa fn fc, .slice na nn nc] 27)) := (Below.refl _ _).alloc (Nat.le_refl _) _
  have hc1 := (b0.cell (p := ⟨sb, so + j * 3 + 1, none⟩) hsb).trans hc
  have h0 : ¬ (j : Int) ≤ 0 := by omega
  have hji : (j : Int) < (sn : Int) := by omega
  go_enter Tryz.func85, Tryz.ntmps85
  go_wp2_with fail
  go_ret
  exact ⟨rfl, b0⟩
theorem pageOf_is {v : Value} {m : ImgD} {w : World} (h : Img w v m) {e : Int} (he : e = 0 ∨ e = -1 ∨ ∃ j : Nat, e = j ∧ 1 ≤ j ∧ j < m.slots.length) {p : ByteArray} (hp : pageV m.slots e = p) :
    Calls Tryz.prog 85 #[v, .int .i64 e] w fun r w' => r = .returned (.string p) ∧ Below w.heap.size w w' := by
  obtain ⟨ra, rc, sa, sc, fa, fc, na, nc, rfl, h1, h2, h3, h4⟩ := h.parts
  unfold pageV at hp
  by_cases hz : e ≤ 0
  · rw [if_pos hz] at hp; subst hp
    exact pageOf_zero m.guest ra _ rc sa _ sc fa _ fc na _ nc e w hz
  · rcases he with he | he | ⟨j, rfl, hj1, hj⟩
    · omega
    · omega
    · rw [if_neg (by omega)] at hp
      obtain ⟨sb, so, rfl, hsb, tv, _, c2, _⟩ := h2.at j hj
      have e : m.slots.getD (j : Int).toNat default = m.slots[j] := by simp [List.getD, hj]
      rw [e] at hp
      rw [hp] at c2
      exact pageOf_slot m.guest ra _ rc sb so _ sc fa _ fc na _ nc j p w hj1 hj hsb c2

set_option maxHeartbeats 1000000 in
theorem readOf_at (gm : Int) (ra : Option Addr) (rn rc : Nat) (sa : Option Addr) (sn sc : Nat) (fa : Option Addr) (fn fc : Nat) (na : Option Addr) (nn nc : Nat) (m : ImgD) (n : Int) (w : World) (h : Img w (.agg #[.int .i64 gm, .slice ra rn rc, .slice sa sn sc, .slice fa fn fc, .slice na nn nc]) m) (hE : lookE m n = 0) (p : ByteArray) (hp : pageV m.slots (lookV m m.root n.toNat) = p) :
    Calls Tryz.prog 51 #[.agg #[.int .i64 gm, .slice ra rn rc, .slice sa sn sc, .slice fa fn fc, .slice na nn nc], .int .i64 n] w fun r w' => r = .returned (.string p) ∧ Below w.heap.size w w' := by
  have b0 : Below w.heap.size w (w.alloc (.cells #[.int .i64 gm, .slice ra rn rc, .slice sa sn sc, .slice fa fn fc, .slice na nn nc] 27)) := (Below.refl _ _).alloc (Nat.le_refl _) _
  have m0 : (w.alloc (.cells #[.int .i64 gm, .slice ra rn rc, .slice sa sn sc, .slice fa fn fc, .slice na nn nc] 27)).heap[w.heap.size]? = some (.cells #[.int .i64 gm, .slice ra rn rc, .slice sa sn sc, .slice fa fn fc, .slice na nn nc] 27) := World.alloc_heap_new _ _
  have z0 : w.heap.size < (w.alloc (.cells #[.int .i64 gm, .slice ra rn rc, .slice sa sn sc, .slice fa fn fc, .slice na nn nc] 27)).heap.size := by simp
  obtain ⟨c, hc⟩ : ∃ c, lookV m m.root n.toNat = c := ⟨_, rfl⟩
  have h1 := fun W (hW : Below w.heap.size w W) => lookOf_is (h.below hW) n hE hc
  have hent := look_ent hE
  rw [hc] at hent hp
  have h2 := fun W (hW : Below w.heap.size w W) => pageOf_is (h.below hW) hent hp
  obtain ⟨c0, c1, c2, c3, c4⟩ := five m0
  clear h hE hent hp hc
  go_enter Tryz.func51, Tryz.ntmps51
  go_wp2_with fail
  go_region_held3 (fun w' => w'.cell? ⟨w.heap.size, 0, none⟩ = some (.int .i64 gm) ∧ w'.cell? ⟨w.heap.size, 0 + 1, none⟩ = some (.slice ra rn rc) ∧ w'.cell? ⟨w.heap.size, 0 + 1 + 1, none⟩ = some (.slice sa sn sc) ∧ w'.cell? ⟨w.heap.size, 0 + 1 + 1 + 1, none⟩ = some (.slice fa fn fc) ∧ w'.cell? ⟨w.heap.size, 0 + 1 + 1 + 1 + 1, none⟩ = some (.slice na nn nc)) (first | exact ⟨f0, f1, f2, f3, f4⟩ | exact ⟨d0, d1, d2, d3, d4⟩ | exact ⟨c0, c1, c2, c3, c4⟩)
    (first
    | (go_at_call 50; refine (h1 _ (to_drew b0)).mono ?_; rintro e w1 ⟨rfl, b1⟩; have b1 := below_drew b1; have m1 := cells_below m0 b1 z0; have hB1 := Below.on b0 b1; have z1 := (Array.getElem?_eq_some_iff.1 m1).1; obtain ⟨d0, d1, d2, d3, d4⟩ := five m1)
    | (go_at_call 85; refine (h2 _ hB1).mono ?_; rintro e w2 ⟨rfl, b2⟩; have m2 := cells_below m1 b2 z1; have hB2 := Below.on hB1 b2; obtain ⟨f0, f1, f2, f3, f4⟩ := five m2))
  go_wp2_with fail
  go_ret
  exact ⟨rfl, hB2⟩
theorem readOf_is {w : World} {v : Value} {m : ImgD} (h : Img w v m) (n : Int) (hE : lookE m n = 0) {p : ByteArray} (hp : readV m n = p) :
    Calls Tryz.prog 51 #[v, .int .i64 n] w fun r w' => r = .returned (.string p) ∧ Below w.heap.size w w' := by
  have h' := h
  obtain ⟨ra, rc, sa, sc, fa, fc, na, nc, rfl, _⟩ := h.parts
  unfold readV at hp
  rw [if_pos hE] at hp
  exact readOf_at m.guest ra _ rc sa _ sc fa _ fc na _ nc m n w h' hE p hp

end Go.Proofs.YtehleeibgkpjmafGreat
/- Contracts of the document's CheckStack, StackError, StackRead. -/
namespace Go.Proofs.YtehleeibgkpjmafGreat
open Go.RowKit Go.Shelf
set_option maxRecDepth 20000
set_option linter.unusedVariables false
set_option linter.unusedSimpArgs false

set_option maxHeartbeats 4000000 in
theorem ckStk_bad (ba : Option Addr) (bc : Nat) (ra : Option Addr) (rc : Nat) (sa : Option Addr) (sc : Nat) (fa : Option Addr) (fc : Nat) (na : Option Addr) (nc : Nat) (b : List ByteArray) (m : ImgD) (w : World) (hS : Ss w (.slice ba b.length bc) b) (hI : Img w (.agg #[.int .i64 m.guest, .slice ra m.root.length rc, .slice sa m.slots.length sc, .slice fa m.refs.length fc, .slice na m.snaps.length nc]) m) (E : Int) (hE : ckP b = E) (hne : (E != 0) = true) :
    Calls Tryz.prog 23 #[.agg #[.slice ba b.length bc, .int .i64 m.guest, .slice ra m.root.length rc, .slice sa m.slots.length sc, .slice fa m.refs.length fc, .slice na m.snaps.length nc]] w fun r w' => r = .returned (.int .i64 E) ∧ Below w.heap.size w w' := by
  have b0 : Below w.heap.size w (w.alloc (.cells #[.slice ba b.length bc, .int .i64 m.guest, .slice ra m.root.length rc, .slice sa m.slots.length sc, .slice fa m.refs.length fc, .slice na m.snaps.length nc] 29)) := (Below.refl _ _).alloc (Nat.le_refl _) _
  have q0 : (w.alloc (.cells #[.slice ba b.length bc, .int .i64 m.guest, .slice ra m.root.length rc, .slice sa m.slots.length sc, .slice fa m.refs.length fc, .slice na m.snaps.length nc] 29)).heap[w.heap.size]? = some (.cells #[.slice ba b.length bc, .int .i64 m.guest, .slice ra m.root.length rc, .slice sa m.slots.length sc, .slice fa m.refs.length fc, .slice na m.snaps.length nc] 29) := World.alloc_heap_new _ _
  have ql := (Array.getElem?_eq_some_iff.1 q0).1
  obtain ⟨c0, c1, c2, c3, c4, c5⟩ := six q0
  have hS1 := hS.below b0
  have hI1 := hI.below b0
  clear hS hI hI1
  go_enter Tryz.func23, Tryz.ntmps23
  go_wp2_with (go_at_call 33; refine (checkPages_is hS1 hE).mono ?_; rintro e w' ⟨rfl, hw⟩; subst hw)
  go_ret
  exact ⟨rfl, b0⟩
set_option maxHeartbeats 4000000 in
theorem ckStk_ok (ba : Option Addr) (bc : Nat) (ra : Option Addr) (rc : Nat) (sa : Option Addr) (sc : Nat) (fa : Option Addr) (fc : Nat) (na : Option Addr) (nc : Nat) (b : List ByteArray) (m : ImgD) (w : World) (hS : Ss w (.slice ba b.length bc) b) (hI : Img w (.agg #[.int .i64 m.guest, .slice ra m.root.length rc, .slice sa m.slots.length sc, .slice fa m.refs.length fc, .slice na m.snaps.length nc]) m) (E : Int) (hE : ckP b = 0) (hC : checkE m = E) :
    Calls Tryz.prog 23 #[.agg #[.slice ba b.length bc, .int .i64 m.guest, .slice ra m.root.length rc, .slice sa m.slots.length sc, .slice fa m.refs.length fc, .slice na m.snaps.length nc]] w fun r w' => r = .returned (.int .i64 E) ∧ Below w.heap.size w w' := by
  have b0 : Below w.heap.size w (w.alloc (.cells #[.slice ba b.length bc, .int .i64 m.guest, .slice ra m.root.length rc, .slice sa m.slots.length sc, .slice fa m.refs.length fc, .slice na m.snaps.length nc] 29)) := (Below.refl _ _).alloc (Nat.le_refl _) _
  have q0 : (w.alloc (.cells #[.slice ba b.length bc, .int .i64 m.guest, .slice ra m.root.length rc, .slice sa m.slots.length sc, .slice fa m.refs.length fc, .slice na m.snaps.length nc] 29)).heap[w.heap.size]? = some (.cells #[.slice ba b.length bc, .int .i64 m.guest, .slice ra m.root.length rc, .slice sa m.slots.length sc, .slice fa m.refs.length fc, .slice na m.snaps.length nc] 29) := World.alloc_heap_new _ _
  have ql := (Array.getElem?_eq_some_iff.1 q0).1
  obtain ⟨c0, c1, c2, c3, c4, c5⟩ := six q0
  have hS1 := hS.below b0
  have hI1 := hI.below b0
  have hcall := checkImage_is hI1 hC
  clear hS hI hI1 hC
  go_enter Tryz.func23, Tryz.ntmps23
  go_wp2_with (first | (go_at_call 18; refine hcall.mono ?_; rintro e w2 ⟨rfl, b2⟩) | (go_at_call 33; refine (checkPages_is hS1 hE).mono ?_; rintro e w' ⟨rfl, hw⟩; subst hw))
  go_ret
  exact ⟨rfl, Below.on b0 b2⟩
theorem ckStk_is {w : World} {v : Value} {b : List ByteArray} {m : ImgD} (h : Stk w v b m) {E : Int} (hE : scE b m = E) : Calls Tryz.prog 23 #[v] w fun r w' => r = .returned (.int .i64 E) ∧ Below w.heap.size w w' := by
  subst hE
  obtain ⟨ba, bc, ra, rc, sa, sc, fa, fc, na, nc, rfl, hS, hI⟩ := h.parts
  by_cases h0 : ckP b = 0
  · unfold scE
    rw [if_neg (by simpa using h0)]
    exact ckStk_ok ba bc ra rc sa sc fa fc na nc b m w hS hI _ h0 rfl
  · unfold scE
    rw [if_pos h0]
    exact ckStk_bad ba bc ra rc sa sc fa fc na nc b m w hS hI _ rfl (by simpa using h0)

set_option maxHeartbeats 4000000 in
theorem stkRead_base (bb bo : Nat) (bc : Nat) (ra : Option Addr) (rc : Nat) (sa : Option Addr) (sc : Nat) (fa : Option Addr) (fc : Nat) (na : Option Addr) (nc : Nat) (b : List ByteArray) (m : ImgD) (n : Nat) (w : World) (hS : Ss w (.slice (some ⟨bb, bo, none⟩) b.length bc) b) (hI : Img w (.agg #[.int .i64 m.guest, .slice ra m.root.length rc, .slice sa m.slots.length sc, .slice fa m.refs.length fc, .slice na m.snaps.length nc]) m) (p : ByteArray) (hE : lookE m n = 0) (hk : lookV m m.root n = 0) (hn : n < b.length) (hbl : bb < w.heap.size) (hcl : w.cell? ⟨bb, bo + n, none⟩ = some (.string p)) :
    Calls Tryz.prog 25 #[.agg #[.slice (some ⟨bb, bo, none⟩) b.length bc, .int .i64 m.guest, .slice ra m.root.length rc, .slice sa m.slots.length sc, .slice fa m.refs.length fc, .slice na m.snaps.length nc], .int .i64 (n : Int)] w fun r w' => r = .returned (.string p) ∧ Below w.heap.size w w' := by
  have b0 : Below w.heap.size w (w.alloc (.cells #[.slice (some ⟨bb, bo, none⟩) b.length bc, .int .i64 m.guest, .slice ra m.root.length rc, .slice sa m.slots.length sc, .slice fa m.refs.length fc, .slice na m.snaps.length nc] 29)) := (Below.refl _ _).alloc (Nat.le_refl _) _
  have q0 : (w.alloc (.cells #[.slice (some ⟨bb, bo, none⟩) b.length bc, .int .i64 m.guest, .slice ra m.root.length rc, .slice sa m.slots.length sc, .slice fa m.refs.length fc, .slice na m.snaps.length nc] 29)).heap[w.heap.size]? = some (.cells #[.slice (some ⟨bb, bo, none⟩) b.length bc, .int .i64 m.guest, .slice ra m.root.length rc, .slice sa m.slots.length sc, .slice fa m.refs.length fc, .slice na m.snaps.length nc] 29) := World.alloc_heap_new _ _
  have ql := (Array.getElem?_eq_some_iff.1 q0).1
  obtain ⟨c0, c1, c2, c3, c4, c5⟩ := six q0
  have hS1 := hS.below b0
  have hI1 := hI.below b0
  have hlk := lookOf_is hI1 (n : Int) hE (c := 0) (by rw [Int.toNat_natCast]; exact hk)
  have hcl1 := (b0.cell (p := ⟨bb, bo + n, none⟩) hbl).trans hcl
  have hbl1 := Nat.lt_of_lt_of_le hbl b0.size
  have hni : (n : Int) < (b.length : Int) := by omega
  have hnd : decide ((n : Int) < (b.length : Int)) = true := by simpa using hni
  clear hS hI hI1 hS1 hE hk
  go_enter Tryz.func25, Tryz.ntmps25
  go_wp2_with (go_at_call 50; refine hlk.mono ?_; rintro e w1 ⟨rfl, b1⟩; obtain ⟨d0, d1, d2, d3, d4, d5⟩ := six (cells_below q0 b1 ql); have hcl2 := (b1.cell (p := ⟨bb, bo + n, none⟩) hbl1).trans hcl1)
  go_ret
  exact ⟨rfl, Below.on b0 b1⟩
set_option maxHeartbeats 4000000 in
theorem stkRead_top (ba : Option Addr) (bc : Nat) (ra : Option Addr) (rc : Nat) (sa : Option Addr) (sc : Nat) (fa : Option Addr) (fc : Nat) (na : Option Addr) (nc : Nat) (b : List ByteArray) (m : ImgD) (n : Int) (w : World) (hS : Ss w (.slice ba b.length bc) b) (hI : Img w (.agg #[.int .i64 m.guest, .slice ra m.root.length rc, .slice sa m.slots.length sc, .slice fa m.refs.length fc, .slice na m.snaps.length nc]) m) (p : ByteArray) (k : Int) (hE : lookE m n = 0) (hk : lookV m m.root n.toNat = k) (hc : ((k == 0) = false) ∨ ((k == 0) = true ∧ decide (n < (b.length : Int)) = false)) (hp : readV m n = p) :
    Calls Tryz.prog 25 #[.agg #[.slice ba b.length bc, .int .i64 m.guest, .slice ra m.root.length rc, .slice sa m.slots.length sc, .slice fa m.refs.length fc, .slice na m.snaps.length nc], .int .i64 n] w fun r w' => r = .returned (.string p) ∧ Below w.heap.size w w' := by
  have b0 : Below w.heap.size w (w.alloc (.cells #[.slice ba b.length bc, .int .i64 m.guest, .slice ra m.root.length rc, .slice sa m.slots.length sc, .slice fa m.refs.length fc, .slice na m.snaps.length nc] 29)) := (Below.refl _ _).alloc (Nat.le_refl _) _
  have q0 : (w.alloc (.cells #[.slice ba b.length bc, .int .i64 m.guest, .slice ra m.root.length rc, .slice sa m.slots.length sc, .slice fa m.refs.length fc, .slice na m.snaps.length nc] 29)).heap[w.heap.size]? = some (.cells #[.slice ba b.length bc, .int .i64 m.guest, .slice ra m.root.length rc, .slice sa m.slots.length sc, .slice fa m.refs.length fc, .slice na m.snaps.length nc] 29) := World.alloc_heap_new _ _
  have ql := (Array.getElem?_eq_some_iff.1 q0).1
  obtain ⟨c0, c1, c2, c3, c4, c5⟩ := six q0
  have hS1 := hS.below b0
  have hI1 := hI.below b0
  have hlk := lookOf_is hI1 n hE hk
  have HR : Hid (∀ w1, Below (w.alloc (.cells #[.slice ba b.length bc, .int .i64 m.guest, .slice ra m.root.length rc, .slice sa m.slots.length sc, .slice fa m.refs.length fc, .slice na m.snaps.length nc] 29)).heap.size (w.alloc (.cells #[.slice ba b.length bc, .int .i64 m.guest, .slice ra m.root.length rc, .slice sa m.slots.length sc, .slice fa m.refs.length fc, .slice na m.snaps.length nc] 29)) w1 → Calls Tryz.prog 51 #[.agg #[.int .i64 m.guest, .slice ra m.root.length rc, .slice sa m.slots.length sc, .slice fa m.refs.length fc, .slice na m.snaps.length nc], .int .i64 n] w1 fun r w' => r = .returned (.string p) ∧ Below w1.heap.size w1 w') := fun w1 b1 => readOf_is (hI1.below b1) n hE hp
  clear hS hI hI1 hS1 hE hk hp
  go_enter Tryz.func25, Tryz.ntmps25
  rcases hc with hc | ⟨hc, hd⟩
  · go_wp2_with (first | (go_at_call 51; refine (HR.out w1 b1).mono ?_; rintro e w2 ⟨rfl, b2⟩) | (go_at_call 50; refine hlk.mono ?_; rintro e w1 ⟨rfl, b1⟩; obtain ⟨d0, d1, d2, d3, d4, d5⟩ := six (cells_below q0 b1 ql)))
    go_ret
    exact ⟨rfl, Below.on (Below.on b0 b1) b2⟩
  · go_wp2_with (first | (go_at_call 51; refine (HR.out w1 b1).mono ?_; rintro e w2 ⟨rfl, b2⟩) | (go_at_call 50; refine hlk.mono ?_; rintro e w1 ⟨rfl, b1⟩; obtain ⟨d0, d1, d2, d3, d4, d5⟩ := six (cells_below q0 b1 ql)))
    go_ret
    exact ⟨rfl, Below.on (Below.on b0 b1) b2⟩
theorem stkRead_is {w : World} {v : Value} {b : List ByteArray} {m : ImgD} (h : Stk w v b m) (n : Int) {p : ByteArray} (hE : srE b m n = 0) (hp : srV b m n = p) : Calls Tryz.prog 25 #[v, .int .i64 n] w fun r w' => r = .returned (.string p) ∧ Below w.heap.size w w' := by
  subst hp
  have hs : scE b m = 0 := by
    unfold srE at hE
    by_cases x : scE b m = 0
    · exact x
    · rw [if_pos x] at hE; exact hE
  have hlk : lookE m n = 0 := by unfold srE at hE; rw [if_neg (by simpa using hs)] at hE; exact hE
  obtain ⟨hC, n0, hn⟩ := lookE_parts3 hlk
  obtain ⟨ba, bc, ra, rc, sa, sc, fa, fc, na, nc, rfl, hS, hI⟩ := h.parts
  have hEn : ¬ srE b m n ≠ 0 := by simpa using hE
  by_cases hx : lookV m m.root n.toNat = 0 ∧ n < (b.length : Int)
  · obtain ⟨k, rfl⟩ := Int.eq_ofNat_of_zero_le n0
    have hkb : k < b.length := by omega
    have e1 : srV b m (k : Int) = b.getD k ByteArray.empty := by
      unfold srV
      rw [if_neg hEn, if_pos hx]
      unfold freadA
      rw [if_pos (by unfold atE; rw [if_pos (scE_zero hs).1, if_pos ⟨by omega, hx.2⟩]), Int.toNat_natCast]
    rw [e1]
    obtain ⟨bb, bo, rfl, hbl, hcell⟩ := hS.at (by omega)
    rw [Int.toNat_natCast] at hx
    exact stkRead_base bb bo bc ra rc sa sc fa fc na nc b m k w hS hI _ hlk hx.1 hkb hbl (hcell k hkb)
  · have e1 : srV b m n = readV m n := by unfold srV; rw [if_neg hEn, if_neg hx]
    rw [e1]
    refine stkRead_top ba bc ra rc sa sc fa fc na nc b m n w hS hI _ _ hlk rfl ?_ rfl
    by_cases hk : lookV m m.root n.toNat = 0
    · exact .inr ⟨by simpa using hk, by have : ¬ n < (b.length : Int) := fun y => hx ⟨hk, y⟩; simpa using this⟩
    · exact .inl (by simpa using hk)
end Go.Proofs.YtehleeibgkpjmafGreat
/- append([]string{}, src...): a copy of one's own. -/
namespace Go.Proofs.YtehleeibgkpjmafGreat
open Go.RowKit Go.Shelf
end Go.Proofs.YtehleeibgkpjmafGreat
