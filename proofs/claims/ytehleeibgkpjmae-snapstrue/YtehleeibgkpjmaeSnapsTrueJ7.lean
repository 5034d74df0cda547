/- Texts joined: SnC, SnE, RefF, Pair, PDec, SameInts. -/
import Derived.Test.YtehleeibgkpjmaeSnapsTrueJ6
import Derived.Test.YtehleeibgkpjmaeSnapsTrueJ3
import Derived.Test.YtehleeibgkpjmaeSnapsTrueJ1
import Derived.Deep.QuietTactic
import Derived.BigQuiet
/- Contracts of snapshots: Create, Revert, Delete. -/
namespace Go.Proofs.Ytehleeibgkpjmae
open Go.RowKit Go.Shelf
set_option maxRecDepth 20000
set_option linter.unusedVariables false
set_option linter.unusedSimpArgs false

set_option maxHeartbeats 4000000 in
theorem create_bad_at (m : ImgD) (ra : Option Addr) (rc : Nat) (sa : Option Addr) (sc : Nat) (fa : Option Addr) (fc : Nat) (na : Option Addr) (nc : Nat) (nm : ByteArray) (E : Int) (w : World) (h : Img w (.agg #[.int .i64 m.guest, .slice ra m.root.length rc, .slice sa m.slots.length sc, .slice fa m.refs.length fc, .slice na m.snaps.length nc]) m) (hE : checkE m = E) (hne : (E != 0) = true) :
    Calls Try.prog 8 #[.agg #[.int .i64 m.guest, .slice ra m.root.length rc, .slice sa m.slots.length sc, .slice fa m.refs.length fc, .slice na m.snaps.length nc], .string nm] w (AnsI w w.heap.size imgZ E) := by
  have b0 : Below w.heap.size w (((w.alloc (.cells #[.int .i64 m.guest, .slice ra m.root.length rc, .slice sa m.slots.length sc, .slice fa m.refs.length fc, .slice na m.snaps.length nc] 26)).alloc (.cells #[.string nm] 9)).alloc (.cells #[.int .i64 0, .slice none 0 0, .slice none 0 0, .slice none 0 0, .slice none 0 0] 26)) := (((Below.refl _ _).alloc (by simp; try omega) _).alloc (by simp; try omega) _).alloc (by simp; try omega) _
  have q0 : (w.alloc (.cells #[.int .i64 m.guest, .slice ra m.root.length rc, .slice sa m.slots.length sc, .slice fa m.refs.length fc, .slice na m.snaps.length nc] 26)).heap[w.heap.size]? = some (.cells #[.int .i64 m.guest, .slice ra m.root.length rc, .slice sa m.slots.length sc, .slice fa m.refs.length fc, .slice na m.snaps.length nc] 26) := by have := World.alloc_heap_new w (.cells #[.int .i64 m.guest, .slice ra m.root.length rc, .slice sa m.slots.length sc, .slice fa m.refs.length fc, .slice na m.snaps.length nc] 26); simpa using this
  have m0 : (((w.alloc (.cells #[.int .i64 m.guest, .slice ra m.root.length rc, .slice sa m.slots.length sc, .slice fa m.refs.length fc, .slice na m.snaps.length nc] 26)).alloc (.cells #[.string nm] 9)).alloc (.cells #[.int .i64 0, .slice none 0 0, .slice none 0 0, .slice none 0 0, .slice none 0 0] 26)).heap[w.heap.size]? = some (.cells #[.int .i64 m.guest, .slice ra m.root.length rc, .slice sa m.slots.length sc, .slice fa m.refs.length fc, .slice na m.snaps.length nc] 26) := (cells_alloc (cells_alloc q0 _) _)
  have q1 : ((w.alloc (.cells #[.int .i64 m.guest, .slice ra m.root.length rc, .slice sa m.slots.length sc, .slice fa m.refs.length fc, .slice na m.snaps.length nc] 26)).alloc (.cells #[.string nm] 9)).heap[w.heap.size + 1]? = some (.cells #[.string nm] 9) := by have := World.alloc_heap_new (w.alloc (.cells #[.int .i64 m.guest, .slice ra m.root.length rc, .slice sa m.slots.length sc, .slice fa m.refs.length fc, .slice na m.snaps.length nc] 26)) (.cells #[.string nm] 9); simpa using this
  have m1 : (((w.alloc (.cells #[.int .i64 m.guest, .slice ra m.root.length rc, .slice sa m.slots.length sc, .slice fa m.refs.length fc, .slice na m.snaps.length nc] 26)).alloc (.cells #[.string nm] 9)).alloc (.cells #[.int .i64 0, .slice none 0 0, .slice none 0 0, .slice none 0 0, .slice none 0 0] 26)).heap[w.heap.size + 1]? = some (.cells #[.string nm] 9) := (cells_alloc q1 _)
  have q2 : (((w.alloc (.cells #[.int .i64 m.guest, .slice ra m.root.length rc, .slice sa m.slots.length sc, .slice fa m.refs.length fc, .slice na m.snaps.length nc] 26)).alloc (.cells #[.string nm] 9)).alloc (.cells #[.int .i64 0, .slice none 0 0, .slice none 0 0, .slice none 0 0, .slice none 0 0] 26)).heap[w.heap.size + 1 + 1]? = some (.cells #[.int .i64 0, .slice none 0 0, .slice none 0 0, .slice none 0 0, .slice none 0 0] 26) := by have := World.alloc_heap_new ((w.alloc (.cells #[.int .i64 m.guest, .slice ra m.root.length rc, .slice sa m.slots.length sc, .slice fa m.refs.length fc, .slice na m.snaps.length nc] 26)).alloc (.cells #[.string nm] 9)) (.cells #[.int .i64 0, .slice none 0 0, .slice none 0 0, .slice none 0 0, .slice none 0 0] 26); simpa using this
  have m2 : (((w.alloc (.cells #[.int .i64 m.guest, .slice ra m.root.length rc, .slice sa m.slots.length sc, .slice fa m.refs.length fc, .slice na m.snaps.length nc] 26)).alloc (.cells #[.string nm] 9)).alloc (.cells #[.int .i64 0, .slice none 0 0, .slice none 0 0, .slice none 0 0, .slice none 0 0] 26)).heap[w.heap.size + 1 + 1]? = some (.cells #[.int .i64 0, .slice none 0 0, .slice none 0 0, .slice none 0 0, .slice none 0 0] 26) := q2
  have hz : (((w.alloc (.cells #[.int .i64 m.guest, .slice ra m.root.length rc, .slice sa m.slots.length sc, .slice fa m.refs.length fc, .slice na m.snaps.length nc] 26)).alloc (.cells #[.string nm] 9)).alloc (.cells #[.int .i64 0, .slice none 0 0, .slice none 0 0, .slice none 0 0, .slice none 0 0] 26)).heap.size = w.heap.size + 1 + 1 + 1 := by simp
  clear q0 q1 q2
  have hchk := tcheck_is (h.below b0) hE
  obtain ⟨c0, c1, c2, c3, c4⟩ := five m0
  have HM : Hid ((Below w.heap.size w (((w.alloc (.cells #[.int .i64 m.guest, .slice ra m.root.length rc, .slice sa m.slots.length sc, .slice fa m.refs.length fc, .slice na m.snaps.length nc] 26)).alloc (.cells #[.string nm] 9)).alloc (.cells #[.int .i64 0, .slice none 0 0, .slice none 0 0, .slice none 0 0, .slice none 0 0] 26)) ∧ (((w.alloc (.cells #[.int .i64 m.guest, .slice ra m.root.length rc, .slice sa m.slots.length sc, .slice fa m.refs.length fc, .slice na m.snaps.length nc] 26)).alloc (.cells #[.string nm] 9)).alloc (.cells #[.int .i64 0, .slice none 0 0, .slice none 0 0, .slice none 0 0, .slice none 0 0] 26)).heap.size = w.heap.size + 1 + 1 + 1) ∧ (((w.alloc (.cells #[.int .i64 m.guest, .slice ra m.root.length rc, .slice sa m.slots.length sc, .slice fa m.refs.length fc, .slice na m.snaps.length nc] 26)).alloc (.cells #[.string nm] 9)).alloc (.cells #[.int .i64 0, .slice none 0 0, .slice none 0 0, .slice none 0 0, .slice none 0 0] 26)).heap[w.heap.size]? = some (.cells #[.int .i64 m.guest, .slice ra m.root.length rc, .slice sa m.slots.length sc, .slice fa m.refs.length fc, .slice na m.snaps.length nc] 26) ∧ (((w.alloc (.cells #[.int .i64 m.guest, .slice ra m.root.length rc, .slice sa m.slots.length sc, .slice fa m.refs.length fc, .slice na m.snaps.length nc] 26)).alloc (.cells #[.string nm] 9)).alloc (.cells #[.int .i64 0, .slice none 0 0, .slice none 0 0, .slice none 0 0, .slice none 0 0] 26)).heap[w.heap.size + 1]? = some (.cells #[.string nm] 9) ∧ (((w.alloc (.cells #[.int .i64 m.guest, .slice ra m.root.length rc, .slice sa m.slots.length sc, .slice fa m.refs.length fc, .slice na m.snaps.length nc] 26)).alloc (.cells #[.string nm] 9)).alloc (.cells #[.int .i64 0, .slice none 0 0, .slice none 0 0, .slice none 0 0, .slice none 0 0] 26)).heap[w.heap.size + 1 + 1]? = some (.cells #[.int .i64 0, .slice none 0 0, .slice none 0 0, .slice none 0 0, .slice none 0 0] 26)) := ⟨⟨b0, hz⟩, m0, m1, m2⟩
  clear h m0 m1 m2 hz b0
  go_enter Try.func8, Try.ntmps8
  go_wp2_with (first
    | (go_at_call 12; refine hchk.mono ?_; rintro e w1 ⟨rfl, b1⟩; have BB := b1; clear b1; have k3 := cells_below HM.out.2.2.2 BB (by rw [HM.out.1.2]; omega); obtain ⟨z0, z1, z2, z3, z4⟩ := five k3; have y0 := cells_frozen k3 0; have y1 := cells_frozen k3 1; have y2 := cells_frozen k3 2; have y3 := cells_frozen k3 3; have y4 := cells_frozen k3 4; have HB : Hid (Below w.heap.size w w1) := Below.on HM.out.1.1 BB; have hsz : w.heap.size + 1 + 1 + 1 ≤ w1.heap.size := (by have := BB.size; rw [HM.out.1.2] at this; omega); clear k3))
  have i1 : w.heap.size ≤ w.heap.size + 1 + 1 := by omega
  refine bodyPost_ret (v := .tuple #[.agg #[.int .i64 0, .slice none 0 0, .slice none 0 0, .slice none 0 0, .slice none 0 0], .int .i64 E]) (by simp [results, Try.results8, go_sem, z0, z1, z2, z3, z4]) rfl (AnsI.bad E (((((HB.out.setCell i1 _).setCell i1 _).setCell i1 _).setCell i1 _).setCell i1 _))

set_option maxHeartbeats 4000000 in
theorem create_name_at (m : ImgD) (ra : Option Addr) (rc : Nat) (sa : Option Addr) (sc : Nat) (fa : Option Addr) (fc : Nat) (na : Option Addr) (nc : Nat) (nm : ByteArray) (w : World) (h : Img w (.agg #[.int .i64 m.guest, .slice ra m.root.length rc, .slice sa m.slots.length sc, .slice fa m.refs.length fc, .slice na m.snaps.length nc]) m) (hE : checkE m = 0) (hNm : isNm nm = false) :
    Calls Try.prog 8 #[.agg #[.int .i64 m.guest, .slice ra m.root.length rc, .slice sa m.slots.length sc, .slice fa m.refs.length fc, .slice na m.snaps.length nc], .string nm] w (AnsI w w.heap.size imgZ 4) := by
  have b0 : Below w.heap.size w (((w.alloc (.cells #[.int .i64 m.guest, .slice ra m.root.length rc, .slice sa m.slots.length sc, .slice fa m.refs.length fc, .slice na m.snaps.length nc] 26)).alloc (.cells #[.string nm] 9)).alloc (.cells #[.int .i64 0, .slice none 0 0, .slice none 0 0, .slice none 0 0, .slice none 0 0] 26)) := (((Below.refl _ _).alloc (by simp; try omega) _).alloc (by simp; try omega) _).alloc (by simp; try omega) _
  have q0 : (w.alloc (.cells #[.int .i64 m.guest, .slice ra m.root.length rc, .slice sa m.slots.length sc, .slice fa m.refs.length fc, .slice na m.snaps.length nc] 26)).heap[w.heap.size]? = some (.cells #[.int .i64 m.guest, .slice ra m.root.length rc, .slice sa m.slots.length sc, .slice fa m.refs.length fc, .slice na m.snaps.length nc] 26) := by have := World.alloc_heap_new w (.cells #[.int .i64 m.guest, .slice ra m.root.length rc, .slice sa m.slots.length sc, .slice fa m.refs.length fc, .slice na m.snaps.length nc] 26); simpa using this
  have m0 : (((w.alloc (.cells #[.int .i64 m.guest, .slice ra m.root.length rc, .slice sa m.slots.length sc, .slice fa m.refs.length fc, .slice na m.snaps.length nc] 26)).alloc (.cells #[.string nm] 9)).alloc (.cells #[.int .i64 0, .slice none 0 0, .slice none 0 0, .slice none 0 0, .slice none 0 0] 26)).heap[w.heap.size]? = some (.cells #[.int .i64 m.guest, .slice ra m.root.length rc, .slice sa m.slots.length sc, .slice fa m.refs.length fc, .slice na m.snaps.length nc] 26) := (cells_alloc (cells_alloc q0 _) _)
  have q1 : ((w.alloc (.cells #[.int .i64 m.guest, .slice ra m.root.length rc, .slice sa m.slots.length sc, .slice fa m.refs.length fc, .slice na m.snaps.length nc] 26)).alloc (.cells #[.string nm] 9)).heap[w.heap.size + 1]? = some (.cells #[.string nm] 9) := by have := World.alloc_heap_new (w.alloc (.cells #[.int .i64 m.guest, .slice ra m.root.length rc, .slice sa m.slots.length sc, .slice fa m.refs.length fc, .slice na m.snaps.length nc] 26)) (.cells #[.string nm] 9); simpa using this
  have m1 : (((w.alloc (.cells #[.int .i64 m.guest, .slice ra m.root.length rc, .slice sa m.slots.length sc, .slice fa m.refs.length fc, .slice na m.snaps.length nc] 26)).alloc (.cells #[.string nm] 9)).alloc (.cells #[.int .i64 0, .slice none 0 0, .slice none 0 0, .slice none 0 0, .slice none 0 0] 26)).heap[w.heap.size + 1]? = some (.cells #[.string nm] 9) := (cells_alloc q1 _)
  have q2 : (((w.alloc (.cells #[.int .i64 m.guest, .slice ra m.root.length rc, .slice sa m.slots.length sc, .slice fa m.refs.length fc, .slice na m.snaps.length nc] 26)).alloc (.cells #[.string nm] 9)).alloc (.cells #[.int .i64 0, .slice none 0 0, .slice none 0 0, .slice none 0 0, .slice none 0 0] 26)).heap[w.heap.size + 1 + 1]? = some (.cells #[.int .i64 0, .slice none 0 0, .slice none 0 0, .slice none 0 0, .slice none 0 0] 26) := by have := World.alloc_heap_new ((w.alloc (.cells #[.int .i64 m.guest, .slice ra m.root.length rc, .slice sa m.slots.length sc, .slice fa m.refs.length fc, .slice na m.snaps.length nc] 26)).alloc (.cells #[.string nm] 9)) (.cells #[.int .i64 0, .slice none 0 0, .slice none 0 0, .slice none 0 0, .slice none 0 0] 26); simpa using this
  have m2 : (((w.alloc (.cells #[.int .i64 m.guest, .slice ra m.root.length rc, .slice sa m.slots.length sc, .slice fa m.refs.length fc, .slice na m.snaps.length nc] 26)).alloc (.cells #[.string nm] 9)).alloc (.cells #[.int .i64 0, .slice none 0 0, .slice none 0 0, .slice none 0 0, .slice none 0 0] 26)).heap[w.heap.size + 1 + 1]? = some (.cells #[.int .i64 0, .slice none 0 0, .slice none 0 0, .slice none 0 0, .slice none 0 0] 26) := q2
  have hz : (((w.alloc (.cells #[.int .i64 m.guest, .slice ra m.root.length rc, .slice sa m.slots.length sc, .slice fa m.refs.length fc, .slice na m.snaps.length nc] 26)).alloc (.cells #[.string nm] 9)).alloc (.cells #[.int .i64 0, .slice none 0 0, .slice none 0 0, .slice none 0 0, .slice none 0 0] 26)).heap.size = w.heap.size + 1 + 1 + 1 := by simp
  clear q0 q1 q2
  have hchk := tcheck_is (h.below b0) hE
  obtain ⟨c0, c1, c2, c3, c4⟩ := five m0
  have HM : Hid ((Below w.heap.size w (((w.alloc (.cells #[.int .i64 m.guest, .slice ra m.root.length rc, .slice sa m.slots.length sc, .slice fa m.refs.length fc, .slice na m.snaps.length nc] 26)).alloc (.cells #[.string nm] 9)).alloc (.cells #[.int .i64 0, .slice none 0 0, .slice none 0 0, .slice none 0 0, .slice none 0 0] 26)) ∧ (((w.alloc (.cells #[.int .i64 m.guest, .slice ra m.root.length rc, .slice sa m.slots.length sc, .slice fa m.refs.length fc, .slice na m.snaps.length nc] 26)).alloc (.cells #[.string nm] 9)).alloc (.cells #[.int .i64 0, .slice none 0 0, .slice none 0 0, .slice none 0 0, .slice none 0 0] 26)).heap.size = w.heap.size + 1 + 1 + 1) ∧ (((w.alloc (.cells #[.int .i64 m.guest, .slice ra m.root.length rc, .slice sa m.slots.length sc, .slice fa m.refs.length fc, .slice na m.snaps.length nc] 26)).alloc (.cells #[.string nm] 9)).alloc (.cells #[.int .i64 0, .slice none 0 0, .slice none 0 0, .slice none 0 0, .slice none 0 0] 26)).heap[w.heap.size]? = some (.cells #[.int .i64 m.guest, .slice ra m.root.length rc, .slice sa m.slots.length sc, .slice fa m.refs.length fc, .slice na m.snaps.length nc] 26) ∧ (((w.alloc (.cells #[.int .i64 m.guest, .slice ra m.root.length rc, .slice sa m.slots.length sc, .slice fa m.refs.length fc, .slice na m.snaps.length nc] 26)).alloc (.cells #[.string nm] 9)).alloc (.cells #[.int .i64 0, .slice none 0 0, .slice none 0 0, .slice none 0 0, .slice none 0 0] 26)).heap[w.heap.size + 1]? = some (.cells #[.string nm] 9) ∧ (((w.alloc (.cells #[.int .i64 m.guest, .slice ra m.root.length rc, .slice sa m.slots.length sc, .slice fa m.refs.length fc, .slice na m.snaps.length nc] 26)).alloc (.cells #[.string nm] 9)).alloc (.cells #[.int .i64 0, .slice none 0 0, .slice none 0 0, .slice none 0 0, .slice none 0 0] 26)).heap[w.heap.size + 1 + 1]? = some (.cells #[.int .i64 0, .slice none 0 0, .slice none 0 0, .slice none 0 0, .slice none 0 0] 26)) := ⟨⟨b0, hz⟩, m0, m1, m2⟩
  clear h m0 m1 m2 hz b0
  go_enter Try.func8, Try.ntmps8
  go_wp2_with (first
    | (go_at_call 29; refine (isName_is _ hNm).mono ?_; rintro e w2 ⟨rfl, b2⟩; have BB := Below.on b1 b2; clear b1 b2; have k3 := cells_below HM.out.2.2.2 BB (by rw [HM.out.1.2]; omega); obtain ⟨z0, z1, z2, z3, z4⟩ := five k3; have y0 := cells_frozen k3 0; have y1 := cells_frozen k3 1; have y2 := cells_frozen k3 2; have y3 := cells_frozen k3 3; have y4 := cells_frozen k3 4; have HB : Hid (Below w.heap.size w w2) := Below.on HM.out.1.1 BB; have hsz : w.heap.size + 1 + 1 + 1 ≤ w2.heap.size := (by have := BB.size; rw [HM.out.1.2] at this; omega); clear k3)
    | (go_at_call 12; refine hchk.mono ?_; rintro e w1 ⟨rfl, b1⟩; have cn := oneN (cells_below HM.out.2.2.1 b1 (by rw [HM.out.1.2]; omega)); have dx := cells_below HM.out.2.1 b1 (by rw [HM.out.1.2]; omega); obtain ⟨d0, d1, d2, d3, d4⟩ := five dx))
  have i1 : w.heap.size ≤ w.heap.size + 1 + 1 := by omega
  refine bodyPost_ret (v := .tuple #[.agg #[.int .i64 0, .slice none 0 0, .slice none 0 0, .slice none 0 0, .slice none 0 0], .int .i64 4]) (by simp [results, Try.results8, go_sem, z0, z1, z2, z3, z4]) rfl (AnsI.bad 4 (((((HB.out.setCell i1 _).setCell i1 _).setCell i1 _).setCell i1 _).setCell i1 _))

set_option maxHeartbeats 4000000 in
theorem create_there_at (m : ImgD) (ra : Option Addr) (rc : Nat) (sa : Option Addr) (sc : Nat) (fa : Option Addr) (fc : Nat) (na : Option Addr) (nc : Nat) (nm : ByteArray) (k : Nat) (w : World) (h : Img w (.agg #[.int .i64 m.guest, .slice ra m.root.length rc, .slice sa m.slots.length sc, .slice fa m.refs.length fc, .slice na m.snaps.length nc]) m) (hE : checkE m = 0) (hNm : isNm nm = true) (hk : posS m.snaps nm = k) (hx : (snapIx m.snaps nm).isSome = true) :
    Calls Try.prog 8 #[.agg #[.int .i64 m.guest, .slice ra m.root.length rc, .slice sa m.slots.length sc, .slice fa m.refs.length fc, .slice na m.snaps.length nc], .string nm] w (AnsI w w.heap.size imgZ 6) := by
  have b0 : Below w.heap.size w (((w.alloc (.cells #[.int .i64 m.guest, .slice ra m.root.length rc, .slice sa m.slots.length sc, .slice fa m.refs.length fc, .slice na m.snaps.length nc] 26)).alloc (.cells #[.string nm] 9)).alloc (.cells #[.int .i64 0, .slice none 0 0, .slice none 0 0, .slice none 0 0, .slice none 0 0] 26)) := (((Below.refl _ _).alloc (by simp; try omega) _).alloc (by simp; try omega) _).alloc (by simp; try omega) _
  have q0 : (w.alloc (.cells #[.int .i64 m.guest, .slice ra m.root.length rc, .slice sa m.slots.length sc, .slice fa m.refs.length fc, .slice na m.snaps.length nc] 26)).heap[w.heap.size]? = some (.cells #[.int .i64 m.guest, .slice ra m.root.length rc, .slice sa m.slots.length sc, .slice fa m.refs.length fc, .slice na m.snaps.length nc] 26) := by have := World.alloc_heap_new w (.cells #[.int .i64 m.guest, .slice ra m.root.length rc, .slice sa m.slots.length sc, .slice fa m.refs.length fc, .slice na m.snaps.length nc] 26); simpa using this
  have m0 : (((w.alloc (.cells #[.int .i64 m.guest, .slice ra m.root.length rc, .slice sa m.slots.length sc, .slice fa m.refs.length fc, .slice na m.snaps.length nc] 26)).alloc (.cells #[.string nm] 9)).alloc (.cells #[.int .i64 0, .slice none 0 0, .slice none 0 0, .slice none 0 0, .slice none 0 0] 26)).heap[w.heap.size]? = some (.cells #[.int .i64 m.guest, .slice ra m.root.length rc, .slice sa m.slots.length sc, .slice fa m.refs.length fc, .slice na m.snaps.length nc] 26) := (cells_alloc (cells_alloc q0 _) _)
  have q1 : ((w.alloc (.cells #[.int .i64 m.guest, .slice ra m.root.length rc, .slice sa m.slots.length sc, .slice fa m.refs.length fc, .slice na m.snaps.length nc] 26)).alloc (.cells #[.string nm] 9)).heap[w.heap.size + 1]? = some (.cells #[.string nm] 9) := by have := World.alloc_heap_new (w.alloc (.cells #[.int .i64 m.guest, .slice ra m.root.length rc, .slice sa m.slots.length sc, .slice fa m.refs.length fc, .slice na m.snaps.length nc] 26)) (.cells #[.string nm] 9); simpa using this
  have m1 : (((w.alloc (.cells #[.int .i64 m.guest, .slice ra m.root.length rc, .slice sa m.slots.length sc, .slice fa m.refs.length fc, .slice na m.snaps.length nc] 26)).alloc (.cells #[.string nm] 9)).alloc (.cells #[.int .i64 0, .slice none 0 0, .slice none 0 0, .slice none 0 0, .slice none 0 0] 26)).heap[w.heap.size + 1]? = some (.cells #[.string nm] 9) := (cells_alloc q1 _)
  have q2 : (((w.alloc (.cells #[.int .i64 m.guest, .slice ra m.root.length rc, .slice sa m.slots.length sc, .slice fa m.refs.length fc, .slice na m.snaps.length nc] 26)).alloc (.cells #[.string nm] 9)).alloc (.cells #[.int .i64 0, .slice none 0 0, .slice none 0 0, .slice none 0 0, .slice none 0 0] 26)).heap[w.heap.size + 1 + 1]? = some (.cells #[.int .i64 0, .slice none 0 0, .slice none 0 0, .slice none 0 0, .slice none 0 0] 26) := by have := World.alloc_heap_new ((w.alloc (.cells #[.int .i64 m.guest, .slice ra m.root.length rc, .slice sa m.slots.length sc, .slice fa m.refs.length fc, .slice na m.snaps.length nc] 26)).alloc (.cells #[.string nm] 9)) (.cells #[.int .i64 0, .slice none 0 0, .slice none 0 0, .slice none 0 0, .slice none 0 0] 26); simpa using this
  have m2 : (((w.alloc (.cells #[.int .i64 m.guest, .slice ra m.root.length rc, .slice sa m.slots.length sc, .slice fa m.refs.length fc, .slice na m.snaps.length nc] 26)).alloc (.cells #[.string nm] 9)).alloc (.cells #[.int .i64 0, .slice none 0 0, .slice none 0 0, .slice none 0 0, .slice none 0 0] 26)).heap[w.heap.size + 1 + 1]? = some (.cells #[.int .i64 0, .slice none 0 0, .slice none 0 0, .slice none 0 0, .slice none 0 0] 26) := q2
  have hz : (((w.alloc (.cells #[.int .i64 m.guest, .slice ra m.root.length rc, .slice sa m.slots.length sc, .slice fa m.refs.length fc, .slice na m.snaps.length nc] 26)).alloc (.cells #[.string nm] 9)).alloc (.cells #[.int .i64 0, .slice none 0 0, .slice none 0 0, .slice none 0 0, .slice none 0 0] 26)).heap.size = w.heap.size + 1 + 1 + 1 := by simp
  clear q0 q1 q2
  have hchk := tcheck_is (h.below b0) hE
  have hF4 := h.four.2.2.2
  have hNP := (namesOK_iff _).1 (shapeE_zero (checkE_shape hE)).2.2.2.1
  have h3l := (shapeE_zero (checkE_shape hE)).1
  have HF : Hid (∀ w2, Below (((w.alloc (.cells #[.int .i64 m.guest, .slice ra m.root.length rc, .slice sa m.slots.length sc, .slice fa m.refs.length fc, .slice na m.snaps.length nc] 26)).alloc (.cells #[.string nm] 9)).alloc (.cells #[.int .i64 0, .slice none 0 0, .slice none 0 0, .slice none 0 0, .slice none 0 0] 26)).heap.size (((w.alloc (.cells #[.int .i64 m.guest, .slice ra m.root.length rc, .slice sa m.slots.length sc, .slice fa m.refs.length fc, .slice na m.snaps.length nc] 26)).alloc (.cells #[.string nm] 9)).alloc (.cells #[.int .i64 0, .slice none 0 0, .slice none 0 0, .slice none 0 0, .slice none 0 0] 26)) w2 → Calls Try.prog 30 #[.slice na m.snaps.length nc, .string nm] w2 fun r w' => r = .returned (.tuple #[.int .i64 (k : Int), .bool true]) ∧ Below w2.heap.size w2 w') := fun w2 hb2 => find_is ((hF4.below b0).below hb2) hNP h3l nm hk hx
  clear hF4 hNP h3l
  obtain ⟨c0, c1, c2, c3, c4⟩ := five m0
  have HM : Hid ((Below w.heap.size w (((w.alloc (.cells #[.int .i64 m.guest, .slice ra m.root.length rc, .slice sa m.slots.length sc, .slice fa m.refs.length fc, .slice na m.snaps.length nc] 26)).alloc (.cells #[.string nm] 9)).alloc (.cells #[.int .i64 0, .slice none 0 0, .slice none 0 0, .slice none 0 0, .slice none 0 0] 26)) ∧ (((w.alloc (.cells #[.int .i64 m.guest, .slice ra m.root.length rc, .slice sa m.slots.length sc, .slice fa m.refs.length fc, .slice na m.snaps.length nc] 26)).alloc (.cells #[.string nm] 9)).alloc (.cells #[.int .i64 0, .slice none 0 0, .slice none 0 0, .slice none 0 0, .slice none 0 0] 26)).heap.size = w.heap.size + 1 + 1 + 1) ∧ (((w.alloc (.cells #[.int .i64 m.guest, .slice ra m.root.length rc, .slice sa m.slots.length sc, .slice fa m.refs.length fc, .slice na m.snaps.length nc] 26)).alloc (.cells #[.string nm] 9)).alloc (.cells #[.int .i64 0, .slice none 0 0, .slice none 0 0, .slice none 0 0, .slice none 0 0] 26)).heap[w.heap.size]? = some (.cells #[.int .i64 m.guest, .slice ra m.root.length rc, .slice sa m.slots.length sc, .slice fa m.refs.length fc, .slice na m.snaps.length nc] 26) ∧ (((w.alloc (.cells #[.int .i64 m.guest, .slice ra m.root.length rc, .slice sa m.slots.length sc, .slice fa m.refs.length fc, .slice na m.snaps.length nc] 26)).alloc (.cells #[.string nm] 9)).alloc (.cells #[.int .i64 0, .slice none 0 0, .slice none 0 0, .slice none 0 0, .slice none 0 0] 26)).heap[w.heap.size + 1]? = some (.cells #[.string nm] 9) ∧ (((w.alloc (.cells #[.int .i64 m.guest, .slice ra m.root.length rc, .slice sa m.slots.length sc, .slice fa m.refs.length fc, .slice na m.snaps.length nc] 26)).alloc (.cells #[.string nm] 9)).alloc (.cells #[.int .i64 0, .slice none 0 0, .slice none 0 0, .slice none 0 0, .slice none 0 0] 26)).heap[w.heap.size + 1 + 1]? = some (.cells #[.int .i64 0, .slice none 0 0, .slice none 0 0, .slice none 0 0, .slice none 0 0] 26)) := ⟨⟨b0, hz⟩, m0, m1, m2⟩
  clear h m0 m1 m2 hz b0
  go_enter Try.func8, Try.ntmps8
  go_wp2_with (first
    | (go_at_call 30; refine (HF.out _ b12).mono ?_; rintro e w5 ⟨rfl, bf⟩; have BB := Below.on b12 bf; clear b12 bf; have gx := cells_alloc (cells_below HM.out.2.1 BB (by rw [HM.out.1.2]; omega)) (.cells #[.int .i64 (k : Int)] 3); obtain ⟨g0, g1, g2, g3, g4⟩ := five gx; have k3 := cells_alloc (cells_below HM.out.2.2.2 BB (by rw [HM.out.1.2]; omega)) (.cells #[.int .i64 (k : Int)] 3); obtain ⟨z0, z1, z2, z3, z4⟩ := five k3; have y0 := cells_frozen k3 0; have y1 := cells_frozen k3 1; have y2 := cells_frozen k3 2; have y3 := cells_frozen k3 3; have y4 := cells_frozen k3 4; have HB : Hid (Below w.heap.size w (w5.alloc (.cells #[.int .i64 (k : Int)] 3))) := (Below.on HM.out.1.1 BB).alloc (by have := BB.size; rw [HM.out.1.2] at this; omega) _; have hsz : w.heap.size + 1 + 1 + 1 ≤ w5.heap.size := (by have := BB.size; rw [HM.out.1.2] at this; omega); clear k3)
    | (go_at_call 29; refine (isName_is _ hNm).mono ?_; rintro e w2 ⟨rfl, b2⟩; have b12 := Below.on b1 b2; clear b1 b2; have cn2 := oneN (cells_below HM.out.2.2.1 b12 (by rw [HM.out.1.2]; omega)); have fx := cells_below HM.out.2.1 b12 (by rw [HM.out.1.2]; omega); obtain ⟨f0, f1, f2, f3, f4⟩ := five fx)
    | (go_at_call 12; refine hchk.mono ?_; rintro e w1 ⟨rfl, b1⟩; have cn := oneN (cells_below HM.out.2.2.1 b1 (by rw [HM.out.1.2]; omega)); have dx := cells_below HM.out.2.1 b1 (by rw [HM.out.1.2]; omega); obtain ⟨d0, d1, d2, d3, d4⟩ := five dx))
  have i1 : w.heap.size ≤ w.heap.size + 1 + 1 := by omega
  refine bodyPost_ret (v := .tuple #[.agg #[.int .i64 0, .slice none 0 0, .slice none 0 0, .slice none 0 0, .slice none 0 0], .int .i64 6]) (by simp [results, Try.results8, go_sem, z0, z1, z2, z3, z4]) rfl (AnsI.bad 6 (((((HB.out.setCell i1 _).setCell i1 _).setCell i1 _).setCell i1 _).setCell i1 _))

set_option maxHeartbeats 4000000 in
theorem create_many_at (m : ImgD) (ra : Option Addr) (rc : Nat) (sa : Option Addr) (sc : Nat) (fa : Option Addr) (fc : Nat) (na : Option Addr) (nc : Nat) (nm : ByteArray) (k : Nat) (w : World) (h : Img w (.agg #[.int .i64 m.guest, .slice ra m.root.length rc, .slice sa m.slots.length sc, .slice fa m.refs.length fc, .slice na m.snaps.length nc]) m) (hE : checkE m = 0) (hNm : isNm nm = true) (hk : posS m.snaps nm = k) (hx : (snapIx m.snaps nm).isSome = false) (h3 : m.snaps.length = 3) :
    Calls Try.prog 8 #[.agg #[.int .i64 m.guest, .slice ra m.root.length rc, .slice sa m.slots.length sc, .slice fa m.refs.length fc, .slice na m.snaps.length nc], .string nm] w (AnsI w w.heap.size imgZ 2) := by
  have b0 : Below w.heap.size w (((w.alloc (.cells #[.int .i64 m.guest, .slice ra m.root.length rc, .slice sa m.slots.length sc, .slice fa m.refs.length fc, .slice na m.snaps.length nc] 26)).alloc (.cells #[.string nm] 9)).alloc (.cells #[.int .i64 0, .slice none 0 0, .slice none 0 0, .slice none 0 0, .slice none 0 0] 26)) := (((Below.refl _ _).alloc (by simp; try omega) _).alloc (by simp; try omega) _).alloc (by simp; try omega) _
  have q0 : (w.alloc (.cells #[.int .i64 m.guest, .slice ra m.root.length rc, .slice sa m.slots.length sc, .slice fa m.refs.length fc, .slice na m.snaps.length nc] 26)).heap[w.heap.size]? = some (.cells #[.int .i64 m.guest, .slice ra m.root.length rc, .slice sa m.slots.length sc, .slice fa m.refs.length fc, .slice na m.snaps.length nc] 26) := by have := World.alloc_heap_new w (.cells #[.int .i64 m.guest, .slice ra m.root.length rc, .slice sa m.slots.length sc, .slice fa m.refs.length fc, .slice na m.snaps.length nc] 26); simpa using this
  have m0 : (((w.alloc (.cells #[.int .i64 m.guest, .slice ra m.root.length rc, .slice sa m.slots.length sc, .slice fa m.refs.length fc, .slice na m.snaps.length nc] 26)).alloc (.cells #[.string nm] 9)).alloc (.cells #[.int .i64 0, .slice none 0 0, .slice none 0 0, .slice none 0 0, .slice none 0 0] 26)).heap[w.heap.size]? = some (.cells #[.int .i64 m.guest, .slice ra m.root.length rc, .slice sa m.slots.length sc, .slice fa m.refs.length fc, .slice na m.snaps.length nc] 26) := (cells_alloc (cells_alloc q0 _) _)
  have q1 : ((w.alloc (.cells #[.int .i64 m.guest, .slice ra m.root.length rc, .slice sa m.slots.length sc, .slice fa m.refs.length fc, .slice na m.snaps.length nc] 26)).alloc (.cells #[.string nm] 9)).heap[w.heap.size + 1]? = some (.cells #[.string nm] 9) := by have := World.alloc_heap_new (w.alloc (.cells #[.int .i64 m.guest, .slice ra m.root.length rc, .slice sa m.slots.length sc, .slice fa m.refs.length fc, .slice na m.snaps.length nc] 26)) (.cells #[.string nm] 9); simpa using this
  have m1 : (((w.alloc (.cells #[.int .i64 m.guest, .slice ra m.root.length rc, .slice sa m.slots.length sc, .slice fa m.refs.length fc, .slice na m.snaps.length nc] 26)).alloc (.cells #[.string nm] 9)).alloc (.cells #[.int .i64 0, .slice none 0 0, .slice none 0 0, .slice none 0 0, .slice none 0 0] 26)).heap[w.heap.size + 1]? = some (.cells #[.string nm] 9) := (cells_alloc q1 _)
  have q2 : (((w.alloc (.cells #[.int .i64 m.guest, .slice ra m.root.length rc, .slice sa m.slots.length sc, .slice fa m.refs.length fc, .slice na m.snaps.length nc] 26)).alloc (.cells #[.string nm] 9)).alloc (.cells #[.int .i64 0, .slice none 0 0, .slice none 0 0, .slice none 0 0, .slice none 0 0] 26)).heap[w.heap.size + 1 + 1]? = some (.cells #[.int .i64 0, .slice none 0 0, .slice none 0 0, .slice none 0 0, .slice none 0 0] 26) := by have := World.alloc_heap_new ((w.alloc (.cells #[.int .i64 m.guest, .slice ra m.root.length rc, .slice sa m.slots.length sc, .slice fa m.refs.length fc, .slice na m.snaps.length nc] 26)).alloc (.cells #[.string nm] 9)) (.cells #[.int .i64 0, .slice none 0 0, .slice none 0 0, .slice none 0 0, .slice none 0 0] 26); simpa using this
  have m2 : (((w.alloc (.cells #[.int .i64 m.guest, .slice ra m.root.length rc, .slice sa m.slots.length sc, .slice fa m.refs.length fc, .slice na m.snaps.length nc] 26)).alloc (.cells #[.string nm] 9)).alloc (.cells #[.int .i64 0, .slice none 0 0, .slice none 0 0, .slice none 0 0, .slice none 0 0] 26)).heap[w.heap.size + 1 + 1]? = some (.cells #[.int .i64 0, .slice none 0 0, .slice none 0 0, .slice none 0 0, .slice none 0 0] 26) := q2
  have hz : (((w.alloc (.cells #[.int .i64 m.guest, .slice ra m.root.length rc, .slice sa m.slots.length sc, .slice fa m.refs.length fc, .slice na m.snaps.length nc] 26)).alloc (.cells #[.string nm] 9)).alloc (.cells #[.int .i64 0, .slice none 0 0, .slice none 0 0, .slice none 0 0, .slice none 0 0] 26)).heap.size = w.heap.size + 1 + 1 + 1 := by simp
  clear q0 q1 q2
  have hchk := tcheck_is (h.below b0) hE
  have hF4 := h.four.2.2.2
  have hNP := (namesOK_iff _).1 (shapeE_zero (checkE_shape hE)).2.2.2.1
  have h3l := (shapeE_zero (checkE_shape hE)).1
  have HF : Hid (∀ w2, Below (((w.alloc (.cells #[.int .i64 m.guest, .slice ra m.root.length rc, .slice sa m.slots.length sc, .slice fa m.refs.length fc, .slice na m.snaps.length nc] 26)).alloc (.cells #[.string nm] 9)).alloc (.cells #[.int .i64 0, .slice none 0 0, .slice none 0 0, .slice none 0 0, .slice none 0 0] 26)).heap.size (((w.alloc (.cells #[.int .i64 m.guest, .slice ra m.root.length rc, .slice sa m.slots.length sc, .slice fa m.refs.length fc, .slice na m.snaps.length nc] 26)).alloc (.cells #[.string nm] 9)).alloc (.cells #[.int .i64 0, .slice none 0 0, .slice none 0 0, .slice none 0 0, .slice none 0 0] 26)) w2 → Calls Try.prog 30 #[.slice na m.snaps.length nc, .string nm] w2 fun r w' => r = .returned (.tuple #[.int .i64 (k : Int), .bool false]) ∧ Below w2.heap.size w2 w') := fun w2 hb2 => find_is ((hF4.below b0).below hb2) hNP h3l nm hk hx
  clear hF4 hNP h3l
  have h3b : ((m.snaps.length : Int) == 3) = true := by simp; omega
  clear h3
  obtain ⟨c0, c1, c2, c3, c4⟩ := five m0
  have HM : Hid ((Below w.heap.size w (((w.alloc (.cells #[.int .i64 m.guest, .slice ra m.root.length rc, .slice sa m.slots.length sc, .slice fa m.refs.length fc, .slice na m.snaps.length nc] 26)).alloc (.cells #[.string nm] 9)).alloc (.cells #[.int .i64 0, .slice none 0 0, .slice none 0 0, .slice none 0 0, .slice none 0 0] 26)) ∧ (((w.alloc (.cells #[.int .i64 m.guest, .slice ra m.root.length rc, .slice sa m.slots.length sc, .slice fa m.refs.length fc, .slice na m.snaps.length nc] 26)).alloc (.cells #[.string nm] 9)).alloc (.cells #[.int .i64 0, .slice none 0 0, .slice none 0 0, .slice none 0 0, .slice none 0 0] 26)).heap.size = w.heap.size + 1 + 1 + 1) ∧ (((w.alloc (.cells #[.int .i64 m.guest, .slice ra m.root.length rc, .slice sa m.slots.length sc, .slice fa m.refs.length fc, .slice na m.snaps.length nc] 26)).alloc (.cells #[.string nm] 9)).alloc (.cells #[.int .i64 0, .slice none 0 0, .slice none 0 0, .slice none 0 0, .slice none 0 0] 26)).heap[w.heap.size]? = some (.cells #[.int .i64 m.guest, .slice ra m.root.length rc, .slice sa m.slots.length sc, .slice fa m.refs.length fc, .slice na m.snaps.length nc] 26) ∧ (((w.alloc (.cells #[.int .i64 m.guest, .slice ra m.root.length rc, .slice sa m.slots.length sc, .slice fa m.refs.length fc, .slice na m.snaps.length nc] 26)).alloc (.cells #[.string nm] 9)).alloc (.cells #[.int .i64 0, .slice none 0 0, .slice none 0 0, .slice none 0 0, .slice none 0 0] 26)).heap[w.heap.size + 1]? = some (.cells #[.string nm] 9) ∧ (((w.alloc (.cells #[.int .i64 m.guest, .slice ra m.root.length rc, .slice sa m.slots.length sc, .slice fa m.refs.length fc, .slice na m.snaps.length nc] 26)).alloc (.cells #[.string nm] 9)).alloc (.cells #[.int .i64 0, .slice none 0 0, .slice none 0 0, .slice none 0 0, .slice none 0 0] 26)).heap[w.heap.size + 1 + 1]? = some (.cells #[.int .i64 0, .slice none 0 0, .slice none 0 0, .slice none 0 0, .slice none 0 0] 26)) := ⟨⟨b0, hz⟩, m0, m1, m2⟩
  clear h m0 m1 m2 hz b0
  go_enter Try.func8, Try.ntmps8
  go_wp2_with (first
    | (go_at_call 30; refine (HF.out _ b12).mono ?_; rintro e w5 ⟨rfl, bf⟩; have BB := Below.on b12 bf; clear b12 bf; have gx := cells_alloc (cells_below HM.out.2.1 BB (by rw [HM.out.1.2]; omega)) (.cells #[.int .i64 (k : Int)] 3); obtain ⟨g0, g1, g2, g3, g4⟩ := five gx; have k3 := cells_alloc (cells_below HM.out.2.2.2 BB (by rw [HM.out.1.2]; omega)) (.cells #[.int .i64 (k : Int)] 3); obtain ⟨z0, z1, z2, z3, z4⟩ := five k3; have y0 := cells_frozen k3 0; have y1 := cells_frozen k3 1; have y2 := cells_frozen k3 2; have y3 := cells_frozen k3 3; have y4 := cells_frozen k3 4; have HB : Hid (Below w.heap.size w (w5.alloc (.cells #[.int .i64 (k : Int)] 3))) := (Below.on HM.out.1.1 BB).alloc (by have := BB.size; rw [HM.out.1.2] at this; omega) _; have hsz : w.heap.size + 1 + 1 + 1 ≤ w5.heap.size := (by have := BB.size; rw [HM.out.1.2] at this; omega); clear k3)
    | (go_at_call 29; refine (isName_is _ hNm).mono ?_; rintro e w2 ⟨rfl, b2⟩; have b12 := Below.on b1 b2; clear b1 b2; have cn2 := oneN (cells_below HM.out.2.2.1 b12 (by rw [HM.out.1.2]; omega)); have fx := cells_below HM.out.2.1 b12 (by rw [HM.out.1.2]; omega); obtain ⟨f0, f1, f2, f3, f4⟩ := five fx)
    | (go_at_call 12; refine hchk.mono ?_; rintro e w1 ⟨rfl, b1⟩; have cn := oneN (cells_below HM.out.2.2.1 b1 (by rw [HM.out.1.2]; omega)); have dx := cells_below HM.out.2.1 b1 (by rw [HM.out.1.2]; omega); obtain ⟨d0, d1, d2, d3, d4⟩ := five dx))
  have i1 : w.heap.size ≤ w.heap.size + 1 + 1 := by omega
  refine bodyPost_ret (v := .tuple #[.agg #[.int .i64 0, .slice none 0 0, .slice none 0 0, .slice none 0 0, .slice none 0 0], .int .i64 2]) (by simp [results, Try.results8, go_sem, z0, z1, z2, z3, z4]) rfl (AnsI.bad 2 (((((HB.out.setCell i1 _).setCell i1 _).setCell i1 _).setCell i1 _).setCell i1 _))

set_option maxHeartbeats 4000000 in
theorem create_ok_at (m : ImgD) (ra : Option Addr) (rc : Nat) (sa : Option Addr) (sc : Nat) (fa : Option Addr) (fc : Nat) (na : Option Addr) (nc : Nat) (nm : ByteArray) (k : Nat) (w : World) (h : Img w (.agg #[.int .i64 m.guest, .slice ra m.root.length rc, .slice sa m.slots.length sc, .slice fa m.refs.length fc, .slice na m.snaps.length nc]) m) (hE : checkE m = 0) (hNm : isNm nm = true) (hk : posS m.snaps nm = k) (hx : (snapIx m.snaps nm).isSome = false) (h3 : m.snaps.length < 3) (hkl : k ≤ m.snaps.length) (hsh : shapeE (insM m k (nm, m.guest, m.root)) = 0) (M : ImgD) (hM : countedD (insM m k (nm, m.guest, m.root)) = M) :
    Calls Try.prog 8 #[.agg #[.int .i64 m.guest, .slice ra m.root.length rc, .slice sa m.slots.length sc, .slice fa m.refs.length fc, .slice na m.snaps.length nc], .string nm] w (AnsI w w.heap.size M 0) := by
  have b0 : Below w.heap.size w (((w.alloc (.cells #[.int .i64 m.guest, .slice ra m.root.length rc, .slice sa m.slots.length sc, .slice fa m.refs.length fc, .slice na m.snaps.length nc] 26)).alloc (.cells #[.string nm] 9)).alloc (.cells #[.int .i64 0, .slice none 0 0, .slice none 0 0, .slice none 0 0, .slice none 0 0] 26)) := (((Below.refl _ _).alloc (by simp; try omega) _).alloc (by simp; try omega) _).alloc (by simp; try omega) _
  have q0 : (w.alloc (.cells #[.int .i64 m.guest, .slice ra m.root.length rc, .slice sa m.slots.length sc, .slice fa m.refs.length fc, .slice na m.snaps.length nc] 26)).heap[w.heap.size]? = some (.cells #[.int .i64 m.guest, .slice ra m.root.length rc, .slice sa m.slots.length sc, .slice fa m.refs.length fc, .slice na m.snaps.length nc] 26) := by have := World.alloc_heap_new w (.cells #[.int .i64 m.guest, .slice ra m.root.length rc, .slice sa m.slots.length sc, .slice fa m.refs.length fc, .slice na m.snaps.length nc] 26); simpa using this
  have m0 : (((w.alloc (.cells #[.int .i64 m.guest, .slice ra m.root.length rc, .slice sa m.slots.length sc, .slice fa m.refs.length fc, .slice na m.snaps.length nc] 26)).alloc (.cells #[.string nm] 9)).alloc (.cells #[.int .i64 0, .slice none 0 0, .slice none 0 0, .slice none 0 0, .slice none 0 0] 26)).heap[w.heap.size]? = some (.cells #[.int .i64 m.guest, .slice ra m.root.length rc, .slice sa m.slots.length sc, .slice fa m.refs.length fc, .slice na m.snaps.length nc] 26) := (cells_alloc (cells_alloc q0 _) _)
  have q1 : ((w.alloc (.cells #[.int .i64 m.guest, .slice ra m.root.length rc, .slice sa m.slots.length sc, .slice fa m.refs.length fc, .slice na m.snaps.length nc] 26)).alloc (.cells #[.string nm] 9)).heap[w.heap.size + 1]? = some (.cells #[.string nm] 9) := by have := World.alloc_heap_new (w.alloc (.cells #[.int .i64 m.guest, .slice ra m.root.length rc, .slice sa m.slots.length sc, .slice fa m.refs.length fc, .slice na m.snaps.length nc] 26)) (.cells #[.string nm] 9); simpa using this
  have m1 : (((w.alloc (.cells #[.int .i64 m.guest, .slice ra m.root.length rc, .slice sa m.slots.length sc, .slice fa m.refs.length fc, .slice na m.snaps.length nc] 26)).alloc (.cells #[.string nm] 9)).alloc (.cells #[.int .i64 0, .slice none 0 0, .slice none 0 0, .slice none 0 0, .slice none 0 0] 26)).heap[w.heap.size + 1]? = some (.cells #[.string nm] 9) := (cells_alloc q1 _)
  have q2 : (((w.alloc (.cells #[.int .i64 m.guest, .slice ra m.root.length rc, .slice sa m.slots.length sc, .slice fa m.refs.length fc, .slice na m.snaps.length nc] 26)).alloc (.cells #[.string nm] 9)).alloc (.cells #[.int .i64 0, .slice none 0 0, .slice none 0 0, .slice none 0 0, .slice none 0 0] 26)).heap[w.heap.size + 1 + 1]? = some (.cells #[.int .i64 0, .slice none 0 0, .slice none 0 0, .slice none 0 0, .slice none 0 0] 26) := by have := World.alloc_heap_new ((w.alloc (.cells #[.int .i64 m.guest, .slice ra m.root.length rc, .slice sa m.slots.length sc, .slice fa m.refs.length fc, .slice na m.snaps.length nc] 26)).alloc (.cells #[.string nm] 9)) (.cells #[.int .i64 0, .slice none 0 0, .slice none 0 0, .slice none 0 0, .slice none 0 0] 26); simpa using this
  have m2 : (((w.alloc (.cells #[.int .i64 m.guest, .slice ra m.root.length rc, .slice sa m.slots.length sc, .slice fa m.refs.length fc, .slice na m.snaps.length nc] 26)).alloc (.cells #[.string nm] 9)).alloc (.cells #[.int .i64 0, .slice none 0 0, .slice none 0 0, .slice none 0 0, .slice none 0 0] 26)).heap[w.heap.size + 1 + 1]? = some (.cells #[.int .i64 0, .slice none 0 0, .slice none 0 0, .slice none 0 0, .slice none 0 0] 26) := q2
  have hz : (((w.alloc (.cells #[.int .i64 m.guest, .slice ra m.root.length rc, .slice sa m.slots.length sc, .slice fa m.refs.length fc, .slice na m.snaps.length nc] 26)).alloc (.cells #[.string nm] 9)).alloc (.cells #[.int .i64 0, .slice none 0 0, .slice none 0 0, .slice none 0 0, .slice none 0 0] 26)).heap.size = w.heap.size + 1 + 1 + 1 := by simp
  clear q0 q1 q2
  have hchk := tcheck_is (h.below b0) hE
  have hF4 := h.four.2.2.2
  have hNP := (namesOK_iff _).1 (shapeE_zero (checkE_shape hE)).2.2.2.1
  have h3l := (shapeE_zero (checkE_shape hE)).1
  have HF : Hid (∀ w2, Below (((w.alloc (.cells #[.int .i64 m.guest, .slice ra m.root.length rc, .slice sa m.slots.length sc, .slice fa m.refs.length fc, .slice na m.snaps.length nc] 26)).alloc (.cells #[.string nm] 9)).alloc (.cells #[.int .i64 0, .slice none 0 0, .slice none 0 0, .slice none 0 0, .slice none 0 0] 26)).heap.size (((w.alloc (.cells #[.int .i64 m.guest, .slice ra m.root.length rc, .slice sa m.slots.length sc, .slice fa m.refs.length fc, .slice na m.snaps.length nc] 26)).alloc (.cells #[.string nm] 9)).alloc (.cells #[.int .i64 0, .slice none 0 0, .slice none 0 0, .slice none 0 0, .slice none 0 0] 26)) w2 → Calls Try.prog 30 #[.slice na m.snaps.length nc, .string nm] w2 fun r w' => r = .returned (.tuple #[.int .i64 (k : Int), .bool false]) ∧ Below w2.heap.size w2 w') := fun w2 hb2 => find_is ((hF4.below b0).below hb2) hNP h3l nm hk hx
  clear hF4 hNP h3l
  have h3b : ((m.snaps.length : Int) == 3) = false := by simp; omega
  have HO : Hid (∀ w5, Below (((w.alloc (.cells #[.int .i64 m.guest, .slice ra m.root.length rc, .slice sa m.slots.length sc, .slice fa m.refs.length fc, .slice na m.snaps.length nc] 26)).alloc (.cells #[.string nm] 9)).alloc (.cells #[.int .i64 0, .slice none 0 0, .slice none 0 0, .slice none 0 0, .slice none 0 0] 26)).heap.size (((w.alloc (.cells #[.int .i64 m.guest, .slice ra m.root.length rc, .slice sa m.slots.length sc, .slice fa m.refs.length fc, .slice na m.snaps.length nc] 26)).alloc (.cells #[.string nm] 9)).alloc (.cells #[.int .i64 0, .slice none 0 0, .slice none 0 0, .slice none 0 0, .slice none 0 0] 26)) w5 → Calls Try.prog 31 #[.agg #[.int .i64 m.guest, .slice ra m.root.length rc, .slice sa m.slots.length sc, .slice fa m.refs.length fc, .slice na m.snaps.length nc], .func (.func 32) #[] #[.pointer (some ⟨w.heap.size + 1, 0, none⟩), .pointer (some ⟨w5.heap.size, 0, none⟩)]] (w5.alloc (.cells #[.int .i64 (k : Int)] 3)) (AnsI (w5.alloc (.cells #[.int .i64 (k : Int)] 3)) (w5.alloc (.cells #[.int .i64 (k : Int)] 3)).heap.size M 0)) := fun w5 b5 => by
    have hsz : w.heap.size + 1 + 1 + 1 ≤ w5.heap.size := (by have := b5.size; rw [hz] at this; exact this)
    have b6 : Below (((w.alloc (.cells #[.int .i64 m.guest, .slice ra m.root.length rc, .slice sa m.slots.length sc, .slice fa m.refs.length fc, .slice na m.snaps.length nc] 26)).alloc (.cells #[.string nm] 9)).alloc (.cells #[.int .i64 0, .slice none 0 0, .slice none 0 0, .slice none 0 0, .slice none 0 0] 26)).heap.size (((w.alloc (.cells #[.int .i64 m.guest, .slice ra m.root.length rc, .slice sa m.slots.length sc, .slice fa m.refs.length fc, .slice na m.snaps.length nc] 26)).alloc (.cells #[.string nm] 9)).alloc (.cells #[.int .i64 0, .slice none 0 0, .slice none 0 0, .slice none 0 0, .slice none 0 0] 26)) (w5.alloc (.cells #[.int .i64 (k : Int)] 3)) := b5.alloc (by rw [hz]; exact hsz) _
    have hz1 : (w5.alloc (.cells #[.int .i64 (k : Int)] 3)).heap.size = w5.heap.size + 1 := by simp
    have ho := of_is (h.below (Below.on b0 b6)) (fits_of_shape (checkE_shape hE)) (enters_of Try.func32 (by kernel_rfl) rfl) (create_turn (nm := nm) (oneN (cells_below m1 b6 (by rw [hz]; omega))) (oneN (World.alloc_heap_new _ _)) (by omega) (by omega) (checkE_shape hE) hkl)
    have e1 : ofM (some (insM m k (nm, m.guest, m.root))) = M := by unfold ofM; dsimp only; rw [if_pos hsh]; exact hM
    have e2 : ofE (some (insM m k (nm, m.guest, m.root))) = 0 := hsh
    rw [e1, e2] at ho
    exact ho
  obtain ⟨c0, c1, c2, c3, c4⟩ := five m0
  have HM : Hid ((Below w.heap.size w (((w.alloc (.cells #[.int .i64 m.guest, .slice ra m.root.length rc, .slice sa m.slots.length sc, .slice fa m.refs.length fc, .slice na m.snaps.length nc] 26)).alloc (.cells #[.string nm] 9)).alloc (.cells #[.int .i64 0, .slice none 0 0, .slice none 0 0, .slice none 0 0, .slice none 0 0] 26)) ∧ (((w.alloc (.cells #[.int .i64 m.guest, .slice ra m.root.length rc, .slice sa m.slots.length sc, .slice fa m.refs.length fc, .slice na m.snaps.length nc] 26)).alloc (.cells #[.string nm] 9)).alloc (.cells #[.int .i64 0, .slice none 0 0, .slice none 0 0, .slice none 0 0, .slice none 0 0] 26)).heap.size = w.heap.size + 1 + 1 + 1) ∧ (((w.alloc (.cells #[.int .i64 m.guest, .slice ra m.root.length rc, .slice sa m.slots.length sc, .slice fa m.refs.length fc, .slice na m.snaps.length nc] 26)).alloc (.cells #[.string nm] 9)).alloc (.cells #[.int .i64 0, .slice none 0 0, .slice none 0 0, .slice none 0 0, .slice none 0 0] 26)).heap[w.heap.size]? = some (.cells #[.int .i64 m.guest, .slice ra m.root.length rc, .slice sa m.slots.length sc, .slice fa m.refs.length fc, .slice na m.snaps.length nc] 26) ∧ (((w.alloc (.cells #[.int .i64 m.guest, .slice ra m.root.length rc, .slice sa m.slots.length sc, .slice fa m.refs.length fc, .slice na m.snaps.length nc] 26)).alloc (.cells #[.string nm] 9)).alloc (.cells #[.int .i64 0, .slice none 0 0, .slice none 0 0, .slice none 0 0, .slice none 0 0] 26)).heap[w.heap.size + 1]? = some (.cells #[.string nm] 9) ∧ (((w.alloc (.cells #[.int .i64 m.guest, .slice ra m.root.length rc, .slice sa m.slots.length sc, .slice fa m.refs.length fc, .slice na m.snaps.length nc] 26)).alloc (.cells #[.string nm] 9)).alloc (.cells #[.int .i64 0, .slice none 0 0, .slice none 0 0, .slice none 0 0, .slice none 0 0] 26)).heap[w.heap.size + 1 + 1]? = some (.cells #[.int .i64 0, .slice none 0 0, .slice none 0 0, .slice none 0 0, .slice none 0 0] 26)) := ⟨⟨b0, hz⟩, m0, m1, m2⟩
  clear h m0 m1 m2 hz b0
  clear hM hsh
  go_enter Try.func8, Try.ntmps8
  go_wp2_with (first
    | (go_at_call 30; refine (HF.out _ b12).mono ?_; rintro e w5 ⟨rfl, bf⟩; have BB := Below.on b12 bf; clear b12 bf; have gx := cells_alloc (cells_below HM.out.2.1 BB (by rw [HM.out.1.2]; omega)) (.cells #[.int .i64 (k : Int)] 3); obtain ⟨g0, g1, g2, g3, g4⟩ := five gx; have hof := HO.out w5 BB; have d0 := cells_alloc (cells_below HM.out.2.1 BB (by rw [HM.out.1.2]; omega)) (.cells #[.int .i64 (k : Int)] 3); obtain ⟨x1, x2, x3, x4, x5⟩ := five d0; have ck : (w5.alloc (.cells #[.int .i64 (k : Int)] 3)).cell? ⟨w5.heap.size, 0, none⟩ = some (.int .i64 (k : Int)) := oneN (World.alloc_heap_new _ _); have HV : Hid (Below w.heap.size w (w5.alloc (.cells #[.int .i64 (k : Int)] 3)) ∧ (w5.alloc (.cells #[.int .i64 (k : Int)] 3)).heap[w.heap.size + 1 + 1]? = some (.cells #[.int .i64 0, .slice none 0 0, .slice none 0 0, .slice none 0 0, .slice none 0 0] 26) ∧ w.heap.size + 1 + 1 < (w5.alloc (.cells #[.int .i64 (k : Int)] 3)).heap.size) := ⟨(Below.on HM.out.1.1 BB).alloc (by have := BB.size; rw [HM.out.1.2] at this; omega) _, cells_alloc (cells_below HM.out.2.2.2 BB (by rw [HM.out.1.2]; omega)) _, (by have := BB.size; rw [HM.out.1.2] at this; have hz1 : (w5.alloc (.cells #[.int .i64 (k : Int)] 3)).heap.size = w5.heap.size + 1 := (by simp); omega)⟩; clear d0)
    | (go_at_call 29; refine (isName_is _ hNm).mono ?_; rintro e w2 ⟨rfl, b2⟩; have b12 := Below.on b1 b2; clear b1 b2; have cn2 := oneN (cells_below HM.out.2.2.1 b12 (by rw [HM.out.1.2]; omega)); have fx := cells_below HM.out.2.1 b12 (by rw [HM.out.1.2]; omega); obtain ⟨f0, f1, f2, f3, f4⟩ := five fx)
    | (go_at_call 12; refine hchk.mono ?_; rintro e w1 ⟨rfl, b1⟩; have cn := oneN (cells_below HM.out.2.2.1 b1 (by rw [HM.out.1.2]; omega)); have dx := cells_below HM.out.2.1 b1 (by rw [HM.out.1.2]; omega); obtain ⟨d0, d1, d2, d3, d4⟩ := five dx))
  refine hof.mono ?_
  intro e w3 hA
  obtain ⟨val, ga, gc, la, lc, oa, oc, ta, tc, rfl, hO, b1, hI⟩ := hA.open
  dsimp only
  have k3 := cells_below HV.out.2.1 b1 HV.out.2.2
  obtain ⟨z0, z1, z2, z3, z4⟩ := five k3
  have y0 := cells_frozen k3 0
  have y1 := cells_frozen k3 1
  have y2 := cells_frozen k3 2
  have y3 := cells_frozen k3 3
  have y4 := cells_frozen k3 4
  have HP : Hid (OI w3 (w5.alloc (.cells #[.int .i64 (k : Int)] 3)).heap.size val M) := hO
  have HB : Hid (Below w.heap.size w w3) := Below.on HV.out.1 b1
  have HI : Hid (imgV M.guest val = .agg #[.int .i64 M.guest, .slice ga M.root.length gc, .slice la M.slots.length lc, .slice oa M.refs.length oc, .slice ta M.snaps.length tc]) := hI
  clear hO b1 hI hof hA
  go_wp2_with fail
  have i1 : w.heap.size ≤ w.heap.size + 1 + 1 := by omega
  have hf1 : ∀ a, Live M a → (val a).ownBlock ≠ some (w.heap.size + 1 + 1) := fun a ha e => by have := ((HP.out.row a ha).lt _ e).1; have := HV.out.2.2; omega
  refine bodyPost_ret (v := .tuple #[.agg #[.int .i64 M.guest, .slice ga M.root.length gc, .slice la M.slots.length lc, .slice oa M.refs.length oc, .slice ta M.snaps.length tc], .int .i64 0]) (by simp [results, Try.results8, go_sem, z0, z1, z2, z3, z4]) rfl ⟨val, by rw [HI.out], OI.mono (((((HP.out.far hf1).far hf1).far hf1).far hf1).far hf1) (by have := HV.out.2.2; omega), ((((HB.out.setCell i1 _).setCell i1 _).setCell i1 _).setCell i1 _).setCell i1 _⟩

theorem create_is {w : World} {v : Value} {m : ImgD} (h : Img w v m) (nm : ByteArray) {M : ImgD} {E : Int} (hM : crM m nm = M) (hE : crE m nm = E) :
    Calls Try.prog 8 #[v, .string nm] w (AnsI w w.heap.size M E) := by
  have h' := h
  obtain ⟨ra, rc, sa, sc, fa, fc, na, nc, rfl, _⟩ := h.parts
  subst hM hE
  by_cases h0 : crE m nm = 0
  · obtain ⟨hC, hn, hx, h3, e, hs, _⟩ := cr_ok h0
    rw [h0]
    rw [createM_insN] at e hs
    exact create_ok_at m ra rc sa sc fa fc na nc nm _ w h' hC hn rfl (by rw [hx]; rfl) h3 (posS_le _ _) hs _ e.symm
  · rw [cr_bad h0]
    unfold crE
    by_cases hC : checkE m = 0
    · rw [if_neg (fun x => x hC)]
      by_cases hn : isNm nm = false
      · rw [if_pos hn]; exact create_name_at m ra rc sa sc fa fc na nc nm w h' hC hn
      · rw [if_neg hn]
        have hn' : isNm nm = true := by simpa using hn
        by_cases hx : (snapIx m.snaps nm).isSome = true
        · rw [if_pos hx]; exact create_there_at m ra rc sa sc fa fc na nc nm _ w h' hC hn' rfl hx
        · rw [if_neg hx]
          by_cases h3 : m.snaps.length = 3
          · rw [if_pos h3]; exact create_many_at m ra rc sa sc fa fc na nc nm _ w h' hC hn' rfl (by simpa using hx) h3
          · exact absurd (by unfold crE; rw [if_neg (fun x => x hC), if_neg hn, if_neg hx, if_neg h3]) h0
    · rw [if_pos hC]
      exact create_bad_at m ra rc sa sc fa fc na nc nm _ w h' rfl (by simp [hC])
end Go.Proofs.Ytehleeibgkpjmae
/- Contracts of snapshots: Create, Revert, Delete. -/
namespace Go.Proofs.Ytehleeibgkpjmae
open Go.RowKit Go.Shelf
set_option maxRecDepth 20000
set_option linter.unusedVariables false
set_option linter.unusedSimpArgs false

set_option maxHeartbeats 4000000 in
theorem with_bad_at (m : ImgD) (ra : Option Addr) (rc : Nat) (sa : Option Addr) (sc : Nat) (fa : Option Addr) (fc : Nat) (na : Option Addr) (nc : Nat) (nm : ByteArray) (N : Nat) (E : Int) (w : World) (h : Img w (.agg #[.int .i64 m.guest, .slice ra m.root.length rc, .slice sa m.slots.length sc, .slice fa m.refs.length fc, .slice na m.snaps.length nc]) m) (hE : checkE m = E) (hne : (E != 0) = true) :
    Calls Try.prog 35 #[.agg #[.int .i64 m.guest, .slice ra m.root.length rc, .slice sa m.slots.length sc, .slice fa m.refs.length fc, .slice na m.snaps.length nc], .string nm, .func (.func N) #[] #[]] w (AnsI w w.heap.size imgZ E) := by
  have b0 : Below w.heap.size w (((w.alloc (.cells #[.int .i64 m.guest, .slice ra m.root.length rc, .slice sa m.slots.length sc, .slice fa m.refs.length fc, .slice na m.snaps.length nc] 26)).alloc (.cells #[.func (.func N) #[] #[]] 68)).alloc (.cells #[.int .i64 0, .slice none 0 0, .slice none 0 0, .slice none 0 0, .slice none 0 0] 26)) := (((Below.refl _ _).alloc (by simp; try omega) _).alloc (by simp; try omega) _).alloc (by simp; try omega) _
  have q0 : (w.alloc (.cells #[.int .i64 m.guest, .slice ra m.root.length rc, .slice sa m.slots.length sc, .slice fa m.refs.length fc, .slice na m.snaps.length nc] 26)).heap[w.heap.size]? = some (.cells #[.int .i64 m.guest, .slice ra m.root.length rc, .slice sa m.slots.length sc, .slice fa m.refs.length fc, .slice na m.snaps.length nc] 26) := by have := World.alloc_heap_new w (.cells #[.int .i64 m.guest, .slice ra m.root.length rc, .slice sa m.slots.length sc, .slice fa m.refs.length fc, .slice na m.snaps.length nc] 26); simpa using this
  have m0 : (((w.alloc (.cells #[.int .i64 m.guest, .slice ra m.root.length rc, .slice sa m.slots.length sc, .slice fa m.refs.length fc, .slice na m.snaps.length nc] 26)).alloc (.cells #[.func (.func N) #[] #[]] 68)).alloc (.cells #[.int .i64 0, .slice none 0 0, .slice none 0 0, .slice none 0 0, .slice none 0 0] 26)).heap[w.heap.size]? = some (.cells #[.int .i64 m.guest, .slice ra m.root.length rc, .slice sa m.slots.length sc, .slice fa m.refs.length fc, .slice na m.snaps.length nc] 26) := (cells_alloc (cells_alloc q0 _) _)
  have q1 : ((w.alloc (.cells #[.int .i64 m.guest, .slice ra m.root.length rc, .slice sa m.slots.length sc, .slice fa m.refs.length fc, .slice na m.snaps.length nc] 26)).alloc (.cells #[.func (.func N) #[] #[]] 68)).heap[w.heap.size + 1]? = some (.cells #[.func (.func N) #[] #[]] 68) := by have := World.alloc_heap_new (w.alloc (.cells #[.int .i64 m.guest, .slice ra m.root.length rc, .slice sa m.slots.length sc, .slice fa m.refs.length fc, .slice na m.snaps.length nc] 26)) (.cells #[.func (.func N) #[] #[]] 68); simpa using this
  have m1 : (((w.alloc (.cells #[.int .i64 m.guest, .slice ra m.root.length rc, .slice sa m.slots.length sc, .slice fa m.refs.length fc, .slice na m.snaps.length nc] 26)).alloc (.cells #[.func (.func N) #[] #[]] 68)).alloc (.cells #[.int .i64 0, .slice none 0 0, .slice none 0 0, .slice none 0 0, .slice none 0 0] 26)).heap[w.heap.size + 1]? = some (.cells #[.func (.func N) #[] #[]] 68) := (cells_alloc q1 _)
  have q2 : (((w.alloc (.cells #[.int .i64 m.guest, .slice ra m.root.length rc, .slice sa m.slots.length sc, .slice fa m.refs.length fc, .slice na m.snaps.length nc] 26)).alloc (.cells #[.func (.func N) #[] #[]] 68)).alloc (.cells #[.int .i64 0, .slice none 0 0, .slice none 0 0, .slice none 0 0, .slice none 0 0] 26)).heap[w.heap.size + 1 + 1]? = some (.cells #[.int .i64 0, .slice none 0 0, .slice none 0 0, .slice none 0 0, .slice none 0 0] 26) := by have := World.alloc_heap_new ((w.alloc (.cells #[.int .i64 m.guest, .slice ra m.root.length rc, .slice sa m.slots.length sc, .slice fa m.refs.length fc, .slice na m.snaps.length nc] 26)).alloc (.cells #[.func (.func N) #[] #[]] 68)) (.cells #[.int .i64 0, .slice none 0 0, .slice none 0 0, .slice none 0 0, .slice none 0 0] 26); simpa using this
  have m2 : (((w.alloc (.cells #[.int .i64 m.guest, .slice ra m.root.length rc, .slice sa m.slots.length sc, .slice fa m.refs.length fc, .slice na m.snaps.length nc] 26)).alloc (.cells #[.func (.func N) #[] #[]] 68)).alloc (.cells #[.int .i64 0, .slice none 0 0, .slice none 0 0, .slice none 0 0, .slice none 0 0] 26)).heap[w.heap.size + 1 + 1]? = some (.cells #[.int .i64 0, .slice none 0 0, .slice none 0 0, .slice none 0 0, .slice none 0 0] 26) := q2
  have hz : (((w.alloc (.cells #[.int .i64 m.guest, .slice ra m.root.length rc, .slice sa m.slots.length sc, .slice fa m.refs.length fc, .slice na m.snaps.length nc] 26)).alloc (.cells #[.func (.func N) #[] #[]] 68)).alloc (.cells #[.int .i64 0, .slice none 0 0, .slice none 0 0, .slice none 0 0, .slice none 0 0] 26)).heap.size = w.heap.size + 1 + 1 + 1 := by simp
  clear q0 q1 q2
  have hchk := tcheck_is (h.below b0) hE
  obtain ⟨c0, c1, c2, c3, c4⟩ := five m0
  have HM : Hid ((Below w.heap.size w (((w.alloc (.cells #[.int .i64 m.guest, .slice ra m.root.length rc, .slice sa m.slots.length sc, .slice fa m.refs.length fc, .slice na m.snaps.length nc] 26)).alloc (.cells #[.func (.func N) #[] #[]] 68)).alloc (.cells #[.int .i64 0, .slice none 0 0, .slice none 0 0, .slice none 0 0, .slice none 0 0] 26)) ∧ (((w.alloc (.cells #[.int .i64 m.guest, .slice ra m.root.length rc, .slice sa m.slots.length sc, .slice fa m.refs.length fc, .slice na m.snaps.length nc] 26)).alloc (.cells #[.func (.func N) #[] #[]] 68)).alloc (.cells #[.int .i64 0, .slice none 0 0, .slice none 0 0, .slice none 0 0, .slice none 0 0] 26)).heap.size = w.heap.size + 1 + 1 + 1) ∧ (((w.alloc (.cells #[.int .i64 m.guest, .slice ra m.root.length rc, .slice sa m.slots.length sc, .slice fa m.refs.length fc, .slice na m.snaps.length nc] 26)).alloc (.cells #[.func (.func N) #[] #[]] 68)).alloc (.cells #[.int .i64 0, .slice none 0 0, .slice none 0 0, .slice none 0 0, .slice none 0 0] 26)).heap[w.heap.size]? = some (.cells #[.int .i64 m.guest, .slice ra m.root.length rc, .slice sa m.slots.length sc, .slice fa m.refs.length fc, .slice na m.snaps.length nc] 26) ∧ (((w.alloc (.cells #[.int .i64 m.guest, .slice ra m.root.length rc, .slice sa m.slots.length sc, .slice fa m.refs.length fc, .slice na m.snaps.length nc] 26)).alloc (.cells #[.func (.func N) #[] #[]] 68)).alloc (.cells #[.int .i64 0, .slice none 0 0, .slice none 0 0, .slice none 0 0, .slice none 0 0] 26)).heap[w.heap.size + 1]? = some (.cells #[.func (.func N) #[] #[]] 68) ∧ (((w.alloc (.cells #[.int .i64 m.guest, .slice ra m.root.length rc, .slice sa m.slots.length sc, .slice fa m.refs.length fc, .slice na m.snaps.length nc] 26)).alloc (.cells #[.func (.func N) #[] #[]] 68)).alloc (.cells #[.int .i64 0, .slice none 0 0, .slice none 0 0, .slice none 0 0, .slice none 0 0] 26)).heap[w.heap.size + 1 + 1]? = some (.cells #[.int .i64 0, .slice none 0 0, .slice none 0 0, .slice none 0 0, .slice none 0 0] 26)) := ⟨⟨b0, hz⟩, m0, m1, m2⟩
  clear h m0 m1 m2 hz b0
  go_enter Try.func35, Try.ntmps35
  go_wp2_with (first
    | (go_at_call 12; refine hchk.mono ?_; rintro e w1 ⟨rfl, b1⟩; have BB := b1; clear b1; have k3 := cells_below HM.out.2.2.2 BB (by rw [HM.out.1.2]; omega); obtain ⟨z0, z1, z2, z3, z4⟩ := five k3; have y0 := cells_frozen k3 0; have y1 := cells_frozen k3 1; have y2 := cells_frozen k3 2; have y3 := cells_frozen k3 3; have y4 := cells_frozen k3 4; have HB : Hid (Below w.heap.size w w1) := Below.on HM.out.1.1 BB; have hsz : w.heap.size + 1 + 1 + 1 ≤ w1.heap.size := (by have := BB.size; rw [HM.out.1.2] at this; omega); clear k3))
  have i1 : w.heap.size ≤ w.heap.size + 1 + 1 := by omega
  refine bodyPost_ret (v := .tuple #[.agg #[.int .i64 0, .slice none 0 0, .slice none 0 0, .slice none 0 0, .slice none 0 0], .int .i64 E]) (by simp [results, Try.results35, go_sem, z0, z1, z2, z3, z4]) rfl (AnsI.bad E (((((HB.out.setCell i1 _).setCell i1 _).setCell i1 _).setCell i1 _).setCell i1 _))

set_option maxHeartbeats 4000000 in
theorem with_none_at (m : ImgD) (ra : Option Addr) (rc : Nat) (sa : Option Addr) (sc : Nat) (fa : Option Addr) (fc : Nat) (na : Option Addr) (nc : Nat) (nm : ByteArray) (N k : Nat) (w : World) (h : Img w (.agg #[.int .i64 m.guest, .slice ra m.root.length rc, .slice sa m.slots.length sc, .slice fa m.refs.length fc, .slice na m.snaps.length nc]) m) (hE : checkE m = 0) (hk : posS m.snaps nm = k) (hx : (snapIx m.snaps nm).isSome = false) :
    Calls Try.prog 35 #[.agg #[.int .i64 m.guest, .slice ra m.root.length rc, .slice sa m.slots.length sc, .slice fa m.refs.length fc, .slice na m.snaps.length nc], .string nm, .func (.func N) #[] #[]] w (AnsI w w.heap.size imgZ 5) := by
  have b0 : Below w.heap.size w (((w.alloc (.cells #[.int .i64 m.guest, .slice ra m.root.length rc, .slice sa m.slots.length sc, .slice fa m.refs.length fc, .slice na m.snaps.length nc] 26)).alloc (.cells #[.func (.func N) #[] #[]] 68)).alloc (.cells #[.int .i64 0, .slice none 0 0, .slice none 0 0, .slice none 0 0, .slice none 0 0] 26)) := (((Below.refl _ _).alloc (by simp; try omega) _).alloc (by simp; try omega) _).alloc (by simp; try omega) _
  have q0 : (w.alloc (.cells #[.int .i64 m.guest, .slice ra m.root.length rc, .slice sa m.slots.length sc, .slice fa m.refs.length fc, .slice na m.snaps.length nc] 26)).heap[w.heap.size]? = some (.cells #[.int .i64 m.guest, .slice ra m.root.length rc, .slice sa m.slots.length sc, .slice fa m.refs.length fc, .slice na m.snaps.length nc] 26) := by have := World.alloc_heap_new w (.cells #[.int .i64 m.guest, .slice ra m.root.length rc, .slice sa m.slots.length sc, .slice fa m.refs.length fc, .slice na m.snaps.length nc] 26); simpa using this
  have m0 : (((w.alloc (.cells #[.int .i64 m.guest, .slice ra m.root.length rc, .slice sa m.slots.length sc, .slice fa m.refs.length fc, .slice na m.snaps.length nc] 26)).alloc (.cells #[.func (.func N) #[] #[]] 68)).alloc (.cells #[.int .i64 0, .slice none 0 0, .slice none 0 0, .slice none 0 0, .slice none 0 0] 26)).heap[w.heap.size]? = some (.cells #[.int .i64 m.guest, .slice ra m.root.length rc, .slice sa m.slots.length sc, .slice fa m.refs.length fc, .slice na m.snaps.length nc] 26) := (cells_alloc (cells_alloc q0 _) _)
  have q1 : ((w.alloc (.cells #[.int .i64 m.guest, .slice ra m.root.length rc, .slice sa m.slots.length sc, .slice fa m.refs.length fc, .slice na m.snaps.length nc] 26)).alloc (.cells #[.func (.func N) #[] #[]] 68)).heap[w.heap.size + 1]? = some (.cells #[.func (.func N) #[] #[]] 68) := by have := World.alloc_heap_new (w.alloc (.cells #[.int .i64 m.guest, .slice ra m.root.length rc, .slice sa m.slots.length sc, .slice fa m.refs.length fc, .slice na m.snaps.length nc] 26)) (.cells #[.func (.func N) #[] #[]] 68); simpa using this
  have m1 : (((w.alloc (.cells #[.int .i64 m.guest, .slice ra m.root.length rc, .slice sa m.slots.length sc, .slice fa m.refs.length fc, .slice na m.snaps.length nc] 26)).alloc (.cells #[.func (.func N) #[] #[]] 68)).alloc (.cells #[.int .i64 0, .slice none 0 0, .slice none 0 0, .slice none 0 0, .slice none 0 0] 26)).heap[w.heap.size + 1]? = some (.cells #[.func (.func N) #[] #[]] 68) := (cells_alloc q1 _)
  have q2 : (((w.alloc (.cells #[.int .i64 m.guest, .slice ra m.root.length rc, .slice sa m.slots.length sc, .slice fa m.refs.length fc, .slice na m.snaps.length nc] 26)).alloc (.cells #[.func (.func N) #[] #[]] 68)).alloc (.cells #[.int .i64 0, .slice none 0 0, .slice none 0 0, .slice none 0 0, .slice none 0 0] 26)).heap[w.heap.size + 1 + 1]? = some (.cells #[.int .i64 0, .slice none 0 0, .slice none 0 0, .slice none 0 0, .slice none 0 0] 26) := by have := World.alloc_heap_new ((w.alloc (.cells #[.int .i64 m.guest, .slice ra m.root.length rc, .slice sa m.slots.length sc, .slice fa m.refs.length fc, .slice na m.snaps.length nc] 26)).alloc (.cells #[.func (.func N) #[] #[]] 68)) (.cells #[.int .i64 0, .slice none 0 0, .slice none 0 0, .slice none 0 0, .slice none 0 0] 26); simpa using this
  have m2 : (((w.alloc (.cells #[.int .i64 m.guest, .slice ra m.root.length rc, .slice sa m.slots.length sc, .slice fa m.refs.length fc, .slice na m.snaps.length nc] 26)).alloc (.cells #[.func (.func N) #[] #[]] 68)).alloc (.cells #[.int .i64 0, .slice none 0 0, .slice none 0 0, .slice none 0 0, .slice none 0 0] 26)).heap[w.heap.size + 1 + 1]? = some (.cells #[.int .i64 0, .slice none 0 0, .slice none 0 0, .slice none 0 0, .slice none 0 0] 26) := q2
  have hz : (((w.alloc (.cells #[.int .i64 m.guest, .slice ra m.root.length rc, .slice sa m.slots.length sc, .slice fa m.refs.length fc, .slice na m.snaps.length nc] 26)).alloc (.cells #[.func (.func N) #[] #[]] 68)).alloc (.cells #[.int .i64 0, .slice none 0 0, .slice none 0 0, .slice none 0 0, .slice none 0 0] 26)).heap.size = w.heap.size + 1 + 1 + 1 := by simp
  clear q0 q1 q2
  have hchk := tcheck_is (h.below b0) hE
  have hF4 := h.four.2.2.2
  have hNP := (namesOK_iff _).1 (shapeE_zero (checkE_shape hE)).2.2.2.1
  have h3l := (shapeE_zero (checkE_shape hE)).1
  have HF : Hid (∀ w2, Below (((w.alloc (.cells #[.int .i64 m.guest, .slice ra m.root.length rc, .slice sa m.slots.length sc, .slice fa m.refs.length fc, .slice na m.snaps.length nc] 26)).alloc (.cells #[.func (.func N) #[] #[]] 68)).alloc (.cells #[.int .i64 0, .slice none 0 0, .slice none 0 0, .slice none 0 0, .slice none 0 0] 26)).heap.size (((w.alloc (.cells #[.int .i64 m.guest, .slice ra m.root.length rc, .slice sa m.slots.length sc, .slice fa m.refs.length fc, .slice na m.snaps.length nc] 26)).alloc (.cells #[.func (.func N) #[] #[]] 68)).alloc (.cells #[.int .i64 0, .slice none 0 0, .slice none 0 0, .slice none 0 0, .slice none 0 0] 26)) w2 → Calls Try.prog 30 #[.slice na m.snaps.length nc, .string nm] w2 fun r w' => r = .returned (.tuple #[.int .i64 (k : Int), .bool false]) ∧ Below w2.heap.size w2 w') := fun w2 hb2 => find_is ((hF4.below b0).below hb2) hNP h3l nm hk hx
  clear hF4 hNP h3l
  obtain ⟨c0, c1, c2, c3, c4⟩ := five m0
  have HM : Hid ((Below w.heap.size w (((w.alloc (.cells #[.int .i64 m.guest, .slice ra m.root.length rc, .slice sa m.slots.length sc, .slice fa m.refs.length fc, .slice na m.snaps.length nc] 26)).alloc (.cells #[.func (.func N) #[] #[]] 68)).alloc (.cells #[.int .i64 0, .slice none 0 0, .slice none 0 0, .slice none 0 0, .slice none 0 0] 26)) ∧ (((w.alloc (.cells #[.int .i64 m.guest, .slice ra m.root.length rc, .slice sa m.slots.length sc, .slice fa m.refs.length fc, .slice na m.snaps.length nc] 26)).alloc (.cells #[.func (.func N) #[] #[]] 68)).alloc (.cells #[.int .i64 0, .slice none 0 0, .slice none 0 0, .slice none 0 0, .slice none 0 0] 26)).heap.size = w.heap.size + 1 + 1 + 1) ∧ (((w.alloc (.cells #[.int .i64 m.guest, .slice ra m.root.length rc, .slice sa m.slots.length sc, .slice fa m.refs.length fc, .slice na m.snaps.length nc] 26)).alloc (.cells #[.func (.func N) #[] #[]] 68)).alloc (.cells #[.int .i64 0, .slice none 0 0, .slice none 0 0, .slice none 0 0, .slice none 0 0] 26)).heap[w.heap.size]? = some (.cells #[.int .i64 m.guest, .slice ra m.root.length rc, .slice sa m.slots.length sc, .slice fa m.refs.length fc, .slice na m.snaps.length nc] 26) ∧ (((w.alloc (.cells #[.int .i64 m.guest, .slice ra m.root.length rc, .slice sa m.slots.length sc, .slice fa m.refs.length fc, .slice na m.snaps.length nc] 26)).alloc (.cells #[.func (.func N) #[] #[]] 68)).alloc (.cells #[.int .i64 0, .slice none 0 0, .slice none 0 0, .slice none 0 0, .slice none 0 0] 26)).heap[w.heap.size + 1]? = some (.cells #[.func (.func N) #[] #[]] 68) ∧ (((w.alloc (.cells #[.int .i64 m.guest, .slice ra m.root.length rc, .slice sa m.slots.length sc, .slice fa m.refs.length fc, .slice na m.snaps.length nc] 26)).alloc (.cells #[.func (.func N) #[] #[]] 68)).alloc (.cells #[.int .i64 0, .slice none 0 0, .slice none 0 0, .slice none 0 0, .slice none 0 0] 26)).heap[w.heap.size + 1 + 1]? = some (.cells #[.int .i64 0, .slice none 0 0, .slice none 0 0, .slice none 0 0, .slice none 0 0] 26)) := ⟨⟨b0, hz⟩, m0, m1, m2⟩
  clear h m0 m1 m2 hz b0
  go_enter Try.func35, Try.ntmps35
  go_wp2_with (first
    | (go_at_call 30; refine (HF.out _ b1).mono ?_; rintro e w5 ⟨rfl, bf⟩; have BB := Below.on b1 bf; clear b1 bf; have gx := cells_alloc (cells_below HM.out.2.1 BB (by rw [HM.out.1.2]; omega)) (.cells #[.int .i64 (k : Int)] 3); obtain ⟨g0, g1, g2, g3, g4⟩ := five gx; have k3 := cells_alloc (cells_below HM.out.2.2.2 BB (by rw [HM.out.1.2]; omega)) (.cells #[.int .i64 (k : Int)] 3); obtain ⟨z0, z1, z2, z3, z4⟩ := five k3; have y0 := cells_frozen k3 0; have y1 := cells_frozen k3 1; have y2 := cells_frozen k3 2; have y3 := cells_frozen k3 3; have y4 := cells_frozen k3 4; have HB : Hid (Below w.heap.size w (w5.alloc (.cells #[.int .i64 (k : Int)] 3))) := (Below.on HM.out.1.1 BB).alloc (by have := BB.size; rw [HM.out.1.2] at this; omega) _; have hsz : w.heap.size + 1 + 1 + 1 ≤ w5.heap.size := (by have := BB.size; rw [HM.out.1.2] at this; omega); clear k3)
    | (go_at_call 12; refine hchk.mono ?_; rintro e w1 ⟨rfl, b1⟩; have dx := cells_below HM.out.2.1 b1 (by rw [HM.out.1.2]; omega); obtain ⟨d0, d1, d2, d3, d4⟩ := five dx))
  have i1 : w.heap.size ≤ w.heap.size + 1 + 1 := by omega
  refine bodyPost_ret (v := .tuple #[.agg #[.int .i64 0, .slice none 0 0, .slice none 0 0, .slice none 0 0, .slice none 0 0], .int .i64 5]) (by simp [results, Try.results35, go_sem, z0, z1, z2, z3, z4]) rfl (AnsI.bad 5 (((((HB.out.setCell i1 _).setCell i1 _).setCell i1 _).setCell i1 _).setCell i1 _))

set_option maxHeartbeats 4000000 in
theorem with_ok_at (m : ImgD) (ra : Option Addr) (rc : Nat) (sa : Option Addr) (sc : Nat) (fa : Option Addr) (fc : Nat) (na : Option Addr) (nc : Nat) (nm : ByteArray) (N k : Nat) (w : World) (h : Img w (.agg #[.int .i64 m.guest, .slice ra m.root.length rc, .slice sa m.slots.length sc, .slice fa m.refs.length fc, .slice na m.snaps.length nc]) m) (hE : checkE m = 0) (hk : posS m.snaps nm = k) (hx : (snapIx m.snaps nm).isSome = true) (M0 M : ImgD) (hNN : ∀ (args : Array Value) (w : World), (callFunc N args).run Try.prog w = .ok (.enter N args) w) (hTurn : ∀ (W : World) (D B : Nat) (val : Nm → Value), B ≤ W.heap.size → DK W B D val m → Calls Try.prog N #[.pointer (some ⟨D, 0, none⟩), .int .i64 (k : Int)] W fun r W' => ∃ val', r = .returned (.tuple #[]) ∧ DTo W W' B D m val nilV M0 val') (hsh : shapeE M0 = 0) (hM : countedD M0 = M) :
    Calls Try.prog 35 #[.agg #[.int .i64 m.guest, .slice ra m.root.length rc, .slice sa m.slots.length sc, .slice fa m.refs.length fc, .slice na m.snaps.length nc], .string nm, .func (.func N) #[] #[]] w (AnsI w w.heap.size M 0) := by
  have b0 : Below w.heap.size w (((w.alloc (.cells #[.int .i64 m.guest, .slice ra m.root.length rc, .slice sa m.slots.length sc, .slice fa m.refs.length fc, .slice na m.snaps.length nc] 26)).alloc (.cells #[.func (.func N) #[] #[]] 68)).alloc (.cells #[.int .i64 0, .slice none 0 0, .slice none 0 0, .slice none 0 0, .slice none 0 0] 26)) := (((Below.refl _ _).alloc (by simp; try omega) _).alloc (by simp; try omega) _).alloc (by simp; try omega) _
  have q0 : (w.alloc (.cells #[.int .i64 m.guest, .slice ra m.root.length rc, .slice sa m.slots.length sc, .slice fa m.refs.length fc, .slice na m.snaps.length nc] 26)).heap[w.heap.size]? = some (.cells #[.int .i64 m.guest, .slice ra m.root.length rc, .slice sa m.slots.length sc, .slice fa m.refs.length fc, .slice na m.snaps.length nc] 26) := by have := World.alloc_heap_new w (.cells #[.int .i64 m.guest, .slice ra m.root.length rc, .slice sa m.slots.length sc, .slice fa m.refs.length fc, .slice na m.snaps.length nc] 26); simpa using this
  have m0 : (((w.alloc (.cells #[.int .i64 m.guest, .slice ra m.root.length rc, .slice sa m.slots.length sc, .slice fa m.refs.length fc, .slice na m.snaps.length nc] 26)).alloc (.cells #[.func (.func N) #[] #[]] 68)).alloc (.cells #[.int .i64 0, .slice none 0 0, .slice none 0 0, .slice none 0 0, .slice none 0 0] 26)).heap[w.heap.size]? = some (.cells #[.int .i64 m.guest, .slice ra m.root.length rc, .slice sa m.slots.length sc, .slice fa m.refs.length fc, .slice na m.snaps.length nc] 26) := (cells_alloc (cells_alloc q0 _) _)
  have q1 : ((w.alloc (.cells #[.int .i64 m.guest, .slice ra m.root.length rc, .slice sa m.slots.length sc, .slice fa m.refs.length fc, .slice na m.snaps.length nc] 26)).alloc (.cells #[.func (.func N) #[] #[]] 68)).heap[w.heap.size + 1]? = some (.cells #[.func (.func N) #[] #[]] 68) := by have := World.alloc_heap_new (w.alloc (.cells #[.int .i64 m.guest, .slice ra m.root.length rc, .slice sa m.slots.length sc, .slice fa m.refs.length fc, .slice na m.snaps.length nc] 26)) (.cells #[.func (.func N) #[] #[]] 68); simpa using this
  have m1 : (((w.alloc (.cells #[.int .i64 m.guest, .slice ra m.root.length rc, .slice sa m.slots.length sc, .slice fa m.refs.length fc, .slice na m.snaps.length nc] 26)).alloc (.cells #[.func (.func N) #[] #[]] 68)).alloc (.cells #[.int .i64 0, .slice none 0 0, .slice none 0 0, .slice none 0 0, .slice none 0 0] 26)).heap[w.heap.size + 1]? = some (.cells #[.func (.func N) #[] #[]] 68) := (cells_alloc q1 _)
  have q2 : (((w.alloc (.cells #[.int .i64 m.guest, .slice ra m.root.length rc, .slice sa m.slots.length sc, .slice fa m.refs.length fc, .slice na m.snaps.length nc] 26)).alloc (.cells #[.func (.func N) #[] #[]] 68)).alloc (.cells #[.int .i64 0, .slice none 0 0, .slice none 0 0, .slice none 0 0, .slice none 0 0] 26)).heap[w.heap.size + 1 + 1]? = some (.cells #[.int .i64 0, .slice none 0 0, .slice none 0 0, .slice none 0 0, .slice none 0 0] 26) := by have := World.alloc_heap_new ((w.alloc (.cells #[.int .i64 m.guest, .slice ra m.root.length rc, .slice sa m.slots.length sc, .slice fa m.refs.length fc, .slice na m.snaps.length nc] 26)).alloc (.cells #[.func (.func N) #[] #[]] 68)) (.cells #[.int .i64 0, .slice none 0 0, .slice none 0 0, .slice none 0 0, .slice none 0 0] 26); simpa using this
  have m2 : (((w.alloc (.cells #[.int .i64 m.guest, .slice ra m.root.length rc, .slice sa m.slots.length sc, .slice fa m.refs.length fc, .slice na m.snaps.length nc] 26)).alloc (.cells #[.func (.func N) #[] #[]] 68)).alloc (.cells #[.int .i64 0, .slice none 0 0, .slice none 0 0, .slice none 0 0, .slice none 0 0] 26)).heap[w.heap.size + 1 + 1]? = some (.cells #[.int .i64 0, .slice none 0 0, .slice none 0 0, .slice none 0 0, .slice none 0 0] 26) := q2
  have hz : (((w.alloc (.cells #[.int .i64 m.guest, .slice ra m.root.length rc, .slice sa m.slots.length sc, .slice fa m.refs.length fc, .slice na m.snaps.length nc] 26)).alloc (.cells #[.func (.func N) #[] #[]] 68)).alloc (.cells #[.int .i64 0, .slice none 0 0, .slice none 0 0, .slice none 0 0, .slice none 0 0] 26)).heap.size = w.heap.size + 1 + 1 + 1 := by simp
  clear q0 q1 q2
  have hchk := tcheck_is (h.below b0) hE
  have hF4 := h.four.2.2.2
  have hNP := (namesOK_iff _).1 (shapeE_zero (checkE_shape hE)).2.2.2.1
  have h3l := (shapeE_zero (checkE_shape hE)).1
  have HF : Hid (∀ w2, Below (((w.alloc (.cells #[.int .i64 m.guest, .slice ra m.root.length rc, .slice sa m.slots.length sc, .slice fa m.refs.length fc, .slice na m.snaps.length nc] 26)).alloc (.cells #[.func (.func N) #[] #[]] 68)).alloc (.cells #[.int .i64 0, .slice none 0 0, .slice none 0 0, .slice none 0 0, .slice none 0 0] 26)).heap.size (((w.alloc (.cells #[.int .i64 m.guest, .slice ra m.root.length rc, .slice sa m.slots.length sc, .slice fa m.refs.length fc, .slice na m.snaps.length nc] 26)).alloc (.cells #[.func (.func N) #[] #[]] 68)).alloc (.cells #[.int .i64 0, .slice none 0 0, .slice none 0 0, .slice none 0 0, .slice none 0 0] 26)) w2 → Calls Try.prog 30 #[.slice na m.snaps.length nc, .string nm] w2 fun r w' => r = .returned (.tuple #[.int .i64 (k : Int), .bool true]) ∧ Below w2.heap.size w2 w') := fun w2 hb2 => find_is ((hF4.below b0).below hb2) hNP h3l nm hk hx
  clear hF4 hNP h3l
  have HO : Hid (∀ w5, Below (((w.alloc (.cells #[.int .i64 m.guest, .slice ra m.root.length rc, .slice sa m.slots.length sc, .slice fa m.refs.length fc, .slice na m.snaps.length nc] 26)).alloc (.cells #[.func (.func N) #[] #[]] 68)).alloc (.cells #[.int .i64 0, .slice none 0 0, .slice none 0 0, .slice none 0 0, .slice none 0 0] 26)).heap.size (((w.alloc (.cells #[.int .i64 m.guest, .slice ra m.root.length rc, .slice sa m.slots.length sc, .slice fa m.refs.length fc, .slice na m.snaps.length nc] 26)).alloc (.cells #[.func (.func N) #[] #[]] 68)).alloc (.cells #[.int .i64 0, .slice none 0 0, .slice none 0 0, .slice none 0 0, .slice none 0 0] 26)) w5 → Calls Try.prog 31 #[.agg #[.int .i64 m.guest, .slice ra m.root.length rc, .slice sa m.slots.length sc, .slice fa m.refs.length fc, .slice na m.snaps.length nc], .func (.func 73) #[] #[.pointer (some ⟨w.heap.size + 1, 0, none⟩), .pointer (some ⟨w5.heap.size, 0, none⟩)]] (w5.alloc (.cells #[.int .i64 (k : Int)] 3)) (AnsI (w5.alloc (.cells #[.int .i64 (k : Int)] 3)) (w5.alloc (.cells #[.int .i64 (k : Int)] 3)).heap.size M 0)) := fun w5 b5 => by
    have hsz : w.heap.size + 1 + 1 + 1 ≤ w5.heap.size := (by have := b5.size; rw [hz] at this; exact this)
    have b6 : Below (((w.alloc (.cells #[.int .i64 m.guest, .slice ra m.root.length rc, .slice sa m.slots.length sc, .slice fa m.refs.length fc, .slice na m.snaps.length nc] 26)).alloc (.cells #[.func (.func N) #[] #[]] 68)).alloc (.cells #[.int .i64 0, .slice none 0 0, .slice none 0 0, .slice none 0 0, .slice none 0 0] 26)).heap.size (((w.alloc (.cells #[.int .i64 m.guest, .slice ra m.root.length rc, .slice sa m.slots.length sc, .slice fa m.refs.length fc, .slice na m.snaps.length nc] 26)).alloc (.cells #[.func (.func N) #[] #[]] 68)).alloc (.cells #[.int .i64 0, .slice none 0 0, .slice none 0 0, .slice none 0 0, .slice none 0 0] 26)) (w5.alloc (.cells #[.int .i64 (k : Int)] 3)) := b5.alloc (by rw [hz]; exact hsz) _
    have hz1 : (w5.alloc (.cells #[.int .i64 (k : Int)] 3)).heap.size = w5.heap.size + 1 := by simp
    have ho := of_is (h.below (Below.on b0 b6)) (fits_of_shape (checkE_shape hE)) (enters_of Try.func73 (by kernel_rfl) rfl) (with_turn (oneN (cells_below m1 b6 (by rw [hz]; omega))) (oneN (World.alloc_heap_new _ _)) (by omega) (by omega) hNN hTurn)
    have e1 : ofM (some M0) = M := by unfold ofM; dsimp only; rw [if_pos hsh]; exact hM
    have e2 : ofE (some M0) = 0 := hsh
    rw [e1, e2] at ho
    exact ho
  obtain ⟨c0, c1, c2, c3, c4⟩ := five m0
  have HM : Hid ((Below w.heap.size w (((w.alloc (.cells #[.int .i64 m.guest, .slice ra m.root.length rc, .slice sa m.slots.length sc, .slice fa m.refs.length fc, .slice na m.snaps.length nc] 26)).alloc (.cells #[.func (.func N) #[] #[]] 68)).alloc (.cells #[.int .i64 0, .slice none 0 0, .slice none 0 0, .slice none 0 0, .slice none 0 0] 26)) ∧ (((w.alloc (.cells #[.int .i64 m.guest, .slice ra m.root.length rc, .slice sa m.slots.length sc, .slice fa m.refs.length fc, .slice na m.snaps.length nc] 26)).alloc (.cells #[.func (.func N) #[] #[]] 68)).alloc (.cells #[.int .i64 0, .slice none 0 0, .slice none 0 0, .slice none 0 0, .slice none 0 0] 26)).heap.size = w.heap.size + 1 + 1 + 1) ∧ (((w.alloc (.cells #[.int .i64 m.guest, .slice ra m.root.length rc, .slice sa m.slots.length sc, .slice fa m.refs.length fc, .slice na m.snaps.length nc] 26)).alloc (.cells #[.func (.func N) #[] #[]] 68)).alloc (.cells #[.int .i64 0, .slice none 0 0, .slice none 0 0, .slice none 0 0, .slice none 0 0] 26)).heap[w.heap.size]? = some (.cells #[.int .i64 m.guest, .slice ra m.root.length rc, .slice sa m.slots.length sc, .slice fa m.refs.length fc, .slice na m.snaps.length nc] 26) ∧ (((w.alloc (.cells #[.int .i64 m.guest, .slice ra m.root.length rc, .slice sa m.slots.length sc, .slice fa m.refs.length fc, .slice na m.snaps.length nc] 26)).alloc (.cells #[.func (.func N) #[] #[]] 68)).alloc (.cells #[.int .i64 0, .slice none 0 0, .slice none 0 0, .slice none 0 0, .slice none 0 0] 26)).heap[w.heap.size + 1]? = some (.cells #[.func (.func N) #[] #[]] 68) ∧ (((w.alloc (.cells #[.int .i64 m.guest, .slice ra m.root.length rc, .slice sa m.slots.length sc, .slice fa m.refs.length fc, .slice na m.snaps.length nc] 26)).alloc (.cells #[.func (.func N) #[] #[]] 68)).alloc (.cells #[.int .i64 0, .slice none 0 0, .slice none 0 0, .slice none 0 0, .slice none 0 0] 26)).heap[w.heap.size + 1 + 1]? = some (.cells #[.int .i64 0, .slice none 0 0, .slice none 0 0, .slice none 0 0, .slice none 0 0] 26)) := ⟨⟨b0, hz⟩, m0, m1, m2⟩
  clear h m0 m1 m2 hz b0
  clear hM hsh hTurn hNN
  go_enter Try.func35, Try.ntmps35
  go_wp2_with (first
    | (go_at_call 30; refine (HF.out _ b1).mono ?_; rintro e w5 ⟨rfl, bf⟩; have BB := Below.on b1 bf; clear b1 bf; have gx := cells_alloc (cells_below HM.out.2.1 BB (by rw [HM.out.1.2]; omega)) (.cells #[.int .i64 (k : Int)] 3); obtain ⟨g0, g1, g2, g3, g4⟩ := five gx; have hof := HO.out w5 BB; have d0 := cells_alloc (cells_below HM.out.2.1 BB (by rw [HM.out.1.2]; omega)) (.cells #[.int .i64 (k : Int)] 3); obtain ⟨x1, x2, x3, x4, x5⟩ := five d0; have ck : (w5.alloc (.cells #[.int .i64 (k : Int)] 3)).cell? ⟨w5.heap.size, 0, none⟩ = some (.int .i64 (k : Int)) := oneN (World.alloc_heap_new _ _); have HV : Hid (Below w.heap.size w (w5.alloc (.cells #[.int .i64 (k : Int)] 3)) ∧ (w5.alloc (.cells #[.int .i64 (k : Int)] 3)).heap[w.heap.size + 1 + 1]? = some (.cells #[.int .i64 0, .slice none 0 0, .slice none 0 0, .slice none 0 0, .slice none 0 0] 26) ∧ w.heap.size + 1 + 1 < (w5.alloc (.cells #[.int .i64 (k : Int)] 3)).heap.size) := ⟨(Below.on HM.out.1.1 BB).alloc (by have := BB.size; rw [HM.out.1.2] at this; omega) _, cells_alloc (cells_below HM.out.2.2.2 BB (by rw [HM.out.1.2]; omega)) _, (by have := BB.size; rw [HM.out.1.2] at this; have hz1 : (w5.alloc (.cells #[.int .i64 (k : Int)] 3)).heap.size = w5.heap.size + 1 := (by simp); omega)⟩; clear d0)
    | (go_at_call 12; refine hchk.mono ?_; rintro e w1 ⟨rfl, b1⟩; have dx := cells_below HM.out.2.1 b1 (by rw [HM.out.1.2]; omega); obtain ⟨d0, d1, d2, d3, d4⟩ := five dx))
  refine hof.mono ?_
  intro e w3 hA
  obtain ⟨val, ga, gc, la, lc, oa, oc, ta, tc, rfl, hO, b1, hI⟩ := hA.open
  dsimp only
  have k3 := cells_below HV.out.2.1 b1 HV.out.2.2
  obtain ⟨z0, z1, z2, z3, z4⟩ := five k3
  have y0 := cells_frozen k3 0
  have y1 := cells_frozen k3 1
  have y2 := cells_frozen k3 2
  have y3 := cells_frozen k3 3
  have y4 := cells_frozen k3 4
  have HP : Hid (OI w3 (w5.alloc (.cells #[.int .i64 (k : Int)] 3)).heap.size val M) := hO
  have HB : Hid (Below w.heap.size w w3) := Below.on HV.out.1 b1
  have HI : Hid (imgV M.guest val = .agg #[.int .i64 M.guest, .slice ga M.root.length gc, .slice la M.slots.length lc, .slice oa M.refs.length oc, .slice ta M.snaps.length tc]) := hI
  clear hO b1 hI hof hA
  go_wp2_with fail
  have i1 : w.heap.size ≤ w.heap.size + 1 + 1 := by omega
  have hf1 : ∀ a, Live M a → (val a).ownBlock ≠ some (w.heap.size + 1 + 1) := fun a ha e => by have := ((HP.out.row a ha).lt _ e).1; have := HV.out.2.2; omega
  refine bodyPost_ret (v := .tuple #[.agg #[.int .i64 M.guest, .slice ga M.root.length gc, .slice la M.slots.length lc, .slice oa M.refs.length oc, .slice ta M.snaps.length tc], .int .i64 0]) (by simp [results, Try.results35, go_sem, z0, z1, z2, z3, z4]) rfl ⟨val, by rw [HI.out], OI.mono (((((HP.out.far hf1).far hf1).far hf1).far hf1).far hf1) (by have := HV.out.2.2; omega), ((((HB.out.setCell i1 _).setCell i1 _).setCell i1 _).setCell i1 _).setCell i1 _⟩

theorem revert_with {w : World} {v : Value} {m : ImgD} (h : Img w v m) (nm : ByteArray) {M : ImgD} {E : Int} (hM : rvM m nm = M) (hE : pastE m nm = E) :
    Calls Try.prog 35 #[v, .string nm, .func (.func 36) #[] #[]] w (AnsI w w.heap.size M E) := by
  have h' := h
  obtain ⟨ra, rc, sa, sc, fa, fc, na, nc, rfl, _⟩ := h.parts
  subst hM hE
  by_cases h0 : pastE m nm = 0
  · obtain ⟨hC, k, hk, hl, e, hs, _⟩ := rv_ok h0
    rw [h0]
    have hN := (namesOK_iff _).1 (shapeE_zero (checkE_shape hC)).2.2.2.1
    have h3 := (shapeE_zero (checkE_shape hC)).1
    exact with_ok_at m ra rc sa sc fa fc na nc nm _ k w h' hC (pos_here hN hk) (by rw [hk]; rfl) (revertM m k) _ (enters_of Try.func36 (by kernel_rfl) rfl) (fun W D B val hB hD => revert_desk hD hB hl (by omega) (checkE_shape hC)) hs e.symm
  · rw [rv_bad h0]
    unfold pastE at h0 ⊢
    by_cases hC : checkE m = 0
    · rw [if_neg (fun x => x hC)] at h0 ⊢
      cases hx : snapIx m.snaps nm with
      | some k => rw [hx] at h0; exact absurd rfl h0
      | none => exact with_none_at m ra rc sa sc fa fc na nc nm _ _ w h' hC rfl (by rw [hx]; rfl)
    · rw [if_pos hC]
      exact with_bad_at m ra rc sa sc fa fc na nc nm _ _ w h' rfl (by simp [hC])

theorem delete_with {w : World} {v : Value} {m : ImgD} (h : Img w v m) (nm : ByteArray) {M : ImgD} {E : Int} (hM : dlM m nm = M) (hE : pastE m nm = E) :
    Calls Try.prog 35 #[v, .string nm, .func (.func 37) #[] #[]] w (AnsI w w.heap.size M E) := by
  have h' := h
  obtain ⟨ra, rc, sa, sc, fa, fc, na, nc, rfl, _⟩ := h.parts
  subst hM hE
  by_cases h0 : pastE m nm = 0
  · obtain ⟨hC, k, hk, hl, e, hs, _⟩ := dl_ok h0
    rw [h0]
    have hN := (namesOK_iff _).1 (shapeE_zero (checkE_shape hC)).2.2.2.1
    have h3 := (shapeE_zero (checkE_shape hC)).1
    exact with_ok_at m ra rc sa sc fa fc na nc nm _ k w h' hC (pos_here hN hk) (by rw [hk]; rfl) (deleteM m k) _ (enters_of Try.func37 (by kernel_rfl) rfl) (fun W D B val hB hD => delete_desk hD hB hl (by omega)) hs e.symm
  · rw [dl_bad h0]
    unfold pastE at h0 ⊢
    by_cases hC : checkE m = 0
    · rw [if_neg (fun x => x hC)] at h0 ⊢
      cases hx : snapIx m.snaps nm with
      | some k => rw [hx] at h0; exact absurd rfl h0
      | none => exact with_none_at m ra rc sa sc fa fc na nc nm _ _ w h' hC rfl (by rw [hx]; rfl)
    · rw [if_pos hC]
      exact with_bad_at m ra rc sa sc fa fc na nc nm _ _ w h' rfl (by simp [hC])
end Go.Proofs.Ytehleeibgkpjmae
/- Contracts of the document's CheckImage, look, LookError, LookOf. -/
namespace Go.Proofs.Ytehleeibgkpjmae
open Go.RowKit Go.Shelf
end Go.Proofs.Ytehleeibgkpjmae
/- Contract of pair: the image that every beginning looks at. -/
namespace Go.Proofs.Ytehleeibgkpjmae
open Go.RowKit Go.Shelf
set_option maxRecDepth 20000

def aaaa : ByteArray := ⟨#[97, 97, 97, 97]⟩
def bbbb : ByteArray := ⟨#[98, 98, 98, 98]⟩
def nOld : ByteArray := ⟨#[111, 108, 100]⟩

def pairD (g : Int) (R T : List Int) : ImgD := ⟨g, [2, 4], [(0, ⟨#[]⟩, []), (1, aaaa, []), (2, ⟨#[]⟩, [1, 0, -1, 1]), (1, bbbb, []), (2, ⟨#[]⟩, T)], R, [(nOld, 4, [2])]⟩
structure PairW (n : Nat) (W : World) (R T : List Int) : Prop where
  root : LAt W (n + 1) [2, 4]
  ta : LAt W (n + 2) [1, 0, -1, 1]
  tb : LAt W (n + 3) T
  slots : W.heap[n + 4]? = some (.cells #[.int .i64 0, .string ⟨#[]⟩, .slice none 0 0, .int .i64 1, .string aaaa, .slice none 0 0, .int .i64 2, .string ⟨#[]⟩, .slice (some ⟨n + 2, 0, none⟩) 4 4, .int .i64 1, .string bbbb, .slice none 0 0, .int .i64 2, .string ⟨#[]⟩, .slice (some ⟨n + 3, 0, none⟩) 4 4] 72)
  refs : LAt W (n + 5) R
  sroot : LAt W (n + 6) [2]
  snaps : W.heap[n + 7]? = some (.cells #[.string nOld, .int .i64 4, .slice (some ⟨n + 6, 0, none⟩) 1 1] 64)

theorem alloc_get (W : World) (o : Obj) (i : Nat) : (W.alloc o).heap[i]? = if i = W.heap.size then some o else W.heap[i]? := by
  show (W.heap.push o)[i]? = _
  rw [Array.getElem?_push]

theorem size_alloc (W : World) (o : Obj) : (W.alloc o).heap.size = W.heap.size + 1 := by simp

set_option linter.unusedSimpArgs false in
theorem pair_at (w : World) : Calls Try.prog 42 #[] w fun r w' => r = .returned (.agg #[.int .i64 6, .slice (some ⟨w.heap.size + 1, 0, none⟩) 2 2, .slice (some ⟨w.heap.size + 4, 0, none⟩) 5 5, .slice (some ⟨w.heap.size + 5, 0, none⟩) 5 5, .slice (some ⟨w.heap.size + 7, 0, none⟩) 1 1]) ∧ PairW w.heap.size w' [0, 2, 2, 1, 1] [3, 0, 0, 0] ∧ Below w.heap.size w w' := by
  go_enter Try.func42, Try.ntmps42
  go_wp2
  refine bodyPost_ret (v := .agg #[.int .i64 6, .slice (some ⟨w.heap.size + 1, 0, none⟩) 2 2, .slice (some ⟨w.heap.size + 4, 0, none⟩) 5 5, .slice (some ⟨w.heap.size + 5, 0, none⟩) 5 5, .slice (some ⟨w.heap.size + 7, 0, none⟩) 1 1]) (by simp [results, Try.results42, go_sem]) rfl ⟨rfl, ⟨?_, ?_, ?_, ?_, ?_, ?_, ?_⟩, ?_⟩
  · show _ = _; simp only [alloc_get, size_alloc, Nat.add_right_cancel_iff, Nat.add_assoc, Nat.reduceAdd, Nat.add_left_cancel_iff, Nat.reduceEqDiff, ↓reduceIte, List.map, Nat.left_eq_add, reduceCtorEq, Nat.add_eq_left, Nat.succ_ne_self]
  · show _ = _; simp only [alloc_get, size_alloc, Nat.add_right_cancel_iff, Nat.add_assoc, Nat.reduceAdd, Nat.add_left_cancel_iff, Nat.reduceEqDiff, ↓reduceIte, List.map, Nat.left_eq_add, reduceCtorEq, Nat.add_eq_left, Nat.succ_ne_self]
  · show _ = _; simp only [alloc_get, size_alloc, Nat.add_right_cancel_iff, Nat.add_assoc, Nat.reduceAdd, Nat.add_left_cancel_iff, Nat.reduceEqDiff, ↓reduceIte, List.map, Nat.left_eq_add, reduceCtorEq, Nat.add_eq_left, Nat.succ_ne_self]
  · show _ = _; simp only [alloc_get, size_alloc, Nat.add_assoc, Nat.reduceAdd, Nat.add_left_cancel_iff, Nat.reduceEqDiff, ↓reduceIte, aaaa, bbbb]
  · show _ = _; simp only [alloc_get, size_alloc, Nat.add_right_cancel_iff, Nat.add_assoc, Nat.reduceAdd, Nat.add_left_cancel_iff, Nat.reduceEqDiff, ↓reduceIte, List.map, Nat.left_eq_add, reduceCtorEq, Nat.add_eq_left, Nat.succ_ne_self]
  · show _ = _; simp only [alloc_get, size_alloc, Nat.add_right_cancel_iff, Nat.add_assoc, Nat.reduceAdd, Nat.add_left_cancel_iff, Nat.reduceEqDiff, ↓reduceIte, List.map, Nat.left_eq_add, reduceCtorEq, Nat.add_eq_left, Nat.succ_ne_self]
  · show _ = _; simp only [alloc_get, size_alloc, Nat.add_assoc, Nat.reduceAdd, Nat.add_left_cancel_iff, Nat.reduceEqDiff, ↓reduceIte, nOld]
  · exact ((((((((Below.refl _ _).alloc (Nat.le_refl _) _).alloc (by simp) _).alloc (by simp; omega) _).alloc (by simp; omega) _).alloc (by simp; omega) _).alloc (by simp; omega) _).alloc (by simp; omega) _).alloc (by simp; omega) _

theorem PairW.below {n : Nat} {W W' : World} {R T : List Int} (h : PairW n W R T) {k : Nat} (hb : Below k W W') (hk : n + 8 ≤ k) : PairW n W' R T :=
  ⟨(hb.block _ (by omega)).trans h.root, (hb.block _ (by omega)).trans h.ta, (hb.block _ (by omega)).trans h.tb, (hb.block _ (by omega)).trans h.slots, (hb.block _ (by omega)).trans h.refs, (hb.block _ (by omega)).trans h.sroot, (hb.block _ (by omega)).trans h.snaps⟩
theorem PairW.size {n : Nat} {W : World} {R T : List Int} (h : PairW n W R T) : n + 8 ≤ W.heap.size := by
  have := (Array.getElem?_eq_some_iff.1 h.snaps).1; omega
theorem cell_of {W : World} {g : Nat} {A : Array Value} {t : TypeId} {fr : Nat × Nat} (h : W.heap[g]? = some (.cells A t fr)) {j : Nat} {v : Value} (hv : A[j]? = some v) : W.cell? ⟨g, j, none⟩ = some v := by
  simp [World.cell?, h, hv]
theorem PairW.img {n : Nat} {W : World} {R T : List Int} (h : PairW n W R T) (hR : R.length = 5) (hT : T.length = 4) (g : Int) :
    Img W (.agg #[.int .i64 g, .slice (some ⟨n + 1, 0, none⟩) 2 2, .slice (some ⟨n + 4, 0, none⟩) 5 5, .slice (some ⟨n + 5, 0, none⟩) 5 5, .slice (some ⟨n + 7, 0, none⟩) 1 1]) (pairD g R T) := by
  refine ⟨_, _, _, _, rfl, h.root.sl rfl (by decide), ⟨some ⟨n + 4, 0, none⟩, 5, rfl, show (5 : Nat) ≤ maxLen by decide, Nat.le_refl _, fun _ => ⟨n + 4, 0, rfl, (Array.getElem?_eq_some_iff.1 h.slots).1, ?_⟩⟩, h.refs.sl hR (by decide), ⟨some ⟨n + 7, 0, none⟩, 1, rfl, show (1 : Nat) ≤ maxLen by decide, Nat.le_refl _, fun _ => ⟨n + 7, 0, rfl, (Array.getElem?_eq_some_iff.1 h.snaps).1, ?_⟩⟩⟩
  · intro j hj
    have h5 : j < 5 := hj
    match j, h5 with
    | 0, _ => exact ⟨_, cell_of h.slots rfl, cell_of h.slots rfl, cell_of h.slots rfl, Sl.nil W⟩
    | 1, _ => exact ⟨_, cell_of h.slots rfl, cell_of h.slots rfl, cell_of h.slots rfl, Sl.nil W⟩
    | 2, _ => exact ⟨_, cell_of h.slots rfl, cell_of h.slots rfl, cell_of h.slots rfl, h.ta.sl rfl (by decide)⟩
    | 3, _ => exact ⟨_, cell_of h.slots rfl, cell_of h.slots rfl, cell_of h.slots rfl, Sl.nil W⟩
    | 4, _ => exact ⟨_, cell_of h.slots rfl, cell_of h.slots rfl, cell_of h.slots rfl, h.tb.sl hT (by decide)⟩
  · intro j hj
    have h1 : j < 1 := hj
    match j, h1 with
    | 0, _ => exact ⟨_, cell_of h.snaps rfl, cell_of h.snaps rfl, cell_of h.snaps rfl, h.sroot.sl rfl (by decide)⟩
theorem pair_is (w : World) : Calls Try.prog 42 #[] w fun r w' => (∃ v, r = .returned v ∧ Img w' v (pairD 6 [0, 2, 2, 1, 1] [3, 0, 0, 0])) ∧ Below w.heap.size w w' :=
  (pair_at w).mono fun _ _ h => ⟨⟨_, h.1, h.2.1.img rfl rfl 6⟩, h.2.2⟩
end Go.Proofs.Ytehleeibgkpjmae
/- The image of pair: what is decided of it. -/
namespace Go.Proofs.Ytehleeibgkpjmae
open Go.RowKit Go.Shelf
set_option maxRecDepth 20000

abbrev pD : ImgD := pairD 6 [0, 2, 2, 1, 1] [3, 0, 0, 0]
end Go.Proofs.Ytehleeibgkpjmae
/- Contract of SameInts. -/
namespace Go.Proofs.Ytehleeibgkpjmae
open Go.RowKit
set_option maxRecDepth 20000

theorem same_at (ao bo : Option Addr) (n cap cap' : Nat) (xs : List Int) (w : World) (hn : xs.length = n) (hm : n ≤ 9223372036854775807)
    (hc : ∀ j, j < n → ∃ b off, ao = some ⟨b, off, none⟩ ∧ b < w.heap.size ∧ w.cell? ⟨b, off + j, none⟩ = some (.int .i64 (xs.getD j 0)))
    (hd : ∀ j, j < n → ∃ b off, bo = some ⟨b, off, none⟩ ∧ b < w.heap.size ∧ w.cell? ⟨b, off + j, none⟩ = some (.int .i64 (xs.getD j 0))) :
    Calls Try.prog 18 #[.slice ao n cap, .slice bo n cap'] w fun r w' => r = .returned (.bool true) ∧ Below w.heap.size w w' := by
  have HC : Hid (∀ j, j < n → ∃ b off, ao = some ⟨b, off, none⟩ ∧ b < w.heap.size ∧ w.cell? ⟨b, off + j, none⟩ = some (.int .i64 (xs.getD j 0))) := hc
  have HD : Hid (∀ j, j < n → ∃ b off, bo = some ⟨b, off, none⟩ ∧ b < w.heap.size ∧ w.cell? ⟨b, off + j, none⟩ = some (.int .i64 (xs.getD j 0))) := hd
  clear hc hd
  have HN : Hid (xs.length = n) := hn
  clear hn
  go_enter Try.func18, Try.ntmps18
  go_wp2
  go_loopw [5] (fun i wr => ∃ k : Nat, k ≤ n ∧ i = .int .i64 k ∧ Below w.heap.size w wr) (fun i _ => n - (intOf i).toNat)
  case atStart => exact ⟨0, by omega, rfl, Below.refl _ _⟩
  case round =>
    obtain ⟨k, hk, rfl, hbel⟩ := hrel
    by_cases hlt : k < n
    · obtain ⟨x, hx⟩ : ∃ x, xs.getD k 0 = x := ⟨_, rfl⟩
      obtain ⟨b, off, hao, hl1, hck⟩ := HC.out k hlt
      obtain ⟨b', off', hbo, hl2, hck'⟩ := HD.out k hlt
      rw [hx] at hck hck'
      clear hx
      have g1 : wr.cell? ⟨b, off + k, none⟩ = some (.int .i64 x) := (hbel.cell (p := ⟨b, off + k, none⟩) hl1).trans hck
      have g2 : wr.cell? ⟨b', off' + k, none⟩ = some (.int .i64 x) := (hbel.cell (p := ⟨b', off' + k, none⟩) hl2).trans hck'
      have i1 : (k : Int) < (n : Int) := by omega
      go_wp2
      go_quiet (fail)
      go_wp2
      go_roundw
      case rel => exact ⟨k + 1, by omega, by go_num, below_drewN hbel _⟩
      case measure => simp [intOf]; omega
    · have e4 : k = n := by omega
      subst e4
      go_wp2
      go_ret
      exact ⟨rfl, hbel⟩
theorem same_any {v u : Value} {xs : List Int} {w : World} (h : Sl w v xs) (k : Sl w u xs) :
    Calls Try.prog 18 #[v, u] w fun r w' => r = .returned (.bool true) ∧ Below w.heap.size w w' := by
  obtain ⟨ao, cap, rfl⟩ := h.form
  obtain ⟨bo, cap', rfl⟩ := k.form
  obtain ⟨hn, hm, _, hc⟩ := h.cells
  obtain ⟨_, _, _, hd⟩ := k.cells
  exact same_at ao bo _ cap cap' xs w hn hm hc hd

end Go.Proofs.Ytehleeibgkpjmae
