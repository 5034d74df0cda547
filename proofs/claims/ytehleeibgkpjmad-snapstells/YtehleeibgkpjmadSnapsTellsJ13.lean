/- Texts joined: SnE, PDec, NBegun, SameI, NTells. -/
import Derived.Test.YtehleeibgkpjmadSnapsTellsJ12
import Derived.Test.YtehleeibgkpjmadSnapsTellsJ9
import Derived.Test.YtehleeibgkpjmadSnapsTellsJ3
import Derived.Deep.RegionHeld3
import Derived.Test.YtehleeibgkpjmadSnapsTellsJ10
import Derived.Test.YtehleeibgkpjmadSnapsTellsJ11
/- Contracts of snapshots: Create, Revert, Delete. -/
namespace Go.Proofs.Ytehleeibgkpjmad
open Go.RowKit Go.Shelf
set_option maxRecDepth 20000
set_option linter.unusedVariables false
set_option linter.unusedSimpArgs false

set_option maxHeartbeats 4000000 in
theorem with_bad_at (m : ImgD) (ra : Option Addr) (rc : Nat) (sa : Option Addr) (sc : Nat) (fa : Option Addr) (fc : Nat) (na : Option Addr) (nc : Nat) (nm : ByteArray) (N : Nat) (E : Int) (w : World) (h : Img w (.agg #[.int .i64 m.guest, .slice ra m.root.length rc, .slice sa m.slots.length sc, .slice fa m.refs.length fc, .slice na m.snaps.length nc]) m) (hE : checkE m = E) (hne : (E != 0) = true) :
    Calls Try.prog 55 #[.agg #[.int .i64 m.guest, .slice ra m.root.length rc, .slice sa m.slots.length sc, .slice fa m.refs.length fc, .slice na m.snaps.length nc], .string nm, .func (.func N) #[] #[]] w (AnsI w w.heap.size imgZ E) := by
  have b0 : Below w.heap.size w (((w.alloc (.cells #[.int .i64 m.guest, .slice ra m.root.length rc, .slice sa m.slots.length sc, .slice fa m.refs.length fc, .slice na m.snaps.length nc] 26)).alloc (.cells #[.func (.func N) #[] #[]] 62)).alloc (.cells #[.int .i64 0, .slice none 0 0, .slice none 0 0, .slice none 0 0, .slice none 0 0] 26)) := (((Below.refl _ _).alloc (by simp; try omega) _).alloc (by simp; try omega) _).alloc (by simp; try omega) _
  have q0 : (w.alloc (.cells #[.int .i64 m.guest, .slice ra m.root.length rc, .slice sa m.slots.length sc, .slice fa m.refs.length fc, .slice na m.snaps.length nc] 26)).heap[w.heap.size]? = some (.cells #[.int .i64 m.guest, .slice ra m.root.length rc, .slice sa m.slots.length sc, .slice fa m.refs.length fc, .slice na m.snaps.length nc] 26) := by have := World.alloc_heap_new w (.cells #[.int .i64 m.guest, .slice ra m.root.length rc, .slice sa m.slots.length sc, .slice fa m.refs.length fc, .slice na m.snaps.length nc] 26); simpa using this
  have m0 : (((w.alloc (.cells #[.int .i64 m.guest, .slice ra m.root.length rc, .slice sa m.slots.length sc, .slice fa m.refs.length fc, .slice na m.snaps.length nc] 26)).alloc (.cells #[.func (.func N) #[] #[]] 62)).alloc (.cells #[.int .i64 0, .slice none 0 0, .slice none 0 0, .slice none 0 0, .slice none 0 0] 26)).heap[w.heap.size]? = some (.cells #[.int .i64 m.guest, .slice ra m.root.length rc, .slice sa m.slots.length sc, .slice fa m.refs.length fc, .slice na m.snaps.length nc] 26) := (cells_alloc (cells_alloc q0 _) _)
  have q1 : ((w.alloc (.cells #[.int .i64 m.guest, .slice ra m.root.length rc, .slice sa m.slots.length sc, .slice fa m.refs.length fc, .slice na m.snaps.length nc] 26)).alloc (.cells #[.func (.func N) #[] #[]] 62)).heap[w.heap.size + 1]? = some (.cells #[.func (.func N) #[] #[]] 62) := by have := World.alloc_heap_new (w.alloc (.cells #[.int .i64 m.guest, .slice ra m.root.length rc, .slice sa m.slots.length sc, .slice fa m.refs.length fc, .slice na m.snaps.length nc] 26)) (.cells #[.func (.func N) #[] #[]] 62); simpa using this
  have m1 : (((w.alloc (.cells #[.int .i64 m.guest, .slice ra m.root.length rc, .slice sa m.slots.length sc, .slice fa m.refs.length fc, .slice na m.snaps.length nc] 26)).alloc (.cells #[.func (.func N) #[] #[]] 62)).alloc (.cells #[.int .i64 0, .slice none 0 0, .slice none 0 0, .slice none 0 0, .slice none 0 0] 26)).heap[w.heap.size + 1]? = some (.cells #[.func (.func N) #[] #[]] 62) := (cells_alloc q1 _)
  have q2 : (((w.alloc (.cells #[.int .i64 m.guest, .slice ra m.root.length rc, .slice sa m.slots.length sc, .slice fa m.refs.length fc, .slice na m.snaps.length nc] 26)).alloc (.cells #[.func (.func N) #[] #[]] 62)).alloc (.cells #[.int .i64 0, .slice none 0 0, .slice none 0 0, .slice none 0 0, .slice none 0 0] 26)).heap[w.heap.size + 1 + 1]? = some (.cells #[.int .i64 0, .slice none 0 0, .slice none 0 0, .slice none 0 0, .slice none 0 0] 26) := by have := World.alloc_heap_new ((w.alloc (.cells #[.int .i64 m.guest, .slice ra m.root.length rc, .slice sa m.slots.length sc, .slice fa m.refs.length fc, .slice na m.snaps.length nc] 26)).alloc (.cells #[.func (.func N) #[] #[]] 62)) (.cells #[.int .i64 0, .slice none 0 0, .slice none 0 0, .slice none 0 0, .slice none 0 0] 26); simpa using this
  have m2 : (((w.alloc (.cells #[.int .i64 m.guest, .slice ra m.root.length rc, .slice sa m.slots.length sc, .slice fa m.refs.length fc, .slice na m.snaps.length nc] 26)).alloc (.cells #[.func (.func N) #[] #[]] 62)).alloc (.cells #[.int .i64 0, .slice none 0 0, .slice none 0 0, .slice none 0 0, .slice none 0 0] 26)).heap[w.heap.size + 1 + 1]? = some (.cells #[.int .i64 0, .slice none 0 0, .slice none 0 0, .slice none 0 0, .slice none 0 0] 26) := q2
  have hz : (((w.alloc (.cells #[.int .i64 m.guest, .slice ra m.root.length rc, .slice sa m.slots.length sc, .slice fa m.refs.length fc, .slice na m.snaps.length nc] 26)).alloc (.cells #[.func (.func N) #[] #[]] 62)).alloc (.cells #[.int .i64 0, .slice none 0 0, .slice none 0 0, .slice none 0 0, .slice none 0 0] 26)).heap.size = w.heap.size + 1 + 1 + 1 := by simp
  clear q0 q1 q2
  have hchk := tcheck_is (h.below b0) hE
  obtain ⟨c0, c1, c2, c3, c4⟩ := five m0
  have HM : Hid ((Below w.heap.size w (((w.alloc (.cells #[.int .i64 m.guest, .slice ra m.root.length rc, .slice sa m.slots.length sc, .slice fa m.refs.length fc, .slice na m.snaps.length nc] 26)).alloc (.cells #[.func (.func N) #[] #[]] 62)).alloc (.cells #[.int .i64 0, .slice none 0 0, .slice none 0 0, .slice none 0 0, .slice none 0 0] 26)) ∧ (((w.alloc (.cells #[.int .i64 m.guest, .slice ra m.root.length rc, .slice sa m.slots.length sc, .slice fa m.refs.length fc, .slice na m.snaps.length nc] 26)).alloc (.cells #[.func (.func N) #[] #[]] 62)).alloc (.cells #[.int .i64 0, .slice none 0 0, .slice none 0 0, .slice none 0 0, .slice none 0 0] 26)).heap.size = w.heap.size + 1 + 1 + 1) ∧ (((w.alloc (.cells #[.int .i64 m.guest, .slice ra m.root.length rc, .slice sa m.slots.length sc, .slice fa m.refs.length fc, .slice na m.snaps.length nc] 26)).alloc (.cells #[.func (.func N) #[] #[]] 62)).alloc (.cells #[.int .i64 0, .slice none 0 0, .slice none 0 0, .slice none 0 0, .slice none 0 0] 26)).heap[w.heap.size]? = some (.cells #[.int .i64 m.guest, .slice ra m.root.length rc, .slice sa m.slots.length sc, .slice fa m.refs.length fc, .slice na m.snaps.length nc] 26) ∧ (((w.alloc (.cells #[.int .i64 m.guest, .slice ra m.root.length rc, .slice sa m.slots.length sc, .slice fa m.refs.length fc, .slice na m.snaps.length nc] 26)).alloc (.cells #[.func (.func N) #[] #[]] 62)).alloc (.cells #[.int .i64 0, .slice none 0 0, .slice none 0 0, .slice none 0 0, .slice none 0 0] 26)).heap[w.heap.size + 1]? = some (.cells #[.func (.func N) #[] #[]] 62) ∧ (((w.alloc (.cells #[.int .i64 m.guest, .slice ra m.root.length rc, .slice sa m.slots.length sc, .slice fa m.refs.length fc, .slice na m.snaps.length nc] 26)).alloc (.cells #[.func (.func N) #[] #[]] 62)).alloc (.cells #[.int .i64 0, .slice none 0 0, .slice none 0 0, .slice none 0 0, .slice none 0 0] 26)).heap[w.heap.size + 1 + 1]? = some (.cells #[.int .i64 0, .slice none 0 0, .slice none 0 0, .slice none 0 0, .slice none 0 0] 26)) := ⟨⟨b0, hz⟩, m0, m1, m2⟩
  clear h m0 m1 m2 hz b0
  go_enter Try.func55, Try.ntmps55
  go_wp2_with (first
    | (go_at_call 13; refine hchk.mono ?_; rintro e w1 ⟨rfl, b1⟩; have BB := b1; clear b1; have k3 := cells_below HM.out.2.2.2 BB (by rw [HM.out.1.2]; omega); obtain ⟨z0, z1, z2, z3, z4⟩ := five k3; have y0 := cells_frozen k3 0; have y1 := cells_frozen k3 1; have y2 := cells_frozen k3 2; have y3 := cells_frozen k3 3; have y4 := cells_frozen k3 4; have HB : Hid (Below w.heap.size w w1) := Below.on HM.out.1.1 BB; have hsz : w.heap.size + 1 + 1 + 1 ≤ w1.heap.size := (by have := BB.size; rw [HM.out.1.2] at this; omega); clear k3))
  have i1 : w.heap.size ≤ w.heap.size + 1 + 1 := by omega
  refine bodyPost_ret (v := .tuple #[.agg #[.int .i64 0, .slice none 0 0, .slice none 0 0, .slice none 0 0, .slice none 0 0], .int .i64 E]) (by simp [results, Try.results55, go_sem, z0, z1, z2, z3, z4]) rfl (AnsI.bad E (((((HB.out.setCell i1 _).setCell i1 _).setCell i1 _).setCell i1 _).setCell i1 _))

set_option maxHeartbeats 4000000 in
theorem with_none_at (m : ImgD) (ra : Option Addr) (rc : Nat) (sa : Option Addr) (sc : Nat) (fa : Option Addr) (fc : Nat) (na : Option Addr) (nc : Nat) (nm : ByteArray) (N k : Nat) (w : World) (h : Img w (.agg #[.int .i64 m.guest, .slice ra m.root.length rc, .slice sa m.slots.length sc, .slice fa m.refs.length fc, .slice na m.snaps.length nc]) m) (hE : checkE m = 0) (hk : posS m.snaps nm = k) (hx : (snapIx m.snaps nm).isSome = false) :
    Calls Try.prog 55 #[.agg #[.int .i64 m.guest, .slice ra m.root.length rc, .slice sa m.slots.length sc, .slice fa m.refs.length fc, .slice na m.snaps.length nc], .string nm, .func (.func N) #[] #[]] w (AnsI w w.heap.size imgZ 5) := by
  have b0 : Below w.heap.size w (((w.alloc (.cells #[.int .i64 m.guest, .slice ra m.root.length rc, .slice sa m.slots.length sc, .slice fa m.refs.length fc, .slice na m.snaps.length nc] 26)).alloc (.cells #[.func (.func N) #[] #[]] 62)).alloc (.cells #[.int .i64 0, .slice none 0 0, .slice none 0 0, .slice none 0 0, .slice none 0 0] 26)) := (((Below.refl _ _).alloc (by simp; try omega) _).alloc (by simp; try omega) _).alloc (by simp; try omega) _
  have q0 : (w.alloc (.cells #[.int .i64 m.guest, .slice ra m.root.length rc, .slice sa m.slots.length sc, .slice fa m.refs.length fc, .slice na m.snaps.length nc] 26)).heap[w.heap.size]? = some (.cells #[.int .i64 m.guest, .slice ra m.root.length rc, .slice sa m.slots.length sc, .slice fa m.refs.length fc, .slice na m.snaps.length nc] 26) := by have := World.alloc_heap_new w (.cells #[.int .i64 m.guest, .slice ra m.root.length rc, .slice sa m.slots.length sc, .slice fa m.refs.length fc, .slice na m.snaps.length nc] 26); simpa using this
  have m0 : (((w.alloc (.cells #[.int .i64 m.guest, .slice ra m.root.length rc, .slice sa m.slots.length sc, .slice fa m.refs.length fc, .slice na m.snaps.length nc] 26)).alloc (.cells #[.func (.func N) #[] #[]] 62)).alloc (.cells #[.int .i64 0, .slice none 0 0, .slice none 0 0, .slice none 0 0, .slice none 0 0] 26)).heap[w.heap.size]? = some (.cells #[.int .i64 m.guest, .slice ra m.root.length rc, .slice sa m.slots.length sc, .slice fa m.refs.length fc, .slice na m.snaps.length nc] 26) := (cells_alloc (cells_alloc q0 _) _)
  have q1 : ((w.alloc (.cells #[.int .i64 m.guest, .slice ra m.root.length rc, .slice sa m.slots.length sc, .slice fa m.refs.length fc, .slice na m.snaps.length nc] 26)).alloc (.cells #[.func (.func N) #[] #[]] 62)).heap[w.heap.size + 1]? = some (.cells #[.func (.func N) #[] #[]] 62) := by have := World.alloc_heap_new (w.alloc (.cells #[.int .i64 m.guest, .slice ra m.root.length rc, .slice sa m.slots.length sc, .slice fa m.refs.length fc, .slice na m.snaps.length nc] 26)) (.cells #[.func (.func N) #[] #[]] 62); simpa using this
  have m1 : (((w.alloc (.cells #[.int .i64 m.guest, .slice ra m.root.length rc, .slice sa m.slots.length sc, .slice fa m.refs.length fc, .slice na m.snaps.length nc] 26)).alloc (.cells #[.func (.func N) #[] #[]] 62)).alloc (.cells #[.int .i64 0, .slice none 0 0, .slice none 0 0, .slice none 0 0, .slice none 0 0] 26)).heap[w.heap.size + 1]? = some (.cells #[.func (.func N) #[] #[]] 62) := (cells_alloc q1 _)
  have q2 : (((w.alloc (.cells #[.int .i64 m.guest, .slice ra m.root.length rc, .slice sa m.slots.length sc, .slice fa m.refs.length fc, .slice na m.snaps.length nc] 26)).alloc (.cells #[.func (.func N) #[] #[]] 62)).alloc (.cells #[.int .i64 0, .slice none 0 0, .slice none 0 0, .slice none 0 0, .slice none 0 0] 26)).heap[w.heap.size + 1 + 1]? = some (.cells #[.int .i64 0, .slice none 0 0, .slice none 0 0, .slice none 0 0, .slice none 0 0] 26) := by have := World.alloc_heap_new ((w.alloc (.cells #[.int .i64 m.guest, .slice ra m.root.length rc, .slice sa m.slots.length sc, .slice fa m.refs.length fc, .slice na m.snaps.length nc] 26)).alloc (.cells #[.func (.func N) #[] #[]] 62)) (.cells #[.int .i64 0, .slice none 0 0, .slice none 0 0, .slice none 0 0, .slice none 0 0] 26); simpa using this
  have m2 : (((w.alloc (.cells #[.int .i64 m.guest, .slice ra m.root.length rc, .slice sa m.slots.length sc, .slice fa m.refs.length fc, .slice na m.snaps.length nc] 26)).alloc (.cells #[.func (.func N) #[] #[]] 62)).alloc (.cells #[.int .i64 0, .slice none 0 0, .slice none 0 0, .slice none 0 0, .slice none 0 0] 26)).heap[w.heap.size + 1 + 1]? = some (.cells #[.int .i64 0, .slice none 0 0, .slice none 0 0, .slice none 0 0, .slice none 0 0] 26) := q2
  have hz : (((w.alloc (.cells #[.int .i64 m.guest, .slice ra m.root.length rc, .slice sa m.slots.length sc, .slice fa m.refs.length fc, .slice na m.snaps.length nc] 26)).alloc (.cells #[.func (.func N) #[] #[]] 62)).alloc (.cells #[.int .i64 0, .slice none 0 0, .slice none 0 0, .slice none 0 0, .slice none 0 0] 26)).heap.size = w.heap.size + 1 + 1 + 1 := by simp
  clear q0 q1 q2
  have hchk := tcheck_is (h.below b0) hE
  have hF4 := h.four.2.2.2
  have hNP := (namesOK_iff _).1 (shapeE_zero (checkE_shape hE)).2.2.2.1
  have h3l := (shapeE_zero (checkE_shape hE)).1
  have HF : Hid (∀ w2, Below (((w.alloc (.cells #[.int .i64 m.guest, .slice ra m.root.length rc, .slice sa m.slots.length sc, .slice fa m.refs.length fc, .slice na m.snaps.length nc] 26)).alloc (.cells #[.func (.func N) #[] #[]] 62)).alloc (.cells #[.int .i64 0, .slice none 0 0, .slice none 0 0, .slice none 0 0, .slice none 0 0] 26)).heap.size (((w.alloc (.cells #[.int .i64 m.guest, .slice ra m.root.length rc, .slice sa m.slots.length sc, .slice fa m.refs.length fc, .slice na m.snaps.length nc] 26)).alloc (.cells #[.func (.func N) #[] #[]] 62)).alloc (.cells #[.int .i64 0, .slice none 0 0, .slice none 0 0, .slice none 0 0, .slice none 0 0] 26)) w2 → Calls Try.prog 51 #[.slice na m.snaps.length nc, .string nm] w2 fun r w' => r = .returned (.tuple #[.int .i64 (k : Int), .bool false]) ∧ Below w2.heap.size w2 w') := fun w2 hb2 => find_is ((hF4.below b0).below hb2) hNP h3l nm hk hx
  clear hF4 hNP h3l
  obtain ⟨c0, c1, c2, c3, c4⟩ := five m0
  have HM : Hid ((Below w.heap.size w (((w.alloc (.cells #[.int .i64 m.guest, .slice ra m.root.length rc, .slice sa m.slots.length sc, .slice fa m.refs.length fc, .slice na m.snaps.length nc] 26)).alloc (.cells #[.func (.func N) #[] #[]] 62)).alloc (.cells #[.int .i64 0, .slice none 0 0, .slice none 0 0, .slice none 0 0, .slice none 0 0] 26)) ∧ (((w.alloc (.cells #[.int .i64 m.guest, .slice ra m.root.length rc, .slice sa m.slots.length sc, .slice fa m.refs.length fc, .slice na m.snaps.length nc] 26)).alloc (.cells #[.func (.func N) #[] #[]] 62)).alloc (.cells #[.int .i64 0, .slice none 0 0, .slice none 0 0, .slice none 0 0, .slice none 0 0] 26)).heap.size = w.heap.size + 1 + 1 + 1) ∧ (((w.alloc (.cells #[.int .i64 m.guest, .slice ra m.root.length rc, .slice sa m.slots.length sc, .slice fa m.refs.length fc, .slice na m.snaps.length nc] 26)).alloc (.cells #[.func (.func N) #[] #[]] 62)).alloc (.cells #[.int .i64 0, .slice none 0 0, .slice none 0 0, .slice none 0 0, .slice none 0 0] 26)).heap[w.heap.size]? = some (.cells #[.int .i64 m.guest, .slice ra m.root.length rc, .slice sa m.slots.length sc, .slice fa m.refs.length fc, .slice na m.snaps.length nc] 26) ∧ (((w.alloc (.cells #[.int .i64 m.guest, .slice ra m.root.length rc, .slice sa m.slots.length sc, .slice fa m.refs.length fc, .slice na m.snaps.length nc] 26)).alloc (.cells #[.func (.func N) #[] #[]] 62)).alloc (.cells #[.int .i64 0, .slice none 0 0, .slice none 0 0, .slice none 0 0, .slice none 0 0] 26)).heap[w.heap.size + 1]? = some (.cells #[.func (.func N) #[] #[]] 62) ∧ (((w.alloc (.cells #[.int .i64 m.guest, .slice ra m.root.length rc, .slice sa m.slots.length sc, .slice fa m.refs.length fc, .slice na m.snaps.length nc] 26)).alloc (.cells #[.func (.func N) #[] #[]] 62)).alloc (.cells #[.int .i64 0, .slice none 0 0, .slice none 0 0, .slice none 0 0, .slice none 0 0] 26)).heap[w.heap.size + 1 + 1]? = some (.cells #[.int .i64 0, .slice none 0 0, .slice none 0 0, .slice none 0 0, .slice none 0 0] 26)) := ⟨⟨b0, hz⟩, m0, m1, m2⟩
  clear h m0 m1 m2 hz b0
  go_enter Try.func55, Try.ntmps55
  go_wp2_with (first
    | (go_at_call 51; refine (HF.out _ b1).mono ?_; rintro e w5 ⟨rfl, bf⟩; have BB := Below.on b1 bf; clear b1 bf; have gx := cells_alloc (cells_below HM.out.2.1 BB (by rw [HM.out.1.2]; omega)) (.cells #[.int .i64 (k : Int)] 3); obtain ⟨g0, g1, g2, g3, g4⟩ := five gx; have k3 := cells_alloc (cells_below HM.out.2.2.2 BB (by rw [HM.out.1.2]; omega)) (.cells #[.int .i64 (k : Int)] 3); obtain ⟨z0, z1, z2, z3, z4⟩ := five k3; have y0 := cells_frozen k3 0; have y1 := cells_frozen k3 1; have y2 := cells_frozen k3 2; have y3 := cells_frozen k3 3; have y4 := cells_frozen k3 4; have HB : Hid (Below w.heap.size w (w5.alloc (.cells #[.int .i64 (k : Int)] 3))) := (Below.on HM.out.1.1 BB).alloc (by have := BB.size; rw [HM.out.1.2] at this; omega) _; have hsz : w.heap.size + 1 + 1 + 1 ≤ w5.heap.size := (by have := BB.size; rw [HM.out.1.2] at this; omega); clear k3)
    | (go_at_call 13; refine hchk.mono ?_; rintro e w1 ⟨rfl, b1⟩; have dx := cells_below HM.out.2.1 b1 (by rw [HM.out.1.2]; omega); obtain ⟨d0, d1, d2, d3, d4⟩ := five dx))
  have i1 : w.heap.size ≤ w.heap.size + 1 + 1 := by omega
  refine bodyPost_ret (v := .tuple #[.agg #[.int .i64 0, .slice none 0 0, .slice none 0 0, .slice none 0 0, .slice none 0 0], .int .i64 5]) (by simp [results, Try.results55, go_sem, z0, z1, z2, z3, z4]) rfl (AnsI.bad 5 (((((HB.out.setCell i1 _).setCell i1 _).setCell i1 _).setCell i1 _).setCell i1 _))

set_option maxHeartbeats 4000000 in
theorem with_ok_at (m : ImgD) (ra : Option Addr) (rc : Nat) (sa : Option Addr) (sc : Nat) (fa : Option Addr) (fc : Nat) (na : Option Addr) (nc : Nat) (nm : ByteArray) (N k : Nat) (w : World) (h : Img w (.agg #[.int .i64 m.guest, .slice ra m.root.length rc, .slice sa m.slots.length sc, .slice fa m.refs.length fc, .slice na m.snaps.length nc]) m) (hE : checkE m = 0) (hk : posS m.snaps nm = k) (hx : (snapIx m.snaps nm).isSome = true) (M0 M : ImgD) (hNN : ∀ (args : Array Value) (w : World), (callFunc N args).run Try.prog w = .ok (.enter N args) w) (hTurn : ∀ (W : World) (D B : Nat) (val : Nm → Value), B ≤ W.heap.size → DK W B D val m → Calls Try.prog N #[.pointer (some ⟨D, 0, none⟩), .int .i64 (k : Int)] W fun r W' => ∃ val', r = .returned (.tuple #[]) ∧ DTo W W' B D m val nilV M0 val') (hsh : shapeE M0 = 0) (hM : countedD M0 = M) :
    Calls Try.prog 55 #[.agg #[.int .i64 m.guest, .slice ra m.root.length rc, .slice sa m.slots.length sc, .slice fa m.refs.length fc, .slice na m.snaps.length nc], .string nm, .func (.func N) #[] #[]] w (AnsI w w.heap.size M 0) := by
  have b0 : Below w.heap.size w (((w.alloc (.cells #[.int .i64 m.guest, .slice ra m.root.length rc, .slice sa m.slots.length sc, .slice fa m.refs.length fc, .slice na m.snaps.length nc] 26)).alloc (.cells #[.func (.func N) #[] #[]] 62)).alloc (.cells #[.int .i64 0, .slice none 0 0, .slice none 0 0, .slice none 0 0, .slice none 0 0] 26)) := (((Below.refl _ _).alloc (by simp; try omega) _).alloc (by simp; try omega) _).alloc (by simp; try omega) _
  have q0 : (w.alloc (.cells #[.int .i64 m.guest, .slice ra m.root.length rc, .slice sa m.slots.length sc, .slice fa m.refs.length fc, .slice na m.snaps.length nc] 26)).heap[w.heap.size]? = some (.cells #[.int .i64 m.guest, .slice ra m.root.length rc, .slice sa m.slots.length sc, .slice fa m.refs.length fc, .slice na m.snaps.length nc] 26) := by have := World.alloc_heap_new w (.cells #[.int .i64 m.guest, .slice ra m.root.length rc, .slice sa m.slots.length sc, .slice fa m.refs.length fc, .slice na m.snaps.length nc] 26); simpa using this
  have m0 : (((w.alloc (.cells #[.int .i64 m.guest, .slice ra m.root.length rc, .slice sa m.slots.length sc, .slice fa m.refs.length fc, .slice na m.snaps.length nc] 26)).alloc (.cells #[.func (.func N) #[] #[]] 62)).alloc (.cells #[.int .i64 0, .slice none 0 0, .slice none 0 0, .slice none 0 0, .slice none 0 0] 26)).heap[w.heap.size]? = some (.cells #[.int .i64 m.guest, .slice ra m.root.length rc, .slice sa m.slots.length sc, .slice fa m.refs.length fc, .slice na m.snaps.length nc] 26) := (cells_alloc (cells_alloc q0 _) _)
  have q1 : ((w.alloc (.cells #[.int .i64 m.guest, .slice ra m.root.length rc, .slice sa m.slots.length sc, .slice fa m.refs.length fc, .slice na m.snaps.length nc] 26)).alloc (.cells #[.func (.func N) #[] #[]] 62)).heap[w.heap.size + 1]? = some (.cells #[.func (.func N) #[] #[]] 62) := by have := World.alloc_heap_new (w.alloc (.cells #[.int .i64 m.guest, .slice ra m.root.length rc, .slice sa m.slots.length sc, .slice fa m.refs.length fc, .slice na m.snaps.length nc] 26)) (.cells #[.func (.func N) #[] #[]] 62); simpa using this
  have m1 : (((w.alloc (.cells #[.int .i64 m.guest, .slice ra m.root.length rc, .slice sa m.slots.length sc, .slice fa m.refs.length fc, .slice na m.snaps.length nc] 26)).alloc (.cells #[.func (.func N) #[] #[]] 62)).alloc (.cells #[.int .i64 0, .slice none 0 0, .slice none 0 0, .slice none 0 0, .slice none 0 0] 26)).heap[w.heap.size + 1]? = some (.cells #[.func (.func N) #[] #[]] 62) := (cells_alloc q1 _)
  have q2 : (((w.alloc (.cells #[.int .i64 m.guest, .slice ra m.root.length rc, .slice sa m.slots.length sc, .slice fa m.refs.length fc, .slice na m.snaps.length nc] 26)).alloc (.cells #[.func (.func N) #[] #[]] 62)).alloc (.cells #[.int .i64 0, .slice none 0 0, .slice none 0 0, .slice none 0 0, .slice none 0 0] 26)).heap[w.heap.size + 1 + 1]? = some (.cells #[.int .i64 0, .slice none 0 0, .slice none 0 0, .slice none 0 0, .slice none 0 0] 26) := by have := World.alloc_heap_new ((w.alloc (.cells #[.int .i64 m.guest, .slice ra m.root.length rc, .slice sa m.slots.length sc, .slice fa m.refs.length fc, .slice na m.snaps.length nc] 26)).alloc (.cells #[.func (.func N) #[] #[]] 62)) (.cells #[.int .i64 0, .slice none 0 0, .slice none 0 0, .slice none 0 0, .slice none 0 0] 26); simpa using this
  have m2 : (((w.alloc (.cells #[.int .i64 m.guest, .slice ra m.root.length rc, .slice sa m.slots.length sc, .slice fa m.refs.length fc, .slice na m.snaps.length nc] 26)).alloc (.cells #[.func (.func N) #[] #[]] 62)).alloc (.cells #[.int .i64 0, .slice none 0 0, .slice none 0 0, .slice none 0 0, .slice none 0 0] 26)).heap[w.heap.size + 1 + 1]? = some (.cells #[.int .i64 0, .slice none 0 0, .slice none 0 0, .slice none 0 0, .slice none 0 0] 26) := q2
  have hz : (((w.alloc (.cells #[.int .i64 m.guest, .slice ra m.root.length rc, .slice sa m.slots.length sc, .slice fa m.refs.length fc, .slice na m.snaps.length nc] 26)).alloc (.cells #[.func (.func N) #[] #[]] 62)).alloc (.cells #[.int .i64 0, .slice none 0 0, .slice none 0 0, .slice none 0 0, .slice none 0 0] 26)).heap.size = w.heap.size + 1 + 1 + 1 := by simp
  clear q0 q1 q2
  have hchk := tcheck_is (h.below b0) hE
  have hF4 := h.four.2.2.2
  have hNP := (namesOK_iff _).1 (shapeE_zero (checkE_shape hE)).2.2.2.1
  have h3l := (shapeE_zero (checkE_shape hE)).1
  have HF : Hid (∀ w2, Below (((w.alloc (.cells #[.int .i64 m.guest, .slice ra m.root.length rc, .slice sa m.slots.length sc, .slice fa m.refs.length fc, .slice na m.snaps.length nc] 26)).alloc (.cells #[.func (.func N) #[] #[]] 62)).alloc (.cells #[.int .i64 0, .slice none 0 0, .slice none 0 0, .slice none 0 0, .slice none 0 0] 26)).heap.size (((w.alloc (.cells #[.int .i64 m.guest, .slice ra m.root.length rc, .slice sa m.slots.length sc, .slice fa m.refs.length fc, .slice na m.snaps.length nc] 26)).alloc (.cells #[.func (.func N) #[] #[]] 62)).alloc (.cells #[.int .i64 0, .slice none 0 0, .slice none 0 0, .slice none 0 0, .slice none 0 0] 26)) w2 → Calls Try.prog 51 #[.slice na m.snaps.length nc, .string nm] w2 fun r w' => r = .returned (.tuple #[.int .i64 (k : Int), .bool true]) ∧ Below w2.heap.size w2 w') := fun w2 hb2 => find_is ((hF4.below b0).below hb2) hNP h3l nm hk hx
  clear hF4 hNP h3l
  have HO : Hid (∀ w5, Below (((w.alloc (.cells #[.int .i64 m.guest, .slice ra m.root.length rc, .slice sa m.slots.length sc, .slice fa m.refs.length fc, .slice na m.snaps.length nc] 26)).alloc (.cells #[.func (.func N) #[] #[]] 62)).alloc (.cells #[.int .i64 0, .slice none 0 0, .slice none 0 0, .slice none 0 0, .slice none 0 0] 26)).heap.size (((w.alloc (.cells #[.int .i64 m.guest, .slice ra m.root.length rc, .slice sa m.slots.length sc, .slice fa m.refs.length fc, .slice na m.snaps.length nc] 26)).alloc (.cells #[.func (.func N) #[] #[]] 62)).alloc (.cells #[.int .i64 0, .slice none 0 0, .slice none 0 0, .slice none 0 0, .slice none 0 0] 26)) w5 → Calls Try.prog 33 #[.agg #[.int .i64 m.guest, .slice ra m.root.length rc, .slice sa m.slots.length sc, .slice fa m.refs.length fc, .slice na m.snaps.length nc], .func (.func 88) #[] #[.pointer (some ⟨w.heap.size + 1, 0, none⟩), .pointer (some ⟨w5.heap.size, 0, none⟩)]] (w5.alloc (.cells #[.int .i64 (k : Int)] 3)) (AnsI (w5.alloc (.cells #[.int .i64 (k : Int)] 3)) (w5.alloc (.cells #[.int .i64 (k : Int)] 3)).heap.size M 0)) := fun w5 b5 => by
    have hsz : w.heap.size + 1 + 1 + 1 ≤ w5.heap.size := (by have := b5.size; rw [hz] at this; exact this)
    have b6 : Below (((w.alloc (.cells #[.int .i64 m.guest, .slice ra m.root.length rc, .slice sa m.slots.length sc, .slice fa m.refs.length fc, .slice na m.snaps.length nc] 26)).alloc (.cells #[.func (.func N) #[] #[]] 62)).alloc (.cells #[.int .i64 0, .slice none 0 0, .slice none 0 0, .slice none 0 0, .slice none 0 0] 26)).heap.size (((w.alloc (.cells #[.int .i64 m.guest, .slice ra m.root.length rc, .slice sa m.slots.length sc, .slice fa m.refs.length fc, .slice na m.snaps.length nc] 26)).alloc (.cells #[.func (.func N) #[] #[]] 62)).alloc (.cells #[.int .i64 0, .slice none 0 0, .slice none 0 0, .slice none 0 0, .slice none 0 0] 26)) (w5.alloc (.cells #[.int .i64 (k : Int)] 3)) := b5.alloc (by rw [hz]; exact hsz) _
    have hz1 : (w5.alloc (.cells #[.int .i64 (k : Int)] 3)).heap.size = w5.heap.size + 1 := by simp
    have ho := of_is (h.below (Below.on b0 b6)) (fits_of_shape (checkE_shape hE)) (enters_of Try.func88 (by kernel_rfl) rfl) (with_turn (oneN (cells_below m1 b6 (by rw [hz]; omega))) (oneN (World.alloc_heap_new _ _)) (by omega) (by omega) hNN hTurn)
    have e1 : ofM (some M0) = M := by unfold ofM; dsimp only; rw [if_pos hsh]; exact hM
    have e2 : ofE (some M0) = 0 := hsh
    rw [e1, e2] at ho
    exact ho
  obtain ⟨c0, c1, c2, c3, c4⟩ := five m0
  have HM : Hid ((Below w.heap.size w (((w.alloc (.cells #[.int .i64 m.guest, .slice ra m.root.length rc, .slice sa m.slots.length sc, .slice fa m.refs.length fc, .slice na m.snaps.length nc] 26)).alloc (.cells #[.func (.func N) #[] #[]] 62)).alloc (.cells #[.int .i64 0, .slice none 0 0, .slice none 0 0, .slice none 0 0, .slice none 0 0] 26)) ∧ (((w.alloc (.cells #[.int .i64 m.guest, .slice ra m.root.length rc, .slice sa m.slots.length sc, .slice fa m.refs.length fc, .slice na m.snaps.length nc] 26)).alloc (.cells #[.func (.func N) #[] #[]] 62)).alloc (.cells #[.int .i64 0, .slice none 0 0, .slice none 0 0, .slice none 0 0, .slice none 0 0] 26)).heap.size = w.heap.size + 1 + 1 + 1) ∧ (((w.alloc (.cells #[.int .i64 m.guest, .slice ra m.root.length rc, .slice sa m.slots.length sc, .slice fa m.refs.length fc, .slice na m.snaps.length nc] 26)).alloc (.cells #[.func (.func N) #[] #[]] 62)).alloc (.cells #[.int .i64 0, .slice none 0 0, .slice none 0 0, .slice none 0 0, .slice none 0 0] 26)).heap[w.heap.size]? = some (.cells #[.int .i64 m.guest, .slice ra m.root.length rc, .slice sa m.slots.length sc, .slice fa m.refs.length fc, .slice na m.snaps.length nc] 26) ∧ (((w.alloc (.cells #[.int .i64 m.guest, .slice ra m.root.length rc, .slice sa m.slots.length sc, .slice fa m.refs.length fc, .slice na m.snaps.length nc] 26)).alloc (.cells #[.func (.func N) #[] #[]] 62)).alloc (.cells #[.int .i64 0, .slice none 0 0, .slice none 0 0, .slice none 0 0, .slice none 0 0] 26)).heap[w.heap.size + 1]? = some (.cells #[.func (.func N) #[] #[]] 62) ∧ (((w.alloc (.cells #[.int .i64 m.guest, .slice ra m.root.length rc, .slice sa m.slots.length sc, .slice fa m.refs.length fc, .slice na m.snaps.length nc] 26)).alloc (.cells #[.func (.func N) #[] #[]] 62)).alloc (.cells #[.int .i64 0, .slice none 0 0, .slice none 0 0, .slice none 0 0, .slice none 0 0] 26)).heap[w.heap.size + 1 + 1]? = some (.cells #[.int .i64 0, .slice none 0 0, .slice none 0 0, .slice none 0 0, .slice none 0 0] 26)) := ⟨⟨b0, hz⟩, m0, m1, m2⟩
  clear h m0 m1 m2 hz b0
  clear hM hsh hTurn hNN
  go_enter Try.func55, Try.ntmps55
  go_wp2_with (first
    | (go_at_call 51; refine (HF.out _ b1).mono ?_; rintro e w5 ⟨rfl, bf⟩; have BB := Below.on b1 bf; clear b1 bf; have gx := cells_alloc (cells_below HM.out.2.1 BB (by rw [HM.out.1.2]; omega)) (.cells #[.int .i64 (k : Int)] 3); obtain ⟨g0, g1, g2, g3, g4⟩ := five gx; have hof := HO.out w5 BB; have d0 := cells_alloc (cells_below HM.out.2.1 BB (by rw [HM.out.1.2]; omega)) (.cells #[.int .i64 (k : Int)] 3); obtain ⟨x1, x2, x3, x4, x5⟩ := five d0; have ck : (w5.alloc (.cells #[.int .i64 (k : Int)] 3)).cell? ⟨w5.heap.size, 0, none⟩ = some (.int .i64 (k : Int)) := oneN (World.alloc_heap_new _ _); have HV : Hid (Below w.heap.size w (w5.alloc (.cells #[.int .i64 (k : Int)] 3)) ∧ (w5.alloc (.cells #[.int .i64 (k : Int)] 3)).heap[w.heap.size + 1 + 1]? = some (.cells #[.int .i64 0, .slice none 0 0, .slice none 0 0, .slice none 0 0, .slice none 0 0] 26) ∧ w.heap.size + 1 + 1 < (w5.alloc (.cells #[.int .i64 (k : Int)] 3)).heap.size) := ⟨(Below.on HM.out.1.1 BB).alloc (by have := BB.size; rw [HM.out.1.2] at this; omega) _, cells_alloc (cells_below HM.out.2.2.2 BB (by rw [HM.out.1.2]; omega)) _, (by have := BB.size; rw [HM.out.1.2] at this; have hz1 : (w5.alloc (.cells #[.int .i64 (k : Int)] 3)).heap.size = w5.heap.size + 1 := (by simp); omega)⟩; clear d0)
    | (go_at_call 13; refine hchk.mono ?_; rintro e w1 ⟨rfl, b1⟩; have dx := cells_below HM.out.2.1 b1 (by rw [HM.out.1.2]; omega); obtain ⟨d0, d1, d2, d3, d4⟩ := five dx))
  refine hof.mono ?_
  intro e w3 hA
  obtain ⟨val, ga, gc, la, lc, oa, oc, ta, tc, rfl, hO, b1, hI⟩ := hA.open
  dsimp only
  have k3 := cells_below HV.out.2.1 b1 HV.out.2.2
  obtain ⟨z0, z1, z2, z3, z4⟩ := five k3
  have y0 := cells_frozen k3 0
  have y1 := cells_frozen k3 1
  have y2 := cells_frozen k3 2
  have y3 := cells_frozen k3 3
  have y4 := cells_frozen k3 4
  have HP : Hid (OI w3 (w5.alloc (.cells #[.int .i64 (k : Int)] 3)).heap.size val M) := hO
  have HB : Hid (Below w.heap.size w w3) := Below.on HV.out.1 b1
  have HI : Hid (imgV M.guest val = .agg #[.int .i64 M.guest, .slice ga M.root.length gc, .slice la M.slots.length lc, .slice oa M.refs.length oc, .slice ta M.snaps.length tc]) := hI
  clear hO b1 hI hof hA
  go_wp2_with fail
  have i1 : w.heap.size ≤ w.heap.size + 1 + 1 := by omega
  have hf1 : ∀ a, Live M a → (val a).ownBlock ≠ some (w.heap.size + 1 + 1) := fun a ha e => by have := ((HP.out.row a ha).lt _ e).1; have := HV.out.2.2; omega
  refine bodyPost_ret (v := .tuple #[.agg #[.int .i64 M.guest, .slice ga M.root.length gc, .slice la M.slots.length lc, .slice oa M.refs.length oc, .slice ta M.snaps.length tc], .int .i64 0]) (by simp [results, Try.results55, go_sem, z0, z1, z2, z3, z4]) rfl ⟨val, by rw [HI.out], OI.mono (((((HP.out.far hf1).far hf1).far hf1).far hf1).far hf1) (by have := HV.out.2.2; omega), ((((HB.out.setCell i1 _).setCell i1 _).setCell i1 _).setCell i1 _).setCell i1 _⟩

theorem revert_with {w : World} {v : Value} {m : ImgD} (h : Img w v m) (nm : ByteArray) {M : ImgD} {E : Int} (hM : rvM m nm = M) (hE : pastE m nm = E) :
    Calls Try.prog 55 #[v, .string nm, .func (.func 56) #[] #[]] w (AnsI w w.heap.size M E) := by
  have h' := h
  obtain ⟨ra, rc, sa, sc, fa, fc, na, nc, rfl, _⟩ := h.parts
  subst hM hE
  by_cases h0 : pastE m nm = 0
  · obtain ⟨hC, k, hk, hl, e, hs, _⟩ := rv_ok h0
    rw [h0]
    have hN := (namesOK_iff _).1 (shapeE_zero (checkE_shape hC)).2.2.2.1
    have h3 := (shapeE_zero (checkE_shape hC)).1
    exact with_ok_at m ra rc sa sc fa fc na nc nm _ k w h' hC (pos_here hN hk) (by rw [hk]; rfl) (revertM m k) _ (enters_of Try.func56 (by kernel_rfl) rfl) (fun W D B val hB hD => revert_desk hD hB hl (by omega) (checkE_shape hC)) hs e.symm
  · rw [rv_bad h0]
    unfold pastE at h0 ⊢
    by_cases hC : checkE m = 0
    · rw [if_neg (fun x => x hC)] at h0 ⊢
      cases hx : snapIx m.snaps nm with
      | some k => rw [hx] at h0; exact absurd rfl h0
      | none => exact with_none_at m ra rc sa sc fa fc na nc nm _ _ w h' hC rfl (by rw [hx]; rfl)
    · rw [if_pos hC]
      exact with_bad_at m ra rc sa sc fa fc na nc nm _ _ w h' rfl (by simp [hC])

theorem delete_with {w : World} {v : Value} {m : ImgD} (h : Img w v m) (nm : ByteArray) {M : ImgD} {E : Int} (hM : dlM m nm = M) (hE : pastE m nm = E) :
    Calls Try.prog 55 #[v, .string nm, .func (.func 57) #[] #[]] w (AnsI w w.heap.size M E) := by
  have h' := h
  obtain ⟨ra, rc, sa, sc, fa, fc, na, nc, rfl, _⟩ := h.parts
  subst hM hE
  by_cases h0 : pastE m nm = 0
  · obtain ⟨hC, k, hk, hl, e, hs, _⟩ := dl_ok h0
    rw [h0]
    have hN := (namesOK_iff _).1 (shapeE_zero (checkE_shape hC)).2.2.2.1
    have h3 := (shapeE_zero (checkE_shape hC)).1
    exact with_ok_at m ra rc sa sc fa fc na nc nm _ k w h' hC (pos_here hN hk) (by rw [hk]; rfl) (deleteM m k) _ (enters_of Try.func57 (by kernel_rfl) rfl) (fun W D B val hB hD => delete_desk hD hB hl (by omega)) hs e.symm
  · rw [dl_bad h0]
    unfold pastE at h0 ⊢
    by_cases hC : checkE m = 0
    · rw [if_neg (fun x => x hC)] at h0 ⊢
      cases hx : snapIx m.snaps nm with
      | some k => rw [hx] at h0; exact absurd rfl h0
      | none => exact with_none_at m ra rc sa sc fa fc na nc nm _ _ w h' hC rfl (by rw [hx]; rfl)
    · rw [if_pos hC]
      exact with_bad_at m ra rc sa sc fa fc na nc nm _ _ w h' rfl (by simp [hC])
end Go.Proofs.Ytehleeibgkpjmad
/- The image of pair: what is decided of it. -/
namespace Go.Proofs.Ytehleeibgkpjmad
open Go.RowKit Go.Shelf
set_option maxRecDepth 20000

abbrev pD : ImgD := pairD 6 [0, 2, 2, 1, 1] [3, 0, 0, 0]
end Go.Proofs.Ytehleeibgkpjmad
/- Contract of snapsBegun: it answers true. -/
namespace Go.Proofs.Ytehleeibgkpjmad
open Go.RowKit Go.Shelf
set_option maxRecDepth 20000

theorem Hid_mkN {p : Prop} (h : p) : Hid p := h
def CAtN (W : World) (p : Addr) (v : Value) : Prop := W.cell? p = some v ∧ p.block < W.heap.size
theorem CAtN.below {W W' : World} {p : Addr} {v : Value} (h : CAtN W p v) (bb : Below W.heap.size W W') : CAtN W' p v := ⟨(bb.cell h.2).trans h.1, Nat.lt_of_lt_of_le h.2 bb.size⟩
def nbA : ImgD := ⟨6, [2, 4], [(0, ⟨#[]⟩, []), (1, aaaa, []), (2, ⟨#[]⟩, [1, 0, -1, 1]), (1, bbbb, []), (2, ⟨#[]⟩, [3, 0, 0, 0])], [0, 2, 3, 1, 2], [(⟨#[110, 101, 119]⟩, 6, [2, 4]), (nOld, 4, [2])]⟩
def nbB : ImgD := ⟨4, [2], [(0, ⟨#[]⟩, []), (1, aaaa, []), (2, ⟨#[]⟩, [1, 0, -1, 1]), (0, ⟨#[]⟩, []), (0, ⟨#[]⟩, [])], [0, 2, 2, 0, 0], [(nOld, 4, [2])]⟩
def nbC : ImgD := ⟨6, [2, 4], [(0, ⟨#[]⟩, []), (1, aaaa, []), (2, ⟨#[]⟩, [1, 0, -1, 1]), (1, bbbb, []), (2, ⟨#[]⟩, [3, 0, 0, 0])], [0, 2, 1, 1, 1], []⟩
theorem nb_ma : crM pD ⟨#[110, 101, 119]⟩ = nbA := by kernel_rfl
theorem nb_ea : crE pD ⟨#[110, 101, 119]⟩ = 0 := by decide +kernel
theorem nb_mb : rvM pD nOld = nbB := by kernel_rfl
theorem nb_eb : pastE pD nOld = 0 := by decide +kernel
theorem nb_mc : dlM pD nOld = nbC := by kernel_rfl
theorem nb_ec : pastE pD nOld = 0 := by decide +kernel
theorem nb_mh : crM pD nOld = imgZ := by kernel_rfl
theorem nb_eh : crE pD nOld = 6 := by decide +kernel
theorem nb_mi : dlM pD ⟨#[120]⟩ = imgZ := by kernel_rfl
theorem nb_ei : pastE pD ⟨#[120]⟩ = 5 := by decide +kernel
set_option maxHeartbeats 2000000 in
theorem revert_is {w : World} {v : Value} {m : ImgD} (h : Img w v m) (nm : ByteArray) {M : ImgD} {E : Int} (hM : rvM m nm = M) (hE : pastE m nm = E) :
    Calls Try.prog 25 #[v, .string nm] w (AnsI w w.heap.size M E) := by
  have h' := h
  obtain ⟨ra, rc, sa, sc, fa, fc, na, nc, rfl, _⟩ := h.parts
  have b0 : Below w.heap.size w ((w.alloc (.cells #[.int .i64 m.guest, .slice ra m.root.length rc, .slice sa m.slots.length sc, .slice fa m.refs.length fc, .slice na m.snaps.length nc] 26)).alloc (.cells #[.int .i64 0, .slice none 0 0, .slice none 0 0, .slice none 0 0, .slice none 0 0] 26)) := ((Below.refl _ _).alloc (Nat.le_refl _) _).alloc (by simp) _
  have m0 : ((w.alloc (.cells #[.int .i64 m.guest, .slice ra m.root.length rc, .slice sa m.slots.length sc, .slice fa m.refs.length fc, .slice na m.snaps.length nc] 26)).alloc (.cells #[.int .i64 0, .slice none 0 0, .slice none 0 0, .slice none 0 0, .slice none 0 0] 26)).heap[w.heap.size]? = some (.cells #[.int .i64 m.guest, .slice ra m.root.length rc, .slice sa m.slots.length sc, .slice fa m.refs.length fc, .slice na m.snaps.length nc] 26) := cells_alloc (World.alloc_heap_new _ _) _
  have m1 : ((w.alloc (.cells #[.int .i64 m.guest, .slice ra m.root.length rc, .slice sa m.slots.length sc, .slice fa m.refs.length fc, .slice na m.snaps.length nc] 26)).alloc (.cells #[.int .i64 0, .slice none 0 0, .slice none 0 0, .slice none 0 0, .slice none 0 0] 26)).heap[w.heap.size + 1]? = some (.cells #[.int .i64 0, .slice none 0 0, .slice none 0 0, .slice none 0 0, .slice none 0 0] 26) := by have := World.alloc_heap_new (w.alloc (.cells #[.int .i64 m.guest, .slice ra m.root.length rc, .slice sa m.slots.length sc, .slice fa m.refs.length fc, .slice na m.snaps.length nc] 26)) (.cells #[.int .i64 0, .slice none 0 0, .slice none 0 0, .slice none 0 0, .slice none 0 0] 26); simpa using this
  have hz : ((w.alloc (.cells #[.int .i64 m.guest, .slice ra m.root.length rc, .slice sa m.slots.length sc, .slice fa m.refs.length fc, .slice na m.snaps.length nc] 26)).alloc (.cells #[.int .i64 0, .slice none 0 0, .slice none 0 0, .slice none 0 0, .slice none 0 0] 26)).heap.size = w.heap.size + 1 + 1 := by simp
  have hcall := revert_with (h'.below b0) nm hM hE
  obtain ⟨c0, c1, c2, c3, c4⟩ := five m0
  have HM : Hid (((w.alloc (.cells #[.int .i64 m.guest, .slice ra m.root.length rc, .slice sa m.slots.length sc, .slice fa m.refs.length fc, .slice na m.snaps.length nc] 26)).alloc (.cells #[.int .i64 0, .slice none 0 0, .slice none 0 0, .slice none 0 0, .slice none 0 0] 26)).heap[w.heap.size + 1]? = some (.cells #[.int .i64 0, .slice none 0 0, .slice none 0 0, .slice none 0 0, .slice none 0 0] 26) ∧ Below w.heap.size w ((w.alloc (.cells #[.int .i64 m.guest, .slice ra m.root.length rc, .slice sa m.slots.length sc, .slice fa m.refs.length fc, .slice na m.snaps.length nc] 26)).alloc (.cells #[.int .i64 0, .slice none 0 0, .slice none 0 0, .slice none 0 0, .slice none 0 0] 26)) ∧ ((w.alloc (.cells #[.int .i64 m.guest, .slice ra m.root.length rc, .slice sa m.slots.length sc, .slice fa m.refs.length fc, .slice na m.snaps.length nc] 26)).alloc (.cells #[.int .i64 0, .slice none 0 0, .slice none 0 0, .slice none 0 0, .slice none 0 0] 26)).heap.size = w.heap.size + 1 + 1) := ⟨m1, b0, hz⟩
  clear h h' m0 m1 b0 hM hE
  go_enter Try.func25, Try.ntmps25
  go_wp2_with fail
  refine hcall.mono ?_
  intro e w3 hA
  obtain ⟨val, ga, gc, la, lc, oa, oc, ta, tc, rfl, hO, b1, hI⟩ := hA.open
  dsimp only
  have k3 := cells_below HM.out.1 b1 (by rw [HM.out.2.2]; omega)
  obtain ⟨z0, z1, z2, z3, z4⟩ := five k3
  have y0 := cells_frozen k3 0
  have y1 := cells_frozen k3 1
  have y2 := cells_frozen k3 2
  have y3 := cells_frozen k3 3
  have y4 := cells_frozen k3 4
  have HP : Hid (OI w3 (w.heap.size + 1 + 1) val M) := by rw [HM.out.2.2] at hO; exact hO
  have HB : Hid (Below w.heap.size w w3) := Below.on HM.out.2.1 b1
  have HI : Hid (imgV M.guest val = .agg #[.int .i64 M.guest, .slice ga M.root.length gc, .slice la M.slots.length lc, .slice oa M.refs.length oc, .slice ta M.snaps.length tc]) := hI
  clear hO b1 hI hcall hA
  go_wp2_with fail
  have i1 : w.heap.size ≤ w.heap.size + 1 := by omega
  have hf1 : ∀ a, Live M a → (val a).ownBlock ≠ some (w.heap.size + 1) := fun a ha e => by have := ((HP.out.row a ha).lt _ e).1; omega
  refine bodyPost_ret (v := .tuple #[.agg #[.int .i64 M.guest, .slice ga M.root.length gc, .slice la M.slots.length lc, .slice oa M.refs.length oc, .slice ta M.snaps.length tc], .int .i64 E]) (by simp [results, Try.results25, go_sem, z0, z1, z2, z3, z4]) rfl ⟨val, by rw [HI.out], OI.mono (((((HP.out.far hf1).far hf1).far hf1).far hf1).far hf1) (by omega), ((((HB.out.setCell i1 _).setCell i1 _).setCell i1 _).setCell i1 _).setCell i1 _⟩
set_option maxHeartbeats 2000000 in
theorem delete_img {w : World} {v : Value} {m : ImgD} (h : Img w v m) (nm : ByteArray) {M : ImgD} {E : Int} (hM : dlM m nm = M) (hE : pastE m nm = E) :
    Calls Try.prog 26 #[v, .string nm] w (AnsI w w.heap.size M E) := by
  have h' := h
  obtain ⟨ra, rc, sa, sc, fa, fc, na, nc, rfl, _⟩ := h.parts
  have b0 : Below w.heap.size w ((w.alloc (.cells #[.int .i64 m.guest, .slice ra m.root.length rc, .slice sa m.slots.length sc, .slice fa m.refs.length fc, .slice na m.snaps.length nc] 26)).alloc (.cells #[.int .i64 0, .slice none 0 0, .slice none 0 0, .slice none 0 0, .slice none 0 0] 26)) := ((Below.refl _ _).alloc (Nat.le_refl _) _).alloc (by simp) _
  have m0 : ((w.alloc (.cells #[.int .i64 m.guest, .slice ra m.root.length rc, .slice sa m.slots.length sc, .slice fa m.refs.length fc, .slice na m.snaps.length nc] 26)).alloc (.cells #[.int .i64 0, .slice none 0 0, .slice none 0 0, .slice none 0 0, .slice none 0 0] 26)).heap[w.heap.size]? = some (.cells #[.int .i64 m.guest, .slice ra m.root.length rc, .slice sa m.slots.length sc, .slice fa m.refs.length fc, .slice na m.snaps.length nc] 26) := cells_alloc (World.alloc_heap_new _ _) _
  have m1 : ((w.alloc (.cells #[.int .i64 m.guest, .slice ra m.root.length rc, .slice sa m.slots.length sc, .slice fa m.refs.length fc, .slice na m.snaps.length nc] 26)).alloc (.cells #[.int .i64 0, .slice none 0 0, .slice none 0 0, .slice none 0 0, .slice none 0 0] 26)).heap[w.heap.size + 1]? = some (.cells #[.int .i64 0, .slice none 0 0, .slice none 0 0, .slice none 0 0, .slice none 0 0] 26) := by have := World.alloc_heap_new (w.alloc (.cells #[.int .i64 m.guest, .slice ra m.root.length rc, .slice sa m.slots.length sc, .slice fa m.refs.length fc, .slice na m.snaps.length nc] 26)) (.cells #[.int .i64 0, .slice none 0 0, .slice none 0 0, .slice none 0 0, .slice none 0 0] 26); simpa using this
  have hz : ((w.alloc (.cells #[.int .i64 m.guest, .slice ra m.root.length rc, .slice sa m.slots.length sc, .slice fa m.refs.length fc, .slice na m.snaps.length nc] 26)).alloc (.cells #[.int .i64 0, .slice none 0 0, .slice none 0 0, .slice none 0 0, .slice none 0 0] 26)).heap.size = w.heap.size + 1 + 1 := by simp
  have hcall := delete_with (h'.below b0) nm hM hE
  obtain ⟨c0, c1, c2, c3, c4⟩ := five m0
  have HM : Hid (((w.alloc (.cells #[.int .i64 m.guest, .slice ra m.root.length rc, .slice sa m.slots.length sc, .slice fa m.refs.length fc, .slice na m.snaps.length nc] 26)).alloc (.cells #[.int .i64 0, .slice none 0 0, .slice none 0 0, .slice none 0 0, .slice none 0 0] 26)).heap[w.heap.size + 1]? = some (.cells #[.int .i64 0, .slice none 0 0, .slice none 0 0, .slice none 0 0, .slice none 0 0] 26) ∧ Below w.heap.size w ((w.alloc (.cells #[.int .i64 m.guest, .slice ra m.root.length rc, .slice sa m.slots.length sc, .slice fa m.refs.length fc, .slice na m.snaps.length nc] 26)).alloc (.cells #[.int .i64 0, .slice none 0 0, .slice none 0 0, .slice none 0 0, .slice none 0 0] 26)) ∧ ((w.alloc (.cells #[.int .i64 m.guest, .slice ra m.root.length rc, .slice sa m.slots.length sc, .slice fa m.refs.length fc, .slice na m.snaps.length nc] 26)).alloc (.cells #[.int .i64 0, .slice none 0 0, .slice none 0 0, .slice none 0 0, .slice none 0 0] 26)).heap.size = w.heap.size + 1 + 1) := ⟨m1, b0, hz⟩
  clear h h' m0 m1 b0 hM hE
  go_enter Try.func26, Try.ntmps26
  go_wp2_with fail
  refine hcall.mono ?_
  intro e w3 hA
  obtain ⟨val, ga, gc, la, lc, oa, oc, ta, tc, rfl, hO, b1, hI⟩ := hA.open
  dsimp only
  have k3 := cells_below HM.out.1 b1 (by rw [HM.out.2.2]; omega)
  obtain ⟨z0, z1, z2, z3, z4⟩ := five k3
  have y0 := cells_frozen k3 0
  have y1 := cells_frozen k3 1
  have y2 := cells_frozen k3 2
  have y3 := cells_frozen k3 3
  have y4 := cells_frozen k3 4
  have HP : Hid (OI w3 (w.heap.size + 1 + 1) val M) := by rw [HM.out.2.2] at hO; exact hO
  have HB : Hid (Below w.heap.size w w3) := Below.on HM.out.2.1 b1
  have HI : Hid (imgV M.guest val = .agg #[.int .i64 M.guest, .slice ga M.root.length gc, .slice la M.slots.length lc, .slice oa M.refs.length oc, .slice ta M.snaps.length tc]) := hI
  clear hO b1 hI hcall hA
  go_wp2_with fail
  have i1 : w.heap.size ≤ w.heap.size + 1 := by omega
  have hf1 : ∀ a, Live M a → (val a).ownBlock ≠ some (w.heap.size + 1) := fun a ha e => by have := ((HP.out.row a ha).lt _ e).1; omega
  refine bodyPost_ret (v := .tuple #[.agg #[.int .i64 M.guest, .slice ga M.root.length gc, .slice la M.slots.length lc, .slice oa M.refs.length oc, .slice ta M.snaps.length tc], .int .i64 E]) (by simp [results, Try.results26, go_sem, z0, z1, z2, z3, z4]) rfl ⟨val, by rw [HI.out], OI.mono (((((HP.out.far hf1).far hf1).far hf1).far hf1).far hf1) (by omega), ((((HB.out.setCell i1 _).setCell i1 _).setCell i1 _).setCell i1 _).setCell i1 _⟩

set_option maxHeartbeats 200000000 in
theorem snapsBegun_any (w : World) : Calls Try.prog 30 #[] w fun r w' => r = .returned (.bool true) ∧ Below w.heap.size w w' := by
  go_enter Try.func30, Try.ntmps30
  have hB := Below.refl w.heap.size w
  go_wp2_with fail
  refine (pair_is _).mono ?_
  rintro e w1 ⟨⟨v_a, rfl, P_a⟩, bb⟩
  replace hB := Below.on hB bb
  clear bb
  go_wp2_with fail
  refine (create_is P_a ⟨#[110, 101, 119]⟩ nb_ma nb_ea).mono ?_
  intro e w2 hA
  obtain ⟨val, a_r, a_rc, a_s, a_sc, a_f, a_fc, a_n, a_nc, rfl, hO, bb, hI⟩ := hA.open
  dsimp only
  have I_a := hO.img
  rw [hI] at I_a
  clear hA hO hI
  rw [show nbA.guest = 6 from rfl, show nbA.root.length = 2 from rfl, show nbA.slots.length = 5 from rfl, show nbA.refs.length = 5 from rfl, show nbA.snaps.length = 2 from rfl] at I_a ⊢
  replace hB := Below.on hB bb
  replace P_a := P_a.below bb
  clear bb
  clear P_a
  have ba : Below w2.heap.size w2 (w2.alloc (.cells #[.int .i64 6, .slice a_r 2 a_rc, .slice a_s 5 a_sc, .slice a_f 5 a_fc, .slice a_n 2 a_nc] 26)) := (Below.refl _ _).alloc (Nat.le_refl _) _
  replace hB := Below.on hB ba
  replace I_a := I_a.below ba
  clear ba
  have mb_a : (w2.alloc (.cells #[.int .i64 6, .slice a_r 2 a_rc, .slice a_s 5 a_sc, .slice a_f 5 a_fc, .slice a_n 2 a_nc] 26)).heap[w2.heap.size]? = some (.cells #[.int .i64 6, .slice a_r 2 a_rc, .slice a_s 5 a_sc, .slice a_f 5 a_fc, .slice a_n 2 a_nc] 26) := World.alloc_heap_new _ _
  obtain ⟨a0, a1, a2, a3, a4⟩ := five mb_a
  go_wp2_with fail
  refine (pair_is _).mono ?_
  rintro e w3 ⟨⟨v_b, rfl, P_b⟩, bb⟩
  clear a0 a1 a2 a3 a4
  replace mb_a := cells_below mb_a bb (Array.getElem?_eq_some_iff.1 mb_a).1
  replace hB := Below.on hB bb
  replace I_a := I_a.below bb
  clear bb
  obtain ⟨a0, a1, a2, a3, a4⟩ := five mb_a
  go_wp2_with fail
  refine (revert_is P_b nOld nb_mb nb_eb).mono ?_
  intro e w4 hA
  obtain ⟨val, b_r, b_rc, b_s, b_sc, b_f, b_fc, b_n, b_nc, rfl, hO, bb, hI⟩ := hA.open
  dsimp only
  have I_b := hO.img
  rw [hI] at I_b
  clear hA hO hI
  rw [show nbB.guest = 4 from rfl, show nbB.root.length = 1 from rfl, show nbB.slots.length = 5 from rfl, show nbB.refs.length = 5 from rfl, show nbB.snaps.length = 1 from rfl] at I_b ⊢
  clear a0 a1 a2 a3 a4
  replace mb_a := cells_below mb_a bb (Array.getElem?_eq_some_iff.1 mb_a).1
  replace hB := Below.on hB bb
  replace I_a := I_a.below bb
  replace P_b := P_b.below bb
  clear bb
  clear P_b
  replace mb_a := cells_alloc mb_a (.cells #[.int .i64 4, .slice b_r 1 b_rc, .slice b_s 5 b_sc, .slice b_f 5 b_fc, .slice b_n 1 b_nc] 26)
  have ba : Below w4.heap.size w4 (w4.alloc (.cells #[.int .i64 4, .slice b_r 1 b_rc, .slice b_s 5 b_sc, .slice b_f 5 b_fc, .slice b_n 1 b_nc] 26)) := (Below.refl _ _).alloc (Nat.le_refl _) _
  replace hB := Below.on hB ba
  replace I_a := I_a.below ba
  replace I_b := I_b.below ba
  clear ba
  have mb_b : (w4.alloc (.cells #[.int .i64 4, .slice b_r 1 b_rc, .slice b_s 5 b_sc, .slice b_f 5 b_fc, .slice b_n 1 b_nc] 26)).heap[w4.heap.size]? = some (.cells #[.int .i64 4, .slice b_r 1 b_rc, .slice b_s 5 b_sc, .slice b_f 5 b_fc, .slice b_n 1 b_nc] 26) := World.alloc_heap_new _ _
  obtain ⟨a0, a1, a2, a3, a4⟩ := five mb_a
  obtain ⟨b0, b1, b2, b3, b4⟩ := five mb_b
  go_wp2_with fail
  refine (pair_is _).mono ?_
  rintro e w5 ⟨⟨v_c, rfl, P_c⟩, bb⟩
  clear a0 a1 a2 a3 a4 b0 b1 b2 b3 b4
  replace mb_a := cells_below mb_a bb (Array.getElem?_eq_some_iff.1 mb_a).1
  replace mb_b := cells_below mb_b bb (Array.getElem?_eq_some_iff.1 mb_b).1
  replace hB := Below.on hB bb
  replace I_a := I_a.below bb
  replace I_b := I_b.below bb
  clear bb
  obtain ⟨a0, a1, a2, a3, a4⟩ := five mb_a
  obtain ⟨b0, b1, b2, b3, b4⟩ := five mb_b
  go_wp2_with fail
  refine (delete_img P_c nOld nb_mc nb_ec).mono ?_
  intro e w6 hA
  obtain ⟨val, c_r, c_rc, c_s, c_sc, c_f, c_fc, c_n, c_nc, rfl, hO, bb, hI⟩ := hA.open
  dsimp only
  have I_c := hO.img
  rw [hI] at I_c
  clear hA hO hI
  rw [show nbC.guest = 6 from rfl, show nbC.root.length = 2 from rfl, show nbC.slots.length = 5 from rfl, show nbC.refs.length = 5 from rfl, show nbC.snaps.length = 0 from rfl] at I_c ⊢
  clear a0 a1 a2 a3 a4 b0 b1 b2 b3 b4
  replace mb_a := cells_below mb_a bb (Array.getElem?_eq_some_iff.1 mb_a).1
  replace mb_b := cells_below mb_b bb (Array.getElem?_eq_some_iff.1 mb_b).1
  replace hB := Below.on hB bb
  replace I_a := I_a.below bb
  replace I_b := I_b.below bb
  replace P_c := P_c.below bb
  clear bb
  clear P_c
  replace mb_a := cells_alloc mb_a (.cells #[.int .i64 6, .slice c_r 2 c_rc, .slice c_s 5 c_sc, .slice c_f 5 c_fc, .slice c_n 0 c_nc] 26)
  replace mb_b := cells_alloc mb_b (.cells #[.int .i64 6, .slice c_r 2 c_rc, .slice c_s 5 c_sc, .slice c_f 5 c_fc, .slice c_n 0 c_nc] 26)
  have ba : Below w6.heap.size w6 (w6.alloc (.cells #[.int .i64 6, .slice c_r 2 c_rc, .slice c_s 5 c_sc, .slice c_f 5 c_fc, .slice c_n 0 c_nc] 26)) := (Below.refl _ _).alloc (Nat.le_refl _) _
  replace hB := Below.on hB ba
  replace I_a := I_a.below ba
  replace I_b := I_b.below ba
  replace I_c := I_c.below ba
  clear ba
  have mb_c : (w6.alloc (.cells #[.int .i64 6, .slice c_r 2 c_rc, .slice c_s 5 c_sc, .slice c_f 5 c_fc, .slice c_n 0 c_nc] 26)).heap[w6.heap.size]? = some (.cells #[.int .i64 6, .slice c_r 2 c_rc, .slice c_s 5 c_sc, .slice c_f 5 c_fc, .slice c_n 0 c_nc] 26) := World.alloc_heap_new _ _
  obtain ⟨a0, a1, a2, a3, a4⟩ := five mb_a
  obtain ⟨b0, b1, b2, b3, b4⟩ := five mb_b
  obtain ⟨c0, c1, c2, c3, c4⟩ := five mb_c
  go_wp2_with fail
  refine (pair_is _).mono ?_
  rintro e w7 ⟨⟨v_h, rfl, P_h⟩, bb⟩
  clear a0 a1 a2 a3 a4 b0 b1 b2 b3 b4 c0 c1 c2 c3 c4
  replace mb_a := cells_below mb_a bb (Array.getElem?_eq_some_iff.1 mb_a).1
  replace mb_b := cells_below mb_b bb (Array.getElem?_eq_some_iff.1 mb_b).1
  replace mb_c := cells_below mb_c bb (Array.getElem?_eq_some_iff.1 mb_c).1
  replace hB := Below.on hB bb
  replace I_a := I_a.below bb
  replace I_b := I_b.below bb
  replace I_c := I_c.below bb
  clear bb
  obtain ⟨a0, a1, a2, a3, a4⟩ := five mb_a
  obtain ⟨b0, b1, b2, b3, b4⟩ := five mb_b
  obtain ⟨c0, c1, c2, c3, c4⟩ := five mb_c
  go_wp2_with fail
  refine (create_is P_h nOld nb_mh nb_eh).mono ?_
  intro e w8 hA
  obtain ⟨val, h_r, h_rc, h_s, h_sc, h_f, h_fc, h_n, h_nc, rfl, hO, bb, hI⟩ := hA.open
  dsimp only
  have I_h := hO.img
  rw [hI] at I_h
  clear hA hO hI
  rw [show imgZ.guest = 0 from rfl, show imgZ.root.length = 0 from rfl, show imgZ.slots.length = 0 from rfl, show imgZ.refs.length = 0 from rfl, show imgZ.snaps.length = 0 from rfl] at I_h ⊢
  clear a0 a1 a2 a3 a4 b0 b1 b2 b3 b4 c0 c1 c2 c3 c4
  replace mb_a := cells_below mb_a bb (Array.getElem?_eq_some_iff.1 mb_a).1
  replace mb_b := cells_below mb_b bb (Array.getElem?_eq_some_iff.1 mb_b).1
  replace mb_c := cells_below mb_c bb (Array.getElem?_eq_some_iff.1 mb_c).1
  replace hB := Below.on hB bb
  replace I_a := I_a.below bb
  replace I_b := I_b.below bb
  replace I_c := I_c.below bb
  replace P_h := P_h.below bb
  clear bb
  clear P_h
  replace mb_a := cells_alloc mb_a (.cells #[.int .i64 0, .slice h_r 0 h_rc, .slice h_s 0 h_sc, .slice h_f 0 h_fc, .slice h_n 0 h_nc] 26)
  replace mb_b := cells_alloc mb_b (.cells #[.int .i64 0, .slice h_r 0 h_rc, .slice h_s 0 h_sc, .slice h_f 0 h_fc, .slice h_n 0 h_nc] 26)
  replace mb_c := cells_alloc mb_c (.cells #[.int .i64 0, .slice h_r 0 h_rc, .slice h_s 0 h_sc, .slice h_f 0 h_fc, .slice h_n 0 h_nc] 26)
  have ba : Below w8.heap.size w8 (w8.alloc (.cells #[.int .i64 0, .slice h_r 0 h_rc, .slice h_s 0 h_sc, .slice h_f 0 h_fc, .slice h_n 0 h_nc] 26)) := (Below.refl _ _).alloc (Nat.le_refl _) _
  replace hB := Below.on hB ba
  replace I_a := I_a.below ba
  replace I_b := I_b.below ba
  replace I_c := I_c.below ba
  replace I_h := I_h.below ba
  clear ba
  have mb_h : (w8.alloc (.cells #[.int .i64 0, .slice h_r 0 h_rc, .slice h_s 0 h_sc, .slice h_f 0 h_fc, .slice h_n 0 h_nc] 26)).heap[w8.heap.size]? = some (.cells #[.int .i64 0, .slice h_r 0 h_rc, .slice h_s 0 h_sc, .slice h_f 0 h_fc, .slice h_n 0 h_nc] 26) := World.alloc_heap_new _ _
  clear mb_h
  clear I_h
  obtain ⟨a0, a1, a2, a3, a4⟩ := five mb_a
  obtain ⟨b0, b1, b2, b3, b4⟩ := five mb_b
  obtain ⟨c0, c1, c2, c3, c4⟩ := five mb_c
  go_wp2_with fail
  refine (pair_is _).mono ?_
  rintro e w9 ⟨⟨v_i, rfl, P_i⟩, bb⟩
  clear a0 a1 a2 a3 a4 b0 b1 b2 b3 b4 c0 c1 c2 c3 c4
  replace mb_a := cells_below mb_a bb (Array.getElem?_eq_some_iff.1 mb_a).1
  replace mb_b := cells_below mb_b bb (Array.getElem?_eq_some_iff.1 mb_b).1
  replace mb_c := cells_below mb_c bb (Array.getElem?_eq_some_iff.1 mb_c).1
  replace hB := Below.on hB bb
  replace I_a := I_a.below bb
  replace I_b := I_b.below bb
  replace I_c := I_c.below bb
  clear bb
  obtain ⟨a0, a1, a2, a3, a4⟩ := five mb_a
  obtain ⟨b0, b1, b2, b3, b4⟩ := five mb_b
  obtain ⟨c0, c1, c2, c3, c4⟩ := five mb_c
  go_wp2_with fail
  refine (delete_img P_i ⟨#[120]⟩ nb_mi nb_ei).mono ?_
  intro e w10 hA
  obtain ⟨val, i_r, i_rc, i_s, i_sc, i_f, i_fc, i_n, i_nc, rfl, hO, bb, hI⟩ := hA.open
  dsimp only
  have I_i := hO.img
  rw [hI] at I_i
  clear hA hO hI
  rw [show imgZ.guest = 0 from rfl, show imgZ.root.length = 0 from rfl, show imgZ.slots.length = 0 from rfl, show imgZ.refs.length = 0 from rfl, show imgZ.snaps.length = 0 from rfl] at I_i ⊢
  clear a0 a1 a2 a3 a4 b0 b1 b2 b3 b4 c0 c1 c2 c3 c4
  replace mb_a := cells_below mb_a bb (Array.getElem?_eq_some_iff.1 mb_a).1
  replace mb_b := cells_below mb_b bb (Array.getElem?_eq_some_iff.1 mb_b).1
  replace mb_c := cells_below mb_c bb (Array.getElem?_eq_some_iff.1 mb_c).1
  replace hB := Below.on hB bb
  replace I_a := I_a.below bb
  replace I_b := I_b.below bb
  replace I_c := I_c.below bb
  replace P_i := P_i.below bb
  clear bb
  clear P_i
  replace mb_a := cells_alloc mb_a (.cells #[.int .i64 0, .slice i_r 0 i_rc, .slice i_s 0 i_sc, .slice i_f 0 i_fc, .slice i_n 0 i_nc] 26)
  replace mb_b := cells_alloc mb_b (.cells #[.int .i64 0, .slice i_r 0 i_rc, .slice i_s 0 i_sc, .slice i_f 0 i_fc, .slice i_n 0 i_nc] 26)
  replace mb_c := cells_alloc mb_c (.cells #[.int .i64 0, .slice i_r 0 i_rc, .slice i_s 0 i_sc, .slice i_f 0 i_fc, .slice i_n 0 i_nc] 26)
  have ba : Below w10.heap.size w10 (w10.alloc (.cells #[.int .i64 0, .slice i_r 0 i_rc, .slice i_s 0 i_sc, .slice i_f 0 i_fc, .slice i_n 0 i_nc] 26)) := (Below.refl _ _).alloc (Nat.le_refl _) _
  replace hB := Below.on hB ba
  replace I_a := I_a.below ba
  replace I_b := I_b.below ba
  replace I_c := I_c.below ba
  replace I_i := I_i.below ba
  clear ba
  have mb_i : (w10.alloc (.cells #[.int .i64 0, .slice i_r 0 i_rc, .slice i_s 0 i_sc, .slice i_f 0 i_fc, .slice i_n 0 i_nc] 26)).heap[w10.heap.size]? = some (.cells #[.int .i64 0, .slice i_r 0 i_rc, .slice i_s 0 i_sc, .slice i_f 0 i_fc, .slice i_n 0 i_nc] 26) := World.alloc_heap_new _ _
  clear mb_i
  clear I_i
  obtain ⟨pan, oan, tan, e, _, lan, san⟩ := I_a.four.2.2.2.open (by decide)
  simp only [Value.slice.injEq] at e
  obtain ⟨rfl, hh, rfl⟩ := e
  clear hh
  obtain ⟨pbs, obs, tbs, e, _, lbs, sbs⟩ := I_b.four.2.1.open (by decide)
  simp only [Value.slice.injEq] at e
  obtain ⟨rfl, hh, rfl⟩ := e
  clear hh
  have ca0 : CAtN (w10.alloc (.cells #[.int .i64 0, .slice i_r 0 i_rc, .slice i_s 0 i_sc, .slice i_f 0 i_fc, .slice i_n 0 i_nc] 26)) ⟨pan, oan, none⟩ (.string ⟨#[110, 101, 119]⟩) := ⟨(san 0 (by decide)).choose_spec.1, lan⟩
  have cb3 : CAtN (w10.alloc (.cells #[.int .i64 0, .slice i_r 0 i_rc, .slice i_s 0 i_sc, .slice i_f 0 i_fc, .slice i_n 0 i_nc] 26)) ⟨pbs, obs + 9, none⟩ (.int .i64 0) := ⟨(sbs 3 (by decide)).choose_spec.1, lbs⟩
  have cb4 : CAtN (w10.alloc (.cells #[.int .i64 0, .slice i_r 0 i_rc, .slice i_s 0 i_sc, .slice i_f 0 i_fc, .slice i_n 0 i_nc] 26)) ⟨pbs, obs + 12, none⟩ (.int .i64 0) := ⟨(sbs 4 (by decide)).choose_spec.1, lbs⟩
  have Fa := I_a.four.2.2.1
  have Rb := I_b.four.1
  have Fc := I_c.four.2.2.1
  clear I_a
  clear I_b
  clear I_c
  clear san lan sbs lbs
  have hnew := Sl_new (w10.alloc (.cells #[.int .i64 0, .slice i_r 0 i_rc, .slice i_s 0 i_sc, .slice i_f 0 i_fc, .slice i_n 0 i_nc] 26)) [0, 2, 3, 1, 2] 5 rfl (by decide)
  rw [show (w10.alloc (.cells #[.int .i64 0, .slice i_r 0 i_rc, .slice i_s 0 i_sc, .slice i_f 0 i_fc, .slice i_n 0 i_nc] 26)).heap.size = w10.heap.size + 1 by simp] at hnew
  obtain ⟨a0, a1, a2, a3, a4⟩ := five mb_a
  have q_ca0 := ca0.1
  have hh_mb_a := Hid_mkN mb_a
  have hh_mb_b := Hid_mkN mb_b
  have hh_mb_c := Hid_mkN mb_c
  have hh_ca0 := Hid_mkN ca0
  have hh_cb3 := Hid_mkN cb3
  have hh_cb4 := Hid_mkN cb4
  have hh_Fa := Hid_mkN Fa
  have hh_Rb := Hid_mkN Rb
  have hh_Fc := Hid_mkN Fc
  have hh_hB := Hid_mkN hB
  have hh_hnew := Hid_mkN hnew
  clear mb_a mb_b mb_c ca0 cb3 cb4 Fa Rb Fc hB hnew
  go_wp2_with fail
  clear a0 a1 a2 a3 a4 q_ca0
  have mb_a := hh_mb_a.out
  have mb_b := hh_mb_b.out
  have mb_c := hh_mb_c.out
  have ca0 := hh_ca0.out
  have cb3 := hh_cb3.out
  have cb4 := hh_cb4.out
  have Fa := hh_Fa.out
  have Rb := hh_Rb.out
  have Fc := hh_Fc.out
  have hB := hh_hB.out
  have hnew := hh_hnew.out
  clear hh_mb_a hh_mb_b hh_mb_c hh_ca0 hh_cb3 hh_cb4 hh_Fa hh_Rb hh_Fc hh_hB hh_hnew
  replace mb_a := cells_alloc mb_a (.cells #[.int .i64 0, .int .i64 2, .int .i64 3, .int .i64 1, .int .i64 2] 3)
  replace mb_b := cells_alloc mb_b (.cells #[.int .i64 0, .int .i64 2, .int .i64 3, .int .i64 1, .int .i64 2] 3)
  replace mb_c := cells_alloc mb_c (.cells #[.int .i64 0, .int .i64 2, .int .i64 3, .int .i64 1, .int .i64 2] 3)
  have ba : Below (w10.alloc (.cells #[.int .i64 0, .slice i_r 0 i_rc, .slice i_s 0 i_sc, .slice i_f 0 i_fc, .slice i_n 0 i_nc] 26)).heap.size (w10.alloc (.cells #[.int .i64 0, .slice i_r 0 i_rc, .slice i_s 0 i_sc, .slice i_f 0 i_fc, .slice i_n 0 i_nc] 26)) ((w10.alloc (.cells #[.int .i64 0, .slice i_r 0 i_rc, .slice i_s 0 i_sc, .slice i_f 0 i_fc, .slice i_n 0 i_nc] 26)).alloc (.cells #[.int .i64 0, .int .i64 2, .int .i64 3, .int .i64 1, .int .i64 2] 3)) := (Below.refl _ _).alloc (Nat.le_refl _) _
  replace hB := Below.on hB ba
  replace ca0 := ca0.below ba
  replace cb3 := cb3.below ba
  replace cb4 := cb4.below ba
  replace Fa := Fa.below ba
  replace Rb := Rb.below ba
  replace Fc := Fc.below ba
  clear ba
  refine (same_any Fa hnew).mono ?_
  rintro e w11 ⟨rfl, bb⟩
  clear hnew
  replace mb_a := cells_below mb_a bb (Array.getElem?_eq_some_iff.1 mb_a).1
  replace mb_b := cells_below mb_b bb (Array.getElem?_eq_some_iff.1 mb_b).1
  replace mb_c := cells_below mb_c bb (Array.getElem?_eq_some_iff.1 mb_c).1
  replace hB := Below.on hB bb
  replace ca0 := ca0.below bb
  replace cb3 := cb3.below bb
  replace cb4 := cb4.below bb
  replace Fa := Fa.below bb
  replace Rb := Rb.below bb
  replace Fc := Fc.below bb
  clear bb
  clear Fa
  clear mb_a
  clear ca0
  have hnew := Sl_new w11 [2] 1 rfl (by decide)
  obtain ⟨b0, b1, b2, b3, b4⟩ := five mb_b
  have hh_mb_b := Hid_mkN mb_b
  have hh_mb_c := Hid_mkN mb_c
  have hh_cb3 := Hid_mkN cb3
  have hh_cb4 := Hid_mkN cb4
  have hh_Rb := Hid_mkN Rb
  have hh_Fc := Hid_mkN Fc
  have hh_hB := Hid_mkN hB
  have hh_hnew := Hid_mkN hnew
  clear mb_b mb_c cb3 cb4 Rb Fc hB hnew
  go_wp2_with fail
  clear b0 b1 b2 b3 b4
  have mb_b := hh_mb_b.out
  have mb_c := hh_mb_c.out
  have cb3 := hh_cb3.out
  have cb4 := hh_cb4.out
  have Rb := hh_Rb.out
  have Fc := hh_Fc.out
  have hB := hh_hB.out
  have hnew := hh_hnew.out
  clear hh_mb_b hh_mb_c hh_cb3 hh_cb4 hh_Rb hh_Fc hh_hB hh_hnew
  replace mb_b := cells_alloc mb_b (.cells #[.int .i64 2] 3)
  replace mb_c := cells_alloc mb_c (.cells #[.int .i64 2] 3)
  have ba : Below w11.heap.size w11 (w11.alloc (.cells #[.int .i64 2] 3)) := (Below.refl _ _).alloc (Nat.le_refl _) _
  replace hB := Below.on hB ba
  replace cb3 := cb3.below ba
  replace cb4 := cb4.below ba
  replace Rb := Rb.below ba
  replace Fc := Fc.below ba
  clear ba
  refine (same_any Rb hnew).mono ?_
  rintro e w12 ⟨rfl, bb⟩
  clear hnew
  replace mb_b := cells_below mb_b bb (Array.getElem?_eq_some_iff.1 mb_b).1
  replace mb_c := cells_below mb_c bb (Array.getElem?_eq_some_iff.1 mb_c).1
  replace hB := Below.on hB bb
  replace cb3 := cb3.below bb
  replace cb4 := cb4.below bb
  replace Rb := Rb.below bb
  replace Fc := Fc.below bb
  clear bb
  clear Rb
  have hnew := Sl_new w12 [0, 2, 1, 1, 1] 5 rfl (by decide)
  obtain ⟨b0, b1, b2, b3, b4⟩ := five mb_b
  obtain ⟨c0, c1, c2, c3, c4⟩ := five mb_c
  have q_cb3 := cb3.1
  have q_cb4 := cb4.1
  have hh_mb_b := Hid_mkN mb_b
  have hh_mb_c := Hid_mkN mb_c
  have hh_cb3 := Hid_mkN cb3
  have hh_cb4 := Hid_mkN cb4
  have hh_Fc := Hid_mkN Fc
  have hh_hB := Hid_mkN hB
  have hh_hnew := Hid_mkN hnew
  clear mb_b mb_c cb3 cb4 Fc hB hnew
  go_wp2_with fail
  clear b0 b1 b2 b3 b4 c0 c1 c2 c3 c4 q_cb3 q_cb4
  have mb_b := hh_mb_b.out
  have mb_c := hh_mb_c.out
  have cb3 := hh_cb3.out
  have cb4 := hh_cb4.out
  have Fc := hh_Fc.out
  have hB := hh_hB.out
  have hnew := hh_hnew.out
  clear hh_mb_b hh_mb_c hh_cb3 hh_cb4 hh_Fc hh_hB hh_hnew
  replace mb_b := cells_alloc mb_b (.cells #[.int .i64 0, .int .i64 2, .int .i64 1, .int .i64 1, .int .i64 1] 3)
  replace mb_c := cells_alloc mb_c (.cells #[.int .i64 0, .int .i64 2, .int .i64 1, .int .i64 1, .int .i64 1] 3)
  have ba : Below w12.heap.size w12 (w12.alloc (.cells #[.int .i64 0, .int .i64 2, .int .i64 1, .int .i64 1, .int .i64 1] 3)) := (Below.refl _ _).alloc (Nat.le_refl _) _
  replace hB := Below.on hB ba
  replace cb3 := cb3.below ba
  replace cb4 := cb4.below ba
  replace Fc := Fc.below ba
  clear ba
  refine (same_any Fc hnew).mono ?_
  rintro e w13 ⟨rfl, bb⟩
  clear hnew
  replace mb_b := cells_below mb_b bb (Array.getElem?_eq_some_iff.1 mb_b).1
  replace mb_c := cells_below mb_c bb (Array.getElem?_eq_some_iff.1 mb_c).1
  replace hB := Below.on hB bb
  replace cb3 := cb3.below bb
  replace cb4 := cb4.below bb
  replace Fc := Fc.below bb
  clear bb
  clear Fc
  clear cb3
  clear cb4
  clear mb_b
  clear mb_c
  have hh_hB := Hid_mkN hB
  clear hB
  go_wp2_with fail
  go_ret
  have hB := hh_hB.out
  exact ⟨rfl, hB⟩
end Go.Proofs.Ytehleeibgkpjmad
/- Contract of SameImages: of one image, wherever it lies twice. -/
namespace Go.Proofs.Ytehleeibgkpjmad
open Go.RowKit Go.Shelf
set_option maxRecDepth 20000

set_option maxHeartbeats 4000000 in
theorem sameI_at (m : ImgD) (ra : Option Addr) (rc : Nat) (sa : Option Addr) (sc : Nat) (fa : Option Addr) (fc : Nat) (na : Option Addr) (nc : Nat) (rb : Option Addr) (rd : Nat) (sb : Option Addr) (sd : Nat) (fb : Option Addr) (fd : Nat) (nb : Option Addr) (nd : Nat) (w : World)
    (h1 : Sl w (.slice ra m.root.length rc) m.root) (h2 : Slots w (.slice sa m.slots.length sc) m.slots) (h3 : Sl w (.slice fa m.refs.length fc) m.refs) (h4 : Snaps w (.slice na m.snaps.length nc) m.snaps)
    (k1 : Sl w (.slice rb m.root.length rd) m.root) (k2 : Slots w (.slice sb m.slots.length sd) m.slots) (k3 : Sl w (.slice fb m.refs.length fd) m.refs) (k4 : Snaps w (.slice nb m.snaps.length nd) m.snaps) :
    Calls Try.prog 23 #[.agg #[.int .i64 m.guest, .slice ra m.root.length rc, .slice sa m.slots.length sc, .slice fa m.refs.length fc, .slice na m.snaps.length nc], .agg #[.int .i64 m.guest, .slice rb m.root.length rd, .slice sb m.slots.length sd, .slice fb m.refs.length fd, .slice nb m.snaps.length nd]] w fun r w' => r = .returned (.bool true) ∧ Below w.heap.size w w' := by
  have b0 : Below w.heap.size w ((w.alloc (.cells #[.int .i64 m.guest, .slice ra m.root.length rc, .slice sa m.slots.length sc, .slice fa m.refs.length fc, .slice na m.snaps.length nc] 26)).alloc (.cells #[.int .i64 m.guest, .slice rb m.root.length rd, .slice sb m.slots.length sd, .slice fb m.refs.length fd, .slice nb m.snaps.length nd] 26)) := ((Below.refl _ _).alloc (Nat.le_refl _) _).alloc (by simp) _
  have m0 : ((w.alloc (.cells #[.int .i64 m.guest, .slice ra m.root.length rc, .slice sa m.slots.length sc, .slice fa m.refs.length fc, .slice na m.snaps.length nc] 26)).alloc (.cells #[.int .i64 m.guest, .slice rb m.root.length rd, .slice sb m.slots.length sd, .slice fb m.refs.length fd, .slice nb m.snaps.length nd] 26)).heap[w.heap.size]? = some (.cells #[.int .i64 m.guest, .slice ra m.root.length rc, .slice sa m.slots.length sc, .slice fa m.refs.length fc, .slice na m.snaps.length nc] 26) := cells_alloc (World.alloc_heap_new _ _) _
  have m1 : ((w.alloc (.cells #[.int .i64 m.guest, .slice ra m.root.length rc, .slice sa m.slots.length sc, .slice fa m.refs.length fc, .slice na m.snaps.length nc] 26)).alloc (.cells #[.int .i64 m.guest, .slice rb m.root.length rd, .slice sb m.slots.length sd, .slice fb m.refs.length fd, .slice nb m.snaps.length nd] 26)).heap[w.heap.size + 1]? = some (.cells #[.int .i64 m.guest, .slice rb m.root.length rd, .slice sb m.slots.length sd, .slice fb m.refs.length fd, .slice nb m.snaps.length nd] 26) := by have := World.alloc_heap_new (w.alloc (.cells #[.int .i64 m.guest, .slice ra m.root.length rc, .slice sa m.slots.length sc, .slice fa m.refs.length fc, .slice na m.snaps.length nc] 26)) (.cells #[.int .i64 m.guest, .slice rb m.root.length rd, .slice sb m.slots.length sd, .slice fb m.refs.length fd, .slice nb m.snaps.length nd] 26); simpa using this
  obtain ⟨c0, c1, c2, c3, c4⟩ := five m0
  obtain ⟨d0, d1, d2, d3, d4⟩ := five m1
  have HR := same_any (h1.below b0) (k1.below b0)
  have HF := fun W (hW : Below w.heap.size w W) => same_any (h3.below hW) (k3.below hW)
  have HS : Hid (Slots w (.slice sa m.slots.length sc) m.slots ∧ Slots w (.slice sb m.slots.length sd) m.slots ∧ Snaps w (.slice na m.snaps.length nc) m.snaps ∧ Snaps w (.slice nb m.snaps.length nd) m.snaps) := ⟨h2, k2, h4, k4⟩
  have HL : Hid (m.slots.length ≤ 9223372036854775807 ∧ m.snaps.length ≤ 9223372036854775807) := ⟨h2.small, h4.small⟩
  clear h1 h2 h3 h4 k1 k2 k3 k4
  go_enter Try.func23, Try.ntmps23
  go_wp2_with (first
    | (go_at_call 22; refine (HF _ bw1).mono ?_; rintro e w2 ⟨rfl, b2⟩; have m4 := cells_below m2 b2 (Array.getElem?_eq_some_iff.1 m2).1; have m5 := cells_below m3 b2 (Array.getElem?_eq_some_iff.1 m3).1; obtain ⟨g0, g1, g2, g3, g4⟩ := five m4; obtain ⟨i0, i1, i2, i3, i4⟩ := five m5; have bw2 := Below.on bw1 b2)
    | (go_at_call 22; refine HR.mono ?_; rintro e w1 ⟨rfl, b1⟩; have m2 := cells_below m0 b1 (by simp <;> omega); have m3 := cells_below m1 b1 (by simp <;> omega); obtain ⟨e0, e1, e2, e3, e4⟩ := five m2; obtain ⟨f0, f1, f2, f3, f4⟩ := five m3; have bw1 := Below.on b0 b1))
  have HB : Hid (w2.heap[w.heap.size]? = some (.cells #[.int .i64 m.guest, .slice ra m.root.length rc, .slice sa m.slots.length sc, .slice fa m.refs.length fc, .slice na m.snaps.length nc] 26) ∧ w2.heap[w.heap.size + 1]? = some (.cells #[.int .i64 m.guest, .slice rb m.root.length rd, .slice sb m.slots.length sd, .slice fb m.refs.length fd, .slice nb m.snaps.length nd] 26) ∧ Below w.heap.size w w2) := ⟨m4, m5, bw2⟩
  clear c0 c1 c2 c3 c4 d0 d1 d2 d3 d4 e0 e1 e2 e3 e4 f0 f1 f2 f3 f4 g0 g1 g2 g3 g4 i0 i1 i2 i3 i4 m0 m1 m2 m3 m4 m5 b0 b1 b2 bw1 bw2 HR HF
  go_loopw [5] (fun i wr => ∃ k : Nat, k ≤ m.slots.length ∧ i = .int .i64 k ∧ Hid (wr.heap[w.heap.size]? = some (.cells #[.int .i64 m.guest, .slice ra m.root.length rc, .slice sa m.slots.length sc, .slice fa m.refs.length fc, .slice na m.snaps.length nc] 26) ∧ wr.heap[w.heap.size + 1]? = some (.cells #[.int .i64 m.guest, .slice rb m.root.length rd, .slice sb m.slots.length sd, .slice fb m.refs.length fd, .slice nb m.snaps.length nd] 26) ∧ Below w.heap.size w wr)) (fun i _ => m.slots.length - (intOf i).toNat)
  case atStart => exact ⟨0, Nat.zero_le _, rfl, HB⟩
  case round =>
    obtain ⟨k, hk, rfl, HC⟩ := hrel
    obtain ⟨mA, mB, hb⟩ := HC.out
    obtain ⟨c0, c1, c2, c3, c4⟩ := five mA
    obtain ⟨d0, d1, d2, d3, d4⟩ := five mB
    have hL := HL.out.1
    by_cases hlk : k < m.slots.length
    · have hki : (k : Int) < (m.slots.length : Int) := by omega
      have hL1 : (k : Int) + 1 ≤ 9223372036854775807 := by omega
      obtain ⟨pb, po, pc, e, _, hpl, hps⟩ := HS.out.1.open (by omega)
      simp at e
      obtain ⟨rfl, rfl⟩ := e
      obtain ⟨qb, qo, qc, e, _, hql, hqs⟩ := HS.out.2.1.open (by omega)
      simp at e
      obtain ⟨rfl, rfl⟩ := e
      obtain ⟨s, hs⟩ : ∃ s, m.slots[k] = s := ⟨_, rfl⟩
      obtain ⟨kk, dd, tt⟩ := s
      obtain ⟨tv, p0, p1, p2, ps⟩ := hps k hlk
      obtain ⟨uv, q0, q1, q2, qs⟩ := hqs k hlk
      rw [hs] at p0 p1 ps q0 q1 qs
      obtain ⟨ta, tc, rfl⟩ := ps.form
      obtain ⟨ua, uc, rfl⟩ := qs.form
      have p0 : wr.cell? ⟨pb, po + k * 3, none⟩ = some (.int .i64 kk) := (hb.cell (p := ⟨pb, po + k * 3, none⟩) hpl).trans p0
      have p1 : wr.cell? ⟨pb, po + k * 3 + 1, none⟩ = some (.string dd) := (hb.cell (p := ⟨pb, po + k * 3 + 1, none⟩) hpl).trans p1
      have p2 : wr.cell? ⟨pb, po + k * 3 + 1 + 1, none⟩ = some (.slice ta tt.length tc) := (hb.cell (p := ⟨pb, po + k * 3 + 1 + 1, none⟩) hpl).trans p2
      have q0 : wr.cell? ⟨qb, qo + k * 3, none⟩ = some (.int .i64 kk) := (hb.cell (p := ⟨qb, qo + k * 3, none⟩) hql).trans q0
      have q1 : wr.cell? ⟨qb, qo + k * 3 + 1, none⟩ = some (.string dd) := (hb.cell (p := ⟨qb, qo + k * 3 + 1, none⟩) hql).trans q1
      have q2 : wr.cell? ⟨qb, qo + k * 3 + 1 + 1, none⟩ = some (.slice ua tt.length uc) := (hb.cell (p := ⟨qb, qo + k * 3 + 1 + 1, none⟩) hql).trans q2
      have hcall := same_any (w := wr.drew) (ps.below (to_drew hb)) (qs.below (to_drew hb))
      have hpw : pb < wr.heap.size := Nat.lt_of_lt_of_le hpl hb.size
      have hqw : qb < wr.heap.size := Nat.lt_of_lt_of_le hql hb.size
      have HN : Hid (∀ W, Below wr.heap.size wr W → W.heap[w.heap.size]? = some (.cells #[.int .i64 m.guest, .slice ra m.root.length rc, .slice (some ⟨pb, po, none⟩) m.slots.length sc, .slice fa m.refs.length fc, .slice na m.snaps.length nc] 26) ∧ W.heap[w.heap.size + 1]? = some (.cells #[.int .i64 m.guest, .slice rb m.root.length rd, .slice (some ⟨qb, qo, none⟩) m.slots.length sd, .slice fb m.refs.length fd, .slice nb m.snaps.length nd] 26) ∧ Below w.heap.size w W) := fun W hW => ⟨cells_below mA hW (Array.getElem?_eq_some_iff.1 mA).1, cells_below mB hW (Array.getElem?_eq_some_iff.1 mB).1, Below.on hb hW⟩
      have HK : Hid (∀ W, Below wr.heap.size wr W → W.cell? ⟨w.heap.size, 0 + 1 + 1, none⟩ = some (.slice (some ⟨pb, po, none⟩) m.slots.length sc) ∧ W.cell? ⟨w.heap.size + 1, 0 + 1 + 1, none⟩ = some (.slice (some ⟨qb, qo, none⟩) m.slots.length sd) ∧ W.cell? ⟨pb, po + k * 3, none⟩ = some (.int .i64 kk) ∧ W.cell? ⟨pb, po + k * 3 + 1, none⟩ = some (.string dd) ∧ W.cell? ⟨pb, po + k * 3 + 1 + 1, none⟩ = some (.slice ta tt.length tc) ∧ W.cell? ⟨qb, qo + k * 3, none⟩ = some (.int .i64 kk) ∧ W.cell? ⟨qb, qo + k * 3 + 1, none⟩ = some (.string dd) ∧ W.cell? ⟨qb, qo + k * 3 + 1 + 1, none⟩ = some (.slice ua tt.length uc)) := fun W hW => ⟨(hW.cell (p := ⟨w.heap.size, 0 + 1 + 1, none⟩) (Array.getElem?_eq_some_iff.1 mA).1).trans c2, (hW.cell (p := ⟨w.heap.size + 1, 0 + 1 + 1, none⟩) (Array.getElem?_eq_some_iff.1 mB).1).trans d2, (hW.cell (p := ⟨pb, po + k * 3, none⟩) hpw).trans p0, (hW.cell (p := ⟨pb, po + k * 3 + 1, none⟩) hpw).trans p1, (hW.cell (p := ⟨pb, po + k * 3 + 1 + 1, none⟩) hpw).trans p2, (hW.cell (p := ⟨qb, qo + k * 3, none⟩) hqw).trans q0, (hW.cell (p := ⟨qb, qo + k * 3 + 1, none⟩) hqw).trans q1, (hW.cell (p := ⟨qb, qo + k * 3 + 1 + 1, none⟩) hqw).trans q2⟩
      clear hs mA mB ps qs hps hqs
      go_wp2_with fail
      go_region_held3 (fun W => W.cell? ⟨w.heap.size, 0 + 1 + 1, none⟩ = some (.slice (some ⟨pb, po, none⟩) m.slots.length sc) ∧ W.cell? ⟨w.heap.size + 1, 0 + 1 + 1, none⟩ = some (.slice (some ⟨qb, qo, none⟩) m.slots.length sd) ∧ W.cell? ⟨pb, po + k * 3, none⟩ = some (.int .i64 kk) ∧ W.cell? ⟨pb, po + k * 3 + 1, none⟩ = some (.string dd) ∧ W.cell? ⟨pb, po + k * 3 + 1 + 1, none⟩ = some (.slice ta tt.length tc) ∧ W.cell? ⟨qb, qo + k * 3, none⟩ = some (.int .i64 kk) ∧ W.cell? ⟨qb, qo + k * 3 + 1, none⟩ = some (.string dd) ∧ W.cell? ⟨qb, qo + k * 3 + 1 + 1, none⟩ = some (.slice ua tt.length uc)) (first | exact HK.out _ b3 | exact HK.out _ (to_drew (Below.refl _ _)))
        (first | (go_at_call 22; refine hcall.mono ?_; rintro e w3 ⟨rfl, b3⟩; have b3 := below_drew b3))
      go_wp2_with fail
      go_roundw
      case rel => exact ⟨k + 1, by omega, by go_num, HN.out _ b3⟩
      case measure => simp [intOf]; omega
    · have ek : k = m.slots.length := by omega
      subst ek
      obtain ⟨x, hrn⟩ : ∃ X, X = wr := ⟨_, rfl⟩
      subst hrn
      go_wp2_with fail
      clear c0 c1 c2 c3 c4 d0 d1 d2 d3 d4 mA mB hb hL
      go_loopw [6] (fun i wr => ∃ l : Nat, l ≤ m.snaps.length ∧ i = .int .i64 l ∧ Hid (wr.heap[w.heap.size]? = some (.cells #[.int .i64 m.guest, .slice ra m.root.length rc, .slice sa m.slots.length sc, .slice fa m.refs.length fc, .slice na m.snaps.length nc] 26) ∧ wr.heap[w.heap.size + 1]? = some (.cells #[.int .i64 m.guest, .slice rb m.root.length rd, .slice sb m.slots.length sd, .slice fb m.refs.length fd, .slice nb m.snaps.length nd] 26) ∧ Below w.heap.size w wr)) (fun i _ => m.snaps.length - (intOf i).toNat)
      case atStart => exact ⟨0, Nat.zero_le _, rfl, HC⟩
      case round =>
        obtain ⟨l, hl, rfl, HD⟩ := hrel
        obtain ⟨mA, mB, hb⟩ := HD.out
        obtain ⟨c0, c1, c2, c3, c4⟩ := five mA
        obtain ⟨d0, d1, d2, d3, d4⟩ := five mB
        have hL := HL.out.2
        by_cases hll : l < m.snaps.length
        · have hki : (l : Int) < (m.snaps.length : Int) := by omega
          have hL1 : (l : Int) + 1 ≤ 9223372036854775807 := by omega
          obtain ⟨pb, po, pc, e, _, hpl, hps⟩ := HS.out.2.2.1.open (by omega)
          simp at e
          obtain ⟨rfl, rfl⟩ := e
          obtain ⟨qb, qo, qc, e, _, hql, hqs⟩ := HS.out.2.2.2.open (by omega)
          simp at e
          obtain ⟨rfl, rfl⟩ := e
          obtain ⟨s, hs⟩ : ∃ s, m.snaps[l] = s := ⟨_, rfl⟩
          obtain ⟨nm, sg, tt⟩ := s
          obtain ⟨tv, p0, p1, p2, ps⟩ := hps l hll
          obtain ⟨uv, q0, q1, q2, qs⟩ := hqs l hll
          rw [hs] at p0 p1 ps q0 q1 qs
          obtain ⟨ta, tc, rfl⟩ := ps.form
          obtain ⟨ua, uc, rfl⟩ := qs.form
          have p0 : wr.cell? ⟨pb, po + l * 3, none⟩ = some (.string nm) := (hb.cell (p := ⟨pb, po + l * 3, none⟩) hpl).trans p0
          have p1 : wr.cell? ⟨pb, po + l * 3 + 1, none⟩ = some (.int .i64 sg) := (hb.cell (p := ⟨pb, po + l * 3 + 1, none⟩) hpl).trans p1
          have p2 : wr.cell? ⟨pb, po + l * 3 + 1 + 1, none⟩ = some (.slice ta tt.length tc) := (hb.cell (p := ⟨pb, po + l * 3 + 1 + 1, none⟩) hpl).trans p2
          have q0 : wr.cell? ⟨qb, qo + l * 3, none⟩ = some (.string nm) := (hb.cell (p := ⟨qb, qo + l * 3, none⟩) hql).trans q0
          have q1 : wr.cell? ⟨qb, qo + l * 3 + 1, none⟩ = some (.int .i64 sg) := (hb.cell (p := ⟨qb, qo + l * 3 + 1, none⟩) hql).trans q1
          have q2 : wr.cell? ⟨qb, qo + l * 3 + 1 + 1, none⟩ = some (.slice ua tt.length uc) := (hb.cell (p := ⟨qb, qo + l * 3 + 1 + 1, none⟩) hql).trans q2
          have hcall := same_any (w := wr.drew) (ps.below (to_drew hb)) (qs.below (to_drew hb))
          have hpw : pb < wr.heap.size := Nat.lt_of_lt_of_le hpl hb.size
          have hqw : qb < wr.heap.size := Nat.lt_of_lt_of_le hql hb.size
          have HN : Hid (∀ W, Below wr.heap.size wr W → W.heap[w.heap.size]? = some (.cells #[.int .i64 m.guest, .slice ra m.root.length rc, .slice sa m.slots.length sc, .slice fa m.refs.length fc, .slice (some ⟨pb, po, none⟩) m.snaps.length nc] 26) ∧ W.heap[w.heap.size + 1]? = some (.cells #[.int .i64 m.guest, .slice rb m.root.length rd, .slice sb m.slots.length sd, .slice fb m.refs.length fd, .slice (some ⟨qb, qo, none⟩) m.snaps.length nd] 26) ∧ Below w.heap.size w W) := fun W hW => ⟨cells_below mA hW (Array.getElem?_eq_some_iff.1 mA).1, cells_below mB hW (Array.getElem?_eq_some_iff.1 mB).1, Below.on hb hW⟩
          have HK : Hid (∀ W, Below wr.heap.size wr W → W.cell? ⟨w.heap.size, 0 + 1 + 1 + 1 + 1, none⟩ = some (.slice (some ⟨pb, po, none⟩) m.snaps.length nc) ∧ W.cell? ⟨w.heap.size + 1, 0 + 1 + 1 + 1 + 1, none⟩ = some (.slice (some ⟨qb, qo, none⟩) m.snaps.length nd) ∧ W.cell? ⟨pb, po + l * 3, none⟩ = some (.string nm) ∧ W.cell? ⟨pb, po + l * 3 + 1, none⟩ = some (.int .i64 sg) ∧ W.cell? ⟨pb, po + l * 3 + 1 + 1, none⟩ = some (.slice ta tt.length tc) ∧ W.cell? ⟨qb, qo + l * 3, none⟩ = some (.string nm) ∧ W.cell? ⟨qb, qo + l * 3 + 1, none⟩ = some (.int .i64 sg) ∧ W.cell? ⟨qb, qo + l * 3 + 1 + 1, none⟩ = some (.slice ua tt.length uc)) := fun W hW => ⟨(hW.cell (p := ⟨w.heap.size, 0 + 1 + 1 + 1 + 1, none⟩) (Array.getElem?_eq_some_iff.1 mA).1).trans c4, (hW.cell (p := ⟨w.heap.size + 1, 0 + 1 + 1 + 1 + 1, none⟩) (Array.getElem?_eq_some_iff.1 mB).1).trans d4, (hW.cell (p := ⟨pb, po + l * 3, none⟩) hpw).trans p0, (hW.cell (p := ⟨pb, po + l * 3 + 1, none⟩) hpw).trans p1, (hW.cell (p := ⟨pb, po + l * 3 + 1 + 1, none⟩) hpw).trans p2, (hW.cell (p := ⟨qb, qo + l * 3, none⟩) hqw).trans q0, (hW.cell (p := ⟨qb, qo + l * 3 + 1, none⟩) hqw).trans q1, (hW.cell (p := ⟨qb, qo + l * 3 + 1 + 1, none⟩) hqw).trans q2⟩
          clear hs mA mB ps qs hps hqs
          go_wp2_with fail
          go_region_held3 (fun W => W.cell? ⟨w.heap.size, 0 + 1 + 1 + 1 + 1, none⟩ = some (.slice (some ⟨pb, po, none⟩) m.snaps.length nc) ∧ W.cell? ⟨w.heap.size + 1, 0 + 1 + 1 + 1 + 1, none⟩ = some (.slice (some ⟨qb, qo, none⟩) m.snaps.length nd) ∧ W.cell? ⟨pb, po + l * 3, none⟩ = some (.string nm) ∧ W.cell? ⟨pb, po + l * 3 + 1, none⟩ = some (.int .i64 sg) ∧ W.cell? ⟨pb, po + l * 3 + 1 + 1, none⟩ = some (.slice ta tt.length tc) ∧ W.cell? ⟨qb, qo + l * 3, none⟩ = some (.string nm) ∧ W.cell? ⟨qb, qo + l * 3 + 1, none⟩ = some (.int .i64 sg) ∧ W.cell? ⟨qb, qo + l * 3 + 1 + 1, none⟩ = some (.slice ua tt.length uc)) (first | exact HK.out _ b3 | exact HK.out _ (to_drew (Below.refl _ _)))
            (first | (go_at_call 22; refine hcall.mono ?_; rintro e w3 ⟨rfl, b3⟩; have b3 := below_drew b3))
          go_wp2_with fail
          go_roundw
          case rel => exact ⟨l + 1, by omega, by go_num, HN.out _ b3⟩
          case measure => simp [intOf]; omega
        · have el : l = m.snaps.length := by omega
          subst el
          go_wp2_with fail
          go_ret
          exact ⟨rfl, hb⟩
theorem sameI_is {w : World} {v u : Value} {m : ImgD} (h : Img w v m) (k : Img w u m) : Calls Try.prog 23 #[v, u] w fun r w' => r = .returned (.bool true) ∧ Below w.heap.size w w' := by
  obtain ⟨ra, rc, sa, sc, fa, fc, na, nc, rfl, h1, h2, h3, h4⟩ := h.parts
  obtain ⟨rb, rd, sb, sd, fb, fd, nb, nd, rfl, k1, k2, k3, k4⟩ := k.parts
  exact sameI_at m ra rc sa sc fa fc na nc rb rd sb sd fb fd nb nd w h1 h2 h3 h4 k1 k2 k3 k4
end Go.Proofs.Ytehleeibgkpjmad
/- The walk of SnapsTells. -/
namespace Go.Proofs.Ytehleeibgkpjmad
open Go.RowKit Go.Shelf
set_option maxRecDepth 20000
set_option linter.unusedVariables false

set_option maxHeartbeats 16000000 in
theorem ntells_at (ra : Option Addr) (rc : Nat) (sa : Option Addr) (sc : Nat) (fa : Option Addr) (fc : Nat) (na : Option Addr) (nc : Nat) (m : ImgD) (nm : ByteArray) (w : World) (h : Img w (.agg #[.int .i64 m.guest, .slice ra m.root.length rc, .slice sa m.slots.length sc, .slice fa m.refs.length fc, .slice na m.snaps.length nc]) m) :
    Calls Try.prog 8 #[.agg #[.int .i64 m.guest, .slice ra m.root.length rc, .slice sa m.slots.length sc, .slice fa m.refs.length fc, .slice na m.snaps.length nc], .string nm] w fun r w' => r = .returned (.bool true) ∧ Below w.heap.size w w' := by
  have hB : Below w.heap.size w (w.alloc (.cells #[.int .i64 m.guest, .slice ra m.root.length rc, .slice sa m.slots.length sc, .slice fa m.refs.length fc, .slice na m.snaps.length nc] 26)) := (Below.refl _ _).alloc (Nat.le_refl _) _
  have mb_m : (w.alloc (.cells #[.int .i64 m.guest, .slice ra m.root.length rc, .slice sa m.slots.length sc, .slice fa m.refs.length fc, .slice na m.snaps.length nc] 26)).heap[w.heap.size]? = some (.cells #[.int .i64 m.guest, .slice ra m.root.length rc, .slice sa m.slots.length sc, .slice fa m.refs.length fc, .slice na m.snaps.length nc] 26) := World.alloc_heap_new _ _
  have I_m := h.below hB
  obtain ⟨MA, hMA⟩ : ∃ X, crM m nm = X := ⟨_, rfl⟩
  obtain ⟨EA, hEA⟩ : ∃ X, crE m nm = X := ⟨_, rfl⟩
  obtain ⟨MB, hMB⟩ : ∃ X, rvM m nm = X := ⟨_, rfl⟩
  obtain ⟨EB, hEB⟩ : ∃ X, pastE m nm = X := ⟨_, rfl⟩
  obtain ⟨MC, hMC⟩ : ∃ X, dlM m nm = X := ⟨_, rfl⟩
  have HA : Hid (crM m nm = MA ∧ crE m nm = EA) := ⟨hMA, hEA⟩
  have HB : Hid (rvM m nm = MB ∧ pastE m nm = EB) := ⟨hMB, hEB⟩
  have HC : Hid (dlM m nm = MC ∧ pastE m nm = EB) := ⟨hMC, hEB⟩
  clear h hMA hEA hMB hEB hMC
  go_enter Try.func8, Try.ntmps8
  obtain ⟨m0, m1, m2, m3, m4⟩ := five mb_m
  have hh_mb_m := Hid_mkN mb_m
  have hh_I_m := Hid_mkN I_m
  have hh_hB := Hid_mkN hB
  clear mb_m I_m hB
  go_wp2_with fail
  clear m0 m1 m2 m3 m4
  have mb_m := hh_mb_m.out
  have I_m := hh_I_m.out
  have hB := hh_hB.out
  clear hh_mb_m hh_I_m hh_hB
  refine (create_is I_m nm HA.out.1 HA.out.2).mono ?_
  intro e w1 hA
  obtain ⟨val, a_r, a_rc, a_s, a_sc, a_f, a_fc, a_n, a_nc, rfl, hO, bb, hI⟩ := hA.open
  dsimp only
  have I_a := hO.img
  rw [hI] at I_a
  clear hA hO hI
  replace mb_m := cells_below mb_m bb (Array.getElem?_eq_some_iff.1 mb_m).1
  replace hB := Below.on hB bb
  replace I_m := I_m.below bb
  clear bb
  replace mb_m := cells_alloc mb_m (.cells #[.int .i64 MA.guest, .slice a_r MA.root.length a_rc, .slice a_s MA.slots.length a_sc, .slice a_f MA.refs.length a_fc, .slice a_n MA.snaps.length a_nc] 26)
  have ba : Below w1.heap.size w1 (w1.alloc (.cells #[.int .i64 MA.guest, .slice a_r MA.root.length a_rc, .slice a_s MA.slots.length a_sc, .slice a_f MA.refs.length a_fc, .slice a_n MA.snaps.length a_nc] 26)) := (Below.refl _ _).alloc (Nat.le_refl _) _
  replace hB := Below.on hB ba
  replace I_m := I_m.below ba
  replace I_a := I_a.below ba
  clear ba
  have mb_a : (w1.alloc (.cells #[.int .i64 MA.guest, .slice a_r MA.root.length a_rc, .slice a_s MA.slots.length a_sc, .slice a_f MA.refs.length a_fc, .slice a_n MA.snaps.length a_nc] 26)).heap[w1.heap.size]? = some (.cells #[.int .i64 MA.guest, .slice a_r MA.root.length a_rc, .slice a_s MA.slots.length a_sc, .slice a_f MA.refs.length a_fc, .slice a_n MA.snaps.length a_nc] 26) := World.alloc_heap_new _ _
  obtain ⟨m0, m1, m2, m3, m4⟩ := five mb_m
  have hh_mb_m := Hid_mkN mb_m
  have hh_mb_a := Hid_mkN mb_a
  have hh_I_m := Hid_mkN I_m
  have hh_I_a := Hid_mkN I_a
  have hh_hB := Hid_mkN hB
  clear mb_m mb_a I_m I_a hB
  go_wp2_with fail
  clear m0 m1 m2 m3 m4
  have mb_m := hh_mb_m.out
  have mb_a := hh_mb_a.out
  have I_m := hh_I_m.out
  have I_a := hh_I_a.out
  have hB := hh_hB.out
  clear hh_mb_m hh_mb_a hh_I_m hh_I_a hh_hB
  refine (revert_is I_m nm HB.out.1 HB.out.2).mono ?_
  intro e w2 hA
  obtain ⟨val, b_r, b_rc, b_s, b_sc, b_f, b_fc, b_n, b_nc, rfl, hO, bb, hI⟩ := hA.open
  dsimp only
  have I_b := hO.img
  rw [hI] at I_b
  clear hA hO hI
  replace mb_m := cells_below mb_m bb (Array.getElem?_eq_some_iff.1 mb_m).1
  replace mb_a := cells_below mb_a bb (Array.getElem?_eq_some_iff.1 mb_a).1
  replace hB := Below.on hB bb
  replace I_m := I_m.below bb
  replace I_a := I_a.below bb
  clear bb
  replace mb_m := cells_alloc mb_m (.cells #[.int .i64 MB.guest, .slice b_r MB.root.length b_rc, .slice b_s MB.slots.length b_sc, .slice b_f MB.refs.length b_fc, .slice b_n MB.snaps.length b_nc] 26)
  replace mb_a := cells_alloc mb_a (.cells #[.int .i64 MB.guest, .slice b_r MB.root.length b_rc, .slice b_s MB.slots.length b_sc, .slice b_f MB.refs.length b_fc, .slice b_n MB.snaps.length b_nc] 26)
  have ba : Below w2.heap.size w2 (w2.alloc (.cells #[.int .i64 MB.guest, .slice b_r MB.root.length b_rc, .slice b_s MB.slots.length b_sc, .slice b_f MB.refs.length b_fc, .slice b_n MB.snaps.length b_nc] 26)) := (Below.refl _ _).alloc (Nat.le_refl _) _
  replace hB := Below.on hB ba
  replace I_m := I_m.below ba
  replace I_a := I_a.below ba
  replace I_b := I_b.below ba
  clear ba
  have mb_b : (w2.alloc (.cells #[.int .i64 MB.guest, .slice b_r MB.root.length b_rc, .slice b_s MB.slots.length b_sc, .slice b_f MB.refs.length b_fc, .slice b_n MB.snaps.length b_nc] 26)).heap[w2.heap.size]? = some (.cells #[.int .i64 MB.guest, .slice b_r MB.root.length b_rc, .slice b_s MB.slots.length b_sc, .slice b_f MB.refs.length b_fc, .slice b_n MB.snaps.length b_nc] 26) := World.alloc_heap_new _ _
  obtain ⟨m0, m1, m2, m3, m4⟩ := five mb_m
  have hh_mb_m := Hid_mkN mb_m
  have hh_mb_a := Hid_mkN mb_a
  have hh_mb_b := Hid_mkN mb_b
  have hh_I_m := Hid_mkN I_m
  have hh_I_a := Hid_mkN I_a
  have hh_I_b := Hid_mkN I_b
  have hh_hB := Hid_mkN hB
  clear mb_m mb_a mb_b I_m I_a I_b hB
  go_wp2_with fail
  clear m0 m1 m2 m3 m4
  have mb_m := hh_mb_m.out
  have mb_a := hh_mb_a.out
  have mb_b := hh_mb_b.out
  have I_m := hh_I_m.out
  have I_a := hh_I_a.out
  have I_b := hh_I_b.out
  have hB := hh_hB.out
  clear hh_mb_m hh_mb_a hh_mb_b hh_I_m hh_I_a hh_I_b hh_hB
  refine (delete_img I_m nm HC.out.1 HC.out.2).mono ?_
  intro e w3 hA
  obtain ⟨val, c_r, c_rc, c_s, c_sc, c_f, c_fc, c_n, c_nc, rfl, hO, bb, hI⟩ := hA.open
  dsimp only
  have I_c := hO.img
  rw [hI] at I_c
  clear hA hO hI
  replace mb_m := cells_below mb_m bb (Array.getElem?_eq_some_iff.1 mb_m).1
  replace mb_a := cells_below mb_a bb (Array.getElem?_eq_some_iff.1 mb_a).1
  replace mb_b := cells_below mb_b bb (Array.getElem?_eq_some_iff.1 mb_b).1
  replace hB := Below.on hB bb
  replace I_m := I_m.below bb
  replace I_a := I_a.below bb
  replace I_b := I_b.below bb
  clear bb
  replace mb_m := cells_alloc mb_m (.cells #[.int .i64 MC.guest, .slice c_r MC.root.length c_rc, .slice c_s MC.slots.length c_sc, .slice c_f MC.refs.length c_fc, .slice c_n MC.snaps.length c_nc] 26)
  replace mb_a := cells_alloc mb_a (.cells #[.int .i64 MC.guest, .slice c_r MC.root.length c_rc, .slice c_s MC.slots.length c_sc, .slice c_f MC.refs.length c_fc, .slice c_n MC.snaps.length c_nc] 26)
  replace mb_b := cells_alloc mb_b (.cells #[.int .i64 MC.guest, .slice c_r MC.root.length c_rc, .slice c_s MC.slots.length c_sc, .slice c_f MC.refs.length c_fc, .slice c_n MC.snaps.length c_nc] 26)
  have ba : Below w3.heap.size w3 (w3.alloc (.cells #[.int .i64 MC.guest, .slice c_r MC.root.length c_rc, .slice c_s MC.slots.length c_sc, .slice c_f MC.refs.length c_fc, .slice c_n MC.snaps.length c_nc] 26)) := (Below.refl _ _).alloc (Nat.le_refl _) _
  replace hB := Below.on hB ba
  replace I_m := I_m.below ba
  replace I_a := I_a.below ba
  replace I_b := I_b.below ba
  replace I_c := I_c.below ba
  clear ba
  have mb_c : (w3.alloc (.cells #[.int .i64 MC.guest, .slice c_r MC.root.length c_rc, .slice c_s MC.slots.length c_sc, .slice c_f MC.refs.length c_fc, .slice c_n MC.snaps.length c_nc] 26)).heap[w3.heap.size]? = some (.cells #[.int .i64 MC.guest, .slice c_r MC.root.length c_rc, .slice c_s MC.slots.length c_sc, .slice c_f MC.refs.length c_fc, .slice c_n MC.snaps.length c_nc] 26) := World.alloc_heap_new _ _
  obtain ⟨m0, m1, m2, m3, m4⟩ := five mb_m
  have hh_mb_m := Hid_mkN mb_m
  have hh_mb_a := Hid_mkN mb_a
  have hh_mb_b := Hid_mkN mb_b
  have hh_mb_c := Hid_mkN mb_c
  have hh_I_m := Hid_mkN I_m
  have hh_I_a := Hid_mkN I_a
  have hh_I_b := Hid_mkN I_b
  have hh_I_c := Hid_mkN I_c
  have hh_hB := Hid_mkN hB
  clear mb_m mb_a mb_b mb_c I_m I_a I_b I_c hB
  go_wp2_with fail
  clear m0 m1 m2 m3 m4
  have mb_m := hh_mb_m.out
  have mb_a := hh_mb_a.out
  have mb_b := hh_mb_b.out
  have mb_c := hh_mb_c.out
  have I_m := hh_I_m.out
  have I_a := hh_I_a.out
  have I_b := hh_I_b.out
  have I_c := hh_I_c.out
  have hB := hh_hB.out
  clear hh_mb_m hh_mb_a hh_mb_b hh_mb_c hh_I_m hh_I_a hh_I_b hh_I_c hh_hB
  refine (noc_is I_m nm HA.out.1 HA.out.2).mono ?_
  rintro e w4 ⟨x_r, x_rc, x_s, x_sc, x_f, x_fc, x_n, x_nc, rfl, hst, bb⟩
  try dsimp only
  have I_x := hst w4 (fun _ _ => rfl)
  clear hst
  replace mb_m := cells_below mb_m bb (Array.getElem?_eq_some_iff.1 mb_m).1
  replace mb_a := cells_below mb_a bb (Array.getElem?_eq_some_iff.1 mb_a).1
  replace mb_b := cells_below mb_b bb (Array.getElem?_eq_some_iff.1 mb_b).1
  replace mb_c := cells_below mb_c bb (Array.getElem?_eq_some_iff.1 mb_c).1
  replace hB := Below.on hB bb
  replace I_m := I_m.below bb
  replace I_a := I_a.below bb
  replace I_b := I_b.below bb
  replace I_c := I_c.below bb
  clear bb
  replace mb_m := cells_alloc mb_m (.cells #[.int .i64 MA.guest, .slice x_r MA.root.length x_rc, .slice x_s MA.slots.length x_sc, .slice x_f MA.refs.length x_fc, .slice x_n MA.snaps.length x_nc] 26)
  replace mb_a := cells_alloc mb_a (.cells #[.int .i64 MA.guest, .slice x_r MA.root.length x_rc, .slice x_s MA.slots.length x_sc, .slice x_f MA.refs.length x_fc, .slice x_n MA.snaps.length x_nc] 26)
  replace mb_b := cells_alloc mb_b (.cells #[.int .i64 MA.guest, .slice x_r MA.root.length x_rc, .slice x_s MA.slots.length x_sc, .slice x_f MA.refs.length x_fc, .slice x_n MA.snaps.length x_nc] 26)
  replace mb_c := cells_alloc mb_c (.cells #[.int .i64 MA.guest, .slice x_r MA.root.length x_rc, .slice x_s MA.slots.length x_sc, .slice x_f MA.refs.length x_fc, .slice x_n MA.snaps.length x_nc] 26)
  have ba : Below w4.heap.size w4 (w4.alloc (.cells #[.int .i64 MA.guest, .slice x_r MA.root.length x_rc, .slice x_s MA.slots.length x_sc, .slice x_f MA.refs.length x_fc, .slice x_n MA.snaps.length x_nc] 26)) := (Below.refl _ _).alloc (Nat.le_refl _) _
  replace hB := Below.on hB ba
  replace I_m := I_m.below ba
  replace I_a := I_a.below ba
  replace I_b := I_b.below ba
  replace I_c := I_c.below ba
  replace I_x := I_x.below ba
  clear ba
  have mb_x : (w4.alloc (.cells #[.int .i64 MA.guest, .slice x_r MA.root.length x_rc, .slice x_s MA.slots.length x_sc, .slice x_f MA.refs.length x_fc, .slice x_n MA.snaps.length x_nc] 26)).heap[w4.heap.size]? = some (.cells #[.int .i64 MA.guest, .slice x_r MA.root.length x_rc, .slice x_s MA.slots.length x_sc, .slice x_f MA.refs.length x_fc, .slice x_n MA.snaps.length x_nc] 26) := World.alloc_heap_new _ _
  obtain ⟨m0, m1, m2, m3, m4⟩ := five mb_m
  have hh_mb_m := Hid_mkN mb_m
  have hh_mb_a := Hid_mkN mb_a
  have hh_mb_b := Hid_mkN mb_b
  have hh_mb_c := Hid_mkN mb_c
  have hh_mb_x := Hid_mkN mb_x
  have hh_I_m := Hid_mkN I_m
  have hh_I_a := Hid_mkN I_a
  have hh_I_b := Hid_mkN I_b
  have hh_I_c := Hid_mkN I_c
  have hh_I_x := Hid_mkN I_x
  have hh_hB := Hid_mkN hB
  clear mb_m mb_a mb_b mb_c mb_x I_m I_a I_b I_c I_x hB
  go_wp2_with fail
  clear m0 m1 m2 m3 m4
  have mb_m := hh_mb_m.out
  have mb_a := hh_mb_a.out
  have mb_b := hh_mb_b.out
  have mb_c := hh_mb_c.out
  have mb_x := hh_mb_x.out
  have I_m := hh_I_m.out
  have I_a := hh_I_a.out
  have I_b := hh_I_b.out
  have I_c := hh_I_c.out
  have I_x := hh_I_x.out
  have hB := hh_hB.out
  clear hh_mb_m hh_mb_a hh_mb_b hh_mb_c hh_mb_x hh_I_m hh_I_a hh_I_b hh_I_c hh_I_x hh_hB
  refine (nor_is I_m nm HB.out.1 HB.out.2).mono ?_
  rintro e w5 ⟨y_r, y_rc, y_s, y_sc, y_f, y_fc, y_n, y_nc, rfl, hst, bb⟩
  try dsimp only
  have I_y := hst w5 (fun _ _ => rfl)
  clear hst
  replace mb_m := cells_below mb_m bb (Array.getElem?_eq_some_iff.1 mb_m).1
  replace mb_a := cells_below mb_a bb (Array.getElem?_eq_some_iff.1 mb_a).1
  replace mb_b := cells_below mb_b bb (Array.getElem?_eq_some_iff.1 mb_b).1
  replace mb_c := cells_below mb_c bb (Array.getElem?_eq_some_iff.1 mb_c).1
  replace mb_x := cells_below mb_x bb (Array.getElem?_eq_some_iff.1 mb_x).1
  replace hB := Below.on hB bb
  replace I_m := I_m.below bb
  replace I_a := I_a.below bb
  replace I_b := I_b.below bb
  replace I_c := I_c.below bb
  replace I_x := I_x.below bb
  clear bb
  replace mb_m := cells_alloc mb_m (.cells #[.int .i64 MB.guest, .slice y_r MB.root.length y_rc, .slice y_s MB.slots.length y_sc, .slice y_f MB.refs.length y_fc, .slice y_n MB.snaps.length y_nc] 26)
  replace mb_a := cells_alloc mb_a (.cells #[.int .i64 MB.guest, .slice y_r MB.root.length y_rc, .slice y_s MB.slots.length y_sc, .slice y_f MB.refs.length y_fc, .slice y_n MB.snaps.length y_nc] 26)
  replace mb_b := cells_alloc mb_b (.cells #[.int .i64 MB.guest, .slice y_r MB.root.length y_rc, .slice y_s MB.slots.length y_sc, .slice y_f MB.refs.length y_fc, .slice y_n MB.snaps.length y_nc] 26)
  replace mb_c := cells_alloc mb_c (.cells #[.int .i64 MB.guest, .slice y_r MB.root.length y_rc, .slice y_s MB.slots.length y_sc, .slice y_f MB.refs.length y_fc, .slice y_n MB.snaps.length y_nc] 26)
  replace mb_x := cells_alloc mb_x (.cells #[.int .i64 MB.guest, .slice y_r MB.root.length y_rc, .slice y_s MB.slots.length y_sc, .slice y_f MB.refs.length y_fc, .slice y_n MB.snaps.length y_nc] 26)
  have ba : Below w5.heap.size w5 (w5.alloc (.cells #[.int .i64 MB.guest, .slice y_r MB.root.length y_rc, .slice y_s MB.slots.length y_sc, .slice y_f MB.refs.length y_fc, .slice y_n MB.snaps.length y_nc] 26)) := (Below.refl _ _).alloc (Nat.le_refl _) _
  replace hB := Below.on hB ba
  replace I_m := I_m.below ba
  replace I_a := I_a.below ba
  replace I_b := I_b.below ba
  replace I_c := I_c.below ba
  replace I_x := I_x.below ba
  replace I_y := I_y.below ba
  clear ba
  have mb_y : (w5.alloc (.cells #[.int .i64 MB.guest, .slice y_r MB.root.length y_rc, .slice y_s MB.slots.length y_sc, .slice y_f MB.refs.length y_fc, .slice y_n MB.snaps.length y_nc] 26)).heap[w5.heap.size]? = some (.cells #[.int .i64 MB.guest, .slice y_r MB.root.length y_rc, .slice y_s MB.slots.length y_sc, .slice y_f MB.refs.length y_fc, .slice y_n MB.snaps.length y_nc] 26) := World.alloc_heap_new _ _
  obtain ⟨m0, m1, m2, m3, m4⟩ := five mb_m
  have hh_mb_m := Hid_mkN mb_m
  have hh_mb_a := Hid_mkN mb_a
  have hh_mb_b := Hid_mkN mb_b
  have hh_mb_c := Hid_mkN mb_c
  have hh_mb_x := Hid_mkN mb_x
  have hh_mb_y := Hid_mkN mb_y
  have hh_I_m := Hid_mkN I_m
  have hh_I_a := Hid_mkN I_a
  have hh_I_b := Hid_mkN I_b
  have hh_I_c := Hid_mkN I_c
  have hh_I_x := Hid_mkN I_x
  have hh_I_y := Hid_mkN I_y
  have hh_hB := Hid_mkN hB
  clear mb_m mb_a mb_b mb_c mb_x mb_y I_m I_a I_b I_c I_x I_y hB
  go_wp2_with fail
  clear m0 m1 m2 m3 m4
  have mb_m := hh_mb_m.out
  have mb_a := hh_mb_a.out
  have mb_b := hh_mb_b.out
  have mb_c := hh_mb_c.out
  have mb_x := hh_mb_x.out
  have mb_y := hh_mb_y.out
  have I_m := hh_I_m.out
  have I_a := hh_I_a.out
  have I_b := hh_I_b.out
  have I_c := hh_I_c.out
  have I_x := hh_I_x.out
  have I_y := hh_I_y.out
  have hB := hh_hB.out
  clear hh_mb_m hh_mb_a hh_mb_b hh_mb_c hh_mb_x hh_mb_y hh_I_m hh_I_a hh_I_b hh_I_c hh_I_x hh_I_y hh_hB
  refine (nod_is I_m nm HC.out.1 HC.out.2).mono ?_
  rintro e w6 ⟨z_r, z_rc, z_s, z_sc, z_f, z_fc, z_n, z_nc, rfl, hst, bb⟩
  try dsimp only
  have I_z := hst w6 (fun _ _ => rfl)
  clear hst
  replace mb_m := cells_below mb_m bb (Array.getElem?_eq_some_iff.1 mb_m).1
  replace mb_a := cells_below mb_a bb (Array.getElem?_eq_some_iff.1 mb_a).1
  replace mb_b := cells_below mb_b bb (Array.getElem?_eq_some_iff.1 mb_b).1
  replace mb_c := cells_below mb_c bb (Array.getElem?_eq_some_iff.1 mb_c).1
  replace mb_x := cells_below mb_x bb (Array.getElem?_eq_some_iff.1 mb_x).1
  replace mb_y := cells_below mb_y bb (Array.getElem?_eq_some_iff.1 mb_y).1
  replace hB := Below.on hB bb
  replace I_m := I_m.below bb
  replace I_a := I_a.below bb
  replace I_b := I_b.below bb
  replace I_c := I_c.below bb
  replace I_x := I_x.below bb
  replace I_y := I_y.below bb
  clear bb
  replace mb_m := cells_alloc mb_m (.cells #[.int .i64 MC.guest, .slice z_r MC.root.length z_rc, .slice z_s MC.slots.length z_sc, .slice z_f MC.refs.length z_fc, .slice z_n MC.snaps.length z_nc] 26)
  replace mb_a := cells_alloc mb_a (.cells #[.int .i64 MC.guest, .slice z_r MC.root.length z_rc, .slice z_s MC.slots.length z_sc, .slice z_f MC.refs.length z_fc, .slice z_n MC.snaps.length z_nc] 26)
  replace mb_b := cells_alloc mb_b (.cells #[.int .i64 MC.guest, .slice z_r MC.root.length z_rc, .slice z_s MC.slots.length z_sc, .slice z_f MC.refs.length z_fc, .slice z_n MC.snaps.length z_nc] 26)
  replace mb_c := cells_alloc mb_c (.cells #[.int .i64 MC.guest, .slice z_r MC.root.length z_rc, .slice z_s MC.slots.length z_sc, .slice z_f MC.refs.length z_fc, .slice z_n MC.snaps.length z_nc] 26)
  replace mb_x := cells_alloc mb_x (.cells #[.int .i64 MC.guest, .slice z_r MC.root.length z_rc, .slice z_s MC.slots.length z_sc, .slice z_f MC.refs.length z_fc, .slice z_n MC.snaps.length z_nc] 26)
  replace mb_y := cells_alloc mb_y (.cells #[.int .i64 MC.guest, .slice z_r MC.root.length z_rc, .slice z_s MC.slots.length z_sc, .slice z_f MC.refs.length z_fc, .slice z_n MC.snaps.length z_nc] 26)
  have ba : Below w6.heap.size w6 (w6.alloc (.cells #[.int .i64 MC.guest, .slice z_r MC.root.length z_rc, .slice z_s MC.slots.length z_sc, .slice z_f MC.refs.length z_fc, .slice z_n MC.snaps.length z_nc] 26)) := (Below.refl _ _).alloc (Nat.le_refl _) _
  replace hB := Below.on hB ba
  replace I_m := I_m.below ba
  replace I_a := I_a.below ba
  replace I_b := I_b.below ba
  replace I_c := I_c.below ba
  replace I_x := I_x.below ba
  replace I_y := I_y.below ba
  replace I_z := I_z.below ba
  clear ba
  have mb_z : (w6.alloc (.cells #[.int .i64 MC.guest, .slice z_r MC.root.length z_rc, .slice z_s MC.slots.length z_sc, .slice z_f MC.refs.length z_fc, .slice z_n MC.snaps.length z_nc] 26)).heap[w6.heap.size]? = some (.cells #[.int .i64 MC.guest, .slice z_r MC.root.length z_rc, .slice z_s MC.slots.length z_sc, .slice z_f MC.refs.length z_fc, .slice z_n MC.snaps.length z_nc] 26) := World.alloc_heap_new _ _
  clear mb_m
  clear I_m
  have hh_mb_a := Hid_mkN mb_a
  have hh_mb_b := Hid_mkN mb_b
  have hh_mb_c := Hid_mkN mb_c
  have hh_mb_x := Hid_mkN mb_x
  have hh_mb_y := Hid_mkN mb_y
  have hh_mb_z := Hid_mkN mb_z
  have hh_I_a := Hid_mkN I_a
  have hh_I_b := Hid_mkN I_b
  have hh_I_c := Hid_mkN I_c
  have hh_I_x := Hid_mkN I_x
  have hh_I_y := Hid_mkN I_y
  have hh_I_z := Hid_mkN I_z
  have hh_hB := Hid_mkN hB
  clear mb_a mb_b mb_c mb_x mb_y mb_z I_a I_b I_c I_x I_y I_z hB
  go_wp2_with fail
  have mb_a := hh_mb_a.out
  have mb_b := hh_mb_b.out
  have mb_c := hh_mb_c.out
  have mb_x := hh_mb_x.out
  have mb_y := hh_mb_y.out
  have mb_z := hh_mb_z.out
  have I_a := hh_I_a.out
  have I_b := hh_I_b.out
  have I_c := hh_I_c.out
  have I_x := hh_I_x.out
  have I_y := hh_I_y.out
  have I_z := hh_I_z.out
  have hB := hh_hB.out
  clear hh_mb_a hh_mb_b hh_mb_c hh_mb_x hh_mb_y hh_mb_z hh_I_a hh_I_b hh_I_c hh_I_x hh_I_y hh_I_z hh_hB
  refine (snapsBegun_any _).mono ?_
  rintro e w7 ⟨rfl, bb⟩
  replace mb_a := cells_below mb_a bb (Array.getElem?_eq_some_iff.1 mb_a).1
  replace mb_b := cells_below mb_b bb (Array.getElem?_eq_some_iff.1 mb_b).1
  replace mb_c := cells_below mb_c bb (Array.getElem?_eq_some_iff.1 mb_c).1
  replace mb_x := cells_below mb_x bb (Array.getElem?_eq_some_iff.1 mb_x).1
  replace mb_y := cells_below mb_y bb (Array.getElem?_eq_some_iff.1 mb_y).1
  replace mb_z := cells_below mb_z bb (Array.getElem?_eq_some_iff.1 mb_z).1
  replace hB := Below.on hB bb
  replace I_a := I_a.below bb
  replace I_b := I_b.below bb
  replace I_c := I_c.below bb
  replace I_x := I_x.below bb
  replace I_y := I_y.below bb
  replace I_z := I_z.below bb
  clear bb
  obtain ⟨a0, a1, a2, a3, a4⟩ := five mb_a
  obtain ⟨x0, x1, x2, x3, x4⟩ := five mb_x
  have hh_mb_a := Hid_mkN mb_a
  have hh_mb_b := Hid_mkN mb_b
  have hh_mb_c := Hid_mkN mb_c
  have hh_mb_x := Hid_mkN mb_x
  have hh_mb_y := Hid_mkN mb_y
  have hh_mb_z := Hid_mkN mb_z
  have hh_I_a := Hid_mkN I_a
  have hh_I_b := Hid_mkN I_b
  have hh_I_c := Hid_mkN I_c
  have hh_I_x := Hid_mkN I_x
  have hh_I_y := Hid_mkN I_y
  have hh_I_z := Hid_mkN I_z
  have hh_hB := Hid_mkN hB
  clear mb_a mb_b mb_c mb_x mb_y mb_z I_a I_b I_c I_x I_y I_z hB
  go_wp2_with fail
  clear a0 a1 a2 a3 a4 x0 x1 x2 x3 x4
  have mb_a := hh_mb_a.out
  have mb_b := hh_mb_b.out
  have mb_c := hh_mb_c.out
  have mb_x := hh_mb_x.out
  have mb_y := hh_mb_y.out
  have mb_z := hh_mb_z.out
  have I_a := hh_I_a.out
  have I_b := hh_I_b.out
  have I_c := hh_I_c.out
  have I_x := hh_I_x.out
  have I_y := hh_I_y.out
  have I_z := hh_I_z.out
  have hB := hh_hB.out
  clear hh_mb_a hh_mb_b hh_mb_c hh_mb_x hh_mb_y hh_mb_z hh_I_a hh_I_b hh_I_c hh_I_x hh_I_y hh_I_z hh_hB
  refine (sameI_is I_a I_x).mono ?_
  rintro e w8 ⟨rfl, bb⟩
  replace mb_a := cells_below mb_a bb (Array.getElem?_eq_some_iff.1 mb_a).1
  replace mb_b := cells_below mb_b bb (Array.getElem?_eq_some_iff.1 mb_b).1
  replace mb_c := cells_below mb_c bb (Array.getElem?_eq_some_iff.1 mb_c).1
  replace mb_x := cells_below mb_x bb (Array.getElem?_eq_some_iff.1 mb_x).1
  replace mb_y := cells_below mb_y bb (Array.getElem?_eq_some_iff.1 mb_y).1
  replace mb_z := cells_below mb_z bb (Array.getElem?_eq_some_iff.1 mb_z).1
  replace hB := Below.on hB bb
  replace I_a := I_a.below bb
  replace I_b := I_b.below bb
  replace I_c := I_c.below bb
  replace I_x := I_x.below bb
  replace I_y := I_y.below bb
  replace I_z := I_z.below bb
  clear bb
  clear mb_a
  clear I_a
  clear mb_x
  clear I_x
  obtain ⟨b0, b1, b2, b3, b4⟩ := five mb_b
  obtain ⟨y0, y1, y2, y3, y4⟩ := five mb_y
  have hh_mb_b := Hid_mkN mb_b
  have hh_mb_c := Hid_mkN mb_c
  have hh_mb_y := Hid_mkN mb_y
  have hh_mb_z := Hid_mkN mb_z
  have hh_I_b := Hid_mkN I_b
  have hh_I_c := Hid_mkN I_c
  have hh_I_y := Hid_mkN I_y
  have hh_I_z := Hid_mkN I_z
  have hh_hB := Hid_mkN hB
  clear mb_b mb_c mb_y mb_z I_b I_c I_y I_z hB
  go_wp2_with fail
  clear b0 b1 b2 b3 b4 y0 y1 y2 y3 y4
  have mb_b := hh_mb_b.out
  have mb_c := hh_mb_c.out
  have mb_y := hh_mb_y.out
  have mb_z := hh_mb_z.out
  have I_b := hh_I_b.out
  have I_c := hh_I_c.out
  have I_y := hh_I_y.out
  have I_z := hh_I_z.out
  have hB := hh_hB.out
  clear hh_mb_b hh_mb_c hh_mb_y hh_mb_z hh_I_b hh_I_c hh_I_y hh_I_z hh_hB
  refine (sameI_is I_b I_y).mono ?_
  rintro e w9 ⟨rfl, bb⟩
  replace mb_b := cells_below mb_b bb (Array.getElem?_eq_some_iff.1 mb_b).1
  replace mb_c := cells_below mb_c bb (Array.getElem?_eq_some_iff.1 mb_c).1
  replace mb_y := cells_below mb_y bb (Array.getElem?_eq_some_iff.1 mb_y).1
  replace mb_z := cells_below mb_z bb (Array.getElem?_eq_some_iff.1 mb_z).1
  replace hB := Below.on hB bb
  replace I_b := I_b.below bb
  replace I_c := I_c.below bb
  replace I_y := I_y.below bb
  replace I_z := I_z.below bb
  clear bb
  clear mb_b
  clear I_b
  clear mb_y
  clear I_y
  obtain ⟨c0, c1, c2, c3, c4⟩ := five mb_c
  obtain ⟨z0, z1, z2, z3, z4⟩ := five mb_z
  have hh_mb_c := Hid_mkN mb_c
  have hh_mb_z := Hid_mkN mb_z
  have hh_I_c := Hid_mkN I_c
  have hh_I_z := Hid_mkN I_z
  have hh_hB := Hid_mkN hB
  clear mb_c mb_z I_c I_z hB
  go_wp2_with fail
  clear c0 c1 c2 c3 c4 z0 z1 z2 z3 z4
  have mb_c := hh_mb_c.out
  have mb_z := hh_mb_z.out
  have I_c := hh_I_c.out
  have I_z := hh_I_z.out
  have hB := hh_hB.out
  clear hh_mb_c hh_mb_z hh_I_c hh_I_z hh_hB
  refine (sameI_is I_c I_z).mono ?_
  rintro e w10 ⟨rfl, bb⟩
  replace mb_c := cells_below mb_c bb (Array.getElem?_eq_some_iff.1 mb_c).1
  replace mb_z := cells_below mb_z bb (Array.getElem?_eq_some_iff.1 mb_z).1
  replace hB := Below.on hB bb
  replace I_c := I_c.below bb
  replace I_z := I_z.below bb
  clear bb
  have hh_mb_c := Hid_mkN mb_c
  have hh_mb_z := Hid_mkN mb_z
  have hh_I_c := Hid_mkN I_c
  have hh_I_z := Hid_mkN I_z
  have hh_hB := Hid_mkN hB
  clear mb_c mb_z I_c I_z hB
  go_wp2_with fail
  go_ret
  have hB := hh_hB.out
  exact ⟨rfl, hB⟩

theorem ntells_is {v : Value} {m : ImgD} {w : World} (h : Img w v m) (nm : ByteArray) : Calls Try.prog 8 #[v, .string nm] w fun r w' => r = .returned (.bool true) ∧ Below w.heap.size w w' := by
  have h' := h
  obtain ⟨ra, rc, sa, sc, fa, fc, na, nc, rfl, h1, h2, h3, h4⟩ := h.parts
  exact ntells_at ra rc sa sc fa fc na nc m nm w h'
end Go.Proofs.Ytehleeibgkpjmad
