/- Texts joined: WrRz, WrB, RefF, Pair, PDec, SameInts, WBegun. -/
import Derived.Test.YtehleeibgkpjmadWritesRightJ8
import Derived.Test.YtehleeibgkpjmadWritesRightJ4
import Derived.Test.YtehleeibgkpjmadWritesRightJ3
import Derived.Test.YtehleeibgkpjmadWritesRightJ1
import Derived.Deep.QuietTactic
import Derived.BigQuiet
/- Contracts of writing: Resize. -/
namespace Go.Proofs.Ytehleeibgkpjmad
open Go.RowKit Go.Shelf
set_option maxRecDepth 20000
set_option linter.unusedVariables false

set_option maxHeartbeats 4000000 in
theorem resize_bad_at (m : ImgD) (ra : Option Addr) (rn rc : Nat) (sa : Option Addr) (sn sc : Nat) (fa : Option Addr) (fn fc : Nat) (na : Option Addr) (nn nc : Nat) (g : Int) (E : Int) (w : World) (h : Img w (.agg #[.int .i64 m.guest, .slice ra rn rc, .slice sa sn sc, .slice fa fn fc, .slice na nn nc]) m) (hE : checkE m = E) (hne : (E != 0) = true) :
    Calls Try.prog 12 #[.agg #[.int .i64 m.guest, .slice ra rn rc, .slice sa sn sc, .slice fa fn fc, .slice na nn nc], .int .i64 g] w (AnsI w w.heap.size imgZ E) := by
  have b0 : Below w.heap.size w (((w.alloc (.cells #[.int .i64 m.guest, .slice ra rn rc, .slice sa sn sc, .slice fa fn fc, .slice na nn nc] 26)).alloc (.cells #[.int .i64 g] 3)).alloc (.cells #[.int .i64 0, .slice none 0 0, .slice none 0 0, .slice none 0 0, .slice none 0 0] 26)) := (((Below.refl _ _).alloc (by simp; try omega) _).alloc (by simp; try omega) _).alloc (by simp; try omega) _
  have q0 : (w.alloc (.cells #[.int .i64 m.guest, .slice ra rn rc, .slice sa sn sc, .slice fa fn fc, .slice na nn nc] 26)).heap[w.heap.size]? = some (.cells #[.int .i64 m.guest, .slice ra rn rc, .slice sa sn sc, .slice fa fn fc, .slice na nn nc] 26) := by have := World.alloc_heap_new w (.cells #[.int .i64 m.guest, .slice ra rn rc, .slice sa sn sc, .slice fa fn fc, .slice na nn nc] 26); simpa using this
  have m0 : (((w.alloc (.cells #[.int .i64 m.guest, .slice ra rn rc, .slice sa sn sc, .slice fa fn fc, .slice na nn nc] 26)).alloc (.cells #[.int .i64 g] 3)).alloc (.cells #[.int .i64 0, .slice none 0 0, .slice none 0 0, .slice none 0 0, .slice none 0 0] 26)).heap[w.heap.size]? = some (.cells #[.int .i64 m.guest, .slice ra rn rc, .slice sa sn sc, .slice fa fn fc, .slice na nn nc] 26) := (cells_alloc (cells_alloc q0 _) _)
  have q1 : ((w.alloc (.cells #[.int .i64 m.guest, .slice ra rn rc, .slice sa sn sc, .slice fa fn fc, .slice na nn nc] 26)).alloc (.cells #[.int .i64 g] 3)).heap[w.heap.size + 1]? = some (.cells #[.int .i64 g] 3) := by have := World.alloc_heap_new (w.alloc (.cells #[.int .i64 m.guest, .slice ra rn rc, .slice sa sn sc, .slice fa fn fc, .slice na nn nc] 26)) (.cells #[.int .i64 g] 3); simpa using this
  have m1 : (((w.alloc (.cells #[.int .i64 m.guest, .slice ra rn rc, .slice sa sn sc, .slice fa fn fc, .slice na nn nc] 26)).alloc (.cells #[.int .i64 g] 3)).alloc (.cells #[.int .i64 0, .slice none 0 0, .slice none 0 0, .slice none 0 0, .slice none 0 0] 26)).heap[w.heap.size + 1]? = some (.cells #[.int .i64 g] 3) := (cells_alloc q1 _)
  have q2 : (((w.alloc (.cells #[.int .i64 m.guest, .slice ra rn rc, .slice sa sn sc, .slice fa fn fc, .slice na nn nc] 26)).alloc (.cells #[.int .i64 g] 3)).alloc (.cells #[.int .i64 0, .slice none 0 0, .slice none 0 0, .slice none 0 0, .slice none 0 0] 26)).heap[w.heap.size + 1 + 1]? = some (.cells #[.int .i64 0, .slice none 0 0, .slice none 0 0, .slice none 0 0, .slice none 0 0] 26) := by have := World.alloc_heap_new ((w.alloc (.cells #[.int .i64 m.guest, .slice ra rn rc, .slice sa sn sc, .slice fa fn fc, .slice na nn nc] 26)).alloc (.cells #[.int .i64 g] 3)) (.cells #[.int .i64 0, .slice none 0 0, .slice none 0 0, .slice none 0 0, .slice none 0 0] 26); simpa using this
  have m2 : (((w.alloc (.cells #[.int .i64 m.guest, .slice ra rn rc, .slice sa sn sc, .slice fa fn fc, .slice na nn nc] 26)).alloc (.cells #[.int .i64 g] 3)).alloc (.cells #[.int .i64 0, .slice none 0 0, .slice none 0 0, .slice none 0 0, .slice none 0 0] 26)).heap[w.heap.size + 1 + 1]? = some (.cells #[.int .i64 0, .slice none 0 0, .slice none 0 0, .slice none 0 0, .slice none 0 0] 26) := q2
  have hz : (((w.alloc (.cells #[.int .i64 m.guest, .slice ra rn rc, .slice sa sn sc, .slice fa fn fc, .slice na nn nc] 26)).alloc (.cells #[.int .i64 g] 3)).alloc (.cells #[.int .i64 0, .slice none 0 0, .slice none 0 0, .slice none 0 0, .slice none 0 0] 26)).heap.size = w.heap.size + 1 + 1 + 1 := by simp
  clear q0 q1 q2
  have hchk := tcheck_is (h.below b0) hE
  obtain ⟨c0, c1, c2, c3, c4⟩ := five m0
  have HM : Hid ((((w.alloc (.cells #[.int .i64 m.guest, .slice ra rn rc, .slice sa sn sc, .slice fa fn fc, .slice na nn nc] 26)).alloc (.cells #[.int .i64 g] 3)).alloc (.cells #[.int .i64 0, .slice none 0 0, .slice none 0 0, .slice none 0 0, .slice none 0 0] 26)).heap[w.heap.size + 1 + 1]? = some (.cells #[.int .i64 0, .slice none 0 0, .slice none 0 0, .slice none 0 0, .slice none 0 0] 26) ∧ Below w.heap.size w (((w.alloc (.cells #[.int .i64 m.guest, .slice ra rn rc, .slice sa sn sc, .slice fa fn fc, .slice na nn nc] 26)).alloc (.cells #[.int .i64 g] 3)).alloc (.cells #[.int .i64 0, .slice none 0 0, .slice none 0 0, .slice none 0 0, .slice none 0 0] 26)) ∧ (((w.alloc (.cells #[.int .i64 m.guest, .slice ra rn rc, .slice sa sn sc, .slice fa fn fc, .slice na nn nc] 26)).alloc (.cells #[.int .i64 g] 3)).alloc (.cells #[.int .i64 0, .slice none 0 0, .slice none 0 0, .slice none 0 0, .slice none 0 0] 26)).heap.size = w.heap.size + 1 + 1 + 1 ∧ (((w.alloc (.cells #[.int .i64 m.guest, .slice ra rn rc, .slice sa sn sc, .slice fa fn fc, .slice na nn nc] 26)).alloc (.cells #[.int .i64 g] 3)).alloc (.cells #[.int .i64 0, .slice none 0 0, .slice none 0 0, .slice none 0 0, .slice none 0 0] 26)).heap[w.heap.size + 1]? = some (.cells #[.int .i64 g] 3)) := ⟨m2, b0, hz, m1⟩
  clear h m0 m1 m2 hz b0 hE
  go_enter Try.func12, Try.ntmps12
  go_wp2_with (go_at_call 13; refine hchk.mono ?_; rintro e w1 ⟨rfl, b1⟩; have k3 := cells_below HM.out.1 b1 (by rw [HM.out.2.2.1]; omega); obtain ⟨z0, z1, z2, z3, z4⟩ := five k3; have y0 := cells_frozen k3 0; have y1 := cells_frozen k3 1; have y2 := cells_frozen k3 2; have y3 := cells_frozen k3 3; have y4 := cells_frozen k3 4; have cn := one (cells_below HM.out.2.2.2 b1 (by rw [HM.out.2.2.1]; omega)); have HB : Hid (Below w.heap.size w w1) := Below.on HM.out.2.1 b1; clear b1 k3)
  have i1 : w.heap.size ≤ w.heap.size + 1 + 1 := by omega
  refine bodyPost_ret (v := .tuple #[.agg #[.int .i64 0, .slice none 0 0, .slice none 0 0, .slice none 0 0, .slice none 0 0], .int .i64 E]) (by simp [results, Try.results12, go_sem, z0, z1, z2, z3, z4]) rfl (AnsI.bad E (((((HB.out.setCell i1 _).setCell i1 _).setCell i1 _).setCell i1 _).setCell i1 _))

set_option maxHeartbeats 4000000 in
theorem resize_neg_at (m : ImgD) (ra : Option Addr) (rn rc : Nat) (sa : Option Addr) (sn sc : Nat) (fa : Option Addr) (fn fc : Nat) (na : Option Addr) (nn nc : Nat) (g : Int)  (w : World) (h : Img w (.agg #[.int .i64 m.guest, .slice ra rn rc, .slice sa sn sc, .slice fa fn fc, .slice na nn nc]) m) (hE : checkE m = 0) (hg : g < 0) :
    Calls Try.prog 12 #[.agg #[.int .i64 m.guest, .slice ra rn rc, .slice sa sn sc, .slice fa fn fc, .slice na nn nc], .int .i64 g] w (AnsI w w.heap.size imgZ 3) := by
  have b0 : Below w.heap.size w (((w.alloc (.cells #[.int .i64 m.guest, .slice ra rn rc, .slice sa sn sc, .slice fa fn fc, .slice na nn nc] 26)).alloc (.cells #[.int .i64 g] 3)).alloc (.cells #[.int .i64 0, .slice none 0 0, .slice none 0 0, .slice none 0 0, .slice none 0 0] 26)) := (((Below.refl _ _).alloc (by simp; try omega) _).alloc (by simp; try omega) _).alloc (by simp; try omega) _
  have q0 : (w.alloc (.cells #[.int .i64 m.guest, .slice ra rn rc, .slice sa sn sc, .slice fa fn fc, .slice na nn nc] 26)).heap[w.heap.size]? = some (.cells #[.int .i64 m.guest, .slice ra rn rc, .slice sa sn sc, .slice fa fn fc, .slice na nn nc] 26) := by have := World.alloc_heap_new w (.cells #[.int .i64 m.guest, .slice ra rn rc, .slice sa sn sc, .slice fa fn fc, .slice na nn nc] 26); simpa using this
  have m0 : (((w.alloc (.cells #[.int .i64 m.guest, .slice ra rn rc, .slice sa sn sc, .slice fa fn fc, .slice na nn nc] 26)).alloc (.cells #[.int .i64 g] 3)).alloc (.cells #[.int .i64 0, .slice none 0 0, .slice none 0 0, .slice none 0 0, .slice none 0 0] 26)).heap[w.heap.size]? = some (.cells #[.int .i64 m.guest, .slice ra rn rc, .slice sa sn sc, .slice fa fn fc, .slice na nn nc] 26) := (cells_alloc (cells_alloc q0 _) _)
  have q1 : ((w.alloc (.cells #[.int .i64 m.guest, .slice ra rn rc, .slice sa sn sc, .slice fa fn fc, .slice na nn nc] 26)).alloc (.cells #[.int .i64 g] 3)).heap[w.heap.size + 1]? = some (.cells #[.int .i64 g] 3) := by have := World.alloc_heap_new (w.alloc (.cells #[.int .i64 m.guest, .slice ra rn rc, .slice sa sn sc, .slice fa fn fc, .slice na nn nc] 26)) (.cells #[.int .i64 g] 3); simpa using this
  have m1 : (((w.alloc (.cells #[.int .i64 m.guest, .slice ra rn rc, .slice sa sn sc, .slice fa fn fc, .slice na nn nc] 26)).alloc (.cells #[.int .i64 g] 3)).alloc (.cells #[.int .i64 0, .slice none 0 0, .slice none 0 0, .slice none 0 0, .slice none 0 0] 26)).heap[w.heap.size + 1]? = some (.cells #[.int .i64 g] 3) := (cells_alloc q1 _)
  have q2 : (((w.alloc (.cells #[.int .i64 m.guest, .slice ra rn rc, .slice sa sn sc, .slice fa fn fc, .slice na nn nc] 26)).alloc (.cells #[.int .i64 g] 3)).alloc (.cells #[.int .i64 0, .slice none 0 0, .slice none 0 0, .slice none 0 0, .slice none 0 0] 26)).heap[w.heap.size + 1 + 1]? = some (.cells #[.int .i64 0, .slice none 0 0, .slice none 0 0, .slice none 0 0, .slice none 0 0] 26) := by have := World.alloc_heap_new ((w.alloc (.cells #[.int .i64 m.guest, .slice ra rn rc, .slice sa sn sc, .slice fa fn fc, .slice na nn nc] 26)).alloc (.cells #[.int .i64 g] 3)) (.cells #[.int .i64 0, .slice none 0 0, .slice none 0 0, .slice none 0 0, .slice none 0 0] 26); simpa using this
  have m2 : (((w.alloc (.cells #[.int .i64 m.guest, .slice ra rn rc, .slice sa sn sc, .slice fa fn fc, .slice na nn nc] 26)).alloc (.cells #[.int .i64 g] 3)).alloc (.cells #[.int .i64 0, .slice none 0 0, .slice none 0 0, .slice none 0 0, .slice none 0 0] 26)).heap[w.heap.size + 1 + 1]? = some (.cells #[.int .i64 0, .slice none 0 0, .slice none 0 0, .slice none 0 0, .slice none 0 0] 26) := q2
  have hz : (((w.alloc (.cells #[.int .i64 m.guest, .slice ra rn rc, .slice sa sn sc, .slice fa fn fc, .slice na nn nc] 26)).alloc (.cells #[.int .i64 g] 3)).alloc (.cells #[.int .i64 0, .slice none 0 0, .slice none 0 0, .slice none 0 0, .slice none 0 0] 26)).heap.size = w.heap.size + 1 + 1 + 1 := by simp
  clear q0 q1 q2
  have g1 : decide (g < 0) = true := by simp [hg]
  have hchk := tcheck_is (h.below b0) hE
  obtain ⟨c0, c1, c2, c3, c4⟩ := five m0
  have HM : Hid ((((w.alloc (.cells #[.int .i64 m.guest, .slice ra rn rc, .slice sa sn sc, .slice fa fn fc, .slice na nn nc] 26)).alloc (.cells #[.int .i64 g] 3)).alloc (.cells #[.int .i64 0, .slice none 0 0, .slice none 0 0, .slice none 0 0, .slice none 0 0] 26)).heap[w.heap.size + 1 + 1]? = some (.cells #[.int .i64 0, .slice none 0 0, .slice none 0 0, .slice none 0 0, .slice none 0 0] 26) ∧ Below w.heap.size w (((w.alloc (.cells #[.int .i64 m.guest, .slice ra rn rc, .slice sa sn sc, .slice fa fn fc, .slice na nn nc] 26)).alloc (.cells #[.int .i64 g] 3)).alloc (.cells #[.int .i64 0, .slice none 0 0, .slice none 0 0, .slice none 0 0, .slice none 0 0] 26)) ∧ (((w.alloc (.cells #[.int .i64 m.guest, .slice ra rn rc, .slice sa sn sc, .slice fa fn fc, .slice na nn nc] 26)).alloc (.cells #[.int .i64 g] 3)).alloc (.cells #[.int .i64 0, .slice none 0 0, .slice none 0 0, .slice none 0 0, .slice none 0 0] 26)).heap.size = w.heap.size + 1 + 1 + 1 ∧ (((w.alloc (.cells #[.int .i64 m.guest, .slice ra rn rc, .slice sa sn sc, .slice fa fn fc, .slice na nn nc] 26)).alloc (.cells #[.int .i64 g] 3)).alloc (.cells #[.int .i64 0, .slice none 0 0, .slice none 0 0, .slice none 0 0, .slice none 0 0] 26)).heap[w.heap.size + 1]? = some (.cells #[.int .i64 g] 3)) := ⟨m2, b0, hz, m1⟩
  clear h m0 m1 m2 hz b0 hE
  go_enter Try.func12, Try.ntmps12
  go_wp2_with (go_at_call 13; refine hchk.mono ?_; rintro e w1 ⟨rfl, b1⟩; have k3 := cells_below HM.out.1 b1 (by rw [HM.out.2.2.1]; omega); obtain ⟨z0, z1, z2, z3, z4⟩ := five k3; have y0 := cells_frozen k3 0; have y1 := cells_frozen k3 1; have y2 := cells_frozen k3 2; have y3 := cells_frozen k3 3; have y4 := cells_frozen k3 4; have cn := one (cells_below HM.out.2.2.2 b1 (by rw [HM.out.2.2.1]; omega)); have HB : Hid (Below w.heap.size w w1) := Below.on HM.out.2.1 b1; clear b1 k3)
  have i1 : w.heap.size ≤ w.heap.size + 1 + 1 := by omega
  refine bodyPost_ret (v := .tuple #[.agg #[.int .i64 0, .slice none 0 0, .slice none 0 0, .slice none 0 0, .slice none 0 0], .int .i64 3]) (by simp [results, Try.results12, go_sem, z0, z1, z2, z3, z4]) rfl (AnsI.bad 3 (((((HB.out.setCell i1 _).setCell i1 _).setCell i1 _).setCell i1 _).setCell i1 _))

set_option maxHeartbeats 4000000 in
theorem resize_far_at (m : ImgD) (ra : Option Addr) (rn rc : Nat) (sa : Option Addr) (sn sc : Nat) (fa : Option Addr) (fn fc : Nat) (na : Option Addr) (nn nc : Nat) (g : Int)  (w : World) (h : Img w (.agg #[.int .i64 m.guest, .slice ra rn rc, .slice sa sn sc, .slice fa fn fc, .slice na nn nc]) m) (hE : checkE m = 0) (hg : 16 < g) :
    Calls Try.prog 12 #[.agg #[.int .i64 m.guest, .slice ra rn rc, .slice sa sn sc, .slice fa fn fc, .slice na nn nc], .int .i64 g] w (AnsI w w.heap.size imgZ 3) := by
  have b0 : Below w.heap.size w (((w.alloc (.cells #[.int .i64 m.guest, .slice ra rn rc, .slice sa sn sc, .slice fa fn fc, .slice na nn nc] 26)).alloc (.cells #[.int .i64 g] 3)).alloc (.cells #[.int .i64 0, .slice none 0 0, .slice none 0 0, .slice none 0 0, .slice none 0 0] 26)) := (((Below.refl _ _).alloc (by simp; try omega) _).alloc (by simp; try omega) _).alloc (by simp; try omega) _
  have q0 : (w.alloc (.cells #[.int .i64 m.guest, .slice ra rn rc, .slice sa sn sc, .slice fa fn fc, .slice na nn nc] 26)).heap[w.heap.size]? = some (.cells #[.int .i64 m.guest, .slice ra rn rc, .slice sa sn sc, .slice fa fn fc, .slice na nn nc] 26) := by have := World.alloc_heap_new w (.cells #[.int .i64 m.guest, .slice ra rn rc, .slice sa sn sc, .slice fa fn fc, .slice na nn nc] 26); simpa using this
  have m0 : (((w.alloc (.cells #[.int .i64 m.guest, .slice ra rn rc, .slice sa sn sc, .slice fa fn fc, .slice na nn nc] 26)).alloc (.cells #[.int .i64 g] 3)).alloc (.cells #[.int .i64 0, .slice none 0 0, .slice none 0 0, .slice none 0 0, .slice none 0 0] 26)).heap[w.heap.size]? = some (.cells #[.int .i64 m.guest, .slice ra rn rc, .slice sa sn sc, .slice fa fn fc, .slice na nn nc] 26) := (cells_alloc (cells_alloc q0 _) _)
  have q1 : ((w.alloc (.cells #[.int .i64 m.guest, .slice ra rn rc, .slice sa sn sc, .slice fa fn fc, .slice na nn nc] 26)).alloc (.cells #[.int .i64 g] 3)).heap[w.heap.size + 1]? = some (.cells #[.int .i64 g] 3) := by have := World.alloc_heap_new (w.alloc (.cells #[.int .i64 m.guest, .slice ra rn rc, .slice sa sn sc, .slice fa fn fc, .slice na nn nc] 26)) (.cells #[.int .i64 g] 3); simpa using this
  have m1 : (((w.alloc (.cells #[.int .i64 m.guest, .slice ra rn rc, .slice sa sn sc, .slice fa fn fc, .slice na nn nc] 26)).alloc (.cells #[.int .i64 g] 3)).alloc (.cells #[.int .i64 0, .slice none 0 0, .slice none 0 0, .slice none 0 0, .slice none 0 0] 26)).heap[w.heap.size + 1]? = some (.cells #[.int .i64 g] 3) := (cells_alloc q1 _)
  have q2 : (((w.alloc (.cells #[.int .i64 m.guest, .slice ra rn rc, .slice sa sn sc, .slice fa fn fc, .slice na nn nc] 26)).alloc (.cells #[.int .i64 g] 3)).alloc (.cells #[.int .i64 0, .slice none 0 0, .slice none 0 0, .slice none 0 0, .slice none 0 0] 26)).heap[w.heap.size + 1 + 1]? = some (.cells #[.int .i64 0, .slice none 0 0, .slice none 0 0, .slice none 0 0, .slice none 0 0] 26) := by have := World.alloc_heap_new ((w.alloc (.cells #[.int .i64 m.guest, .slice ra rn rc, .slice sa sn sc, .slice fa fn fc, .slice na nn nc] 26)).alloc (.cells #[.int .i64 g] 3)) (.cells #[.int .i64 0, .slice none 0 0, .slice none 0 0, .slice none 0 0, .slice none 0 0] 26); simpa using this
  have m2 : (((w.alloc (.cells #[.int .i64 m.guest, .slice ra rn rc, .slice sa sn sc, .slice fa fn fc, .slice na nn nc] 26)).alloc (.cells #[.int .i64 g] 3)).alloc (.cells #[.int .i64 0, .slice none 0 0, .slice none 0 0, .slice none 0 0, .slice none 0 0] 26)).heap[w.heap.size + 1 + 1]? = some (.cells #[.int .i64 0, .slice none 0 0, .slice none 0 0, .slice none 0 0, .slice none 0 0] 26) := q2
  have hz : (((w.alloc (.cells #[.int .i64 m.guest, .slice ra rn rc, .slice sa sn sc, .slice fa fn fc, .slice na nn nc] 26)).alloc (.cells #[.int .i64 g] 3)).alloc (.cells #[.int .i64 0, .slice none 0 0, .slice none 0 0, .slice none 0 0, .slice none 0 0] 26)).heap.size = w.heap.size + 1 + 1 + 1 := by simp
  clear q0 q1 q2
  have g1 : decide (g < 0) = false := by simp; omega
  have g2 : ¬ g < 0 := by omega
  have g3 : decide (16 < g) = true := by simp [hg]
  have hchk := tcheck_is (h.below b0) hE
  obtain ⟨c0, c1, c2, c3, c4⟩ := five m0
  have HM : Hid ((((w.alloc (.cells #[.int .i64 m.guest, .slice ra rn rc, .slice sa sn sc, .slice fa fn fc, .slice na nn nc] 26)).alloc (.cells #[.int .i64 g] 3)).alloc (.cells #[.int .i64 0, .slice none 0 0, .slice none 0 0, .slice none 0 0, .slice none 0 0] 26)).heap[w.heap.size + 1 + 1]? = some (.cells #[.int .i64 0, .slice none 0 0, .slice none 0 0, .slice none 0 0, .slice none 0 0] 26) ∧ Below w.heap.size w (((w.alloc (.cells #[.int .i64 m.guest, .slice ra rn rc, .slice sa sn sc, .slice fa fn fc, .slice na nn nc] 26)).alloc (.cells #[.int .i64 g] 3)).alloc (.cells #[.int .i64 0, .slice none 0 0, .slice none 0 0, .slice none 0 0, .slice none 0 0] 26)) ∧ (((w.alloc (.cells #[.int .i64 m.guest, .slice ra rn rc, .slice sa sn sc, .slice fa fn fc, .slice na nn nc] 26)).alloc (.cells #[.int .i64 g] 3)).alloc (.cells #[.int .i64 0, .slice none 0 0, .slice none 0 0, .slice none 0 0, .slice none 0 0] 26)).heap.size = w.heap.size + 1 + 1 + 1 ∧ (((w.alloc (.cells #[.int .i64 m.guest, .slice ra rn rc, .slice sa sn sc, .slice fa fn fc, .slice na nn nc] 26)).alloc (.cells #[.int .i64 g] 3)).alloc (.cells #[.int .i64 0, .slice none 0 0, .slice none 0 0, .slice none 0 0, .slice none 0 0] 26)).heap[w.heap.size + 1]? = some (.cells #[.int .i64 g] 3)) := ⟨m2, b0, hz, m1⟩
  clear h m0 m1 m2 hz b0 hE
  go_enter Try.func12, Try.ntmps12
  go_wp2_with (go_at_call 13; refine hchk.mono ?_; rintro e w1 ⟨rfl, b1⟩; have k3 := cells_below HM.out.1 b1 (by rw [HM.out.2.2.1]; omega); obtain ⟨z0, z1, z2, z3, z4⟩ := five k3; have y0 := cells_frozen k3 0; have y1 := cells_frozen k3 1; have y2 := cells_frozen k3 2; have y3 := cells_frozen k3 3; have y4 := cells_frozen k3 4; have cn := one (cells_below HM.out.2.2.2 b1 (by rw [HM.out.2.2.1]; omega)); have HB : Hid (Below w.heap.size w w1) := Below.on HM.out.2.1 b1; clear b1 k3)
  have i1 : w.heap.size ≤ w.heap.size + 1 + 1 := by omega
  refine bodyPost_ret (v := .tuple #[.agg #[.int .i64 0, .slice none 0 0, .slice none 0 0, .slice none 0 0, .slice none 0 0], .int .i64 3]) (by simp [results, Try.results12, go_sem, z0, z1, z2, z3, z4]) rfl (AnsI.bad 3 (((((HB.out.setCell i1 _).setCell i1 _).setCell i1 _).setCell i1 _).setCell i1 _))

set_option maxHeartbeats 4000000 in
theorem resize_ok_at (m : ImgD) (ra : Option Addr) (rn rc : Nat) (sa : Option Addr) (sn sc : Nat) (fa : Option Addr) (fn fc : Nat) (na : Option Addr) (nn nc : Nat) (g : Nat) (w : World) (h : Img w (.agg #[.int .i64 m.guest, .slice ra rn rc, .slice sa sn sc, .slice fa fn fc, .slice na nn nc]) m) (hF : Fits m) (hE : checkE m = 0) (h16 : g ≤ 16) (M : ImgD) (hM : ofM (rzP m g) = M) (er : Int) (her : ofE (rzP m g) = er) :
    Calls Try.prog 12 #[.agg #[.int .i64 m.guest, .slice ra rn rc, .slice sa sn sc, .slice fa fn fc, .slice na nn nc], .int .i64 (g : Int)] w (AnsI w w.heap.size M er) := by
  have b0 : Below w.heap.size w (((w.alloc (.cells #[.int .i64 m.guest, .slice ra rn rc, .slice sa sn sc, .slice fa fn fc, .slice na nn nc] 26)).alloc (.cells #[.int .i64 (g : Int)] 3)).alloc (.cells #[.int .i64 0, .slice none 0 0, .slice none 0 0, .slice none 0 0, .slice none 0 0] 26)) := (((Below.refl _ _).alloc (by simp; try omega) _).alloc (by simp; try omega) _).alloc (by simp; try omega) _
  have q0 : (w.alloc (.cells #[.int .i64 m.guest, .slice ra rn rc, .slice sa sn sc, .slice fa fn fc, .slice na nn nc] 26)).heap[w.heap.size]? = some (.cells #[.int .i64 m.guest, .slice ra rn rc, .slice sa sn sc, .slice fa fn fc, .slice na nn nc] 26) := by have := World.alloc_heap_new w (.cells #[.int .i64 m.guest, .slice ra rn rc, .slice sa sn sc, .slice fa fn fc, .slice na nn nc] 26); simpa using this
  have m0 : (((w.alloc (.cells #[.int .i64 m.guest, .slice ra rn rc, .slice sa sn sc, .slice fa fn fc, .slice na nn nc] 26)).alloc (.cells #[.int .i64 (g : Int)] 3)).alloc (.cells #[.int .i64 0, .slice none 0 0, .slice none 0 0, .slice none 0 0, .slice none 0 0] 26)).heap[w.heap.size]? = some (.cells #[.int .i64 m.guest, .slice ra rn rc, .slice sa sn sc, .slice fa fn fc, .slice na nn nc] 26) := (cells_alloc (cells_alloc q0 _) _)
  have q1 : ((w.alloc (.cells #[.int .i64 m.guest, .slice ra rn rc, .slice sa sn sc, .slice fa fn fc, .slice na nn nc] 26)).alloc (.cells #[.int .i64 (g : Int)] 3)).heap[w.heap.size + 1]? = some (.cells #[.int .i64 (g : Int)] 3) := by have := World.alloc_heap_new (w.alloc (.cells #[.int .i64 m.guest, .slice ra rn rc, .slice sa sn sc, .slice fa fn fc, .slice na nn nc] 26)) (.cells #[.int .i64 (g : Int)] 3); simpa using this
  have m1 : (((w.alloc (.cells #[.int .i64 m.guest, .slice ra rn rc, .slice sa sn sc, .slice fa fn fc, .slice na nn nc] 26)).alloc (.cells #[.int .i64 (g : Int)] 3)).alloc (.cells #[.int .i64 0, .slice none 0 0, .slice none 0 0, .slice none 0 0, .slice none 0 0] 26)).heap[w.heap.size + 1]? = some (.cells #[.int .i64 (g : Int)] 3) := (cells_alloc q1 _)
  have q2 : (((w.alloc (.cells #[.int .i64 m.guest, .slice ra rn rc, .slice sa sn sc, .slice fa fn fc, .slice na nn nc] 26)).alloc (.cells #[.int .i64 (g : Int)] 3)).alloc (.cells #[.int .i64 0, .slice none 0 0, .slice none 0 0, .slice none 0 0, .slice none 0 0] 26)).heap[w.heap.size + 1 + 1]? = some (.cells #[.int .i64 0, .slice none 0 0, .slice none 0 0, .slice none 0 0, .slice none 0 0] 26) := by have := World.alloc_heap_new ((w.alloc (.cells #[.int .i64 m.guest, .slice ra rn rc, .slice sa sn sc, .slice fa fn fc, .slice na nn nc] 26)).alloc (.cells #[.int .i64 (g : Int)] 3)) (.cells #[.int .i64 0, .slice none 0 0, .slice none 0 0, .slice none 0 0, .slice none 0 0] 26); simpa using this
  have m2 : (((w.alloc (.cells #[.int .i64 m.guest, .slice ra rn rc, .slice sa sn sc, .slice fa fn fc, .slice na nn nc] 26)).alloc (.cells #[.int .i64 (g : Int)] 3)).alloc (.cells #[.int .i64 0, .slice none 0 0, .slice none 0 0, .slice none 0 0, .slice none 0 0] 26)).heap[w.heap.size + 1 + 1]? = some (.cells #[.int .i64 0, .slice none 0 0, .slice none 0 0, .slice none 0 0, .slice none 0 0] 26) := q2
  have hz : (((w.alloc (.cells #[.int .i64 m.guest, .slice ra rn rc, .slice sa sn sc, .slice fa fn fc, .slice na nn nc] 26)).alloc (.cells #[.int .i64 (g : Int)] 3)).alloc (.cells #[.int .i64 0, .slice none 0 0, .slice none 0 0, .slice none 0 0, .slice none 0 0] 26)).heap.size = w.heap.size + 1 + 1 + 1 := by simp
  clear q0 q1 q2
  have hs := checkE_shape hE
  have hchk := tcheck_is (h.below b0) hE
  obtain ⟨c0, c1, c2, c3, c4⟩ := five m0
  have g1 : decide ((g : Int) < 0) = false := by simp
  have g3 : decide ((16 : Int) < (g : Int)) = false := by simp; omega
  have g4 : ¬ (16 : Int) < (g : Int) := by omega
  have HO : Hid (∀ w1, Below (((w.alloc (.cells #[.int .i64 m.guest, .slice ra rn rc, .slice sa sn sc, .slice fa fn fc, .slice na nn nc] 26)).alloc (.cells #[.int .i64 (g : Int)] 3)).alloc (.cells #[.int .i64 0, .slice none 0 0, .slice none 0 0, .slice none 0 0, .slice none 0 0] 26)).heap.size (((w.alloc (.cells #[.int .i64 m.guest, .slice ra rn rc, .slice sa sn sc, .slice fa fn fc, .slice na nn nc] 26)).alloc (.cells #[.int .i64 (g : Int)] 3)).alloc (.cells #[.int .i64 0, .slice none 0 0, .slice none 0 0, .slice none 0 0, .slice none 0 0] 26)) w1 → Calls Try.prog 33 #[.agg #[.int .i64 m.guest, .slice ra rn rc, .slice sa sn sc, .slice fa fn fc, .slice na nn nc], .func (.func 38) #[] #[.pointer (some ⟨w.heap.size + 1, 0, none⟩)]] w1 (AnsI w1 w1.heap.size M er)) := fun w1 b1 => by
    have hsz : w.heap.size + 1 + 1 + 1 ≤ w1.heap.size := (by have := b1.size; rw [hz] at this; exact this)
    rw [← hM, ← her]
    exact of_is (h.below (Below.on b0 b1)) hF (enters_of Try.func38 (by kernel_rfl) rfl) (rz_turn (one (cells_below m1 b1 (by rw [hz]; omega))) (by omega) h16 hs)
  have HM : Hid ((((w.alloc (.cells #[.int .i64 m.guest, .slice ra rn rc, .slice sa sn sc, .slice fa fn fc, .slice na nn nc] 26)).alloc (.cells #[.int .i64 (g : Int)] 3)).alloc (.cells #[.int .i64 0, .slice none 0 0, .slice none 0 0, .slice none 0 0, .slice none 0 0] 26)).heap[w.heap.size]? = some (.cells #[.int .i64 m.guest, .slice ra rn rc, .slice sa sn sc, .slice fa fn fc, .slice na nn nc] 26) ∧ (((w.alloc (.cells #[.int .i64 m.guest, .slice ra rn rc, .slice sa sn sc, .slice fa fn fc, .slice na nn nc] 26)).alloc (.cells #[.int .i64 (g : Int)] 3)).alloc (.cells #[.int .i64 0, .slice none 0 0, .slice none 0 0, .slice none 0 0, .slice none 0 0] 26)).heap[w.heap.size + 1 + 1]? = some (.cells #[.int .i64 0, .slice none 0 0, .slice none 0 0, .slice none 0 0, .slice none 0 0] 26) ∧ Below w.heap.size w (((w.alloc (.cells #[.int .i64 m.guest, .slice ra rn rc, .slice sa sn sc, .slice fa fn fc, .slice na nn nc] 26)).alloc (.cells #[.int .i64 (g : Int)] 3)).alloc (.cells #[.int .i64 0, .slice none 0 0, .slice none 0 0, .slice none 0 0, .slice none 0 0] 26)) ∧ (((w.alloc (.cells #[.int .i64 m.guest, .slice ra rn rc, .slice sa sn sc, .slice fa fn fc, .slice na nn nc] 26)).alloc (.cells #[.int .i64 (g : Int)] 3)).alloc (.cells #[.int .i64 0, .slice none 0 0, .slice none 0 0, .slice none 0 0, .slice none 0 0] 26)).heap.size = w.heap.size + 1 + 1 + 1 ∧ (((w.alloc (.cells #[.int .i64 m.guest, .slice ra rn rc, .slice sa sn sc, .slice fa fn fc, .slice na nn nc] 26)).alloc (.cells #[.int .i64 (g : Int)] 3)).alloc (.cells #[.int .i64 0, .slice none 0 0, .slice none 0 0, .slice none 0 0, .slice none 0 0] 26)).heap[w.heap.size + 1]? = some (.cells #[.int .i64 (g : Int)] 3)) := ⟨m0, m2, b0, hz, m1⟩
  clear h m0 m1 m2 hz b0 hE hs hM her hF h16
  go_enter Try.func12, Try.ntmps12
  go_wp2_with (go_at_call 13; refine hchk.mono ?_; rintro e w1 ⟨rfl, b1⟩; have d0 := cells_below HM.out.1 b1 (by rw [HM.out.2.2.2.1]; omega); obtain ⟨d1, d2, d3, d4, d5⟩ := five d0; have cn := one (cells_below HM.out.2.2.2.2 b1 (by rw [HM.out.2.2.2.1]; omega)); have hof := HO.out w1 b1; have HV : Hid (Below w.heap.size w w1 ∧ w1.heap[w.heap.size + 1 + 1]? = some (.cells #[.int .i64 0, .slice none 0 0, .slice none 0 0, .slice none 0 0, .slice none 0 0] 26) ∧ w.heap.size + 1 + 1 < w1.heap.size) := (⟨Below.on HM.out.2.2.1 b1, cells_below HM.out.2.1 b1 (by rw [HM.out.2.2.2.1]; omega), by have := b1.size; rw [HM.out.2.2.2.1] at this; omega⟩); clear b1 d0)
  refine hof.mono ?_
  intro e w3 hA
  obtain ⟨val, ga, gc, la, lc, oa, oc, ta, tc, rfl, hO, b1, hI⟩ := hA.open
  dsimp only
  have k3 := cells_below HV.out.2.1 b1 HV.out.2.2
  obtain ⟨z0, z1, z2, z3, z4⟩ := five k3
  have y0 := cells_frozen k3 0
  have y1 := cells_frozen k3 1
  have y2 := cells_frozen k3 2
  have y3 := cells_frozen k3 3
  have y4 := cells_frozen k3 4
  have HP : Hid (OI w3 w1.heap.size val M) := hO
  have HB : Hid (Below w.heap.size w w3) := Below.on HV.out.1 b1
  have HI : Hid (imgV M.guest val = .agg #[.int .i64 M.guest, .slice ga M.root.length gc, .slice la M.slots.length lc, .slice oa M.refs.length oc, .slice ta M.snaps.length tc]) := hI
  clear hO b1 hI hof hA
  go_wp2_with fail
  have i1 : w.heap.size ≤ w.heap.size + 1 + 1 := by omega
  have hf1 : ∀ a, Live M a → (val a).ownBlock ≠ some (w.heap.size + 1 + 1) := fun a ha e => by have := ((HP.out.row a ha).lt _ e).1; have := HV.out.2.2; omega
  refine bodyPost_ret (v := .tuple #[.agg #[.int .i64 M.guest, .slice ga M.root.length gc, .slice la M.slots.length lc, .slice oa M.refs.length oc, .slice ta M.snaps.length tc], .int .i64 er]) (by simp [results, Try.results12, go_sem, z0, z1, z2, z3, z4]) rfl ⟨val, by rw [HI.out], OI.mono (((((HP.out.far hf1).far hf1).far hf1).far hf1).far hf1) (by have := HV.out.2.2; omega), ((((HB.out.setCell i1 _).setCell i1 _).setCell i1 _).setCell i1 _).setCell i1 _⟩

def rzE (m : ImgD) (g : Int) : Int := if checkE m ≠ 0 then checkE m else if 0 ≤ g ∧ g ≤ 16 then errO (resizeD m g.toNat) else 3
def rzM (m : ImgD) (g : Int) : ImgD := if checkE m ≠ 0 then imgZ else if 0 ≤ g ∧ g ≤ 16 then (resizeD m g.toNat).getD imgZ else imgZ
theorem resize_is {w : World} {v : Value} {m : ImgD} (h : Img w v m) (g : Int) :
    Calls Try.prog 12 #[v, .int .i64 g] w (AnsI w w.heap.size (rzM m g) (rzE m g)) := by
  have h' := h
  obtain ⟨ra, rc, sa, sc, fa, fc, na, nc, rfl, _⟩ := h.parts
  unfold rzM rzE
  by_cases hl : checkE m = 0
  · have hl0 : ¬ checkE m ≠ 0 := fun x => x hl
    rw [if_neg hl0, if_neg hl0]
    by_cases hg : 0 ≤ g ∧ g ≤ 16
    · rw [if_pos hg, if_pos hg]
      obtain ⟨j, rfl⟩ := Int.eq_ofNat_of_zero_le hg.1
      rw [Int.toNat_natCast]
      have h16 : j ≤ 16 := by omega
      have hM := rzP_meets hl h16
      exact resize_ok_at m ra _ rc sa _ sc fa _ fc na _ nc j w h' (fits_of_shape (checkE_shape hl)) hl h16 _ hM.m _ hM.e
    · rw [if_neg hg, if_neg hg]
      by_cases h0 : g < 0
      · exact resize_neg_at m ra _ rc sa _ sc fa _ fc na _ nc g w h' hl h0
      · exact resize_far_at m ra _ rc sa _ sc fa _ fc na _ nc g w h' hl (by omega)
  · rw [if_pos hl, if_pos hl]
    exact resize_bad_at m ra _ rc sa _ sc fa _ fc na _ nc g _ w h' rfl (by simp [hl])
end Go.Proofs.Ytehleeibgkpjmad
/- What Write, Wipe, Punch and Resize answer, errors too, and what it is to the image that was handed in. -/
namespace Go.Proofs.Ytehleeibgkpjmad
open Go.RowKit Go.Shelf
set_option maxRecDepth 20000

def puE (m : ImgD) (n e : Int) : Int := if lookE m n = 0 then errO (putD m n.toNat e) else lookE m n
def puM (m : ImgD) (n e : Int) : ImgD := if lookE m n = 0 then (putD m n.toNat e).getD imgZ else imgZ
theorem wipe_to {w : World} {v : Value} {m : ImgD} (h : Img w v m) (n : Int) {M : ImgD} {E : Int} (hM : puM m n (-1) = M) (hE : puE m n (-1) = E) :
    Calls Try.prog 10 #[v, .int .i64 n] w (AnsI w w.heap.size M E) := by
  subst hM hE; exact wipe_is h n
theorem punch_to {w : World} {v : Value} {m : ImgD} (h : Img w v m) (n : Int) {M : ImgD} {E : Int} (hM : puM m n 0 = M) (hE : puE m n 0 = E) :
    Calls Try.prog 11 #[v, .int .i64 n] w (AnsI w w.heap.size M E) := by
  subst hM hE; exact punch_is h n
theorem write_to {w : World} {v : Value} {m : ImgD} (h : Img w v m) (n : Int) (page : ByteArray) {M : ImgD} {E : Int} (hM : wrM m n page = M) (hE : wrE m n page = E) :
    Calls Try.prog 9 #[v, .int .i64 n, .string page] w (AnsI w w.heap.size M E) := by
  subst hM hE; exact write_is h n page
theorem resize_to {w : World} {v : Value} {m : ImgD} (h : Img w v m) (g : Int) {M : ImgD} {E : Int} (hM : rzM m g = M) (hE : rzE m g = E) :
    Calls Try.prog 12 #[v, .int .i64 g] w (AnsI w w.heap.size M E) := by
  subst hM hE; exact resize_is h g
theorem errO_zero {o : Option ImgD} (h : errO o = 0) : ∃ M, o = some M := by
  cases o with
  | none => exact absurd h (by decide)
  | some M => exact ⟨M, rfl⟩
theorem wr_ok {m : ImgD} {n : Int} {page : ByteArray} (he : wrE m n page = 0) : lookE m n = 0 ∧ page.size = 4 ∧ writeD m n.toNat page = some (wrM m n page) ∧ Wrote m (wrM m n page) n.toNat page 2 := by
  unfold wrE at he
  by_cases hl : lookE m n = 0
  · rw [if_neg (by simpa using hl)] at he
    by_cases hp : page.size = 4
    · rw [if_pos hp] at he
      obtain ⟨M, hM⟩ := errO_zero he
      have e : wrM m n page = M := by unfold wrM; rw [if_neg (by simpa using hl), if_pos hp, hM]; rfl
      obtain ⟨hC, h0, hn⟩ := lookE_prt hl
      rw [e]
      exact ⟨hl, hp, hM, wrote_write hC (by omega) hp hM⟩
    · rw [if_neg hp] at he; exact absurd he (by decide)
  · rw [if_pos hl] at he; exact absurd he hl
theorem pu_ok {m : ImgD} {n e : Int} (h01 : e = 0 ∨ e = -1) (he : puE m n e = 0) : lookE m n = 0 ∧ putD m n.toNat e = some (puM m n e) ∧ Wrote m (puM m n e) n.toNat Z4 1 := by
  unfold puE at he
  by_cases hl : lookE m n = 0
  · rw [if_pos hl] at he
    obtain ⟨M, hM⟩ := errO_zero he
    have e : puM m n e = M := by unfold puM; rw [if_pos hl, hM]; rfl
    obtain ⟨hC, h0, hn⟩ := lookE_prt hl
    rw [e]
    exact ⟨hl, hM, wrote_put hC (by omega) h01 hM⟩
  · rw [if_neg hl] at he; exact absurd he hl
theorem rz_ok {m : ImgD} {g : Int} (he : rzE m g = 0) : checkE m = 0 ∧ 0 ≤ g ∧ g ≤ 16 ∧ resizeD m g.toNat = some (rzM m g) ∧ Resized m (rzM m g) g.toNat := by
  unfold rzE at he
  by_cases hl : checkE m = 0
  · rw [if_neg (by simpa using hl)] at he
    by_cases hp : 0 ≤ g ∧ g ≤ 16
    · rw [if_pos hp] at he
      obtain ⟨M, hM⟩ := errO_zero he
      have e : rzM m g = M := by unfold rzM; rw [if_neg (by simpa using hl), if_pos hp, hM]; rfl
      rw [e]
      exact ⟨hl, hp.1, hp.2, hM, resized_is hl (by omega) hM⟩
    · rw [if_neg hp] at he; exact absurd he (by decide)
  · rw [if_pos hl] at he; exact absurd he hl
end Go.Proofs.Ytehleeibgkpjmad
/- Contracts of the document's CheckImage, look, LookError, LookOf. -/
namespace Go.Proofs.Ytehleeibgkpjmad
open Go.RowKit Go.Shelf
end Go.Proofs.Ytehleeibgkpjmad
/- Contract of pair: the image that every beginning looks at. -/
namespace Go.Proofs.Ytehleeibgkpjmad
open Go.RowKit Go.Shelf
set_option maxRecDepth 20000

def aaaa : ByteArray := ⟨#[97, 97, 97, 97]⟩
def bbbb : ByteArray := ⟨#[98, 98, 98, 98]⟩
def nOld : ByteArray := ⟨#[111, 108, 100]⟩

def pairD (g : Int) (R T : List Int) : ImgD := ⟨g, [2, 4], [(0, ⟨#[]⟩, []), (1, aaaa, []), (2, ⟨#[]⟩, [1, 0, -1, 1]), (1, bbbb, []), (2, ⟨#[]⟩, T)], R, [(nOld, 4, [2])]⟩
structure PairW (n : Nat) (W : World) (R T : List Int) : Prop where
  root : LAt W (n + 1) [2, 4]
  ta : LAt W (n + 2) [1, 0, -1, 1]
  tb : LAt W (n + 3) T
  slots : W.heap[n + 4]? = some (.cells #[.int .i64 0, .string ⟨#[]⟩, .slice none 0 0, .int .i64 1, .string aaaa, .slice none 0 0, .int .i64 2, .string ⟨#[]⟩, .slice (some ⟨n + 2, 0, none⟩) 4 4, .int .i64 1, .string bbbb, .slice none 0 0, .int .i64 2, .string ⟨#[]⟩, .slice (some ⟨n + 3, 0, none⟩) 4 4] 52)
  refs : LAt W (n + 5) R
  sroot : LAt W (n + 6) [2]
  snaps : W.heap[n + 7]? = some (.cells #[.string nOld, .int .i64 4, .slice (some ⟨n + 6, 0, none⟩) 1 1] 72)

theorem alloc_get (W : World) (o : Obj) (i : Nat) : (W.alloc o).heap[i]? = if i = W.heap.size then some o else W.heap[i]? := by
  show (W.heap.push o)[i]? = _
  rw [Array.getElem?_push]

theorem size_alloc (W : World) (o : Obj) : (W.alloc o).heap.size = W.heap.size + 1 := by simp

set_option linter.unusedSimpArgs false in
theorem pair_at (w : World) : Calls Try.prog 42 #[] w fun r w' => r = .returned (.agg #[.int .i64 6, .slice (some ⟨w.heap.size + 1, 0, none⟩) 2 2, .slice (some ⟨w.heap.size + 4, 0, none⟩) 5 5, .slice (some ⟨w.heap.size + 5, 0, none⟩) 5 5, .slice (some ⟨w.heap.size + 7, 0, none⟩) 1 1]) ∧ PairW w.heap.size w' [0, 2, 2, 1, 1] [3, 0, 0, 0] ∧ Below w.heap.size w w' := by
  go_enter Try.func42, Try.ntmps42
  go_wp2
  refine bodyPost_ret (v := .agg #[.int .i64 6, .slice (some ⟨w.heap.size + 1, 0, none⟩) 2 2, .slice (some ⟨w.heap.size + 4, 0, none⟩) 5 5, .slice (some ⟨w.heap.size + 5, 0, none⟩) 5 5, .slice (some ⟨w.heap.size + 7, 0, none⟩) 1 1]) (by simp [results, Try.results42, go_sem]) rfl ⟨rfl, ⟨?_, ?_, ?_, ?_, ?_, ?_, ?_⟩, ?_⟩
  · show _ = _; simp only [alloc_get, size_alloc, Nat.add_right_cancel_iff, Nat.add_assoc, Nat.reduceAdd, Nat.add_left_cancel_iff, Nat.reduceEqDiff, ↓reduceIte, List.map, Nat.left_eq_add, reduceCtorEq, Nat.add_eq_left, Nat.succ_ne_self]
  · show _ = _; simp only [alloc_get, size_alloc, Nat.add_right_cancel_iff, Nat.add_assoc, Nat.reduceAdd, Nat.add_left_cancel_iff, Nat.reduceEqDiff, ↓reduceIte, List.map, Nat.left_eq_add, reduceCtorEq, Nat.add_eq_left, Nat.succ_ne_self]
  · show _ = _; simp only [alloc_get, size_alloc, Nat.add_right_cancel_iff, Nat.add_assoc, Nat.reduceAdd, Nat.add_left_cancel_iff, Nat.reduceEqDiff, ↓reduceIte, List.map, Nat.left_eq_add, reduceCtorEq, Nat.add_eq_left, Nat.succ_ne_self]
  · show _ = _; simp only [alloc_get, size_alloc, Nat.add_assoc, Nat.reduceAdd, Nat.add_left_cancel_iff, Nat.reduceEqDiff, ↓reduceIte, aaaa, bbbb]
  · show _ = _; simp only [alloc_get, size_alloc, Nat.add_right_cancel_iff, Nat.add_assoc, Nat.reduceAdd, Nat.add_left_cancel_iff, Nat.reduceEqDiff, ↓reduceIte, List.map, Nat.left_eq_add, reduceCtorEq, Nat.add_eq_left, Nat.succ_ne_self]
  · show _ = _; simp only [alloc_get, size_alloc, Nat.add_right_cancel_iff, Nat.add_assoc, Nat.reduceAdd, Nat.add_left_cancel_iff, Nat.reduceEqDiff, ↓reduceIte, List.map, Nat.left_eq_add, reduceCtorEq, Nat.add_eq_left, Nat.succ_ne_self]
  · show _ = _; simp only [alloc_get, size_alloc, Nat.add_assoc, Nat.reduceAdd, Nat.add_left_cancel_iff, Nat.reduceEqDiff, ↓reduceIte, nOld]
  · exact ((((((((Below.refl _ _).alloc (Nat.le_refl _) _).alloc (by simp) _).alloc (by simp; omega) _).alloc (by simp; omega) _).alloc (by simp; omega) _).alloc (by simp; omega) _).alloc (by simp; omega) _).alloc (by simp; omega) _

theorem PairW.below {n : Nat} {W W' : World} {R T : List Int} (h : PairW n W R T) {k : Nat} (hb : Below k W W') (hk : n + 8 ≤ k) : PairW n W' R T :=
  ⟨(hb.block _ (by omega)).trans h.root, (hb.block _ (by omega)).trans h.ta, (hb.block _ (by omega)).trans h.tb, (hb.block _ (by omega)).trans h.slots, (hb.block _ (by omega)).trans h.refs, (hb.block _ (by omega)).trans h.sroot, (hb.block _ (by omega)).trans h.snaps⟩
theorem PairW.size {n : Nat} {W : World} {R T : List Int} (h : PairW n W R T) : n + 8 ≤ W.heap.size := by
  have := (Array.getElem?_eq_some_iff.1 h.snaps).1; omega
theorem cell_of {W : World} {g : Nat} {A : Array Value} {t : TypeId} {fr : Nat × Nat} (h : W.heap[g]? = some (.cells A t fr)) {j : Nat} {v : Value} (hv : A[j]? = some v) : W.cell? ⟨g, j, none⟩ = some v := by
  simp [World.cell?, h, hv]
theorem PairW.img {n : Nat} {W : World} {R T : List Int} (h : PairW n W R T) (hR : R.length = 5) (hT : T.length = 4) (g : Int) :
    Img W (.agg #[.int .i64 g, .slice (some ⟨n + 1, 0, none⟩) 2 2, .slice (some ⟨n + 4, 0, none⟩) 5 5, .slice (some ⟨n + 5, 0, none⟩) 5 5, .slice (some ⟨n + 7, 0, none⟩) 1 1]) (pairD g R T) := by
  refine ⟨_, _, _, _, rfl, h.root.sl rfl (by decide), ⟨some ⟨n + 4, 0, none⟩, 5, rfl, show (5 : Nat) ≤ maxLen by decide, Nat.le_refl _, fun _ => ⟨n + 4, 0, rfl, (Array.getElem?_eq_some_iff.1 h.slots).1, ?_⟩⟩, h.refs.sl hR (by decide), ⟨some ⟨n + 7, 0, none⟩, 1, rfl, show (1 : Nat) ≤ maxLen by decide, Nat.le_refl _, fun _ => ⟨n + 7, 0, rfl, (Array.getElem?_eq_some_iff.1 h.snaps).1, ?_⟩⟩⟩
  · intro j hj
    have h5 : j < 5 := hj
    match j, h5 with
    | 0, _ => exact ⟨_, cell_of h.slots rfl, cell_of h.slots rfl, cell_of h.slots rfl, Sl.nil W⟩
    | 1, _ => exact ⟨_, cell_of h.slots rfl, cell_of h.slots rfl, cell_of h.slots rfl, Sl.nil W⟩
    | 2, _ => exact ⟨_, cell_of h.slots rfl, cell_of h.slots rfl, cell_of h.slots rfl, h.ta.sl rfl (by decide)⟩
    | 3, _ => exact ⟨_, cell_of h.slots rfl, cell_of h.slots rfl, cell_of h.slots rfl, Sl.nil W⟩
    | 4, _ => exact ⟨_, cell_of h.slots rfl, cell_of h.slots rfl, cell_of h.slots rfl, h.tb.sl hT (by decide)⟩
  · intro j hj
    have h1 : j < 1 := hj
    match j, h1 with
    | 0, _ => exact ⟨_, cell_of h.snaps rfl, cell_of h.snaps rfl, cell_of h.snaps rfl, h.sroot.sl rfl (by decide)⟩
theorem LAt.other {W : World} {g g' : Nat} {l : List Int} (h : LAt W g l) (hne : g ≠ g') (j : Nat) (v : Value) : LAt (W.setCell ⟨g', j, none⟩ v) g l := ((Only.set g' W j v).block g hne).trans h
theorem PairW.setRefs {n : Nat} {W : World} {R T : List Int} (h : PairW n W R T) (j : Nat) (x : Int) : PairW n (W.setCell ⟨n + 5, j, none⟩ (.int .i64 x)) (R.set j x) T :=
  ⟨h.root.other (by omega) _ _, h.ta.other (by omega) _ _, h.tb.other (by omega) _ _, ((Only.set (n + 5) W j _).block _ (by omega)).trans h.slots, h.refs.set j x, h.sroot.other (by omega) _ _, ((Only.set (n + 5) W j _).block _ (by omega)).trans h.snaps⟩
theorem pair_is (w : World) : Calls Try.prog 42 #[] w fun r w' => (∃ v, r = .returned v ∧ Img w' v (pairD 6 [0, 2, 2, 1, 1] [3, 0, 0, 0])) ∧ Below w.heap.size w w' :=
  (pair_at w).mono fun _ _ h => ⟨⟨_, h.1, h.2.1.img rfl rfl 6⟩, h.2.2⟩
end Go.Proofs.Ytehleeibgkpjmad
/- The image of pair: what is decided of it. -/
namespace Go.Proofs.Ytehleeibgkpjmad
open Go.RowKit Go.Shelf
set_option maxRecDepth 20000

abbrev pD : ImgD := pairD 6 [0, 2, 2, 1, 1] [3, 0, 0, 0]
end Go.Proofs.Ytehleeibgkpjmad
/- Contract of SameInts. -/
namespace Go.Proofs.Ytehleeibgkpjmad
open Go.RowKit
set_option maxRecDepth 20000

theorem same_at (ao bo : Option Addr) (n cap cap' : Nat) (xs : List Int) (w : World) (hn : xs.length = n) (hm : n ≤ 9223372036854775807)
    (hc : ∀ j, j < n → ∃ b off, ao = some ⟨b, off, none⟩ ∧ b < w.heap.size ∧ w.cell? ⟨b, off + j, none⟩ = some (.int .i64 (xs.getD j 0)))
    (hd : ∀ j, j < n → ∃ b off, bo = some ⟨b, off, none⟩ ∧ b < w.heap.size ∧ w.cell? ⟨b, off + j, none⟩ = some (.int .i64 (xs.getD j 0))) :
    Calls Try.prog 22 #[.slice ao n cap, .slice bo n cap'] w fun r w' => r = .returned (.bool true) ∧ Below w.heap.size w w' := by
  have HC : Hid (∀ j, j < n → ∃ b off, ao = some ⟨b, off, none⟩ ∧ b < w.heap.size ∧ w.cell? ⟨b, off + j, none⟩ = some (.int .i64 (xs.getD j 0))) := hc
  have HD : Hid (∀ j, j < n → ∃ b off, bo = some ⟨b, off, none⟩ ∧ b < w.heap.size ∧ w.cell? ⟨b, off + j, none⟩ = some (.int .i64 (xs.getD j 0))) := hd
  clear hc hd
  have HN : Hid (xs.length = n) := hn
  clear hn
  go_enter Try.func22, Try.ntmps22
  go_wp2
  go_loopw [5] (fun i wr => ∃ k : Nat, k ≤ n ∧ i = .int .i64 k ∧ Below w.heap.size w wr) (fun i _ => n - (intOf i).toNat)
  case atStart => exact ⟨0, by omega, rfl, Below.refl _ _⟩
  case round =>
    obtain ⟨k, hk, rfl, hbel⟩ := hrel
    by_cases hlt : k < n
    · obtain ⟨x, hx⟩ : ∃ x, xs.getD k 0 = x := ⟨_, rfl⟩
      obtain ⟨b, off, hao, hl1, hck⟩ := HC.out k hlt
      obtain ⟨b', off', hbo, hl2, hck'⟩ := HD.out k hlt
      rw [hx] at hck hck'
      clear hx
      have g1 : wr.cell? ⟨b, off + k, none⟩ = some (.int .i64 x) := (hbel.cell (p := ⟨b, off + k, none⟩) hl1).trans hck
      have g2 : wr.cell? ⟨b', off' + k, none⟩ = some (.int .i64 x) := (hbel.cell (p := ⟨b', off' + k, none⟩) hl2).trans hck'
      have i1 : (k : Int) < (n : Int) := by omega
      go_wp2
      go_quiet (fail)
      go_wp2
      go_roundw
      case rel => exact ⟨k + 1, by omega, by go_num, below_drewN hbel _⟩
      case measure => simp [intOf]; omega
    · have e4 : k = n := by omega
      subst e4
      go_wp2
      go_ret
      exact ⟨rfl, hbel⟩
theorem same_any {v u : Value} {xs : List Int} {w : World} (h : Sl w v xs) (k : Sl w u xs) :
    Calls Try.prog 22 #[v, u] w fun r w' => r = .returned (.bool true) ∧ Below w.heap.size w w' := by
  obtain ⟨ao, cap, rfl⟩ := h.form
  obtain ⟨bo, cap', rfl⟩ := k.form
  obtain ⟨hn, hm, _, hc⟩ := h.cells
  obtain ⟨_, _, _, hd⟩ := k.cells
  exact same_at ao bo _ cap cap' xs w hn hm hc hd

end Go.Proofs.Ytehleeibgkpjmad
/- Contract of writesBegun: it answers true. -/
namespace Go.Proofs.Ytehleeibgkpjmad
open Go.RowKit Go.Shelf
set_option maxRecDepth 20000

def CAt (W : World) (p : Addr) (v : Value) : Prop := W.cell? p = some v ∧ p.block < W.heap.size
theorem CAt.below {W W' : World} {p : Addr} {v : Value} (h : CAt W p v) (bb : Below W.heap.size W W') : CAt W' p v := ⟨(bb.cell h.2).trans h.1, Nat.lt_of_lt_of_le h.2 bb.size⟩
def wbA : ImgD := ⟨6, [2, 4], [(0, ⟨#[]⟩, []), (1, aaaa, []), (2, ⟨#[]⟩, [1, 0, -1, 1]), (1, ⟨#[99, 99, 99, 99]⟩, []), (2, ⟨#[]⟩, [3, 0, 0, 0])], [0, 2, 2, 1, 1], [(nOld, 4, [2])]⟩
theorem wb_ma : wrM pD 4 ⟨#[99, 99, 99, 99]⟩ = wbA := by kernel_rfl
theorem wb_ea : wrE pD 4 ⟨#[99, 99, 99, 99]⟩ = 0 := by decide +kernel
def wbB : ImgD := ⟨6, [5, 4], [(0, ⟨#[]⟩, []), (1, aaaa, []), (2, ⟨#[]⟩, [1, 0, -1, 1]), (1, bbbb, []), (2, ⟨#[]⟩, [3, 0, 0, 0]), (2, ⟨#[]⟩, [6, 0, -1, 1]), (1, ⟨#[100, 100, 100, 100]⟩, [])], [0, 3, 1, 1, 1, 1, 1], [(nOld, 4, [2])]⟩
theorem wb_mb : wrM pD 0 ⟨#[100, 100, 100, 100]⟩ = wbB := by kernel_rfl
theorem wb_eb : wrE pD 0 ⟨#[100, 100, 100, 100]⟩ = 0 := by decide +kernel
def wbC : ImgD := ⟨6, [2, 0], [(0, ⟨#[]⟩, []), (1, aaaa, []), (2, ⟨#[]⟩, [1, 0, -1, 1]), (0, ⟨#[]⟩, []), (0, ⟨#[]⟩, [])], [0, 2, 2, 0, 0], [(nOld, 4, [2])]⟩
theorem wb_mc : puM pD 4 0 = wbC := by kernel_rfl
theorem wb_ec : puE pD 4 0 = 0 := by decide +kernel
def wbD : ImgD := ⟨6, [2, 4], [(0, ⟨#[]⟩, []), (1, aaaa, []), (2, ⟨#[]⟩, [1, 0, -1, 1]), (1, bbbb, []), (2, ⟨#[]⟩, [3, -1, 0, 0])], [0, 2, 2, 1, 1], [(nOld, 4, [2])]⟩
theorem wb_md : puM pD 5 (-1) = wbD := by kernel_rfl
theorem wb_ed : puE pD 5 (-1) = 0 := by decide +kernel
def wbX : ImgD := ⟨3, [5], [(0, ⟨#[]⟩, []), (1, aaaa, []), (2, ⟨#[]⟩, [1, 0, -1, 1]), (0, ⟨#[]⟩, []), (0, ⟨#[]⟩, []), (2, ⟨#[]⟩, [1, 0, -1, 0])], [0, 3, 1, 0, 0, 1], [(nOld, 4, [2])]⟩
theorem wb_mx : rzM pD 3 = wbX := by kernel_rfl
theorem wb_ex : rzE pD 3 = 0 := by decide +kernel

set_option maxHeartbeats 200000000 in
theorem writesBegun_any (w : World) : Calls Try.prog 14 #[] w fun r w' => r = .returned (.bool true) ∧ Below w.heap.size w w' := by
  go_enter Try.func14, Try.ntmps14
  have hB := Below.refl w.heap.size w
  go_wp2_with fail
  refine (pair_is _).mono ?_
  rintro e w1 ⟨⟨v_a, rfl, P_a⟩, bb⟩
  replace hB := Below.on hB bb
  clear bb
  go_wp2_with fail
  refine (write_to P_a 4 ⟨#[99, 99, 99, 99]⟩ wb_ma wb_ea).mono ?_
  intro e w2 hA
  obtain ⟨val, a_r, a_rc, a_s, a_sc, a_f, a_fc, a_n, a_nc, rfl, hO, bb, hI⟩ := hA.open
  dsimp only
  have I_a := hO.img
  rw [hI] at I_a
  clear hA hO hI
  rw [show wbA.guest = 6 from rfl, show wbA.root.length = 2 from rfl, show wbA.slots.length = 5 from rfl, show wbA.refs.length = 5 from rfl, show wbA.snaps.length = 1 from rfl] at I_a ⊢
  replace hB := Below.on hB bb
  replace P_a := P_a.below bb
  clear bb
  clear P_a
  have ba : Below w2.heap.size w2 (w2.alloc (.cells #[.int .i64 6, .slice a_r 2 a_rc, .slice a_s 5 a_sc, .slice a_f 5 a_fc, .slice a_n 1 a_nc] 26)) := (Below.refl _ _).alloc (Nat.le_refl _) _
  replace hB := Below.on hB ba
  replace I_a := I_a.below ba
  clear ba
  have mb_a : (w2.alloc (.cells #[.int .i64 6, .slice a_r 2 a_rc, .slice a_s 5 a_sc, .slice a_f 5 a_fc, .slice a_n 1 a_nc] 26)).heap[w2.heap.size]? = some (.cells #[.int .i64 6, .slice a_r 2 a_rc, .slice a_s 5 a_sc, .slice a_f 5 a_fc, .slice a_n 1 a_nc] 26) := World.alloc_heap_new _ _
  obtain ⟨a0, a1, a2, a3, a4⟩ := five mb_a
  go_wp2_with fail
  refine (pair_is _).mono ?_
  rintro e w3 ⟨⟨v_b, rfl, P_b⟩, bb⟩
  clear a0 a1 a2 a3 a4
  replace mb_a := cells_below mb_a bb (Array.getElem?_eq_some_iff.1 mb_a).1
  replace hB := Below.on hB bb
  replace I_a := I_a.below bb
  clear bb
  obtain ⟨a0, a1, a2, a3, a4⟩ := five mb_a
  go_wp2_with fail
  refine (write_to P_b 0 ⟨#[100, 100, 100, 100]⟩ wb_mb wb_eb).mono ?_
  intro e w4 hA
  obtain ⟨val, b_r, b_rc, b_s, b_sc, b_f, b_fc, b_n, b_nc, rfl, hO, bb, hI⟩ := hA.open
  dsimp only
  have I_b := hO.img
  rw [hI] at I_b
  clear hA hO hI
  rw [show wbB.guest = 6 from rfl, show wbB.root.length = 2 from rfl, show wbB.slots.length = 7 from rfl, show wbB.refs.length = 7 from rfl, show wbB.snaps.length = 1 from rfl] at I_b ⊢
  clear a0 a1 a2 a3 a4
  replace mb_a := cells_below mb_a bb (Array.getElem?_eq_some_iff.1 mb_a).1
  replace hB := Below.on hB bb
  replace I_a := I_a.below bb
  replace P_b := P_b.below bb
  clear bb
  clear P_b
  replace mb_a := cells_alloc mb_a (.cells #[.int .i64 6, .slice b_r 2 b_rc, .slice b_s 7 b_sc, .slice b_f 7 b_fc, .slice b_n 1 b_nc] 26)
  have ba : Below w4.heap.size w4 (w4.alloc (.cells #[.int .i64 6, .slice b_r 2 b_rc, .slice b_s 7 b_sc, .slice b_f 7 b_fc, .slice b_n 1 b_nc] 26)) := (Below.refl _ _).alloc (Nat.le_refl _) _
  replace hB := Below.on hB ba
  replace I_a := I_a.below ba
  replace I_b := I_b.below ba
  clear ba
  have mb_b : (w4.alloc (.cells #[.int .i64 6, .slice b_r 2 b_rc, .slice b_s 7 b_sc, .slice b_f 7 b_fc, .slice b_n 1 b_nc] 26)).heap[w4.heap.size]? = some (.cells #[.int .i64 6, .slice b_r 2 b_rc, .slice b_s 7 b_sc, .slice b_f 7 b_fc, .slice b_n 1 b_nc] 26) := World.alloc_heap_new _ _
  obtain ⟨a0, a1, a2, a3, a4⟩ := five mb_a
  obtain ⟨b0, b1, b2, b3, b4⟩ := five mb_b
  go_wp2_with fail
  refine (pair_is _).mono ?_
  rintro e w5 ⟨⟨v_c, rfl, P_c⟩, bb⟩
  clear a0 a1 a2 a3 a4 b0 b1 b2 b3 b4
  replace mb_a := cells_below mb_a bb (Array.getElem?_eq_some_iff.1 mb_a).1
  replace mb_b := cells_below mb_b bb (Array.getElem?_eq_some_iff.1 mb_b).1
  replace hB := Below.on hB bb
  replace I_a := I_a.below bb
  replace I_b := I_b.below bb
  clear bb
  obtain ⟨a0, a1, a2, a3, a4⟩ := five mb_a
  obtain ⟨b0, b1, b2, b3, b4⟩ := five mb_b
  go_wp2_with fail
  refine (punch_to P_c 4 wb_mc wb_ec).mono ?_
  intro e w6 hA
  obtain ⟨val, c_r, c_rc, c_s, c_sc, c_f, c_fc, c_n, c_nc, rfl, hO, bb, hI⟩ := hA.open
  dsimp only
  have I_c := hO.img
  rw [hI] at I_c
  clear hA hO hI
  rw [show wbC.guest = 6 from rfl, show wbC.root.length = 2 from rfl, show wbC.slots.length = 5 from rfl, show wbC.refs.length = 5 from rfl, show wbC.snaps.length = 1 from rfl] at I_c ⊢
  clear a0 a1 a2 a3 a4 b0 b1 b2 b3 b4
  replace mb_a := cells_below mb_a bb (Array.getElem?_eq_some_iff.1 mb_a).1
  replace mb_b := cells_below mb_b bb (Array.getElem?_eq_some_iff.1 mb_b).1
  replace hB := Below.on hB bb
  replace I_a := I_a.below bb
  replace I_b := I_b.below bb
  replace P_c := P_c.below bb
  clear bb
  clear P_c
  replace mb_a := cells_alloc mb_a (.cells #[.int .i64 6, .slice c_r 2 c_rc, .slice c_s 5 c_sc, .slice c_f 5 c_fc, .slice c_n 1 c_nc] 26)
  replace mb_b := cells_alloc mb_b (.cells #[.int .i64 6, .slice c_r 2 c_rc, .slice c_s 5 c_sc, .slice c_f 5 c_fc, .slice c_n 1 c_nc] 26)
  have ba : Below w6.heap.size w6 (w6.alloc (.cells #[.int .i64 6, .slice c_r 2 c_rc, .slice c_s 5 c_sc, .slice c_f 5 c_fc, .slice c_n 1 c_nc] 26)) := (Below.refl _ _).alloc (Nat.le_refl _) _
  replace hB := Below.on hB ba
  replace I_a := I_a.below ba
  replace I_b := I_b.below ba
  replace I_c := I_c.below ba
  clear ba
  have mb_c : (w6.alloc (.cells #[.int .i64 6, .slice c_r 2 c_rc, .slice c_s 5 c_sc, .slice c_f 5 c_fc, .slice c_n 1 c_nc] 26)).heap[w6.heap.size]? = some (.cells #[.int .i64 6, .slice c_r 2 c_rc, .slice c_s 5 c_sc, .slice c_f 5 c_fc, .slice c_n 1 c_nc] 26) := World.alloc_heap_new _ _
  obtain ⟨a0, a1, a2, a3, a4⟩ := five mb_a
  obtain ⟨b0, b1, b2, b3, b4⟩ := five mb_b
  obtain ⟨c0, c1, c2, c3, c4⟩ := five mb_c
  go_wp2_with fail
  refine (pair_is _).mono ?_
  rintro e w7 ⟨⟨v_d, rfl, P_d⟩, bb⟩
  clear a0 a1 a2 a3 a4 b0 b1 b2 b3 b4 c0 c1 c2 c3 c4
  replace mb_a := cells_below mb_a bb (Array.getElem?_eq_some_iff.1 mb_a).1
  replace mb_b := cells_below mb_b bb (Array.getElem?_eq_some_iff.1 mb_b).1
  replace mb_c := cells_below mb_c bb (Array.getElem?_eq_some_iff.1 mb_c).1
  replace hB := Below.on hB bb
  replace I_a := I_a.below bb
  replace I_b := I_b.below bb
  replace I_c := I_c.below bb
  clear bb
  obtain ⟨a0, a1, a2, a3, a4⟩ := five mb_a
  obtain ⟨b0, b1, b2, b3, b4⟩ := five mb_b
  obtain ⟨c0, c1, c2, c3, c4⟩ := five mb_c
  go_wp2_with fail
  refine (wipe_to P_d 5 wb_md wb_ed).mono ?_
  intro e w8 hA
  obtain ⟨val, d_r, d_rc, d_s, d_sc, d_f, d_fc, d_n, d_nc, rfl, hO, bb, hI⟩ := hA.open
  dsimp only
  have I_d := hO.img
  rw [hI] at I_d
  clear hA hO hI
  rw [show wbD.guest = 6 from rfl, show wbD.root.length = 2 from rfl, show wbD.slots.length = 5 from rfl, show wbD.refs.length = 5 from rfl, show wbD.snaps.length = 1 from rfl] at I_d ⊢
  clear a0 a1 a2 a3 a4 b0 b1 b2 b3 b4 c0 c1 c2 c3 c4
  replace mb_a := cells_below mb_a bb (Array.getElem?_eq_some_iff.1 mb_a).1
  replace mb_b := cells_below mb_b bb (Array.getElem?_eq_some_iff.1 mb_b).1
  replace mb_c := cells_below mb_c bb (Array.getElem?_eq_some_iff.1 mb_c).1
  replace hB := Below.on hB bb
  replace I_a := I_a.below bb
  replace I_b := I_b.below bb
  replace I_c := I_c.below bb
  replace P_d := P_d.below bb
  clear bb
  clear P_d
  replace mb_a := cells_alloc mb_a (.cells #[.int .i64 6, .slice d_r 2 d_rc, .slice d_s 5 d_sc, .slice d_f 5 d_fc, .slice d_n 1 d_nc] 26)
  replace mb_b := cells_alloc mb_b (.cells #[.int .i64 6, .slice d_r 2 d_rc, .slice d_s 5 d_sc, .slice d_f 5 d_fc, .slice d_n 1 d_nc] 26)
  replace mb_c := cells_alloc mb_c (.cells #[.int .i64 6, .slice d_r 2 d_rc, .slice d_s 5 d_sc, .slice d_f 5 d_fc, .slice d_n 1 d_nc] 26)
  have ba : Below w8.heap.size w8 (w8.alloc (.cells #[.int .i64 6, .slice d_r 2 d_rc, .slice d_s 5 d_sc, .slice d_f 5 d_fc, .slice d_n 1 d_nc] 26)) := (Below.refl _ _).alloc (Nat.le_refl _) _
  replace hB := Below.on hB ba
  replace I_a := I_a.below ba
  replace I_b := I_b.below ba
  replace I_c := I_c.below ba
  replace I_d := I_d.below ba
  clear ba
  have mb_d : (w8.alloc (.cells #[.int .i64 6, .slice d_r 2 d_rc, .slice d_s 5 d_sc, .slice d_f 5 d_fc, .slice d_n 1 d_nc] 26)).heap[w8.heap.size]? = some (.cells #[.int .i64 6, .slice d_r 2 d_rc, .slice d_s 5 d_sc, .slice d_f 5 d_fc, .slice d_n 1 d_nc] 26) := World.alloc_heap_new _ _
  obtain ⟨a0, a1, a2, a3, a4⟩ := five mb_a
  obtain ⟨b0, b1, b2, b3, b4⟩ := five mb_b
  obtain ⟨c0, c1, c2, c3, c4⟩ := five mb_c
  obtain ⟨d0, d1, d2, d3, d4⟩ := five mb_d
  go_wp2_with fail
  refine (pair_is _).mono ?_
  rintro e w9 ⟨⟨v_x, rfl, P_x⟩, bb⟩
  clear a0 a1 a2 a3 a4 b0 b1 b2 b3 b4 c0 c1 c2 c3 c4 d0 d1 d2 d3 d4
  replace mb_a := cells_below mb_a bb (Array.getElem?_eq_some_iff.1 mb_a).1
  replace mb_b := cells_below mb_b bb (Array.getElem?_eq_some_iff.1 mb_b).1
  replace mb_c := cells_below mb_c bb (Array.getElem?_eq_some_iff.1 mb_c).1
  replace mb_d := cells_below mb_d bb (Array.getElem?_eq_some_iff.1 mb_d).1
  replace hB := Below.on hB bb
  replace I_a := I_a.below bb
  replace I_b := I_b.below bb
  replace I_c := I_c.below bb
  replace I_d := I_d.below bb
  clear bb
  obtain ⟨a0, a1, a2, a3, a4⟩ := five mb_a
  obtain ⟨b0, b1, b2, b3, b4⟩ := five mb_b
  obtain ⟨c0, c1, c2, c3, c4⟩ := five mb_c
  obtain ⟨d0, d1, d2, d3, d4⟩ := five mb_d
  go_wp2_with fail
  refine (resize_to P_x 3 wb_mx wb_ex).mono ?_
  intro e w10 hA
  obtain ⟨val, x_r, x_rc, x_s, x_sc, x_f, x_fc, x_n, x_nc, rfl, hO, bb, hI⟩ := hA.open
  dsimp only
  have I_x := hO.img
  rw [hI] at I_x
  clear hA hO hI
  rw [show wbX.guest = 3 from rfl, show wbX.root.length = 1 from rfl, show wbX.slots.length = 6 from rfl, show wbX.refs.length = 6 from rfl, show wbX.snaps.length = 1 from rfl] at I_x ⊢
  clear a0 a1 a2 a3 a4 b0 b1 b2 b3 b4 c0 c1 c2 c3 c4 d0 d1 d2 d3 d4
  replace mb_a := cells_below mb_a bb (Array.getElem?_eq_some_iff.1 mb_a).1
  replace mb_b := cells_below mb_b bb (Array.getElem?_eq_some_iff.1 mb_b).1
  replace mb_c := cells_below mb_c bb (Array.getElem?_eq_some_iff.1 mb_c).1
  replace mb_d := cells_below mb_d bb (Array.getElem?_eq_some_iff.1 mb_d).1
  replace hB := Below.on hB bb
  replace I_a := I_a.below bb
  replace I_b := I_b.below bb
  replace I_c := I_c.below bb
  replace I_d := I_d.below bb
  replace P_x := P_x.below bb
  clear bb
  clear P_x
  replace mb_a := cells_alloc mb_a (.cells #[.int .i64 3, .slice x_r 1 x_rc, .slice x_s 6 x_sc, .slice x_f 6 x_fc, .slice x_n 1 x_nc] 26)
  replace mb_b := cells_alloc mb_b (.cells #[.int .i64 3, .slice x_r 1 x_rc, .slice x_s 6 x_sc, .slice x_f 6 x_fc, .slice x_n 1 x_nc] 26)
  replace mb_c := cells_alloc mb_c (.cells #[.int .i64 3, .slice x_r 1 x_rc, .slice x_s 6 x_sc, .slice x_f 6 x_fc, .slice x_n 1 x_nc] 26)
  replace mb_d := cells_alloc mb_d (.cells #[.int .i64 3, .slice x_r 1 x_rc, .slice x_s 6 x_sc, .slice x_f 6 x_fc, .slice x_n 1 x_nc] 26)
  have ba : Below w10.heap.size w10 (w10.alloc (.cells #[.int .i64 3, .slice x_r 1 x_rc, .slice x_s 6 x_sc, .slice x_f 6 x_fc, .slice x_n 1 x_nc] 26)) := (Below.refl _ _).alloc (Nat.le_refl _) _
  replace hB := Below.on hB ba
  replace I_a := I_a.below ba
  replace I_b := I_b.below ba
  replace I_c := I_c.below ba
  replace I_d := I_d.below ba
  replace I_x := I_x.below ba
  clear ba
  have mb_x : (w10.alloc (.cells #[.int .i64 3, .slice x_r 1 x_rc, .slice x_s 6 x_sc, .slice x_f 6 x_fc, .slice x_n 1 x_nc] 26)).heap[w10.heap.size]? = some (.cells #[.int .i64 3, .slice x_r 1 x_rc, .slice x_s 6 x_sc, .slice x_f 6 x_fc, .slice x_n 1 x_nc] 26) := World.alloc_heap_new _ _
  obtain ⟨pa, oa, ta, e, _, la, sa⟩ := I_a.four.2.1.open (by decide)
  simp only [Value.slice.injEq] at e
  obtain ⟨rfl, hh, rfl⟩ := e
  clear hh
  obtain ⟨pb, ob, tb, e, _, lb, sb⟩ := I_b.four.2.1.open (by decide)
  simp only [Value.slice.injEq] at e
  obtain ⟨rfl, hh, rfl⟩ := e
  clear hh
  obtain ⟨pc, oc, tc, e, _, lc, sc⟩ := I_c.four.2.1.open (by decide)
  simp only [Value.slice.injEq] at e
  obtain ⟨rfl, hh, rfl⟩ := e
  clear hh
  obtain ⟨pd, od, td, e, _, ld, sd⟩ := I_d.four.2.1.open (by decide)
  simp only [Value.slice.injEq] at e
  obtain ⟨rfl, hh, rfl⟩ := e
  clear hh
  obtain ⟨px, ox, tx, e, _, lx, sx⟩ := I_x.four.2.1.open (by decide)
  simp only [Value.slice.injEq] at e
  obtain ⟨rfl, hh, rfl⟩ := e
  clear hh
  have ca3 : CAt (w10.alloc (.cells #[.int .i64 3, .slice x_r 1 x_rc, .slice (some ⟨px, ox, none⟩) 6 x_sc, .slice x_f 6 x_fc, .slice x_n 1 x_nc] 26)) ⟨pa, oa + 10, none⟩ (.string ⟨#[99, 99, 99, 99]⟩) := ⟨((sa 3 (by decide))).choose_spec.2.1, la⟩
  obtain ⟨tv, _, _, q2, qs⟩ := sb 5 (by decide)
  obtain ⟨tb5a, tb5c, rfl⟩ := qs.form
  have ctb5 : CAt (w10.alloc (.cells #[.int .i64 3, .slice x_r 1 x_rc, .slice (some ⟨px, ox, none⟩) 6 x_sc, .slice x_f 6 x_fc, .slice x_n 1 x_nc] 26)) ⟨pb, ob + 17, none⟩ (.slice tb5a 4 tb5c) := ⟨q2, lb⟩
  have Stb5 : Sl (w10.alloc (.cells #[.int .i64 3, .slice x_r 1 x_rc, .slice (some ⟨px, ox, none⟩) 6 x_sc, .slice x_f 6 x_fc, .slice x_n 1 x_nc] 26)) (.slice tb5a 4 tb5c) [6, 0, -1, 1] := qs
  clear q2 qs
  have cc3 : CAt (w10.alloc (.cells #[.int .i64 3, .slice x_r 1 x_rc, .slice (some ⟨px, ox, none⟩) 6 x_sc, .slice x_f 6 x_fc, .slice x_n 1 x_nc] 26)) ⟨pc, oc + 9, none⟩ (.int .i64 0) := ⟨((sc 3 (by decide))).choose_spec.1, lc⟩
  obtain ⟨tv, _, _, q2, qs⟩ := sd 4 (by decide)
  obtain ⟨td4a, td4c, rfl⟩ := qs.form
  have ctd4 : CAt (w10.alloc (.cells #[.int .i64 3, .slice x_r 1 x_rc, .slice (some ⟨px, ox, none⟩) 6 x_sc, .slice x_f 6 x_fc, .slice x_n 1 x_nc] 26)) ⟨pd, od + 14, none⟩ (.slice td4a 4 td4c) := ⟨q2, ld⟩
  have Std4 : Sl (w10.alloc (.cells #[.int .i64 3, .slice x_r 1 x_rc, .slice (some ⟨px, ox, none⟩) 6 x_sc, .slice x_f 6 x_fc, .slice x_n 1 x_nc] 26)) (.slice td4a 4 td4c) [3, -1, 0, 0] := qs
  clear q2 qs
  obtain ⟨tv, _, _, q2, qs⟩ := sx 5 (by decide)
  obtain ⟨tx5a, tx5c, rfl⟩ := qs.form
  have ctx5 : CAt (w10.alloc (.cells #[.int .i64 3, .slice x_r 1 x_rc, .slice (some ⟨px, ox, none⟩) 6 x_sc, .slice x_f 6 x_fc, .slice x_n 1 x_nc] 26)) ⟨px, ox + 17, none⟩ (.slice tx5a 4 tx5c) := ⟨q2, lx⟩
  have Stx5 : Sl (w10.alloc (.cells #[.int .i64 3, .slice x_r 1 x_rc, .slice (some ⟨px, ox, none⟩) 6 x_sc, .slice x_f 6 x_fc, .slice x_n 1 x_nc] 26)) (.slice tx5a 4 tx5c) [1, 0, -1, 0] := qs
  clear q2 qs
  have cx4 : CAt (w10.alloc (.cells #[.int .i64 3, .slice x_r 1 x_rc, .slice (some ⟨px, ox, none⟩) 6 x_sc, .slice x_f 6 x_fc, .slice x_n 1 x_nc] 26)) ⟨px, ox + 12, none⟩ (.int .i64 0) := ⟨((sx 4 (by decide))).choose_spec.1, lx⟩
  have Rb := I_b.four.1
  have Fb := I_b.four.2.2.1
  have Rc := I_c.four.1
  have Rx := I_x.four.1
  clear I_a
  clear sa la
  clear I_b
  clear sb lb
  clear I_c
  clear sc lc
  clear I_d
  clear sd ld
  clear I_x
  clear sx lx
  have hnew := Sl_new (w10.alloc (.cells #[.int .i64 3, .slice x_r 1 x_rc, .slice (some ⟨px, ox, none⟩) 6 x_sc, .slice x_f 6 x_fc, .slice x_n 1 x_nc] 26)) [5, 4] 2 rfl (by decide)
  rw [show (w10.alloc (.cells #[.int .i64 3, .slice x_r 1 x_rc, .slice (some ⟨px, ox, none⟩) 6 x_sc, .slice x_f 6 x_fc, .slice x_n 1 x_nc] 26)).heap.size = w10.heap.size + 1 by simp] at hnew
  obtain ⟨a0, a1, a2, a3, a4⟩ := five mb_a
  obtain ⟨b0, b1, b2, b3, b4⟩ := five mb_b
  have q_ca3 := ca3.1
  have hh_mb_a := Hid_mkW mb_a
  have hh_mb_b := Hid_mkW mb_b
  have hh_mb_c := Hid_mkW mb_c
  have hh_mb_d := Hid_mkW mb_d
  have hh_mb_x := Hid_mkW mb_x
  have hh_ca3 := Hid_mkW ca3
  have hh_ctb5 := Hid_mkW ctb5
  have hh_Stb5 := Hid_mkW Stb5
  have hh_cc3 := Hid_mkW cc3
  have hh_ctd4 := Hid_mkW ctd4
  have hh_Std4 := Hid_mkW Std4
  have hh_ctx5 := Hid_mkW ctx5
  have hh_Stx5 := Hid_mkW Stx5
  have hh_cx4 := Hid_mkW cx4
  have hh_Rb := Hid_mkW Rb
  have hh_Fb := Hid_mkW Fb
  have hh_Rc := Hid_mkW Rc
  have hh_Rx := Hid_mkW Rx
  have hh_hB := Hid_mkW hB
  have hh_hnew := Hid_mkW hnew
  clear mb_a mb_b mb_c mb_d mb_x ca3 ctb5 Stb5 cc3 ctd4 Std4 ctx5 Stx5 cx4 Rb Fb Rc Rx hB hnew
  go_wp2_with fail
  clear a0 a1 a2 a3 a4 b0 b1 b2 b3 b4 q_ca3
  have mb_a := hh_mb_a.out
  have mb_b := hh_mb_b.out
  have mb_c := hh_mb_c.out
  have mb_d := hh_mb_d.out
  have mb_x := hh_mb_x.out
  have ca3 := hh_ca3.out
  have ctb5 := hh_ctb5.out
  have Stb5 := hh_Stb5.out
  have cc3 := hh_cc3.out
  have ctd4 := hh_ctd4.out
  have Std4 := hh_Std4.out
  have ctx5 := hh_ctx5.out
  have Stx5 := hh_Stx5.out
  have cx4 := hh_cx4.out
  have Rb := hh_Rb.out
  have Fb := hh_Fb.out
  have Rc := hh_Rc.out
  have Rx := hh_Rx.out
  have hB := hh_hB.out
  have hnew := hh_hnew.out
  clear hh_mb_a hh_mb_b hh_mb_c hh_mb_d hh_mb_x hh_ca3 hh_ctb5 hh_Stb5 hh_cc3 hh_ctd4 hh_Std4 hh_ctx5 hh_Stx5 hh_cx4 hh_Rb hh_Fb hh_Rc hh_Rx hh_hB hh_hnew
  replace mb_a := cells_alloc mb_a (.cells #[.int .i64 5, .int .i64 4] 3)
  replace mb_b := cells_alloc mb_b (.cells #[.int .i64 5, .int .i64 4] 3)
  replace mb_c := cells_alloc mb_c (.cells #[.int .i64 5, .int .i64 4] 3)
  replace mb_d := cells_alloc mb_d (.cells #[.int .i64 5, .int .i64 4] 3)
  replace mb_x := cells_alloc mb_x (.cells #[.int .i64 5, .int .i64 4] 3)
  have ba : Below (w10.alloc (.cells #[.int .i64 3, .slice x_r 1 x_rc, .slice (some ⟨px, ox, none⟩) 6 x_sc, .slice x_f 6 x_fc, .slice x_n 1 x_nc] 26)).heap.size (w10.alloc (.cells #[.int .i64 3, .slice x_r 1 x_rc, .slice (some ⟨px, ox, none⟩) 6 x_sc, .slice x_f 6 x_fc, .slice x_n 1 x_nc] 26)) ((w10.alloc (.cells #[.int .i64 3, .slice x_r 1 x_rc, .slice (some ⟨px, ox, none⟩) 6 x_sc, .slice x_f 6 x_fc, .slice x_n 1 x_nc] 26)).alloc (.cells #[.int .i64 5, .int .i64 4] 3)) := (Below.refl _ _).alloc (Nat.le_refl _) _
  replace hB := Below.on hB ba
  replace ca3 := ca3.below ba
  replace ctb5 := ctb5.below ba
  replace Stb5 := Stb5.below ba
  replace cc3 := cc3.below ba
  replace ctd4 := ctd4.below ba
  replace Std4 := Std4.below ba
  replace ctx5 := ctx5.below ba
  replace Stx5 := Stx5.below ba
  replace cx4 := cx4.below ba
  replace Rb := Rb.below ba
  replace Fb := Fb.below ba
  replace Rc := Rc.below ba
  replace Rx := Rx.below ba
  clear ba
  refine (same_any Rb hnew).mono ?_
  rintro e w11 ⟨rfl, bb⟩
  clear hnew
  replace mb_a := cells_below mb_a bb (Array.getElem?_eq_some_iff.1 mb_a).1
  replace mb_b := cells_below mb_b bb (Array.getElem?_eq_some_iff.1 mb_b).1
  replace mb_c := cells_below mb_c bb (Array.getElem?_eq_some_iff.1 mb_c).1
  replace mb_d := cells_below mb_d bb (Array.getElem?_eq_some_iff.1 mb_d).1
  replace mb_x := cells_below mb_x bb (Array.getElem?_eq_some_iff.1 mb_x).1
  replace hB := Below.on hB bb
  replace ca3 := ca3.below bb
  replace ctb5 := ctb5.below bb
  replace Stb5 := Stb5.below bb
  replace cc3 := cc3.below bb
  replace ctd4 := ctd4.below bb
  replace Std4 := Std4.below bb
  replace ctx5 := ctx5.below bb
  replace Stx5 := Stx5.below bb
  replace cx4 := cx4.below bb
  replace Rb := Rb.below bb
  replace Fb := Fb.below bb
  replace Rc := Rc.below bb
  replace Rx := Rx.below bb
  clear bb
  clear Rb
  clear mb_a
  clear ca3
  have hnew := Sl_new w11 [6, 0, -1, 1] 4 rfl (by decide)
  obtain ⟨b0, b1, b2, b3, b4⟩ := five mb_b
  have q_ctb5 := ctb5.1
  have hh_mb_b := Hid_mkW mb_b
  have hh_mb_c := Hid_mkW mb_c
  have hh_mb_d := Hid_mkW mb_d
  have hh_mb_x := Hid_mkW mb_x
  have hh_ctb5 := Hid_mkW ctb5
  have hh_Stb5 := Hid_mkW Stb5
  have hh_cc3 := Hid_mkW cc3
  have hh_ctd4 := Hid_mkW ctd4
  have hh_Std4 := Hid_mkW Std4
  have hh_ctx5 := Hid_mkW ctx5
  have hh_Stx5 := Hid_mkW Stx5
  have hh_cx4 := Hid_mkW cx4
  have hh_Fb := Hid_mkW Fb
  have hh_Rc := Hid_mkW Rc
  have hh_Rx := Hid_mkW Rx
  have hh_hB := Hid_mkW hB
  have hh_hnew := Hid_mkW hnew
  clear mb_b mb_c mb_d mb_x ctb5 Stb5 cc3 ctd4 Std4 ctx5 Stx5 cx4 Fb Rc Rx hB hnew
  go_wp2_with fail
  clear b0 b1 b2 b3 b4 q_ctb5
  have mb_b := hh_mb_b.out
  have mb_c := hh_mb_c.out
  have mb_d := hh_mb_d.out
  have mb_x := hh_mb_x.out
  have ctb5 := hh_ctb5.out
  have Stb5 := hh_Stb5.out
  have cc3 := hh_cc3.out
  have ctd4 := hh_ctd4.out
  have Std4 := hh_Std4.out
  have ctx5 := hh_ctx5.out
  have Stx5 := hh_Stx5.out
  have cx4 := hh_cx4.out
  have Fb := hh_Fb.out
  have Rc := hh_Rc.out
  have Rx := hh_Rx.out
  have hB := hh_hB.out
  have hnew := hh_hnew.out
  clear hh_mb_b hh_mb_c hh_mb_d hh_mb_x hh_ctb5 hh_Stb5 hh_cc3 hh_ctd4 hh_Std4 hh_ctx5 hh_Stx5 hh_cx4 hh_Fb hh_Rc hh_Rx hh_hB hh_hnew
  replace mb_b := cells_alloc mb_b (.cells #[.int .i64 6, .int .i64 0, .int .i64 (-1), .int .i64 1] 3)
  replace mb_c := cells_alloc mb_c (.cells #[.int .i64 6, .int .i64 0, .int .i64 (-1), .int .i64 1] 3)
  replace mb_d := cells_alloc mb_d (.cells #[.int .i64 6, .int .i64 0, .int .i64 (-1), .int .i64 1] 3)
  replace mb_x := cells_alloc mb_x (.cells #[.int .i64 6, .int .i64 0, .int .i64 (-1), .int .i64 1] 3)
  have ba : Below w11.heap.size w11 (w11.alloc (.cells #[.int .i64 6, .int .i64 0, .int .i64 (-1), .int .i64 1] 3)) := (Below.refl _ _).alloc (Nat.le_refl _) _
  replace hB := Below.on hB ba
  replace ctb5 := ctb5.below ba
  replace Stb5 := Stb5.below ba
  replace cc3 := cc3.below ba
  replace ctd4 := ctd4.below ba
  replace Std4 := Std4.below ba
  replace ctx5 := ctx5.below ba
  replace Stx5 := Stx5.below ba
  replace cx4 := cx4.below ba
  replace Fb := Fb.below ba
  replace Rc := Rc.below ba
  replace Rx := Rx.below ba
  clear ba
  refine (same_any Stb5 hnew).mono ?_
  rintro e w12 ⟨rfl, bb⟩
  clear hnew
  replace mb_b := cells_below mb_b bb (Array.getElem?_eq_some_iff.1 mb_b).1
  replace mb_c := cells_below mb_c bb (Array.getElem?_eq_some_iff.1 mb_c).1
  replace mb_d := cells_below mb_d bb (Array.getElem?_eq_some_iff.1 mb_d).1
  replace mb_x := cells_below mb_x bb (Array.getElem?_eq_some_iff.1 mb_x).1
  replace hB := Below.on hB bb
  replace ctb5 := ctb5.below bb
  replace Stb5 := Stb5.below bb
  replace cc3 := cc3.below bb
  replace ctd4 := ctd4.below bb
  replace Std4 := Std4.below bb
  replace ctx5 := ctx5.below bb
  replace Stx5 := Stx5.below bb
  replace cx4 := cx4.below bb
  replace Fb := Fb.below bb
  replace Rc := Rc.below bb
  replace Rx := Rx.below bb
  clear bb
  clear Stb5
  clear ctb5
  have hnew := Sl_new w12 [0, 3, 1, 1, 1, 1, 1] 7 rfl (by decide)
  obtain ⟨b0, b1, b2, b3, b4⟩ := five mb_b
  have hh_mb_b := Hid_mkW mb_b
  have hh_mb_c := Hid_mkW mb_c
  have hh_mb_d := Hid_mkW mb_d
  have hh_mb_x := Hid_mkW mb_x
  have hh_cc3 := Hid_mkW cc3
  have hh_ctd4 := Hid_mkW ctd4
  have hh_Std4 := Hid_mkW Std4
  have hh_ctx5 := Hid_mkW ctx5
  have hh_Stx5 := Hid_mkW Stx5
  have hh_cx4 := Hid_mkW cx4
  have hh_Fb := Hid_mkW Fb
  have hh_Rc := Hid_mkW Rc
  have hh_Rx := Hid_mkW Rx
  have hh_hB := Hid_mkW hB
  have hh_hnew := Hid_mkW hnew
  clear mb_b mb_c mb_d mb_x cc3 ctd4 Std4 ctx5 Stx5 cx4 Fb Rc Rx hB hnew
  go_wp2_with fail
  clear b0 b1 b2 b3 b4
  have mb_b := hh_mb_b.out
  have mb_c := hh_mb_c.out
  have mb_d := hh_mb_d.out
  have mb_x := hh_mb_x.out
  have cc3 := hh_cc3.out
  have ctd4 := hh_ctd4.out
  have Std4 := hh_Std4.out
  have ctx5 := hh_ctx5.out
  have Stx5 := hh_Stx5.out
  have cx4 := hh_cx4.out
  have Fb := hh_Fb.out
  have Rc := hh_Rc.out
  have Rx := hh_Rx.out
  have hB := hh_hB.out
  have hnew := hh_hnew.out
  clear hh_mb_b hh_mb_c hh_mb_d hh_mb_x hh_cc3 hh_ctd4 hh_Std4 hh_ctx5 hh_Stx5 hh_cx4 hh_Fb hh_Rc hh_Rx hh_hB hh_hnew
  replace mb_b := cells_alloc mb_b (.cells #[.int .i64 0, .int .i64 3, .int .i64 1, .int .i64 1, .int .i64 1, .int .i64 1, .int .i64 1] 3)
  replace mb_c := cells_alloc mb_c (.cells #[.int .i64 0, .int .i64 3, .int .i64 1, .int .i64 1, .int .i64 1, .int .i64 1, .int .i64 1] 3)
  replace mb_d := cells_alloc mb_d (.cells #[.int .i64 0, .int .i64 3, .int .i64 1, .int .i64 1, .int .i64 1, .int .i64 1, .int .i64 1] 3)
  replace mb_x := cells_alloc mb_x (.cells #[.int .i64 0, .int .i64 3, .int .i64 1, .int .i64 1, .int .i64 1, .int .i64 1, .int .i64 1] 3)
  have ba : Below w12.heap.size w12 (w12.alloc (.cells #[.int .i64 0, .int .i64 3, .int .i64 1, .int .i64 1, .int .i64 1, .int .i64 1, .int .i64 1] 3)) := (Below.refl _ _).alloc (Nat.le_refl _) _
  replace hB := Below.on hB ba
  replace cc3 := cc3.below ba
  replace ctd4 := ctd4.below ba
  replace Std4 := Std4.below ba
  replace ctx5 := ctx5.below ba
  replace Stx5 := Stx5.below ba
  replace cx4 := cx4.below ba
  replace Fb := Fb.below ba
  replace Rc := Rc.below ba
  replace Rx := Rx.below ba
  clear ba
  refine (same_any Fb hnew).mono ?_
  rintro e w13 ⟨rfl, bb⟩
  clear hnew
  replace mb_b := cells_below mb_b bb (Array.getElem?_eq_some_iff.1 mb_b).1
  replace mb_c := cells_below mb_c bb (Array.getElem?_eq_some_iff.1 mb_c).1
  replace mb_d := cells_below mb_d bb (Array.getElem?_eq_some_iff.1 mb_d).1
  replace mb_x := cells_below mb_x bb (Array.getElem?_eq_some_iff.1 mb_x).1
  replace hB := Below.on hB bb
  replace cc3 := cc3.below bb
  replace ctd4 := ctd4.below bb
  replace Std4 := Std4.below bb
  replace ctx5 := ctx5.below bb
  replace Stx5 := Stx5.below bb
  replace cx4 := cx4.below bb
  replace Fb := Fb.below bb
  replace Rc := Rc.below bb
  replace Rx := Rx.below bb
  clear bb
  clear Fb
  clear mb_b
  have hnew := Sl_new w13 [2, 0] 2 rfl (by decide)
  obtain ⟨c0, c1, c2, c3, c4⟩ := five mb_c
  have hh_mb_c := Hid_mkW mb_c
  have hh_mb_d := Hid_mkW mb_d
  have hh_mb_x := Hid_mkW mb_x
  have hh_cc3 := Hid_mkW cc3
  have hh_ctd4 := Hid_mkW ctd4
  have hh_Std4 := Hid_mkW Std4
  have hh_ctx5 := Hid_mkW ctx5
  have hh_Stx5 := Hid_mkW Stx5
  have hh_cx4 := Hid_mkW cx4
  have hh_Rc := Hid_mkW Rc
  have hh_Rx := Hid_mkW Rx
  have hh_hB := Hid_mkW hB
  have hh_hnew := Hid_mkW hnew
  clear mb_c mb_d mb_x cc3 ctd4 Std4 ctx5 Stx5 cx4 Rc Rx hB hnew
  go_wp2_with fail
  clear c0 c1 c2 c3 c4
  have mb_c := hh_mb_c.out
  have mb_d := hh_mb_d.out
  have mb_x := hh_mb_x.out
  have cc3 := hh_cc3.out
  have ctd4 := hh_ctd4.out
  have Std4 := hh_Std4.out
  have ctx5 := hh_ctx5.out
  have Stx5 := hh_Stx5.out
  have cx4 := hh_cx4.out
  have Rc := hh_Rc.out
  have Rx := hh_Rx.out
  have hB := hh_hB.out
  have hnew := hh_hnew.out
  clear hh_mb_c hh_mb_d hh_mb_x hh_cc3 hh_ctd4 hh_Std4 hh_ctx5 hh_Stx5 hh_cx4 hh_Rc hh_Rx hh_hB hh_hnew
  replace mb_c := cells_alloc mb_c (.cells #[.int .i64 2, .int .i64 0] 3)
  replace mb_d := cells_alloc mb_d (.cells #[.int .i64 2, .int .i64 0] 3)
  replace mb_x := cells_alloc mb_x (.cells #[.int .i64 2, .int .i64 0] 3)
  have ba : Below w13.heap.size w13 (w13.alloc (.cells #[.int .i64 2, .int .i64 0] 3)) := (Below.refl _ _).alloc (Nat.le_refl _) _
  replace hB := Below.on hB ba
  replace cc3 := cc3.below ba
  replace ctd4 := ctd4.below ba
  replace Std4 := Std4.below ba
  replace ctx5 := ctx5.below ba
  replace Stx5 := Stx5.below ba
  replace cx4 := cx4.below ba
  replace Rc := Rc.below ba
  replace Rx := Rx.below ba
  clear ba
  refine (same_any Rc hnew).mono ?_
  rintro e w14 ⟨rfl, bb⟩
  clear hnew
  replace mb_c := cells_below mb_c bb (Array.getElem?_eq_some_iff.1 mb_c).1
  replace mb_d := cells_below mb_d bb (Array.getElem?_eq_some_iff.1 mb_d).1
  replace mb_x := cells_below mb_x bb (Array.getElem?_eq_some_iff.1 mb_x).1
  replace hB := Below.on hB bb
  replace cc3 := cc3.below bb
  replace ctd4 := ctd4.below bb
  replace Std4 := Std4.below bb
  replace ctx5 := ctx5.below bb
  replace Stx5 := Stx5.below bb
  replace cx4 := cx4.below bb
  replace Rc := Rc.below bb
  replace Rx := Rx.below bb
  clear bb
  clear Rc
  have hnew := Sl_new w14 [3, -1, 0, 0] 4 rfl (by decide)
  obtain ⟨c0, c1, c2, c3, c4⟩ := five mb_c
  obtain ⟨d0, d1, d2, d3, d4⟩ := five mb_d
  have q_cc3 := cc3.1
  have q_ctd4 := ctd4.1
  have hh_mb_c := Hid_mkW mb_c
  have hh_mb_d := Hid_mkW mb_d
  have hh_mb_x := Hid_mkW mb_x
  have hh_cc3 := Hid_mkW cc3
  have hh_ctd4 := Hid_mkW ctd4
  have hh_Std4 := Hid_mkW Std4
  have hh_ctx5 := Hid_mkW ctx5
  have hh_Stx5 := Hid_mkW Stx5
  have hh_cx4 := Hid_mkW cx4
  have hh_Rx := Hid_mkW Rx
  have hh_hB := Hid_mkW hB
  have hh_hnew := Hid_mkW hnew
  clear mb_c mb_d mb_x cc3 ctd4 Std4 ctx5 Stx5 cx4 Rx hB hnew
  go_wp2_with fail
  clear c0 c1 c2 c3 c4 d0 d1 d2 d3 d4 q_cc3 q_ctd4
  have mb_c := hh_mb_c.out
  have mb_d := hh_mb_d.out
  have mb_x := hh_mb_x.out
  have cc3 := hh_cc3.out
  have ctd4 := hh_ctd4.out
  have Std4 := hh_Std4.out
  have ctx5 := hh_ctx5.out
  have Stx5 := hh_Stx5.out
  have cx4 := hh_cx4.out
  have Rx := hh_Rx.out
  have hB := hh_hB.out
  have hnew := hh_hnew.out
  clear hh_mb_c hh_mb_d hh_mb_x hh_cc3 hh_ctd4 hh_Std4 hh_ctx5 hh_Stx5 hh_cx4 hh_Rx hh_hB hh_hnew
  replace mb_c := cells_alloc mb_c (.cells #[.int .i64 3, .int .i64 (-1), .int .i64 0, .int .i64 0] 3)
  replace mb_d := cells_alloc mb_d (.cells #[.int .i64 3, .int .i64 (-1), .int .i64 0, .int .i64 0] 3)
  replace mb_x := cells_alloc mb_x (.cells #[.int .i64 3, .int .i64 (-1), .int .i64 0, .int .i64 0] 3)
  have ba : Below w14.heap.size w14 (w14.alloc (.cells #[.int .i64 3, .int .i64 (-1), .int .i64 0, .int .i64 0] 3)) := (Below.refl _ _).alloc (Nat.le_refl _) _
  replace hB := Below.on hB ba
  replace cc3 := cc3.below ba
  replace ctd4 := ctd4.below ba
  replace Std4 := Std4.below ba
  replace ctx5 := ctx5.below ba
  replace Stx5 := Stx5.below ba
  replace cx4 := cx4.below ba
  replace Rx := Rx.below ba
  clear ba
  refine (same_any Std4 hnew).mono ?_
  rintro e w15 ⟨rfl, bb⟩
  clear hnew
  replace mb_c := cells_below mb_c bb (Array.getElem?_eq_some_iff.1 mb_c).1
  replace mb_d := cells_below mb_d bb (Array.getElem?_eq_some_iff.1 mb_d).1
  replace mb_x := cells_below mb_x bb (Array.getElem?_eq_some_iff.1 mb_x).1
  replace hB := Below.on hB bb
  replace cc3 := cc3.below bb
  replace ctd4 := ctd4.below bb
  replace Std4 := Std4.below bb
  replace ctx5 := ctx5.below bb
  replace Stx5 := Stx5.below bb
  replace cx4 := cx4.below bb
  replace Rx := Rx.below bb
  clear bb
  clear Std4
  clear mb_c
  clear cc3
  clear mb_d
  clear ctd4
  have hnew := Sl_new w15 [5] 1 rfl (by decide)
  obtain ⟨x0, x1, x2, x3, x4⟩ := five mb_x
  have hh_mb_x := Hid_mkW mb_x
  have hh_ctx5 := Hid_mkW ctx5
  have hh_Stx5 := Hid_mkW Stx5
  have hh_cx4 := Hid_mkW cx4
  have hh_Rx := Hid_mkW Rx
  have hh_hB := Hid_mkW hB
  have hh_hnew := Hid_mkW hnew
  clear mb_x ctx5 Stx5 cx4 Rx hB hnew
  go_wp2_with fail
  clear x0 x1 x2 x3 x4
  have mb_x := hh_mb_x.out
  have ctx5 := hh_ctx5.out
  have Stx5 := hh_Stx5.out
  have cx4 := hh_cx4.out
  have Rx := hh_Rx.out
  have hB := hh_hB.out
  have hnew := hh_hnew.out
  clear hh_mb_x hh_ctx5 hh_Stx5 hh_cx4 hh_Rx hh_hB hh_hnew
  replace mb_x := cells_alloc mb_x (.cells #[.int .i64 5] 3)
  have ba : Below w15.heap.size w15 (w15.alloc (.cells #[.int .i64 5] 3)) := (Below.refl _ _).alloc (Nat.le_refl _) _
  replace hB := Below.on hB ba
  replace ctx5 := ctx5.below ba
  replace Stx5 := Stx5.below ba
  replace cx4 := cx4.below ba
  replace Rx := Rx.below ba
  clear ba
  refine (same_any Rx hnew).mono ?_
  rintro e w16 ⟨rfl, bb⟩
  clear hnew
  replace mb_x := cells_below mb_x bb (Array.getElem?_eq_some_iff.1 mb_x).1
  replace hB := Below.on hB bb
  replace ctx5 := ctx5.below bb
  replace Stx5 := Stx5.below bb
  replace cx4 := cx4.below bb
  replace Rx := Rx.below bb
  clear bb
  clear Rx
  have hnew := Sl_new w16 [1, 0, -1, 0] 4 rfl (by decide)
  obtain ⟨x0, x1, x2, x3, x4⟩ := five mb_x
  have q_ctx5 := ctx5.1
  have hh_mb_x := Hid_mkW mb_x
  have hh_ctx5 := Hid_mkW ctx5
  have hh_Stx5 := Hid_mkW Stx5
  have hh_cx4 := Hid_mkW cx4
  have hh_hB := Hid_mkW hB
  have hh_hnew := Hid_mkW hnew
  clear mb_x ctx5 Stx5 cx4 hB hnew
  go_wp2_with fail
  clear x0 x1 x2 x3 x4 q_ctx5
  have mb_x := hh_mb_x.out
  have ctx5 := hh_ctx5.out
  have Stx5 := hh_Stx5.out
  have cx4 := hh_cx4.out
  have hB := hh_hB.out
  have hnew := hh_hnew.out
  clear hh_mb_x hh_ctx5 hh_Stx5 hh_cx4 hh_hB hh_hnew
  replace mb_x := cells_alloc mb_x (.cells #[.int .i64 1, .int .i64 0, .int .i64 (-1), .int .i64 0] 3)
  have ba : Below w16.heap.size w16 (w16.alloc (.cells #[.int .i64 1, .int .i64 0, .int .i64 (-1), .int .i64 0] 3)) := (Below.refl _ _).alloc (Nat.le_refl _) _
  replace hB := Below.on hB ba
  replace ctx5 := ctx5.below ba
  replace Stx5 := Stx5.below ba
  replace cx4 := cx4.below ba
  clear ba
  refine (same_any Stx5 hnew).mono ?_
  rintro e w17 ⟨rfl, bb⟩
  clear hnew
  replace mb_x := cells_below mb_x bb (Array.getElem?_eq_some_iff.1 mb_x).1
  replace hB := Below.on hB bb
  replace ctx5 := ctx5.below bb
  replace Stx5 := Stx5.below bb
  replace cx4 := cx4.below bb
  clear bb
  clear Stx5
  clear ctx5
  obtain ⟨x0, x1, x2, x3, x4⟩ := five mb_x
  have q_cx4 := cx4.1
  have hh_mb_x := Hid_mkW mb_x
  have hh_cx4 := Hid_mkW cx4
  have hh_hB := Hid_mkW hB
  clear mb_x cx4 hB
  go_wp2_with fail
  go_ret
  have hB := hh_hB.out
  exact ⟨rfl, hB⟩
end Go.Proofs.Ytehleeibgkpjmad
