/- Texts joined: WInP, SlotsIn. -/
import Derived.Test.YtehleeibgkpjmadWritesInPlaceJ1
import Derived.Test.YtehleeibgkpjmadWBegunB11
import Derived.Test.YtehleeibgkpjmadWBegunB1
import Derived.Deep.Strs
import Derived.Deep.Slices
import Derived.ProofKit
/- The walk of WritesInPlace. -/
namespace Go.Proofs.Ytehleeibgkpjmad
open Go.RowKit Go.Shelf
set_option maxRecDepth 20000
set_option linter.unusedVariables false

theorem slots_not7 (L : List SlotD) : slotsE L ≠ 7 := by
  unfold slotsE
  split
  · split <;> decide
  · decide
theorem check_not7 {m : ImgD} (h : checkE m = 7) : False := by
  unfold checkE at h
  split at h
  · unfold shapeE at h
    split at h
    · cases h
    · split at h
      · exact slots_not7 _ h
      · split at h
        · cases h
        · split at h
          · cases h
          · split at h
            · cases h
            · split at h <;> cases h
  · split at h
    · cases h
    · split at h <;> cases h
theorem Sl.eqTo {W : World} {v : Value} {xs ys : List Int} (h : Sl W v xs) (e : xs = ys) : Sl W v ys := e ▸ h
theorem OI.five5 {W : World} {B D : Nat} {val : Nm → Value} {m : ImgD} (h : OI W B val m) (hD : D < B) (a0 a1 a2 a3 a4 : Value) : OI (((((W.setCell ⟨D, 0, none⟩ (a0)).setCell ⟨D, 1, none⟩ (a1)).setCell ⟨D, 2, none⟩ (a2)).setCell ⟨D, 3, none⟩ (a3)).setCell ⟨D, 4, none⟩ (a4)) B val m := by
  have hf : ∀ a, Live m a → (val a).ownBlock ≠ some D := fun a ha e => by have := ((h.row a ha).lt _ e).1; omega
  exact ((((h.far hf).far hf).far hf).far hf).far hf
theorem below_five5 {w W : World} {B D : Nat} (h : Below B w W) (hD : B ≤ D) (a0 a1 a2 a3 a4 : Value) : Below B w (((((W.setCell ⟨D, 0, none⟩ (a0)).setCell ⟨D, 1, none⟩ (a1)).setCell ⟨D, 2, none⟩ (a2)).setCell ⟨D, 3, none⟩ (a3)).setCell ⟨D, 4, none⟩ (a4)) :=
  ((((h.setCell (p := ⟨D, 0, none⟩) hD _).setCell (p := ⟨D, 1, none⟩) hD _).setCell (p := ⟨D, 2, none⟩) hD _).setCell (p := ⟨D, 3, none⟩) hD _).setCell (p := ⟨D, 4, none⟩) hD _

set_option maxHeartbeats 16000000 in
theorem winp_full (ra : Option Addr) (rc : Nat) (sa : Option Addr) (sc : Nat) (fa : Option Addr) (fc : Nat) (na : Option Addr) (nc : Nat) (m : ImgD) (n : Int) (one two : ByteArray) (w : World) (h : Img w (.agg #[.int .i64 m.guest, .slice ra m.root.length rc, .slice sa m.slots.length sc, .slice fa m.refs.length fc, .slice na m.snaps.length nc]) m) (MA : ImgD) (u : Nat) (HA : Hid (wrM m n one = MA ∧ wrE m n one = 7 ∧ slotsE m.slots = 0 ∧ usedN m.slots = u)) (hu1 : decide (38 ≤ u) = true) (hu2 : 38 ≤ u) (hu3 : decide ((38 : Int) ≤ (u : Int)) = true) :
    Calls Try.prog 6 #[.agg #[.int .i64 m.guest, .slice ra m.root.length rc, .slice sa m.slots.length sc, .slice fa m.refs.length fc, .slice na m.snaps.length nc], .int .i64 n, .string one, .string two] w fun r w' => r = .returned (.bool true) ∧ Below w.heap.size w w' := by
  have hB : Below w.heap.size w (w.alloc (.cells #[.int .i64 m.guest, .slice ra m.root.length rc, .slice sa m.slots.length sc, .slice fa m.refs.length fc, .slice na m.snaps.length nc] 26)) := (Below.refl _ _).alloc (Nat.le_refl _) _
  have mb_m : (w.alloc (.cells #[.int .i64 m.guest, .slice ra m.root.length rc, .slice sa m.slots.length sc, .slice fa m.refs.length fc, .slice na m.snaps.length nc] 26)).heap[w.heap.size]? = some (.cells #[.int .i64 m.guest, .slice ra m.root.length rc, .slice sa m.slots.length sc, .slice fa m.refs.length fc, .slice na m.snaps.length nc] 26) := World.alloc_heap_new _ _
  have I_m := h.below hB
  clear h
  go_enter Try.func6, Try.ntmps6
  obtain ⟨m0, m1, m2, m3, m4⟩ := five mb_m
  have hh_mb_m := Hid_mkW mb_m
  have hh_I_m := Hid_mkW I_m
  have hh_hB := Hid_mkW hB
  clear mb_m I_m hB
  go_wp2_with fail
  clear m0 m1 m2 m3 m4
  have mb_m := hh_mb_m.out
  have I_m := hh_I_m.out
  have hB := hh_hB.out
  clear hh_mb_m hh_I_m hh_hB
  refine (write_to I_m n one HA.out.1 HA.out.2.1).mono ?_
  intro e w1 hA
  obtain ⟨val, a_r, a_rc, a_s, a_sc, a_f, a_fc, a_n, a_nc, rfl, hO, bb, hI⟩ := hA.open
  dsimp only
  have I_a := hO.img
  rw [hI] at I_a
  clear hA hO hI
  replace mb_m := cells_below mb_m bb (Array.getElem?_eq_some_iff.1 mb_m).1
  replace hB := Below.on hB bb
  replace I_m := I_m.below bb
  clear bb
  replace mb_m := cells_alloc mb_m (.cells #[.int .i64 MA.guest, .slice a_r MA.root.length a_rc, .slice a_s MA.slots.length a_sc, .slice a_f MA.refs.length a_fc, .slice a_n MA.snaps.length a_nc] 26)
  have ba : Below w1.heap.size w1 (w1.alloc (.cells #[.int .i64 MA.guest, .slice a_r MA.root.length a_rc, .slice a_s MA.slots.length a_sc, .slice a_f MA.refs.length a_fc, .slice a_n MA.snaps.length a_nc] 26)) := (Below.refl _ _).alloc (Nat.le_refl _) _
  replace hB := Below.on hB ba
  replace I_m := I_m.below ba
  replace I_a := I_a.below ba
  clear ba
  have mb_a : (w1.alloc (.cells #[.int .i64 MA.guest, .slice a_r MA.root.length a_rc, .slice a_s MA.slots.length a_sc, .slice a_f MA.refs.length a_fc, .slice a_n MA.snaps.length a_nc] 26)).heap[w1.heap.size]? = some (.cells #[.int .i64 MA.guest, .slice a_r MA.root.length a_rc, .slice a_s MA.slots.length a_sc, .slice a_f MA.refs.length a_fc, .slice a_n MA.snaps.length a_nc] 26) := World.alloc_heap_new _ _
  clear I_a
  obtain ⟨m0, m1, m2, m3, m4⟩ := five mb_m
  have hh_mb_m := Hid_mkW mb_m
  have hh_mb_a := Hid_mkW mb_a
  have hh_I_m := Hid_mkW I_m
  have hh_hB := Hid_mkW hB
  clear mb_m mb_a I_m hB
  go_wp2_with fail
  clear m0 m1 m2 m3 m4
  have mb_m := hh_mb_m.out
  have mb_a := hh_mb_a.out
  have I_m := hh_I_m.out
  have hB := hh_hB.out
  clear hh_mb_m hh_mb_a hh_I_m hh_hB
  refine (used_is I_m.four.2.1 HA.out.2.2.1 HA.out.2.2.2).mono ?_
  rintro e w2 ⟨rfl, bb⟩
  replace mb_m := cells_below mb_m bb (Array.getElem?_eq_some_iff.1 mb_m).1
  replace mb_a := cells_below mb_a bb (Array.getElem?_eq_some_iff.1 mb_a).1
  replace hB := Below.on hB bb
  replace I_m := I_m.below bb
  clear bb
  have hh_mb_m := Hid_mkW mb_m
  have hh_mb_a := Hid_mkW mb_a
  have hh_I_m := Hid_mkW I_m
  have hh_hB := Hid_mkW hB
  clear mb_m mb_a I_m hB
  go_wp2_with fail
  have mb_m := hh_mb_m.out
  have mb_a := hh_mb_a.out
  have I_m := hh_I_m.out
  have hB := hh_hB.out
  clear hh_mb_m hh_mb_a hh_I_m hh_hB
  refine (writesBegun_any _).mono ?_
  rintro e w3 ⟨rfl, bb⟩
  replace mb_m := cells_below mb_m bb (Array.getElem?_eq_some_iff.1 mb_m).1
  replace mb_a := cells_below mb_a bb (Array.getElem?_eq_some_iff.1 mb_a).1
  replace hB := Below.on hB bb
  replace I_m := I_m.below bb
  clear bb
  have hh_mb_m := Hid_mkW mb_m
  have hh_mb_a := Hid_mkW mb_a
  have hh_I_m := Hid_mkW I_m
  have hh_hB := Hid_mkW hB
  clear mb_m mb_a I_m hB
  go_wp2_with fail
  go_ret
  have hB := hh_hB.out
  exact ⟨rfl, hB⟩

set_option maxHeartbeats 16000000 in
theorem winp_blk (ra : Option Addr) (rc : Nat) (sa : Option Addr) (sc : Nat) (fa : Option Addr) (fc : Nat) (na : Option Addr) (nc : Nat) (m : ImgD) (n : Int) (one two : ByteArray) (w : World) (h : Img w (.agg #[.int .i64 m.guest, .slice ra m.root.length rc, .slice sa m.slots.length sc, .slice fa m.refs.length fc, .slice na m.snaps.length nc]) m) (MA MD : ImgD) (u : Nat) (h2 : ((two.size : Int) == 4) = true) (HA : Hid (wrM m n one = MA ∧ wrE m n one = 0)) (HD : Hid (wrM MA n two = MD ∧ wrE MA n two = 0 ∧ slotsE MA.slots = 0 ∧ usedN MA.slots = u ∧ slotsE MD.slots = 0 ∧ usedN MD.slots = u ∧ MD.root = MA.root)) (hln : ((MA.slots.length : Int) != (MD.slots.length : Int)) = false) :
    Calls Try.prog 6 #[.agg #[.int .i64 m.guest, .slice ra m.root.length rc, .slice sa m.slots.length sc, .slice fa m.refs.length fc, .slice na m.snaps.length nc], .int .i64 n, .string one, .string two] w fun r w' => r = .returned (.bool true) ∧ Below w.heap.size w w' := by
  have hB : Below w.heap.size w (w.alloc (.cells #[.int .i64 m.guest, .slice ra m.root.length rc, .slice sa m.slots.length sc, .slice fa m.refs.length fc, .slice na m.snaps.length nc] 26)) := (Below.refl _ _).alloc (Nat.le_refl _) _
  have mb_m : (w.alloc (.cells #[.int .i64 m.guest, .slice ra m.root.length rc, .slice sa m.slots.length sc, .slice fa m.refs.length fc, .slice na m.snaps.length nc] 26)).heap[w.heap.size]? = some (.cells #[.int .i64 m.guest, .slice ra m.root.length rc, .slice sa m.slots.length sc, .slice fa m.refs.length fc, .slice na m.snaps.length nc] 26) := World.alloc_heap_new _ _
  have I_m := h.below hB
  obtain ⟨MB, hMB⟩ : ∃ X, puM m n (-1) = X := ⟨_, rfl⟩
  obtain ⟨EB, hEB⟩ : ∃ X, puE m n (-1) = X := ⟨_, rfl⟩
  obtain ⟨MC, hMC⟩ : ∃ X, puM m n 0 = X := ⟨_, rfl⟩
  obtain ⟨EC, hEC⟩ : ∃ X, puE m n 0 = X := ⟨_, rfl⟩
  have HB : Hid (puM m n (-1) = MB ∧ puE m n (-1) = EB) := ⟨hMB, hEB⟩
  have HC : Hid (puM m n 0 = MC ∧ puE m n 0 = EC) := ⟨hMC, hEC⟩
  have KB : Hid (EB = 0 → puE MB n (-1) = 0 ∧ puM MB n (-1) = MB) := fun e => by subst hMB hEB; exact pu_again (Or.inr rfl) e
  have KC : Hid (EC = 0 → puE MC n 0 = 0 ∧ puM MC n 0 = MC) := fun e => by subst hMC hEC; exact pu_again (Or.inl rfl) e
  clear hMB hEB hMC hEC
  clear h
  go_enter Try.func6, Try.ntmps6
  obtain ⟨m0, m1, m2, m3, m4⟩ := five mb_m
  have hh_mb_m := Hid_mkW mb_m
  have hh_I_m := Hid_mkW I_m
  have hh_hB := Hid_mkW hB
  clear mb_m I_m hB
  go_wp2_with fail
  clear m0 m1 m2 m3 m4
  have mb_m := hh_mb_m.out
  have I_m := hh_I_m.out
  have hB := hh_hB.out
  clear hh_mb_m hh_I_m hh_hB
  refine (write_to I_m n one HA.out.1 HA.out.2).mono ?_
  intro e w1 hA
  obtain ⟨val, a_r, a_rc, a_s, a_sc, a_f, a_fc, a_n, a_nc, rfl, hO, bb, hI⟩ := hA.open
  dsimp only
  have I_a := hO.img
  rw [hI] at I_a
  clear hA hO hI
  replace mb_m := cells_below mb_m bb (Array.getElem?_eq_some_iff.1 mb_m).1
  replace hB := Below.on hB bb
  replace I_m := I_m.below bb
  clear bb
  replace mb_m := cells_alloc mb_m (.cells #[.int .i64 MA.guest, .slice a_r MA.root.length a_rc, .slice a_s MA.slots.length a_sc, .slice a_f MA.refs.length a_fc, .slice a_n MA.snaps.length a_nc] 26)
  have ba : Below w1.heap.size w1 (w1.alloc (.cells #[.int .i64 MA.guest, .slice a_r MA.root.length a_rc, .slice a_s MA.slots.length a_sc, .slice a_f MA.refs.length a_fc, .slice a_n MA.snaps.length a_nc] 26)) := (Below.refl _ _).alloc (Nat.le_refl _) _
  replace hB := Below.on hB ba
  replace I_m := I_m.below ba
  replace I_a := I_a.below ba
  clear ba
  have mb_a : (w1.alloc (.cells #[.int .i64 MA.guest, .slice a_r MA.root.length a_rc, .slice a_s MA.slots.length a_sc, .slice a_f MA.refs.length a_fc, .slice a_n MA.snaps.length a_nc] 26)).heap[w1.heap.size]? = some (.cells #[.int .i64 MA.guest, .slice a_r MA.root.length a_rc, .slice a_s MA.slots.length a_sc, .slice a_f MA.refs.length a_fc, .slice a_n MA.snaps.length a_nc] 26) := World.alloc_heap_new _ _
  obtain ⟨a0, a1, a2, a3, a4⟩ := five mb_a
  have hh_mb_m := Hid_mkW mb_m
  have hh_mb_a := Hid_mkW mb_a
  have hh_I_m := Hid_mkW I_m
  have hh_I_a := Hid_mkW I_a
  have hh_hB := Hid_mkW hB
  clear mb_m mb_a I_m I_a hB
  go_wp2_with fail
  clear a0 a1 a2 a3 a4
  have mb_m := hh_mb_m.out
  have mb_a := hh_mb_a.out
  have I_m := hh_I_m.out
  have I_a := hh_I_a.out
  have hB := hh_hB.out
  clear hh_mb_m hh_mb_a hh_I_m hh_I_a hh_hB
  refine (write_to I_a n two HD.out.1 HD.out.2.1).mono ?_
  intro e w2 hA
  obtain ⟨val, b_r, b_rc, b_s, b_sc, b_f, b_fc, b_n, b_nc, rfl, hO, bb, hI⟩ := hA.open
  dsimp only
  have I_b := hO.img
  rw [hI] at I_b
  clear hA hO hI
  replace mb_m := cells_below mb_m bb (Array.getElem?_eq_some_iff.1 mb_m).1
  replace mb_a := cells_below mb_a bb (Array.getElem?_eq_some_iff.1 mb_a).1
  replace hB := Below.on hB bb
  replace I_m := I_m.below bb
  replace I_a := I_a.below bb
  clear bb
  replace mb_m := cells_alloc mb_m (.cells #[.int .i64 MD.guest, .slice b_r MD.root.length b_rc, .slice b_s MD.slots.length b_sc, .slice b_f MD.refs.length b_fc, .slice b_n MD.snaps.length b_nc] 26)
  replace mb_a := cells_alloc mb_a (.cells #[.int .i64 MD.guest, .slice b_r MD.root.length b_rc, .slice b_s MD.slots.length b_sc, .slice b_f MD.refs.length b_fc, .slice b_n MD.snaps.length b_nc] 26)
  have ba : Below w2.heap.size w2 (w2.alloc (.cells #[.int .i64 MD.guest, .slice b_r MD.root.length b_rc, .slice b_s MD.slots.length b_sc, .slice b_f MD.refs.length b_fc, .slice b_n MD.snaps.length b_nc] 26)) := (Below.refl _ _).alloc (Nat.le_refl _) _
  replace hB := Below.on hB ba
  replace I_m := I_m.below ba
  replace I_a := I_a.below ba
  replace I_b := I_b.below ba
  clear ba
  have mb_b : (w2.alloc (.cells #[.int .i64 MD.guest, .slice b_r MD.root.length b_rc, .slice b_s MD.slots.length b_sc, .slice b_f MD.refs.length b_fc, .slice b_n MD.snaps.length b_nc] 26)).heap[w2.heap.size]? = some (.cells #[.int .i64 MD.guest, .slice b_r MD.root.length b_rc, .slice b_s MD.slots.length b_sc, .slice b_f MD.refs.length b_fc, .slice b_n MD.snaps.length b_nc] 26) := World.alloc_heap_new _ _
  obtain ⟨a0, a1, a2, a3, a4⟩ := five mb_a
  have hh_mb_m := Hid_mkW mb_m
  have hh_mb_a := Hid_mkW mb_a
  have hh_mb_b := Hid_mkW mb_b
  have hh_I_m := Hid_mkW I_m
  have hh_I_a := Hid_mkW I_a
  have hh_I_b := Hid_mkW I_b
  have hh_hB := Hid_mkW hB
  clear mb_m mb_a mb_b I_m I_a I_b hB
  go_wp2_with fail
  clear a0 a1 a2 a3 a4
  have mb_m := hh_mb_m.out
  have mb_a := hh_mb_a.out
  have mb_b := hh_mb_b.out
  have I_m := hh_I_m.out
  have I_a := hh_I_a.out
  have I_b := hh_I_b.out
  have hB := hh_hB.out
  clear hh_mb_m hh_mb_a hh_mb_b hh_I_m hh_I_a hh_I_b hh_hB
  refine (used_is I_a.four.2.1 HD.out.2.2.1 HD.out.2.2.2.1).mono ?_
  rintro e w3 ⟨rfl, bb⟩
  replace mb_m := cells_below mb_m bb (Array.getElem?_eq_some_iff.1 mb_m).1
  replace mb_a := cells_below mb_a bb (Array.getElem?_eq_some_iff.1 mb_a).1
  replace mb_b := cells_below mb_b bb (Array.getElem?_eq_some_iff.1 mb_b).1
  replace hB := Below.on hB bb
  replace I_m := I_m.below bb
  replace I_a := I_a.below bb
  replace I_b := I_b.below bb
  clear bb
  obtain ⟨b0, b1, b2, b3, b4⟩ := five mb_b
  have hh_mb_m := Hid_mkW mb_m
  have hh_mb_a := Hid_mkW mb_a
  have hh_mb_b := Hid_mkW mb_b
  have hh_I_m := Hid_mkW I_m
  have hh_I_a := Hid_mkW I_a
  have hh_I_b := Hid_mkW I_b
  have hh_hB := Hid_mkW hB
  clear mb_m mb_a mb_b I_m I_a I_b hB
  go_wp2_with fail
  clear b0 b1 b2 b3 b4
  have mb_m := hh_mb_m.out
  have mb_a := hh_mb_a.out
  have mb_b := hh_mb_b.out
  have I_m := hh_I_m.out
  have I_a := hh_I_a.out
  have I_b := hh_I_b.out
  have hB := hh_hB.out
  clear hh_mb_m hh_mb_a hh_mb_b hh_I_m hh_I_a hh_I_b hh_hB
  refine (used_is I_b.four.2.1 HD.out.2.2.2.2.1 HD.out.2.2.2.2.2.1).mono ?_
  rintro e w4 ⟨rfl, bb⟩
  replace mb_m := cells_below mb_m bb (Array.getElem?_eq_some_iff.1 mb_m).1
  replace mb_a := cells_below mb_a bb (Array.getElem?_eq_some_iff.1 mb_a).1
  replace mb_b := cells_below mb_b bb (Array.getElem?_eq_some_iff.1 mb_b).1
  replace hB := Below.on hB bb
  replace I_m := I_m.below bb
  replace I_a := I_a.below bb
  replace I_b := I_b.below bb
  clear bb
  obtain ⟨a0, a1, a2, a3, a4⟩ := five mb_a
  obtain ⟨b0, b1, b2, b3, b4⟩ := five mb_b
  have hh_mb_m := Hid_mkW mb_m
  have hh_mb_a := Hid_mkW mb_a
  have hh_mb_b := Hid_mkW mb_b
  have hh_I_m := Hid_mkW I_m
  have hh_I_a := Hid_mkW I_a
  have hh_I_b := Hid_mkW I_b
  have hh_hB := Hid_mkW hB
  clear mb_m mb_a mb_b I_m I_a I_b hB
  go_wp2_with fail
  clear a0 a1 a2 a3 a4 b0 b1 b2 b3 b4
  have mb_m := hh_mb_m.out
  have mb_a := hh_mb_a.out
  have mb_b := hh_mb_b.out
  have I_m := hh_I_m.out
  have I_a := hh_I_a.out
  have I_b := hh_I_b.out
  have hB := hh_hB.out
  clear hh_mb_m hh_mb_a hh_mb_b hh_I_m hh_I_a hh_I_b hh_hB
  refine (same_any I_a.four.1 (Sl.eqTo I_b.four.1 HD.out.2.2.2.2.2.2)).mono ?_
  rintro e w5 ⟨rfl, bb⟩
  replace mb_m := cells_below mb_m bb (Array.getElem?_eq_some_iff.1 mb_m).1
  replace mb_a := cells_below mb_a bb (Array.getElem?_eq_some_iff.1 mb_a).1
  replace mb_b := cells_below mb_b bb (Array.getElem?_eq_some_iff.1 mb_b).1
  replace hB := Below.on hB bb
  replace I_m := I_m.below bb
  replace I_a := I_a.below bb
  replace I_b := I_b.below bb
  clear bb
  obtain ⟨m0, m1, m2, m3, m4⟩ := five mb_m
  obtain ⟨a0, a1, a2, a3, a4⟩ := five mb_a
  obtain ⟨b0, b1, b2, b3, b4⟩ := five mb_b
  have hh_mb_m := Hid_mkW mb_m
  have hh_mb_a := Hid_mkW mb_a
  have hh_mb_b := Hid_mkW mb_b
  have hh_I_m := Hid_mkW I_m
  have hh_I_a := Hid_mkW I_a
  have hh_I_b := Hid_mkW I_b
  have hh_hB := Hid_mkW hB
  clear mb_m mb_a mb_b I_m I_a I_b hB
  go_wp2_with fail
  clear m0 m1 m2 m3 m4 a0 a1 a2 a3 a4 b0 b1 b2 b3 b4
  have mb_m := hh_mb_m.out
  have mb_a := hh_mb_a.out
  have mb_b := hh_mb_b.out
  have I_m := hh_I_m.out
  have I_a := hh_I_a.out
  have I_b := hh_I_b.out
  have hB := hh_hB.out
  clear hh_mb_m hh_mb_a hh_mb_b hh_I_m hh_I_a hh_I_b hh_hB
  refine (wipe_to I_m n HB.out.1 HB.out.2).mono ?_
  intro e w6 hA
  obtain ⟨val, c_r, c_rc, c_s, c_sc, c_f, c_fc, c_n, c_nc, rfl, hO, bb, hI⟩ := hA.open
  dsimp only
  have I_c := hO.img
  rw [hI] at I_c
  clear hA hO hI
  replace mb_m := cells_below mb_m bb (Array.getElem?_eq_some_iff.1 mb_m).1
  replace mb_a := cells_below mb_a bb (Array.getElem?_eq_some_iff.1 mb_a).1
  replace mb_b := cells_below mb_b bb (Array.getElem?_eq_some_iff.1 mb_b).1
  replace hB := Below.on hB bb
  replace I_m := I_m.below bb
  replace I_a := I_a.below bb
  replace I_b := I_b.below bb
  clear bb
  clear mb_a
  clear mb_b
  clear I_a
  clear I_b
  have hle_c : Hid (w.heap.size ≤ w6.heap.size) := hB.size
  replace mb_m := cells_alloc mb_m (.cells #[.int .i64 MB.guest, .slice c_r MB.root.length c_rc, .slice c_s MB.slots.length c_sc, .slice c_f MB.refs.length c_fc, .slice c_n MB.snaps.length c_nc] 26)
  have ba : Below w6.heap.size w6 (w6.alloc (.cells #[.int .i64 MB.guest, .slice c_r MB.root.length c_rc, .slice c_s MB.slots.length c_sc, .slice c_f MB.refs.length c_fc, .slice c_n MB.snaps.length c_nc] 26)) := (Below.refl _ _).alloc (Nat.le_refl _) _
  replace hB := Below.on hB ba
  replace I_m := I_m.below ba
  replace I_c := I_c.below ba
  clear ba
  have mb_c : (w6.alloc (.cells #[.int .i64 MB.guest, .slice c_r MB.root.length c_rc, .slice c_s MB.slots.length c_sc, .slice c_f MB.refs.length c_fc, .slice c_n MB.snaps.length c_nc] 26)).heap[w6.heap.size]? = some (.cells #[.int .i64 MB.guest, .slice c_r MB.root.length c_rc, .slice c_s MB.slots.length c_sc, .slice c_f MB.refs.length c_fc, .slice c_n MB.snaps.length c_nc] 26) := World.alloc_heap_new _ _
  rcases Bool.eq_false_or_eq_true (EB == 0) with bEB | bEB
  · skip
    have nEB : (EB != 0) = false := by show (!(EB == 0)) = _; rw [bEB]; rfl
    have k0 := KB.out (by simpa using bEB)
    have H2 : Hid (puM MB n (-1) = MB ∧ puE MB n (-1) = 0) := ⟨k0.2, k0.1⟩
    clear k0
    obtain ⟨c0, c1, c2, c3, c4⟩ := five mb_c
    have hh_mb_m := Hid_mkW mb_m
    have hh_mb_c := Hid_mkW mb_c
    have hh_I_m := Hid_mkW I_m
    have hh_I_c := Hid_mkW I_c
    have hh_hB := Hid_mkW hB
    clear mb_m mb_c I_m I_c hB
    go_wp2_with fail
    clear c0 c1 c2 c3 c4
    have mb_m := hh_mb_m.out
    have mb_c := hh_mb_c.out
    have I_m := hh_I_m.out
    have I_c := hh_I_c.out
    have hB := hh_hB.out
    clear hh_mb_m hh_mb_c hh_I_m hh_I_c hh_hB
    refine (wipe_to I_c n H2.out.1 H2.out.2).mono ?_
    intro e w7 hA
    obtain ⟨val, d_r, d_rc, d_s, d_sc, d_f, d_fc, d_n, d_nc, rfl, hO, bb, hI⟩ := hA.open
    dsimp only
    have I_d := hO.img
    rw [hI] at I_d
    clear hA hO hI
    replace mb_m := cells_below mb_m bb (Array.getElem?_eq_some_iff.1 mb_m).1
    replace mb_c := cells_below mb_c bb (Array.getElem?_eq_some_iff.1 mb_c).1
    replace hB := Below.on hB bb
    replace I_m := I_m.below bb
    replace I_c := I_c.below bb
    clear bb
    replace mb_m := cells_alloc mb_m (.cells #[.int .i64 MB.guest, .slice d_r MB.root.length d_rc, .slice d_s MB.slots.length d_sc, .slice d_f MB.refs.length d_fc, .slice d_n MB.snaps.length d_nc] 26)
    replace mb_c := cells_alloc mb_c (.cells #[.int .i64 MB.guest, .slice d_r MB.root.length d_rc, .slice d_s MB.slots.length d_sc, .slice d_f MB.refs.length d_fc, .slice d_n MB.snaps.length d_nc] 26)
    have ba : Below w7.heap.size w7 (w7.alloc (.cells #[.int .i64 MB.guest, .slice d_r MB.root.length d_rc, .slice d_s MB.slots.length d_sc, .slice d_f MB.refs.length d_fc, .slice d_n MB.snaps.length d_nc] 26)) := (Below.refl _ _).alloc (Nat.le_refl _) _
    replace hB := Below.on hB ba
    replace I_m := I_m.below ba
    replace I_c := I_c.below ba
    replace I_d := I_d.below ba
    clear ba
    have mb_d : (w7.alloc (.cells #[.int .i64 MB.guest, .slice d_r MB.root.length d_rc, .slice d_s MB.slots.length d_sc, .slice d_f MB.refs.length d_fc, .slice d_n MB.snaps.length d_nc] 26)).heap[w7.heap.size]? = some (.cells #[.int .i64 MB.guest, .slice d_r MB.root.length d_rc, .slice d_s MB.slots.length d_sc, .slice d_f MB.refs.length d_fc, .slice d_n MB.snaps.length d_nc] 26) := World.alloc_heap_new _ _
    obtain ⟨c0, c1, c2, c3, c4⟩ := five mb_c
    obtain ⟨d0, d1, d2, d3, d4⟩ := five mb_d
    have hh_mb_m := Hid_mkW mb_m
    have hh_mb_c := Hid_mkW mb_c
    have hh_mb_d := Hid_mkW mb_d
    have hh_I_m := Hid_mkW I_m
    have hh_I_c := Hid_mkW I_c
    have hh_I_d := Hid_mkW I_d
    have hh_hB := Hid_mkW hB
    clear mb_m mb_c mb_d I_m I_c I_d hB
    go_wp2_with fail
    clear c0 c1 c2 c3 c4 d0 d1 d2 d3 d4
    have mb_m := hh_mb_m.out
    have mb_c := hh_mb_c.out
    have mb_d := hh_mb_d.out
    have I_m := hh_I_m.out
    have I_c := hh_I_c.out
    have I_d := hh_I_d.out
    have hB := hh_hB.out
    clear hh_mb_m hh_mb_c hh_mb_d hh_I_m hh_I_c hh_I_d hh_hB
    refine (sameI_is I_c I_d).mono ?_
    rintro e w8 ⟨rfl, bb⟩
    replace mb_m := cells_below mb_m bb (Array.getElem?_eq_some_iff.1 mb_m).1
    replace mb_c := cells_below mb_c bb (Array.getElem?_eq_some_iff.1 mb_c).1
    replace mb_d := cells_below mb_d bb (Array.getElem?_eq_some_iff.1 mb_d).1
    replace hB := Below.on hB bb
    replace I_m := I_m.below bb
    replace I_c := I_c.below bb
    replace I_d := I_d.below bb
    clear bb
    clear mb_d
    clear I_d
    clear I_c
    obtain ⟨m0, m1, m2, m3, m4⟩ := five mb_m
    have hh_mb_m := Hid_mkW mb_m
    have hh_mb_c := Hid_mkW mb_c
    have hh_I_m := Hid_mkW I_m
    have hh_hB := Hid_mkW hB
    clear mb_m mb_c I_m hB
    go_wp2_with fail
    clear m0 m1 m2 m3 m4
    have mb_m := hh_mb_m.out
    have mb_c := hh_mb_c.out
    have I_m := hh_I_m.out
    have hB := hh_hB.out
    clear hh_mb_m hh_mb_c hh_I_m hh_hB
    refine (punch_to I_m n HC.out.1 HC.out.2).mono ?_
    intro e w9 hA
    obtain ⟨val, p_r, p_rc, p_s, p_sc, p_f, p_fc, p_n, p_nc, rfl, hO, bb, hI⟩ := hA.open
    dsimp only
    have hcl : w6.heap.size < w8.heap.size := (Array.getElem?_eq_some_iff.1 mb_c).1
    have HO : Hid (OI w9 w8.heap.size val MC ∧ imgV MC.guest val = .agg #[.int .i64 MC.guest, .slice p_r MC.root.length p_rc, .slice p_s MC.slots.length p_sc, .slice p_f MC.refs.length p_fc, .slice p_n MC.snaps.length p_nc]) := ⟨hO, hI⟩
    clear hA hO hI
    clear mb_m
    clear I_m
    replace mb_c := cells_below mb_c bb (Array.getElem?_eq_some_iff.1 mb_c).1
    replace hB := Below.on hB bb
    clear bb
    have h0c : Hid (w.heap.size ≤ w6.heap.size) := hle_c.out
    rcases Bool.eq_false_or_eq_true (EC == 0) with bEC | bEC
    · skip
      have nEC : (EC != 0) = false := by show (!(EC == 0)) = _; rw [bEC]; rfl
      have k0 := KC.out (by simpa using bEC)
      have H3 : Hid (puM MC n 0 = MC ∧ puE MC n 0 = 0) := ⟨k0.2, k0.1⟩
      clear k0
      obtain ⟨c0, c1, c2, c3, c4⟩ := five mb_c
      have y0 := cells_frozen mb_c 0
      have y1 := cells_frozen mb_c 1
      have y2 := cells_frozen mb_c 2
      have y3 := cells_frozen mb_c 3
      have y4 := cells_frozen mb_c 4
      have hh_mb_c := Hid_mkW mb_c
      have hh_hB := Hid_mkW hB
      clear mb_c hB
      go_wp2_with fail
      clear c0 c1 c2 c3 c4 y0 y1 y2 y3 y4
      have mb_c := hh_mb_c.out
      have hB := hh_hB.out
      clear hh_mb_c hh_hB
      replace hB : Below w.heap.size w (((((w9.setCell ⟨w6.heap.size, 0, none⟩ (.int .i64 MC.guest)).setCell ⟨w6.heap.size, 1, none⟩ (.slice p_r MC.root.length p_rc)).setCell ⟨w6.heap.size, 2, none⟩ (.slice p_s MC.slots.length p_sc)).setCell ⟨w6.heap.size, 3, none⟩ (.slice p_f MC.refs.length p_fc)).setCell ⟨w6.heap.size, 4, none⟩ (.slice p_n MC.snaps.length p_nc)) := below_five5 hB (by have := h0c.out; omega) _ _ _ _ _
      replace mb_c : (((((w9.setCell ⟨w6.heap.size, 0, none⟩ (.int .i64 MC.guest)).setCell ⟨w6.heap.size, 1, none⟩ (.slice p_r MC.root.length p_rc)).setCell ⟨w6.heap.size, 2, none⟩ (.slice p_s MC.slots.length p_sc)).setCell ⟨w6.heap.size, 3, none⟩ (.slice p_f MC.refs.length p_fc)).setCell ⟨w6.heap.size, 4, none⟩ (.slice p_n MC.snaps.length p_nc)).heap[w6.heap.size]? = some (.cells #[.int .i64 MC.guest, .slice p_r MC.root.length p_rc, .slice p_s MC.slots.length p_sc, .slice p_f MC.refs.length p_fc, .slice p_n MC.snaps.length p_nc] 26) := cells_set (cells_set (cells_set (cells_set (cells_set mb_c 0 _) 1 _) 2 _) 3 _) 4 _
      have I_c : Img (((((w9.setCell ⟨w6.heap.size, 0, none⟩ (.int .i64 MC.guest)).setCell ⟨w6.heap.size, 1, none⟩ (.slice p_r MC.root.length p_rc)).setCell ⟨w6.heap.size, 2, none⟩ (.slice p_s MC.slots.length p_sc)).setCell ⟨w6.heap.size, 3, none⟩ (.slice p_f MC.refs.length p_fc)).setCell ⟨w6.heap.size, 4, none⟩ (.slice p_n MC.snaps.length p_nc)) (.agg #[.int .i64 MC.guest, .slice p_r MC.root.length p_rc, .slice p_s MC.slots.length p_sc, .slice p_f MC.refs.length p_fc, .slice p_n MC.snaps.length p_nc]) MC := by have h := (HO.out.1.five5 hcl (.int .i64 MC.guest) (.slice p_r MC.root.length p_rc) (.slice p_s MC.slots.length p_sc) (.slice p_f MC.refs.length p_fc) (.slice p_n MC.snaps.length p_nc)).img; rw [HO.out.2] at h; exact h
      refine (punch_to I_c n H3.out.1 H3.out.2).mono ?_
      intro e w10 hA
      obtain ⟨val2, d_r, d_rc, d_s, d_sc, d_f, d_fc, d_n, d_nc, rfl, hO, bb, hI⟩ := hA.open
      dsimp only
      have I_d := hO.img
      rw [hI] at I_d
      clear hA hO hI
      replace mb_c := cells_below mb_c bb (Array.getElem?_eq_some_iff.1 mb_c).1
      replace hB := Below.on hB bb
      replace I_c := I_c.below bb
      clear bb
      replace mb_c := cells_alloc mb_c (.cells #[.int .i64 MC.guest, .slice d_r MC.root.length d_rc, .slice d_s MC.slots.length d_sc, .slice d_f MC.refs.length d_fc, .slice d_n MC.snaps.length d_nc] 26)
      have ba : Below w10.heap.size w10 (w10.alloc (.cells #[.int .i64 MC.guest, .slice d_r MC.root.length d_rc, .slice d_s MC.slots.length d_sc, .slice d_f MC.refs.length d_fc, .slice d_n MC.snaps.length d_nc] 26)) := (Below.refl _ _).alloc (Nat.le_refl _) _
      replace hB := Below.on hB ba
      replace I_c := I_c.below ba
      replace I_d := I_d.below ba
      clear ba
      have mb_d : (w10.alloc (.cells #[.int .i64 MC.guest, .slice d_r MC.root.length d_rc, .slice d_s MC.slots.length d_sc, .slice d_f MC.refs.length d_fc, .slice d_n MC.snaps.length d_nc] 26)).heap[w10.heap.size]? = some (.cells #[.int .i64 MC.guest, .slice d_r MC.root.length d_rc, .slice d_s MC.slots.length d_sc, .slice d_f MC.refs.length d_fc, .slice d_n MC.snaps.length d_nc] 26) := World.alloc_heap_new _ _
      have hh_mb_c := Hid_mkW mb_c
      have hh_mb_d := Hid_mkW mb_d
      have hh_I_c := Hid_mkW I_c
      have hh_I_d := Hid_mkW I_d
      have hh_hB := Hid_mkW hB
      clear mb_c mb_d I_c I_d hB
      go_wp2_with fail
      have mb_c := hh_mb_c.out
      have mb_d := hh_mb_d.out
      have I_c := hh_I_c.out
      have I_d := hh_I_d.out
      have hB := hh_hB.out
      clear hh_mb_c hh_mb_d hh_I_c hh_I_d hh_hB
      refine (writesBegun_any _).mono ?_
      rintro e w11 ⟨rfl, bb⟩
      replace mb_c := cells_below mb_c bb (Array.getElem?_eq_some_iff.1 mb_c).1
      replace mb_d := cells_below mb_d bb (Array.getElem?_eq_some_iff.1 mb_d).1
      replace hB := Below.on hB bb
      replace I_c := I_c.below bb
      replace I_d := I_d.below bb
      clear bb
      obtain ⟨c0, c1, c2, c3, c4⟩ := five mb_c
      obtain ⟨d0, d1, d2, d3, d4⟩ := five mb_d
      have hh_mb_c := Hid_mkW mb_c
      have hh_mb_d := Hid_mkW mb_d
      have hh_I_c := Hid_mkW I_c
      have hh_I_d := Hid_mkW I_d
      have hh_hB := Hid_mkW hB
      clear mb_c mb_d I_c I_d hB
      go_wp2_with fail
      clear c0 c1 c2 c3 c4 d0 d1 d2 d3 d4
      have mb_c := hh_mb_c.out
      have mb_d := hh_mb_d.out
      have I_c := hh_I_c.out
      have I_d := hh_I_d.out
      have hB := hh_hB.out
      clear hh_mb_c hh_mb_d hh_I_c hh_I_d hh_hB
      refine (sameI_is I_c I_d).mono ?_
      rintro e w12 ⟨rfl, bb⟩
      replace mb_c := cells_below mb_c bb (Array.getElem?_eq_some_iff.1 mb_c).1
      replace mb_d := cells_below mb_d bb (Array.getElem?_eq_some_iff.1 mb_d).1
      replace hB := Below.on hB bb
      replace I_c := I_c.below bb
      replace I_d := I_d.below bb
      clear bb
      have hh_mb_c := Hid_mkW mb_c
      have hh_mb_d := Hid_mkW mb_d
      have hh_I_c := Hid_mkW I_c
      have hh_I_d := Hid_mkW I_d
      have hh_hB := Hid_mkW hB
      clear mb_c mb_d I_c I_d hB
      go_wp2_with fail
      go_ret
      have hB := hh_hB.out
      exact ⟨rfl, hB⟩
    · skip
      have nEC : (EC != 0) = true := by show (!(EC == 0)) = _; rw [bEC]; rfl
      obtain ⟨c0, c1, c2, c3, c4⟩ := five mb_c
      have y0 := cells_frozen mb_c 0
      have y1 := cells_frozen mb_c 1
      have y2 := cells_frozen mb_c 2
      have y3 := cells_frozen mb_c 3
      have y4 := cells_frozen mb_c 4
      have hh_mb_c := Hid_mkW mb_c
      have hh_hB := Hid_mkW hB
      clear mb_c hB
      go_wp2_with fail
      clear c0 c1 c2 c3 c4 y0 y1 y2 y3 y4
      have mb_c := hh_mb_c.out
      have hB := hh_hB.out
      clear hh_mb_c hh_hB
      replace hB : Below w.heap.size w (((((w9.setCell ⟨w6.heap.size, 0, none⟩ (.int .i64 MC.guest)).setCell ⟨w6.heap.size, 1, none⟩ (.slice p_r MC.root.length p_rc)).setCell ⟨w6.heap.size, 2, none⟩ (.slice p_s MC.slots.length p_sc)).setCell ⟨w6.heap.size, 3, none⟩ (.slice p_f MC.refs.length p_fc)).setCell ⟨w6.heap.size, 4, none⟩ (.slice p_n MC.snaps.length p_nc)) := below_five5 hB (by have := h0c.out; omega) _ _ _ _ _
      replace mb_c : (((((w9.setCell ⟨w6.heap.size, 0, none⟩ (.int .i64 MC.guest)).setCell ⟨w6.heap.size, 1, none⟩ (.slice p_r MC.root.length p_rc)).setCell ⟨w6.heap.size, 2, none⟩ (.slice p_s MC.slots.length p_sc)).setCell ⟨w6.heap.size, 3, none⟩ (.slice p_f MC.refs.length p_fc)).setCell ⟨w6.heap.size, 4, none⟩ (.slice p_n MC.snaps.length p_nc)).heap[w6.heap.size]? = some (.cells #[.int .i64 MC.guest, .slice p_r MC.root.length p_rc, .slice p_s MC.slots.length p_sc, .slice p_f MC.refs.length p_fc, .slice p_n MC.snaps.length p_nc] 26) := cells_set (cells_set (cells_set (cells_set (cells_set mb_c 0 _) 1 _) 2 _) 3 _) 4 _
      refine (writesBegun_any _).mono ?_
      rintro e w10 ⟨rfl, bb⟩
      replace mb_c := cells_below mb_c bb (Array.getElem?_eq_some_iff.1 mb_c).1
      replace hB := Below.on hB bb
      clear bb
      have hh_mb_c := Hid_mkW mb_c
      have hh_hB := Hid_mkW hB
      clear mb_c hB
      go_wp2_with fail
      go_ret
      have hB := hh_hB.out
      exact ⟨rfl, hB⟩
  · skip
    have nEB : (EB != 0) = true := by show (!(EB == 0)) = _; rw [bEB]; rfl
    clear I_c
    obtain ⟨m0, m1, m2, m3, m4⟩ := five mb_m
    have hh_mb_m := Hid_mkW mb_m
    have hh_mb_c := Hid_mkW mb_c
    have hh_I_m := Hid_mkW I_m
    have hh_hB := Hid_mkW hB
    clear mb_m mb_c I_m hB
    go_wp2_with fail
    clear m0 m1 m2 m3 m4
    have mb_m := hh_mb_m.out
    have mb_c := hh_mb_c.out
    have I_m := hh_I_m.out
    have hB := hh_hB.out
    clear hh_mb_m hh_mb_c hh_I_m hh_hB
    refine (punch_to I_m n HC.out.1 HC.out.2).mono ?_
    intro e w7 hA
    obtain ⟨val, p_r, p_rc, p_s, p_sc, p_f, p_fc, p_n, p_nc, rfl, hO, bb, hI⟩ := hA.open
    dsimp only
    have hcl : w6.heap.size < (w6.alloc (.cells #[.int .i64 MB.guest, .slice c_r MB.root.length c_rc, .slice c_s MB.slots.length c_sc, .slice c_f MB.refs.length c_fc, .slice c_n MB.snaps.length c_nc] 26)).heap.size := (Array.getElem?_eq_some_iff.1 mb_c).1
    have HO : Hid (OI w7 (w6.alloc (.cells #[.int .i64 MB.guest, .slice c_r MB.root.length c_rc, .slice c_s MB.slots.length c_sc, .slice c_f MB.refs.length c_fc, .slice c_n MB.snaps.length c_nc] 26)).heap.size val MC ∧ imgV MC.guest val = .agg #[.int .i64 MC.guest, .slice p_r MC.root.length p_rc, .slice p_s MC.slots.length p_sc, .slice p_f MC.refs.length p_fc, .slice p_n MC.snaps.length p_nc]) := ⟨hO, hI⟩
    clear hA hO hI
    clear mb_m
    clear I_m
    replace mb_c := cells_below mb_c bb (Array.getElem?_eq_some_iff.1 mb_c).1
    replace hB := Below.on hB bb
    clear bb
    have h0c : Hid (w.heap.size ≤ w6.heap.size) := hle_c.out
    rcases Bool.eq_false_or_eq_true (EC == 0) with bEC | bEC
    · skip
      have nEC : (EC != 0) = false := by show (!(EC == 0)) = _; rw [bEC]; rfl
      have k0 := KC.out (by simpa using bEC)
      have H3 : Hid (puM MC n 0 = MC ∧ puE MC n 0 = 0) := ⟨k0.2, k0.1⟩
      clear k0
      obtain ⟨c0, c1, c2, c3, c4⟩ := five mb_c
      have y0 := cells_frozen mb_c 0
      have y1 := cells_frozen mb_c 1
      have y2 := cells_frozen mb_c 2
      have y3 := cells_frozen mb_c 3
      have y4 := cells_frozen mb_c 4
      have hh_mb_c := Hid_mkW mb_c
      have hh_hB := Hid_mkW hB
      clear mb_c hB
      go_wp2_with fail
      clear c0 c1 c2 c3 c4 y0 y1 y2 y3 y4
      have mb_c := hh_mb_c.out
      have hB := hh_hB.out
      clear hh_mb_c hh_hB
      replace hB : Below w.heap.size w (((((w7.setCell ⟨w6.heap.size, 0, none⟩ (.int .i64 MC.guest)).setCell ⟨w6.heap.size, 1, none⟩ (.slice p_r MC.root.length p_rc)).setCell ⟨w6.heap.size, 2, none⟩ (.slice p_s MC.slots.length p_sc)).setCell ⟨w6.heap.size, 3, none⟩ (.slice p_f MC.refs.length p_fc)).setCell ⟨w6.heap.size, 4, none⟩ (.slice p_n MC.snaps.length p_nc)) := below_five5 hB (by have := h0c.out; omega) _ _ _ _ _
      replace mb_c : (((((w7.setCell ⟨w6.heap.size, 0, none⟩ (.int .i64 MC.guest)).setCell ⟨w6.heap.size, 1, none⟩ (.slice p_r MC.root.length p_rc)).setCell ⟨w6.heap.size, 2, none⟩ (.slice p_s MC.slots.length p_sc)).setCell ⟨w6.heap.size, 3, none⟩ (.slice p_f MC.refs.length p_fc)).setCell ⟨w6.heap.size, 4, none⟩ (.slice p_n MC.snaps.length p_nc)).heap[w6.heap.size]? = some (.cells #[.int .i64 MC.guest, .slice p_r MC.root.length p_rc, .slice p_s MC.slots.length p_sc, .slice p_f MC.refs.length p_fc, .slice p_n MC.snaps.length p_nc] 26) := cells_set (cells_set (cells_set (cells_set (cells_set mb_c 0 _) 1 _) 2 _) 3 _) 4 _
      have I_c : Img (((((w7.setCell ⟨w6.heap.size, 0, none⟩ (.int .i64 MC.guest)).setCell ⟨w6.heap.size, 1, none⟩ (.slice p_r MC.root.length p_rc)).setCell ⟨w6.heap.size, 2, none⟩ (.slice p_s MC.slots.length p_sc)).setCell ⟨w6.heap.size, 3, none⟩ (.slice p_f MC.refs.length p_fc)).setCell ⟨w6.heap.size, 4, none⟩ (.slice p_n MC.snaps.length p_nc)) (.agg #[.int .i64 MC.guest, .slice p_r MC.root.length p_rc, .slice p_s MC.slots.length p_sc, .slice p_f MC.refs.length p_fc, .slice p_n MC.snaps.length p_nc]) MC := by have h := (HO.out.1.five5 hcl (.int .i64 MC.guest) (.slice p_r MC.root.length p_rc) (.slice p_s MC.slots.length p_sc) (.slice p_f MC.refs.length p_fc) (.slice p_n MC.snaps.length p_nc)).img; rw [HO.out.2] at h; exact h
      refine (punch_to I_c n H3.out.1 H3.out.2).mono ?_
      intro e w8 hA
      obtain ⟨val2, d_r, d_rc, d_s, d_sc, d_f, d_fc, d_n, d_nc, rfl, hO, bb, hI⟩ := hA.open
      dsimp only
      have I_d := hO.img
      rw [hI] at I_d
      clear hA hO hI
      replace mb_c := cells_below mb_c bb (Array.getElem?_eq_some_iff.1 mb_c).1
      replace hB := Below.on hB bb
      replace I_c := I_c.below bb
      clear bb
      replace mb_c := cells_alloc mb_c (.cells #[.int .i64 MC.guest, .slice d_r MC.root.length d_rc, .slice d_s MC.slots.length d_sc, .slice d_f MC.refs.length d_fc, .slice d_n MC.snaps.length d_nc] 26)
      have ba : Below w8.heap.size w8 (w8.alloc (.cells #[.int .i64 MC.guest, .slice d_r MC.root.length d_rc, .slice d_s MC.slots.length d_sc, .slice d_f MC.refs.length d_fc, .slice d_n MC.snaps.length d_nc] 26)) := (Below.refl _ _).alloc (Nat.le_refl _) _
      replace hB := Below.on hB ba
      replace I_c := I_c.below ba
      replace I_d := I_d.below ba
      clear ba
      have mb_d : (w8.alloc (.cells #[.int .i64 MC.guest, .slice d_r MC.root.length d_rc, .slice d_s MC.slots.length d_sc, .slice d_f MC.refs.length d_fc, .slice d_n MC.snaps.length d_nc] 26)).heap[w8.heap.size]? = some (.cells #[.int .i64 MC.guest, .slice d_r MC.root.length d_rc, .slice d_s MC.slots.length d_sc, .slice d_f MC.refs.length d_fc, .slice d_n MC.snaps.length d_nc] 26) := World.alloc_heap_new _ _
      have hh_mb_c := Hid_mkW mb_c
      have hh_mb_d := Hid_mkW mb_d
      have hh_I_c := Hid_mkW I_c
      have hh_I_d := Hid_mkW I_d
      have hh_hB := Hid_mkW hB
      clear mb_c mb_d I_c I_d hB
      go_wp2_with fail
      have mb_c := hh_mb_c.out
      have mb_d := hh_mb_d.out
      have I_c := hh_I_c.out
      have I_d := hh_I_d.out
      have hB := hh_hB.out
      clear hh_mb_c hh_mb_d hh_I_c hh_I_d hh_hB
      refine (writesBegun_any _).mono ?_
      rintro e w9 ⟨rfl, bb⟩
      replace mb_c := cells_below mb_c bb (Array.getElem?_eq_some_iff.1 mb_c).1
      replace mb_d := cells_below mb_d bb (Array.getElem?_eq_some_iff.1 mb_d).1
      replace hB := Below.on hB bb
      replace I_c := I_c.below bb
      replace I_d := I_d.below bb
      clear bb
      obtain ⟨c0, c1, c2, c3, c4⟩ := five mb_c
      obtain ⟨d0, d1, d2, d3, d4⟩ := five mb_d
      have hh_mb_c := Hid_mkW mb_c
      have hh_mb_d := Hid_mkW mb_d
      have hh_I_c := Hid_mkW I_c
      have hh_I_d := Hid_mkW I_d
      have hh_hB := Hid_mkW hB
      clear mb_c mb_d I_c I_d hB
      go_wp2_with fail
      clear c0 c1 c2 c3 c4 d0 d1 d2 d3 d4
      have mb_c := hh_mb_c.out
      have mb_d := hh_mb_d.out
      have I_c := hh_I_c.out
      have I_d := hh_I_d.out
      have hB := hh_hB.out
      clear hh_mb_c hh_mb_d hh_I_c hh_I_d hh_hB
      refine (sameI_is I_c I_d).mono ?_
      rintro e w10 ⟨rfl, bb⟩
      replace mb_c := cells_below mb_c bb (Array.getElem?_eq_some_iff.1 mb_c).1
      replace mb_d := cells_below mb_d bb (Array.getElem?_eq_some_iff.1 mb_d).1
      replace hB := Below.on hB bb
      replace I_c := I_c.below bb
      replace I_d := I_d.below bb
      clear bb
      have hh_mb_c := Hid_mkW mb_c
      have hh_mb_d := Hid_mkW mb_d
      have hh_I_c := Hid_mkW I_c
      have hh_I_d := Hid_mkW I_d
      have hh_hB := Hid_mkW hB
      clear mb_c mb_d I_c I_d hB
      go_wp2_with fail
      go_ret
      have hB := hh_hB.out
      exact ⟨rfl, hB⟩
    · skip
      have nEC : (EC != 0) = true := by show (!(EC == 0)) = _; rw [bEC]; rfl
      obtain ⟨c0, c1, c2, c3, c4⟩ := five mb_c
      have y0 := cells_frozen mb_c 0
      have y1 := cells_frozen mb_c 1
      have y2 := cells_frozen mb_c 2
      have y3 := cells_frozen mb_c 3
      have y4 := cells_frozen mb_c 4
      have hh_mb_c := Hid_mkW mb_c
      have hh_hB := Hid_mkW hB
      clear mb_c hB
      go_wp2_with fail
      clear c0 c1 c2 c3 c4 y0 y1 y2 y3 y4
      have mb_c := hh_mb_c.out
      have hB := hh_hB.out
      clear hh_mb_c hh_hB
      replace hB : Below w.heap.size w (((((w7.setCell ⟨w6.heap.size, 0, none⟩ (.int .i64 MC.guest)).setCell ⟨w6.heap.size, 1, none⟩ (.slice p_r MC.root.length p_rc)).setCell ⟨w6.heap.size, 2, none⟩ (.slice p_s MC.slots.length p_sc)).setCell ⟨w6.heap.size, 3, none⟩ (.slice p_f MC.refs.length p_fc)).setCell ⟨w6.heap.size, 4, none⟩ (.slice p_n MC.snaps.length p_nc)) := below_five5 hB (by have := h0c.out; omega) _ _ _ _ _
      replace mb_c : (((((w7.setCell ⟨w6.heap.size, 0, none⟩ (.int .i64 MC.guest)).setCell ⟨w6.heap.size, 1, none⟩ (.slice p_r MC.root.length p_rc)).setCell ⟨w6.heap.size, 2, none⟩ (.slice p_s MC.slots.length p_sc)).setCell ⟨w6.heap.size, 3, none⟩ (.slice p_f MC.refs.length p_fc)).setCell ⟨w6.heap.size, 4, none⟩ (.slice p_n MC.snaps.length p_nc)).heap[w6.heap.size]? = some (.cells #[.int .i64 MC.guest, .slice p_r MC.root.length p_rc, .slice p_s MC.slots.length p_sc, .slice p_f MC.refs.length p_fc, .slice p_n MC.snaps.length p_nc] 26) := cells_set (cells_set (cells_set (cells_set (cells_set mb_c 0 _) 1 _) 2 _) 3 _) 4 _
      refine (writesBegun_any _).mono ?_
      rintro e w8 ⟨rfl, bb⟩
      replace mb_c := cells_below mb_c bb (Array.getElem?_eq_some_iff.1 mb_c).1
      replace hB := Below.on hB bb
      clear bb
      have hh_mb_c := Hid_mkW mb_c
      have hh_hB := Hid_mkW hB
      clear mb_c hB
      go_wp2_with fail
      go_ret
      have hB := hh_hB.out
      exact ⟨rfl, hB⟩

set_option maxHeartbeats 16000000 in
theorem winp_no (ra : Option Addr) (rc : Nat) (sa : Option Addr) (sc : Nat) (fa : Option Addr) (fc : Nat) (na : Option Addr) (nc : Nat) (m : ImgD) (n : Int) (one two : ByteArray) (w : World) (h : Img w (.agg #[.int .i64 m.guest, .slice ra m.root.length rc, .slice sa m.slots.length sc, .slice fa m.refs.length fc, .slice na m.snaps.length nc]) m) (MA : ImgD) (EA : Int) (HA : Hid (wrM m n one = MA ∧ wrE m n one = EA)) (b7 : (EA == 7) = false) (b0 : (EA == 0) = false) :
    Calls Try.prog 6 #[.agg #[.int .i64 m.guest, .slice ra m.root.length rc, .slice sa m.slots.length sc, .slice fa m.refs.length fc, .slice na m.snaps.length nc], .int .i64 n, .string one, .string two] w fun r w' => r = .returned (.bool true) ∧ Below w.heap.size w w' := by
  have hB : Below w.heap.size w (w.alloc (.cells #[.int .i64 m.guest, .slice ra m.root.length rc, .slice sa m.slots.length sc, .slice fa m.refs.length fc, .slice na m.snaps.length nc] 26)) := (Below.refl _ _).alloc (Nat.le_refl _) _
  have mb_m : (w.alloc (.cells #[.int .i64 m.guest, .slice ra m.root.length rc, .slice sa m.slots.length sc, .slice fa m.refs.length fc, .slice na m.snaps.length nc] 26)).heap[w.heap.size]? = some (.cells #[.int .i64 m.guest, .slice ra m.root.length rc, .slice sa m.slots.length sc, .slice fa m.refs.length fc, .slice na m.snaps.length nc] 26) := World.alloc_heap_new _ _
  have I_m := h.below hB
  obtain ⟨MB, hMB⟩ : ∃ X, puM m n (-1) = X := ⟨_, rfl⟩
  obtain ⟨EB, hEB⟩ : ∃ X, puE m n (-1) = X := ⟨_, rfl⟩
  obtain ⟨MC, hMC⟩ : ∃ X, puM m n 0 = X := ⟨_, rfl⟩
  obtain ⟨EC, hEC⟩ : ∃ X, puE m n 0 = X := ⟨_, rfl⟩
  have HB : Hid (puM m n (-1) = MB ∧ puE m n (-1) = EB) := ⟨hMB, hEB⟩
  have HC : Hid (puM m n 0 = MC ∧ puE m n 0 = EC) := ⟨hMC, hEC⟩
  have KB : Hid (EB = 0 → puE MB n (-1) = 0 ∧ puM MB n (-1) = MB) := fun e => by subst hMB hEB; exact pu_again (Or.inr rfl) e
  have KC : Hid (EC = 0 → puE MC n 0 = 0 ∧ puM MC n 0 = MC) := fun e => by subst hMC hEC; exact pu_again (Or.inl rfl) e
  clear hMB hEB hMC hEC
  clear h
  go_enter Try.func6, Try.ntmps6
  obtain ⟨m0, m1, m2, m3, m4⟩ := five mb_m
  have hh_mb_m := Hid_mkW mb_m
  have hh_I_m := Hid_mkW I_m
  have hh_hB := Hid_mkW hB
  clear mb_m I_m hB
  go_wp2_with fail
  clear m0 m1 m2 m3 m4
  have mb_m := hh_mb_m.out
  have I_m := hh_I_m.out
  have hB := hh_hB.out
  clear hh_mb_m hh_I_m hh_hB
  refine (write_to I_m n one HA.out.1 HA.out.2).mono ?_
  intro e w1 hA
  obtain ⟨val, a_r, a_rc, a_s, a_sc, a_f, a_fc, a_n, a_nc, rfl, hO, bb, hI⟩ := hA.open
  dsimp only
  have I_a := hO.img
  rw [hI] at I_a
  clear hA hO hI
  replace mb_m := cells_below mb_m bb (Array.getElem?_eq_some_iff.1 mb_m).1
  replace hB := Below.on hB bb
  replace I_m := I_m.below bb
  clear bb
  replace mb_m := cells_alloc mb_m (.cells #[.int .i64 MA.guest, .slice a_r MA.root.length a_rc, .slice a_s MA.slots.length a_sc, .slice a_f MA.refs.length a_fc, .slice a_n MA.snaps.length a_nc] 26)
  have ba : Below w1.heap.size w1 (w1.alloc (.cells #[.int .i64 MA.guest, .slice a_r MA.root.length a_rc, .slice a_s MA.slots.length a_sc, .slice a_f MA.refs.length a_fc, .slice a_n MA.snaps.length a_nc] 26)) := (Below.refl _ _).alloc (Nat.le_refl _) _
  replace hB := Below.on hB ba
  replace I_m := I_m.below ba
  replace I_a := I_a.below ba
  clear ba
  have mb_a : (w1.alloc (.cells #[.int .i64 MA.guest, .slice a_r MA.root.length a_rc, .slice a_s MA.slots.length a_sc, .slice a_f MA.refs.length a_fc, .slice a_n MA.snaps.length a_nc] 26)).heap[w1.heap.size]? = some (.cells #[.int .i64 MA.guest, .slice a_r MA.root.length a_rc, .slice a_s MA.slots.length a_sc, .slice a_f MA.refs.length a_fc, .slice a_n MA.snaps.length a_nc] 26) := World.alloc_heap_new _ _
  obtain ⟨m0, m1, m2, m3, m4⟩ := five mb_m
  obtain ⟨a0, a1, a2, a3, a4⟩ := five mb_a
  have hh_mb_m := Hid_mkW mb_m
  have hh_mb_a := Hid_mkW mb_a
  have hh_I_m := Hid_mkW I_m
  have hh_I_a := Hid_mkW I_a
  have hh_hB := Hid_mkW hB
  clear mb_m mb_a I_m I_a hB
  go_wp2_with fail
  clear m0 m1 m2 m3 m4 a0 a1 a2 a3 a4
  have mb_m := hh_mb_m.out
  have mb_a := hh_mb_a.out
  have I_m := hh_I_m.out
  have I_a := hh_I_a.out
  have hB := hh_hB.out
  clear hh_mb_m hh_mb_a hh_I_m hh_I_a hh_hB
  refine (wipe_to I_m n HB.out.1 HB.out.2).mono ?_
  intro e w2 hA
  obtain ⟨val, c_r, c_rc, c_s, c_sc, c_f, c_fc, c_n, c_nc, rfl, hO, bb, hI⟩ := hA.open
  dsimp only
  have I_c := hO.img
  rw [hI] at I_c
  clear hA hO hI
  replace mb_m := cells_below mb_m bb (Array.getElem?_eq_some_iff.1 mb_m).1
  replace mb_a := cells_below mb_a bb (Array.getElem?_eq_some_iff.1 mb_a).1
  replace hB := Below.on hB bb
  replace I_m := I_m.below bb
  replace I_a := I_a.below bb
  clear bb
  clear mb_a
  clear I_a
  have hle_c : Hid (w.heap.size ≤ w2.heap.size) := hB.size
  replace mb_m := cells_alloc mb_m (.cells #[.int .i64 MB.guest, .slice c_r MB.root.length c_rc, .slice c_s MB.slots.length c_sc, .slice c_f MB.refs.length c_fc, .slice c_n MB.snaps.length c_nc] 26)
  have ba : Below w2.heap.size w2 (w2.alloc (.cells #[.int .i64 MB.guest, .slice c_r MB.root.length c_rc, .slice c_s MB.slots.length c_sc, .slice c_f MB.refs.length c_fc, .slice c_n MB.snaps.length c_nc] 26)) := (Below.refl _ _).alloc (Nat.le_refl _) _
  replace hB := Below.on hB ba
  replace I_m := I_m.below ba
  replace I_c := I_c.below ba
  clear ba
  have mb_c : (w2.alloc (.cells #[.int .i64 MB.guest, .slice c_r MB.root.length c_rc, .slice c_s MB.slots.length c_sc, .slice c_f MB.refs.length c_fc, .slice c_n MB.snaps.length c_nc] 26)).heap[w2.heap.size]? = some (.cells #[.int .i64 MB.guest, .slice c_r MB.root.length c_rc, .slice c_s MB.slots.length c_sc, .slice c_f MB.refs.length c_fc, .slice c_n MB.snaps.length c_nc] 26) := World.alloc_heap_new _ _
  rcases Bool.eq_false_or_eq_true (EB == 0) with bEB | bEB
  · skip
    have nEB : (EB != 0) = false := by show (!(EB == 0)) = _; rw [bEB]; rfl
    have k0 := KB.out (by simpa using bEB)
    have H2 : Hid (puM MB n (-1) = MB ∧ puE MB n (-1) = 0) := ⟨k0.2, k0.1⟩
    clear k0
    obtain ⟨c0, c1, c2, c3, c4⟩ := five mb_c
    have hh_mb_m := Hid_mkW mb_m
    have hh_mb_c := Hid_mkW mb_c
    have hh_I_m := Hid_mkW I_m
    have hh_I_c := Hid_mkW I_c
    have hh_hB := Hid_mkW hB
    clear mb_m mb_c I_m I_c hB
    go_wp2_with fail
    clear c0 c1 c2 c3 c4
    have mb_m := hh_mb_m.out
    have mb_c := hh_mb_c.out
    have I_m := hh_I_m.out
    have I_c := hh_I_c.out
    have hB := hh_hB.out
    clear hh_mb_m hh_mb_c hh_I_m hh_I_c hh_hB
    refine (wipe_to I_c n H2.out.1 H2.out.2).mono ?_
    intro e w3 hA
    obtain ⟨val, d_r, d_rc, d_s, d_sc, d_f, d_fc, d_n, d_nc, rfl, hO, bb, hI⟩ := hA.open
    dsimp only
    have I_d := hO.img
    rw [hI] at I_d
    clear hA hO hI
    replace mb_m := cells_below mb_m bb (Array.getElem?_eq_some_iff.1 mb_m).1
    replace mb_c := cells_below mb_c bb (Array.getElem?_eq_some_iff.1 mb_c).1
    replace hB := Below.on hB bb
    replace I_m := I_m.below bb
    replace I_c := I_c.below bb
    clear bb
    replace mb_m := cells_alloc mb_m (.cells #[.int .i64 MB.guest, .slice d_r MB.root.length d_rc, .slice d_s MB.slots.length d_sc, .slice d_f MB.refs.length d_fc, .slice d_n MB.snaps.length d_nc] 26)
    replace mb_c := cells_alloc mb_c (.cells #[.int .i64 MB.guest, .slice d_r MB.root.length d_rc, .slice d_s MB.slots.length d_sc, .slice d_f MB.refs.length d_fc, .slice d_n MB.snaps.length d_nc] 26)
    have ba : Below w3.heap.size w3 (w3.alloc (.cells #[.int .i64 MB.guest, .slice d_r MB.root.length d_rc, .slice d_s MB.slots.length d_sc, .slice d_f MB.refs.length d_fc, .slice d_n MB.snaps.length d_nc] 26)) := (Below.refl _ _).alloc (Nat.le_refl _) _
    replace hB := Below.on hB ba
    replace I_m := I_m.below ba
    replace I_c := I_c.below ba
    replace I_d := I_d.below ba
    clear ba
    have mb_d : (w3.alloc (.cells #[.int .i64 MB.guest, .slice d_r MB.root.length d_rc, .slice d_s MB.slots.length d_sc, .slice d_f MB.refs.length d_fc, .slice d_n MB.snaps.length d_nc] 26)).heap[w3.heap.size]? = some (.cells #[.int .i64 MB.guest, .slice d_r MB.root.length d_rc, .slice d_s MB.slots.length d_sc, .slice d_f MB.refs.length d_fc, .slice d_n MB.snaps.length d_nc] 26) := World.alloc_heap_new _ _
    obtain ⟨c0, c1, c2, c3, c4⟩ := five mb_c
    obtain ⟨d0, d1, d2, d3, d4⟩ := five mb_d
    have hh_mb_m := Hid_mkW mb_m
    have hh_mb_c := Hid_mkW mb_c
    have hh_mb_d := Hid_mkW mb_d
    have hh_I_m := Hid_mkW I_m
    have hh_I_c := Hid_mkW I_c
    have hh_I_d := Hid_mkW I_d
    have hh_hB := Hid_mkW hB
    clear mb_m mb_c mb_d I_m I_c I_d hB
    go_wp2_with fail
    clear c0 c1 c2 c3 c4 d0 d1 d2 d3 d4
    have mb_m := hh_mb_m.out
    have mb_c := hh_mb_c.out
    have mb_d := hh_mb_d.out
    have I_m := hh_I_m.out
    have I_c := hh_I_c.out
    have I_d := hh_I_d.out
    have hB := hh_hB.out
    clear hh_mb_m hh_mb_c hh_mb_d hh_I_m hh_I_c hh_I_d hh_hB
    refine (sameI_is I_c I_d).mono ?_
    rintro e w4 ⟨rfl, bb⟩
    replace mb_m := cells_below mb_m bb (Array.getElem?_eq_some_iff.1 mb_m).1
    replace mb_c := cells_below mb_c bb (Array.getElem?_eq_some_iff.1 mb_c).1
    replace mb_d := cells_below mb_d bb (Array.getElem?_eq_some_iff.1 mb_d).1
    replace hB := Below.on hB bb
    replace I_m := I_m.below bb
    replace I_c := I_c.below bb
    replace I_d := I_d.below bb
    clear bb
    clear mb_d
    clear I_d
    clear I_c
    obtain ⟨m0, m1, m2, m3, m4⟩ := five mb_m
    have hh_mb_m := Hid_mkW mb_m
    have hh_mb_c := Hid_mkW mb_c
    have hh_I_m := Hid_mkW I_m
    have hh_hB := Hid_mkW hB
    clear mb_m mb_c I_m hB
    go_wp2_with fail
    clear m0 m1 m2 m3 m4
    have mb_m := hh_mb_m.out
    have mb_c := hh_mb_c.out
    have I_m := hh_I_m.out
    have hB := hh_hB.out
    clear hh_mb_m hh_mb_c hh_I_m hh_hB
    refine (punch_to I_m n HC.out.1 HC.out.2).mono ?_
    intro e w5 hA
    obtain ⟨val, p_r, p_rc, p_s, p_sc, p_f, p_fc, p_n, p_nc, rfl, hO, bb, hI⟩ := hA.open
    dsimp only
    have hcl : w2.heap.size < w4.heap.size := (Array.getElem?_eq_some_iff.1 mb_c).1
    have HO : Hid (OI w5 w4.heap.size val MC ∧ imgV MC.guest val = .agg #[.int .i64 MC.guest, .slice p_r MC.root.length p_rc, .slice p_s MC.slots.length p_sc, .slice p_f MC.refs.length p_fc, .slice p_n MC.snaps.length p_nc]) := ⟨hO, hI⟩
    clear hA hO hI
    clear mb_m
    clear I_m
    replace mb_c := cells_below mb_c bb (Array.getElem?_eq_some_iff.1 mb_c).1
    replace hB := Below.on hB bb
    clear bb
    have h0c : Hid (w.heap.size ≤ w2.heap.size) := hle_c.out
    rcases Bool.eq_false_or_eq_true (EC == 0) with bEC | bEC
    · skip
      have nEC : (EC != 0) = false := by show (!(EC == 0)) = _; rw [bEC]; rfl
      have k0 := KC.out (by simpa using bEC)
      have H3 : Hid (puM MC n 0 = MC ∧ puE MC n 0 = 0) := ⟨k0.2, k0.1⟩
      clear k0
      obtain ⟨c0, c1, c2, c3, c4⟩ := five mb_c
      have y0 := cells_frozen mb_c 0
      have y1 := cells_frozen mb_c 1
      have y2 := cells_frozen mb_c 2
      have y3 := cells_frozen mb_c 3
      have y4 := cells_frozen mb_c 4
      have hh_mb_c := Hid_mkW mb_c
      have hh_hB := Hid_mkW hB
      clear mb_c hB
      go_wp2_with fail
      clear c0 c1 c2 c3 c4 y0 y1 y2 y3 y4
      have mb_c := hh_mb_c.out
      have hB := hh_hB.out
      clear hh_mb_c hh_hB
      replace hB : Below w.heap.size w (((((w5.setCell ⟨w2.heap.size, 0, none⟩ (.int .i64 MC.guest)).setCell ⟨w2.heap.size, 1, none⟩ (.slice p_r MC.root.length p_rc)).setCell ⟨w2.heap.size, 2, none⟩ (.slice p_s MC.slots.length p_sc)).setCell ⟨w2.heap.size, 3, none⟩ (.slice p_f MC.refs.length p_fc)).setCell ⟨w2.heap.size, 4, none⟩ (.slice p_n MC.snaps.length p_nc)) := below_five5 hB (by have := h0c.out; omega) _ _ _ _ _
      replace mb_c : (((((w5.setCell ⟨w2.heap.size, 0, none⟩ (.int .i64 MC.guest)).setCell ⟨w2.heap.size, 1, none⟩ (.slice p_r MC.root.length p_rc)).setCell ⟨w2.heap.size, 2, none⟩ (.slice p_s MC.slots.length p_sc)).setCell ⟨w2.heap.size, 3, none⟩ (.slice p_f MC.refs.length p_fc)).setCell ⟨w2.heap.size, 4, none⟩ (.slice p_n MC.snaps.length p_nc)).heap[w2.heap.size]? = some (.cells #[.int .i64 MC.guest, .slice p_r MC.root.length p_rc, .slice p_s MC.slots.length p_sc, .slice p_f MC.refs.length p_fc, .slice p_n MC.snaps.length p_nc] 26) := cells_set (cells_set (cells_set (cells_set (cells_set mb_c 0 _) 1 _) 2 _) 3 _) 4 _
      have I_c : Img (((((w5.setCell ⟨w2.heap.size, 0, none⟩ (.int .i64 MC.guest)).setCell ⟨w2.heap.size, 1, none⟩ (.slice p_r MC.root.length p_rc)).setCell ⟨w2.heap.size, 2, none⟩ (.slice p_s MC.slots.length p_sc)).setCell ⟨w2.heap.size, 3, none⟩ (.slice p_f MC.refs.length p_fc)).setCell ⟨w2.heap.size, 4, none⟩ (.slice p_n MC.snaps.length p_nc)) (.agg #[.int .i64 MC.guest, .slice p_r MC.root.length p_rc, .slice p_s MC.slots.length p_sc, .slice p_f MC.refs.length p_fc, .slice p_n MC.snaps.length p_nc]) MC := by have h := (HO.out.1.five5 hcl (.int .i64 MC.guest) (.slice p_r MC.root.length p_rc) (.slice p_s MC.slots.length p_sc) (.slice p_f MC.refs.length p_fc) (.slice p_n MC.snaps.length p_nc)).img; rw [HO.out.2] at h; exact h
      refine (punch_to I_c n H3.out.1 H3.out.2).mono ?_
      intro e w6 hA
      obtain ⟨val2, d_r, d_rc, d_s, d_sc, d_f, d_fc, d_n, d_nc, rfl, hO, bb, hI⟩ := hA.open
      dsimp only
      have I_d := hO.img
      rw [hI] at I_d
      clear hA hO hI
      replace mb_c := cells_below mb_c bb (Array.getElem?_eq_some_iff.1 mb_c).1
      replace hB := Below.on hB bb
      replace I_c := I_c.below bb
      clear bb
      replace mb_c := cells_alloc mb_c (.cells #[.int .i64 MC.guest, .slice d_r MC.root.length d_rc, .slice d_s MC.slots.length d_sc, .slice d_f MC.refs.length d_fc, .slice d_n MC.snaps.length d_nc] 26)
      have ba : Below w6.heap.size w6 (w6.alloc (.cells #[.int .i64 MC.guest, .slice d_r MC.root.length d_rc, .slice d_s MC.slots.length d_sc, .slice d_f MC.refs.length d_fc, .slice d_n MC.snaps.length d_nc] 26)) := (Below.refl _ _).alloc (Nat.le_refl _) _
      replace hB := Below.on hB ba
      replace I_c := I_c.below ba
      replace I_d := I_d.below ba
      clear ba
      have mb_d : (w6.alloc (.cells #[.int .i64 MC.guest, .slice d_r MC.root.length d_rc, .slice d_s MC.slots.length d_sc, .slice d_f MC.refs.length d_fc, .slice d_n MC.snaps.length d_nc] 26)).heap[w6.heap.size]? = some (.cells #[.int .i64 MC.guest, .slice d_r MC.root.length d_rc, .slice d_s MC.slots.length d_sc, .slice d_f MC.refs.length d_fc, .slice d_n MC.snaps.length d_nc] 26) := World.alloc_heap_new _ _
      have hh_mb_c := Hid_mkW mb_c
      have hh_mb_d := Hid_mkW mb_d
      have hh_I_c := Hid_mkW I_c
      have hh_I_d := Hid_mkW I_d
      have hh_hB := Hid_mkW hB
      clear mb_c mb_d I_c I_d hB
      go_wp2_with fail
      have mb_c := hh_mb_c.out
      have mb_d := hh_mb_d.out
      have I_c := hh_I_c.out
      have I_d := hh_I_d.out
      have hB := hh_hB.out
      clear hh_mb_c hh_mb_d hh_I_c hh_I_d hh_hB
      refine (writesBegun_any _).mono ?_
      rintro e w7 ⟨rfl, bb⟩
      replace mb_c := cells_below mb_c bb (Array.getElem?_eq_some_iff.1 mb_c).1
      replace mb_d := cells_below mb_d bb (Array.getElem?_eq_some_iff.1 mb_d).1
      replace hB := Below.on hB bb
      replace I_c := I_c.below bb
      replace I_d := I_d.below bb
      clear bb
      obtain ⟨c0, c1, c2, c3, c4⟩ := five mb_c
      obtain ⟨d0, d1, d2, d3, d4⟩ := five mb_d
      have hh_mb_c := Hid_mkW mb_c
      have hh_mb_d := Hid_mkW mb_d
      have hh_I_c := Hid_mkW I_c
      have hh_I_d := Hid_mkW I_d
      have hh_hB := Hid_mkW hB
      clear mb_c mb_d I_c I_d hB
      go_wp2_with fail
      clear c0 c1 c2 c3 c4 d0 d1 d2 d3 d4
      have mb_c := hh_mb_c.out
      have mb_d := hh_mb_d.out
      have I_c := hh_I_c.out
      have I_d := hh_I_d.out
      have hB := hh_hB.out
      clear hh_mb_c hh_mb_d hh_I_c hh_I_d hh_hB
      refine (sameI_is I_c I_d).mono ?_
      rintro e w8 ⟨rfl, bb⟩
      replace mb_c := cells_below mb_c bb (Array.getElem?_eq_some_iff.1 mb_c).1
      replace mb_d := cells_below mb_d bb (Array.getElem?_eq_some_iff.1 mb_d).1
      replace hB := Below.on hB bb
      replace I_c := I_c.below bb
      replace I_d := I_d.below bb
      clear bb
      have hh_mb_c := Hid_mkW mb_c
      have hh_mb_d := Hid_mkW mb_d
      have hh_I_c := Hid_mkW I_c
      have hh_I_d := Hid_mkW I_d
      have hh_hB := Hid_mkW hB
      clear mb_c mb_d I_c I_d hB
      go_wp2_with fail
      go_ret
      have hB := hh_hB.out
      exact ⟨rfl, hB⟩
    · skip
      have nEC : (EC != 0) = true := by show (!(EC == 0)) = _; rw [bEC]; rfl
      obtain ⟨c0, c1, c2, c3, c4⟩ := five mb_c
      have y0 := cells_frozen mb_c 0
      have y1 := cells_frozen mb_c 1
      have y2 := cells_frozen mb_c 2
      have y3 := cells_frozen mb_c 3
      have y4 := cells_frozen mb_c 4
      have hh_mb_c := Hid_mkW mb_c
      have hh_hB := Hid_mkW hB
      clear mb_c hB
      go_wp2_with fail
      clear c0 c1 c2 c3 c4 y0 y1 y2 y3 y4
      have mb_c := hh_mb_c.out
      have hB := hh_hB.out
      clear hh_mb_c hh_hB
      replace hB : Below w.heap.size w (((((w5.setCell ⟨w2.heap.size, 0, none⟩ (.int .i64 MC.guest)).setCell ⟨w2.heap.size, 1, none⟩ (.slice p_r MC.root.length p_rc)).setCell ⟨w2.heap.size, 2, none⟩ (.slice p_s MC.slots.length p_sc)).setCell ⟨w2.heap.size, 3, none⟩ (.slice p_f MC.refs.length p_fc)).setCell ⟨w2.heap.size, 4, none⟩ (.slice p_n MC.snaps.length p_nc)) := below_five5 hB (by have := h0c.out; omega) _ _ _ _ _
      replace mb_c : (((((w5.setCell ⟨w2.heap.size, 0, none⟩ (.int .i64 MC.guest)).setCell ⟨w2.heap.size, 1, none⟩ (.slice p_r MC.root.length p_rc)).setCell ⟨w2.heap.size, 2, none⟩ (.slice p_s MC.slots.length p_sc)).setCell ⟨w2.heap.size, 3, none⟩ (.slice p_f MC.refs.length p_fc)).setCell ⟨w2.heap.size, 4, none⟩ (.slice p_n MC.snaps.length p_nc)).heap[w2.heap.size]? = some (.cells #[.int .i64 MC.guest, .slice p_r MC.root.length p_rc, .slice p_s MC.slots.length p_sc, .slice p_f MC.refs.length p_fc, .slice p_n MC.snaps.length p_nc] 26) := cells_set (cells_set (cells_set (cells_set (cells_set mb_c 0 _) 1 _) 2 _) 3 _) 4 _
      refine (writesBegun_any _).mono ?_
      rintro e w6 ⟨rfl, bb⟩
      replace mb_c := cells_below mb_c bb (Array.getElem?_eq_some_iff.1 mb_c).1
      replace hB := Below.on hB bb
      clear bb
      have hh_mb_c := Hid_mkW mb_c
      have hh_hB := Hid_mkW hB
      clear mb_c hB
      go_wp2_with fail
      go_ret
      have hB := hh_hB.out
      exact ⟨rfl, hB⟩
  · skip
    have nEB : (EB != 0) = true := by show (!(EB == 0)) = _; rw [bEB]; rfl
    clear I_c
    obtain ⟨m0, m1, m2, m3, m4⟩ := five mb_m
    have hh_mb_m := Hid_mkW mb_m
    have hh_mb_c := Hid_mkW mb_c
    have hh_I_m := Hid_mkW I_m
    have hh_hB := Hid_mkW hB
    clear mb_m mb_c I_m hB
    go_wp2_with fail
    clear m0 m1 m2 m3 m4
    have mb_m := hh_mb_m.out
    have mb_c := hh_mb_c.out
    have I_m := hh_I_m.out
    have hB := hh_hB.out
    clear hh_mb_m hh_mb_c hh_I_m hh_hB
    refine (punch_to I_m n HC.out.1 HC.out.2).mono ?_
    intro e w3 hA
    obtain ⟨val, p_r, p_rc, p_s, p_sc, p_f, p_fc, p_n, p_nc, rfl, hO, bb, hI⟩ := hA.open
    dsimp only
    have hcl : w2.heap.size < (w2.alloc (.cells #[.int .i64 MB.guest, .slice c_r MB.root.length c_rc, .slice c_s MB.slots.length c_sc, .slice c_f MB.refs.length c_fc, .slice c_n MB.snaps.length c_nc] 26)).heap.size := (Array.getElem?_eq_some_iff.1 mb_c).1
    have HO : Hid (OI w3 (w2.alloc (.cells #[.int .i64 MB.guest, .slice c_r MB.root.length c_rc, .slice c_s MB.slots.length c_sc, .slice c_f MB.refs.length c_fc, .slice c_n MB.snaps.length c_nc] 26)).heap.size val MC ∧ imgV MC.guest val = .agg #[.int .i64 MC.guest, .slice p_r MC.root.length p_rc, .slice p_s MC.slots.length p_sc, .slice p_f MC.refs.length p_fc, .slice p_n MC.snaps.length p_nc]) := ⟨hO, hI⟩
    clear hA hO hI
    clear mb_m
    clear I_m
    replace mb_c := cells_below mb_c bb (Array.getElem?_eq_some_iff.1 mb_c).1
    replace hB := Below.on hB bb
    clear bb
    have h0c : Hid (w.heap.size ≤ w2.heap.size) := hle_c.out
    rcases Bool.eq_false_or_eq_true (EC == 0) with bEC | bEC
    · skip
      have nEC : (EC != 0) = false := by show (!(EC == 0)) = _; rw [bEC]; rfl
      have k0 := KC.out (by simpa using bEC)
      have H3 : Hid (puM MC n 0 = MC ∧ puE MC n 0 = 0) := ⟨k0.2, k0.1⟩
      clear k0
      obtain ⟨c0, c1, c2, c3, c4⟩ := five mb_c
      have y0 := cells_frozen mb_c 0
      have y1 := cells_frozen mb_c 1
      have y2 := cells_frozen mb_c 2
      have y3 := cells_frozen mb_c 3
      have y4 := cells_frozen mb_c 4
      have hh_mb_c := Hid_mkW mb_c
      have hh_hB := Hid_mkW hB
      clear mb_c hB
      go_wp2_with fail
      clear c0 c1 c2 c3 c4 y0 y1 y2 y3 y4
      have mb_c := hh_mb_c.out
      have hB := hh_hB.out
      clear hh_mb_c hh_hB
      replace hB : Below w.heap.size w (((((w3.setCell ⟨w2.heap.size, 0, none⟩ (.int .i64 MC.guest)).setCell ⟨w2.heap.size, 1, none⟩ (.slice p_r MC.root.length p_rc)).setCell ⟨w2.heap.size, 2, none⟩ (.slice p_s MC.slots.length p_sc)).setCell ⟨w2.heap.size, 3, none⟩ (.slice p_f MC.refs.length p_fc)).setCell ⟨w2.heap.size, 4, none⟩ (.slice p_n MC.snaps.length p_nc)) := below_five5 hB (by have := h0c.out; omega) _ _ _ _ _
      replace mb_c : (((((w3.setCell ⟨w2.heap.size, 0, none⟩ (.int .i64 MC.guest)).setCell ⟨w2.heap.size, 1, none⟩ (.slice p_r MC.root.length p_rc)).setCell ⟨w2.heap.size, 2, none⟩ (.slice p_s MC.slots.length p_sc)).setCell ⟨w2.heap.size, 3, none⟩ (.slice p_f MC.refs.length p_fc)).setCell ⟨w2.heap.size, 4, none⟩ (.slice p_n MC.snaps.length p_nc)).heap[w2.heap.size]? = some (.cells #[.int .i64 MC.guest, .slice p_r MC.root.length p_rc, .slice p_s MC.slots.length p_sc, .slice p_f MC.refs.length p_fc, .slice p_n MC.snaps.length p_nc] 26) := cells_set (cells_set (cells_set (cells_set (cells_set mb_c 0 _) 1 _) 2 _) 3 _) 4 _
      have I_c : Img (((((w3.setCell ⟨w2.heap.size, 0, none⟩ (.int .i64 MC.guest)).setCell ⟨w2.heap.size, 1, none⟩ (.slice p_r MC.root.length p_rc)).setCell ⟨w2.heap.size, 2, none⟩ (.slice p_s MC.slots.length p_sc)).setCell ⟨w2.heap.size, 3, none⟩ (.slice p_f MC.refs.length p_fc)).setCell ⟨w2.heap.size, 4, none⟩ (.slice p_n MC.snaps.length p_nc)) (.agg #[.int .i64 MC.guest, .slice p_r MC.root.length p_rc, .slice p_s MC.slots.length p_sc, .slice p_f MC.refs.length p_fc, .slice p_n MC.snaps.length p_nc]) MC := by have h := (HO.out.1.five5 hcl (.int .i64 MC.guest) (.slice p_r MC.root.length p_rc) (.slice p_s MC.slots.length p_sc) (.slice p_f MC.refs.length p_fc) (.slice p_n MC.snaps.length p_nc)).img; rw [HO.out.2] at h; exact h
      refine (punch_to I_c n H3.out.1 H3.out.2).mono ?_
      intro e w4 hA
      obtain ⟨val2, d_r, d_rc, d_s, d_sc, d_f, d_fc, d_n, d_nc, rfl, hO, bb, hI⟩ := hA.open
      dsimp only
      have I_d := hO.img
      rw [hI] at I_d
      clear hA hO hI
      replace mb_c := cells_below mb_c bb (Array.getElem?_eq_some_iff.1 mb_c).1
      replace hB := Below.on hB bb
      replace I_c := I_c.below bb
      clear bb
      replace mb_c := cells_alloc mb_c (.cells #[.int .i64 MC.guest, .slice d_r MC.root.length d_rc, .slice d_s MC.slots.length d_sc, .slice d_f MC.refs.length d_fc, .slice d_n MC.snaps.length d_nc] 26)
      have ba : Below w4.heap.size w4 (w4.alloc (.cells #[.int .i64 MC.guest, .slice d_r MC.root.length d_rc, .slice d_s MC.slots.length d_sc, .slice d_f MC.refs.length d_fc, .slice d_n MC.snaps.length d_nc] 26)) := (Below.refl _ _).alloc (Nat.le_refl _) _
      replace hB := Below.on hB ba
      replace I_c := I_c.below ba
      replace I_d := I_d.below ba
      clear ba
      have mb_d : (w4.alloc (.cells #[.int .i64 MC.guest, .slice d_r MC.root.length d_rc, .slice d_s MC.slots.length d_sc, .slice d_f MC.refs.length d_fc, .slice d_n MC.snaps.length d_nc] 26)).heap[w4.heap.size]? = some (.cells #[.int .i64 MC.guest, .slice d_r MC.root.length d_rc, .slice d_s MC.slots.length d_sc, .slice d_f MC.refs.length d_fc, .slice d_n MC.snaps.length d_nc] 26) := World.alloc_heap_new _ _
      have hh_mb_c := Hid_mkW mb_c
      have hh_mb_d := Hid_mkW mb_d
      have hh_I_c := Hid_mkW I_c
      have hh_I_d := Hid_mkW I_d
      have hh_hB := Hid_mkW hB
      clear mb_c mb_d I_c I_d hB
      go_wp2_with fail
      have mb_c := hh_mb_c.out
      have mb_d := hh_mb_d.out
      have I_c := hh_I_c.out
      have I_d := hh_I_d.out
      have hB := hh_hB.out
      clear hh_mb_c hh_mb_d hh_I_c hh_I_d hh_hB
      refine (writesBegun_any _).mono ?_
      rintro e w5 ⟨rfl, bb⟩
      replace mb_c := cells_below mb_c bb (Array.getElem?_eq_some_iff.1 mb_c).1
      replace mb_d := cells_below mb_d bb (Array.getElem?_eq_some_iff.1 mb_d).1
      replace hB := Below.on hB bb
      replace I_c := I_c.below bb
      replace I_d := I_d.below bb
      clear bb
      obtain ⟨c0, c1, c2, c3, c4⟩ := five mb_c
      obtain ⟨d0, d1, d2, d3, d4⟩ := five mb_d
      have hh_mb_c := Hid_mkW mb_c
      have hh_mb_d := Hid_mkW mb_d
      have hh_I_c := Hid_mkW I_c
      have hh_I_d := Hid_mkW I_d
      have hh_hB := Hid_mkW hB
      clear mb_c mb_d I_c I_d hB
      go_wp2_with fail
      clear c0 c1 c2 c3 c4 d0 d1 d2 d3 d4
      have mb_c := hh_mb_c.out
      have mb_d := hh_mb_d.out
      have I_c := hh_I_c.out
      have I_d := hh_I_d.out
      have hB := hh_hB.out
      clear hh_mb_c hh_mb_d hh_I_c hh_I_d hh_hB
      refine (sameI_is I_c I_d).mono ?_
      rintro e w6 ⟨rfl, bb⟩
      replace mb_c := cells_below mb_c bb (Array.getElem?_eq_some_iff.1 mb_c).1
      replace mb_d := cells_below mb_d bb (Array.getElem?_eq_some_iff.1 mb_d).1
      replace hB := Below.on hB bb
      replace I_c := I_c.below bb
      replace I_d := I_d.below bb
      clear bb
      have hh_mb_c := Hid_mkW mb_c
      have hh_mb_d := Hid_mkW mb_d
      have hh_I_c := Hid_mkW I_c
      have hh_I_d := Hid_mkW I_d
      have hh_hB := Hid_mkW hB
      clear mb_c mb_d I_c I_d hB
      go_wp2_with fail
      go_ret
      have hB := hh_hB.out
      exact ⟨rfl, hB⟩
    · skip
      have nEC : (EC != 0) = true := by show (!(EC == 0)) = _; rw [bEC]; rfl
      obtain ⟨c0, c1, c2, c3, c4⟩ := five mb_c
      have y0 := cells_frozen mb_c 0
      have y1 := cells_frozen mb_c 1
      have y2 := cells_frozen mb_c 2
      have y3 := cells_frozen mb_c 3
      have y4 := cells_frozen mb_c 4
      have hh_mb_c := Hid_mkW mb_c
      have hh_hB := Hid_mkW hB
      clear mb_c hB
      go_wp2_with fail
      clear c0 c1 c2 c3 c4 y0 y1 y2 y3 y4
      have mb_c := hh_mb_c.out
      have hB := hh_hB.out
      clear hh_mb_c hh_hB
      replace hB : Below w.heap.size w (((((w3.setCell ⟨w2.heap.size, 0, none⟩ (.int .i64 MC.guest)).setCell ⟨w2.heap.size, 1, none⟩ (.slice p_r MC.root.length p_rc)).setCell ⟨w2.heap.size, 2, none⟩ (.slice p_s MC.slots.length p_sc)).setCell ⟨w2.heap.size, 3, none⟩ (.slice p_f MC.refs.length p_fc)).setCell ⟨w2.heap.size, 4, none⟩ (.slice p_n MC.snaps.length p_nc)) := below_five5 hB (by have := h0c.out; omega) _ _ _ _ _
      replace mb_c : (((((w3.setCell ⟨w2.heap.size, 0, none⟩ (.int .i64 MC.guest)).setCell ⟨w2.heap.size, 1, none⟩ (.slice p_r MC.root.length p_rc)).setCell ⟨w2.heap.size, 2, none⟩ (.slice p_s MC.slots.length p_sc)).setCell ⟨w2.heap.size, 3, none⟩ (.slice p_f MC.refs.length p_fc)).setCell ⟨w2.heap.size, 4, none⟩ (.slice p_n MC.snaps.length p_nc)).heap[w2.heap.size]? = some (.cells #[.int .i64 MC.guest, .slice p_r MC.root.length p_rc, .slice p_s MC.slots.length p_sc, .slice p_f MC.refs.length p_fc, .slice p_n MC.snaps.length p_nc] 26) := cells_set (cells_set (cells_set (cells_set (cells_set mb_c 0 _) 1 _) 2 _) 3 _) 4 _
      refine (writesBegun_any _).mono ?_
      rintro e w4 ⟨rfl, bb⟩
      replace mb_c := cells_below mb_c bb (Array.getElem?_eq_some_iff.1 mb_c).1
      replace hB := Below.on hB bb
      clear bb
      have hh_mb_c := Hid_mkW mb_c
      have hh_hB := Hid_mkW hB
      clear mb_c hB
      go_wp2_with fail
      go_ret
      have hB := hh_hB.out
      exact ⟨rfl, hB⟩

set_option maxHeartbeats 16000000 in
theorem winp_short (ra : Option Addr) (rc : Nat) (sa : Option Addr) (sc : Nat) (fa : Option Addr) (fc : Nat) (na : Option Addr) (nc : Nat) (m : ImgD) (n : Int) (one two : ByteArray) (w : World) (h : Img w (.agg #[.int .i64 m.guest, .slice ra m.root.length rc, .slice sa m.slots.length sc, .slice fa m.refs.length fc, .slice na m.snaps.length nc]) m) (MA : ImgD) (HA : Hid (wrM m n one = MA ∧ wrE m n one = 0)) (h2 : ((two.size : Int) == 4) = false) :
    Calls Try.prog 6 #[.agg #[.int .i64 m.guest, .slice ra m.root.length rc, .slice sa m.slots.length sc, .slice fa m.refs.length fc, .slice na m.snaps.length nc], .int .i64 n, .string one, .string two] w fun r w' => r = .returned (.bool true) ∧ Below w.heap.size w w' := by
  have hB : Below w.heap.size w (w.alloc (.cells #[.int .i64 m.guest, .slice ra m.root.length rc, .slice sa m.slots.length sc, .slice fa m.refs.length fc, .slice na m.snaps.length nc] 26)) := (Below.refl _ _).alloc (Nat.le_refl _) _
  have mb_m : (w.alloc (.cells #[.int .i64 m.guest, .slice ra m.root.length rc, .slice sa m.slots.length sc, .slice fa m.refs.length fc, .slice na m.snaps.length nc] 26)).heap[w.heap.size]? = some (.cells #[.int .i64 m.guest, .slice ra m.root.length rc, .slice sa m.slots.length sc, .slice fa m.refs.length fc, .slice na m.snaps.length nc] 26) := World.alloc_heap_new _ _
  have I_m := h.below hB
  obtain ⟨MB, hMB⟩ : ∃ X, puM m n (-1) = X := ⟨_, rfl⟩
  obtain ⟨EB, hEB⟩ : ∃ X, puE m n (-1) = X := ⟨_, rfl⟩
  obtain ⟨MC, hMC⟩ : ∃ X, puM m n 0 = X := ⟨_, rfl⟩
  obtain ⟨EC, hEC⟩ : ∃ X, puE m n 0 = X := ⟨_, rfl⟩
  have HB : Hid (puM m n (-1) = MB ∧ puE m n (-1) = EB) := ⟨hMB, hEB⟩
  have HC : Hid (puM m n 0 = MC ∧ puE m n 0 = EC) := ⟨hMC, hEC⟩
  have KB : Hid (EB = 0 → puE MB n (-1) = 0 ∧ puM MB n (-1) = MB) := fun e => by subst hMB hEB; exact pu_again (Or.inr rfl) e
  have KC : Hid (EC = 0 → puE MC n 0 = 0 ∧ puM MC n 0 = MC) := fun e => by subst hMC hEC; exact pu_again (Or.inl rfl) e
  clear hMB hEB hMC hEC
  clear h
  go_enter Try.func6, Try.ntmps6
  obtain ⟨m0, m1, m2, m3, m4⟩ := five mb_m
  have hh_mb_m := Hid_mkW mb_m
  have hh_I_m := Hid_mkW I_m
  have hh_hB := Hid_mkW hB
  clear mb_m I_m hB
  go_wp2_with fail
  clear m0 m1 m2 m3 m4
  have mb_m := hh_mb_m.out
  have I_m := hh_I_m.out
  have hB := hh_hB.out
  clear hh_mb_m hh_I_m hh_hB
  refine (write_to I_m n one HA.out.1 HA.out.2).mono ?_
  intro e w1 hA
  obtain ⟨val, a_r, a_rc, a_s, a_sc, a_f, a_fc, a_n, a_nc, rfl, hO, bb, hI⟩ := hA.open
  dsimp only
  have I_a := hO.img
  rw [hI] at I_a
  clear hA hO hI
  replace mb_m := cells_below mb_m bb (Array.getElem?_eq_some_iff.1 mb_m).1
  replace hB := Below.on hB bb
  replace I_m := I_m.below bb
  clear bb
  replace mb_m := cells_alloc mb_m (.cells #[.int .i64 MA.guest, .slice a_r MA.root.length a_rc, .slice a_s MA.slots.length a_sc, .slice a_f MA.refs.length a_fc, .slice a_n MA.snaps.length a_nc] 26)
  have ba : Below w1.heap.size w1 (w1.alloc (.cells #[.int .i64 MA.guest, .slice a_r MA.root.length a_rc, .slice a_s MA.slots.length a_sc, .slice a_f MA.refs.length a_fc, .slice a_n MA.snaps.length a_nc] 26)) := (Below.refl _ _).alloc (Nat.le_refl _) _
  replace hB := Below.on hB ba
  replace I_m := I_m.below ba
  replace I_a := I_a.below ba
  clear ba
  have mb_a : (w1.alloc (.cells #[.int .i64 MA.guest, .slice a_r MA.root.length a_rc, .slice a_s MA.slots.length a_sc, .slice a_f MA.refs.length a_fc, .slice a_n MA.snaps.length a_nc] 26)).heap[w1.heap.size]? = some (.cells #[.int .i64 MA.guest, .slice a_r MA.root.length a_rc, .slice a_s MA.slots.length a_sc, .slice a_f MA.refs.length a_fc, .slice a_n MA.snaps.length a_nc] 26) := World.alloc_heap_new _ _
  obtain ⟨m0, m1, m2, m3, m4⟩ := five mb_m
  obtain ⟨a0, a1, a2, a3, a4⟩ := five mb_a
  have hh_mb_m := Hid_mkW mb_m
  have hh_mb_a := Hid_mkW mb_a
  have hh_I_m := Hid_mkW I_m
  have hh_I_a := Hid_mkW I_a
  have hh_hB := Hid_mkW hB
  clear mb_m mb_a I_m I_a hB
  go_wp2_with fail
  clear m0 m1 m2 m3 m4 a0 a1 a2 a3 a4
  have mb_m := hh_mb_m.out
  have mb_a := hh_mb_a.out
  have I_m := hh_I_m.out
  have I_a := hh_I_a.out
  have hB := hh_hB.out
  clear hh_mb_m hh_mb_a hh_I_m hh_I_a hh_hB
  refine (wipe_to I_m n HB.out.1 HB.out.2).mono ?_
  intro e w2 hA
  obtain ⟨val, c_r, c_rc, c_s, c_sc, c_f, c_fc, c_n, c_nc, rfl, hO, bb, hI⟩ := hA.open
  dsimp only
  have I_c := hO.img
  rw [hI] at I_c
  clear hA hO hI
  replace mb_m := cells_below mb_m bb (Array.getElem?_eq_some_iff.1 mb_m).1
  replace mb_a := cells_below mb_a bb (Array.getElem?_eq_some_iff.1 mb_a).1
  replace hB := Below.on hB bb
  replace I_m := I_m.below bb
  replace I_a := I_a.below bb
  clear bb
  clear mb_a
  clear I_a
  have hle_c : Hid (w.heap.size ≤ w2.heap.size) := hB.size
  replace mb_m := cells_alloc mb_m (.cells #[.int .i64 MB.guest, .slice c_r MB.root.length c_rc, .slice c_s MB.slots.length c_sc, .slice c_f MB.refs.length c_fc, .slice c_n MB.snaps.length c_nc] 26)
  have ba : Below w2.heap.size w2 (w2.alloc (.cells #[.int .i64 MB.guest, .slice c_r MB.root.length c_rc, .slice c_s MB.slots.length c_sc, .slice c_f MB.refs.length c_fc, .slice c_n MB.snaps.length c_nc] 26)) := (Below.refl _ _).alloc (Nat.le_refl _) _
  replace hB := Below.on hB ba
  replace I_m := I_m.below ba
  replace I_c := I_c.below ba
  clear ba
  have mb_c : (w2.alloc (.cells #[.int .i64 MB.guest, .slice c_r MB.root.length c_rc, .slice c_s MB.slots.length c_sc, .slice c_f MB.refs.length c_fc, .slice c_n MB.snaps.length c_nc] 26)).heap[w2.heap.size]? = some (.cells #[.int .i64 MB.guest, .slice c_r MB.root.length c_rc, .slice c_s MB.slots.length c_sc, .slice c_f MB.refs.length c_fc, .slice c_n MB.snaps.length c_nc] 26) := World.alloc_heap_new _ _
  rcases Bool.eq_false_or_eq_true (EB == 0) with bEB | bEB
  · skip
    have nEB : (EB != 0) = false := by show (!(EB == 0)) = _; rw [bEB]; rfl
    have k0 := KB.out (by simpa using bEB)
    have H2 : Hid (puM MB n (-1) = MB ∧ puE MB n (-1) = 0) := ⟨k0.2, k0.1⟩
    clear k0
    obtain ⟨c0, c1, c2, c3, c4⟩ := five mb_c
    have hh_mb_m := Hid_mkW mb_m
    have hh_mb_c := Hid_mkW mb_c
    have hh_I_m := Hid_mkW I_m
    have hh_I_c := Hid_mkW I_c
    have hh_hB := Hid_mkW hB
    clear mb_m mb_c I_m I_c hB
    go_wp2_with fail
    clear c0 c1 c2 c3 c4
    have mb_m := hh_mb_m.out
    have mb_c := hh_mb_c.out
    have I_m := hh_I_m.out
    have I_c := hh_I_c.out
    have hB := hh_hB.out
    clear hh_mb_m hh_mb_c hh_I_m hh_I_c hh_hB
    refine (wipe_to I_c n H2.out.1 H2.out.2).mono ?_
    intro e w3 hA
    obtain ⟨val, d_r, d_rc, d_s, d_sc, d_f, d_fc, d_n, d_nc, rfl, hO, bb, hI⟩ := hA.open
    dsimp only
    have I_d := hO.img
    rw [hI] at I_d
    clear hA hO hI
    replace mb_m := cells_below mb_m bb (Array.getElem?_eq_some_iff.1 mb_m).1
    replace mb_c := cells_below mb_c bb (Array.getElem?_eq_some_iff.1 mb_c).1
    replace hB := Below.on hB bb
    replace I_m := I_m.below bb
    replace I_c := I_c.below bb
    clear bb
    replace mb_m := cells_alloc mb_m (.cells #[.int .i64 MB.guest, .slice d_r MB.root.length d_rc, .slice d_s MB.slots.length d_sc, .slice d_f MB.refs.length d_fc, .slice d_n MB.snaps.length d_nc] 26)
    replace mb_c := cells_alloc mb_c (.cells #[.int .i64 MB.guest, .slice d_r MB.root.length d_rc, .slice d_s MB.slots.length d_sc, .slice d_f MB.refs.length d_fc, .slice d_n MB.snaps.length d_nc] 26)
    have ba : Below w3.heap.size w3 (w3.alloc (.cells #[.int .i64 MB.guest, .slice d_r MB.root.length d_rc, .slice d_s MB.slots.length d_sc, .slice d_f MB.refs.length d_fc, .slice d_n MB.snaps.length d_nc] 26)) := (Below.refl _ _).alloc (Nat.le_refl _) _
    replace hB := Below.on hB ba
    replace I_m := I_m.below ba
    replace I_c := I_c.below ba
    replace I_d := I_d.below ba
    clear ba
    have mb_d : (w3.alloc (.cells #[.int .i64 MB.guest, .slice d_r MB.root.length d_rc, .slice d_s MB.slots.length d_sc, .slice d_f MB.refs.length d_fc, .slice d_n MB.snaps.length d_nc] 26)).heap[w3.heap.size]? = some (.cells #[.int .i64 MB.guest, .slice d_r MB.root.length d_rc, .slice d_s MB.slots.length d_sc, .slice d_f MB.refs.length d_fc, .slice d_n MB.snaps.length d_nc] 26) := World.alloc_heap_new _ _
    obtain ⟨c0, c1, c2, c3, c4⟩ := five mb_c
    obtain ⟨d0, d1, d2, d3, d4⟩ := five mb_d
    have hh_mb_m := Hid_mkW mb_m
    have hh_mb_c := Hid_mkW mb_c
    have hh_mb_d := Hid_mkW mb_d
    have hh_I_m := Hid_mkW I_m
    have hh_I_c := Hid_mkW I_c
    have hh_I_d := Hid_mkW I_d
    have hh_hB := Hid_mkW hB
    clear mb_m mb_c mb_d I_m I_c I_d hB
    go_wp2_with fail
    clear c0 c1 c2 c3 c4 d0 d1 d2 d3 d4
    have mb_m := hh_mb_m.out
    have mb_c := hh_mb_c.out
    have mb_d := hh_mb_d.out
    have I_m := hh_I_m.out
    have I_c := hh_I_c.out
    have I_d := hh_I_d.out
    have hB := hh_hB.out
    clear hh_mb_m hh_mb_c hh_mb_d hh_I_m hh_I_c hh_I_d hh_hB
    refine (sameI_is I_c I_d).mono ?_
    rintro e w4 ⟨rfl, bb⟩
    replace mb_m := cells_below mb_m bb (Array.getElem?_eq_some_iff.1 mb_m).1
    replace mb_c := cells_below mb_c bb (Array.getElem?_eq_some_iff.1 mb_c).1
    replace mb_d := cells_below mb_d bb (Array.getElem?_eq_some_iff.1 mb_d).1
    replace hB := Below.on hB bb
    replace I_m := I_m.below bb
    replace I_c := I_c.below bb
    replace I_d := I_d.below bb
    clear bb
    clear mb_d
    clear I_d
    clear I_c
    obtain ⟨m0, m1, m2, m3, m4⟩ := five mb_m
    have hh_mb_m := Hid_mkW mb_m
    have hh_mb_c := Hid_mkW mb_c
    have hh_I_m := Hid_mkW I_m
    have hh_hB := Hid_mkW hB
    clear mb_m mb_c I_m hB
    go_wp2_with fail
    clear m0 m1 m2 m3 m4
    have mb_m := hh_mb_m.out
    have mb_c := hh_mb_c.out
    have I_m := hh_I_m.out
    have hB := hh_hB.out
    clear hh_mb_m hh_mb_c hh_I_m hh_hB
    refine (punch_to I_m n HC.out.1 HC.out.2).mono ?_
    intro e w5 hA
    obtain ⟨val, p_r, p_rc, p_s, p_sc, p_f, p_fc, p_n, p_nc, rfl, hO, bb, hI⟩ := hA.open
    dsimp only
    have hcl : w2.heap.size < w4.heap.size := (Array.getElem?_eq_some_iff.1 mb_c).1
    have HO : Hid (OI w5 w4.heap.size val MC ∧ imgV MC.guest val = .agg #[.int .i64 MC.guest, .slice p_r MC.root.length p_rc, .slice p_s MC.slots.length p_sc, .slice p_f MC.refs.length p_fc, .slice p_n MC.snaps.length p_nc]) := ⟨hO, hI⟩
    clear hA hO hI
    clear mb_m
    clear I_m
    replace mb_c := cells_below mb_c bb (Array.getElem?_eq_some_iff.1 mb_c).1
    replace hB := Below.on hB bb
    clear bb
    have h0c : Hid (w.heap.size ≤ w2.heap.size) := hle_c.out
    rcases Bool.eq_false_or_eq_true (EC == 0) with bEC | bEC
    · skip
      have nEC : (EC != 0) = false := by show (!(EC == 0)) = _; rw [bEC]; rfl
      have k0 := KC.out (by simpa using bEC)
      have H3 : Hid (puM MC n 0 = MC ∧ puE MC n 0 = 0) := ⟨k0.2, k0.1⟩
      clear k0
      obtain ⟨c0, c1, c2, c3, c4⟩ := five mb_c
      have y0 := cells_frozen mb_c 0
      have y1 := cells_frozen mb_c 1
      have y2 := cells_frozen mb_c 2
      have y3 := cells_frozen mb_c 3
      have y4 := cells_frozen mb_c 4
      have hh_mb_c := Hid_mkW mb_c
      have hh_hB := Hid_mkW hB
      clear mb_c hB
      go_wp2_with fail
      clear c0 c1 c2 c3 c4 y0 y1 y2 y3 y4
      have mb_c := hh_mb_c.out
      have hB := hh_hB.out
      clear hh_mb_c hh_hB
      replace hB : Below w.heap.size w (((((w5.setCell ⟨w2.heap.size, 0, none⟩ (.int .i64 MC.guest)).setCell ⟨w2.heap.size, 1, none⟩ (.slice p_r MC.root.length p_rc)).setCell ⟨w2.heap.size, 2, none⟩ (.slice p_s MC.slots.length p_sc)).setCell ⟨w2.heap.size, 3, none⟩ (.slice p_f MC.refs.length p_fc)).setCell ⟨w2.heap.size, 4, none⟩ (.slice p_n MC.snaps.length p_nc)) := below_five5 hB (by have := h0c.out; omega) _ _ _ _ _
      replace mb_c : (((((w5.setCell ⟨w2.heap.size, 0, none⟩ (.int .i64 MC.guest)).setCell ⟨w2.heap.size, 1, none⟩ (.slice p_r MC.root.length p_rc)).setCell ⟨w2.heap.size, 2, none⟩ (.slice p_s MC.slots.length p_sc)).setCell ⟨w2.heap.size, 3, none⟩ (.slice p_f MC.refs.length p_fc)).setCell ⟨w2.heap.size, 4, none⟩ (.slice p_n MC.snaps.length p_nc)).heap[w2.heap.size]? = some (.cells #[.int .i64 MC.guest, .slice p_r MC.root.length p_rc, .slice p_s MC.slots.length p_sc, .slice p_f MC.refs.length p_fc, .slice p_n MC.snaps.length p_nc] 26) := cells_set (cells_set (cells_set (cells_set (cells_set mb_c 0 _) 1 _) 2 _) 3 _) 4 _
      have I_c : Img (((((w5.setCell ⟨w2.heap.size, 0, none⟩ (.int .i64 MC.guest)).setCell ⟨w2.heap.size, 1, none⟩ (.slice p_r MC.root.length p_rc)).setCell ⟨w2.heap.size, 2, none⟩ (.slice p_s MC.slots.length p_sc)).setCell ⟨w2.heap.size, 3, none⟩ (.slice p_f MC.refs.length p_fc)).setCell ⟨w2.heap.size, 4, none⟩ (.slice p_n MC.snaps.length p_nc)) (.agg #[.int .i64 MC.guest, .slice p_r MC.root.length p_rc, .slice p_s MC.slots.length p_sc, .slice p_f MC.refs.length p_fc, .slice p_n MC.snaps.length p_nc]) MC := by have h := (HO.out.1.five5 hcl (.int .i64 MC.guest) (.slice p_r MC.root.length p_rc) (.slice p_s MC.slots.length p_sc) (.slice p_f MC.refs.length p_fc) (.slice p_n MC.snaps.length p_nc)).img; rw [HO.out.2] at h; exact h
      refine (punch_to I_c n H3.out.1 H3.out.2).mono ?_
      intro e w6 hA
      obtain ⟨val2, d_r, d_rc, d_s, d_sc, d_f, d_fc, d_n, d_nc, rfl, hO, bb, hI⟩ := hA.open
      dsimp only
      have I_d := hO.img
      rw [hI] at I_d
      clear hA hO hI
      replace mb_c := cells_below mb_c bb (Array.getElem?_eq_some_iff.1 mb_c).1
      replace hB := Below.on hB bb
      replace I_c := I_c.below bb
      clear bb
      replace mb_c := cells_alloc mb_c (.cells #[.int .i64 MC.guest, .slice d_r MC.root.length d_rc, .slice d_s MC.slots.length d_sc, .slice d_f MC.refs.length d_fc, .slice d_n MC.snaps.length d_nc] 26)
      have ba : Below w6.heap.size w6 (w6.alloc (.cells #[.int .i64 MC.guest, .slice d_r MC.root.length d_rc, .slice d_s MC.slots.length d_sc, .slice d_f MC.refs.length d_fc, .slice d_n MC.snaps.length d_nc] 26)) := (Below.refl _ _).alloc (Nat.le_refl _) _
      replace hB := Below.on hB ba
      replace I_c := I_c.below ba
      replace I_d := I_d.below ba
      clear ba
      have mb_d : (w6.alloc (.cells #[.int .i64 MC.guest, .slice d_r MC.root.length d_rc, .slice d_s MC.slots.length d_sc, .slice d_f MC.refs.length d_fc, .slice d_n MC.snaps.length d_nc] 26)).heap[w6.heap.size]? = some (.cells #[.int .i64 MC.guest, .slice d_r MC.root.length d_rc, .slice d_s MC.slots.length d_sc, .slice d_f MC.refs.length d_fc, .slice d_n MC.snaps.length d_nc] 26) := World.alloc_heap_new _ _
      have hh_mb_c := Hid_mkW mb_c
      have hh_mb_d := Hid_mkW mb_d
      have hh_I_c := Hid_mkW I_c
      have hh_I_d := Hid_mkW I_d
      have hh_hB := Hid_mkW hB
      clear mb_c mb_d I_c I_d hB
      go_wp2_with fail
      have mb_c := hh_mb_c.out
      have mb_d := hh_mb_d.out
      have I_c := hh_I_c.out
      have I_d := hh_I_d.out
      have hB := hh_hB.out
      clear hh_mb_c hh_mb_d hh_I_c hh_I_d hh_hB
      refine (writesBegun_any _).mono ?_
      rintro e w7 ⟨rfl, bb⟩
      replace mb_c := cells_below mb_c bb (Array.getElem?_eq_some_iff.1 mb_c).1
      replace mb_d := cells_below mb_d bb (Array.getElem?_eq_some_iff.1 mb_d).1
      replace hB := Below.on hB bb
      replace I_c := I_c.below bb
      replace I_d := I_d.below bb
      clear bb
      obtain ⟨c0, c1, c2, c3, c4⟩ := five mb_c
      obtain ⟨d0, d1, d2, d3, d4⟩ := five mb_d
      have hh_mb_c := Hid_mkW mb_c
      have hh_mb_d := Hid_mkW mb_d
      have hh_I_c := Hid_mkW I_c
      have hh_I_d := Hid_mkW I_d
      have hh_hB := Hid_mkW hB
      clear mb_c mb_d I_c I_d hB
      go_wp2_with fail
      clear c0 c1 c2 c3 c4 d0 d1 d2 d3 d4
      have mb_c := hh_mb_c.out
      have mb_d := hh_mb_d.out
      have I_c := hh_I_c.out
      have I_d := hh_I_d.out
      have hB := hh_hB.out
      clear hh_mb_c hh_mb_d hh_I_c hh_I_d hh_hB
      refine (sameI_is I_c I_d).mono ?_
      rintro e w8 ⟨rfl, bb⟩
      replace mb_c := cells_below mb_c bb (Array.getElem?_eq_some_iff.1 mb_c).1
      replace mb_d := cells_below mb_d bb (Array.getElem?_eq_some_iff.1 mb_d).1
      replace hB := Below.on hB bb
      replace I_c := I_c.below bb
      replace I_d := I_d.below bb
      clear bb
      have hh_mb_c := Hid_mkW mb_c
      have hh_mb_d := Hid_mkW mb_d
      have hh_I_c := Hid_mkW I_c
      have hh_I_d := Hid_mkW I_d
      have hh_hB := Hid_mkW hB
      clear mb_c mb_d I_c I_d hB
      go_wp2_with fail
      go_ret
      have hB := hh_hB.out
      exact ⟨rfl, hB⟩
    · skip
      have nEC : (EC != 0) = true := by show (!(EC == 0)) = _; rw [bEC]; rfl
      obtain ⟨c0, c1, c2, c3, c4⟩ := five mb_c
      have y0 := cells_frozen mb_c 0
      have y1 := cells_frozen mb_c 1
      have y2 := cells_frozen mb_c 2
      have y3 := cells_frozen mb_c 3
      have y4 := cells_frozen mb_c 4
      have hh_mb_c := Hid_mkW mb_c
      have hh_hB := Hid_mkW hB
      clear mb_c hB
      go_wp2_with fail
      clear c0 c1 c2 c3 c4 y0 y1 y2 y3 y4
      have mb_c := hh_mb_c.out
      have hB := hh_hB.out
      clear hh_mb_c hh_hB
      replace hB : Below w.heap.size w (((((w5.setCell ⟨w2.heap.size, 0, none⟩ (.int .i64 MC.guest)).setCell ⟨w2.heap.size, 1, none⟩ (.slice p_r MC.root.length p_rc)).setCell ⟨w2.heap.size, 2, none⟩ (.slice p_s MC.slots.length p_sc)).setCell ⟨w2.heap.size, 3, none⟩ (.slice p_f MC.refs.length p_fc)).setCell ⟨w2.heap.size, 4, none⟩ (.slice p_n MC.snaps.length p_nc)) := below_five5 hB (by have := h0c.out; omega) _ _ _ _ _
      replace mb_c : (((((w5.setCell ⟨w2.heap.size, 0, none⟩ (.int .i64 MC.guest)).setCell ⟨w2.heap.size, 1, none⟩ (.slice p_r MC.root.length p_rc)).setCell ⟨w2.heap.size, 2, none⟩ (.slice p_s MC.slots.length p_sc)).setCell ⟨w2.heap.size, 3, none⟩ (.slice p_f MC.refs.length p_fc)).setCell ⟨w2.heap.size, 4, none⟩ (.slice p_n MC.snaps.length p_nc)).heap[w2.heap.size]? = some (.cells #[.int .i64 MC.guest, .slice p_r MC.root.length p_rc, .slice p_s MC.slots.length p_sc, .slice p_f MC.refs.length p_fc, .slice p_n MC.snaps.length p_nc] 26) := cells_set (cells_set (cells_set (cells_set (cells_set mb_c 0 _) 1 _) 2 _) 3 _) 4 _
      refine (writesBegun_any _).mono ?_
      rintro e w6 ⟨rfl, bb⟩
      replace mb_c := cells_below mb_c bb (Array.getElem?_eq_some_iff.1 mb_c).1
      replace hB := Below.on hB bb
      clear bb
      have hh_mb_c := Hid_mkW mb_c
      have hh_hB := Hid_mkW hB
      clear mb_c hB
      go_wp2_with fail
      go_ret
      have hB := hh_hB.out
      exact ⟨rfl, hB⟩
  · skip
    have nEB : (EB != 0) = true := by show (!(EB == 0)) = _; rw [bEB]; rfl
    clear I_c
    obtain ⟨m0, m1, m2, m3, m4⟩ := five mb_m
    have hh_mb_m := Hid_mkW mb_m
    have hh_mb_c := Hid_mkW mb_c
    have hh_I_m := Hid_mkW I_m
    have hh_hB := Hid_mkW hB
    clear mb_m mb_c I_m hB
    go_wp2_with fail
    clear m0 m1 m2 m3 m4
    have mb_m := hh_mb_m.out
    have mb_c := hh_mb_c.out
    have I_m := hh_I_m.out
    have hB := hh_hB.out
    clear hh_mb_m hh_mb_c hh_I_m hh_hB
    refine (punch_to I_m n HC.out.1 HC.out.2).mono ?_
    intro e w3 hA
    obtain ⟨val, p_r, p_rc, p_s, p_sc, p_f, p_fc, p_n, p_nc, rfl, hO, bb, hI⟩ := hA.open
    dsimp only
    have hcl : w2.heap.size < (w2.alloc (.cells #[.int .i64 MB.guest, .slice c_r MB.root.length c_rc, .slice c_s MB.slots.length c_sc, .slice c_f MB.refs.length c_fc, .slice c_n MB.snaps.length c_nc] 26)).heap.size := (Array.getElem?_eq_some_iff.1 mb_c).1
    have HO : Hid (OI w3 (w2.alloc (.cells #[.int .i64 MB.guest, .slice c_r MB.root.length c_rc, .slice c_s MB.slots.length c_sc, .slice c_f MB.refs.length c_fc, .slice c_n MB.snaps.length c_nc] 26)).heap.size val MC ∧ imgV MC.guest val = .agg #[.int .i64 MC.guest, .slice p_r MC.root.length p_rc, .slice p_s MC.slots.length p_sc, .slice p_f MC.refs.length p_fc, .slice p_n MC.snaps.length p_nc]) := ⟨hO, hI⟩
    clear hA hO hI
    clear mb_m
    clear I_m
    replace mb_c := cells_below mb_c bb (Array.getElem?_eq_some_iff.1 mb_c).1
    replace hB := Below.on hB bb
    clear bb
    have h0c : Hid (w.heap.size ≤ w2.heap.size) := hle_c.out
    rcases Bool.eq_false_or_eq_true (EC == 0) with bEC | bEC
    · skip
      have nEC : (EC != 0) = false := by show (!(EC == 0)) = _; rw [bEC]; rfl
      have k0 := KC.out (by simpa using bEC)
      have H3 : Hid (puM MC n 0 = MC ∧ puE MC n 0 = 0) := ⟨k0.2, k0.1⟩
      clear k0
      obtain ⟨c0, c1, c2, c3, c4⟩ := five mb_c
      have y0 := cells_frozen mb_c 0
      have y1 := cells_frozen mb_c 1
      have y2 := cells_frozen mb_c 2
      have y3 := cells_frozen mb_c 3
      have y4 := cells_frozen mb_c 4
      have hh_mb_c := Hid_mkW mb_c
      have hh_hB := Hid_mkW hB
      clear mb_c hB
      go_wp2_with fail
      clear c0 c1 c2 c3 c4 y0 y1 y2 y3 y4
      have mb_c := hh_mb_c.out
      have hB := hh_hB.out
      clear hh_mb_c hh_hB
      replace hB : Below w.heap.size w (((((w3.setCell ⟨w2.heap.size, 0, none⟩ (.int .i64 MC.guest)).setCell ⟨w2.heap.size, 1, none⟩ (.slice p_r MC.root.length p_rc)).setCell ⟨w2.heap.size, 2, none⟩ (.slice p_s MC.slots.length p_sc)).setCell ⟨w2.heap.size, 3, none⟩ (.slice p_f MC.refs.length p_fc)).setCell ⟨w2.heap.size, 4, none⟩ (.slice p_n MC.snaps.length p_nc)) := below_five5 hB (by have := h0c.out; omega) _ _ _ _ _
      replace mb_c : (((((w3.setCell ⟨w2.heap.size, 0, none⟩ (.int .i64 MC.guest)).setCell ⟨w2.heap.size, 1, none⟩ (.slice p_r MC.root.length p_rc)).setCell ⟨w2.heap.size, 2, none⟩ (.slice p_s MC.slots.length p_sc)).setCell ⟨w2.heap.size, 3, none⟩ (.slice p_f MC.refs.length p_fc)).setCell ⟨w2.heap.size, 4, none⟩ (.slice p_n MC.snaps.length p_nc)).heap[w2.heap.size]? = some (.cells #[.int .i64 MC.guest, .slice p_r MC.root.length p_rc, .slice p_s MC.slots.length p_sc, .slice p_f MC.refs.length p_fc, .slice p_n MC.snaps.length p_nc] 26) := cells_set (cells_set (cells_set (cells_set (cells_set mb_c 0 _) 1 _) 2 _) 3 _) 4 _
      have I_c : Img (((((w3.setCell ⟨w2.heap.size, 0, none⟩ (.int .i64 MC.guest)).setCell ⟨w2.heap.size, 1, none⟩ (.slice p_r MC.root.length p_rc)).setCell ⟨w2.heap.size, 2, none⟩ (.slice p_s MC.slots.length p_sc)).setCell ⟨w2.heap.size, 3, none⟩ (.slice p_f MC.refs.length p_fc)).setCell ⟨w2.heap.size, 4, none⟩ (.slice p_n MC.snaps.length p_nc)) (.agg #[.int .i64 MC.guest, .slice p_r MC.root.length p_rc, .slice p_s MC.slots.length p_sc, .slice p_f MC.refs.length p_fc, .slice p_n MC.snaps.length p_nc]) MC := by have h := (HO.out.1.five5 hcl (.int .i64 MC.guest) (.slice p_r MC.root.length p_rc) (.slice p_s MC.slots.length p_sc) (.slice p_f MC.refs.length p_fc) (.slice p_n MC.snaps.length p_nc)).img; rw [HO.out.2] at h; exact h
      refine (punch_to I_c n H3.out.1 H3.out.2).mono ?_
      intro e w4 hA
      obtain ⟨val2, d_r, d_rc, d_s, d_sc, d_f, d_fc, d_n, d_nc, rfl, hO, bb, hI⟩ := hA.open
      dsimp only
      have I_d := hO.img
      rw [hI] at I_d
      clear hA hO hI
      replace mb_c := cells_below mb_c bb (Array.getElem?_eq_some_iff.1 mb_c).1
      replace hB := Below.on hB bb
      replace I_c := I_c.below bb
      clear bb
      replace mb_c := cells_alloc mb_c (.cells #[.int .i64 MC.guest, .slice d_r MC.root.length d_rc, .slice d_s MC.slots.length d_sc, .slice d_f MC.refs.length d_fc, .slice d_n MC.snaps.length d_nc] 26)
      have ba : Below w4.heap.size w4 (w4.alloc (.cells #[.int .i64 MC.guest, .slice d_r MC.root.length d_rc, .slice d_s MC.slots.length d_sc, .slice d_f MC.refs.length d_fc, .slice d_n MC.snaps.length d_nc] 26)) := (Below.refl _ _).alloc (Nat.le_refl _) _
      replace hB := Below.on hB ba
      replace I_c := I_c.below ba
      replace I_d := I_d.below ba
      clear ba
      have mb_d : (w4.alloc (.cells #[.int .i64 MC.guest, .slice d_r MC.root.length d_rc, .slice d_s MC.slots.length d_sc, .slice d_f MC.refs.length d_fc, .slice d_n MC.snaps.length d_nc] 26)).heap[w4.heap.size]? = some (.cells #[.int .i64 MC.guest, .slice d_r MC.root.length d_rc, .slice d_s MC.slots.length d_sc, .slice d_f MC.refs.length d_fc, .slice d_n MC.snaps.length d_nc] 26) := World.alloc_heap_new _ _
      have hh_mb_c := Hid_mkW mb_c
      have hh_mb_d := Hid_mkW mb_d
      have hh_I_c := Hid_mkW I_c
      have hh_I_d := Hid_mkW I_d
      have hh_hB := Hid_mkW hB
      clear mb_c mb_d I_c I_d hB
      go_wp2_with fail
      have mb_c := hh_mb_c.out
      have mb_d := hh_mb_d.out
      have I_c := hh_I_c.out
      have I_d := hh_I_d.out
      have hB := hh_hB.out
      clear hh_mb_c hh_mb_d hh_I_c hh_I_d hh_hB
      refine (writesBegun_any _).mono ?_
      rintro e w5 ⟨rfl, bb⟩
      replace mb_c := cells_below mb_c bb (Array.getElem?_eq_some_iff.1 mb_c).1
      replace mb_d := cells_below mb_d bb (Array.getElem?_eq_some_iff.1 mb_d).1
      replace hB := Below.on hB bb
      replace I_c := I_c.below bb
      replace I_d := I_d.below bb
      clear bb
      obtain ⟨c0, c1, c2, c3, c4⟩ := five mb_c
      obtain ⟨d0, d1, d2, d3, d4⟩ := five mb_d
      have hh_mb_c := Hid_mkW mb_c
      have hh_mb_d := Hid_mkW mb_d
      have hh_I_c := Hid_mkW I_c
      have hh_I_d := Hid_mkW I_d
      have hh_hB := Hid_mkW hB
      clear mb_c mb_d I_c I_d hB
      go_wp2_with fail
      clear c0 c1 c2 c3 c4 d0 d1 d2 d3 d4
      have mb_c := hh_mb_c.out
      have mb_d := hh_mb_d.out
      have I_c := hh_I_c.out
      have I_d := hh_I_d.out
      have hB := hh_hB.out
      clear hh_mb_c hh_mb_d hh_I_c hh_I_d hh_hB
      refine (sameI_is I_c I_d).mono ?_
      rintro e w6 ⟨rfl, bb⟩
      replace mb_c := cells_below mb_c bb (Array.getElem?_eq_some_iff.1 mb_c).1
      replace mb_d := cells_below mb_d bb (Array.getElem?_eq_some_iff.1 mb_d).1
      replace hB := Below.on hB bb
      replace I_c := I_c.below bb
      replace I_d := I_d.below bb
      clear bb
      have hh_mb_c := Hid_mkW mb_c
      have hh_mb_d := Hid_mkW mb_d
      have hh_I_c := Hid_mkW I_c
      have hh_I_d := Hid_mkW I_d
      have hh_hB := Hid_mkW hB
      clear mb_c mb_d I_c I_d hB
      go_wp2_with fail
      go_ret
      have hB := hh_hB.out
      exact ⟨rfl, hB⟩
    · skip
      have nEC : (EC != 0) = true := by show (!(EC == 0)) = _; rw [bEC]; rfl
      obtain ⟨c0, c1, c2, c3, c4⟩ := five mb_c
      have y0 := cells_frozen mb_c 0
      have y1 := cells_frozen mb_c 1
      have y2 := cells_frozen mb_c 2
      have y3 := cells_frozen mb_c 3
      have y4 := cells_frozen mb_c 4
      have hh_mb_c := Hid_mkW mb_c
      have hh_hB := Hid_mkW hB
      clear mb_c hB
      go_wp2_with fail
      clear c0 c1 c2 c3 c4 y0 y1 y2 y3 y4
      have mb_c := hh_mb_c.out
      have hB := hh_hB.out
      clear hh_mb_c hh_hB
      replace hB : Below w.heap.size w (((((w3.setCell ⟨w2.heap.size, 0, none⟩ (.int .i64 MC.guest)).setCell ⟨w2.heap.size, 1, none⟩ (.slice p_r MC.root.length p_rc)).setCell ⟨w2.heap.size, 2, none⟩ (.slice p_s MC.slots.length p_sc)).setCell ⟨w2.heap.size, 3, none⟩ (.slice p_f MC.refs.length p_fc)).setCell ⟨w2.heap.size, 4, none⟩ (.slice p_n MC.snaps.length p_nc)) := below_five5 hB (by have := h0c.out; omega) _ _ _ _ _
      replace mb_c : (((((w3.setCell ⟨w2.heap.size, 0, none⟩ (.int .i64 MC.guest)).setCell ⟨w2.heap.size, 1, none⟩ (.slice p_r MC.root.length p_rc)).setCell ⟨w2.heap.size, 2, none⟩ (.slice p_s MC.slots.length p_sc)).setCell ⟨w2.heap.size, 3, none⟩ (.slice p_f MC.refs.length p_fc)).setCell ⟨w2.heap.size, 4, none⟩ (.slice p_n MC.snaps.length p_nc)).heap[w2.heap.size]? = some (.cells #[.int .i64 MC.guest, .slice p_r MC.root.length p_rc, .slice p_s MC.slots.length p_sc, .slice p_f MC.refs.length p_fc, .slice p_n MC.snaps.length p_nc] 26) := cells_set (cells_set (cells_set (cells_set (cells_set mb_c 0 _) 1 _) 2 _) 3 _) 4 _
      refine (writesBegun_any _).mono ?_
      rintro e w4 ⟨rfl, bb⟩
      replace mb_c := cells_below mb_c bb (Array.getElem?_eq_some_iff.1 mb_c).1
      replace hB := Below.on hB bb
      clear bb
      have hh_mb_c := Hid_mkW mb_c
      have hh_hB := Hid_mkW hB
      clear mb_c hB
      go_wp2_with fail
      go_ret
      have hB := hh_hB.out
      exact ⟨rfl, hB⟩

theorem winp_is {v : Value} {m : ImgD} {w : World} (h : Img w v m) (n : Int) (one two : ByteArray) : Calls Try.prog 6 #[v, .int .i64 n, .string one, .string two] w fun r w' => r = .returned (.bool true) ∧ Below w.heap.size w w' := by
  have h' := h
  obtain ⟨ra, rc, sa, sc, fa, fc, na, nc, rfl, h1, h2, h3, h4⟩ := h.parts
  by_cases e7 : wrE m n one = 7
  · have hl : lookE m n = 0 := Classical.byContradiction fun x => by
      unfold wrE at e7
      rw [if_pos x] at e7
      unfold lookE at e7 x
      by_cases hC : checkE m = 0
      · rw [if_neg (by simpa using hC)] at e7
        split at e7 <;> cases e7
      · rw [if_pos hC] at e7
        exact check_not7 e7
    obtain ⟨hC, h0, hn⟩ := lookE_prt hl
    obtain ⟨k, rfl⟩ := Int.eq_ofNat_of_zero_le h0
    have hW : writeD m k one = none := by
      unfold wrE at e7
      rw [if_neg (by rw [hl]; simp), Int.toNat_natCast] at e7
      split at e7
      · cases hw : writeD m k one with
        | none => rfl
        | some M => rw [hw] at e7; cases e7
      · cases e7
    have hu := full_used hC hn hW
    exact winp_full ra rc sa sc fa fc na nc m k one two w h' _ _ ⟨rfl, e7, (shapeE_zero (checkE_shape hC)).2.1, rfl⟩ (by simpa using hu) hu (by simp; omega)
  · by_cases e0 : wrE m n one = 0
    · by_cases h2 : two.size = 4
      · obtain ⟨e, hk, hE, hM⟩ := wr_again e0 h2
        have hr := (wr_ok e0).2.2.2.right
        have hr2 := (wr_ok hE).2.2.2.right
        refine winp_blk ra rc sa sc fa fc na nc m n one two w h' _ _ _ (by rw [h2]; rfl) ⟨rfl, e0⟩ ⟨rfl, hE, (shapeE_zero (checkE_shape hr)).2.1, rfl, (shapeE_zero (checkE_shape hr2)).2.1, ?_, ?_⟩ ?_
        · rw [hM]; exact used_setP hk
        · rw [hM]
        · rw [hM]; simp
      · exact winp_short ra rc sa sc fa fc na nc m n one two w h' _ ⟨rfl, e0⟩ (by simp; omega)
    · exact winp_no ra rc sa sc fa fc na nc m n one two w h' _ _ ⟨rfl, rfl⟩ (by simpa using e7) (by simpa using e0)
end Go.Proofs.Ytehleeibgkpjmad
/- From the reading of an argument to what it holds: slices of integers, slots, slices of slots. -/
namespace Go.Proofs.Ytehleeibgkpjmad
open Go.RowKit Go.Deep Go.ChangeShapes Go.WideShapes Go.ChangeAt
set_option maxRecDepth 20000

theorem cells27 : Try.prog.cellsOf 22 = 1 := by kernel_rfl
theorem cells3 : Try.prog.cellsOf 3 = 1 := by kernel_rfl
theorem cells9 : Try.prog.cellsOf 9 = 1 := by kernel_rfl
theorem cells29 : Try.prog.cellsOf 52 = 3 := by kernel_rfl

variable {H : Type} {enc : TypeId × Value → H} {w : World} {base : Nat} {spare : Nat → Bool} {held : Bool}

/-- The cells of a row by its address. -/
theorem row_at {w : World} {a : Addr} {n : Nat} {f : Nat → Value} (hn : 0 < n) (h : ∀ i, i < n → w.cell? (a.add i) = some (f i)) :
    ∃ b off, a = ⟨b, off, none⟩ ∧ b < w.heap.size ∧ ∀ i, i < n → w.cell? ⟨b, off + i, none⟩ = some (f i) := by
  have h0 := h 0 hn
  obtain ⟨b, off, spot⟩ := a
  have hspot : spot = none := by simpa [Addr.add] using World.cell?_spot h0
  subst hspot
  refine ⟨b, off, rfl, World.block_lt_of_cell? w _ (by rw [addr_add] at h0; exact h0), fun i hi => ?_⟩
  have := h i hi
  rw [addr_add] at this
  exact this

theorem sl_of_trod {n : Nat} {cs : List Value} {x : DataW H × List MemPlace} (h : DataW.trod enc Try.prog w base spare held n 22 cs = some x) : ∃ v xs, cs = [v] ∧ Sl w v xs := by
  rcases open_ints Try.underlying22 Try.underlying3 cells3 h with ⟨rfl, _⟩ | ⟨a, l, c, zs, rfl, _, hl, hm, hz, _, hcell, _⟩
  · exact ⟨_, [], rfl, Sl.nil w⟩
  · have hlz : l ≤ zs.length := by rw [hz]; split <;> omega
    have hlen : (zs.take l).length = l := by simp; omega
    refine ⟨_, zs.take l, rfl, some a, c, by rw [hlen], by rw [hlen]; omega, by rw [hlen]; exact hl, fun hne => ?_⟩
    have hpos : 0 < l := by
      rcases Nat.eq_zero_or_pos l with e | e
      · subst e; simp at hne
      · exact e
    obtain ⟨b, off, rfl, hb, hc⟩ := row_at (w := w) (a := a) (n := l) (f := fun i => .int .i64 (zs.getD i 0)) hpos (fun i hi => hcell i (by omega))
    refine ⟨b, off, rfl, hb, fun j hj => ?_⟩
    rw [hlen] at hj
    rw [hc j hj]
    simp [List.getD, hj]

set_option maxRecDepth 20000 in
theorem slot_of_trod {n : Nat} {cs : List Value} {x : DataW H × List MemPlace} (h : DataW.trod enc Try.prog w base spare held n 52 cs = some x) :
    ∃ k d tv xs, cs = [.int .i64 k, .string d, tv] ∧ Sl w tv xs := by
  obtain ⟨y0, y1, y2, m, _, hl, h0, h1, h2⟩ := trod_struct3 Try.underlying52 h
  rw [cells29] at hl
  match cs, hl with
  | [c0, c1, c2], _ =>
    simp only [cells3, cells9, cells27] at h0 h1 h2
    obtain ⟨k, e0, _, _⟩ := DataW.trod_int Try.underlying3 h0
    obtain ⟨d, e1, _, _⟩ := DataW.trod_string Try.underlying9 h1
    obtain ⟨tv, xs, e2, hs⟩ := sl_of_trod h2
    simp at e0 e1 e2
    subst e0 e1 e2
    exact ⟨k, d, _, xs, rfl, hs⟩

theorem slots_of_trod {n : Nat} {v : Value} {x : DataW H × List MemPlace} (h : DataW.trod enc Try.prog w base spare held n 23 [v] = some x) : ∃ L, Slots w v L := by
  rcases open_slice Try.underlying23 h with ⟨hv, _⟩ | ⟨a, len, cap, m, fuel, D, Pl, hv, _, hl, hm, hmm, _, hx⟩
  · simp at hv
    subst hv
    exact ⟨[], none, 0, rfl, Nat.zero_le _, Nat.zero_le _, fun h => absurd rfl h⟩
  · simp at hv
    subst hv
    rw [cells29] at hx
    have hx' : ∀ i, i < len → ∃ s : SlotD, ∃ tv, w.cell? (a.add (i * 3)) = some (.int .i64 s.1) ∧ w.cell? ((a.add (i * 3)).add 1) = some (.string s.2.1) ∧ w.cell? ((a.add (i * 3)).add 2) = some tv ∧ Sl w tv s.2.2 := by
      intro i hi
      obtain ⟨cs', h1, h2⟩ := hx i (by rw [hmm]; split <;> omega)
      obtain ⟨k, d, tv, xs, rfl, hs⟩ := slot_of_trod h2
      obtain ⟨_, _, hc⟩ := World.cells?_some h1
      have c0 := hc 0 (by omega)
      have c1 := hc 1 (by omega)
      have c2 := hc 2 (by omega)
      exact ⟨(k, d, xs), tv, by simpa [Addr.add] using c0, c1, c2, hs⟩
    obtain ⟨f, hf⟩ := choose_lt hx'
    have hlen : ((List.range len).map f).length = len := by simp
    refine ⟨(List.range len).map f, some a, cap, by rw [hlen], by rw [hlen]; omega, by rw [hlen]; exact hl, fun hne => ?_⟩
    have hpos : 0 < len := by
      rcases Nat.eq_zero_or_pos len with e | e
      · subst e; simp at hne
      · exact e
    obtain ⟨tv0, c0, _⟩ := hf 0 hpos
    obtain ⟨b, off, spot⟩ := a
    have hspot : spot = none := by simpa [Addr.add] using World.cell?_spot c0
    subst hspot
    refine ⟨b, off, rfl, World.block_lt_of_cell? w _ (by rw [addr_add] at c0; exact c0), fun j hj => ?_⟩
    rw [hlen] at hj
    obtain ⟨tv, c0, c1, c2, hs⟩ := hf j hj
    rw [addr_add] at c0 c1 c2
    rw [addr_add] at c1 c2
    have e : ((List.range len).map f)[j]'(by rw [hlen]; exact hj) = f j := by simp
    rw [e]
    exact ⟨tv, c0, c1, c2, hs⟩
set_option maxRecDepth 20000 in
theorem slot_of_arg {r : Reach} {b0 : Nat} {v : Value} {d : DataW H} {p : List MemPlace} (hv : Value.okWide Try.prog w r b0 52 v) (h : DataW.Trod enc Try.prog w base spare held 52 v d p) :
    ∃ k d tv xs, v = .agg #[.int .i64 k, .string d, tv] ∧ Sl w tv xs := by
  obtain ⟨cs, rfl, hsz⟩ := okWide_struct Try.underlying52 hv
  obtain ⟨fuel, hf⟩ := h
  obtain ⟨k, d, tv, xs, e, hs⟩ := slot_of_trod hf
  refine ⟨k, d, tv, xs, ?_, hs⟩
  have e' : cs.toList = [.int .i64 k, .string d, tv] := by simpa [Value.cells] using e
  cases cs
  simp at e'
  rw [e']
end Go.Proofs.Ytehleeibgkpjmad
