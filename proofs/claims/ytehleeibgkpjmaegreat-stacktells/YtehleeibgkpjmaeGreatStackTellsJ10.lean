/- Texts joined: WrZ, WrRz, WrB, SkW, OwA, OxI. -/
import Derived.Test.YtehleeibgkpjmaeGreatStackTellsJ9
import Derived.Laws.CopyRow
import Derived.Laws.IdiomCopy
import Derived.Test.YtehleeibgkpjmaeGreatStackTellsJ6
import Derived.Test.YtehleeibgkpjmaeGreatStackTellsJ5
import Derived.Test.YtehleeibgkpjmaeGreatStackTellsJ1
import Derived.Deep.RegionHeld
import Derived.Test.YtehleeibgkpjmaeGreatStackTellsJ7
import Derived.Deep.RegionLaw
import Derived.Deep.CutRange
namespace Go.Proofs.YtehleeibgkpjmaeGreat
open Go.RowKit Go.Shelf
set_option maxRecDepth 20000
def rootTo (xs : List Int) (n : Nat) : List Int := (xs ++ List.replicate (n - xs.length) 0).take n
theorem rootTo_len (xs : List Int) (n : Nat) : (rootTo xs n).length = n := by unfold rootTo; simp; omega
theorem copy_root {w : World} {v : Value} {xs : List Int} (h : Sl w v xs) (n : Nat) :
  ∃ W2 c, (Builtin.copy_ #[23, 23] 3 #[.slice (some ⟨w.heap.size, 0, none⟩) n n, v]).run Tryz.prog (w.alloc (.cells ((List.replicate n (0 : Int)).map (Value.int .i64)).toArray 3)) = .ok c W2 ∧
   W2.heap[w.heap.size]? = some (.cells ((rootTo xs n).map (Value.int .i64)).toArray 3) ∧ Below w.heap.size w W2 := by
 obtain ⟨ao, cap, rfl⟩ := h.form
 obtain ⟨_, _, _, hc⟩ := h.cells
 have hg := heap_alloc_new w (.cells ((List.replicate n (0 : Int)).map (Value.int .i64)).toArray 3)
 by_cases h0 : min xs.length n = 0
 ·have hrun := run_copy_none (P := Tryz.prog) (w.alloc (.cells ((List.replicate n (0 : Int)).map (Value.int .i64)).toArray 3)) 23 23 3 3 (some ⟨w.heap.size, 0, none⟩) ao n n xs.length cap Tryz.underlying23 Tryz.size3 h0
  refine ⟨_, _, hrun, ?_, (Below.refl _ _).alloc (Nat.le_refl _) _⟩
  have e : rootTo xs n = List.replicate n 0 := by
   unfold rootTo
   by_cases hn : n = 0
   ·subst hn; simp
   ·have : xs = [] := List.length_eq_zero_iff.1 (by omega)
    subst this
    simp
  rw [e]
  exact hg
 ·obtain ⟨b, off, rfl, hb, _⟩ := hc 0 (by omega)
  have hc : ∀ j, j < xs.length → w.cell? ⟨b, off + j, none⟩ = some (.int .i64 (xs.getD j 0)) := fun j hj => by
   obtain ⟨b', off', e, _, h2⟩ := hc j hj
   simp only [Option.some.injEq, Addr.mk.injEq, and_true] at e
   obtain ⟨rfl, rfl⟩ := e
   exact h2
  obtain ⟨X, hX⟩ : ∃ X, X = (xs.take n).map (Value.int .i64) := ⟨_, rfl⟩
  have hXl : X.length = min xs.length n := by rw [hX]; simp; omega
  have hsrc : ∀ j v, X[j]? = some v → (w.alloc (.cells ((List.replicate n (0 : Int)).map (Value.int .i64)).toArray 3)).cell? ((⟨b, off, none⟩ : Addr).add j) = some v := by
   intro j v hj
   have hjn : j < min xs.length n := by have := (List.getElem?_eq_some_iff.1 hj).1; rw [hXl] at this; exact this
   rw [hX] at hj
   have : v = .int .i64 (xs.getD j 0) := by
    rw [List.getElem?_map, List.getElem?_take, if_pos (by omega)] at hj
    simp [List.getD, show j < xs.length by omega] at hj ⊢
    exact hj.symm
   rw [this]
   rw [addr_add]
   exact (World.cell?_alloc_past _ _ _ hb).trans (hc j (by omega))
  have hrun := run_copy_row (P := Tryz.prog) _ 23 23 3 3 w.heap.size 0 n n ⟨b, off, none⟩ xs.length cap _ 3 X Tryz.underlying23 Tryz.size3 hg hXl hsrc (by rw [hXl]; simp; omega) (by rw [hX]; exact ints_oneCell _ _)
  refine ⟨_, _, hrun, ?_, below_setRow ((Below.refl _ _).alloc (Nat.le_refl _) _) (Nat.le_refl _) _⟩
  rw [setRow_heap _ _ _ _ _ _ hg, hX]
  have e : (rootTo xs n).map (Value.int .i64) = (xs.take n).map (Value.int .i64) ++ ((List.replicate n (0 : Int)).map (Value.int .i64)).drop (min xs.length n) := by
   rw [← List.map_drop, ← List.map_append]
   congr 1
   unfold rootTo
   rw [List.take_append, List.take_replicate, List.drop_replicate]
   congr 2
   omega
  rw [e]
  simp [Nat.min_comm]
theorem row_whole {W : World} {B g : Nat} {xs : List Int} (hB : B ≤ g) (h : W.heap[g]? = some (.cells (xs.map (Value.int .i64)).toArray 3)) (hm : xs.length ≤ 40) : W.ownsRow B 3 1 (.slice (some ⟨g, 0, none⟩) xs.length xs.length) xs.length (ints xs) := by
 have hx : (40 : Nat) ≤ maxLen := by decide
 exact ⟨by simp [ints], .inr ⟨g, xs.length, _, rfl, hB, h, Nat.le_refl _, Nat.le_trans hm hx, by simp, by simp [ints, List.take_of_length_le]⟩⟩
set_option maxHeartbeats 2000000 in
theorem rz_turn {w : World} {m : ImgD} {g bg : Nat} (cg : w.cell? ⟨bg, 0, none⟩ = some (.int .i64 (g : Int))) (lg : bg < w.heap.size) (h16 : g ≤ 16) (hs : shapeE m = 0) :
  Turns w 85 #[.pointer (some ⟨bg, 0, none⟩)] m (rzP m g) := by
 intro W D B val hb h1 h2 hK
 have cg := (hb.cell (p := ⟨bg, 0, none⟩) lg).trans cg
 have hcut := wcut_is hK h2 h16 hs
 show Calls Tryz.prog 85 #[.pointer (some ⟨D, 0, none⟩), .pointer (some ⟨bg, 0, none⟩)] W _
 unfold rzP
 cases hc : cutP m g with
 | none =>
  rw [hc] at hcut
  clear hc hK hs
  go_enter Tryz.func85, Tryz.ntmps85
  go_wp2_with (go_at_call 86; refine hcut.mono ?_; rintro e w3 ⟨rfl, b3⟩; exact ⟨rfl, rfl, b3⟩)
 | some M =>
  rw [hc] at hcut
  show Calls Tryz.prog 85 #[.pointer (some ⟨D, 0, none⟩), .pointer (some ⟨bg, 0, none⟩)] W (fun r W' => ∃ val', r = .returned (.tuple #[]) ∧ DTo W W' B D m val nilV (rerootD M g) val')
  obtain ⟨N, hN⟩ : ∃ N, (g + 3) / 4 = N := ⟨_, rfl⟩
  have hN4 : N ≤ 4 := by omega
  have e4 : (N : Int) = ((g : Int) + 4 - 1) / 4 := by omega
  have HE : Hid (rerootD M g = { M with guest := (g : Int), root := rootTo M.root N }) := by unfold rerootD rootTo; rw [hN]; exact rfl
  have hmk0 := mk_ints N (by omega)
  obtain ⟨Z, hZ⟩ : ∃ Z, ((List.replicate N (0 : Int)).map (Value.int .i64)).toArray = Z := ⟨_, rfl⟩
  rw [hZ, e4] at hmk0
  have HZ : Hid (((List.replicate N (0 : Int)).map (Value.int .i64)).toArray = Z) := hZ
  have HN : Hid (N ≤ 4) := hN4
  have hlg : bg < B := Nat.lt_of_lt_of_le lg h1
  have HH : Hid (B ≤ W.heap.size ∧ bg < B) := ⟨h2, hlg⟩
  clear hc hK hs hN hN4 e4 hZ hb lg h1 h2
  go_enter Tryz.func85, Tryz.ntmps85
  go_wp2_with (go_at_call 86; refine hcut.mono ?_; rintro e w1 ⟨rfl, val1, hT1⟩; have cg1 := (hT1.bel.cell (p := ⟨bg, 0, none⟩) HH.out.2).trans cg; obtain ⟨ra, rc, e0, hS0⟩ := hT1.dk.own.forms .root (Live.root M); obtain ⟨W2, cc, hcp, hg2, hB2⟩ := copy_root (row_sl (hT1.dk.own.row .root (Live.root M))) N; rw [HZ.out, e0] at hcp; have hcp : (Builtin.copy_ #[23, 23] 3 #[.slice (some ⟨w1.heap.size, 0, none⟩) N N, .slice ra M.root.length rc]).run Tryz.prog (w1.alloc (.cells Z 3)) = .ok cc W2 := hcp; have d1 : (w1.alloc (.cells Z 3)).cell? ⟨D, 1, none⟩ = some (.slice ra M.root.length rc) := (hT1.dk.alloc _).root5 e0; have hT2 := hT1.below HH.out.1 hB2; have cg2 := (hT2.bel.cell (p := ⟨bg, 0, none⟩) HH.out.2).trans cg; obtain ⟨p0, p1, _, _, _⟩ := hT2.dk.five; have f0 := hT2.dk.frozen 0; have f1 := hT2.dk.frozen 1; have HT := Hid_mkW (And.intro hT2 (And.intro hg2 hT1.bel.size)); have HD := Hid_mkW hT1; clear hT2 hT1 hg2 hS0 e0)
  go_end0
  have hT2 := HT.out.1
  have hDw := HD.out.dk.lt
  have hBw : B ≤ w1.heap.size := Nat.le_trans HH.out.1 HT.out.2.2
  have k1 := hT2.setDesk (hT2.dk.setGuest (g : Int)) (fun q _ hs _ b hb => hs b hb)
  have hrow : (W2.setCell ⟨D, 0, none⟩ (.int .i64 (g : Int))).ownsRow B 3 1 (.slice (some ⟨w1.heap.size, 0, none⟩) N N) (rootTo M.root N).length (ints (rootTo M.root N)) := by
   have h0 : (W2.setCell ⟨D, 0, none⟩ (.int .i64 (g : Int))).heap[w1.heap.size]? = some (.cells ((rootTo M.root N).map (Value.int .i64)).toArray 3) := cells_other HT.out.2.1 (by omega) 0 _
   have := row_whole hBw h0 (by rw [rootTo_len]; have := HN.out; omega)
   rw [rootTo_len] at this ⊢
   exact this
  have hnew : ∀ b, Live M b → (val1 b).ownBlock ≠ some w1.heap.size := HD.out.dk.own.lt (Nat.le_refl _)
  have hv : (Value.slice (some ⟨w1.heap.size, 0, none⟩) N N).ownBlock = some w1.heap.size := rfl
  have k2 := k1.setDesk (k1.dk.swapRoot hrow (fun b hb _ q hq x => by cases hq; exact hnew b hb x) (fun x => by rw [hv] at x; injection x with x; omega)) (fun q _ hs hq b hb => by
   by_cases e : b = .root
   ·subst e
    rw [upd_same]
    intro x
    rw [hv] at x
    injection x with x
    have := HT.out.2.2
    omega
   ·rw [upd_other _ _ e]
    exact hs b hb)
  rw [HE.out]
  exact ⟨_, rfl, k2⟩
set_option linter.unusedVariables false
set_option maxHeartbeats 4000000 in
theorem resize_bad_at (m : ImgD) (ra : Option Addr) (rn rc : Nat) (sa : Option Addr) (sn sc : Nat) (fa : Option Addr) (fn fc : Nat) (na : Option Addr) (nn nc : Nat) (g : Int) (E : Int) (w : World) (h : Img w (.agg #[.int .i64 m.guest, .slice ra rn rc, .slice sa sn sc, .slice fa fn fc, .slice na nn nc]) m) (hE : checkE m = E) (hne : (E != 0) = true) :
  Calls Tryz.prog 64 #[.agg #[.int .i64 m.guest, .slice ra rn rc, .slice sa sn sc, .slice fa fn fc, .slice na nn nc], .int .i64 g] w (AnsI w w.heap.size imgZ E) := by
 have b0 : Below w.heap.size w (((w.alloc (.cells #[.int .i64 m.guest, .slice ra rn rc, .slice sa sn sc, .slice fa fn fc, .slice na nn nc] 27)).alloc (.cells #[.int .i64 g] 3)).alloc (.cells #[.int .i64 0, .slice none 0 0, .slice none 0 0, .slice none 0 0, .slice none 0 0] 27)) := (((Below.refl _ _).alloc (by simp; try omega) _).alloc (by simp; try omega) _).alloc (by simp; try omega) _
 have q0 : (w.alloc (.cells #[.int .i64 m.guest, .slice ra rn rc, .slice sa sn sc, .slice fa fn fc, .slice na nn nc] 27)).heap[w.heap.size]? = some (.cells #[.int .i64 m.guest, .slice ra rn rc, .slice sa sn sc, .slice fa fn fc, .slice na nn nc] 27) := by have := World.alloc_heap_new w (.cells #[.int .i64 m.guest, .slice ra rn rc, .slice sa sn sc, .slice fa fn fc, .slice na nn nc] 27); simpa using this
 have m0 : (((w.alloc (.cells #[.int .i64 m.guest, .slice ra rn rc, .slice sa sn sc, .slice fa fn fc, .slice na nn nc] 27)).alloc (.cells #[.int .i64 g] 3)).alloc (.cells #[.int .i64 0, .slice none 0 0, .slice none 0 0, .slice none 0 0, .slice none 0 0] 27)).heap[w.heap.size]? = some (.cells #[.int .i64 m.guest, .slice ra rn rc, .slice sa sn sc, .slice fa fn fc, .slice na nn nc] 27) := (cells_alloc (cells_alloc q0 _) _)
 have q1 : ((w.alloc (.cells #[.int .i64 m.guest, .slice ra rn rc, .slice sa sn sc, .slice fa fn fc, .slice na nn nc] 27)).alloc (.cells #[.int .i64 g] 3)).heap[w.heap.size + 1]? = some (.cells #[.int .i64 g] 3) := by have := World.alloc_heap_new (w.alloc (.cells #[.int .i64 m.guest, .slice ra rn rc, .slice sa sn sc, .slice fa fn fc, .slice na nn nc] 27)) (.cells #[.int .i64 g] 3); simpa using this
 have m1 : (((w.alloc (.cells #[.int .i64 m.guest, .slice ra rn rc, .slice sa sn sc, .slice fa fn fc, .slice na nn nc] 27)).alloc (.cells #[.int .i64 g] 3)).alloc (.cells #[.int .i64 0, .slice none 0 0, .slice none 0 0, .slice none 0 0, .slice none 0 0] 27)).heap[w.heap.size + 1]? = some (.cells #[.int .i64 g] 3) := (cells_alloc q1 _)
 have q2 : (((w.alloc (.cells #[.int .i64 m.guest, .slice ra rn rc, .slice sa sn sc, .slice fa fn fc, .slice na nn nc] 27)).alloc (.cells #[.int .i64 g] 3)).alloc (.cells #[.int .i64 0, .slice none 0 0, .slice none 0 0, .slice none 0 0, .slice none 0 0] 27)).heap[w.heap.size + 1 + 1]? = some (.cells #[.int .i64 0, .slice none 0 0, .slice none 0 0, .slice none 0 0, .slice none 0 0] 27) := by have := World.alloc_heap_new ((w.alloc (.cells #[.int .i64 m.guest, .slice ra rn rc, .slice sa sn sc, .slice fa fn fc, .slice na nn nc] 27)).alloc (.cells #[.int .i64 g] 3)) (.cells #[.int .i64 0, .slice none 0 0, .slice none 0 0, .slice none 0 0, .slice none 0 0] 27); simpa using this
 have m2 : (((w.alloc (.cells #[.int .i64 m.guest, .slice ra rn rc, .slice sa sn sc, .slice fa fn fc, .slice na nn nc] 27)).alloc (.cells #[.int .i64 g] 3)).alloc (.cells #[.int .i64 0, .slice none 0 0, .slice none 0 0, .slice none 0 0, .slice none 0 0] 27)).heap[w.heap.size + 1 + 1]? = some (.cells #[.int .i64 0, .slice none 0 0, .slice none 0 0, .slice none 0 0, .slice none 0 0] 27) := q2
 have hz : (((w.alloc (.cells #[.int .i64 m.guest, .slice ra rn rc, .slice sa sn sc, .slice fa fn fc, .slice na nn nc] 27)).alloc (.cells #[.int .i64 g] 3)).alloc (.cells #[.int .i64 0, .slice none 0 0, .slice none 0 0, .slice none 0 0, .slice none 0 0] 27)).heap.size = w.heap.size + 1 + 1 + 1 := by simp
 clear q0 q1 q2
 have hchk := tcheck_is (h.below b0) hE
 obtain ⟨c0, c1, c2, c3, c4⟩ := five m0
 have HM : Hid ((((w.alloc (.cells #[.int .i64 m.guest, .slice ra rn rc, .slice sa sn sc, .slice fa fn fc, .slice na nn nc] 27)).alloc (.cells #[.int .i64 g] 3)).alloc (.cells #[.int .i64 0, .slice none 0 0, .slice none 0 0, .slice none 0 0, .slice none 0 0] 27)).heap[w.heap.size + 1 + 1]? = some (.cells #[.int .i64 0, .slice none 0 0, .slice none 0 0, .slice none 0 0, .slice none 0 0] 27) ∧ Below w.heap.size w (((w.alloc (.cells #[.int .i64 m.guest, .slice ra rn rc, .slice sa sn sc, .slice fa fn fc, .slice na nn nc] 27)).alloc (.cells #[.int .i64 g] 3)).alloc (.cells #[.int .i64 0, .slice none 0 0, .slice none 0 0, .slice none 0 0, .slice none 0 0] 27)) ∧ (((w.alloc (.cells #[.int .i64 m.guest, .slice ra rn rc, .slice sa sn sc, .slice fa fn fc, .slice na nn nc] 27)).alloc (.cells #[.int .i64 g] 3)).alloc (.cells #[.int .i64 0, .slice none 0 0, .slice none 0 0, .slice none 0 0, .slice none 0 0] 27)).heap.size = w.heap.size + 1 + 1 + 1 ∧ (((w.alloc (.cells #[.int .i64 m.guest, .slice ra rn rc, .slice sa sn sc, .slice fa fn fc, .slice na nn nc] 27)).alloc (.cells #[.int .i64 g] 3)).alloc (.cells #[.int .i64 0, .slice none 0 0, .slice none 0 0, .slice none 0 0, .slice none 0 0] 27)).heap[w.heap.size + 1]? = some (.cells #[.int .i64 g] 3)) := ⟨m2, b0, hz, m1⟩
 clear h m0 m1 m2 hz b0 hE
 go_enter Tryz.func64, Tryz.ntmps64
 go_wp2_with (go_at_call 25; refine hchk.mono ?_; rintro e w1 ⟨rfl, b1⟩; have k3 := cells_below HM.out.1 b1 (by rw [HM.out.2.2.1]; omega); obtain ⟨z0, z1, z2, z3, z4⟩ := five k3; have y0 := cells_frozen k3 0; have y1 := cells_frozen k3 1; have y2 := cells_frozen k3 2; have y3 := cells_frozen k3 3; have y4 := cells_frozen k3 4; have cn := one (cells_below HM.out.2.2.2 b1 (by rw [HM.out.2.2.1]; omega)); have HB : Hid (Below w.heap.size w w1) := Below.on HM.out.2.1 b1; clear b1 k3)
 have i1 : w.heap.size ≤ w.heap.size + 1 + 1 := by omega
 refine bodyPost_ret (v := .tuple #[.agg #[.int .i64 0, .slice none 0 0, .slice none 0 0, .slice none 0 0, .slice none 0 0], .int .i64 E]) (by simp [results, Tryz.results64, go_sem, z0, z1, z2, z3, z4]) rfl (AnsI.bad E (((((HB.out.setCell i1 _).setCell i1 _).setCell i1 _).setCell i1 _).setCell i1 _))
set_option maxHeartbeats 4000000 in
theorem resize_neg_at (m : ImgD) (ra : Option Addr) (rn rc : Nat) (sa : Option Addr) (sn sc : Nat) (fa : Option Addr) (fn fc : Nat) (na : Option Addr) (nn nc : Nat) (g : Int)  (w : World) (h : Img w (.agg #[.int .i64 m.guest, .slice ra rn rc, .slice sa sn sc, .slice fa fn fc, .slice na nn nc]) m) (hE : checkE m = 0) (hg : g < 0) :
  Calls Tryz.prog 64 #[.agg #[.int .i64 m.guest, .slice ra rn rc, .slice sa sn sc, .slice fa fn fc, .slice na nn nc], .int .i64 g] w (AnsI w w.heap.size imgZ 3) := by
 have b0 : Below w.heap.size w (((w.alloc (.cells #[.int .i64 m.guest, .slice ra rn rc, .slice sa sn sc, .slice fa fn fc, .slice na nn nc] 27)).alloc (.cells #[.int .i64 g] 3)).alloc (.cells #[.int .i64 0, .slice none 0 0, .slice none 0 0, .slice none 0 0, .slice none 0 0] 27)) := (((Below.refl _ _).alloc (by simp; try omega) _).alloc (by simp; try omega) _).alloc (by simp; try omega) _
 have q0 : (w.alloc (.cells #[.int .i64 m.guest, .slice ra rn rc, .slice sa sn sc, .slice fa fn fc, .slice na nn nc] 27)).heap[w.heap.size]? = some (.cells #[.int .i64 m.guest, .slice ra rn rc, .slice sa sn sc, .slice fa fn fc, .slice na nn nc] 27) := by have := World.alloc_heap_new w (.cells #[.int .i64 m.guest, .slice ra rn rc, .slice sa sn sc, .slice fa fn fc, .slice na nn nc] 27); simpa using this
 have m0 : (((w.alloc (.cells #[.int .i64 m.guest, .slice ra rn rc, .slice sa sn sc, .slice fa fn fc, .slice na nn nc] 27)).alloc (.cells #[.int .i64 g] 3)).alloc (.cells #[.int .i64 0, .slice none 0 0, .slice none 0 0, .slice none 0 0, .slice none 0 0] 27)).heap[w.heap.size]? = some (.cells #[.int .i64 m.guest, .slice ra rn rc, .slice sa sn sc, .slice fa fn fc, .slice na nn nc] 27) := (cells_alloc (cells_alloc q0 _) _)
 have q1 : ((w.alloc (.cells #[.int .i64 m.guest, .slice ra rn rc, .slice sa sn sc, .slice fa fn fc, .slice na nn nc] 27)).alloc (.cells #[.int .i64 g] 3)).heap[w.heap.size + 1]? = some (.cells #[.int .i64 g] 3) := by have := World.alloc_heap_new (w.alloc (.cells #[.int .i64 m.guest, .slice ra rn rc, .slice sa sn sc, .slice fa fn fc, .slice na nn nc] 27)) (.cells #[.int .i64 g] 3); simpa using this
 have m1 : (((w.alloc (.cells #[.int .i64 m.guest, .slice ra rn rc, .slice sa sn sc, .slice fa fn fc, .slice na nn nc] 27)).alloc (.cells #[.int .i64 g] 3)).alloc (.cells #[.int .i64 0, .slice none 0 0, .slice none 0 0, .slice none 0 0, .slice none 0 0] 27)).heap[w.heap.size + 1]? = some (.cells #[.int .i64 g] 3) := (cells_alloc q1 _)
 have q2 : (((w.alloc (.cells #[.int .i64 m.guest, .slice ra rn rc, .slice sa sn sc, .slice fa fn fc, .slice na nn nc] 27)).alloc (.cells #[.int .i64 g] 3)).alloc (.cells #[.int .i64 0, .slice none 0 0, .slice none 0 0, .slice none 0 0, .slice none 0 0] 27)).heap[w.heap.size + 1 + 1]? = some (.cells #[.int .i64 0, .slice none 0 0, .slice none 0 0, .slice none 0 0, .slice none 0 0] 27) := by have := World.alloc_heap_new ((w.alloc (.cells #[.int .i64 m.guest, .slice ra rn rc, .slice sa sn sc, .slice fa fn fc, .slice na nn nc] 27)).alloc (.cells #[.int .i64 g] 3)) (.cells #[.int .i64 0, .slice none 0 0, .slice none 0 0, .slice none 0 0, .slice none 0 0] 27); simpa using this
 have m2 : (((w.alloc (.cells #[.int .i64 m.guest, .slice ra rn rc, .slice sa sn sc, .slice fa fn fc, .slice na nn nc] 27)).alloc (.cells #[.int .i64 g] 3)).alloc (.cells #[.int .i64 0, .slice none 0 0, .slice none 0 0, .slice none 0 0, .slice none 0 0] 27)).heap[w.heap.size + 1 + 1]? = some (.cells #[.int .i64 0, .slice none 0 0, .slice none 0 0, .slice none 0 0, .slice none 0 0] 27) := q2
 have hz : (((w.alloc (.cells #[.int .i64 m.guest, .slice ra rn rc, .slice sa sn sc, .slice fa fn fc, .slice na nn nc] 27)).alloc (.cells #[.int .i64 g] 3)).alloc (.cells #[.int .i64 0, .slice none 0 0, .slice none 0 0, .slice none 0 0, .slice none 0 0] 27)).heap.size = w.heap.size + 1 + 1 + 1 := by simp
 clear q0 q1 q2
 have g1 : decide (g < 0) = true := by simp [hg]
 have hchk := tcheck_is (h.below b0) hE
 obtain ⟨c0, c1, c2, c3, c4⟩ := five m0
 have HM : Hid ((((w.alloc (.cells #[.int .i64 m.guest, .slice ra rn rc, .slice sa sn sc, .slice fa fn fc, .slice na nn nc] 27)).alloc (.cells #[.int .i64 g] 3)).alloc (.cells #[.int .i64 0, .slice none 0 0, .slice none 0 0, .slice none 0 0, .slice none 0 0] 27)).heap[w.heap.size + 1 + 1]? = some (.cells #[.int .i64 0, .slice none 0 0, .slice none 0 0, .slice none 0 0, .slice none 0 0] 27) ∧ Below w.heap.size w (((w.alloc (.cells #[.int .i64 m.guest, .slice ra rn rc, .slice sa sn sc, .slice fa fn fc, .slice na nn nc] 27)).alloc (.cells #[.int .i64 g] 3)).alloc (.cells #[.int .i64 0, .slice none 0 0, .slice none 0 0, .slice none 0 0, .slice none 0 0] 27)) ∧ (((w.alloc (.cells #[.int .i64 m.guest, .slice ra rn rc, .slice sa sn sc, .slice fa fn fc, .slice na nn nc] 27)).alloc (.cells #[.int .i64 g] 3)).alloc (.cells #[.int .i64 0, .slice none 0 0, .slice none 0 0, .slice none 0 0, .slice none 0 0] 27)).heap.size = w.heap.size + 1 + 1 + 1 ∧ (((w.alloc (.cells #[.int .i64 m.guest, .slice ra rn rc, .slice sa sn sc, .slice fa fn fc, .slice na nn nc] 27)).alloc (.cells #[.int .i64 g] 3)).alloc (.cells #[.int .i64 0, .slice none 0 0, .slice none 0 0, .slice none 0 0, .slice none 0 0] 27)).heap[w.heap.size + 1]? = some (.cells #[.int .i64 g] 3)) := ⟨m2, b0, hz, m1⟩
 clear h m0 m1 m2 hz b0 hE
 go_enter Tryz.func64, Tryz.ntmps64
 go_wp2_with (go_at_call 25; refine hchk.mono ?_; rintro e w1 ⟨rfl, b1⟩; have k3 := cells_below HM.out.1 b1 (by rw [HM.out.2.2.1]; omega); obtain ⟨z0, z1, z2, z3, z4⟩ := five k3; have y0 := cells_frozen k3 0; have y1 := cells_frozen k3 1; have y2 := cells_frozen k3 2; have y3 := cells_frozen k3 3; have y4 := cells_frozen k3 4; have cn := one (cells_below HM.out.2.2.2 b1 (by rw [HM.out.2.2.1]; omega)); have HB : Hid (Below w.heap.size w w1) := Below.on HM.out.2.1 b1; clear b1 k3)
 have i1 : w.heap.size ≤ w.heap.size + 1 + 1 := by omega
 refine bodyPost_ret (v := .tuple #[.agg #[.int .i64 0, .slice none 0 0, .slice none 0 0, .slice none 0 0, .slice none 0 0], .int .i64 3]) (by simp [results, Tryz.results64, go_sem, z0, z1, z2, z3, z4]) rfl (AnsI.bad 3 (((((HB.out.setCell i1 _).setCell i1 _).setCell i1 _).setCell i1 _).setCell i1 _))
set_option maxHeartbeats 4000000 in
theorem resize_far_at (m : ImgD) (ra : Option Addr) (rn rc : Nat) (sa : Option Addr) (sn sc : Nat) (fa : Option Addr) (fn fc : Nat) (na : Option Addr) (nn nc : Nat) (g : Int)  (w : World) (h : Img w (.agg #[.int .i64 m.guest, .slice ra rn rc, .slice sa sn sc, .slice fa fn fc, .slice na nn nc]) m) (hE : checkE m = 0) (hg : 16 < g) :
  Calls Tryz.prog 64 #[.agg #[.int .i64 m.guest, .slice ra rn rc, .slice sa sn sc, .slice fa fn fc, .slice na nn nc], .int .i64 g] w (AnsI w w.heap.size imgZ 3) := by
 have b0 : Below w.heap.size w (((w.alloc (.cells #[.int .i64 m.guest, .slice ra rn rc, .slice sa sn sc, .slice fa fn fc, .slice na nn nc] 27)).alloc (.cells #[.int .i64 g] 3)).alloc (.cells #[.int .i64 0, .slice none 0 0, .slice none 0 0, .slice none 0 0, .slice none 0 0] 27)) := (((Below.refl _ _).alloc (by simp; try omega) _).alloc (by simp; try omega) _).alloc (by simp; try omega) _
 have q0 : (w.alloc (.cells #[.int .i64 m.guest, .slice ra rn rc, .slice sa sn sc, .slice fa fn fc, .slice na nn nc] 27)).heap[w.heap.size]? = some (.cells #[.int .i64 m.guest, .slice ra rn rc, .slice sa sn sc, .slice fa fn fc, .slice na nn nc] 27) := by have := World.alloc_heap_new w (.cells #[.int .i64 m.guest, .slice ra rn rc, .slice sa sn sc, .slice fa fn fc, .slice na nn nc] 27); simpa using this
 have m0 : (((w.alloc (.cells #[.int .i64 m.guest, .slice ra rn rc, .slice sa sn sc, .slice fa fn fc, .slice na nn nc] 27)).alloc (.cells #[.int .i64 g] 3)).alloc (.cells #[.int .i64 0, .slice none 0 0, .slice none 0 0, .slice none 0 0, .slice none 0 0] 27)).heap[w.heap.size]? = some (.cells #[.int .i64 m.guest, .slice ra rn rc, .slice sa sn sc, .slice fa fn fc, .slice na nn nc] 27) := (cells_alloc (cells_alloc q0 _) _)
 have q1 : ((w.alloc (.cells #[.int .i64 m.guest, .slice ra rn rc, .slice sa sn sc, .slice fa fn fc, .slice na nn nc] 27)).alloc (.cells #[.int .i64 g] 3)).heap[w.heap.size + 1]? = some (.cells #[.int .i64 g] 3) := by have := World.alloc_heap_new (w.alloc (.cells #[.int .i64 m.guest, .slice ra rn rc, .slice sa sn sc, .slice fa fn fc, .slice na nn nc] 27)) (.cells #[.int .i64 g] 3); simpa using this
 have m1 : (((w.alloc (.cells #[.int .i64 m.guest, .slice ra rn rc, .slice sa sn sc, .slice fa fn fc, .slice na nn nc] 27)).alloc (.cells #[.int .i64 g] 3)).alloc (.cells #[.int .i64 0, .slice none 0 0, .slice none 0 0, .slice none 0 0, .slice none 0 0] 27)).heap[w.heap.size + 1]? = some (.cells #[.int .i64 g] 3) := (cells_alloc q1 _)
 have q2 : (((w.alloc (.cells #[.int .i64 m.guest, .slice ra rn rc, .slice sa sn sc, .slice fa fn fc, .slice na nn nc] 27)).alloc (.cells #[.int .i64 g] 3)).alloc (.cells #[.int .i64 0, .slice none 0 0, .slice none 0 0, .slice none 0 0, .slice none 0 0] 27)).heap[w.heap.size + 1 + 1]? = some (.cells #[.int .i64 0, .slice none 0 0, .slice none 0 0, .slice none 0 0, .slice none 0 0] 27) := by have := World.alloc_heap_new ((w.alloc (.cells #[.int .i64 m.guest, .slice ra rn rc, .slice sa sn sc, .slice fa fn fc, .slice na nn nc] 27)).alloc (.cells #[.int .i64 g] 3)) (.cells #[.int .i64 0, .slice none 0 0, .slice none 0 0, .slice none 0 0, .slice none 0 0] 27); simpa using this
 have m2 : (((w.alloc (.cells #[.int .i64 m.guest, .slice ra rn rc, .slice sa sn sc, .slice fa fn fc, .slice na nn nc] 27)).alloc (.cells #[.int .i64 g] 3)).alloc (.cells #[.int .i64 0, .slice none 0 0, .slice none 0 0, .slice none 0 0, .slice none 0 0] 27)).heap[w.heap.size + 1 + 1]? = some (.cells #[.int .i64 0, .slice none 0 0, .slice none 0 0, .slice none 0 0, .slice none 0 0] 27) := q2
 have hz : (((w.alloc (.cells #[.int .i64 m.guest, .slice ra rn rc, .slice sa sn sc, .slice fa fn fc, .slice na nn nc] 27)).alloc (.cells #[.int .i64 g] 3)).alloc (.cells #[.int .i64 0, .slice none 0 0, .slice none 0 0, .slice none 0 0, .slice none 0 0] 27)).heap.size = w.heap.size + 1 + 1 + 1 := by simp
 clear q0 q1 q2
 have g1 : decide (g < 0) = false := by simp; omega
 have g2 : ¬ g < 0 := by omega
 have g3 : decide (16 < g) = true := by simp [hg]
 have hchk := tcheck_is (h.below b0) hE
 obtain ⟨c0, c1, c2, c3, c4⟩ := five m0
 have HM : Hid ((((w.alloc (.cells #[.int .i64 m.guest, .slice ra rn rc, .slice sa sn sc, .slice fa fn fc, .slice na nn nc] 27)).alloc (.cells #[.int .i64 g] 3)).alloc (.cells #[.int .i64 0, .slice none 0 0, .slice none 0 0, .slice none 0 0, .slice none 0 0] 27)).heap[w.heap.size + 1 + 1]? = some (.cells #[.int .i64 0, .slice none 0 0, .slice none 0 0, .slice none 0 0, .slice none 0 0] 27) ∧ Below w.heap.size w (((w.alloc (.cells #[.int .i64 m.guest, .slice ra rn rc, .slice sa sn sc, .slice fa fn fc, .slice na nn nc] 27)).alloc (.cells #[.int .i64 g] 3)).alloc (.cells #[.int .i64 0, .slice none 0 0, .slice none 0 0, .slice none 0 0, .slice none 0 0] 27)) ∧ (((w.alloc (.cells #[.int .i64 m.guest, .slice ra rn rc, .slice sa sn sc, .slice fa fn fc, .slice na nn nc] 27)).alloc (.cells #[.int .i64 g] 3)).alloc (.cells #[.int .i64 0, .slice none 0 0, .slice none 0 0, .slice none 0 0, .slice none 0 0] 27)).heap.size = w.heap.size + 1 + 1 + 1 ∧ (((w.alloc (.cells #[.int .i64 m.guest, .slice ra rn rc, .slice sa sn sc, .slice fa fn fc, .slice na nn nc] 27)).alloc (.cells #[.int .i64 g] 3)).alloc (.cells #[.int .i64 0, .slice none 0 0, .slice none 0 0, .slice none 0 0, .slice none 0 0] 27)).heap[w.heap.size + 1]? = some (.cells #[.int .i64 g] 3)) := ⟨m2, b0, hz, m1⟩
 clear h m0 m1 m2 hz b0 hE
 go_enter Tryz.func64, Tryz.ntmps64
 go_wp2_with (go_at_call 25; refine hchk.mono ?_; rintro e w1 ⟨rfl, b1⟩; have k3 := cells_below HM.out.1 b1 (by rw [HM.out.2.2.1]; omega); obtain ⟨z0, z1, z2, z3, z4⟩ := five k3; have y0 := cells_frozen k3 0; have y1 := cells_frozen k3 1; have y2 := cells_frozen k3 2; have y3 := cells_frozen k3 3; have y4 := cells_frozen k3 4; have cn := one (cells_below HM.out.2.2.2 b1 (by rw [HM.out.2.2.1]; omega)); have HB : Hid (Below w.heap.size w w1) := Below.on HM.out.2.1 b1; clear b1 k3)
 have i1 : w.heap.size ≤ w.heap.size + 1 + 1 := by omega
 refine bodyPost_ret (v := .tuple #[.agg #[.int .i64 0, .slice none 0 0, .slice none 0 0, .slice none 0 0, .slice none 0 0], .int .i64 3]) (by simp [results, Tryz.results64, go_sem, z0, z1, z2, z3, z4]) rfl (AnsI.bad 3 (((((HB.out.setCell i1 _).setCell i1 _).setCell i1 _).setCell i1 _).setCell i1 _))
set_option maxHeartbeats 4000000 in
theorem resize_ok_at (m : ImgD) (ra : Option Addr) (rn rc : Nat) (sa : Option Addr) (sn sc : Nat) (fa : Option Addr) (fn fc : Nat) (na : Option Addr) (nn nc : Nat) (g : Nat) (w : World) (h : Img w (.agg #[.int .i64 m.guest, .slice ra rn rc, .slice sa sn sc, .slice fa fn fc, .slice na nn nc]) m) (hF : Fits m) (hE : checkE m = 0) (h16 : g ≤ 16) (M : ImgD) (hM : ofM (rzP m g) = M) (er : Int) (her : ofE (rzP m g) = er) :
  Calls Tryz.prog 64 #[.agg #[.int .i64 m.guest, .slice ra rn rc, .slice sa sn sc, .slice fa fn fc, .slice na nn nc], .int .i64 (g : Int)] w (AnsI w w.heap.size M er) := by
 have b0 : Below w.heap.size w (((w.alloc (.cells #[.int .i64 m.guest, .slice ra rn rc, .slice sa sn sc, .slice fa fn fc, .slice na nn nc] 27)).alloc (.cells #[.int .i64 (g : Int)] 3)).alloc (.cells #[.int .i64 0, .slice none 0 0, .slice none 0 0, .slice none 0 0, .slice none 0 0] 27)) := (((Below.refl _ _).alloc (by simp; try omega) _).alloc (by simp; try omega) _).alloc (by simp; try omega) _
 have q0 : (w.alloc (.cells #[.int .i64 m.guest, .slice ra rn rc, .slice sa sn sc, .slice fa fn fc, .slice na nn nc] 27)).heap[w.heap.size]? = some (.cells #[.int .i64 m.guest, .slice ra rn rc, .slice sa sn sc, .slice fa fn fc, .slice na nn nc] 27) := by have := World.alloc_heap_new w (.cells #[.int .i64 m.guest, .slice ra rn rc, .slice sa sn sc, .slice fa fn fc, .slice na nn nc] 27); simpa using this
 have m0 : (((w.alloc (.cells #[.int .i64 m.guest, .slice ra rn rc, .slice sa sn sc, .slice fa fn fc, .slice na nn nc] 27)).alloc (.cells #[.int .i64 (g : Int)] 3)).alloc (.cells #[.int .i64 0, .slice none 0 0, .slice none 0 0, .slice none 0 0, .slice none 0 0] 27)).heap[w.heap.size]? = some (.cells #[.int .i64 m.guest, .slice ra rn rc, .slice sa sn sc, .slice fa fn fc, .slice na nn nc] 27) := (cells_alloc (cells_alloc q0 _) _)
 have q1 : ((w.alloc (.cells #[.int .i64 m.guest, .slice ra rn rc, .slice sa sn sc, .slice fa fn fc, .slice na nn nc] 27)).alloc (.cells #[.int .i64 (g : Int)] 3)).heap[w.heap.size + 1]? = some (.cells #[.int .i64 (g : Int)] 3) := by have := World.alloc_heap_new (w.alloc (.cells #[.int .i64 m.guest, .slice ra rn rc, .slice sa sn sc, .slice fa fn fc, .slice na nn nc] 27)) (.cells #[.int .i64 (g : Int)] 3); simpa using this
 have m1 : (((w.alloc (.cells #[.int .i64 m.guest, .slice ra rn rc, .slice sa sn sc, .slice fa fn fc, .slice na nn nc] 27)).alloc (.cells #[.int .i64 (g : Int)] 3)).alloc (.cells #[.int .i64 0, .slice none 0 0, .slice none 0 0, .slice none 0 0, .slice none 0 0] 27)).heap[w.heap.size + 1]? = some (.cells #[.int .i64 (g : Int)] 3) := (cells_alloc q1 _)
 have q2 : (((w.alloc (.cells #[.int .i64 m.guest, .slice ra rn rc, .slice sa sn sc, .slice fa fn fc, .slice na nn nc] 27)).alloc (.cells #[.int .i64 (g : Int)] 3)).alloc (.cells #[.int .i64 0, .slice none 0 0, .slice none 0 0, .slice none 0 0, .slice none 0 0] 27)).heap[w.heap.size + 1 + 1]? = some (.cells #[.int .i64 0, .slice none 0 0, .slice none 0 0, .slice none 0 0, .slice none 0 0] 27) := by have := World.alloc_heap_new ((w.alloc (.cells #[.int .i64 m.guest, .slice ra rn rc, .slice sa sn sc, .slice fa fn fc, .slice na nn nc] 27)).alloc (.cells #[.int .i64 (g : Int)] 3)) (.cells #[.int .i64 0, .slice none 0 0, .slice none 0 0, .slice none 0 0, .slice none 0 0] 27); simpa using this
 have m2 : (((w.alloc (.cells #[.int .i64 m.guest, .slice ra rn rc, .slice sa sn sc, .slice fa fn fc, .slice na nn nc] 27)).alloc (.cells #[.int .i64 (g : Int)] 3)).alloc (.cells #[.int .i64 0, .slice none 0 0, .slice none 0 0, .slice none 0 0, .slice none 0 0] 27)).heap[w.heap.size + 1 + 1]? = some (.cells #[.int .i64 0, .slice none 0 0, .slice none 0 0, .slice none 0 0, .slice none 0 0] 27) := q2
 have hz : (((w.alloc (.cells #[.int .i64 m.guest, .slice ra rn rc, .slice sa sn sc, .slice fa fn fc, .slice na nn nc] 27)).alloc (.cells #[.int .i64 (g : Int)] 3)).alloc (.cells #[.int .i64 0, .slice none 0 0, .slice none 0 0, .slice none 0 0, .slice none 0 0] 27)).heap.size = w.heap.size + 1 + 1 + 1 := by simp
 clear q0 q1 q2
 have hs := checkE_shape hE
 have hchk := tcheck_is (h.below b0) hE
 obtain ⟨c0, c1, c2, c3, c4⟩ := five m0
 have g1 : decide ((g : Int) < 0) = false := by simp
 have g3 : decide ((16 : Int) < (g : Int)) = false := by simp; omega
 have g4 : ¬ (16 : Int) < (g : Int) := by omega
 have HO : Hid (∀ w1, Below (((w.alloc (.cells #[.int .i64 m.guest, .slice ra rn rc, .slice sa sn sc, .slice fa fn fc, .slice na nn nc] 27)).alloc (.cells #[.int .i64 (g : Int)] 3)).alloc (.cells #[.int .i64 0, .slice none 0 0, .slice none 0 0, .slice none 0 0, .slice none 0 0] 27)).heap.size (((w.alloc (.cells #[.int .i64 m.guest, .slice ra rn rc, .slice sa sn sc, .slice fa fn fc, .slice na nn nc] 27)).alloc (.cells #[.int .i64 (g : Int)] 3)).alloc (.cells #[.int .i64 0, .slice none 0 0, .slice none 0 0, .slice none 0 0, .slice none 0 0] 27)) w1 → Calls Tryz.prog 33 #[.agg #[.int .i64 m.guest, .slice ra rn rc, .slice sa sn sc, .slice fa fn fc, .slice na nn nc], .func (.func 85) #[] #[.pointer (some ⟨w.heap.size + 1, 0, none⟩)]] w1 (AnsI w1 w1.heap.size M er)) := fun w1 b1 => by
  have hsz : w.heap.size + 1 + 1 + 1 ≤ w1.heap.size := (by have := b1.size; rw [hz] at this; exact this)
  rw [← hM, ← her]
  exact of_is (h.below (Below.on b0 b1)) hF (enters_of Tryz.func85 (by kernel_rfl) rfl) (rz_turn (one (cells_below m1 b1 (by rw [hz]; omega))) (by omega) h16 hs)
 have HM : Hid ((((w.alloc (.cells #[.int .i64 m.guest, .slice ra rn rc, .slice sa sn sc, .slice fa fn fc, .slice na nn nc] 27)).alloc (.cells #[.int .i64 (g : Int)] 3)).alloc (.cells #[.int .i64 0, .slice none 0 0, .slice none 0 0, .slice none 0 0, .slice none 0 0] 27)).heap[w.heap.size]? = some (.cells #[.int .i64 m.guest, .slice ra rn rc, .slice sa sn sc, .slice fa fn fc, .slice na nn nc] 27) ∧ (((w.alloc (.cells #[.int .i64 m.guest, .slice ra rn rc, .slice sa sn sc, .slice fa fn fc, .slice na nn nc] 27)).alloc (.cells #[.int .i64 (g : Int)] 3)).alloc (.cells #[.int .i64 0, .slice none 0 0, .slice none 0 0, .slice none 0 0, .slice none 0 0] 27)).heap[w.heap.size + 1 + 1]? = some (.cells #[.int .i64 0, .slice none 0 0, .slice none 0 0, .slice none 0 0, .slice none 0 0] 27) ∧ Below w.heap.size w (((w.alloc (.cells #[.int .i64 m.guest, .slice ra rn rc, .slice sa sn sc, .slice fa fn fc, .slice na nn nc] 27)).alloc (.cells #[.int .i64 (g : Int)] 3)).alloc (.cells #[.int .i64 0, .slice none 0 0, .slice none 0 0, .slice none 0 0, .slice none 0 0] 27)) ∧ (((w.alloc (.cells #[.int .i64 m.guest, .slice ra rn rc, .slice sa sn sc, .slice fa fn fc, .slice na nn nc] 27)).alloc (.cells #[.int .i64 (g : Int)] 3)).alloc (.cells #[.int .i64 0, .slice none 0 0, .slice none 0 0, .slice none 0 0, .slice none 0 0] 27)).heap.size = w.heap.size + 1 + 1 + 1 ∧ (((w.alloc (.cells #[.int .i64 m.guest, .slice ra rn rc, .slice sa sn sc, .slice fa fn fc, .slice na nn nc] 27)).alloc (.cells #[.int .i64 (g : Int)] 3)).alloc (.cells #[.int .i64 0, .slice none 0 0, .slice none 0 0, .slice none 0 0, .slice none 0 0] 27)).heap[w.heap.size + 1]? = some (.cells #[.int .i64 (g : Int)] 3)) := ⟨m0, m2, b0, hz, m1⟩
 clear h m0 m1 m2 hz b0 hE hs hM her hF h16
 go_enter Tryz.func64, Tryz.ntmps64
 go_wp2_with (go_at_call 25; refine hchk.mono ?_; rintro e w1 ⟨rfl, b1⟩; have d0 := cells_below HM.out.1 b1 (by rw [HM.out.2.2.2.1]; omega); obtain ⟨d1, d2, d3, d4, d5⟩ := five d0; have cn := one (cells_below HM.out.2.2.2.2 b1 (by rw [HM.out.2.2.2.1]; omega)); have hof := HO.out w1 b1; have HV : Hid (Below w.heap.size w w1 ∧ w1.heap[w.heap.size + 1 + 1]? = some (.cells #[.int .i64 0, .slice none 0 0, .slice none 0 0, .slice none 0 0, .slice none 0 0] 27) ∧ w.heap.size + 1 + 1 < w1.heap.size) := (⟨Below.on HM.out.2.2.1 b1, cells_below HM.out.2.1 b1 (by rw [HM.out.2.2.2.1]; omega), by have := b1.size; rw [HM.out.2.2.2.1] at this; omega⟩); clear b1 d0)
 refine hof.mono ?_
 intro e w3 hA
 obtain ⟨val, ga, gc, la, lc, oa, oc, ta, tc, rfl, hO, b1, hI⟩ := hA.open
 dsimp only
 have k3 := cells_below HV.out.2.1 b1 HV.out.2.2
 obtain ⟨z0, z1, z2, z3, z4⟩ := five k3
 have y0 := cells_frozen k3 0
 have y1 := cells_frozen k3 1
 have y2 := cells_frozen k3 2
 have y3 := cells_frozen k3 3
 have y4 := cells_frozen k3 4
 have HP : Hid (OI w3 w1.heap.size val M) := hO
 have HB : Hid (Below w.heap.size w w3) := Below.on HV.out.1 b1
 have HI : Hid (imgV M.guest val = .agg #[.int .i64 M.guest, .slice ga M.root.length gc, .slice la M.slots.length lc, .slice oa M.refs.length oc, .slice ta M.snaps.length tc]) := hI
 clear hO b1 hI hof hA
 go_wp2_with fail
 have i1 : w.heap.size ≤ w.heap.size + 1 + 1 := by omega
 have hf1 : ∀ a, Live M a → (val a).ownBlock ≠ some (w.heap.size + 1 + 1) := fun a ha e => by have := ((HP.out.row a ha).lt _ e).1; have := HV.out.2.2; omega
 refine bodyPost_ret (v := .tuple #[.agg #[.int .i64 M.guest, .slice ga M.root.length gc, .slice la M.slots.length lc, .slice oa M.refs.length oc, .slice ta M.snaps.length tc], .int .i64 er]) (by simp [results, Tryz.results64, go_sem, z0, z1, z2, z3, z4]) rfl ⟨val, by rw [HI.out], OI.mono (((((HP.out.far hf1).far hf1).far hf1).far hf1).far hf1) (by have := HV.out.2.2; omega), ((((HB.out.setCell i1 _).setCell i1 _).setCell i1 _).setCell i1 _).setCell i1 _⟩
def rzE (m : ImgD) (g : Int) : Int := if checkE m ≠ 0 then checkE m else if 0 ≤ g ∧ g ≤ 16 then errO (resizeD m g.toNat) else 3
def rzM (m : ImgD) (g : Int) : ImgD := if checkE m ≠ 0 then imgZ else if 0 ≤ g ∧ g ≤ 16 then (resizeD m g.toNat).getD imgZ else imgZ
theorem resize_is {w : World} {v : Value} {m : ImgD} (h : Img w v m) (g : Int) :
  Calls Tryz.prog 64 #[v, .int .i64 g] w (AnsI w w.heap.size (rzM m g) (rzE m g)) := by
 have h' := h
 obtain ⟨ra, rc, sa, sc, fa, fc, na, nc, rfl, _⟩ := h.parts
 unfold rzM rzE
 by_cases hl : checkE m = 0
 ·have hl0 : ¬ checkE m ≠ 0 := fun x => x hl
  rw [if_neg hl0, if_neg hl0]
  by_cases hg : 0 ≤ g ∧ g ≤ 16
  ·rw [if_pos hg, if_pos hg]
   obtain ⟨j, rfl⟩ := Int.eq_ofNat_of_zero_le hg.1
   rw [Int.toNat_natCast]
   have h16 : j ≤ 16 := by omega
   have hM := rzP_meets hl h16
   exact resize_ok_at m ra _ rc sa _ sc fa _ fc na _ nc j w h' (fits_of_shape (checkE_shape hl)) hl h16 _ hM.m _ hM.e
  ·rw [if_neg hg, if_neg hg]
   by_cases h0 : g < 0
   ·exact resize_neg_at m ra _ rc sa _ sc fa _ fc na _ nc g w h' hl h0
   ·exact resize_far_at m ra _ rc sa _ sc fa _ fc na _ nc g w h' hl (by omega)
 ·rw [if_pos hl, if_pos hl]
  exact resize_bad_at m ra _ rc sa _ sc fa _ fc na _ nc g _ w h' rfl (by simp [hl])
theorem write_to {w : World} {v : Value} {m : ImgD} (h : Img w v m) (n : Int) (page : ByteArray) {M : ImgD} {E : Int} (hM : wrM m n page = M) (hE : wrE m n page = E) :
  Calls Tryz.prog 16 #[v, .int .i64 n, .string page] w (AnsI w w.heap.size M E) := by
 subst hM hE; exact write_is h n page
theorem resize_to {w : World} {v : Value} {m : ImgD} (h : Img w v m) (g : Int) {M : ImgD} {E : Int} (hM : rzM m g = M) (hE : rzE m g = E) :
  Calls Tryz.prog 64 #[v, .int .i64 g] w (AnsI w w.heap.size M E) := by
 subst hM hE; exact resize_is h g
theorem wr_bad {m : ImgD} {n : Int} {page : ByteArray} (he : wrE m n page ≠ 0) : wrM m n page = imgZ := by
 unfold wrE at he
 unfold wrM
 by_cases hl : lookE m n = 0
 ·rw [if_neg (by simpa using hl)] at he ⊢
  by_cases hp : page.size = 4
  ·rw [if_pos hp] at he ⊢
   cases h : writeD m n.toNat page with
   | none => rfl
   | some M => rw [h] at he; exact absurd rfl he
  ·rw [if_neg hp]
 ·rw [if_pos hl]
set_option linter.unusedSimpArgs false
def AnsK (w : World) (b : List ByteArray) (m : ImgD) (err : Int) (r : Ending) (w' : World) : Prop := ∃ v, r = .returned (.tuple #[v, .int .i64 err]) ∧ Stk w' v b m ∧ Below w.heap.size w w'
theorem Stk.zero (W : World) : Stk W (.agg #[.slice none 0 0, .int .i64 0, .slice none 0 0, .slice none 0 0, .slice none 0 0, .slice none 0 0]) [] imgZ :=
 ⟨_, _, _, _, _, rfl, ⟨none, 0, rfl, Nat.zero_le _, Nat.le_refl _, fun x => absurd rfl x⟩, (OI.zero W 0).img⟩
theorem six_below {w W : World} (h : Below w.heap.size w W) (a0 a1 a2 a3 a4 a5 : Value) : Below w.heap.size w ((((((W.setCell ⟨w.heap.size + 1, 0, none⟩ a0).setCell ⟨w.heap.size + 1, 1, none⟩ a1).setCell ⟨w.heap.size + 1, 2, none⟩ a2).setCell ⟨w.heap.size + 1, 3, none⟩ a3).setCell ⟨w.heap.size + 1, 4, none⟩ a4).setCell ⟨w.heap.size + 1, 5, none⟩ a5) := by
 have i1 : w.heap.size ≤ w.heap.size + 1 := Nat.le_succ _
 exact (((((h.setCell (p := ⟨w.heap.size + 1, 0, none⟩) i1 _).setCell (p := ⟨w.heap.size + 1, 1, none⟩) i1 _).setCell (p := ⟨w.heap.size + 1, 2, none⟩) i1 _).setCell (p := ⟨w.heap.size + 1, 3, none⟩) i1 _).setCell (p := ⟨w.heap.size + 1, 4, none⟩) i1 _).setCell (p := ⟨w.heap.size + 1, 5, none⟩) i1 _
theorem Stk.stored {w W : World} {v : Value} {b : List ByteArray} {m : ImgD} (h : Stk W v b m) (a0 a1 a2 a3 a4 a5 : Value) (hk : ∀ W', (∀ q, q ≠ w.heap.size + 1 → W'.heap[q]? = W.heap[q]?) → Stk W' v b m) : Stk ((((((W.setCell ⟨w.heap.size + 1, 0, none⟩ a0).setCell ⟨w.heap.size + 1, 1, none⟩ a1).setCell ⟨w.heap.size + 1, 2, none⟩ a2).setCell ⟨w.heap.size + 1, 3, none⟩ a3).setCell ⟨w.heap.size + 1, 4, none⟩ a4).setCell ⟨w.heap.size + 1, 5, none⟩ a5) v b m :=
 hk _ fun q hq => by
  rw [Below.heap_setCell _ _ _ q hq, Below.heap_setCell _ _ _ q hq, Below.heap_setCell _ _ _ q hq, Below.heap_setCell _ _ _ q hq, Below.heap_setCell _ _ _ q hq, Below.heap_setCell _ _ _ q hq]
def skM (b : List ByteArray) (m : ImgD) (n : Int) (page : ByteArray) : ImgD := if scE b m ≠ 0 then imgZ else wrM m n page
def skE (b : List ByteArray) (m : ImgD) (n : Int) (page : ByteArray) : Int := if scE b m ≠ 0 then scE b m else wrE m n page
def skB (b : List ByteArray) (m : ImgD) (n : Int) (page : ByteArray) : List ByteArray := if skE b m n page ≠ 0 then [] else b
set_option maxHeartbeats 4000000 in
theorem sk_write_bad (ba : Option Addr) (bc : Nat) (ra : Option Addr) (rc : Nat) (sa : Option Addr) (sc : Nat) (fa : Option Addr) (fc : Nat) (na : Option Addr) (nc : Nat) (b : List ByteArray) (m : ImgD) (n : Int) (page : ByteArray) (w : World) (hS : Ss w (.slice ba b.length bc) b) (hI : Img w (.agg #[.int .i64 m.guest, .slice ra m.root.length rc, .slice sa m.slots.length sc, .slice fa m.refs.length fc, .slice na m.snaps.length nc]) m) (E : Int) (hE : scE b m = E) (hne : (E != 0) = true) :
  Calls Tryz.prog 5 #[.agg #[.slice ba b.length bc, .int .i64 m.guest, .slice ra m.root.length rc, .slice sa m.slots.length sc, .slice fa m.refs.length fc, .slice na m.snaps.length nc], .int .i64 n, .string page] w (AnsK w [] imgZ E) := by
 have b0 : Below w.heap.size w ((w.alloc (.cells #[.slice ba b.length bc, .int .i64 m.guest, .slice ra m.root.length rc, .slice sa m.slots.length sc, .slice fa m.refs.length fc, .slice na m.snaps.length nc] 29)).alloc (.cells #[.slice none 0 0, .int .i64 0, .slice none 0 0, .slice none 0 0, .slice none 0 0, .slice none 0 0] 29)) := ((Below.refl _ _).alloc (Nat.le_refl _) _).alloc (by simp) _
 have q0 : ((w.alloc (.cells #[.slice ba b.length bc, .int .i64 m.guest, .slice ra m.root.length rc, .slice sa m.slots.length sc, .slice fa m.refs.length fc, .slice na m.snaps.length nc] 29)).alloc (.cells #[.slice none 0 0, .int .i64 0, .slice none 0 0, .slice none 0 0, .slice none 0 0, .slice none 0 0] 29)).heap[w.heap.size]? = some (.cells #[.slice ba b.length bc, .int .i64 m.guest, .slice ra m.root.length rc, .slice sa m.slots.length sc, .slice fa m.refs.length fc, .slice na m.snaps.length nc] 29) := cells_alloc (World.alloc_heap_new _ _) _
 have r0 : ((w.alloc (.cells #[.slice ba b.length bc, .int .i64 m.guest, .slice ra m.root.length rc, .slice sa m.slots.length sc, .slice fa m.refs.length fc, .slice na m.snaps.length nc] 29)).alloc (.cells #[.slice none 0 0, .int .i64 0, .slice none 0 0, .slice none 0 0, .slice none 0 0, .slice none 0 0] 29)).heap[w.heap.size + 1]? = some (.cells #[.slice none 0 0, .int .i64 0, .slice none 0 0, .slice none 0 0, .slice none 0 0, .slice none 0 0] 29) := by have := World.alloc_heap_new (w.alloc (.cells #[.slice ba b.length bc, .int .i64 m.guest, .slice ra m.root.length rc, .slice sa m.slots.length sc, .slice fa m.refs.length fc, .slice na m.snaps.length nc] 29)) (.cells #[.slice none 0 0, .int .i64 0, .slice none 0 0, .slice none 0 0, .slice none 0 0, .slice none 0 0] 29); simpa using this
 have hz : w.heap.size + 1 < ((w.alloc (.cells #[.slice ba b.length bc, .int .i64 m.guest, .slice ra m.root.length rc, .slice sa m.slots.length sc, .slice fa m.refs.length fc, .slice na m.snaps.length nc] 29)).alloc (.cells #[.slice none 0 0, .int .i64 0, .slice none 0 0, .slice none 0 0, .slice none 0 0, .slice none 0 0] 29)).heap.size := by simp
 have hS1 := hS.below b0
 have hI1 := hI.below b0
 obtain ⟨c0, c1, c2, c3, c4, c5⟩ := six q0
 have hck := sk_check (w := ((w.alloc (.cells #[.slice ba b.length bc, .int .i64 m.guest, .slice ra m.root.length rc, .slice sa m.slots.length sc, .slice fa m.refs.length fc, .slice na m.snaps.length nc] 29)).alloc (.cells #[.slice none 0 0, .int .i64 0, .slice none 0 0, .slice none 0 0, .slice none 0 0, .slice none 0 0] 29))) (v := .agg #[.slice ba b.length bc, .int .i64 m.guest, .slice ra m.root.length rc, .slice sa m.slots.length sc, .slice fa m.refs.length fc, .slice na m.snaps.length nc]) ⟨_, _, _, _, _, rfl, hS1, hI1⟩ hE
 clear hS hI hI1 hS1 hE
 go_enter Tryz.func5, Tryz.ntmps5
 go_wp2_with (go_at_call 10; refine hck.mono ?_; rintro e w1 ⟨rfl, b1⟩; have q1 := cells_below q0 b1 (by omega); have r1 := cells_below r0 b1 hz; obtain ⟨d0, d1, d2, d3, d4, d5⟩ := six q1; obtain ⟨x0, x1, x2, x3, x4, x5⟩ := six r1; have y0 := cells_frozen r1 0; have y1 := cells_frozen r1 1; have y2 := cells_frozen r1 2; have y3 := cells_frozen r1 3; have y4 := cells_frozen r1 4; have y5 := cells_frozen r1 5)
 refine bodyPost_ret (v := .tuple #[.agg #[.slice none 0 0, .int .i64 0, .slice none 0 0, .slice none 0 0, .slice none 0 0, .slice none 0 0], .int .i64 E]) (by simp [results, Tryz.results5, go_sem, x0, x1, x2, x3, x4, x5]) rfl ⟨_, rfl, Stk.zero _, six_below (Below.on b0 b1) _ _ _ _ _ _⟩
set_option maxHeartbeats 4000000 in
theorem sk_write_err (ba : Option Addr) (bc : Nat) (ra : Option Addr) (rc : Nat) (sa : Option Addr) (sc : Nat) (fa : Option Addr) (fc : Nat) (na : Option Addr) (nc : Nat) (b : List ByteArray) (m : ImgD) (n : Int) (page : ByteArray) (w : World) (hS : Ss w (.slice ba b.length bc) b) (hI : Img w (.agg #[.int .i64 m.guest, .slice ra m.root.length rc, .slice sa m.slots.length sc, .slice fa m.refs.length fc, .slice na m.snaps.length nc]) m) (E : Int) (hC : scE b m = 0) (M : ImgD) (hE : wrE m n page = E) (hM : wrM m n page = M) (hne : (E != 0) = true) :
  Calls Tryz.prog 5 #[.agg #[.slice ba b.length bc, .int .i64 m.guest, .slice ra m.root.length rc, .slice sa m.slots.length sc, .slice fa m.refs.length fc, .slice na m.snaps.length nc], .int .i64 n, .string page] w (AnsK w [] imgZ E) := by
 have b0 : Below w.heap.size w ((w.alloc (.cells #[.slice ba b.length bc, .int .i64 m.guest, .slice ra m.root.length rc, .slice sa m.slots.length sc, .slice fa m.refs.length fc, .slice na m.snaps.length nc] 29)).alloc (.cells #[.slice none 0 0, .int .i64 0, .slice none 0 0, .slice none 0 0, .slice none 0 0, .slice none 0 0] 29)) := ((Below.refl _ _).alloc (Nat.le_refl _) _).alloc (by simp) _
 have q0 : ((w.alloc (.cells #[.slice ba b.length bc, .int .i64 m.guest, .slice ra m.root.length rc, .slice sa m.slots.length sc, .slice fa m.refs.length fc, .slice na m.snaps.length nc] 29)).alloc (.cells #[.slice none 0 0, .int .i64 0, .slice none 0 0, .slice none 0 0, .slice none 0 0, .slice none 0 0] 29)).heap[w.heap.size]? = some (.cells #[.slice ba b.length bc, .int .i64 m.guest, .slice ra m.root.length rc, .slice sa m.slots.length sc, .slice fa m.refs.length fc, .slice na m.snaps.length nc] 29) := cells_alloc (World.alloc_heap_new _ _) _
 have r0 : ((w.alloc (.cells #[.slice ba b.length bc, .int .i64 m.guest, .slice ra m.root.length rc, .slice sa m.slots.length sc, .slice fa m.refs.length fc, .slice na m.snaps.length nc] 29)).alloc (.cells #[.slice none 0 0, .int .i64 0, .slice none 0 0, .slice none 0 0, .slice none 0 0, .slice none 0 0] 29)).heap[w.heap.size + 1]? = some (.cells #[.slice none 0 0, .int .i64 0, .slice none 0 0, .slice none 0 0, .slice none 0 0, .slice none 0 0] 29) := by have := World.alloc_heap_new (w.alloc (.cells #[.slice ba b.length bc, .int .i64 m.guest, .slice ra m.root.length rc, .slice sa m.slots.length sc, .slice fa m.refs.length fc, .slice na m.snaps.length nc] 29)) (.cells #[.slice none 0 0, .int .i64 0, .slice none 0 0, .slice none 0 0, .slice none 0 0, .slice none 0 0] 29); simpa using this
 have hz : w.heap.size + 1 < ((w.alloc (.cells #[.slice ba b.length bc, .int .i64 m.guest, .slice ra m.root.length rc, .slice sa m.slots.length sc, .slice fa m.refs.length fc, .slice na m.snaps.length nc] 29)).alloc (.cells #[.slice none 0 0, .int .i64 0, .slice none 0 0, .slice none 0 0, .slice none 0 0, .slice none 0 0] 29)).heap.size := by simp
 have hS1 := hS.below b0
 have hI1 := hI.below b0
 obtain ⟨c0, c1, c2, c3, c4, c5⟩ := six q0
 have hck := sk_check (w := ((w.alloc (.cells #[.slice ba b.length bc, .int .i64 m.guest, .slice ra m.root.length rc, .slice sa m.slots.length sc, .slice fa m.refs.length fc, .slice na m.snaps.length nc] 29)).alloc (.cells #[.slice none 0 0, .int .i64 0, .slice none 0 0, .slice none 0 0, .slice none 0 0, .slice none 0 0] 29))) (v := .agg #[.slice ba b.length bc, .int .i64 m.guest, .slice ra m.root.length rc, .slice sa m.slots.length sc, .slice fa m.refs.length fc, .slice na m.snaps.length nc]) ⟨_, _, _, _, _, rfl, hS1, hI1⟩ hC
 have HWr : Hid (∀ w1, Below ((w.alloc (.cells #[.slice ba b.length bc, .int .i64 m.guest, .slice ra m.root.length rc, .slice sa m.slots.length sc, .slice fa m.refs.length fc, .slice na m.snaps.length nc] 29)).alloc (.cells #[.slice none 0 0, .int .i64 0, .slice none 0 0, .slice none 0 0, .slice none 0 0, .slice none 0 0] 29)).heap.size ((w.alloc (.cells #[.slice ba b.length bc, .int .i64 m.guest, .slice ra m.root.length rc, .slice sa m.slots.length sc, .slice fa m.refs.length fc, .slice na m.snaps.length nc] 29)).alloc (.cells #[.slice none 0 0, .int .i64 0, .slice none 0 0, .slice none 0 0, .slice none 0 0, .slice none 0 0] 29)) w1 → Calls Tryz.prog 16 #[.agg #[.int .i64 m.guest, .slice ra m.root.length rc, .slice sa m.slots.length sc, .slice fa m.refs.length fc, .slice na m.snaps.length nc], .int .i64 n, .string page] w1 (AnsI w1 w1.heap.size M E)) := fun w1 b1 => write_to (hI1.below b1) n page hM hE
 clear hS hI hI1 hS1 hE hM hC
 go_enter Tryz.func5, Tryz.ntmps5
 go_wp2_with (first | (go_at_call 16; refine (HWr.out w1 b1).mono ?_; intro e w2 hA; obtain ⟨val, g0, k0, g1, k1, g2, k2, g3, k3, rfl, hO, b2, hI⟩ := hA.open; have q3 := cells_alloc (cells_below q1 b2 (by have := b1.size; omega)) (.cells #[.int .i64 M.guest, .slice g0 M.root.length k0, .slice g1 M.slots.length k1, .slice g2 M.refs.length k2, .slice g3 M.snaps.length k3] 27); have r3 := cells_alloc (cells_below r1 b2 (by have := b1.size; omega)) (.cells #[.int .i64 M.guest, .slice g0 M.root.length k0, .slice g1 M.slots.length k1, .slice g2 M.refs.length k2, .slice g3 M.snaps.length k3] 27); have m3 : (w2.alloc (.cells #[.int .i64 M.guest, .slice g0 M.root.length k0, .slice g1 M.slots.length k1, .slice g2 M.refs.length k2, .slice g3 M.snaps.length k3] 27)).heap[w2.heap.size]? = some (.cells #[.int .i64 M.guest, .slice g0 M.root.length k0, .slice g1 M.slots.length k1, .slice g2 M.refs.length k2, .slice g3 M.snaps.length k3] 27) := World.alloc_heap_new _ _; obtain ⟨e0, e1, e2, e3, e4, e5⟩ := six q3; obtain ⟨u0, u1, u2, u3, u4, u5⟩ := six r3; have v0 := cells_frozen r3 0; have v1 := cells_frozen r3 1; have v2 := cells_frozen r3 2; have v3 := cells_frozen r3 3; have v4 := cells_frozen r3 4; have v5 := cells_frozen r3 5; obtain ⟨n0, n1, n2, n3, n4⟩ := five m3) | (go_at_call 10; refine hck.mono ?_; rintro e w1 ⟨rfl, b1⟩; have q1 := cells_below q0 b1 (by omega); have r1 := cells_below r0 b1 hz; obtain ⟨d0, d1, d2, d3, d4, d5⟩ := six q1; obtain ⟨x0, x1, x2, x3, x4, x5⟩ := six r1; have y0 := cells_frozen r1 0; have y1 := cells_frozen r1 1; have y2 := cells_frozen r1 2; have y3 := cells_frozen r1 3; have y4 := cells_frozen r1 4; have y5 := cells_frozen r1 5))
 refine bodyPost_ret (v := .tuple #[.agg #[.slice none 0 0, .int .i64 0, .slice none 0 0, .slice none 0 0, .slice none 0 0, .slice none 0 0], .int .i64 E]) (by simp [results, Tryz.results5, go_sem, u0, u1, u2, u3, u4, u5]) rfl ⟨_, rfl, Stk.zero _, six_below ((Below.on (Below.on b0 b1) b2).alloc (by have := b1.size; have := b2.size; omega) _) _ _ _ _ _ _⟩
theorem heap_six {w W : World} (a0 a1 a2 a3 a4 a5 : Value) (q : Nat) (hq : q ≠ w.heap.size + 1) : ((((((W.setCell ⟨w.heap.size + 1, 0, none⟩ a0).setCell ⟨w.heap.size + 1, 1, none⟩ a1).setCell ⟨w.heap.size + 1, 2, none⟩ a2).setCell ⟨w.heap.size + 1, 3, none⟩ a3).setCell ⟨w.heap.size + 1, 4, none⟩ a4).setCell ⟨w.heap.size + 1, 5, none⟩ a5).heap[q]? = W.heap[q]? := by
 rw [Below.heap_setCell _ _ _ q hq, Below.heap_setCell _ _ _ q hq, Below.heap_setCell _ _ _ q hq, Below.heap_setCell _ _ _ q hq, Below.heap_setCell _ _ _ q hq, Below.heap_setCell _ _ _ q hq]
theorem OI.six {w W : World} {B : Nat} {val : Nm → Value} {M : ImgD} (h : OI W B val M) (hfr : ∀ a, Live M a → (val a).ownBlock ≠ some (w.heap.size + 1)) (a0 a1 a2 a3 a4 a5 : Value) : OI ((((((W.setCell ⟨w.heap.size + 1, 0, none⟩ a0).setCell ⟨w.heap.size + 1, 1, none⟩ a1).setCell ⟨w.heap.size + 1, 2, none⟩ a2).setCell ⟨w.heap.size + 1, 3, none⟩ a3).setCell ⟨w.heap.size + 1, 4, none⟩ a4).setCell ⟨w.heap.size + 1, 5, none⟩ a5) B val M := (((((h.far hfr).far hfr).far hfr).far hfr).far hfr).far hfr
theorem six_far {w W : World} {B T S : Nat} {v : Value} {n : Nat} {xs : List Value} (h : W.ownsRow B T S v n xs) (hb : w.heap.size + 1 < B) (a0 a1 a2 a3 a4 a5 : Value) : ((((((W.setCell ⟨w.heap.size + 1, 0, none⟩ a0).setCell ⟨w.heap.size + 1, 1, none⟩ a1).setCell ⟨w.heap.size + 1, 2, none⟩ a2).setCell ⟨w.heap.size + 1, 3, none⟩ a3).setCell ⟨w.heap.size + 1, 4, none⟩ a4).setCell ⟨w.heap.size + 1, 5, none⟩ a5).ownsRow B T S v n xs := by
 have hne : v.ownBlock ≠ some (w.heap.size + 1) := fun e => by have := (h.lt _ e).1; omega
 exact ownsRow_setCell_other (ownsRow_setCell_other (ownsRow_setCell_other (ownsRow_setCell_other (ownsRow_setCell_other (ownsRow_setCell_other h hne _) hne _) hne _) hne _) hne _) hne _
set_option maxHeartbeats 4000000 in
theorem sk_write_ok (ba : Option Addr) (bc : Nat) (ra : Option Addr) (rc : Nat) (sa : Option Addr) (sc : Nat) (fa : Option Addr) (fc : Nat) (na : Option Addr) (nc : Nat) (b : List ByteArray) (m : ImgD) (n : Int) (page : ByteArray) (w : World) (hS : Ss w (.slice ba b.length bc) b) (hI : Img w (.agg #[.int .i64 m.guest, .slice ra m.root.length rc, .slice sa m.slots.length sc, .slice fa m.refs.length fc, .slice na m.snaps.length nc]) m) (hC : scE b m = 0) (M : ImgD) (hE : wrE m n page = 0) (hM : wrM m n page = M) :
  Calls Tryz.prog 5 #[.agg #[.slice ba b.length bc, .int .i64 m.guest, .slice ra m.root.length rc, .slice sa m.slots.length sc, .slice fa m.refs.length fc, .slice na m.snaps.length nc], .int .i64 n, .string page] w (AnsK w b M 0) := by
 have b0 : Below w.heap.size w ((w.alloc (.cells #[.slice ba b.length bc, .int .i64 m.guest, .slice ra m.root.length rc, .slice sa m.slots.length sc, .slice fa m.refs.length fc, .slice na m.snaps.length nc] 29)).alloc (.cells #[.slice none 0 0, .int .i64 0, .slice none 0 0, .slice none 0 0, .slice none 0 0, .slice none 0 0] 29)) := ((Below.refl _ _).alloc (Nat.le_refl _) _).alloc (by simp) _
 have q0 : ((w.alloc (.cells #[.slice ba b.length bc, .int .i64 m.guest, .slice ra m.root.length rc, .slice sa m.slots.length sc, .slice fa m.refs.length fc, .slice na m.snaps.length nc] 29)).alloc (.cells #[.slice none 0 0, .int .i64 0, .slice none 0 0, .slice none 0 0, .slice none 0 0, .slice none 0 0] 29)).heap[w.heap.size]? = some (.cells #[.slice ba b.length bc, .int .i64 m.guest, .slice ra m.root.length rc, .slice sa m.slots.length sc, .slice fa m.refs.length fc, .slice na m.snaps.length nc] 29) := cells_alloc (World.alloc_heap_new _ _) _
 have r0 : ((w.alloc (.cells #[.slice ba b.length bc, .int .i64 m.guest, .slice ra m.root.length rc, .slice sa m.slots.length sc, .slice fa m.refs.length fc, .slice na m.snaps.length nc] 29)).alloc (.cells #[.slice none 0 0, .int .i64 0, .slice none 0 0, .slice none 0 0, .slice none 0 0, .slice none 0 0] 29)).heap[w.heap.size + 1]? = some (.cells #[.slice none 0 0, .int .i64 0, .slice none 0 0, .slice none 0 0, .slice none 0 0, .slice none 0 0] 29) := by have := World.alloc_heap_new (w.alloc (.cells #[.slice ba b.length bc, .int .i64 m.guest, .slice ra m.root.length rc, .slice sa m.slots.length sc, .slice fa m.refs.length fc, .slice na m.snaps.length nc] 29)) (.cells #[.slice none 0 0, .int .i64 0, .slice none 0 0, .slice none 0 0, .slice none 0 0, .slice none 0 0] 29); simpa using this
 have hz : w.heap.size + 1 < ((w.alloc (.cells #[.slice ba b.length bc, .int .i64 m.guest, .slice ra m.root.length rc, .slice sa m.slots.length sc, .slice fa m.refs.length fc, .slice na m.snaps.length nc] 29)).alloc (.cells #[.slice none 0 0, .int .i64 0, .slice none 0 0, .slice none 0 0, .slice none 0 0, .slice none 0 0] 29)).heap.size := by simp
 have hS1 := hS.below b0
 have hI1 := hI.below b0
 obtain ⟨c0, c1, c2, c3, c4, c5⟩ := six q0
 have hck := sk_check (w := ((w.alloc (.cells #[.slice ba b.length bc, .int .i64 m.guest, .slice ra m.root.length rc, .slice sa m.slots.length sc, .slice fa m.refs.length fc, .slice na m.snaps.length nc] 29)).alloc (.cells #[.slice none 0 0, .int .i64 0, .slice none 0 0, .slice none 0 0, .slice none 0 0, .slice none 0 0] 29))) (v := .agg #[.slice ba b.length bc, .int .i64 m.guest, .slice ra m.root.length rc, .slice sa m.slots.length sc, .slice fa m.refs.length fc, .slice na m.snaps.length nc]) ⟨_, _, _, _, _, rfl, hS1, hI1⟩ hC
 have HWr : Hid (∀ w1, Below ((w.alloc (.cells #[.slice ba b.length bc, .int .i64 m.guest, .slice ra m.root.length rc, .slice sa m.slots.length sc, .slice fa m.refs.length fc, .slice na m.snaps.length nc] 29)).alloc (.cells #[.slice none 0 0, .int .i64 0, .slice none 0 0, .slice none 0 0, .slice none 0 0, .slice none 0 0] 29)).heap.size ((w.alloc (.cells #[.slice ba b.length bc, .int .i64 m.guest, .slice ra m.root.length rc, .slice sa m.slots.length sc, .slice fa m.refs.length fc, .slice na m.snaps.length nc] 29)).alloc (.cells #[.slice none 0 0, .int .i64 0, .slice none 0 0, .slice none 0 0, .slice none 0 0, .slice none 0 0] 29)) w1 → Calls Tryz.prog 16 #[.agg #[.int .i64 m.guest, .slice ra m.root.length rc, .slice sa m.slots.length sc, .slice fa m.refs.length fc, .slice na m.snaps.length nc], .int .i64 n, .string page] w1 (AnsI w1 w1.heap.size M 0)) := fun w1 b1 => write_to (hI1.below b1) n page hM hE
 have hb16 : b.length * 16 ≤ room := by have := (ckP_parts (scE_zero hC).1).1; rw [room_is]; omega
 have HCl : Hid (∀ w1 w2 o, Below ((w.alloc (.cells #[.slice ba b.length bc, .int .i64 m.guest, .slice ra m.root.length rc, .slice sa m.slots.length sc, .slice fa m.refs.length fc, .slice na m.snaps.length nc] 29)).alloc (.cells #[.slice none 0 0, .int .i64 0, .slice none 0 0, .slice none 0 0, .slice none 0 0, .slice none 0 0] 29)).heap.size ((w.alloc (.cells #[.slice ba b.length bc, .int .i64 m.guest, .slice ra m.root.length rc, .slice sa m.slots.length sc, .slice fa m.refs.length fc, .slice na m.snaps.length nc] 29)).alloc (.cells #[.slice none 0 0, .int .i64 0, .slice none 0 0, .slice none 0 0, .slice none 0 0, .slice none 0 0] 29)) w1 → Below w1.heap.size w1 w2 → Calls Tryz.prog 17 #[.slice ba b.length bc] (w2.alloc o).drew fun r w' => ∃ v', r = .returned v' ∧ w'.ownsRow w2.heap.size 9 1 v' b.length (strs b) ∧ Below (w2.alloc o).heap.size (w2.alloc o) w') := fun w1 w2 o b1 b2 => (clone_strs (((hS1.below b1).below b2).below (to_drew ((Below.refl _ _).alloc (Nat.le_refl _) o))) hb16).mono (fun r w' ⟨v', h1, h2, h3⟩ => ⟨v', h1, row_mono h2 (by simp), below_drew h3⟩)
 clear hS hI hI1 hS1 hE hM hC hb16
 go_enter Tryz.func5, Tryz.ntmps5
 go_wp2_with (first | (go_at_call 16; refine (HWr.out w1 b1).mono ?_; intro e w2 hA; obtain ⟨val, g0, k0, g1, k1, g2, k2, g3, k3, rfl, hO, b2, hI⟩ := hA.open; have q3 := cells_alloc (cells_below q1 b2 (by have := b1.size; omega)) (.cells #[.int .i64 M.guest, .slice g0 M.root.length k0, .slice g1 M.slots.length k1, .slice g2 M.refs.length k2, .slice g3 M.snaps.length k3] 27); have r3 := cells_alloc (cells_below r1 b2 (by have := b1.size; omega)) (.cells #[.int .i64 M.guest, .slice g0 M.root.length k0, .slice g1 M.slots.length k1, .slice g2 M.refs.length k2, .slice g3 M.snaps.length k3] 27); have m3 : (w2.alloc (.cells #[.int .i64 M.guest, .slice g0 M.root.length k0, .slice g1 M.slots.length k1, .slice g2 M.refs.length k2, .slice g3 M.snaps.length k3] 27)).heap[w2.heap.size]? = some (.cells #[.int .i64 M.guest, .slice g0 M.root.length k0, .slice g1 M.slots.length k1, .slice g2 M.refs.length k2, .slice g3 M.snaps.length k3] 27) := World.alloc_heap_new _ _; obtain ⟨e0, e1, e2, e3, e4, e5⟩ := six q3; obtain ⟨u0, u1, u2, u3, u4, u5⟩ := six r3; have v0 := cells_frozen r3 0; have v1 := cells_frozen r3 1; have v2 := cells_frozen r3 2; have v3 := cells_frozen r3 3; have v4 := cells_frozen r3 4; have v5 := cells_frozen r3 5; obtain ⟨n0, n1, n2, n3, n4⟩ := five m3) | (go_at_call 10; refine hck.mono ?_; rintro e w1 ⟨rfl, b1⟩; have q1 := cells_below q0 b1 (by omega); have r1 := cells_below r0 b1 hz; obtain ⟨d0, d1, d2, d3, d4, d5⟩ := six q1; obtain ⟨x0, x1, x2, x3, x4, x5⟩ := six r1; have y0 := cells_frozen r1 0; have y1 := cells_frozen r1 1; have y2 := cells_frozen r1 2; have y3 := cells_frozen r1 3; have y4 := cells_frozen r1 4; have y5 := cells_frozen r1 5))
 have HO : Hid (OI w2 w1.heap.size val M ∧ imgV M.guest val = .agg #[.int .i64 M.guest, .slice g0 M.root.length k0, .slice g1 M.slots.length k1, .slice g2 M.refs.length k2, .slice g3 M.snaps.length k3]) := ⟨hO, hI⟩
 clear hO hI hA
 refine wp_region_held_drew (S := (fun X : World => X.heap[w.heap.size]? = some (.cells #[.slice ba b.length bc, .int .i64 m.guest, .slice ra m.root.length rc, .slice sa m.slots.length sc, .slice fa m.refs.length fc, .slice na m.snaps.length nc] 29) ∧ X.heap[w2.heap.size]? = some (.cells #[.int .i64 M.guest, .slice g0 M.root.length k0, .slice g1 M.slots.length k1, .slice g2 M.refs.length k2, .slice g3 M.snaps.length k3] 27))) (by kernel_rfl) ⟨q3, m3⟩ (fun hHeld => ?_)
 refine tkH 0 (.pointer (some ⟨w.heap.size, 0, none⟩)) rfl (Or.inl ⟨by rfl, fun w' hSw => by obtain ⟨qa, qb⟩ := hSw; obtain ⟨j0, j1, j2, j3, j4, j5⟩ := six qa; obtain ⟨i0, i1, i2, i3, i4⟩ := five qb; go_simp⟩) hHeld ?_
 simp only [lays]
 refine tkH 1 (.slice ba b.length bc) rfl (Or.inl ⟨by rfl, fun w' hSw => by obtain ⟨qa, qb⟩ := hSw; obtain ⟨j0, j1, j2, j3, j4, j5⟩ := six qa; obtain ⟨i0, i1, i2, i3, i4⟩ := five qb; go_simp⟩) hHeld ?_
 simp only [lays]
 refine tkH 3 (.agg #[.int .i64 M.guest, .slice g0 M.root.length k0, .slice g1 M.slots.length k1, .slice g2 M.refs.length k2, .slice g3 M.snaps.length k3]) rfl (Or.inl ⟨by rfl, fun w' hSw => by obtain ⟨qa, qb⟩ := hSw; obtain ⟨j0, j1, j2, j3, j4, j5⟩ := six qa; obtain ⟨i0, i1, i2, i3, i4⟩ := five qb; go_simp⟩) hHeld ?_
 simp only [lays]
 refine wpAnyH_ready (rs := [2]) (by kernel_rfl) (by simp) ?_
 refine AllReadyH.cons rfl (fun K hK => ?_) AllReadyH.nil
 clear hHeld
 simp only [lays]
 rw [if_pos (by rfl)]
 go_wp2_with (go_at_call 17; refine (HCl.out w1 w2 _ b1 b2).mono ?_; rintro e w4 ⟨v', rfl, hr4, b4⟩; obtain ⟨pa, pc, rfl⟩ := row_slice hr4)
 have q4 := cells_below q3 b4 (by have := b1.size; have := b2.size; simp <;> omega)
 have r4 := cells_below r3 b4 (by have := b1.size; have := b2.size; simp <;> omega)
 have m4 := cells_below m3 b4 (by simp)
 refine hK.out _ _ ⟨q4, m4⟩ (fun hHeld => ?_)
 clear hK K
 try simp only [lays]
 refine tkH 4 (.agg #[.slice pa b.length pc, .int .i64 M.guest, .slice g0 M.root.length k0, .slice g1 M.slots.length k1, .slice g2 M.refs.length k2, .slice g3 M.snaps.length k3]) rfl (Or.inl ⟨by rfl, fun w' hSw => by obtain ⟨qa, qb⟩ := hSw; obtain ⟨j0, j1, j2, j3, j4, j5⟩ := six qa; obtain ⟨i0, i1, i2, i3, i4⟩ := five qb; go_simp⟩) hHeld ?_
 simp only [lays]
 refine wpAnyH_ready (rs := [5]) (by kernel_rfl) (by simp) ?_
 refine AllReadyH.cons rfl (fun K hK => ?_) AllReadyH.nil
 clear hHeld
 simp only [lays]
 rw [if_pos (by rfl)]
 obtain ⟨x0, x1, x2, x3, x4, x5⟩ := six r4
 have y0 := cells_frozen r4 0; have y1 := cells_frozen r4 1; have y2 := cells_frozen r4 2; have y3 := cells_frozen r4 3; have y4 := cells_frozen r4 4; have y5 := cells_frozen r4 5
 go_simp
 refine hK.out _ _ ⟨(heap_six _ _ _ _ _ _ _ (by omega)).trans q4, (heap_six _ _ _ _ _ _ _ (by have := b1.size; have := b2.size; omega)).trans m4⟩ (fun hHeld => ?_)
 clear hK K
 try simp only [lays]
 refine tkH 6 (.int .i64 0) rfl (Or.inl ⟨by rfl, fun w' hSw => by go_simp⟩) hHeld ?_
 simp only [lays]
 clear hHeld
 refine wpAnyH_done (by kernel_rfl) ?_ _
 go_wp2_with fail
 have hO4 : OI w4 w1.heap.size val M := (HO.out.1.alloc _).below b4
 have hfr : ∀ a, Live M a → (val a).ownBlock ≠ some (w.heap.size + 1) := fun a ha e => by
  have := ((hO4.row a ha).lt _ e).1
  have := b1.size
  omega
 have hImg := fun a0 a1 a2 a3 a4 a5 => (OI.six (w := w) hO4 hfr a0 a1 a2 a3 a4 a5).img
 have eI := HO.out.2
 refine bodyPost_ret (v := .tuple #[.agg #[.slice pa b.length pc, .int .i64 M.guest, .slice g0 M.root.length k0, .slice g1 M.slots.length k1, .slice g2 M.refs.length k2, .slice g3 M.snaps.length k3], .int .i64 0]) (by simp [results, Tryz.results5, go_sem, x0, x1, x2, x3, x4, x5]) rfl ⟨_, rfl, ⟨_, _, _, _, _, rfl, row_ss (six_far hr4 (by have := b1.size; have := b2.size; omega) _ _ _ _ _ _), (by rw [← eI]; exact hImg _ _ _ _ _ _)⟩, six_below (((Below.on (Below.on b0 b1) b2).alloc (by have := b1.size; have := b2.size; omega) _).trans (b4.mono (by have := b1.size; have := b2.size; simp <;> omega))) _ _ _ _ _ _⟩
theorem sk_write {w : World} {v : Value} {b : List ByteArray} {m : ImgD} (h : Stk w v b m) (n : Int) (page : ByteArray) {B : List ByteArray} {M : ImgD} {E : Int} (hE : skE b m n page = E) (hM : skM b m n page = M) (hB : skB b m n page = B) : Calls Tryz.prog 5 #[v, .int .i64 n, .string page] w (AnsK w B M E) := by
 subst hE hM hB
 obtain ⟨ba, bc, ra, rc, sa, sc, fa, fc, na, nc, rfl, hS, hI⟩ := h.parts
 by_cases hC : scE b m = 0
 ·have e1 : skE b m n page = wrE m n page := by unfold skE; rw [if_neg (by simpa using hC)]
  have e2 : skM b m n page = wrM m n page := by unfold skM; rw [if_neg (by simpa using hC)]
  rw [e2]
  unfold skB
  by_cases hW : wrE m n page = 0
  ·rw [e1, hW, if_neg (by decide)]
   exact sk_write_ok ba bc ra rc sa sc fa fc na nc b m n page w hS hI hC _ hW rfl
  ·rw [e1, if_pos hW, wr_bad hW]
   exact sk_write_err ba bc ra rc sa sc fa fc na nc b m n page w hS hI _ hC _ rfl rfl (by simpa using hW)
 ·have e1 : skE b m n page = scE b m := by unfold skE; rw [if_pos hC]
  have e2 : skM b m n page = imgZ := by unfold skM; rw [if_pos hC]
  rw [e2]
  unfold skB
  rw [e1, if_pos hC]
  exact sk_write_bad ba bc ra rc sa sc fa fc na nc b m n page w hS hI _ rfl (by simpa using hC)
abbrev e3 : Obj := .cells #[] 3
structure CpI (w1 : World) (xs ys : List Int) (a b : Option Value) (W : World) : Prop where
 bel : Below w1.heap.size w1 W
 ra : ∀ v, a = some v → W.ownsRow w1.heap.size 3 1 v xs.length (ints xs)
 rb : ∀ v, b = some v → W.ownsRow w1.heap.size 3 1 v ys.length (ints ys)
 ap : ∀ v u, a = some v → b = some u → ∀ g, v.ownBlock = some g → u.ownBlock ≠ some g
theorem CpI.zero (w1 : World) (xs ys : List Int) : CpI w1 xs ys none none w1 := ⟨Below.refl _ _, fun v h => by (cases h), fun v h => by (cases h), fun v u h => by (cases h)⟩
theorem CpI.alloc {w1 : World} {xs ys : List Int} {a b : Option Value} {W : World} (h : CpI w1 xs ys a b W) (o : Obj) : CpI w1 xs ys a b (W.alloc o) :=
 ⟨h.bel.alloc h.bel.size o, fun v e => (h.ra v e).alloc o, fun v e => (h.rb v e).alloc o, h.ap⟩
theorem CpI.drew {w1 : World} {xs ys : List Int} {a b : Option Value} {W : World} (h : CpI w1 xs ys a b W) : CpI w1 xs ys a b W.drew :=
 ⟨h.bel.drew, fun v e => (h.ra v e).drew, fun v e => (h.rb v e).drew, h.ap⟩
abbrev tbl (m : ImgD) (j : Nat) : List Int := (m.slots.getD j default).2.2
def LiveX (m : ImgD) (a : Nm) : Prop := (a.kind < 4 ∧ a.ix = 0) ∨ (a.kind = 4 ∧ a.ix < m.slots.length ∧ tbl m a.ix ≠ []) ∨ (a.kind = 5 ∧ a.ix < m.snaps.length)
theorem LiveX.cases {m : ImgD} {a : Nm} (h : LiveX m a) : a = .root ∨ a = .slots ∨ a = .refs ∨ a = .snaps ∨ (∃ j, a = .tab j ∧ j < m.slots.length ∧ tbl m j ≠ []) ∨ ∃ j, a = .sr j ∧ j < m.snaps.length := by
 obtain ⟨k, j⟩ := a
 rcases h with ⟨h1, h2⟩ | ⟨h1, h2⟩ | ⟨h1, h2⟩
 ·dsimp only at h1 h2
  subst h2
  match k, h1 with
  | 0, _ => exact .inl rfl
  | 1, _ => exact .inr (.inl rfl)
  | 2, _ => exact .inr (.inr (.inl rfl))
  | 3, _ => exact .inr (.inr (.inr (.inl rfl)))
 ·dsimp only at h1 h2; subst h1; exact .inr (.inr (.inr (.inr (.inl ⟨j, rfl, h2⟩))))
 ·dsimp only at h1 h2; subst h1; exact .inr (.inr (.inr (.inr (.inr ⟨j, rfl, h2⟩))))
theorem LiveX.root (m : ImgD) : LiveX m .root := .inl ⟨by decide, rfl⟩
theorem LiveX.slots (m : ImgD) : LiveX m .slots := .inl ⟨by decide, rfl⟩
theorem LiveX.refs (m : ImgD) : LiveX m .refs := .inl ⟨by decide, rfl⟩
theorem LiveX.snaps (m : ImgD) : LiveX m .snaps := .inl ⟨by decide, rfl⟩
theorem LiveX.tab {m : ImgD} {j : Nat} (h : j < m.slots.length ∧ tbl m j ≠ []) : LiveX m (.tab j) := .inr (.inl ⟨rfl, h⟩)
theorem LiveX.sr {m : ImgD} {j : Nat} (h : j < m.snaps.length) : LiveX m (.sr j) := .inr (.inr ⟨rfl, h⟩)
theorem liveX_iff {m m' : ImgD} (h1 : m'.slots.length = m.slots.length) (h2 : m'.snaps.length = m.snaps.length) (h3 : ∀ j, tbl m' j = [] ↔ tbl m j = []) (b : Nm) : LiveX m' b ↔ LiveX m b := by
 unfold LiveX
 rw [h1, h2, ne_eq, ne_eq, h3]
theorem LiveX.live {m : ImgD} {a : Nm} (h : LiveX m a) : Live m a := by
 rcases h with h | h | h
 ·exact .inl h
 ·exact .inr (.inl ⟨h.1, h.2.1⟩)
 ·exact .inr (.inr h)
structure OX (W : World) (B : Nat) (val : Nm → Value) (m : ImgD) : Prop where
 row : ∀ a, LiveX m a → W.ownsRow B (rowT a) (rowS a) (val a) (rowN m a) (rowV m val a)
 apart : ∀ a b, LiveX m a → LiveX m b → a ≠ b → ∀ g, (val a).ownBlock = some g → (val b).ownBlock ≠ some g
 loose : ∀ j, j < m.slots.length → tbl m j = [] → ∃ ao cap, val (.tab j) = .slice ao 0 cap
theorem OX.keep {W W' : World} {B : Nat} {val : Nm → Value} {m : ImgD} (h : OX W B val m) (hk : ∀ g, B ≤ g → g < W.heap.size → W'.heap[g]? = W.heap[g]?) : OX W' B val m := by
 refine ⟨fun a ha => ?_, h.apart, h.loose⟩
 have hr := h.row a ha
 refine ⟨hr.1, ?_⟩
 rcases hr.2 with hn | ⟨g, cap, cur, hv, hb, hg, rest⟩
 ·exact .inl hn
 ·exact .inr ⟨g, cap, cur, hv, hb, (hk g hb (szH hg)).trans hg, rest⟩
theorem OX.below {W W' : World} {B : Nat} {val : Nm → Value} {m : ImgD} (h : OX W B val m) (hb : Below W.heap.size W W') : OX W' B val m := h.keep fun g _ hg => hb.block g hg
theorem OX.alloc {W : World} {B : Nat} {val : Nm → Value} {m : ImgD} (h : OX W B val m) (o : Obj) : OX (W.alloc o) B val m := h.below ((Below.refl _ _).alloc (Nat.le_refl _) o)
theorem OX.drew {W : World} {B : Nat} {val : Nm → Value} {m : ImgD} (h : OX W B val m) : OX W.drew B val m := ⟨fun a ha => (h.row a ha).drew, h.apart, h.loose⟩
theorem OX.mono {W : World} {B B' : Nat} {val : Nm → Value} {m : ImgD} (h : OX W B val m) (hb : B' ≤ B) : OX W B' val m := by
 refine ⟨fun a ha => ?_, h.apart, h.loose⟩
 have hr := h.row a ha
 refine ⟨hr.1, ?_⟩
 rcases hr.2 with hn | ⟨g, cap, cur, hv, hg, rest⟩
 ·exact .inl hn
 ·exact .inr ⟨g, cap, cur, hv, Nat.le_trans hb hg, rest⟩
theorem OX.tabSl {W : World} {B : Nat} {val : Nm → Value} {m : ImgD} (h : OX W B val m) {j : Nat} (hj : j < m.slots.length) : Sl W (val (.tab j)) (tbl m j) := by
 by_cases e : tbl m j = []
 ·obtain ⟨ao, cap, ev⟩ := h.loose j hj e
  rw [ev, e]
  exact ⟨ao, cap, rfl, Nat.zero_le _, Nat.zero_le _, fun x => absurd rfl x⟩
 ·exact row_sl (h.row (.tab j) (LiveX.tab ⟨hj, e⟩))
theorem OX.img {W : World} {B : Nat} {val : Nm → Value} {m : ImgD} (h : OX W B val m) : Img W (imgV m.guest val) m :=
 ⟨_, _, _, _, rfl, row_sl (h.row .root (LiveX.root m)), row_slots (h.row .slots (LiveX.slots m)) (fun j hj => h.tabSl hj), row_sl (h.row .refs (LiveX.refs m)), row_snaps (h.row .snaps (LiveX.snaps m)) (fun j hj => row_sl (h.row (.sr j) (LiveX.sr hj)))⟩
theorem OX.store {W : World} {B : Nat} {val : Nm → Value} {m m' : ImgD} (h : OX W B val m) {a : Nm} (ha : LiveX m a) {g n cap : Nat} (hv : val a = .slice (some ⟨g, 0, none⟩) n cap) (i : Nat) (u : Value)
  (hlive : ∀ b, LiveX m' b ↔ LiveX m b) (hn : ∀ b, LiveX m b → rowN m' b = rowN m b) (hsame : ∀ b, LiveX m b → b ≠ a → rowV m' val b = rowV m val b) (hset : rowV m' val a = (rowV m val a).set i u) (hloose : ∀ j, j < m'.slots.length → tbl m' j = [] → j < m.slots.length ∧ tbl m j = []) : OX (W.setCell ⟨g, i, none⟩ u) B val m' := by
 refine ⟨fun b hb => ?_, fun b c hb hc => h.apart b c ((hlive b).1 hb) ((hlive c).1 hc), fun j hj e => h.loose j (hloose j hj e).1 (hloose j hj e).2⟩
 have hb := (hlive b).1 hb
 rw [hn b hb]
 by_cases e : b = a
 ·subst e
  have hr := h.row b hb
  rw [hset]
  have hnn : n = rowN m b := by
   rcases row_form hr with ⟨e, _⟩ | ⟨g', cap', e, _⟩
   ·rw [hv] at e; simp at e
   ·rw [hv] at e; simp at e; exact e.2.1
  subst hnn
  rw [hv] at hr ⊢
  exact (hr.stored i u).1
 ·rw [hsame b hb e]
  exact ownsRow_setCell_other (h.row b hb) (h.apart a b ha hb (fun x => e x.symm) g (by rw [hv]; rfl)) u
theorem OX.setRoot {W : World} {B : Nat} {val : Nm → Value} {m : ImgD} (h : OX W B val m) {g n cap : Nat} (hv : val .root = .slice (some ⟨g, 0, none⟩) n cap) (i : Nat) (x : Int) : OX (W.setCell ⟨g, i, none⟩ (.int .i64 x)) B val { m with root := m.root.set i x } := by
 refine h.store (a := .root) (LiveX.root m) hv i _ (liveX_iff rfl rfl fun _ => Iff.rfl) (fun b hb => ?_) (fun b hb hne => ?_) (ints_set _ _ _) (fun _ hj e => ⟨hj, e⟩)
 ·rcases hb.cases with rfl | rfl | rfl | rfl | ⟨j, rfl, hj⟩ | ⟨j, rfl, hj⟩ <;> first | rfl | exact List.length_set
 ·rcases hb.cases with rfl | rfl | rfl | rfl | ⟨j, rfl, hj⟩ | ⟨j, rfl, hj⟩ <;> first | rfl | exact absurd rfl hne
theorem OX.setRefs {W : World} {B : Nat} {val : Nm → Value} {m : ImgD} (h : OX W B val m) {g n cap : Nat} (hv : val .refs = .slice (some ⟨g, 0, none⟩) n cap) (i : Nat) (x : Int) : OX (W.setCell ⟨g, i, none⟩ (.int .i64 x)) B val { m with refs := m.refs.set i x } := by
 refine h.store (a := .refs) (LiveX.refs m) hv i _ (liveX_iff rfl rfl fun _ => Iff.rfl) (fun b hb => ?_) (fun b hb hne => ?_) (ints_set _ _ _) (fun _ hj e => ⟨hj, e⟩)
 ·rcases hb.cases with rfl | rfl | rfl | rfl | ⟨j, rfl, hj⟩ | ⟨j, rfl, hj⟩ <;> first | rfl | exact List.length_set
 ·rcases hb.cases with rfl | rfl | rfl | rfl | ⟨j, rfl, hj⟩ | ⟨j, rfl, hj⟩ <;> first | rfl | exact absurd rfl hne
theorem OX.setTab {W : World} {B : Nat} {val : Nm → Value} {m : ImgD} (h : OX W B val m) {t : Nat} (ht : t < m.slots.length) (hnt : tbl m t ≠ []) {g n cap : Nat} (hv : val (.tab t) = .slice (some ⟨g, 0, none⟩) n cap) (i : Nat) (x : Int) :
  OX (W.setCell ⟨g, i, none⟩ (.int .i64 x)) B val { m with slots := m.slots.set t ((m.slots.getD t default).1, (m.slots.getD t default).2.1, (m.slots.getD t default).2.2.set i x) } := by
 have hg := fun j => getD_setR m.slots t j ((m.slots.getD t default).1, (m.slots.getD t default).2.1, (m.slots.getD t default).2.2.set i x)
 have hnil : ∀ j, tbl { m with slots := m.slots.set t ((m.slots.getD t default).1, (m.slots.getD t default).2.1, (m.slots.getD t default).2.2.set i x) } j = [] ↔ tbl m j = [] := fun j => by
  show ((m.slots.set t _).getD j default).2.2 = [] ↔ _
  rw [hg]
  split
  ·rename_i e
   rw [← e.1]
   constructor
   ·intro z
    have := congrArg List.length z
    rw [List.length_set] at this
    exact List.eq_nil_of_length_eq_zero this
   ·intro z
    exact absurd z hnt
  ·rfl
 refine h.store (a := .tab t) (LiveX.tab ⟨ht, hnt⟩) hv i _ (liveX_iff List.length_set rfl hnil) (fun b hb => ?_) (fun b hb hne => ?_) ?_ (fun j hj e => ⟨by rwa [show (m.slots.set t _).length = m.slots.length from List.length_set] at hj, (hnil j).1 e⟩)
 ·rcases hb.cases with rfl | rfl | rfl | rfl | ⟨j, rfl, hj⟩ | ⟨j, rfl, hj⟩ <;> first | rfl | exact List.length_set | skip
  show ((m.slots.set t _).getD j default).2.2.length = (m.slots.getD j default).2.2.length
  rw [hg]
  split
  ·rename_i e; rw [← e.1]; exact List.length_set
  ·rfl
 ·rcases hb.cases with rfl | rfl | rfl | rfl | ⟨j, rfl, hj⟩ | ⟨j, rfl, hj⟩ <;> first | rfl | skip
  ·show flatS (m.slots.set t _) _ = flatS m.slots _
   unfold flatS
   rw [List.length_set]
   refine congrArg List.flatten (List.map_congr_left fun j _ => ?_)
   rw [hg]
   split
   ·rename_i e; rw [← e.1]
   ·rfl
  ·show ints ((m.slots.set t _).getD j default).2.2 = ints (m.slots.getD j default).2.2
   rw [hg, if_neg (fun e => hne (by rw [e.1]))]
 ·show ints ((m.slots.set t _).getD t default).2.2 = (ints (m.slots.getD t default).2.2).set i _
  rw [hg, if_pos ⟨rfl, ht⟩]; exact ints_set _ _ _
def FarX (m : ImgD) (val : Nm → Value) (a : Nm) (v : Value) : Prop := ∀ b, LiveX m b → b ≠ a → ∀ g, v.ownBlock = some g → (val b).ownBlock ≠ some g
theorem farX_new {W : World} {B : Nat} {val : Nm → Value} {m : ImgD} (h : OX W B val m) (a : Nm) {v : Value} (hv : ∀ g, v.ownBlock = some g → W.heap.size ≤ g) : FarX m val a v := fun b hb _ g hg e => by
 have := ((h.row b hb).lt g e).2
 have := hv g hg
 omega
theorem farX_nil (m : ImgD) (val : Nm → Value) (a : Nm) (n cap : Nat) : FarX m val a (.slice none n cap) := fun _ _ _ g hg => by cases hg
theorem OX.swap {W : World} {B : Nat} {val : Nm → Value} {m m' : ImgD} (h : OX W B val m) {a : Nm} (ha : LiveX m a) {v : Value} (hv : W.ownsRow B (rowT a) (rowS a) v (rowN m' a) (rowV m' (upd val a v) a)) (hfar : FarX m val a v)
  (hlive : ∀ b, LiveX m' b ↔ LiveX m b) (hsame : ∀ b, LiveX m b → b ≠ a → rowN m' b = rowN m b ∧ rowV m' (upd val a v) b = rowV m val b) (hloose : ∀ j, j < m'.slots.length → tbl m' j = [] → a ≠ .tab j ∧ j < m.slots.length ∧ tbl m j = []) : OX W B (upd val a v) m' := by
 refine ⟨fun b hb => ?_, fun b c hb hc hne g hg => ?_, fun j hj e => by obtain ⟨h1, h2, h3⟩ := hloose j hj e; rw [upd_other val v (fun x => h1 x.symm)]; exact h.loose j h2 h3⟩
 ·have hb := (hlive b).1 hb
  by_cases e : b = a
  ·subst e; rw [upd_same]; exact hv
  ·rw [upd_other val v e, (hsame b hb e).1, (hsame b hb e).2]; exact h.row b hb
 ·have hb := (hlive b).1 hb
  have hc := (hlive c).1 hc
  by_cases e : b = a
  ·subst e
   rw [upd_same] at hg
   rw [upd_other val v (fun x => hne x.symm)]
   exact hfar c hc (fun x => hne x.symm) g hg
  ·rw [upd_other val v e] at hg
   by_cases e2 : c = a
   ·subst e2
    rw [upd_same]
    exact fun x => hfar b hb e g x hg
   ·rw [upd_other val v e2]; exact h.apart b c hb hc hne g hg
theorem OX.swapRoot {W : World} {B : Nat} {val : Nm → Value} {m : ImgD} (h : OX W B val m) {v : Value} {r : List Int} (hv : W.ownsRow B 3 1 v r.length (ints r)) (hfar : FarX m val .root v) (g : Int) : OX W B (upd val .root v) { m with guest := g, root := r } := by
 refine h.swap (a := .root) (LiveX.root m) hv hfar (liveX_iff rfl rfl fun _ => Iff.rfl) (fun b hb hne => ?_) (fun j hj e => ⟨(by intro x; cases x), hj, e⟩)
 rcases hb.cases with rfl | rfl | rfl | rfl | ⟨j, rfl, hj⟩ | ⟨j, rfl, hj⟩ <;> first | exact ⟨rfl, rfl⟩ | exact absurd rfl hne
theorem OX.swapRefs {W : World} {B : Nat} {val : Nm → Value} {m : ImgD} (h : OX W B val m) {v : Value} {r : List Int} (hv : W.ownsRow B 3 1 v r.length (ints r)) (hfar : FarX m val .refs v) : OX W B (upd val .refs v) { m with refs := r } := by
 refine h.swap (a := .refs) (LiveX.refs m) hv hfar (liveX_iff rfl rfl fun _ => Iff.rfl) (fun b hb hne => ?_) (fun j hj e => ⟨(by intro x; cases x), hj, e⟩)
 rcases hb.cases with rfl | rfl | rfl | rfl | ⟨j, rfl, hj⟩ | ⟨j, rfl, hj⟩ <;> first | exact ⟨rfl, rfl⟩ | exact absurd rfl hne
theorem OX.setSlot {W : World} {B : Nat} {val : Nm → Value} {m : ImgD} (h : OX W B val m) {t : Nat} (ht : t < m.slots.length) {g n cap : Nat} (hv : val .slots = .slice (some ⟨g, 0, none⟩) n cap) (k : Int) (d : ByteArray) (es : List Int) {ev : Value}
  (hev : W.ownsRow B 3 1 ev es.length (ints es)) (hfar : FarX m val (.tab t) ev) :
  OX (((W.setCell ⟨g, t * 3, none⟩ (.int .i64 k)).setCell ⟨g, t * 3 + 1, none⟩ (.string d)).setCell ⟨g, t * 3 + 2, none⟩ ev) B (upd val (.tab t) ev) { m with slots := m.slots.set t (k, d, es) } := by
 have hgd := fun j => getD_setR m.slots t j (k, d, es)
 have hnn : n = m.slots.length := by
  rcases row_form (h.row .slots (LiveX.slots m)) with ⟨e, _⟩ | ⟨g', cap', e, _⟩
  ·rw [hv] at e; simp at e
  ·rw [hv] at e; simp at e; exact e.2.1
 have hoth : ∀ {e : TypeId} {size : Nat} {v : Value} {q : Nat} {xs : List Value}, W.ownsRow B e size v q xs → v.ownBlock ≠ some g →
   (((W.setCell ⟨g, t * 3, none⟩ (.int .i64 k)).setCell ⟨g, t * 3 + 1, none⟩ (.string d)).setCell ⟨g, t * 3 + 2, none⟩ ev).ownsRow B e size v q xs := fun hr hne =>
  ownsRow_setCell_other (ownsRow_setCell_other (ownsRow_setCell_other hr hne _) hne _) hne _
 have hlive : ∀ b, LiveX { m with slots := m.slots.set t (k, d, es) } b → b ≠ .tab t → LiveX m b := fun b hb hne => by
  rcases hb.cases with rfl | rfl | rfl | rfl | ⟨j, rfl, hj⟩ | ⟨j, rfl, hj⟩
  ·exact LiveX.root m
  ·exact LiveX.slots m
  ·exact LiveX.refs m
  ·exact LiveX.snaps m
  ·refine LiveX.tab ⟨?_, ?_⟩
   ·have := hj.1
    rwa [show (m.slots.set t (k, d, es)).length = m.slots.length from List.length_set] at this
   ·have := hj.2
    have e : tbl { m with slots := m.slots.set t (k, d, es) } j = tbl m j := by
     show ((m.slots.set t (k, d, es)).getD j default).2.2 = _
     rw [hgd, if_neg (fun x => hne (by rw [x.1]))]
    rwa [e] at this
  ·exact LiveX.sr hj
 refine ⟨fun b hb => ?_, fun b c hb hc hne q hq => ?_, fun j hj e => ?_⟩
 ·by_cases es0 : b = .slots
  ·subst es0
   rw [upd_other val ev (by intro x; cases x)]
   have hr := h.row .slots (LiveX.slots m)
   have e1 : rowV { m with slots := m.slots.set t (k, d, es) } (upd val (.tab t) ev) .slots = (((rowV m val .slots).set (t * 3) (.int .i64 k)).set (t * 3 + 1) (.string d)).set (t * 3 + 2) ev := by
    have := flatS_set (L := m.slots) (tv := fun j => val (.tab j)) (tv' := fun j => upd val (.tab t) ev (.tab j)) (t := t) k d es (fun j hj => upd_other val ev (by intro x; apply hj; injection x))
    rw [upd_same] at this
    exact this
   have e2 : rowN { m with slots := m.slots.set t (k, d, es) } .slots = rowN m .slots := List.length_set
   rw [e1, e2]
   have hN : rowN m .slots = n := hnn.symm
   rw [hN] at hr ⊢
   rw [hv] at hr ⊢
   exact ((((hr.stored (t * 3) (.int .i64 k)).1).stored (t * 3 + 1) (.string d)).1.stored (t * 3 + 2) ev).1
  ·by_cases et : b = .tab t
   ·subst et
    rw [upd_same]
    have e1 : rowV { m with slots := m.slots.set t (k, d, es) } (upd val (.tab t) ev) (.tab t) = ints es := by
     show ints ((m.slots.set t (k, d, es)).getD t default).2.2 = _
     rw [hgd, if_pos ⟨rfl, ht⟩]
    have e2 : rowN { m with slots := m.slots.set t (k, d, es) } (.tab t) = es.length := by
     show ((m.slots.set t (k, d, es)).getD t default).2.2.length = _
     rw [hgd, if_pos ⟨rfl, ht⟩]
    rw [e1, e2]
    exact hoth hev (fun x => hfar .slots (LiveX.slots m) (by intro y; cases y) g x (by rw [hv]; rfl))
   ·have hb' := hlive b hb et
    have hbg : (val b).ownBlock ≠ some g := h.apart .slots b (LiveX.slots m) hb' (fun x => es0 x.symm) g (by rw [hv]; rfl)
    rw [upd_other val ev et]
    have e1 : rowV { m with slots := m.slots.set t (k, d, es) } (upd val (.tab t) ev) b = rowV m val b ∧ rowN { m with slots := m.slots.set t (k, d, es) } b = rowN m b := by
     rcases hb'.cases with rfl | rfl | rfl | rfl | ⟨j, rfl, hj⟩ | ⟨j, rfl, hj⟩
     ·exact ⟨rfl, rfl⟩
     ·exact absurd rfl es0
     ·exact ⟨rfl, rfl⟩
     ·exact ⟨rfl, rfl⟩
     ·have hjt : t ≠ j := fun x => et (by rw [x])
      constructor
      ·show ints ((m.slots.set t (k, d, es)).getD j default).2.2 = ints (m.slots.getD j default).2.2
       rw [hgd, if_neg (fun x => hjt x.1)]
      ·show ((m.slots.set t (k, d, es)).getD j default).2.2.length = (m.slots.getD j default).2.2.length
       rw [hgd, if_neg (fun x => hjt x.1)]
     ·exact ⟨rfl, rfl⟩
    rw [e1.1, e1.2]
    exact hoth (h.row b hb') hbg
 ·by_cases e : b = .tab t
  ·subst e
   rw [upd_same] at hq
   rw [upd_other val ev (fun x => hne x.symm)]
   exact hfar c (hlive c hc (fun x => hne x.symm)) (fun x => hne x.symm) q hq
  ·rw [upd_other val ev e] at hq
   have hb' := hlive b hb e
   by_cases e2 : c = .tab t
   ·subst e2; rw [upd_same]; exact fun x => hfar b hb' e q x hq
   ·rw [upd_other val ev e2]; exact h.apart b c hb' (hlive c hc e2) hne q hq
 ·rw [show ({ m with slots := m.slots.set t (k, d, es) } : ImgD).slots.length = m.slots.length from List.length_set] at hj
  have e : ((m.slots.set t (k, d, es)).getD j default).2.2 = [] := e
  rw [hgd] at e
  by_cases ej : t = j
  ·subst ej
   rw [if_pos ⟨rfl, hj⟩] at e
   have e : es = [] := e
   rw [upd_same]
   rw [e] at hev
   rcases row_form hev with ⟨x, _⟩ | ⟨g', cap', x, _⟩
   ·exact ⟨_, _, x⟩
   ·exact ⟨_, _, x⟩
  ·rw [if_neg (fun x => ej x.1)] at e
   rw [upd_other val ev (by intro x; apply ej; injection x with _ x; exact x.symm)]
   exact h.loose j hj e
theorem OX.addSlot {W W' : World} {B : Nat} {val : Nm → Value} {m : ImgD} (h : OX W B val m) {k : Int} {d : ByteArray} {es : List Int} {ev sv : Value} (hev : es ≠ [] → W.ownsRow B 3 1 ev es.length (ints es)) (hev0 : es = [] → ∃ ao cap, ev = .slice ao 0 cap) (hfar : es ≠ [] → FarX m val (.tab m.slots.length) ev)
  (hgrow : W.grownBy W' (val .slots).ownBlock) (hrow : W'.ownsRow B 58 3 sv (m.slots.length + 1) (flatS m.slots (fun j => val (.tab j)) ++ [.int .i64 k, .string d, ev])) (hblk : sv.ownBlock = (val .slots).ownBlock ∨ ∀ g, sv.ownBlock = some g → W.heap.size ≤ g) :
  OX W' B (upd (upd val (.tab m.slots.length) ev) .slots sv) { m with slots := m.slots ++ [(k, d, es)] } := by
 have hval : ∀ b, b ≠ .slots → b ≠ .tab m.slots.length → upd (upd val (.tab m.slots.length) ev) .slots sv b = val b := fun b h1 h2 => by rw [upd_other _ sv h1, upd_other _ ev h2]
 have hvs : upd (upd val (.tab m.slots.length) ev) .slots sv .slots = sv := upd_same _ _ _
 have hvt : upd (upd val (.tab m.slots.length) ev) .slots sv (.tab m.slots.length) = ev := by rw [upd_other _ sv (by intro x; cases x), upd_same]
 have hcase : ∀ b, LiveX { m with slots := m.slots ++ [(k, d, es)] } b → b = .slots ∨ (b = .tab m.slots.length ∧ es ≠ []) ∨ (LiveX m b ∧ b ≠ .slots ∧ b ≠ .tab m.slots.length) := fun b hb => by
  rcases hb.cases with rfl | rfl | rfl | rfl | ⟨j, rfl, hj⟩ | ⟨j, rfl, hj⟩
  ·exact .inr (.inr ⟨LiveX.root m, (by intro x; cases x), (by intro x; cases x)⟩)
  ·exact .inl rfl
  ·exact .inr (.inr ⟨LiveX.refs m, (by intro x; cases x), (by intro x; cases x)⟩)
  ·exact .inr (.inr ⟨LiveX.snaps m, (by intro x; cases x), (by intro x; cases x)⟩)
  ·obtain ⟨hj, hjn⟩ := hj
   by_cases e : j = m.slots.length
   ·subst e
    refine .inr (.inl ⟨rfl, ?_⟩)
    have hjn : ((m.slots ++ [(k, d, es)]).getD m.slots.length default).2.2 ≠ [] := hjn
    simpa [List.getD] using hjn
   ·have hjl : j < m.slots.length := by simp at hj; omega
    refine .inr (.inr ⟨LiveX.tab ⟨hjl, ?_⟩, (by intro x; cases x), ?_⟩)
    ·have hjn : ((m.slots ++ [(k, d, es)]).getD j default).2.2 ≠ [] := hjn
     have e : (m.slots ++ [(k, d, es)]).getD j default = m.slots.getD j default := by simp [List.getD, List.getElem?_append, hjl]
     rwa [e] at hjn
    ·intro x; apply e; injection x
  ·exact .inr (.inr ⟨LiveX.sr hj, (by intro x; cases x), (by intro x; cases x)⟩)
 have hnot : ∀ b, LiveX m b → b ≠ .slots → (val b).ownBlock = none ∨ (val b).ownBlock ≠ (val .slots).ownBlock := fun b hb hne => by
  cases hg : (val b).ownBlock with
  | none => exact .inl rfl
  | some g => exact .inr (fun x => h.apart b .slots hb (LiveX.slots m) hne g hg x.symm)
 have hevn : es ≠ [] → ev.ownBlock = none ∨ ev.ownBlock ≠ (val .slots).ownBlock := fun hne => by
  cases hg : ev.ownBlock with
  | none => exact .inl rfl
  | some g => exact .inr (fun x => hfar hne .slots (LiveX.slots m) (by intro y; cases y) g hg x.symm)
 have hsvfar : ∀ b, LiveX m b → b ≠ .slots → ∀ g, sv.ownBlock = some g → (val b).ownBlock ≠ some g := fun b hb hne g hg hx => by
  rcases hblk with e | e
  ·rw [e] at hg; exact h.apart b .slots hb (LiveX.slots m) hne g hx hg
  ·have := ((h.row b hb).lt g hx).2
   have := e g hg
   omega
 have hsvev : es ≠ [] → ∀ g, sv.ownBlock = some g → ev.ownBlock ≠ some g := fun hne g hg hx => by
  rcases hblk with e | e
  ·rw [e] at hg; exact hfar hne .slots (LiveX.slots m) (by intro y; cases y) g hx hg
  ·have := ((hev hne).lt g hx).2
   have := e g hg
   omega
 refine ⟨fun b hb => ?_, fun b c hb hc hne q hq => ?_, fun j hj e => ?_⟩
 ·rcases hcase b hb with rfl | ⟨rfl, hes⟩ | ⟨hb', h1, h2⟩
  ·rw [hvs]
   have e1 : rowV { m with slots := m.slots ++ [(k, d, es)] } (upd (upd val (.tab m.slots.length) ev) .slots sv) .slots = flatS m.slots (fun j => val (.tab j)) ++ [.int .i64 k, .string d, ev] := by
    have := flatS_snoc m.slots (fun j => val (.tab j)) (fun j => upd (upd val (.tab m.slots.length) ev) .slots sv (.tab j)) (k, d, es) (fun j hj => hval _ (by intro x; cases x) (by intro x; injection x with _ x; omega))
    rw [hvt] at this
    exact this
   have e2 : rowN { m with slots := m.slots ++ [(k, d, es)] } .slots = m.slots.length + 1 := by show (m.slots ++ [(k, d, es)]).length = _; simp
   rw [e1, e2]; exact hrow
  ·rw [hvt]
   have e0 : (m.slots ++ [(k, d, es)]).getD m.slots.length default = (k, d, es) := by simp [List.getD]
   have e1 : rowV { m with slots := m.slots ++ [(k, d, es)] } (upd (upd val (.tab m.slots.length) ev) .slots sv) (.tab m.slots.length) = ints es := by
    show ints ((m.slots ++ [(k, d, es)]).getD m.slots.length default).2.2 = _
    rw [e0]
   have e2 : rowN { m with slots := m.slots ++ [(k, d, es)] } (.tab m.slots.length) = es.length := by
    show ((m.slots ++ [(k, d, es)]).getD m.slots.length default).2.2.length = _
    rw [e0]
   rw [e1, e2]
   exact (hev hes).kept hgrow (hevn hes)
  ·rw [hval b h1 h2]
   have e1 : rowV { m with slots := m.slots ++ [(k, d, es)] } (upd (upd val (.tab m.slots.length) ev) .slots sv) b = rowV m val b ∧ rowN { m with slots := m.slots ++ [(k, d, es)] } b = rowN m b := by
    rcases hb'.cases with rfl | rfl | rfl | rfl | ⟨j, rfl, hj⟩ | ⟨j, rfl, hj⟩
    ·exact ⟨rfl, rfl⟩
    ·exact absurd rfl h1
    ·exact ⟨rfl, rfl⟩
    ·refine ⟨?_, rfl⟩
     show flatN m.snaps _ = flatN m.snaps _
     unfold flatN
     refine congrArg List.flatten (List.map_congr_left fun j _ => ?_)
     dsimp only
     rw [hval (.sr j) (by intro x; cases x) (by intro x; cases x)]
    ·have e : (m.slots ++ [(k, d, es)]).getD j default = m.slots.getD j default := by simp [List.getD, List.getElem?_append, hj.1]
     constructor
     ·show ints ((m.slots ++ [(k, d, es)]).getD j default).2.2 = _
      rw [e]; rfl
     ·show ((m.slots ++ [(k, d, es)]).getD j default).2.2.length = _
      rw [e]; rfl
    ·exact ⟨rfl, rfl⟩
   rw [e1.1, e1.2]
   exact (h.row b hb').kept hgrow (hnot b hb' h1)
 ·rcases hcase b hb with rfl | ⟨rfl, hes⟩ | ⟨hb', h1, h2⟩
  ·rw [hvs] at hq
   rcases hcase c hc with rfl | ⟨rfl, hes2⟩ | ⟨hc', g1, g2⟩
   ·exact absurd rfl hne
   ·rw [hvt]; exact hsvev hes2 q hq
   ·rw [hval c g1 g2]; exact hsvfar c hc' g1 q hq
  ·rw [hvt] at hq
   rcases hcase c hc with rfl | ⟨rfl, hes2⟩ | ⟨hc', g1, g2⟩
   ·rw [hvs]; exact fun x => hsvev hes q x hq
   ·exact absurd rfl hne
   ·rw [hval c g1 g2]; exact hfar hes c hc' g2 q hq
  ·rw [hval b h1 h2] at hq
   rcases hcase c hc with rfl | ⟨rfl, hes2⟩ | ⟨hc', g1, g2⟩
   ·rw [hvs]; exact fun x => hsvfar b hb' h1 q x hq
   ·rw [hvt]; exact fun x => hfar hes2 b hb' h2 q x hq
   ·rw [hval c g1 g2]; exact h.apart b c hb' hc' hne q hq
 ·have hj : j < (m.slots ++ [(k, d, es)]).length := hj
  have e : ((m.slots ++ [(k, d, es)]).getD j default).2.2 = [] := e
  by_cases ej : j = m.slots.length
  ·subst ej
   rw [hvt]
   exact hev0 (by simpa [List.getD] using e)
  ·have hjl : j < m.slots.length := by simp at hj; omega
   have e2 : (m.slots ++ [(k, d, es)]).getD j default = m.slots.getD j default := by simp [List.getD, List.getElem?_append, hjl]
   rw [hval _ (by intro x; cases x) (by intro x; injection x with _ x; exact ej x)]
   exact h.loose j hjl (by rw [e2] at e; exact e)
theorem flatN_snoc (L : List SnapD) (tv tv' : Nat → Value) (s : SnapD) (htv : ∀ j, j < L.length → tv' j = tv j) : flatN (L ++ [s]) tv' = flatN L tv ++ [.string s.1, .int .i64 s.2.1, tv' L.length] := by
 unfold flatN
 rw [List.length_append, List.length_singleton, List.range_succ, List.flatMap_append]
 have e1 : (List.range L.length).flatMap (fun j => [Value.string ((L ++ [s]).getD j default).1, .int .i64 ((L ++ [s]).getD j default).2.1, tv' j]) = (List.range L.length).flatMap (fun j => [Value.string (L.getD j default).1, .int .i64 (L.getD j default).2.1, tv j]) := by
  refine congrArg List.flatten (List.map_congr_left fun j hj => ?_)
  have hj := List.mem_range.1 hj
  have e : (L ++ [s]).getD j default = L.getD j default := by simp [List.getD, List.getElem?_append, hj]
  rw [e, htv j hj]
 rw [e1]
 simp
theorem OX.addSnap {W W' : World} {B : Nat} {val : Nm → Value} {m : ImgD} (h : OX W B val m) {k : Int} {d : ByteArray} {es : List Int} {ev sv : Value} (hev : W.ownsRow B 3 1 ev es.length (ints es)) (hfar : FarX m val (.sr m.snaps.length) ev)
  (hgrow : W.grownBy W' (val .snaps).ownBlock) (hrow : W'.ownsRow B 76 3 sv (m.snaps.length + 1) (flatN m.snaps (fun j => val (.sr j)) ++ [.string d, .int .i64 k, ev])) (hblk : sv.ownBlock = (val .snaps).ownBlock ∨ ∀ g, sv.ownBlock = some g → W.heap.size ≤ g) :
  OX W' B (upd (upd val (.sr m.snaps.length) ev) .snaps sv) { m with snaps := m.snaps ++ [(d, k, es)] } := by
 have hval : ∀ b, b ≠ .snaps → b ≠ .sr m.snaps.length → upd (upd val (.sr m.snaps.length) ev) .snaps sv b = val b := fun b h1 h2 => by rw [upd_other _ sv h1, upd_other _ ev h2]
 have hvs : upd (upd val (.sr m.snaps.length) ev) .snaps sv .snaps = sv := upd_same _ _ _
 have hvt : upd (upd val (.sr m.snaps.length) ev) .snaps sv (.sr m.snaps.length) = ev := by rw [upd_other _ sv (by intro x; cases x), upd_same]
 have hcase : ∀ b, LiveX { m with snaps := m.snaps ++ [(d, k, es)] } b → b = .snaps ∨ b = .sr m.snaps.length ∨ (LiveX m b ∧ b ≠ .snaps ∧ b ≠ .sr m.snaps.length) := fun b hb => by
  rcases hb.cases with rfl | rfl | rfl | rfl | ⟨j, rfl, hj⟩ | ⟨j, rfl, hj⟩
  ·exact .inr (.inr ⟨LiveX.root m, (by intro x; cases x), (by intro x; cases x)⟩)
  ·exact .inr (.inr ⟨LiveX.slots m, (by intro x; cases x), (by intro x; cases x)⟩)
  ·exact .inr (.inr ⟨LiveX.refs m, (by intro x; cases x), (by intro x; cases x)⟩)
  ·exact .inl rfl
  ·exact .inr (.inr ⟨LiveX.tab hj, (by intro x; cases x), (by intro x; cases x)⟩)
  ·by_cases e : j = m.snaps.length
   ·subst e; exact .inr (.inl rfl)
   ·refine .inr (.inr ⟨LiveX.sr (by simp at hj; omega), (by intro x; cases x), ?_⟩)
    intro x; apply e; injection x
 have hnot : ∀ b, LiveX m b → b ≠ .snaps → (val b).ownBlock = none ∨ (val b).ownBlock ≠ (val .snaps).ownBlock := fun b hb hne => by
  cases hg : (val b).ownBlock with
  | none => exact .inl rfl
  | some g => exact .inr (fun x => h.apart b .snaps hb (LiveX.snaps m) hne g hg x.symm)
 have hevn : ev.ownBlock = none ∨ ev.ownBlock ≠ (val .snaps).ownBlock := by
  cases hg : ev.ownBlock with
  | none => exact .inl rfl
  | some g => exact .inr (fun x => hfar .snaps (LiveX.snaps m) (by intro y; cases y) g hg x.symm)
 have hsvfar : ∀ b, LiveX m b → b ≠ .snaps → ∀ g, sv.ownBlock = some g → (val b).ownBlock ≠ some g := fun b hb hne g hg hx => by
  rcases hblk with e | e
  ·rw [e] at hg; exact h.apart b .snaps hb (LiveX.snaps m) hne g hx hg
  ·have := ((h.row b hb).lt g hx).2
   have := e g hg
   omega
 have hsvev : ∀ g, sv.ownBlock = some g → ev.ownBlock ≠ some g := fun g hg hx => by
  rcases hblk with e | e
  ·rw [e] at hg; exact hfar .snaps (LiveX.snaps m) (by intro y; cases y) g hx hg
  ·have := (hev.lt g hx).2
   have := e g hg
   omega
 refine ⟨fun b hb => ?_, fun b c hb hc hne q hq => ?_, fun j hj e => by rw [hval _ (by intro x; cases x) (by intro x; cases x)]; exact h.loose j hj e⟩
 ·rcases hcase b hb with rfl | rfl | ⟨hb', h1, h2⟩
  ·rw [hvs]
   have e1 : rowV { m with snaps := m.snaps ++ [(d, k, es)] } (upd (upd val (.sr m.snaps.length) ev) .snaps sv) .snaps = flatN m.snaps (fun j => val (.sr j)) ++ [.string d, .int .i64 k, ev] := by
    have := flatN_snoc m.snaps (fun j => val (.sr j)) (fun j => upd (upd val (.sr m.snaps.length) ev) .snaps sv (.sr j)) (d, k, es) (fun j hj => hval _ (by intro x; cases x) (by intro x; injection x with _ x; omega))
    rw [hvt] at this
    exact this
   have e2 : rowN { m with snaps := m.snaps ++ [(d, k, es)] } .snaps = m.snaps.length + 1 := by show (m.snaps ++ [(d, k, es)]).length = _; simp
   rw [e1, e2]; exact hrow
  ·rw [hvt]
   have e0 : (m.snaps ++ [(d, k, es)]).getD m.snaps.length default = (d, k, es) := by simp [List.getD]
   have e1 : rowV { m with snaps := m.snaps ++ [(d, k, es)] } (upd (upd val (.sr m.snaps.length) ev) .snaps sv) (.sr m.snaps.length) = ints es := by
    show ints ((m.snaps ++ [(d, k, es)]).getD m.snaps.length default).2.2 = _
    rw [e0]
   have e2 : rowN { m with snaps := m.snaps ++ [(d, k, es)] } (.sr m.snaps.length) = es.length := by
    show ((m.snaps ++ [(d, k, es)]).getD m.snaps.length default).2.2.length = _
    rw [e0]
   rw [e1, e2]
   exact hev.kept hgrow hevn
  ·rw [hval b h1 h2]
   have e1 : rowV { m with snaps := m.snaps ++ [(d, k, es)] } (upd (upd val (.sr m.snaps.length) ev) .snaps sv) b = rowV m val b ∧ rowN { m with snaps := m.snaps ++ [(d, k, es)] } b = rowN m b := by
    rcases hb'.cases with rfl | rfl | rfl | rfl | ⟨j, rfl, hj⟩ | ⟨j, rfl, hj⟩
    ·exact ⟨rfl, rfl⟩
    ·refine ⟨?_, rfl⟩
     show flatS m.slots _ = flatS m.slots _
     unfold flatS
     refine congrArg List.flatten (List.map_congr_left fun j _ => ?_)
     dsimp only
     rw [hval (.tab j) (by intro x; cases x) (by intro x; cases x)]
    ·exact ⟨rfl, rfl⟩
    ·exact absurd rfl h1
    ·exact ⟨rfl, rfl⟩
    ·have e : (m.snaps ++ [(d, k, es)]).getD j default = m.snaps.getD j default := by simp [List.getD, List.getElem?_append, hj]
     constructor
     ·show ints ((m.snaps ++ [(d, k, es)]).getD j default).2.2 = _
      rw [e]; rfl
     ·show ((m.snaps ++ [(d, k, es)]).getD j default).2.2.length = _
      rw [e]; rfl
   rw [e1.1, e1.2]
   exact (h.row b hb').kept hgrow (hnot b hb' h1)
 ·rcases hcase b hb with rfl | rfl | ⟨hb', h1, h2⟩
  ·rw [hvs] at hq
   rcases hcase c hc with rfl | rfl | ⟨hc', g1, g2⟩
   ·exact absurd rfl hne
   ·rw [hvt]; exact hsvev q hq
   ·rw [hval c g1 g2]; exact hsvfar c hc' g1 q hq
  ·rw [hvt] at hq
   rcases hcase c hc with rfl | rfl | ⟨hc', g1, g2⟩
   ·rw [hvs]; exact fun x => hsvev q x hq
   ·exact absurd rfl hne
   ·rw [hval c g1 g2]; exact hfar c hc' g2 q hq
  ·rw [hval b h1 h2] at hq
   rcases hcase c hc with rfl | rfl | ⟨hc', g1, g2⟩
   ·rw [hvs]; exact fun x => hsvfar b hb' h1 q x hq
   ·rw [hvt]; exact fun x => hfar b hb' h2 q x hq
   ·rw [hval c g1 g2]; exact h.apart b c hb' hc' hne q hq
theorem OX.far {W : World} {B : Nat} {val : Nm → Value} {m : ImgD} (h : OX W B val m) {g i : Nat} {u : Value} (hg : ∀ a, LiveX m a → (val a).ownBlock ≠ some g) : OX (W.setCell ⟨g, i, none⟩ u) B val m :=
 ⟨fun a ha => ownsRow_setCell_other (h.row a ha) (hg a ha) u, h.apart, h.loose⟩
theorem OX.lt {W : World} {B : Nat} {val : Nm → Value} {m : ImgD} (h : OX W B val m) {g : Nat} (hg : W.heap.size ≤ g) : ∀ a, LiveX m a → (val a).ownBlock ≠ some g := fun a ha e => by
 have := ((h.row a ha).lt g e).2
 omega
theorem addX_far {m : ImgD} {val : Nm → Value} {ev sv : Value} {s : SlotD} {g : Nat} (h1 : ∀ a, LiveX m a → (val a).ownBlock ≠ some g) (h2 : s.2.2 ≠ [] → ev.ownBlock ≠ some g) (h3 : sv.ownBlock ≠ some g) :
  ∀ a, LiveX { m with slots := m.slots ++ [s] } a → (upd (upd val (.tab m.slots.length) ev) .slots sv a).ownBlock ≠ some g := fun a ha => by
 by_cases e1 : a = .slots
 ·subst e1; rw [upd_same]; exact h3
 rw [upd_other _ _ e1]
 by_cases e2 : a = .tab m.slots.length
 ·subst e2
  rw [upd_same]
  refine h2 ?_
  rcases ha.cases with x | x | x | x | ⟨j, x, hj⟩ | ⟨j, x, hj⟩ <;> try (cases x)
  have hj : ((m.slots ++ [s]).getD m.slots.length default).2.2 ≠ [] := hj.2
  simpa [List.getD] using hj
 rw [upd_other _ _ e2]
 apply h1
 rcases ha.cases with rfl | rfl | rfl | rfl | ⟨j, rfl, hj⟩ | ⟨j, rfl, hj⟩
 ·exact LiveX.root m
 ·exact LiveX.slots m
 ·exact LiveX.refs m
 ·exact LiveX.snaps m
 ·obtain ⟨hj, hjn⟩ := hj
  have hj : j < (m.slots ++ [s]).length := hj
  rw [List.length_append, List.length_singleton] at hj
  rcases Nat.lt_or_ge j m.slots.length with h | h
  ·refine LiveX.tab ⟨h, ?_⟩
   have hjn : ((m.slots ++ [s]).getD j default).2.2 ≠ [] := hjn
   have e : (m.slots ++ [s]).getD j default = m.slots.getD j default := by simp [List.getD, List.getElem?_append, h]
   rwa [e] at hjn
  ·exact absurd (by rw [show j = m.slots.length by omega]) e2
 ·exact LiveX.sr hj
theorem setX_far {m : ImgD} {val : Nm → Value} {ev : Value} {s : SlotD} {g i : Nat} (h1 : ∀ a, LiveX m a → (val a).ownBlock ≠ some g) (h2 : ev.ownBlock ≠ some g) :
  ∀ a, LiveX { m with slots := m.slots.set i s } a → (upd val (.tab i) ev a).ownBlock ≠ some g := fun a ha => by
 by_cases e2 : a = .tab i
 ·subst e2; rw [upd_same]; exact h2
 rw [upd_other _ _ e2]
 apply h1
 rcases ha.cases with rfl | rfl | rfl | rfl | ⟨j, rfl, hj⟩ | ⟨j, rfl, hj⟩
 ·exact LiveX.root m
 ·exact LiveX.slots m
 ·exact LiveX.refs m
 ·exact LiveX.snaps m
 ·refine LiveX.tab ⟨?_, ?_⟩
  ·have := hj.1
   rwa [show (m.slots.set i s).length = m.slots.length from List.length_set] at this
  ·have := hj.2
   have e : tbl { m with slots := m.slots.set i s } j = tbl m j := by
    show ((m.slots.set i s).getD j default).2.2 = _
    rw [getD_setR, if_neg (fun x => e2 (by rw [x.1]))]
   rwa [e] at this
 ·exact LiveX.sr hj
theorem ownX_old {W : World} {B : Nat} {val : Nm → Value} {m : ImgD} (h : OX W B val m) {a : Nm} (ha : LiveX m a) {v : Value} (hv : val a = v) {g : Nat} (hg : W.heap.size ≤ g) : some g ≠ v.ownBlock := by
 subst hv; exact fun e => h.lt hg a ha e.symm
def SrcX (w : World) (m : ImgD) (val : Nm → Value) (ev : Value) (m' : ImgD) (val' : Nm → Value) : Prop := ∀ g, g < w.heap.size → ev.ownBlock ≠ some g → (∀ b, LiveX m b → (val b).ownBlock ≠ some g) → ∀ a, LiveX m' a → (val' a).ownBlock ≠ some g
def KeepX (w w' : World) (m : ImgD) (val : Nm → Value) : Prop := ∀ q, q < w.heap.size → (∀ a, LiveX m a → (val a).ownBlock ≠ some q) → w'.heap[q]? = w.heap[q]?
theorem KeepX.refl (w : World) (m : ImgD) (val : Nm → Value) : KeepX w w m val := fun _ _ _ => rfl
theorem KeepX.alloc {w W : World} {m : ImgD} {val : Nm → Value} (h : KeepX w W m val) (hs : w.heap.size ≤ W.heap.size) (o : Obj) : KeepX w (W.alloc o) m val := fun q hq hn => (Below.heap_alloc W o q (by omega)).trans (h q hq hn)
theorem KeepX.own {w W : World} {m : ImgD} {val : Nm → Value} (h : KeepX w W m val) {a : Nm} (ha : LiveX m a) {g n c : Nat} (hg : val a = .slice (some ⟨g, 0, none⟩) n c) {i : Nat} {v : Value} : KeepX w (W.setCell ⟨g, i, none⟩ v) m val := fun q hq hn =>
 (Below.heap_setCell W ⟨g, i, none⟩ v q (fun e => hn a ha (by rw [hg]; exact congrArg some e.symm))).trans (h q hq hn)
theorem KeepX.new {w W : World} {m : ImgD} {val : Nm → Value} (h : KeepX w W m val) {g i : Nat} (hg : w.heap.size ≤ g) {v : Value} : KeepX w (W.setCell ⟨g, i, none⟩ v) m val := fun q hq hn =>
 (Below.heap_setCell W ⟨g, i, none⟩ v q (fun e => by have e : q = g := e; omega)).trans (h q hq hn)
theorem KeepX.grown {w W W' : World} {m : ImgD} {val : Nm → Value} (h : KeepX w W m val) (hs : w.heap.size ≤ W.heap.size) {a : Nm} (ha : LiveX m a) {v : Value} (hv : val a = v) (hg : W.grownBy W' v.ownBlock) : KeepX w W' m val := fun q hq hn =>
 (hg.block q (by omega) (fun e => hn a ha (by rw [hv]; exact e.symm))).trans (h q hq hn)
theorem KeepX.below {w W W' : World} {m : ImgD} {val : Nm → Value} (h : KeepX w W m val) {n : Nat} (hs : w.heap.size ≤ n) (hg : Below n W W') : KeepX w W' m val := fun q hq hn => (hg.block q (by omega)).trans (h q hq hn)
theorem OX.forms {W : World} {B : Nat} {val : Nm → Value} {m : ImgD} (h : OX W B val m) (a : Nm) (ha : LiveX m a) : ∃ ao cap, val a = .slice ao (rowN m a) cap ∧ (0 < rowN m a → ∃ g, ao = some ⟨g, 0, none⟩) := by
 rcases row_form (h.row a ha) with ⟨e, hn⟩ | ⟨g, cap, e, _⟩
 ·exact ⟨none, 0, by rw [e, hn], fun hp => absurd hp (by omega)⟩
 ·exact ⟨_, cap, e, fun _ => ⟨g, rfl⟩⟩
end Go.Proofs.YtehleeibgkpjmaeGreat
