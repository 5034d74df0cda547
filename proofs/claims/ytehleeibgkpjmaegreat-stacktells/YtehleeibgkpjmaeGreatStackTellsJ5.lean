/- Texts joined: RdA, SkI, Pair, RdP, RdB, SkR, OwnI, OwnJ, CopyI. -/
import Derived.Test.YtehleeibgkpjmaeGreatStackTellsJ4
import Derived.Test.YtehleeibgkpjmaeGreatStackTellsJ1
import Derived.Deep.AppendLies
import Derived.OneCell
import Derived.Laws.OwnMore
import Derived.Test.YtehleeibgkpjmaeGreatStackTellsJ3
import Derived.Maps.AppendAt
namespace Go.Proofs.YtehleeibgkpjmaeGreat
open Go.RowKit Go.Shelf
set_option maxRecDepth 20000
def SAt (W : World) (g : Nat) (l : List ByteArray) : Prop := W.heap[g]? = some (.cells (l.map Value.string).toArray 9)
theorem SAt.cell {W : World} {g : Nat} {l : List ByteArray} (h : SAt W g l) {j : Nat} (hj : j < l.length) : W.cell? ⟨g, j, none⟩ = some (.string (l.getD j ByteArray.empty)) := by
 have h' : W.heap[g]? = some (.cells (l.map Value.string).toArray 9) := h
 simp [World.cell?, h', List.getD, hj]
theorem SAt.frozen {W : World} {g : Nat} {l : List ByteArray} (h : SAt W g l) (j : Nat) : W.frozen? ⟨g, j, none⟩ = false := by
 have h' : W.heap[g]? = some (.cells (l.map Value.string).toArray 9) := h
 simp [World.frozen?, h']
theorem SAt.lt {W : World} {g : Nat} {l : List ByteArray} (h : SAt W g l) : g < W.heap.size := (szH h)
theorem SAt.set {W : World} {g : Nat} {l : List ByteArray} (h : SAt W g l) (j : Nat) (x : ByteArray) : SAt (W.setCell ⟨g, j, none⟩ (.string x)) g (l.set j x) := by
 obtain ⟨hlt, hk⟩ := Array.getElem?_eq_some_iff.1 h
 show (W.heap.modify g _)[g]? = _
 rw [Array.getElem?_eq_getElem (by rw [Array.size_modify]; exact hlt), Array.getElem_modify_self, hk]
 simp [List.map_set]
theorem SAt.ss {W : World} {g n : Nat} {l : List ByteArray} (h : SAt W g l) (hn : l.length = n) (hm : n ≤ maxLen) : Ss W (.slice (some ⟨g, 0, none⟩) n n) l := by
 subst hn
 exact ⟨_, _, rfl, hm, Nat.le_refl _, fun _ => ⟨g, 0, rfl, h.lt, fun j hj => by rw [Nat.zero_add]; exact h.cell hj⟩⟩
theorem mk_strs (n : Nat) (hn : n ≤ 40) (W : World) : (Instr.makeSlice 22 (.int .i64 (n : Int)) (.int .i64 (n : Int))).run Tryz.prog W = .ok (.slice (some ⟨W.heap.size, 0, none⟩) n n) (W.alloc (.cells ((List.replicate n ByteArray.empty).map Value.string).toArray 9)) := by
 have hi := Tryz.info9
 cases h : Tryz.prog.info? 9 with
 | none => rw [h] at hi; cases hi
 | some i =>
  rw [h] at hi
  simp at hi
  have := run_make (P := Tryz.prog) W 22 9 i (.string ByteArray.empty) Tryz.underlying22 h hi.1 .i64 .i64 n n (by omega) (by omega) (by rw [hi.2.2]; omega) (by omega)
  rw [this, hi.2.1]
  have e : madeCells (Value.string ByteArray.empty).cells (((n : Int)).toNat * 1) = ((List.replicate n ByteArray.empty).map Value.string).toArray := by
   apply Array.ext
   ·simp [madeCells]
   ·intro j h1 h2
    simp [madeCells, Value.cells, Nat.mod_one]
  rw [e]
  simp
theorem page_zero (la : Option Addr) (ln lc : Nat) (e : Int) (w : World) (he : e = 0 ∨ e = -1) :
  Calls Tryz.prog 31 #[.slice la ln lc, .int .i64 e] w fun r w' => r = .returned (.string Z4) ∧ Below w.heap.size w w' := by
 rcases he with rfl | rfl
 all_goals
  go_enter Tryz.func31, Tryz.ntmps31
  go_wp2_with (go_at_call 53; refine (zero_any _).mono ?_; rintro e w1 ⟨rfl, b1⟩)
  go_ret
  exact ⟨rfl, b1⟩
theorem page_slot (lb lo : Nat) (ln lc : Nat) (j : Nat) (d : ByteArray) (w : World) (h1 : 1 ≤ j) (hj : j < ln) (hc : w.cell? ⟨lb, lo + j * 3 + 1, none⟩ = some (.string d)) :
  Calls Tryz.prog 31 #[.slice (some ⟨lb, lo, none⟩) ln lc, .int .i64 j] w fun r w' => r = .returned (.string d) ∧ Below w.heap.size w w' := by
 have h0 : ((j : Int) == 0) = false := by simp; omega
 have hm : ((j : Int) == -1) = false := by simp <;> omega
 have hji : (j : Int) < (ln : Int) := by omega
 go_enter Tryz.func31, Tryz.ntmps31
 go_wp2_with fail
 go_ret
 exact ⟨rfl, Below.refl _ _⟩
theorem page_is {lv : Value} {L : List SlotD} {w : World} (h : Slots w lv L) {e : Int} (he : e = 0 ∨ e = -1 ∨ ∃ j : Nat, e = j ∧ 1 ≤ j ∧ j < L.length) {p : ByteArray} (hp : pageV L e = p) :
  Calls Tryz.prog 31 #[lv, .int .i64 e] w fun r w' => r = .returned (.string p) ∧ Below w.heap.size w w' := by
 unfold pageV at hp
 have h' := h
 obtain ⟨la, lc, rfl⟩ := h.form
 rcases he with he | he | ⟨j, rfl, h1, hj⟩
 ·rw [if_pos (by omega)] at hp; subst hp
  exact page_zero la _ lc e w (.inl he)
 ·rw [if_pos (by omega)] at hp; subst hp
  exact page_zero la _ lc e w (.inr he)
 ·rw [if_neg (by omega)] at hp
  obtain ⟨sb, so, rfl, hsb, tv, _, c2, _⟩ := h'.at j hj
  have e : L.getD (j : Int).toNat default = L[j] := by simp [List.getD, hj]
  rw [e] at hp
  rw [hp] at c2
  exact page_slot sb so _ lc j p w h1 hj c2
theorem SAt.below {W W' : World} {g n : Nat} {l : List ByteArray} (h : SAt W g l) (hb : Below n W W') (hg : g < n) : SAt W' g l := (hb.block _ hg).trans h
theorem lookE_parts {m : ImgD} {n : Int} (h : lookE m n = 0) : checkE m = 0 ∧ 0 ≤ n ∧ n < m.guest := by
 unfold lookE at h
 split at h
 ·rename_i h0; exact absurd h h0
 rename_i h0
 split at h
 ·rename_i hn; exact ⟨Classical.not_not.1 h0, hn⟩
 ·simp at h
theorem look_ent {m : ImgD} {n : Int} (h : lookE m n = 0) : lookV m m.root n.toNat = 0 ∨ lookV m m.root n.toNat = -1 ∨ ∃ j : Nat, lookV m m.root n.toNat = j ∧ 1 ≤ j ∧ j < m.slots.length := by
 obtain ⟨h0, h1, h2⟩ := lookE_parts h
 have hs := checkE_shape h0
 have hg := guest_ok hs
 have hr := root_ok hs
 exact (lookV_ent hs hr.2 n.toNat (by omega)).imp id (Or.imp id (fun ⟨j, a, b, c, _⟩ => ⟨j, a, b, c⟩))
theorem read_bad (gm : Int) (ra : Option Addr) (rn rc : Nat) (sa : Option Addr) (sn sc : Nat) (fa : Option Addr) (fn fc : Nat) (na : Option Addr) (nn nc : Nat) (m : ImgD) (n E : Int) (w : World) (h : Img w (.agg #[.int .i64 gm, .slice ra rn rc, .slice sa sn sc, .slice fa fn fc, .slice na nn nc]) m) (hE : lookE m n = E) (hne : (E != 0) = true) :
  Calls Tryz.prog 15 #[.agg #[.int .i64 gm, .slice ra rn rc, .slice sa sn sc, .slice fa fn fc, .slice na nn nc], .int .i64 n] w fun r w' => r = .returned (.tuple #[.string ⟨#[]⟩, .int .i64 E]) ∧ Below w.heap.size w w' := by
 have b0 : Below w.heap.size w (w.alloc (.cells #[.int .i64 gm, .slice ra rn rc, .slice sa sn sc, .slice fa fn fc, .slice na nn nc] 27)) := (Below.refl _ _).alloc (Nat.le_refl _) _
 have m0 : (w.alloc (.cells #[.int .i64 gm, .slice ra rn rc, .slice sa sn sc, .slice fa fn fc, .slice na nn nc] 27)).heap[w.heap.size]? = some (.cells #[.int .i64 gm, .slice ra rn rc, .slice sa sn sc, .slice fa fn fc, .slice na nn nc] 27) := World.alloc_heap_new _ _
 have z0 : w.heap.size < (w.alloc (.cells #[.int .i64 gm, .slice ra rn rc, .slice sa sn sc, .slice fa fn fc, .slice na nn nc] 27)).heap.size := by simp
 have h1 := look_is (h.below b0) n hE (c := 0) (by rw [if_neg (by intro e; rw [e] at hne; cases hne)])
 clear h hE
 go_enter Tryz.func15, Tryz.ntmps15
 go_wp2_with fail
 refine h1.mono ?_
 rintro e w1 ⟨rfl, b1⟩
 go_wp2_with fail
 go_ret2
 exact ⟨rfl, Below.on b0 b1⟩
theorem read_at (gm : Int) (ra : Option Addr) (rn rc : Nat) (sa : Option Addr) (sn sc : Nat) (fa : Option Addr) (fn fc : Nat) (na : Option Addr) (nn nc : Nat) (m : ImgD) (n : Int) (w : World) (h : Img w (.agg #[.int .i64 gm, .slice ra rn rc, .slice sa sn sc, .slice fa fn fc, .slice na nn nc]) m) (hS : Slots w (.slice sa sn sc) m.slots) (hE : lookE m n = 0) (p : ByteArray) (hp : pageV m.slots (lookV m m.root n.toNat) = p) :
  Calls Tryz.prog 15 #[.agg #[.int .i64 gm, .slice ra rn rc, .slice sa sn sc, .slice fa fn fc, .slice na nn nc], .int .i64 n] w fun r w' => r = .returned (.tuple #[.string p, .int .i64 0]) ∧ Below w.heap.size w w' := by
 have b0 : Below w.heap.size w (w.alloc (.cells #[.int .i64 gm, .slice ra rn rc, .slice sa sn sc, .slice fa fn fc, .slice na nn nc] 27)) := (Below.refl _ _).alloc (Nat.le_refl _) _
 have m0 : (w.alloc (.cells #[.int .i64 gm, .slice ra rn rc, .slice sa sn sc, .slice fa fn fc, .slice na nn nc] 27)).heap[w.heap.size]? = some (.cells #[.int .i64 gm, .slice ra rn rc, .slice sa sn sc, .slice fa fn fc, .slice na nn nc] 27) := World.alloc_heap_new _ _
 have z0 : w.heap.size < (w.alloc (.cells #[.int .i64 gm, .slice ra rn rc, .slice sa sn sc, .slice fa fn fc, .slice na nn nc] 27)).heap.size := by simp
 obtain ⟨c, hc⟩ : ∃ c, lookV m m.root n.toNat = c := ⟨_, rfl⟩
 have h1 := look_is (h.below b0) n hE (c := c) (by rw [if_pos rfl]; exact hc)
 have hent := look_ent hE
 rw [hc] at hent hp
 have h2 := fun W (hW : Below w.heap.size w W) => page_is (hS.below hW) hent hp
 clear h hE hent hp hc hS
 go_enter Tryz.func15, Tryz.ntmps15
 go_wp2_with fail
 refine h1.mono ?_
 rintro e w1 ⟨rfl, b1⟩
 have m1 := cells_below m0 b1 z0
 have hB1 := Below.on b0 b1
 obtain ⟨a0, a1, a2, a3, a4⟩ := five m1
 clear h1
 go_wp2_with fail
 refine (h2 _ hB1).mono ?_
 rintro e w2 ⟨rfl, b2⟩
 go_wp2_with fail
 go_ret2
 exact ⟨rfl, Below.on hB1 b2⟩
theorem read_is {w : World} {v : Value} {m : ImgD} (h : Img w v m) (n : Int) {E : Int} {p : ByteArray} (hE : lookE m n = E) (hp : readV m n = p) :
  Calls Tryz.prog 15 #[v, .int .i64 n] w fun r w' => r = .returned (.tuple #[.string p, .int .i64 E]) ∧ Below w.heap.size w w' := by
 have h' := h
 obtain ⟨ra, rc, sa, sc, fa, fc, na, nc, rfl, h1, h2, h3, h4⟩ := h.parts
 unfold readV at hp
 by_cases h0 : lookE m n = 0
 ·rw [if_pos h0] at hp
  rw [h0] at hE
  subst hE
  exact read_at m.guest ra _ rc sa _ sc fa _ fc na _ nc m n w h' h2 h0 p hp
 ·rw [if_neg h0] at hp
  subst hp
  exact read_bad m.guest ra _ rc sa _ sc fa _ fc na _ nc m n E w h' hE (by rw [← hE]; simpa using h0)
set_option linter.unusedVariables false
theorem six {W : World} {b : Nat} {x0 x1 x2 x3 x4 x5 : Value} {t : TypeId} (h : W.heap[b]? = some (.cells #[x0, x1, x2, x3, x4, x5] t)) : W.cell? ⟨b, 0, none⟩ = some x0 ∧ W.cell? ⟨b, 1, none⟩ = some x1 ∧ W.cell? ⟨b, 2, none⟩ = some x2 ∧ W.cell? ⟨b, 3, none⟩ = some x3 ∧ W.cell? ⟨b, 4, none⟩ = some x4 ∧ W.cell? ⟨b, 5, none⟩ = some x5 := by
 refine ⟨?_, ?_, ?_, ?_, ?_, ?_⟩ <;> simp [World.cell?, h]
def Stk (w : World) (v : Value) (b : List ByteArray) (m : ImgD) : Prop := ∃ bv r s f n, v = .agg #[bv, .int .i64 m.guest, r, s, f, n] ∧ Ss w bv b ∧ Img w (.agg #[.int .i64 m.guest, r, s, f, n]) m
theorem Stk.below {w w1 : World} {v : Value} {b : List ByteArray} {m : ImgD} (h : Stk w v b m) (hb : Below w.heap.size w w1) : Stk w1 v b m := by
 obtain ⟨bv, r, s, f, n, e, h1, h2⟩ := h
 exact ⟨bv, r, s, f, n, e, h1.below hb, h2.below hb⟩
theorem Stk.parts {w : World} {v : Value} {b : List ByteArray} {m : ImgD} (h : Stk w v b m) : ∃ ba bc ra rc sa sc fa fc na nc, v = .agg #[.slice ba b.length bc, .int .i64 m.guest, .slice ra m.root.length rc, .slice sa m.slots.length sc, .slice fa m.refs.length fc, .slice na m.snaps.length nc] ∧ Ss w (.slice ba b.length bc) b ∧ Img w (.agg #[.int .i64 m.guest, .slice ra m.root.length rc, .slice sa m.slots.length sc, .slice fa m.refs.length fc, .slice na m.snaps.length nc]) m := by
 obtain ⟨bv, r, s, f, n, rfl, h1, h2⟩ := h
 obtain ⟨ba, bc, rfl⟩ := h1.form
 have h2' := h2
 obtain ⟨ra, rc, sa, sc, fa, fc, na, nc, e, _⟩ := h2.parts
 simp only [Value.agg.injEq, Array.mk.injEq, List.cons.injEq, and_true, true_and] at e
 obtain ⟨rfl, rfl, rfl, rfl⟩ := e
 exact ⟨ba, bc, ra, rc, sa, sc, fa, fc, na, nc, rfl, h1, h2'⟩
theorem lookE_parts3 {m : ImgD} {n : Int} (h : lookE m n = 0) : checkE m = 0 ∧ 0 ≤ n ∧ n < m.guest := by
 unfold lookE at h
 by_cases h0 : checkE m = 0
 ·rw [if_neg (by simpa using h0)] at h
  by_cases h1 : 0 ≤ n ∧ n < m.guest
  ·exact ⟨h0, h1⟩
  ·rw [if_neg h1] at h; exact absurd h (by decide)
 ·rw [if_pos h0] at h; exact absurd h h0
def scE (b : List ByteArray) (m : ImgD) : Int := if ckP b ≠ 0 then ckP b else checkE m
def srE (b : List ByteArray) (m : ImgD) (n : Int) : Int := if scE b m ≠ 0 then scE b m else lookE m n
def srV (b : List ByteArray) (m : ImgD) (n : Int) : ByteArray := if srE b m n ≠ 0 then ByteArray.empty else if lookV m m.root n.toNat = 0 ∧ n < (b.length : Int) then freadA b n else readV m n
set_option maxHeartbeats 4000000 in
theorem sk_check_bad (ba : Option Addr) (bc : Nat) (ra : Option Addr) (rc : Nat) (sa : Option Addr) (sc : Nat) (fa : Option Addr) (fc : Nat) (na : Option Addr) (nc : Nat) (b : List ByteArray) (m : ImgD) (w : World) (hS : Ss w (.slice ba b.length bc) b) (hI : Img w (.agg #[.int .i64 m.guest, .slice ra m.root.length rc, .slice sa m.slots.length sc, .slice fa m.refs.length fc, .slice na m.snaps.length nc]) m) (E : Int) (hE : ckP b = E) (hne : (E != 0) = true) :
  Calls Tryz.prog 10 #[.agg #[.slice ba b.length bc, .int .i64 m.guest, .slice ra m.root.length rc, .slice sa m.slots.length sc, .slice fa m.refs.length fc, .slice na m.snaps.length nc]] w fun r w' => r = .returned (.int .i64 E) ∧ Below w.heap.size w w' := by
 have b0 : Below w.heap.size w (w.alloc (.cells #[.slice ba b.length bc, .int .i64 m.guest, .slice ra m.root.length rc, .slice sa m.slots.length sc, .slice fa m.refs.length fc, .slice na m.snaps.length nc] 29)) := (Below.refl _ _).alloc (Nat.le_refl _) _
 have q0 : (w.alloc (.cells #[.slice ba b.length bc, .int .i64 m.guest, .slice ra m.root.length rc, .slice sa m.slots.length sc, .slice fa m.refs.length fc, .slice na m.snaps.length nc] 29)).heap[w.heap.size]? = some (.cells #[.slice ba b.length bc, .int .i64 m.guest, .slice ra m.root.length rc, .slice sa m.slots.length sc, .slice fa m.refs.length fc, .slice na m.snaps.length nc] 29) := World.alloc_heap_new _ _
 obtain ⟨c0, c1, c2, c3, c4, c5⟩ := six q0
 have hS1 := hS.below b0
 have hI1 := hI.below b0
 clear hS hI hI1
 go_enter Tryz.func10, Tryz.ntmps10
 go_wp2_with (go_at_call 24; refine (pcheck_is hS1 hE).mono ?_; rintro e w' ⟨rfl, hw⟩; subst hw)
 go_ret
 exact ⟨rfl, b0⟩
set_option maxHeartbeats 4000000 in
theorem sk_check_ok (ba : Option Addr) (bc : Nat) (ra : Option Addr) (rc : Nat) (sa : Option Addr) (sc : Nat) (fa : Option Addr) (fc : Nat) (na : Option Addr) (nc : Nat) (b : List ByteArray) (m : ImgD) (w : World) (hS : Ss w (.slice ba b.length bc) b) (hI : Img w (.agg #[.int .i64 m.guest, .slice ra m.root.length rc, .slice sa m.slots.length sc, .slice fa m.refs.length fc, .slice na m.snaps.length nc]) m) (E : Int) (hE : ckP b = 0) (hC : checkE m = E) :
  Calls Tryz.prog 10 #[.agg #[.slice ba b.length bc, .int .i64 m.guest, .slice ra m.root.length rc, .slice sa m.slots.length sc, .slice fa m.refs.length fc, .slice na m.snaps.length nc]] w fun r w' => r = .returned (.int .i64 E) ∧ Below w.heap.size w w' := by
 have b0 : Below w.heap.size w (w.alloc (.cells #[.slice ba b.length bc, .int .i64 m.guest, .slice ra m.root.length rc, .slice sa m.slots.length sc, .slice fa m.refs.length fc, .slice na m.snaps.length nc] 29)) := (Below.refl _ _).alloc (Nat.le_refl _) _
 have q0 : (w.alloc (.cells #[.slice ba b.length bc, .int .i64 m.guest, .slice ra m.root.length rc, .slice sa m.slots.length sc, .slice fa m.refs.length fc, .slice na m.snaps.length nc] 29)).heap[w.heap.size]? = some (.cells #[.slice ba b.length bc, .int .i64 m.guest, .slice ra m.root.length rc, .slice sa m.slots.length sc, .slice fa m.refs.length fc, .slice na m.snaps.length nc] 29) := World.alloc_heap_new _ _
 obtain ⟨c0, c1, c2, c3, c4, c5⟩ := six q0
 have hS1 := hS.below b0
 have hI1 := hI.below b0
 have hcall := tcheck_is hI1 hC
 clear hS hI hI1 hC
 go_enter Tryz.func10, Tryz.ntmps10
 go_wp2_with (first | (go_at_call 25; refine hcall.mono ?_; rintro e w2 ⟨rfl, b2⟩) | (go_at_call 24; refine (pcheck_is hS1 hE).mono ?_; rintro e w' ⟨rfl, hw⟩; subst hw))
 go_ret
 exact ⟨rfl, Below.on b0 b2⟩
theorem sk_check {w : World} {v : Value} {b : List ByteArray} {m : ImgD} (h : Stk w v b m) {E : Int} (hE : scE b m = E) : Calls Tryz.prog 10 #[v] w fun r w' => r = .returned (.int .i64 E) ∧ Below w.heap.size w w' := by
 subst hE
 obtain ⟨ba, bc, ra, rc, sa, sc, fa, fc, na, nc, rfl, hS, hI⟩ := h.parts
 by_cases h0 : ckP b = 0
 ·unfold scE
  rw [if_neg (by simpa using h0)]
  exact sk_check_ok ba bc ra rc sa sc fa fc na nc b m w hS hI _ h0 rfl
 ·unfold scE
  rw [if_pos h0]
  exact sk_check_bad ba bc ra rc sa sc fa fc na nc b m w hS hI _ rfl (by simpa using h0)
set_option maxHeartbeats 4000000 in
theorem sk_read_bad (ba : Option Addr) (bc : Nat) (ra : Option Addr) (rc : Nat) (sa : Option Addr) (sc : Nat) (fa : Option Addr) (fc : Nat) (na : Option Addr) (nc : Nat) (b : List ByteArray) (m : ImgD) (n : Int) (w : World) (hS : Ss w (.slice ba b.length bc) b) (hI : Img w (.agg #[.int .i64 m.guest, .slice ra m.root.length rc, .slice sa m.slots.length sc, .slice fa m.refs.length fc, .slice na m.snaps.length nc]) m) (E : Int) (hE : scE b m = E) (hne : (E != 0) = true) :
  Calls Tryz.prog 4 #[.agg #[.slice ba b.length bc, .int .i64 m.guest, .slice ra m.root.length rc, .slice sa m.slots.length sc, .slice fa m.refs.length fc, .slice na m.snaps.length nc], .int .i64 n] w fun r w' => r = .returned (.tuple #[.string ⟨#[]⟩, .int .i64 E]) ∧ Below w.heap.size w w' := by
 have b0 : Below w.heap.size w (w.alloc (.cells #[.slice ba b.length bc, .int .i64 m.guest, .slice ra m.root.length rc, .slice sa m.slots.length sc, .slice fa m.refs.length fc, .slice na m.snaps.length nc] 29)) := (Below.refl _ _).alloc (Nat.le_refl _) _
 have q0 : (w.alloc (.cells #[.slice ba b.length bc, .int .i64 m.guest, .slice ra m.root.length rc, .slice sa m.slots.length sc, .slice fa m.refs.length fc, .slice na m.snaps.length nc] 29)).heap[w.heap.size]? = some (.cells #[.slice ba b.length bc, .int .i64 m.guest, .slice ra m.root.length rc, .slice sa m.slots.length sc, .slice fa m.refs.length fc, .slice na m.snaps.length nc] 29) := World.alloc_heap_new _ _
 obtain ⟨c0, c1, c2, c3, c4, c5⟩ := six q0
 have hS1 := hS.below b0
 have hI1 := hI.below b0
 have hck := sk_check (w := (w.alloc (.cells #[.slice ba b.length bc, .int .i64 m.guest, .slice ra m.root.length rc, .slice sa m.slots.length sc, .slice fa m.refs.length fc, .slice na m.snaps.length nc] 29))) (v := .agg #[.slice ba b.length bc, .int .i64 m.guest, .slice ra m.root.length rc, .slice sa m.slots.length sc, .slice fa m.refs.length fc, .slice na m.snaps.length nc]) ⟨_, _, _, _, _, rfl, hS1, hI1⟩ hE
 clear hS hI hI1 hS1 hE
 go_enter Tryz.func4, Tryz.ntmps4
 go_wp2_with (go_at_call 10; refine hck.mono ?_; rintro e w1 ⟨rfl, b1⟩; obtain ⟨d0, d1, d2, d3, d4, d5⟩ := six (cells_below q0 b1 (szH q0)))
 go_ret2
 exact ⟨rfl, Below.on b0 b1⟩
set_option maxHeartbeats 4000000 in
theorem sk_read_out (ba : Option Addr) (bc : Nat) (ra : Option Addr) (rc : Nat) (sa : Option Addr) (sc : Nat) (fa : Option Addr) (fc : Nat) (na : Option Addr) (nc : Nat) (b : List ByteArray) (m : ImgD) (n : Int) (w : World) (hS : Ss w (.slice ba b.length bc) b) (hI : Img w (.agg #[.int .i64 m.guest, .slice ra m.root.length rc, .slice sa m.slots.length sc, .slice fa m.refs.length fc, .slice na m.snaps.length nc]) m) (E : Int) (hC : scE b m = 0) (hE : lookE m n = E) (hne : (E != 0) = true) :
  Calls Tryz.prog 4 #[.agg #[.slice ba b.length bc, .int .i64 m.guest, .slice ra m.root.length rc, .slice sa m.slots.length sc, .slice fa m.refs.length fc, .slice na m.snaps.length nc], .int .i64 n] w fun r w' => r = .returned (.tuple #[.string ⟨#[]⟩, .int .i64 E]) ∧ Below w.heap.size w w' := by
 have b0 : Below w.heap.size w (w.alloc (.cells #[.slice ba b.length bc, .int .i64 m.guest, .slice ra m.root.length rc, .slice sa m.slots.length sc, .slice fa m.refs.length fc, .slice na m.snaps.length nc] 29)) := (Below.refl _ _).alloc (Nat.le_refl _) _
 have q0 : (w.alloc (.cells #[.slice ba b.length bc, .int .i64 m.guest, .slice ra m.root.length rc, .slice sa m.slots.length sc, .slice fa m.refs.length fc, .slice na m.snaps.length nc] 29)).heap[w.heap.size]? = some (.cells #[.slice ba b.length bc, .int .i64 m.guest, .slice ra m.root.length rc, .slice sa m.slots.length sc, .slice fa m.refs.length fc, .slice na m.snaps.length nc] 29) := World.alloc_heap_new _ _
 obtain ⟨c0, c1, c2, c3, c4, c5⟩ := six q0
 have hS1 := hS.below b0
 have hI1 := hI.below b0
 have hck := sk_check (w := (w.alloc (.cells #[.slice ba b.length bc, .int .i64 m.guest, .slice ra m.root.length rc, .slice sa m.slots.length sc, .slice fa m.refs.length fc, .slice na m.snaps.length nc] 29))) (v := .agg #[.slice ba b.length bc, .int .i64 m.guest, .slice ra m.root.length rc, .slice sa m.slots.length sc, .slice fa m.refs.length fc, .slice na m.snaps.length nc]) ⟨_, _, _, _, _, rfl, hS1, hI1⟩ hC
 have hE0 : ¬ E = 0 := by simpa using hne
 have HL : Hid (∀ w1, Below (w.alloc (.cells #[.slice ba b.length bc, .int .i64 m.guest, .slice ra m.root.length rc, .slice sa m.slots.length sc, .slice fa m.refs.length fc, .slice na m.snaps.length nc] 29)).heap.size (w.alloc (.cells #[.slice ba b.length bc, .int .i64 m.guest, .slice ra m.root.length rc, .slice sa m.slots.length sc, .slice fa m.refs.length fc, .slice na m.snaps.length nc] 29)) w1 → Calls Tryz.prog 13 #[.agg #[.int .i64 m.guest, .slice ra m.root.length rc, .slice sa m.slots.length sc, .slice fa m.refs.length fc, .slice na m.snaps.length nc], .int .i64 n] w1 fun r w' => r = .returned (.tuple #[.int .i64 0, .int .i64 E]) ∧ Below w1.heap.size w1 w') := fun w1 b1 => look_is (hI1.below b1) n hE (if_neg hE0)
 clear hS hI hI1 hS1 hE hC hE0
 go_enter Tryz.func4, Tryz.ntmps4
 go_wp2_with (first | (go_at_call 13; refine (HL.out w1 b1).mono ?_; rintro e w2 ⟨rfl, b2⟩; obtain ⟨g0, g1, g2, g3, g4, g5⟩ := six (cells_below (cells_below q0 b1 (szH q0)) b2 (Nat.lt_of_lt_of_le (szH q0) b1.size))) | (go_at_call 10; refine hck.mono ?_; rintro e w1 ⟨rfl, b1⟩; obtain ⟨d0, d1, d2, d3, d4, d5⟩ := six (cells_below q0 b1 (szH q0))))
 go_ret2
 exact ⟨rfl, Below.on (Below.on b0 b1) b2⟩
set_option maxHeartbeats 4000000 in
theorem sk_read_base (ba : Option Addr) (bc : Nat) (ra : Option Addr) (rc : Nat) (sa : Option Addr) (sc : Nat) (fa : Option Addr) (fc : Nat) (na : Option Addr) (nc : Nat) (b : List ByteArray) (m : ImgD) (n : Int) (w : World) (hS : Ss w (.slice ba b.length bc) b) (hI : Img w (.agg #[.int .i64 m.guest, .slice ra m.root.length rc, .slice sa m.slots.length sc, .slice fa m.refs.length fc, .slice na m.snaps.length nc]) m) (p : ByteArray) (hC : scE b m = 0) (hE : lookE m n = 0) (hk : lookV m m.root n.toNat = 0) (hn : n < (b.length : Int)) (hp : freadA b n = p) (hat : atE b n = 0) :
  Calls Tryz.prog 4 #[.agg #[.slice ba b.length bc, .int .i64 m.guest, .slice ra m.root.length rc, .slice sa m.slots.length sc, .slice fa m.refs.length fc, .slice na m.snaps.length nc], .int .i64 n] w fun r w' => r = .returned (.tuple #[.string p, .int .i64 0]) ∧ Below w.heap.size w w' := by
 have b0 : Below w.heap.size w (w.alloc (.cells #[.slice ba b.length bc, .int .i64 m.guest, .slice ra m.root.length rc, .slice sa m.slots.length sc, .slice fa m.refs.length fc, .slice na m.snaps.length nc] 29)) := (Below.refl _ _).alloc (Nat.le_refl _) _
 have q0 : (w.alloc (.cells #[.slice ba b.length bc, .int .i64 m.guest, .slice ra m.root.length rc, .slice sa m.slots.length sc, .slice fa m.refs.length fc, .slice na m.snaps.length nc] 29)).heap[w.heap.size]? = some (.cells #[.slice ba b.length bc, .int .i64 m.guest, .slice ra m.root.length rc, .slice sa m.slots.length sc, .slice fa m.refs.length fc, .slice na m.snaps.length nc] 29) := World.alloc_heap_new _ _
 obtain ⟨c0, c1, c2, c3, c4, c5⟩ := six q0
 have hS1 := hS.below b0
 have hI1 := hI.below b0
 have hck := sk_check (w := (w.alloc (.cells #[.slice ba b.length bc, .int .i64 m.guest, .slice ra m.root.length rc, .slice sa m.slots.length sc, .slice fa m.refs.length fc, .slice na m.snaps.length nc] 29))) (v := .agg #[.slice ba b.length bc, .int .i64 m.guest, .slice ra m.root.length rc, .slice sa m.slots.length sc, .slice fa m.refs.length fc, .slice na m.snaps.length nc]) ⟨_, _, _, _, _, rfl, hS1, hI1⟩ hC
 have HL : Hid (∀ w1, Below (w.alloc (.cells #[.slice ba b.length bc, .int .i64 m.guest, .slice ra m.root.length rc, .slice sa m.slots.length sc, .slice fa m.refs.length fc, .slice na m.snaps.length nc] 29)).heap.size (w.alloc (.cells #[.slice ba b.length bc, .int .i64 m.guest, .slice ra m.root.length rc, .slice sa m.slots.length sc, .slice fa m.refs.length fc, .slice na m.snaps.length nc] 29)) w1 → Calls Tryz.prog 13 #[.agg #[.int .i64 m.guest, .slice ra m.root.length rc, .slice sa m.slots.length sc, .slice fa m.refs.length fc, .slice na m.snaps.length nc], .int .i64 n] w1 fun r w' => r = .returned (.tuple #[.int .i64 0, .int .i64 0]) ∧ Below w1.heap.size w1 w') := fun w1 b1 => look_is (hI1.below b1) n hE (by rw [if_pos rfl]; exact hk)
 have HR : Hid (∀ w1 w2, Below (w.alloc (.cells #[.slice ba b.length bc, .int .i64 m.guest, .slice ra m.root.length rc, .slice sa m.slots.length sc, .slice fa m.refs.length fc, .slice na m.snaps.length nc] 29)).heap.size (w.alloc (.cells #[.slice ba b.length bc, .int .i64 m.guest, .slice ra m.root.length rc, .slice sa m.slots.length sc, .slice fa m.refs.length fc, .slice na m.snaps.length nc] 29)) w1 → Below w1.heap.size w1 w2 → Calls Tryz.prog 14 #[.slice ba b.length bc, .int .i64 n] w2 fun r w' => r = .returned (.tuple #[.string p, .int .i64 0]) ∧ Below w2.heap.size w2 w') := fun w1 w2 b1 b2 => (fread_is ((hS1.below b1).below b2) hp hat).mono (by rintro e w' ⟨rfl, hw⟩; subst hw; exact ⟨rfl, Below.refl _ _⟩)
 clear hS hI hI1 hS1 hE hC hk hp hat
 go_enter Tryz.func4, Tryz.ntmps4
 go_wp2_with (first | (go_at_call 14; refine (HR.out w1 w2 b1 b2).mono ?_; rintro e w3 ⟨rfl, b3⟩) | (go_at_call 13; refine (HL.out w1 b1).mono ?_; rintro e w2 ⟨rfl, b2⟩; obtain ⟨g0, g1, g2, g3, g4, g5⟩ := six (cells_below (cells_below q0 b1 (szH q0)) b2 (Nat.lt_of_lt_of_le (szH q0) b1.size))) | (go_at_call 10; refine hck.mono ?_; rintro e w1 ⟨rfl, b1⟩; obtain ⟨d0, d1, d2, d3, d4, d5⟩ := six (cells_below q0 b1 (szH q0))))
 go_ret2
 exact ⟨rfl, Below.on (Below.on (Below.on b0 b1) b2) b3⟩
set_option maxHeartbeats 4000000 in
theorem sk_read_top (ba : Option Addr) (bc : Nat) (ra : Option Addr) (rc : Nat) (sa : Option Addr) (sc : Nat) (fa : Option Addr) (fc : Nat) (na : Option Addr) (nc : Nat) (b : List ByteArray) (m : ImgD) (n : Int) (w : World) (hS : Ss w (.slice ba b.length bc) b) (hI : Img w (.agg #[.int .i64 m.guest, .slice ra m.root.length rc, .slice sa m.slots.length sc, .slice fa m.refs.length fc, .slice na m.snaps.length nc]) m) (p : ByteArray) (k : Int) (hC : scE b m = 0) (hE : lookE m n = 0) (hk : lookV m m.root n.toNat = k) (hc : ((k == 0) = false) ∨ ((k == 0) = true ∧ decide (n < (b.length : Int)) = false)) (hp : readV m n = p) :
  Calls Tryz.prog 4 #[.agg #[.slice ba b.length bc, .int .i64 m.guest, .slice ra m.root.length rc, .slice sa m.slots.length sc, .slice fa m.refs.length fc, .slice na m.snaps.length nc], .int .i64 n] w fun r w' => r = .returned (.tuple #[.string p, .int .i64 0]) ∧ Below w.heap.size w w' := by
 have b0 : Below w.heap.size w (w.alloc (.cells #[.slice ba b.length bc, .int .i64 m.guest, .slice ra m.root.length rc, .slice sa m.slots.length sc, .slice fa m.refs.length fc, .slice na m.snaps.length nc] 29)) := (Below.refl _ _).alloc (Nat.le_refl _) _
 have q0 : (w.alloc (.cells #[.slice ba b.length bc, .int .i64 m.guest, .slice ra m.root.length rc, .slice sa m.slots.length sc, .slice fa m.refs.length fc, .slice na m.snaps.length nc] 29)).heap[w.heap.size]? = some (.cells #[.slice ba b.length bc, .int .i64 m.guest, .slice ra m.root.length rc, .slice sa m.slots.length sc, .slice fa m.refs.length fc, .slice na m.snaps.length nc] 29) := World.alloc_heap_new _ _
 obtain ⟨c0, c1, c2, c3, c4, c5⟩ := six q0
 have hS1 := hS.below b0
 have hI1 := hI.below b0
 have hck := sk_check (w := (w.alloc (.cells #[.slice ba b.length bc, .int .i64 m.guest, .slice ra m.root.length rc, .slice sa m.slots.length sc, .slice fa m.refs.length fc, .slice na m.snaps.length nc] 29))) (v := .agg #[.slice ba b.length bc, .int .i64 m.guest, .slice ra m.root.length rc, .slice sa m.slots.length sc, .slice fa m.refs.length fc, .slice na m.snaps.length nc]) ⟨_, _, _, _, _, rfl, hS1, hI1⟩ hC
 have HL : Hid (∀ w1, Below (w.alloc (.cells #[.slice ba b.length bc, .int .i64 m.guest, .slice ra m.root.length rc, .slice sa m.slots.length sc, .slice fa m.refs.length fc, .slice na m.snaps.length nc] 29)).heap.size (w.alloc (.cells #[.slice ba b.length bc, .int .i64 m.guest, .slice ra m.root.length rc, .slice sa m.slots.length sc, .slice fa m.refs.length fc, .slice na m.snaps.length nc] 29)) w1 → Calls Tryz.prog 13 #[.agg #[.int .i64 m.guest, .slice ra m.root.length rc, .slice sa m.slots.length sc, .slice fa m.refs.length fc, .slice na m.snaps.length nc], .int .i64 n] w1 fun r w' => r = .returned (.tuple #[.int .i64 k, .int .i64 0]) ∧ Below w1.heap.size w1 w') := fun w1 b1 => look_is (hI1.below b1) n hE (by rw [if_pos rfl]; exact hk)
 have HR : Hid (∀ w1 w2, Below (w.alloc (.cells #[.slice ba b.length bc, .int .i64 m.guest, .slice ra m.root.length rc, .slice sa m.slots.length sc, .slice fa m.refs.length fc, .slice na m.snaps.length nc] 29)).heap.size (w.alloc (.cells #[.slice ba b.length bc, .int .i64 m.guest, .slice ra m.root.length rc, .slice sa m.slots.length sc, .slice fa m.refs.length fc, .slice na m.snaps.length nc] 29)) w1 → Below w1.heap.size w1 w2 → Calls Tryz.prog 15 #[.agg #[.int .i64 m.guest, .slice ra m.root.length rc, .slice sa m.slots.length sc, .slice fa m.refs.length fc, .slice na m.snaps.length nc], .int .i64 n] w2 fun r w' => r = .returned (.tuple #[.string p, .int .i64 0]) ∧ Below w2.heap.size w2 w') := fun w1 w2 b1 b2 => read_is ((hI1.below b1).below b2) n hE hp
 clear hS hI hI1 hS1 hE hC hk hp
 go_enter Tryz.func4, Tryz.ntmps4
 rcases hc with hc | ⟨hc, hd⟩
 ·go_wp2_with (first | (go_at_call 15; refine (HR.out w1 w2 b1 b2).mono ?_; rintro e w3 ⟨rfl, b3⟩) | (go_at_call 13; refine (HL.out w1 b1).mono ?_; rintro e w2 ⟨rfl, b2⟩; obtain ⟨g0, g1, g2, g3, g4, g5⟩ := six (cells_below (cells_below q0 b1 (szH q0)) b2 (Nat.lt_of_lt_of_le (szH q0) b1.size))) | (go_at_call 10; refine hck.mono ?_; rintro e w1 ⟨rfl, b1⟩; obtain ⟨d0, d1, d2, d3, d4, d5⟩ := six (cells_below q0 b1 (szH q0))))
  go_ret2
  exact ⟨rfl, Below.on (Below.on (Below.on b0 b1) b2) b3⟩
 ·go_wp2_with (first | (go_at_call 15; refine (HR.out w1 w2 b1 b2).mono ?_; rintro e w3 ⟨rfl, b3⟩) | (go_at_call 13; refine (HL.out w1 b1).mono ?_; rintro e w2 ⟨rfl, b2⟩; obtain ⟨g0, g1, g2, g3, g4, g5⟩ := six (cells_below (cells_below q0 b1 (szH q0)) b2 (Nat.lt_of_lt_of_le (szH q0) b1.size))) | (go_at_call 10; refine hck.mono ?_; rintro e w1 ⟨rfl, b1⟩; obtain ⟨d0, d1, d2, d3, d4, d5⟩ := six (cells_below q0 b1 (szH q0))))
  go_ret2
  exact ⟨rfl, Below.on (Below.on (Below.on b0 b1) b2) b3⟩
theorem scE_zero {b : List ByteArray} {m : ImgD} (h : scE b m = 0) : ckP b = 0 ∧ checkE m = 0 := by
 unfold scE at h
 by_cases h0 : ckP b = 0
 ·rw [if_neg (by simpa using h0)] at h; exact ⟨h0, h⟩
 ·rw [if_pos h0] at h; exact absurd h h0
theorem sk_read {w : World} {v : Value} {b : List ByteArray} {m : ImgD} (h : Stk w v b m) (n : Int) {p : ByteArray} {E : Int} (hE : srE b m n = E) (hp : srV b m n = p) : Calls Tryz.prog 4 #[v, .int .i64 n] w fun r w' => r = .returned (.tuple #[.string p, .int .i64 E]) ∧ Below w.heap.size w w' := by
 subst hE hp
 obtain ⟨ba, bc, ra, rc, sa, sc, fa, fc, na, nc, rfl, hS, hI⟩ := h.parts
 by_cases hC : scE b m = 0
 ·have e1 : srE b m n = lookE m n := by unfold srE; rw [if_neg (by simpa using hC)]
  by_cases hL : lookE m n = 0
  ·have e2 : srE b m n = 0 := e1.trans hL
   by_cases hk : lookV m m.root n.toNat = 0 ∧ n < (b.length : Int)
   ·have e3 : srV b m n = freadA b n := by unfold srV; rw [if_neg (by simpa using e2), if_pos hk]
    rw [e2, e3]
    have h0 : 0 ≤ n := (lookE_parts3 hL).2.1
    exact sk_read_base ba bc ra rc sa sc fa fc na nc b m n w hS hI _ hC hL hk.1 hk.2 rfl (atE_in (scE_zero hC).1 ⟨h0, hk.2⟩)
   ·have e3 : srV b m n = readV m n := by unfold srV; rw [if_neg (by simpa using e2), if_neg hk]
    rw [e2, e3]
    refine sk_read_top ba bc ra rc sa sc fa fc na nc b m n w hS hI _ _ hC hL rfl ?_ rfl
    by_cases hz : lookV m m.root n.toNat = 0
    ·exact .inr ⟨by simp [hz], by have : ¬ n < (b.length : Int) := fun x => hk ⟨hz, x⟩; simp; omega⟩
    ·exact .inl (by simp [hz])
  ·rw [e1]
   have e3 : srV b m n = ByteArray.empty := by unfold srV; rw [if_pos (by rw [e1]; exact hL)]
   rw [e3]
   exact sk_read_out ba bc ra rc sa sc fa fc na nc b m n w hS hI _ hC rfl (by simpa using hL)
 ·have e1 : srE b m n = scE b m := by unfold srE; rw [if_pos hC]
  have e3 : srV b m n = ByteArray.empty := by unfold srV; rw [if_pos (by rw [e1]; exact hC)]
  rw [e1, e3]
  exact sk_read_bad ba bc ra rc sa sc fa fc na nc b m n w hS hI _ rfl (by simpa using hC)
def aaaa : ByteArray := ⟨#[97, 97, 97, 97]⟩
def bbbb : ByteArray := ⟨#[98, 98, 98, 98]⟩
def nOld : ByteArray := ⟨#[111, 108, 100]⟩
def pairD (g : Int) (R T : List Int) : ImgD := ⟨g, [2, 4], [(0, ⟨#[]⟩, []), (1, aaaa, []), (2, ⟨#[]⟩, [1, 0, -1, 1]), (1, bbbb, []), (2, ⟨#[]⟩, T)], R, [(nOld, 4, [2])]⟩
structure PairW (n : Nat) (W : World) (R T : List Int) : Prop where
 root : LAt W (n + 1) [2, 4]
 ta : LAt W (n + 2) [1, 0, -1, 1]
 tb : LAt W (n + 3) T
 slots : W.heap[n + 4]? = some (.cells #[.int .i64 0, .string ⟨#[]⟩, .slice none 0 0, .int .i64 1, .string aaaa, .slice none 0 0, .int .i64 2, .string ⟨#[]⟩, .slice (some ⟨n + 2, 0, none⟩) 4 4, .int .i64 1, .string bbbb, .slice none 0 0, .int .i64 2, .string ⟨#[]⟩, .slice (some ⟨n + 3, 0, none⟩) 4 4] 58)
 refs : LAt W (n + 5) R
 sroot : LAt W (n + 6) [2]
 snaps : W.heap[n + 7]? = some (.cells #[.string nOld, .int .i64 4, .slice (some ⟨n + 6, 0, none⟩) 1 1] 76)
theorem alloc_get (W : World) (o : Obj) (i : Nat) : (W.alloc o).heap[i]? = if i = W.heap.size then some o else W.heap[i]? := by
 show (W.heap.push o)[i]? = _
 rw [Array.getElem?_push]
theorem size_alloc (W : World) (o : Obj) : (W.alloc o).heap.size = W.heap.size + 1 := by simp
set_option linter.unusedSimpArgs false in
theorem pair_at (w : World) : Calls Tryz.prog 22 #[] w fun r w' => r = .returned (.agg #[.int .i64 6, .slice (some ⟨w.heap.size + 1, 0, none⟩) 2 2, .slice (some ⟨w.heap.size + 4, 0, none⟩) 5 5, .slice (some ⟨w.heap.size + 5, 0, none⟩) 5 5, .slice (some ⟨w.heap.size + 7, 0, none⟩) 1 1]) ∧ PairW w.heap.size w' [0, 2, 2, 1, 1] [3, 0, 0, 0] ∧ Below w.heap.size w w' := by
 go_enter Tryz.func22, Tryz.ntmps22
 go_wp2
 refine bodyPost_ret (v := .agg #[.int .i64 6, .slice (some ⟨w.heap.size + 1, 0, none⟩) 2 2, .slice (some ⟨w.heap.size + 4, 0, none⟩) 5 5, .slice (some ⟨w.heap.size + 5, 0, none⟩) 5 5, .slice (some ⟨w.heap.size + 7, 0, none⟩) 1 1]) (by simp [results, Tryz.results22, go_sem]) rfl ⟨rfl, ⟨?_, ?_, ?_, ?_, ?_, ?_, ?_⟩, ?_⟩
 ·show _ = _; simp only [alloc_get, size_alloc, Nat.add_right_cancel_iff, Nat.add_assoc, Nat.reduceAdd, Nat.add_left_cancel_iff, Nat.reduceEqDiff, ↓reduceIte, List.map, Nat.left_eq_add, reduceCtorEq, Nat.add_eq_left, Nat.succ_ne_self]
 ·show _ = _; simp only [alloc_get, size_alloc, Nat.add_right_cancel_iff, Nat.add_assoc, Nat.reduceAdd, Nat.add_left_cancel_iff, Nat.reduceEqDiff, ↓reduceIte, List.map, Nat.left_eq_add, reduceCtorEq, Nat.add_eq_left, Nat.succ_ne_self]
 ·show _ = _; simp only [alloc_get, size_alloc, Nat.add_right_cancel_iff, Nat.add_assoc, Nat.reduceAdd, Nat.add_left_cancel_iff, Nat.reduceEqDiff, ↓reduceIte, List.map, Nat.left_eq_add, reduceCtorEq, Nat.add_eq_left, Nat.succ_ne_self]
 ·show _ = _; simp only [alloc_get, size_alloc, Nat.add_assoc, Nat.reduceAdd, Nat.add_left_cancel_iff, Nat.reduceEqDiff, ↓reduceIte, aaaa, bbbb]
 ·show _ = _; simp only [alloc_get, size_alloc, Nat.add_right_cancel_iff, Nat.add_assoc, Nat.reduceAdd, Nat.add_left_cancel_iff, Nat.reduceEqDiff, ↓reduceIte, List.map, Nat.left_eq_add, reduceCtorEq, Nat.add_eq_left, Nat.succ_ne_self]
 ·show _ = _; simp only [alloc_get, size_alloc, Nat.add_right_cancel_iff, Nat.add_assoc, Nat.reduceAdd, Nat.add_left_cancel_iff, Nat.reduceEqDiff, ↓reduceIte, List.map, Nat.left_eq_add, reduceCtorEq, Nat.add_eq_left, Nat.succ_ne_self]
 ·show _ = _; simp only [alloc_get, size_alloc, Nat.add_assoc, Nat.reduceAdd, Nat.add_left_cancel_iff, Nat.reduceEqDiff, ↓reduceIte, nOld]
 ·exact ((((((((Below.refl _ _).alloc (Nat.le_refl _) _).alloc (by simp) _).alloc (by simp; omega) _).alloc (by simp; omega) _).alloc (by simp; omega) _).alloc (by simp; omega) _).alloc (by simp; omega) _).alloc (by simp; omega) _
theorem PairW.below {n : Nat} {W W' : World} {R T : List Int} (h : PairW n W R T) {k : Nat} (hb : Below k W W') (hk : n + 8 ≤ k) : PairW n W' R T :=
 ⟨(hb.block _ (by omega)).trans h.root, (hb.block _ (by omega)).trans h.ta, (hb.block _ (by omega)).trans h.tb, (hb.block _ (by omega)).trans h.slots, (hb.block _ (by omega)).trans h.refs, (hb.block _ (by omega)).trans h.sroot, (hb.block _ (by omega)).trans h.snaps⟩
theorem PairW.size {n : Nat} {W : World} {R T : List Int} (h : PairW n W R T) : n + 8 ≤ W.heap.size := by
 have := (Array.getElem?_eq_some_iff.1 h.snaps).1; omega
theorem cell_of {W : World} {g : Nat} {A : Array Value} {t : TypeId} {fr : Nat × Nat} (h : W.heap[g]? = some (.cells A t fr)) {j : Nat} {v : Value} (hv : A[j]? = some v) : W.cell? ⟨g, j, none⟩ = some v := by
 simp [World.cell?, h, hv]
theorem PairW.img {n : Nat} {W : World} {R T : List Int} (h : PairW n W R T) (hR : R.length = 5) (hT : T.length = 4) (g : Int) :
  Img W (.agg #[.int .i64 g, .slice (some ⟨n + 1, 0, none⟩) 2 2, .slice (some ⟨n + 4, 0, none⟩) 5 5, .slice (some ⟨n + 5, 0, none⟩) 5 5, .slice (some ⟨n + 7, 0, none⟩) 1 1]) (pairD g R T) := by
 refine ⟨_, _, _, _, rfl, h.root.sl rfl (by decide), ⟨some ⟨n + 4, 0, none⟩, 5, rfl, show (5 : Nat) ≤ maxLen by decide, Nat.le_refl _, fun _ => ⟨n + 4, 0, rfl, (Array.getElem?_eq_some_iff.1 h.slots).1, ?_⟩⟩, h.refs.sl hR (by decide), ⟨some ⟨n + 7, 0, none⟩, 1, rfl, show (1 : Nat) ≤ maxLen by decide, Nat.le_refl _, fun _ => ⟨n + 7, 0, rfl, (Array.getElem?_eq_some_iff.1 h.snaps).1, ?_⟩⟩⟩
 ·intro j hj
  have h5 : j < 5 := hj
  match j, h5 with
  | 0, _ => exact ⟨_, cell_of h.slots rfl, cell_of h.slots rfl, cell_of h.slots rfl, Sl.nil W⟩
  | 1, _ => exact ⟨_, cell_of h.slots rfl, cell_of h.slots rfl, cell_of h.slots rfl, Sl.nil W⟩
  | 2, _ => exact ⟨_, cell_of h.slots rfl, cell_of h.slots rfl, cell_of h.slots rfl, h.ta.sl rfl (by decide)⟩
  | 3, _ => exact ⟨_, cell_of h.slots rfl, cell_of h.slots rfl, cell_of h.slots rfl, Sl.nil W⟩
  | 4, _ => exact ⟨_, cell_of h.slots rfl, cell_of h.slots rfl, cell_of h.slots rfl, h.tb.sl hT (by decide)⟩
 ·intro j hj
  have h1 : j < 1 := hj
  match j, h1 with
  | 0, _ => exact ⟨_, cell_of h.snaps rfl, cell_of h.snaps rfl, cell_of h.snaps rfl, h.sroot.sl rfl (by decide)⟩
theorem LAt.other {W : World} {g g' : Nat} {l : List Int} (h : LAt W g l) (hne : g ≠ g') (j : Nat) (v : Value) : LAt (W.setCell ⟨g', j, none⟩ v) g l := ((Only.set g' W j v).block g hne).trans h
theorem PairW.setRefs {n : Nat} {W : World} {R T : List Int} (h : PairW n W R T) (j : Nat) (x : Int) : PairW n (W.setCell ⟨n + 5, j, none⟩ (.int .i64 x)) (R.set j x) T :=
 ⟨h.root.other (by omega) _ _, h.ta.other (by omega) _ _, h.tb.other (by omega) _ _, ((Only.set (n + 5) W j _).block _ (by omega)).trans h.slots, h.refs.set j x, h.sroot.other (by omega) _ _, ((Only.set (n + 5) W j _).block _ (by omega)).trans h.snaps⟩
theorem PairW.setTab {n : Nat} {W : World} {R T : List Int} (h : PairW n W R T) (j : Nat) (x : Int) : PairW n (W.setCell ⟨n + 3, j, none⟩ (.int .i64 x)) R (T.set j x) :=
 ⟨h.root.other (by omega) _ _, h.ta.other (by omega) _ _, h.tb.set j x, ((Only.set (n + 3) W j _).block _ (by omega)).trans h.slots, h.refs.other (by omega) _ _, h.sroot.other (by omega) _ _, ((Only.set (n + 3) W j _).block _ (by omega)).trans h.snaps⟩
theorem pair_is (w : World) : Calls Tryz.prog 22 #[] w fun r w' => (∃ v, r = .returned v ∧ Img w' v (pairD 6 [0, 2, 2, 1, 1] [3, 0, 0, 0])) ∧ Below w.heap.size w w' :=
 (pair_at w).mono fun _ _ h => ⟨⟨_, h.1, h.2.1.img rfl rfl 6⟩, h.2.2⟩
theorem pageOf_zero (gm : Int) (ra : Option Addr) (rn rc : Nat) (sa : Option Addr) (sn sc : Nat) (fa : Option Addr) (fn fc : Nat) (na : Option Addr) (nn nc : Nat) (e : Int) (w : World) (he : e ≤ 0) :
  Calls Tryz.prog 39 #[.agg #[.int .i64 gm, .slice ra rn rc, .slice sa sn sc, .slice fa fn fc, .slice na nn nc], .int .i64 e] w fun r w' => r = .returned (.string Z4) ∧ Below w.heap.size w w' := by
 have b0 : Below w.heap.size w (w.alloc (.cells #[.int .i64 gm, .slice ra rn rc, .slice sa sn sc, .slice fa fn fc, .slice na nn nc] 27)) := (Below.refl _ _).alloc (Nat.le_refl _) _
 go_enter Tryz.func39, Tryz.ntmps39
 go_wp2_with (go_at_call 63; refine (zeroPage_any _).mono ?_; rintro e w1 ⟨rfl, hw⟩; subst hw)
 go_ret
 exact ⟨rfl, b0⟩
theorem pageOf_slot (gm : Int) (ra : Option Addr) (rn rc : Nat) (sb so : Nat) (sn sc : Nat) (fa : Option Addr) (fn fc : Nat) (na : Option Addr) (nn nc : Nat) (j : Nat) (d : ByteArray) (w : World) (h1 : 1 ≤ j) (hj : j < sn) (hsb : sb < w.heap.size) (hc : w.cell? ⟨sb, so + j * 3 + 1, none⟩ = some (.string d)) :
  Calls Tryz.prog 39 #[.agg #[.int .i64 gm, .slice ra rn rc, .slice (some ⟨sb, so, none⟩) sn sc, .slice fa fn fc, .slice na nn nc], .int .i64 j] w fun r w' => r = .returned (.string d) ∧ Below w.heap.size w w' := by
 have b0 : Below w.heap.size w (w.alloc (.cells #[.int .i64 gm, .slice ra rn rc, .slice (some ⟨sb, so, none⟩) sn sc, .slice fa fn fc, .slice na nn nc] 27)) := (Below.refl _ _).alloc (Nat.le_refl _) _
 have hc1 := (b0.cell (p := ⟨sb, so + j * 3 + 1, none⟩) hsb).trans hc
 have h0 : ¬ (j : Int) ≤ 0 := by omega
 have hji : (j : Int) < (sn : Int) := by omega
 go_enter Tryz.func39, Tryz.ntmps39
 go_wp2_with fail
 go_ret
 exact ⟨rfl, b0⟩
theorem pageOf_is {v : Value} {m : ImgD} {w : World} (h : Img w v m) {e : Int} (he : e = 0 ∨ e = -1 ∨ ∃ j : Nat, e = j ∧ 1 ≤ j ∧ j < m.slots.length) {p : ByteArray} (hp : pageV m.slots e = p) :
  Calls Tryz.prog 39 #[v, .int .i64 e] w fun r w' => r = .returned (.string p) ∧ Below w.heap.size w w' := by
 obtain ⟨ra, rc, sa, sc, fa, fc, na, nc, rfl, h1, h2, h3, h4⟩ := h.parts
 unfold pageV at hp
 by_cases hz : e ≤ 0
 ·rw [if_pos hz] at hp; subst hp
  exact pageOf_zero m.guest ra _ rc sa _ sc fa _ fc na _ nc e w hz
 ·rcases he with he | he | ⟨j, rfl, hj1, hj⟩
  ·omega
  ·omega
  ·rw [if_neg (by omega)] at hp
   obtain ⟨sb, so, rfl, hsb, tv, _, c2, _⟩ := h2.at j hj
   have e : m.slots.getD (j : Int).toNat default = m.slots[j] := by simp [List.getD, hj]
   rw [e] at hp
   rw [hp] at c2
   exact pageOf_slot m.guest ra _ rc sb so _ sc fa _ fc na _ nc j p w hj1 hj hsb c2
set_option maxHeartbeats 1000000 in
theorem readOf_at (gm : Int) (ra : Option Addr) (rn rc : Nat) (sa : Option Addr) (sn sc : Nat) (fa : Option Addr) (fn fc : Nat) (na : Option Addr) (nn nc : Nat) (m : ImgD) (n : Int) (w : World) (h : Img w (.agg #[.int .i64 gm, .slice ra rn rc, .slice sa sn sc, .slice fa fn fc, .slice na nn nc]) m) (hE : lookE m n = 0) (p : ByteArray) (hp : pageV m.slots (lookV m m.root n.toNat) = p) :
  Calls Tryz.prog 20 #[.agg #[.int .i64 gm, .slice ra rn rc, .slice sa sn sc, .slice fa fn fc, .slice na nn nc], .int .i64 n] w fun r w' => r = .returned (.string p) ∧ Below w.heap.size w w' := by
 have b0 : Below w.heap.size w (w.alloc (.cells #[.int .i64 gm, .slice ra rn rc, .slice sa sn sc, .slice fa fn fc, .slice na nn nc] 27)) := (Below.refl _ _).alloc (Nat.le_refl _) _
 have m0 : (w.alloc (.cells #[.int .i64 gm, .slice ra rn rc, .slice sa sn sc, .slice fa fn fc, .slice na nn nc] 27)).heap[w.heap.size]? = some (.cells #[.int .i64 gm, .slice ra rn rc, .slice sa sn sc, .slice fa fn fc, .slice na nn nc] 27) := World.alloc_heap_new _ _
 have z0 : w.heap.size < (w.alloc (.cells #[.int .i64 gm, .slice ra rn rc, .slice sa sn sc, .slice fa fn fc, .slice na nn nc] 27)).heap.size := by simp
 obtain ⟨c, hc⟩ : ∃ c, lookV m m.root n.toNat = c := ⟨_, rfl⟩
 have h1 := fun W (hW : Below w.heap.size w W) => lookOf_is (h.below hW) n hE hc
 have hent := look_ent hE
 rw [hc] at hent hp
 have h2 := fun W (hW : Below w.heap.size w W) => pageOf_is (h.below hW) hent hp
 obtain ⟨c0, c1, c2, c3, c4⟩ := five m0
 clear h hE hent hp hc
 go_enter Tryz.func20, Tryz.ntmps20
 go_wp2_with fail
 go_region_held3 (fun w' => w'.cell? ⟨w.heap.size, 0, none⟩ = some (.int .i64 gm) ∧ w'.cell? ⟨w.heap.size, 0 + 1, none⟩ = some (.slice ra rn rc) ∧ w'.cell? ⟨w.heap.size, 0 + 1 + 1, none⟩ = some (.slice sa sn sc) ∧ w'.cell? ⟨w.heap.size, 0 + 1 + 1 + 1, none⟩ = some (.slice fa fn fc) ∧ w'.cell? ⟨w.heap.size, 0 + 1 + 1 + 1 + 1, none⟩ = some (.slice na nn nc)) (first | exact ⟨f0, f1, f2, f3, f4⟩ | exact ⟨d0, d1, d2, d3, d4⟩ | exact ⟨c0, c1, c2, c3, c4⟩)
  (first
  | (go_at_call 19; refine (h1 _ (to_drew b0)).mono ?_; rintro e w1 ⟨rfl, b1⟩; have b1 := below_drew b1; have m1 := cells_below m0 b1 z0; have hB1 := Below.on b0 b1; have z1 := (szH m1); obtain ⟨d0, d1, d2, d3, d4⟩ := five m1)
  | (go_at_call 39; refine (h2 _ hB1).mono ?_; rintro e w2 ⟨rfl, b2⟩; have m2 := cells_below m1 b2 z1; have hB2 := Below.on hB1 b2; obtain ⟨f0, f1, f2, f3, f4⟩ := five m2))
 go_wp2_with fail
 go_ret
 exact ⟨rfl, hB2⟩
theorem readOf_is {w : World} {v : Value} {m : ImgD} (h : Img w v m) (n : Int) (hE : lookE m n = 0) {p : ByteArray} (hp : readV m n = p) :
  Calls Tryz.prog 20 #[v, .int .i64 n] w fun r w' => r = .returned (.string p) ∧ Below w.heap.size w w' := by
 have h' := h
 obtain ⟨ra, rc, sa, sc, fa, fc, na, nc, rfl, _⟩ := h.parts
 unfold readV at hp
 rw [if_pos hE] at hp
 exact readOf_at m.guest ra _ rc sa _ sc fa _ fc na _ nc m n w h' hE p hp
set_option linter.unusedSimpArgs false
set_option maxHeartbeats 4000000 in
theorem ckStk_bad (ba : Option Addr) (bc : Nat) (ra : Option Addr) (rc : Nat) (sa : Option Addr) (sc : Nat) (fa : Option Addr) (fc : Nat) (na : Option Addr) (nc : Nat) (b : List ByteArray) (m : ImgD) (w : World) (hS : Ss w (.slice ba b.length bc) b) (hI : Img w (.agg #[.int .i64 m.guest, .slice ra m.root.length rc, .slice sa m.slots.length sc, .slice fa m.refs.length fc, .slice na m.snaps.length nc]) m) (E : Int) (hE : ckP b = E) (hne : (E != 0) = true) :
  Calls Tryz.prog 11 #[.agg #[.slice ba b.length bc, .int .i64 m.guest, .slice ra m.root.length rc, .slice sa m.slots.length sc, .slice fa m.refs.length fc, .slice na m.snaps.length nc]] w fun r w' => r = .returned (.int .i64 E) ∧ Below w.heap.size w w' := by
 have b0 : Below w.heap.size w (w.alloc (.cells #[.slice ba b.length bc, .int .i64 m.guest, .slice ra m.root.length rc, .slice sa m.slots.length sc, .slice fa m.refs.length fc, .slice na m.snaps.length nc] 29)) := (Below.refl _ _).alloc (Nat.le_refl _) _
 have q0 : (w.alloc (.cells #[.slice ba b.length bc, .int .i64 m.guest, .slice ra m.root.length rc, .slice sa m.slots.length sc, .slice fa m.refs.length fc, .slice na m.snaps.length nc] 29)).heap[w.heap.size]? = some (.cells #[.slice ba b.length bc, .int .i64 m.guest, .slice ra m.root.length rc, .slice sa m.slots.length sc, .slice fa m.refs.length fc, .slice na m.snaps.length nc] 29) := World.alloc_heap_new _ _
 have ql := (szH q0)
 obtain ⟨c0, c1, c2, c3, c4, c5⟩ := six q0
 have hS1 := hS.below b0
 have hI1 := hI.below b0
 clear hS hI hI1
 go_enter Tryz.func11, Tryz.ntmps11
 go_wp2_with (go_at_call 26; refine (checkPages_is hS1 hE).mono ?_; rintro e w' ⟨rfl, hw⟩; subst hw)
 go_ret
 exact ⟨rfl, b0⟩
set_option maxHeartbeats 4000000 in
theorem ckStk_ok (ba : Option Addr) (bc : Nat) (ra : Option Addr) (rc : Nat) (sa : Option Addr) (sc : Nat) (fa : Option Addr) (fc : Nat) (na : Option Addr) (nc : Nat) (b : List ByteArray) (m : ImgD) (w : World) (hS : Ss w (.slice ba b.length bc) b) (hI : Img w (.agg #[.int .i64 m.guest, .slice ra m.root.length rc, .slice sa m.slots.length sc, .slice fa m.refs.length fc, .slice na m.snaps.length nc]) m) (E : Int) (hE : ckP b = 0) (hC : checkE m = E) :
  Calls Tryz.prog 11 #[.agg #[.slice ba b.length bc, .int .i64 m.guest, .slice ra m.root.length rc, .slice sa m.slots.length sc, .slice fa m.refs.length fc, .slice na m.snaps.length nc]] w fun r w' => r = .returned (.int .i64 E) ∧ Below w.heap.size w w' := by
 have b0 : Below w.heap.size w (w.alloc (.cells #[.slice ba b.length bc, .int .i64 m.guest, .slice ra m.root.length rc, .slice sa m.slots.length sc, .slice fa m.refs.length fc, .slice na m.snaps.length nc] 29)) := (Below.refl _ _).alloc (Nat.le_refl _) _
 have q0 : (w.alloc (.cells #[.slice ba b.length bc, .int .i64 m.guest, .slice ra m.root.length rc, .slice sa m.slots.length sc, .slice fa m.refs.length fc, .slice na m.snaps.length nc] 29)).heap[w.heap.size]? = some (.cells #[.slice ba b.length bc, .int .i64 m.guest, .slice ra m.root.length rc, .slice sa m.slots.length sc, .slice fa m.refs.length fc, .slice na m.snaps.length nc] 29) := World.alloc_heap_new _ _
 have ql := (szH q0)
 obtain ⟨c0, c1, c2, c3, c4, c5⟩ := six q0
 have hS1 := hS.below b0
 have hI1 := hI.below b0
 have hcall := checkImage_is hI1 hC
 clear hS hI hI1 hC
 go_enter Tryz.func11, Tryz.ntmps11
 go_wp2_with (first | (go_at_call 27; refine hcall.mono ?_; rintro e w2 ⟨rfl, b2⟩) | (go_at_call 26; refine (checkPages_is hS1 hE).mono ?_; rintro e w' ⟨rfl, hw⟩; subst hw))
 go_ret
 exact ⟨rfl, Below.on b0 b2⟩
theorem ckStk_is {w : World} {v : Value} {b : List ByteArray} {m : ImgD} (h : Stk w v b m) {E : Int} (hE : scE b m = E) : Calls Tryz.prog 11 #[v] w fun r w' => r = .returned (.int .i64 E) ∧ Below w.heap.size w w' := by
 subst hE
 obtain ⟨ba, bc, ra, rc, sa, sc, fa, fc, na, nc, rfl, hS, hI⟩ := h.parts
 by_cases h0 : ckP b = 0
 ·unfold scE
  rw [if_neg (by simpa using h0)]
  exact ckStk_ok ba bc ra rc sa sc fa fc na nc b m w hS hI _ h0 rfl
 ·unfold scE
  rw [if_pos h0]
  exact ckStk_bad ba bc ra rc sa sc fa fc na nc b m w hS hI _ rfl (by simpa using h0)
set_option maxHeartbeats 4000000 in
theorem stkErr_bad (ba : Option Addr) (bc : Nat) (ra : Option Addr) (rc : Nat) (sa : Option Addr) (sc : Nat) (fa : Option Addr) (fc : Nat) (na : Option Addr) (nc : Nat) (b : List ByteArray) (m : ImgD) (n : Int) (w : World) (hS : Ss w (.slice ba b.length bc) b) (hI : Img w (.agg #[.int .i64 m.guest, .slice ra m.root.length rc, .slice sa m.slots.length sc, .slice fa m.refs.length fc, .slice na m.snaps.length nc]) m) (E : Int) (hE : scE b m = E) (hne : (E != 0) = true) :
  Calls Tryz.prog 6 #[.agg #[.slice ba b.length bc, .int .i64 m.guest, .slice ra m.root.length rc, .slice sa m.slots.length sc, .slice fa m.refs.length fc, .slice na m.snaps.length nc], .int .i64 n] w fun r w' => r = .returned (.int .i64 E) ∧ Below w.heap.size w w' := by
 have b0 : Below w.heap.size w (w.alloc (.cells #[.slice ba b.length bc, .int .i64 m.guest, .slice ra m.root.length rc, .slice sa m.slots.length sc, .slice fa m.refs.length fc, .slice na m.snaps.length nc] 29)) := (Below.refl _ _).alloc (Nat.le_refl _) _
 have q0 : (w.alloc (.cells #[.slice ba b.length bc, .int .i64 m.guest, .slice ra m.root.length rc, .slice sa m.slots.length sc, .slice fa m.refs.length fc, .slice na m.snaps.length nc] 29)).heap[w.heap.size]? = some (.cells #[.slice ba b.length bc, .int .i64 m.guest, .slice ra m.root.length rc, .slice sa m.slots.length sc, .slice fa m.refs.length fc, .slice na m.snaps.length nc] 29) := World.alloc_heap_new _ _
 have ql := (szH q0)
 obtain ⟨c0, c1, c2, c3, c4, c5⟩ := six q0
 have hS1 := hS.below b0
 have hI1 := hI.below b0
 have hck := ckStk_is (w := (w.alloc (.cells #[.slice ba b.length bc, .int .i64 m.guest, .slice ra m.root.length rc, .slice sa m.slots.length sc, .slice fa m.refs.length fc, .slice na m.snaps.length nc] 29))) (v := .agg #[.slice ba b.length bc, .int .i64 m.guest, .slice ra m.root.length rc, .slice sa m.slots.length sc, .slice fa m.refs.length fc, .slice na m.snaps.length nc]) ⟨_, _, _, _, _, rfl, hS1, hI1⟩ hE
 clear hS hI hI1 hS1 hE
 go_enter Tryz.func6, Tryz.ntmps6
 go_wp2_with (go_at_call 11; refine hck.mono ?_; rintro e w1 ⟨rfl, b1⟩; obtain ⟨d0, d1, d2, d3, d4, d5⟩ := six (cells_below q0 b1 ql))
 go_ret
 exact ⟨rfl, Below.on b0 b1⟩
set_option maxHeartbeats 4000000 in
theorem stkErr_ok (ba : Option Addr) (bc : Nat) (ra : Option Addr) (rc : Nat) (sa : Option Addr) (sc : Nat) (fa : Option Addr) (fc : Nat) (na : Option Addr) (nc : Nat) (b : List ByteArray) (m : ImgD) (n : Int) (w : World) (hS : Ss w (.slice ba b.length bc) b) (hI : Img w (.agg #[.int .i64 m.guest, .slice ra m.root.length rc, .slice sa m.slots.length sc, .slice fa m.refs.length fc, .slice na m.snaps.length nc]) m) (E : Int) (hC : scE b m = 0) (hE : lookE m n = E) :
  Calls Tryz.prog 6 #[.agg #[.slice ba b.length bc, .int .i64 m.guest, .slice ra m.root.length rc, .slice sa m.slots.length sc, .slice fa m.refs.length fc, .slice na m.snaps.length nc], .int .i64 n] w fun r w' => r = .returned (.int .i64 E) ∧ Below w.heap.size w w' := by
 have b0 : Below w.heap.size w (w.alloc (.cells #[.slice ba b.length bc, .int .i64 m.guest, .slice ra m.root.length rc, .slice sa m.slots.length sc, .slice fa m.refs.length fc, .slice na m.snaps.length nc] 29)) := (Below.refl _ _).alloc (Nat.le_refl _) _
 have q0 : (w.alloc (.cells #[.slice ba b.length bc, .int .i64 m.guest, .slice ra m.root.length rc, .slice sa m.slots.length sc, .slice fa m.refs.length fc, .slice na m.snaps.length nc] 29)).heap[w.heap.size]? = some (.cells #[.slice ba b.length bc, .int .i64 m.guest, .slice ra m.root.length rc, .slice sa m.slots.length sc, .slice fa m.refs.length fc, .slice na m.snaps.length nc] 29) := World.alloc_heap_new _ _
 have ql := (szH q0)
 obtain ⟨c0, c1, c2, c3, c4, c5⟩ := six q0
 have hS1 := hS.below b0
 have hI1 := hI.below b0
 have hck := ckStk_is (w := (w.alloc (.cells #[.slice ba b.length bc, .int .i64 m.guest, .slice ra m.root.length rc, .slice sa m.slots.length sc, .slice fa m.refs.length fc, .slice na m.snaps.length nc] 29))) (v := .agg #[.slice ba b.length bc, .int .i64 m.guest, .slice ra m.root.length rc, .slice sa m.slots.length sc, .slice fa m.refs.length fc, .slice na m.snaps.length nc]) ⟨_, _, _, _, _, rfl, hS1, hI1⟩ hC
 have HL : Hid (∀ w1, Below (w.alloc (.cells #[.slice ba b.length bc, .int .i64 m.guest, .slice ra m.root.length rc, .slice sa m.slots.length sc, .slice fa m.refs.length fc, .slice na m.snaps.length nc] 29)).heap.size (w.alloc (.cells #[.slice ba b.length bc, .int .i64 m.guest, .slice ra m.root.length rc, .slice sa m.slots.length sc, .slice fa m.refs.length fc, .slice na m.snaps.length nc] 29)) w1 → Calls Tryz.prog 18 #[.agg #[.int .i64 m.guest, .slice ra m.root.length rc, .slice sa m.slots.length sc, .slice fa m.refs.length fc, .slice na m.snaps.length nc], .int .i64 n] w1 fun r w' => r = .returned (.int .i64 E) ∧ Below w1.heap.size w1 w') := fun w1 b1 => lookErr_is (hI1.below b1) n hE
 clear hS hI hI1 hS1 hE hC
 go_enter Tryz.func6, Tryz.ntmps6
 go_wp2_with (first | (go_at_call 18; refine (HL.out w1 b1).mono ?_; rintro e w2 ⟨rfl, b2⟩) | (go_at_call 11; refine hck.mono ?_; rintro e w1 ⟨rfl, b1⟩; obtain ⟨d0, d1, d2, d3, d4, d5⟩ := six (cells_below q0 b1 ql)))
 go_ret
 exact ⟨rfl, Below.on (Below.on b0 b1) b2⟩
theorem stkErr_is {w : World} {v : Value} {b : List ByteArray} {m : ImgD} (h : Stk w v b m) (n : Int) {E : Int} (hE : srE b m n = E) : Calls Tryz.prog 6 #[v, .int .i64 n] w fun r w' => r = .returned (.int .i64 E) ∧ Below w.heap.size w w' := by
 subst hE
 obtain ⟨ba, bc, ra, rc, sa, sc, fa, fc, na, nc, rfl, hS, hI⟩ := h.parts
 unfold srE
 by_cases h0 : scE b m = 0
 ·rw [if_neg (by simpa using h0)]
  exact stkErr_ok ba bc ra rc sa sc fa fc na nc b m n w hS hI _ h0 rfl
 ·rw [if_pos h0]
  exact stkErr_bad ba bc ra rc sa sc fa fc na nc b m n w hS hI _ rfl (by simpa using h0)
set_option maxHeartbeats 4000000 in
theorem stkRead_base (bb bo : Nat) (bc : Nat) (ra : Option Addr) (rc : Nat) (sa : Option Addr) (sc : Nat) (fa : Option Addr) (fc : Nat) (na : Option Addr) (nc : Nat) (b : List ByteArray) (m : ImgD) (n : Nat) (w : World) (hS : Ss w (.slice (some ⟨bb, bo, none⟩) b.length bc) b) (hI : Img w (.agg #[.int .i64 m.guest, .slice ra m.root.length rc, .slice sa m.slots.length sc, .slice fa m.refs.length fc, .slice na m.snaps.length nc]) m) (p : ByteArray) (hE : lookE m n = 0) (hk : lookV m m.root n = 0) (hn : n < b.length) (hbl : bb < w.heap.size) (hcl : w.cell? ⟨bb, bo + n, none⟩ = some (.string p)) :
  Calls Tryz.prog 7 #[.agg #[.slice (some ⟨bb, bo, none⟩) b.length bc, .int .i64 m.guest, .slice ra m.root.length rc, .slice sa m.slots.length sc, .slice fa m.refs.length fc, .slice na m.snaps.length nc], .int .i64 (n : Int)] w fun r w' => r = .returned (.string p) ∧ Below w.heap.size w w' := by
 have b0 : Below w.heap.size w (w.alloc (.cells #[.slice (some ⟨bb, bo, none⟩) b.length bc, .int .i64 m.guest, .slice ra m.root.length rc, .slice sa m.slots.length sc, .slice fa m.refs.length fc, .slice na m.snaps.length nc] 29)) := (Below.refl _ _).alloc (Nat.le_refl _) _
 have q0 : (w.alloc (.cells #[.slice (some ⟨bb, bo, none⟩) b.length bc, .int .i64 m.guest, .slice ra m.root.length rc, .slice sa m.slots.length sc, .slice fa m.refs.length fc, .slice na m.snaps.length nc] 29)).heap[w.heap.size]? = some (.cells #[.slice (some ⟨bb, bo, none⟩) b.length bc, .int .i64 m.guest, .slice ra m.root.length rc, .slice sa m.slots.length sc, .slice fa m.refs.length fc, .slice na m.snaps.length nc] 29) := World.alloc_heap_new _ _
 have ql := (szH q0)
 obtain ⟨c0, c1, c2, c3, c4, c5⟩ := six q0
 have hS1 := hS.below b0
 have hI1 := hI.below b0
 have hlk := lookOf_is hI1 (n : Int) hE (c := 0) (by rw [Int.toNat_natCast]; exact hk)
 have hcl1 := (b0.cell (p := ⟨bb, bo + n, none⟩) hbl).trans hcl
 have hbl1 := Nat.lt_of_lt_of_le hbl b0.size
 have hni : (n : Int) < (b.length : Int) := by omega
 have hnd : decide ((n : Int) < (b.length : Int)) = true := by simpa using hni
 clear hS hI hI1 hS1 hE hk
 go_enter Tryz.func7, Tryz.ntmps7
 go_wp2_with (go_at_call 19; refine hlk.mono ?_; rintro e w1 ⟨rfl, b1⟩; obtain ⟨d0, d1, d2, d3, d4, d5⟩ := six (cells_below q0 b1 ql); have hcl2 := (b1.cell (p := ⟨bb, bo + n, none⟩) hbl1).trans hcl1)
 go_ret
 exact ⟨rfl, Below.on b0 b1⟩
set_option maxHeartbeats 4000000 in
theorem stkRead_top (ba : Option Addr) (bc : Nat) (ra : Option Addr) (rc : Nat) (sa : Option Addr) (sc : Nat) (fa : Option Addr) (fc : Nat) (na : Option Addr) (nc : Nat) (b : List ByteArray) (m : ImgD) (n : Int) (w : World) (hS : Ss w (.slice ba b.length bc) b) (hI : Img w (.agg #[.int .i64 m.guest, .slice ra m.root.length rc, .slice sa m.slots.length sc, .slice fa m.refs.length fc, .slice na m.snaps.length nc]) m) (p : ByteArray) (k : Int) (hE : lookE m n = 0) (hk : lookV m m.root n.toNat = k) (hc : ((k == 0) = false) ∨ ((k == 0) = true ∧ decide (n < (b.length : Int)) = false)) (hp : readV m n = p) :
  Calls Tryz.prog 7 #[.agg #[.slice ba b.length bc, .int .i64 m.guest, .slice ra m.root.length rc, .slice sa m.slots.length sc, .slice fa m.refs.length fc, .slice na m.snaps.length nc], .int .i64 n] w fun r w' => r = .returned (.string p) ∧ Below w.heap.size w w' := by
 have b0 : Below w.heap.size w (w.alloc (.cells #[.slice ba b.length bc, .int .i64 m.guest, .slice ra m.root.length rc, .slice sa m.slots.length sc, .slice fa m.refs.length fc, .slice na m.snaps.length nc] 29)) := (Below.refl _ _).alloc (Nat.le_refl _) _
 have q0 : (w.alloc (.cells #[.slice ba b.length bc, .int .i64 m.guest, .slice ra m.root.length rc, .slice sa m.slots.length sc, .slice fa m.refs.length fc, .slice na m.snaps.length nc] 29)).heap[w.heap.size]? = some (.cells #[.slice ba b.length bc, .int .i64 m.guest, .slice ra m.root.length rc, .slice sa m.slots.length sc, .slice fa m.refs.length fc, .slice na m.snaps.length nc] 29) := World.alloc_heap_new _ _
 have ql := (szH q0)
 obtain ⟨c0, c1, c2, c3, c4, c5⟩ := six q0
 have hS1 := hS.below b0
 have hI1 := hI.below b0
 have hlk := lookOf_is hI1 n hE hk
 have HR : Hid (∀ w1, Below (w.alloc (.cells #[.slice ba b.length bc, .int .i64 m.guest, .slice ra m.root.length rc, .slice sa m.slots.length sc, .slice fa m.refs.length fc, .slice na m.snaps.length nc] 29)).heap.size (w.alloc (.cells #[.slice ba b.length bc, .int .i64 m.guest, .slice ra m.root.length rc, .slice sa m.slots.length sc, .slice fa m.refs.length fc, .slice na m.snaps.length nc] 29)) w1 → Calls Tryz.prog 20 #[.agg #[.int .i64 m.guest, .slice ra m.root.length rc, .slice sa m.slots.length sc, .slice fa m.refs.length fc, .slice na m.snaps.length nc], .int .i64 n] w1 fun r w' => r = .returned (.string p) ∧ Below w1.heap.size w1 w') := fun w1 b1 => readOf_is (hI1.below b1) n hE hp
 clear hS hI hI1 hS1 hE hk hp
 go_enter Tryz.func7, Tryz.ntmps7
 rcases hc with hc | ⟨hc, hd⟩
 ·go_wp2_with (first | (go_at_call 20; refine (HR.out w1 b1).mono ?_; rintro e w2 ⟨rfl, b2⟩) | (go_at_call 19; refine hlk.mono ?_; rintro e w1 ⟨rfl, b1⟩; obtain ⟨d0, d1, d2, d3, d4, d5⟩ := six (cells_below q0 b1 ql)))
  go_ret
  exact ⟨rfl, Below.on (Below.on b0 b1) b2⟩
 ·go_wp2_with (first | (go_at_call 20; refine (HR.out w1 b1).mono ?_; rintro e w2 ⟨rfl, b2⟩) | (go_at_call 19; refine hlk.mono ?_; rintro e w1 ⟨rfl, b1⟩; obtain ⟨d0, d1, d2, d3, d4, d5⟩ := six (cells_below q0 b1 ql)))
  go_ret
  exact ⟨rfl, Below.on (Below.on b0 b1) b2⟩
theorem stkRead_is {w : World} {v : Value} {b : List ByteArray} {m : ImgD} (h : Stk w v b m) (n : Int) {p : ByteArray} (hE : srE b m n = 0) (hp : srV b m n = p) : Calls Tryz.prog 7 #[v, .int .i64 n] w fun r w' => r = .returned (.string p) ∧ Below w.heap.size w w' := by
 subst hp
 have hs : scE b m = 0 := by
  unfold srE at hE
  by_cases x : scE b m = 0
  ·exact x
  ·rw [if_pos x] at hE; exact hE
 have hlk : lookE m n = 0 := by unfold srE at hE; rw [if_neg (by simpa using hs)] at hE; exact hE
 obtain ⟨hC, n0, hn⟩ := lookE_parts3 hlk
 obtain ⟨ba, bc, ra, rc, sa, sc, fa, fc, na, nc, rfl, hS, hI⟩ := h.parts
 have hEn : ¬ srE b m n ≠ 0 := by simpa using hE
 by_cases hx : lookV m m.root n.toNat = 0 ∧ n < (b.length : Int)
 ·obtain ⟨k, rfl⟩ := Int.eq_ofNat_of_zero_le n0
  have hkb : k < b.length := by omega
  have e1 : srV b m (k : Int) = b.getD k ByteArray.empty := by
   unfold srV
   rw [if_neg hEn, if_pos hx]
   unfold freadA
   rw [if_pos (by unfold atE; rw [if_pos (scE_zero hs).1, if_pos ⟨by omega, hx.2⟩]), Int.toNat_natCast]
  rw [e1]
  obtain ⟨bb, bo, rfl, hbl, hcell⟩ := hS.at (by omega)
  rw [Int.toNat_natCast] at hx
  exact stkRead_base bb bo bc ra rc sa sc fa fc na nc b m k w hS hI _ hlk hx.1 hkb hbl (hcell k hkb)
 ·have e1 : srV b m n = readV m n := by unfold srV; rw [if_neg hEn, if_neg hx]
  rw [e1]
  refine stkRead_top ba bc ra rc sa sc fa fc na nc b m n w hS hI _ _ hlk rfl ?_ rfl
  by_cases hk : lookV m m.root n.toNat = 0
  ·exact .inr ⟨by simpa using hk, by have : ¬ n < (b.length : Int) := fun y => hx ⟨hk, y⟩; simpa using this⟩
  ·exact .inl (by simpa using hk)
end Go.Proofs.YtehleeibgkpjmaeGreat
namespace Go.Proofs.YtehleeibgkpjmaeGreat
open Go.RowKit
set_option maxRecDepth 20000
structure Nm where
 kind : Nat
 ix : Nat
abbrev Nm.root : Nm := ⟨0, 0⟩
abbrev Nm.slots : Nm := ⟨1, 0⟩
abbrev Nm.refs : Nm := ⟨2, 0⟩
abbrev Nm.snaps : Nm := ⟨3, 0⟩
abbrev Nm.tab (j : Nat) : Nm := ⟨4, j⟩
abbrev Nm.sr (j : Nat) : Nm := ⟨5, j⟩
def Live (m : ImgD) (a : Nm) : Prop := (a.kind < 4 ∧ a.ix = 0) ∨ (a.kind = 4 ∧ a.ix < m.slots.length) ∨ (a.kind = 5 ∧ a.ix < m.snaps.length)
theorem Live.cases {m : ImgD} {a : Nm} (h : Live m a) : a = .root ∨ a = .slots ∨ a = .refs ∨ a = .snaps ∨ (∃ j, a = .tab j ∧ j < m.slots.length) ∨ ∃ j, a = .sr j ∧ j < m.snaps.length := by
 obtain ⟨k, j⟩ := a
 rcases h with ⟨h1, h2⟩ | ⟨h1, h2⟩ | ⟨h1, h2⟩
 ·dsimp only at h1 h2
  subst h2
  match k, h1 with
  | 0, _ => exact .inl rfl
  | 1, _ => exact .inr (.inl rfl)
  | 2, _ => exact .inr (.inr (.inl rfl))
  | 3, _ => exact .inr (.inr (.inr (.inl rfl)))
 ·dsimp only at h1 h2; subst h1; exact .inr (.inr (.inr (.inr (.inl ⟨j, rfl, h2⟩))))
 ·dsimp only at h1 h2; subst h1; exact .inr (.inr (.inr (.inr (.inr ⟨j, rfl, h2⟩))))
theorem Live.root (m : ImgD) : Live m .root := .inl ⟨by decide, rfl⟩
theorem Live.slots (m : ImgD) : Live m .slots := .inl ⟨by decide, rfl⟩
theorem Live.refs (m : ImgD) : Live m .refs := .inl ⟨by decide, rfl⟩
theorem Live.snaps (m : ImgD) : Live m .snaps := .inl ⟨by decide, rfl⟩
theorem Live.tab {m : ImgD} {j : Nat} (h : j < m.slots.length) : Live m (.tab j) := .inr (.inl ⟨rfl, h⟩)
theorem Live.sr {m : ImgD} {j : Nat} (h : j < m.snaps.length) : Live m (.sr j) := .inr (.inr ⟨rfl, h⟩)
theorem live_iff {m m' : ImgD} (h1 : m'.slots.length = m.slots.length) (h2 : m'.snaps.length = m.snaps.length) (b : Nm) : Live m' b ↔ Live m b := by unfold Live; rw [h1, h2]
def flatS (L : List SlotD) (tv : Nat → Value) : List Value := (List.range L.length).flatMap (fun j => [.int .i64 (L.getD j default).1, .string (L.getD j default).2.1, tv j])
def flatN (S : List SnapD) (qv : Nat → Value) : List Value := (List.range S.length).flatMap (fun j => [.string (S.getD j default).1, .int .i64 (S.getD j default).2.1, qv j])
def ints (l : List Int) : List Value := l.map (Value.int .i64)
def rowT (a : Nm) : TypeId := match a.kind with | 1 => 58 | 3 => 76 | _ => 3
def rowS (a : Nm) : Nat := match a.kind with | 1 => 3 | 3 => 3 | _ => 1
def rowN (m : ImgD) (a : Nm) : Nat := match a.kind with
 | 0 => m.root.length
 | 1 => m.slots.length
 | 2 => m.refs.length
 | 3 => m.snaps.length
 | 4 => (m.slots.getD a.ix default).2.2.length
 | _ => (m.snaps.getD a.ix default).2.2.length
def rowV (m : ImgD) (val : Nm → Value) (a : Nm) : List Value := match a.kind with
 | 0 => ints m.root
 | 1 => flatS m.slots (fun j => val (.tab j))
 | 2 => ints m.refs
 | 3 => flatN m.snaps (fun j => val (.sr j))
 | 4 => ints (m.slots.getD a.ix default).2.2
 | _ => ints (m.snaps.getD a.ix default).2.2
def imgV (g : Int) (val : Nm → Value) : Value := .agg #[.int .i64 g, val .root, val .slots, val .refs, val .snaps]
structure OI (W : World) (B : Nat) (val : Nm → Value) (m : ImgD) : Prop where
 row : ∀ a, Live m a → W.ownsRow B (rowT a) (rowS a) (val a) (rowN m a) (rowV m val a)
 apart : ∀ a b, Live m a → Live m b → a ≠ b → ∀ g, (val a).ownBlock = some g → (val b).ownBlock ≠ some g
theorem OI.keep {W W' : World} {B : Nat} {val : Nm → Value} {m : ImgD} (h : OI W B val m) (hk : ∀ g, B ≤ g → g < W.heap.size → W'.heap[g]? = W.heap[g]?) : OI W' B val m := by
 refine ⟨fun a ha => ?_, h.apart⟩
 have hr := h.row a ha
 refine ⟨hr.1, ?_⟩
 rcases hr.2 with hn | ⟨g, cap, cur, hv, hb, hg, rest⟩
 ·exact .inl hn
 ·exact .inr ⟨g, cap, cur, hv, hb, (hk g hb (szH hg)).trans hg, rest⟩
theorem OI.below {W W' : World} {B : Nat} {val : Nm → Value} {m : ImgD} (h : OI W B val m) (hb : Below W.heap.size W W') : OI W' B val m := h.keep fun g _ hg => hb.block g hg
theorem OI.alloc {W : World} {B : Nat} {val : Nm → Value} {m : ImgD} (h : OI W B val m) (o : Obj) : OI (W.alloc o) B val m := h.below ((Below.refl _ _).alloc (Nat.le_refl _) o)
theorem OI.drew {W : World} {B : Nat} {val : Nm → Value} {m : ImgD} (h : OI W B val m) : OI W.drew B val m := ⟨fun a ha => (h.row a ha).drew, h.apart⟩
theorem ints_length (l : List Int) : (ints l).length = l.length := by simp [ints]
theorem row_sl {W : World} {B : Nat} {v : Value} {l : List Int} (h : W.ownsRow B 3 1 v l.length (ints l)) : Sl W v l := by
 rcases h.2 with ⟨rfl, hn⟩ | ⟨g, cap, cur, rfl, _⟩
 ·have : l = [] := List.eq_nil_of_length_eq_zero hn
  subst this; exact Sl.nil W
 ·exact Sl_of_own h
theorem flat3_get (f : Nat → Value × Value × Value) : ∀ (n j i : Nat), j < n → i < 3 → ((List.range n).flatMap (fun j => [(f j).1, (f j).2.1, (f j).2.2]))[j * 3 + i]? = some (if i = 0 then (f j).1 else if i = 1 then (f j).2.1 else (f j).2.2)
 | 0, j, i, hj, _ => absurd hj (by omega)
 | n + 1, j, i, hj, hi => by
  have hl : ∀ n, ((List.range n).flatMap (fun j => [(f j).1, (f j).2.1, (f j).2.2])).length = n * 3 := fun n => by
   induction n with
   | zero => rfl
   | succ n ih => rw [List.range_succ, List.flatMap_append, List.length_append, ih]; simp; omega
  rw [List.range_succ, List.flatMap_append]
  by_cases e : j < n
  ·rw [List.getElem?_append_left (by rw [hl]; omega)]
   exact flat3_get f n j i e hi
  ·have : j = n := by omega
   subst this
   rw [List.getElem?_append_right (by rw [hl]; omega), hl]
   match i, hi with
   | 0, _ => simp
   | 1, _ => simp
   | 2, _ => simp
theorem flatS_get {L : List SlotD} {tv : Nat → Value} {j : Nat} (hj : j < L.length) : (flatS L tv)[j * 3]? = some (.int .i64 (L.getD j default).1) ∧ (flatS L tv)[j * 3 + 1]? = some (.string (L.getD j default).2.1) ∧ (flatS L tv)[j * 3 + 2]? = some (tv j) := by
 have h := fun i hi => flat3_get (fun j => (.int .i64 (L.getD j default).1, .string (L.getD j default).2.1, tv j)) L.length j i hj hi
 exact ⟨h 0 (by omega), h 1 (by omega), h 2 (by omega)⟩
theorem flatN_get {S : List SnapD} {qv : Nat → Value} {j : Nat} (hj : j < S.length) : (flatN S qv)[j * 3]? = some (.string (S.getD j default).1) ∧ (flatN S qv)[j * 3 + 1]? = some (.int .i64 (S.getD j default).2.1) ∧ (flatN S qv)[j * 3 + 2]? = some (qv j) := by
 have h := fun i hi => flat3_get (fun j => (.string (S.getD j default).1, .int .i64 (S.getD j default).2.1, qv j)) S.length j i hj hi
 exact ⟨h 0 (by omega), h 1 (by omega), h 2 (by omega)⟩
theorem row_lt {W : World} {B : Nat} {e : TypeId} {size g n cap : Nat} {xs : List Value} (h : W.ownsRow B e size (.slice (some ⟨g, 0, none⟩) n cap) n xs) : B ≤ g ∧ g < W.heap.size ∧ n ≤ cap ∧ cap ≤ maxLen := by
 rcases h.2 with ⟨h', _⟩ | ⟨g', cap', cur, h', hb, hg, hnc, hcm, _⟩
 ·simp at h'
 ·simp only [Value.slice.injEq, Option.some.injEq, Addr.mk.injEq, and_true, true_and] at h'
  obtain ⟨rfl, rfl⟩ := h'
  exact ⟨hb, (szH hg), hnc, hcm⟩
theorem row_form {W : World} {B : Nat} {e : TypeId} {size n : Nat} {v : Value} {xs : List Value} (h : W.ownsRow B e size v n xs) : (v = .slice none 0 0 ∧ n = 0) ∨ ∃ g cap, v = .slice (some ⟨g, 0, none⟩) n cap ∧ B ≤ g ∧ g < W.heap.size ∧ n ≤ cap ∧ cap ≤ maxLen := by
 have h' := h
 rcases h.2 with hn | ⟨g, cap, cur, rfl, _⟩
 ·exact .inl hn
 ·exact .inr ⟨g, cap, rfl, row_lt h'⟩
theorem row_slots {W : World} {B : Nat} {v : Value} {L : List SlotD} {tv : Nat → Value} (h : W.ownsRow B 58 3 v L.length (flatS L tv)) (ht : ∀ j, j < L.length → Sl W (tv j) (L.getD j default).2.2) : Slots W v L := by
 have h' := h
 rcases row_form h with ⟨rfl, hn⟩ | ⟨g, cap, rfl, hb, hg, hnc, hcm⟩
 ·have : L = [] := List.eq_nil_of_length_eq_zero hn
  subst this; exact ⟨none, 0, rfl, Nat.zero_le _, Nat.zero_le _, fun h => absurd rfl h⟩
 ·refine ⟨_, cap, rfl, Nat.le_trans hnc hcm, hnc, fun _ => ⟨g, 0, rfl, hg, fun j hj => ?_⟩⟩
  have hc := fun i (hi : i < 3) => h'.cellAt (j * 3 + i) (by omega)
  obtain ⟨g0, g1, g2⟩ := flatS_get (tv := tv) hj
  have e : L[j] = L.getD j default := by simp [List.getD, hj]
  rw [e, Nat.zero_add]
  exact ⟨tv j, (hc 0 (by omega)).trans g0, (hc 1 (by omega)).trans g1, (hc 2 (by omega)).trans g2, ht j hj⟩
theorem row_snaps {W : World} {B : Nat} {v : Value} {S : List SnapD} {qv : Nat → Value} (h : W.ownsRow B 76 3 v S.length (flatN S qv)) (ht : ∀ j, j < S.length → Sl W (qv j) (S.getD j default).2.2) : Snaps W v S := by
 have h' := h
 rcases row_form h with ⟨rfl, hn⟩ | ⟨g, cap, rfl, hb, hg, hnc, hcm⟩
 ·have : S = [] := List.eq_nil_of_length_eq_zero hn
  subst this; exact ⟨none, 0, rfl, Nat.zero_le _, Nat.zero_le _, fun h => absurd rfl h⟩
 ·refine ⟨_, cap, rfl, Nat.le_trans hnc hcm, hnc, fun _ => ⟨g, 0, rfl, hg, fun j hj => ?_⟩⟩
  have hc := fun i (hi : i < 3) => h'.cellAt (j * 3 + i) (by omega)
  obtain ⟨g0, g1, g2⟩ := flatN_get (qv := qv) hj
  have e : S[j] = S.getD j default := by simp [List.getD, hj]
  rw [e, Nat.zero_add]
  exact ⟨qv j, (hc 0 (by omega)).trans g0, (hc 1 (by omega)).trans g1, (hc 2 (by omega)).trans g2, ht j hj⟩
theorem OI.img {W : World} {B : Nat} {val : Nm → Value} {m : ImgD} (h : OI W B val m) : Img W (imgV m.guest val) m :=
 ⟨_, _, _, _, rfl, row_sl (h.row .root (Live.root m)), row_slots (h.row .slots (Live.slots m)) (fun j hj => row_sl (h.row (.tab j) (Live.tab hj))), row_sl (h.row .refs (Live.refs m)), row_snaps (h.row .snaps (Live.snaps m)) (fun j hj => row_sl (h.row (.sr j) (Live.sr hj)))⟩
theorem OI.store {W : World} {B : Nat} {val : Nm → Value} {m m' : ImgD} (h : OI W B val m) {a : Nm} (ha : Live m a) {g n cap : Nat} (hv : val a = .slice (some ⟨g, 0, none⟩) n cap) (i : Nat) (u : Value)
  (hlive : ∀ b, Live m' b ↔ Live m b) (hn : ∀ b, Live m b → rowN m' b = rowN m b) (hsame : ∀ b, Live m b → b ≠ a → rowV m' val b = rowV m val b) (hset : rowV m' val a = (rowV m val a).set i u) : OI (W.setCell ⟨g, i, none⟩ u) B val m' := by
 refine ⟨fun b hb => ?_, fun b c hb hc => h.apart b c ((hlive b).1 hb) ((hlive c).1 hc)⟩
 have hb := (hlive b).1 hb
 rw [hn b hb]
 by_cases e : b = a
 ·subst e
  have hr := h.row b hb
  rw [hset]
  have hnn : n = rowN m b := by
   rcases row_form hr with ⟨e, _⟩ | ⟨g', cap', e, _⟩
   ·rw [hv] at e; simp at e
   ·rw [hv] at e; simp at e; exact e.2.1
  subst hnn
  rw [hv] at hr ⊢
  exact (hr.stored i u).1
 ·rw [hsame b hb e]
  exact ownsRow_setCell_other (h.row b hb) (h.apart a b ha hb (fun x => e x.symm) g (by rw [hv]; rfl)) u
theorem getD_setR (l : List SlotD) (i j : Nat) (s : SlotD) : (l.set i s).getD j default = if i = j ∧ j < l.length then s else l.getD j default := by
 by_cases hj : j < l.length
 ·by_cases e : i = j
  ·subst e; simp [List.getD, hj]
  ·simp [List.getD, e]
 ·simp [List.getD, hj]
theorem ints_set (l : List Int) (i : Nat) (x : Int) : ints (l.set i x) = (ints l).set i (.int .i64 x) := by unfold ints; rw [List.map_set]
theorem OI.setRoot {W : World} {B : Nat} {val : Nm → Value} {m : ImgD} (h : OI W B val m) {g n cap : Nat} (hv : val .root = .slice (some ⟨g, 0, none⟩) n cap) (i : Nat) (x : Int) : OI (W.setCell ⟨g, i, none⟩ (.int .i64 x)) B val { m with root := m.root.set i x } := by
 refine h.store (a := .root) (Live.root m) hv i _ (live_iff rfl rfl) (fun b hb => ?_) (fun b hb hne => ?_) (ints_set _ _ _)
 ·rcases hb.cases with rfl | rfl | rfl | rfl | ⟨j, rfl, hj⟩ | ⟨j, rfl, hj⟩ <;> first | rfl | exact List.length_set
 ·rcases hb.cases with rfl | rfl | rfl | rfl | ⟨j, rfl, hj⟩ | ⟨j, rfl, hj⟩ <;> first | rfl | exact absurd rfl hne
theorem OI.setRefs {W : World} {B : Nat} {val : Nm → Value} {m : ImgD} (h : OI W B val m) {g n cap : Nat} (hv : val .refs = .slice (some ⟨g, 0, none⟩) n cap) (i : Nat) (x : Int) : OI (W.setCell ⟨g, i, none⟩ (.int .i64 x)) B val { m with refs := m.refs.set i x } := by
 refine h.store (a := .refs) (Live.refs m) hv i _ (live_iff rfl rfl) (fun b hb => ?_) (fun b hb hne => ?_) (ints_set _ _ _)
 ·rcases hb.cases with rfl | rfl | rfl | rfl | ⟨j, rfl, hj⟩ | ⟨j, rfl, hj⟩ <;> first | rfl | exact List.length_set
 ·rcases hb.cases with rfl | rfl | rfl | rfl | ⟨j, rfl, hj⟩ | ⟨j, rfl, hj⟩ <;> first | rfl | exact absurd rfl hne
theorem OI.setTab {W : World} {B : Nat} {val : Nm → Value} {m : ImgD} (h : OI W B val m) {t : Nat} (ht : t < m.slots.length) {g n cap : Nat} (hv : val (.tab t) = .slice (some ⟨g, 0, none⟩) n cap) (i : Nat) (x : Int) :
  OI (W.setCell ⟨g, i, none⟩ (.int .i64 x)) B val { m with slots := m.slots.set t ((m.slots.getD t default).1, (m.slots.getD t default).2.1, (m.slots.getD t default).2.2.set i x) } := by
 have hg := fun j => getD_setR m.slots t j ((m.slots.getD t default).1, (m.slots.getD t default).2.1, (m.slots.getD t default).2.2.set i x)
 refine h.store (a := .tab t) (Live.tab ht) hv i _ (live_iff List.length_set rfl) (fun b hb => ?_) (fun b hb hne => ?_) ?_
 ·rcases hb.cases with rfl | rfl | rfl | rfl | ⟨j, rfl, hj⟩ | ⟨j, rfl, hj⟩ <;> first | rfl | exact List.length_set | skip
  show ((m.slots.set t _).getD j default).2.2.length = (m.slots.getD j default).2.2.length
  rw [hg]
  split
  ·rename_i e; rw [← e.1]; exact List.length_set
  ·rfl
 ·rcases hb.cases with rfl | rfl | rfl | rfl | ⟨j, rfl, hj⟩ | ⟨j, rfl, hj⟩ <;> first | rfl | skip
  ·show flatS (m.slots.set t _) _ = flatS m.slots _
   unfold flatS
   rw [List.length_set]
   refine congrArg List.flatten (List.map_congr_left fun j _ => ?_)
   rw [hg]
   split
   ·rename_i e; rw [← e.1]
   ·rfl
  ·show ints ((m.slots.set t _).getD j default).2.2 = ints (m.slots.getD j default).2.2
   rw [hg, if_neg (fun e => hne (by rw [e.1]))]
 ·show ints ((m.slots.set t _).getD t default).2.2 = (ints (m.slots.getD t default).2.2).set i _
  rw [hg, if_pos ⟨rfl, ht⟩]; exact ints_set _ _ _
end Go.Proofs.YtehleeibgkpjmaeGreat
namespace Go.Proofs.YtehleeibgkpjmaeGreat
open Go.RowKit
set_option maxRecDepth 20000
def upd (val : Nm → Value) (a : Nm) (v : Value) : Nm → Value := fun b => if b.kind = a.kind ∧ b.ix = a.ix then v else val b
theorem upd_same (val : Nm → Value) (a : Nm) (v : Value) : upd val a v a = v := by unfold upd; rw [if_pos ⟨rfl, rfl⟩]
theorem upd_other (val : Nm → Value) {a b : Nm} (v : Value) (h : b ≠ a) : upd val a v b = val b := by
 unfold upd
 rw [if_neg]
 intro e
 apply h
 obtain ⟨k, i⟩ := a
 obtain ⟨k', i'⟩ := b
 obtain ⟨e1, e2⟩ := e
 dsimp only at e1 e2
 rw [e1, e2]
def Far (m : ImgD) (val : Nm → Value) (a : Nm) (v : Value) : Prop := ∀ b, Live m b → b ≠ a → ∀ g, v.ownBlock = some g → (val b).ownBlock ≠ some g
theorem far_new {W : World} {B : Nat} {val : Nm → Value} {m : ImgD} (h : OI W B val m) (a : Nm) {v : Value} (hv : ∀ g, v.ownBlock = some g → W.heap.size ≤ g) : Far m val a v := fun b hb _ g hg e => by
 have := ((h.row b hb).lt g e).2
 have := hv g hg
 omega
theorem far_nil (m : ImgD) (val : Nm → Value) (a : Nm) (n cap : Nat) : Far m val a (.slice none n cap) := fun _ _ _ g hg => by cases hg
theorem OI.swap {W : World} {B : Nat} {val : Nm → Value} {m m' : ImgD} (h : OI W B val m) {a : Nm} (ha : Live m a) {v : Value} (hv : W.ownsRow B (rowT a) (rowS a) v (rowN m' a) (rowV m' (upd val a v) a)) (hfar : Far m val a v)
  (hlive : ∀ b, Live m' b ↔ Live m b) (hsame : ∀ b, Live m b → b ≠ a → rowN m' b = rowN m b ∧ rowV m' (upd val a v) b = rowV m val b) : OI W B (upd val a v) m' := by
 refine ⟨fun b hb => ?_, fun b c hb hc hne g hg => ?_⟩
 ·have hb := (hlive b).1 hb
  by_cases e : b = a
  ·subst e; rw [upd_same]; exact hv
  ·rw [upd_other val v e, (hsame b hb e).1, (hsame b hb e).2]; exact h.row b hb
 ·have hb := (hlive b).1 hb
  have hc := (hlive c).1 hc
  by_cases e : b = a
  ·subst e
   rw [upd_same] at hg
   rw [upd_other val v (fun x => hne x.symm)]
   exact hfar c hc (fun x => hne x.symm) g hg
  ·rw [upd_other val v e] at hg
   by_cases e2 : c = a
   ·subst e2
    rw [upd_same]
    exact fun x => hfar b hb e g x hg
   ·rw [upd_other val v e2]; exact h.apart b c hb hc hne g hg
theorem OI.swapRoot {W : World} {B : Nat} {val : Nm → Value} {m : ImgD} (h : OI W B val m) {v : Value} {r : List Int} (hv : W.ownsRow B 3 1 v r.length (ints r)) (hfar : Far m val .root v) (g : Int) : OI W B (upd val .root v) { m with guest := g, root := r } := by
 refine h.swap (a := .root) (Live.root m) hv hfar (live_iff rfl rfl) (fun b hb hne => ?_)
 rcases hb.cases with rfl | rfl | rfl | rfl | ⟨j, rfl, hj⟩ | ⟨j, rfl, hj⟩ <;> first | exact ⟨rfl, rfl⟩ | exact absurd rfl hne
theorem OI.swapRefs {W : World} {B : Nat} {val : Nm → Value} {m : ImgD} (h : OI W B val m) {v : Value} {r : List Int} (hv : W.ownsRow B 3 1 v r.length (ints r)) (hfar : Far m val .refs v) : OI W B (upd val .refs v) { m with refs := r } := by
 refine h.swap (a := .refs) (Live.refs m) hv hfar (live_iff rfl rfl) (fun b hb hne => ?_)
 rcases hb.cases with rfl | rfl | rfl | rfl | ⟨j, rfl, hj⟩ | ⟨j, rfl, hj⟩ <;> first | exact ⟨rfl, rfl⟩ | exact absurd rfl hne
theorem flat3_length (f : Nat → Value × Value × Value) (n : Nat) : ((List.range n).flatMap (fun j => [(f j).1, (f j).2.1, (f j).2.2])).length = n * 3 := by
 induction n with
 | zero => rfl
 | succ n ih => rw [List.range_succ, List.flatMap_append, List.length_append, ih]; simp; omega
theorem flatS_length (L : List SlotD) (tv : Nat → Value) : (flatS L tv).length = L.length * 3 := flat3_length (fun j => (.int .i64 (L.getD j default).1, .string (L.getD j default).2.1, tv j)) L.length
theorem flatN_length (S : List SnapD) (qv : Nat → Value) : (flatN S qv).length = S.length * 3 := flat3_length (fun j => (.string (S.getD j default).1, .int .i64 (S.getD j default).2.1, qv j)) S.length
theorem flatS_set {L : List SlotD} {tv tv' : Nat → Value} {t : Nat} (k : Int) (d : ByteArray) (es : List Int) (htv : ∀ j, j ≠ t → tv' j = tv j) :
  flatS (L.set t (k, d, es)) tv' = (((flatS L tv).set (t * 3) (.int .i64 k)).set (t * 3 + 1) (.string d)).set (t * 3 + 2) (tv' t) := by
 apply List.ext_getElem?
 intro i
 rcases Nat.lt_or_ge i (L.length * 3) with hi | hi
 ·obtain ⟨j, r, hj, hr, rfl⟩ : ∃ j r, j < L.length ∧ r < 3 ∧ i = j * 3 + r := ⟨i / 3, i % 3, by omega, Nat.mod_lt _ (by decide), by omega⟩
  obtain ⟨a0, a1, a2⟩ := flatS_get (L := L.set t (k, d, es)) (tv := tv') (j := j) (by rw [List.length_set]; exact hj)
  obtain ⟨b0, b1, b2⟩ := flatS_get (L := L) (tv := tv) hj
  rw [getD_setR] at a0 a1
  have hlen := flatS_length L tv
  by_cases e : t = j
  ·subst e
   rw [if_pos ⟨rfl, hj⟩] at a0 a1
   match r, hr with
   | 0, _ => rw [Nat.add_zero, a0, List.getElem?_set_ne (by omega), List.getElem?_set_ne (by omega), List.getElem?_set_self (by rw [hlen]; omega)]
   | 1, _ => rw [a1, List.getElem?_set_ne (by omega), List.getElem?_set_self (by rw [List.length_set, hlen]; omega)]
   | 2, _ => rw [a2, List.getElem?_set_self (by rw [List.length_set, List.length_set, hlen]; omega)]
  ·rw [if_neg (fun x => e x.1)] at a0 a1
   rw [htv j (fun x => e x.symm)] at a2
   rw [List.getElem?_set_ne (by omega), List.getElem?_set_ne (by omega), List.getElem?_set_ne (by omega)]
   match r, hr with
   | 0, _ => rw [Nat.add_zero, a0, b0]
   | 1, _ => rw [a1, b1]
   | 2, _ => rw [a2, b2]
 ·rw [List.getElem?_eq_none (by rw [flatS_length, List.length_set]; exact hi), List.getElem?_eq_none (by rw [List.length_set, List.length_set, List.length_set, flatS_length]; exact hi)]
theorem OI.setSlot {W : World} {B : Nat} {val : Nm → Value} {m : ImgD} (h : OI W B val m) {t : Nat} (ht : t < m.slots.length) {g n cap : Nat} (hv : val .slots = .slice (some ⟨g, 0, none⟩) n cap) (k : Int) (d : ByteArray) (es : List Int) {ev : Value}
  (hev : W.ownsRow B 3 1 ev es.length (ints es)) (hfar : Far m val (.tab t) ev) :
  OI (((W.setCell ⟨g, t * 3, none⟩ (.int .i64 k)).setCell ⟨g, t * 3 + 1, none⟩ (.string d)).setCell ⟨g, t * 3 + 2, none⟩ ev) B (upd val (.tab t) ev) { m with slots := m.slots.set t (k, d, es) } := by
 have hgd := fun j => getD_setR m.slots t j (k, d, es)
 have hnn : n = m.slots.length := by
  rcases row_form (h.row .slots (Live.slots m)) with ⟨e, _⟩ | ⟨g', cap', e, _⟩
  ·rw [hv] at e; simp at e
  ·rw [hv] at e; simp at e; exact e.2.1
 have hoth : ∀ {e : TypeId} {size : Nat} {v : Value} {q : Nat} {xs : List Value}, W.ownsRow B e size v q xs → v.ownBlock ≠ some g →
   (((W.setCell ⟨g, t * 3, none⟩ (.int .i64 k)).setCell ⟨g, t * 3 + 1, none⟩ (.string d)).setCell ⟨g, t * 3 + 2, none⟩ ev).ownsRow B e size v q xs := fun hr hne =>
  ownsRow_setCell_other (ownsRow_setCell_other (ownsRow_setCell_other hr hne _) hne _) hne _
 refine ⟨fun b hb => ?_, fun b c hb hc hne q hq => ?_⟩
 ·have hb' : Live m b := (live_iff (m := m) (m' := { m with slots := m.slots.set t (k, d, es) }) List.length_set rfl b).1 hb
  by_cases es0 : b = .slots
  ·subst es0
   rw [upd_other val ev (by intro x; cases x)]
   have hr := h.row .slots hb'
   have e1 : rowV { m with slots := m.slots.set t (k, d, es) } (upd val (.tab t) ev) .slots = (((rowV m val .slots).set (t * 3) (.int .i64 k)).set (t * 3 + 1) (.string d)).set (t * 3 + 2) ev := by
    have := flatS_set (L := m.slots) (tv := fun j => val (.tab j)) (tv' := fun j => upd val (.tab t) ev (.tab j)) (t := t) k d es (fun j hj => upd_other val ev (by intro x; apply hj; injection x))
    rw [upd_same] at this
    exact this
   have e2 : rowN { m with slots := m.slots.set t (k, d, es) } .slots = rowN m .slots := List.length_set
   rw [e1, e2]
   have hN : rowN m .slots = n := hnn.symm
   rw [hN] at hr ⊢
   rw [hv] at hr ⊢
   exact ((((hr.stored (t * 3) (.int .i64 k)).1).stored (t * 3 + 1) (.string d)).1.stored (t * 3 + 2) ev).1
  ·have hbg : (val b).ownBlock ≠ some g := h.apart .slots b (Live.slots m) hb' (fun x => es0 x.symm) g (by rw [hv]; rfl)
   by_cases et : b = .tab t
   ·subst et
    rw [upd_same]
    have e1 : rowV { m with slots := m.slots.set t (k, d, es) } (upd val (.tab t) ev) (.tab t) = ints es := by
     show ints ((m.slots.set t (k, d, es)).getD t default).2.2 = _
     rw [hgd, if_pos ⟨rfl, ht⟩]
    have e2 : rowN { m with slots := m.slots.set t (k, d, es) } (.tab t) = es.length := by
     show ((m.slots.set t (k, d, es)).getD t default).2.2.length = _
     rw [hgd, if_pos ⟨rfl, ht⟩]
    rw [e1, e2]
    exact hoth hev (fun x => hfar .slots (Live.slots m) (by intro y; cases y) g x (by rw [hv]; rfl))
   ·rw [upd_other val ev et]
    have e1 : rowV { m with slots := m.slots.set t (k, d, es) } (upd val (.tab t) ev) b = rowV m val b ∧ rowN { m with slots := m.slots.set t (k, d, es) } b = rowN m b := by
     rcases hb'.cases with rfl | rfl | rfl | rfl | ⟨j, rfl, hj⟩ | ⟨j, rfl, hj⟩
     ·exact ⟨rfl, rfl⟩
     ·exact absurd rfl es0
     ·exact ⟨rfl, rfl⟩
     ·exact ⟨rfl, rfl⟩
     ·have hjt : t ≠ j := fun x => et (by rw [x])
      constructor
      ·show ints ((m.slots.set t (k, d, es)).getD j default).2.2 = ints (m.slots.getD j default).2.2
       rw [hgd, if_neg (fun x => hjt x.1)]
      ·show ((m.slots.set t (k, d, es)).getD j default).2.2.length = (m.slots.getD j default).2.2.length
       rw [hgd, if_neg (fun x => hjt x.1)]
     ·exact ⟨rfl, rfl⟩
    rw [e1.1, e1.2]
    exact hoth (h.row b hb') hbg
 ·have hb' : Live m b := (live_iff (m := m) (m' := { m with slots := m.slots.set t (k, d, es) }) List.length_set rfl b).1 hb
  have hc' : Live m c := (live_iff (m := m) (m' := { m with slots := m.slots.set t (k, d, es) }) List.length_set rfl c).1 hc
  by_cases e : b = .tab t
  ·subst e
   rw [upd_same] at hq
   rw [upd_other val ev (fun x => hne x.symm)]
   exact hfar c hc' (fun x => hne x.symm) q hq
  ·rw [upd_other val ev e] at hq
   by_cases e2 : c = .tab t
   ·subst e2; rw [upd_same]; exact fun x => hfar b hb' e q x hq
   ·rw [upd_other val ev e2]; exact h.apart b c hb' hc' hne q hq
theorem flatS_snoc (L : List SlotD) (tv tv' : Nat → Value) (s : SlotD) (htv : ∀ j, j < L.length → tv' j = tv j) : flatS (L ++ [s]) tv' = flatS L tv ++ [.int .i64 s.1, .string s.2.1, tv' L.length] := by
 unfold flatS
 rw [List.length_append, List.length_singleton, List.range_succ, List.flatMap_append]
 have e1 : (List.range L.length).flatMap (fun j => [Value.int .i64 ((L ++ [s]).getD j default).1, .string ((L ++ [s]).getD j default).2.1, tv' j]) = (List.range L.length).flatMap (fun j => [Value.int .i64 (L.getD j default).1, .string (L.getD j default).2.1, tv j]) := by
  refine congrArg List.flatten (List.map_congr_left fun j hj => ?_)
  have hj := List.mem_range.1 hj
  have e : (L ++ [s]).getD j default = L.getD j default := by simp [List.getD, List.getElem?_append, hj]
  rw [e, htv j hj]
 rw [e1]
 simp
theorem OI.addSlot {W W' : World} {B : Nat} {val : Nm → Value} {m : ImgD} (h : OI W B val m) {k : Int} {d : ByteArray} {es : List Int} {ev sv : Value} (hev : W.ownsRow B 3 1 ev es.length (ints es)) (hfar : Far m val (.tab m.slots.length) ev)
  (hgrow : W.grownBy W' (val .slots).ownBlock) (hrow : W'.ownsRow B 58 3 sv (m.slots.length + 1) (flatS m.slots (fun j => val (.tab j)) ++ [.int .i64 k, .string d, ev])) (hblk : sv.ownBlock = (val .slots).ownBlock ∨ ∀ g, sv.ownBlock = some g → W.heap.size ≤ g) :
  OI W' B (upd (upd val (.tab m.slots.length) ev) .slots sv) { m with slots := m.slots ++ [(k, d, es)] } := by
 have hval : ∀ b, b ≠ .slots → b ≠ .tab m.slots.length → upd (upd val (.tab m.slots.length) ev) .slots sv b = val b := fun b h1 h2 => by rw [upd_other _ sv h1, upd_other _ ev h2]
 have hvs : upd (upd val (.tab m.slots.length) ev) .slots sv .slots = sv := upd_same _ _ _
 have hvt : upd (upd val (.tab m.slots.length) ev) .slots sv (.tab m.slots.length) = ev := by rw [upd_other _ sv (by intro x; cases x), upd_same]
 have hcase : ∀ b, Live { m with slots := m.slots ++ [(k, d, es)] } b → b = .slots ∨ b = .tab m.slots.length ∨ (Live m b ∧ b ≠ .slots ∧ b ≠ .tab m.slots.length) := fun b hb => by
  rcases hb.cases with rfl | rfl | rfl | rfl | ⟨j, rfl, hj⟩ | ⟨j, rfl, hj⟩
  ·exact .inr (.inr ⟨Live.root m, (by intro x; cases x), (by intro x; cases x)⟩)
  ·exact .inl rfl
  ·exact .inr (.inr ⟨Live.refs m, (by intro x; cases x), (by intro x; cases x)⟩)
  ·exact .inr (.inr ⟨Live.snaps m, (by intro x; cases x), (by intro x; cases x)⟩)
  ·by_cases e : j = m.slots.length
   ·subst e; exact .inr (.inl rfl)
   ·refine .inr (.inr ⟨Live.tab (by simp at hj; omega), (by intro x; cases x), ?_⟩)
    intro x; apply e; injection x
  ·exact .inr (.inr ⟨Live.sr hj, (by intro x; cases x), (by intro x; cases x)⟩)
 have hnot : ∀ b, Live m b → b ≠ .slots → (val b).ownBlock = none ∨ (val b).ownBlock ≠ (val .slots).ownBlock := fun b hb hne => by
  cases hg : (val b).ownBlock with
  | none => exact .inl rfl
  | some g => exact .inr (fun x => h.apart b .slots hb (Live.slots m) hne g hg x.symm)
 have hevn : ev.ownBlock = none ∨ ev.ownBlock ≠ (val .slots).ownBlock := by
  cases hg : ev.ownBlock with
  | none => exact .inl rfl
  | some g => exact .inr (fun x => hfar .slots (Live.slots m) (by intro y; cases y) g hg x.symm)
 have hsvfar : ∀ b, Live m b → b ≠ .slots → ∀ g, sv.ownBlock = some g → (val b).ownBlock ≠ some g := fun b hb hne g hg hx => by
  rcases hblk with e | e
  ·rw [e] at hg; exact h.apart b .slots hb (Live.slots m) hne g hx hg
  ·have := ((h.row b hb).lt g hx).2
   have := e g hg
   omega
 have hsvev : ∀ g, sv.ownBlock = some g → ev.ownBlock ≠ some g := fun g hg hx => by
  rcases hblk with e | e
  ·rw [e] at hg; exact hfar .slots (Live.slots m) (by intro y; cases y) g hx hg
  ·have := (hev.lt g hx).2
   have := e g hg
   omega
 refine ⟨fun b hb => ?_, fun b c hb hc hne q hq => ?_⟩
 ·rcases hcase b hb with rfl | rfl | ⟨hb', h1, h2⟩
  ·rw [hvs]
   have e1 : rowV { m with slots := m.slots ++ [(k, d, es)] } (upd (upd val (.tab m.slots.length) ev) .slots sv) .slots = flatS m.slots (fun j => val (.tab j)) ++ [.int .i64 k, .string d, ev] := by
    have := flatS_snoc m.slots (fun j => val (.tab j)) (fun j => upd (upd val (.tab m.slots.length) ev) .slots sv (.tab j)) (k, d, es) (fun j hj => hval _ (by intro x; cases x) (by intro x; injection x with _ x; omega))
    rw [hvt] at this
    exact this
   have e2 : rowN { m with slots := m.slots ++ [(k, d, es)] } .slots = m.slots.length + 1 := by show (m.slots ++ [(k, d, es)]).length = _; simp
   rw [e1, e2]; exact hrow
  ·rw [hvt]
   have e0 : (m.slots ++ [(k, d, es)]).getD m.slots.length default = (k, d, es) := by simp [List.getD]
   have e1 : rowV { m with slots := m.slots ++ [(k, d, es)] } (upd (upd val (.tab m.slots.length) ev) .slots sv) (.tab m.slots.length) = ints es := by
    show ints ((m.slots ++ [(k, d, es)]).getD m.slots.length default).2.2 = _
    rw [e0]
   have e2 : rowN { m with slots := m.slots ++ [(k, d, es)] } (.tab m.slots.length) = es.length := by
    show ((m.slots ++ [(k, d, es)]).getD m.slots.length default).2.2.length = _
    rw [e0]
   rw [e1, e2]
   exact hev.kept hgrow hevn
  ·rw [hval b h1 h2]
   have e1 : rowV { m with slots := m.slots ++ [(k, d, es)] } (upd (upd val (.tab m.slots.length) ev) .slots sv) b = rowV m val b ∧ rowN { m with slots := m.slots ++ [(k, d, es)] } b = rowN m b := by
    rcases hb'.cases with rfl | rfl | rfl | rfl | ⟨j, rfl, hj⟩ | ⟨j, rfl, hj⟩
    ·exact ⟨rfl, rfl⟩
    ·exact absurd rfl h1
    ·exact ⟨rfl, rfl⟩
    ·refine ⟨?_, rfl⟩
     show flatN m.snaps _ = flatN m.snaps _
     unfold flatN
     refine congrArg List.flatten (List.map_congr_left fun j _ => ?_)
     dsimp only
     rw [hval (.sr j) (by intro x; cases x) (by intro x; cases x)]
    ·have e : (m.slots ++ [(k, d, es)]).getD j default = m.slots.getD j default := by simp [List.getD, List.getElem?_append, hj]
     constructor
     ·show ints ((m.slots ++ [(k, d, es)]).getD j default).2.2 = _
      rw [e]; rfl
     ·show ((m.slots ++ [(k, d, es)]).getD j default).2.2.length = _
      rw [e]; rfl
    ·exact ⟨rfl, rfl⟩
   rw [e1.1, e1.2]
   exact (h.row b hb').kept hgrow (hnot b hb' h1)
 ·rcases hcase b hb with rfl | rfl | ⟨hb', h1, h2⟩
  ·rw [hvs] at hq
   rcases hcase c hc with rfl | rfl | ⟨hc', g1, g2⟩
   ·exact absurd rfl hne
   ·rw [hvt]; exact hsvev q hq
   ·rw [hval c g1 g2]; exact hsvfar c hc' g1 q hq
  ·rw [hvt] at hq
   rcases hcase c hc with rfl | rfl | ⟨hc', g1, g2⟩
   ·rw [hvs]; exact fun x => hsvev q x hq
   ·exact absurd rfl hne
   ·rw [hval c g1 g2]; exact hfar c hc' g2 q hq
  ·rw [hval b h1 h2] at hq
   rcases hcase c hc with rfl | rfl | ⟨hc', g1, g2⟩
   ·rw [hvs]; exact fun x => hsvfar b hb' h1 q x hq
   ·rw [hvt]; exact fun x => hfar b hb' h2 q x hq
   ·rw [hval c g1 g2]; exact h.apart b c hb' hc' hne q hq
end Go.Proofs.YtehleeibgkpjmaeGreat
namespace Go.Proofs.YtehleeibgkpjmaeGreat
open Go.RowKit
set_option maxRecDepth 20000
theorem empty_row {W : World} {g B : Nat} {T : TypeId} {size : Nat} (hg : W.heap[g]? = some (.cells #[] T)) (hB : B ≤ g) : W.ownsRow B T size (.slice (some ⟨g, 0, none⟩) 0 0) 0 [] :=
 ⟨by simp, .inr ⟨g, 0, #[], rfl, hB, hg, Nat.le_refl _, Nat.zero_le _, by simp, by simp⟩⟩
theorem run_append_nil (W : World) (ty : TypeId) (g n c : Nat) (hn : n ≤ c) (c' : Nat) : (Builtin.append_ #[23, 23] ty #[.slice (some ⟨g, 0, none⟩) n c, .slice none 0 c']).run Tryz.prog W = .ok (.slice (some ⟨g, 0, none⟩) n c) W := by
 simp [Builtin.append_, go_sem, hn]
theorem run_copy {W : World} (ty : TypeId) {g B : Nat} (hg : W.heap[g]? = some (.cells #[] 3)) (hB : B ≤ g) {src : Value} {xs : List Int} (hsl : Sl W src xs) (hlen : xs.length ≤ 1000) :
  ∃ v' w', (Builtin.append_ #[23, 23] ty #[.slice (some ⟨g, 0, none⟩) 0 0, src]).run Tryz.prog W = .ok v' w' ∧ w'.ownsRow B 3 1 v' xs.length (ints xs) ∧ W.grownBy w' (some g) ∧ (v'.ownBlock = some g ∨ v'.ownBlock = some W.heap.size) := by
 have hgl := (szH hg)
 obtain ⟨ao, cap, rfl, hm, hcp, hc⟩ := hsl
 cases ao with
 | none =>
  have hx : xs = [] := Classical.byContradiction fun hne => by obtain ⟨_, _, e, _⟩ := hc hne; cases e
  subst hx
  refine ⟨_, W, run_append_nil W ty g 0 0 (Nat.le_refl _) cap, empty_row hg hB, ⟨rfl, rfl, rfl, Nat.le_refl _, fun _ _ _ => rfl⟩, .inl rfl⟩
 | some a =>
  obtain ⟨i0, hi, hz0, hz1, hz2⟩ := info_parts info3
  have hnews : ∀ j u, (ints xs)[j]? = some u → W.cell? (a.add j) = some u := fun j u hu => by
   have hj : j < xs.length := by
    rcases Nat.lt_or_ge j xs.length with h | h
    ·exact h
    ·rw [List.getElem?_eq_none (by rw [ints_length]; exact h)] at hu; cases hu
   obtain ⟨b, off, e, _, hcell⟩ := hc (by intro e; rw [e] at hj; simp at hj)
   simp only [Option.some.injEq] at e
   subst e
   rw [addr_add, hcell j hj]
   unfold ints at hu
   rw [List.getElem?_map, List.getElem?_eq_getElem hj] at hu
   simp at hu
   simp [List.getD, hj, hu]
  obtain ⟨v', w', h1, h2, h3, _, h5⟩ := run_append_own_at (P := Tryz.prog) W B 23 ty 3 i0 (.int .i64 0) 1 8 Tryz.underlying23 hi hz0 hz1 hz2 rfl (by decide) (.slice (some ⟨g, 0, none⟩) 0 0) 0 [] (empty_row hg hB) a xs.length cap (ints xs) (by rw [ints_length]; omega) hnews (ints_oneCell .i64 xs) (by omega) (by omega) (by omega)
  exact ⟨v', w', h1, by simpa using h2, h3, h5⟩
theorem wp_copy {W : World} {o : Oper} {a : Act} {K : Act → World → Prop} {Q : Exit → Act → World → Prop} (s x : Operand) (ho : o.op = .call { callee := .builtin .append, args := #[s, x], argTypes := #[23, 23] })
  {g B : Nat} (hs : a.eval s = .slice (some ⟨g, 0, none⟩) 0 0) (hg : W.heap[g]? = some (.cells #[] 3)) (hB : B ≤ g) {src : Value} {xs : List Int} (hx : a.eval x = src) (hsl : Sl W src xs) (hlen : xs.length ≤ 1000)
  (h : ∀ v' w', Hid (w'.ownsRow B 3 1 v' xs.length (ints xs)) → W.grownBy w' (some g) → Hid (v'.ownBlock = some g ∨ v'.ownBlock = some W.heap.size) → K (a.put o.dst v') w') : o.wp Tryz.prog a W K Q := by
 obtain ⟨v', w', hr, h2, h3, h4⟩ := run_copy o.type hg hB hsl hlen
 unfold Oper.wp execOp
 simp only [ho, resolve, invoke, builtin, Sem.run_bind, Sem.run_pure, Result.andThen_ok, List.map_toArray, List.map_cons, List.map_nil, hs, hx, hr]
 exact h v' w' h2 h3 h4
theorem wpList_copy {W : World} {ops : Array Oper} {rest : List Oper} {o : Oper} {a : Act} {Q : Exit → Act → World → Prop} (hgd : o.guard = none) (s x : Operand) (ho : o.op = .call { callee := .builtin .append, args := #[s, x], argTypes := #[23, 23] })
  {g B : Nat} (hs : a.eval s = .slice (some ⟨g, 0, none⟩) 0 0) (hg : W.heap[g]? = some (.cells #[] 3)) (hB : B ≤ g) {src : Value} {xs : List Int} (hx : a.eval x = src) (hsl : Sl W src xs) (hlen : xs.length ≤ 1000)
  (h : ∀ v' w', Hid (w'.ownsRow B 3 1 v' xs.length (ints xs)) → W.grownBy w' (some g) → Hid (v'.ownBlock = some g ∨ v'.ownBlock = some W.heap.size) → wpList Tryz.prog ops Q rest (a.put o.dst v') w') : wpList Tryz.prog ops Q (o :: rest) a W :=
 wpList_plain hgd fun _ hK => wp_copy s x ho hs hg hB hx hsl hlen fun v' w' h2 h3 h4 => hK _ _ (h v' w' h2 h3 h4)
theorem infoSlot : (Tryz.prog.info? 58).map (fun i => (i.zero, i.size, i.bytes)) = some (some (.agg #[.int .i64 0, .string ByteArray.empty, .slice none 0 0]), 3, 48) := by kernel_rfl
theorem infoSnap : (Tryz.prog.info? 76).map (fun i => (i.zero, i.size, i.bytes)) = some (some (.agg #[.string ByteArray.empty, .int .i64 0, .slice none 0 0]), 3, 48) := by kernel_rfl
theorem three_new (W : World) (T : TypeId) (x y z : Value) : ∀ (j : Nat) (u : Value), [x, y, z][j]? = some u → (W.alloc (.cells #[x, y, z] T)).cell? ((⟨W.heap.size, 0, none⟩ : Addr).add j) = some u := by
 intro j u hj
 rw [addr_add, World.cell?_alloc_at _ _ _ _ rfl]
 match j, hj with
 | 0, hj => simpa using hj
 | 1, hj => simpa using hj
 | 2, hj => simpa using hj
theorem wp_app3 {W : World} {o : Oper} {a : Act} {K : Act → World → Prop} {Q : Exit → Act → World → Prop} (s x : Operand) (t e : TypeId) (z0 : Value) (ht : Tryz.prog.underlying t = some (.slice e)) (hinfo : (Tryz.prog.info? e).map (fun i => (i.zero, i.size, i.bytes)) = some (some z0, 3, 48)) (hz3 : z0.cells.size = 3)
  (ho : o.op = .call { callee := .builtin .append, args := #[s, x], argTypes := #[t, t] }) {B n : Nat} {v : Value} {xs : List Value} {c0 c1 c2 : Value} (h1 : c0.oneCell' = true) (h2 : c1.oneCell' = true) (h3 : c2.oneCell' = true)
  (hs : a.eval s = v) {N : Nat} (hx : a.eval x = .slice (some ⟨N, 0, none⟩) 1 1) (hN : N = W.heap.size) (hown : W.ownsRow B e 3 v n xs) (hn : n ≤ 1000) (hB : B ≤ W.heap.size)
  (h : ∀ v' w', Hid (w'.ownsRow B e 3 v' (n + 1) (xs ++ [c0, c1, c2])) → (W.alloc (.cells #[c0, c1, c2] e)).grownBy w' v.ownBlock → Hid (v'.ownBlock = v.ownBlock ∨ v'.ownBlock = some (W.heap.size + 1)) → K (a.put o.dst v') w') : o.wp Tryz.prog a (W.alloc (.cells #[c0, c1, c2] e)) K Q := by
 subst hN
 obtain ⟨i0, hi, hz0, hz1, hz2⟩ := info_parts hinfo
 obtain ⟨v', w', hr, g2, g3, _, g5⟩ := run_append_own_at (P := Tryz.prog) (W.alloc (.cells #[c0, c1, c2] e)) B t o.type e i0 z0 3 48 ht hi hz0 hz1 hz2 hz3 (by decide) v n xs (hown.alloc _) ⟨W.heap.size, 0, none⟩ 1 1 [c0, c1, c2] rfl (three_new W e c0 c1 c2) (by intro u hu; simp at hu; rcases hu with rfl | rfl | rfl <;> assumption) (by unfold maxLen; omega) (by omega) (by simp; omega)
 unfold Oper.wp execOp
 simp only [ho, resolve, invoke, builtin, Sem.run_bind, Sem.run_pure, Result.andThen_ok, List.map_toArray, List.map_cons, List.map_nil, hs, hx, hr]
 have g6 : v'.ownBlock = v.ownBlock ∨ v'.ownBlock = some (W.heap.size + 1) := by simpa using g5
 exact h v' w' g2 g3 g6
theorem wpList_app3 {W : World} {ops : Array Oper} {rest : List Oper} {o : Oper} {a : Act} {Q : Exit → Act → World → Prop} (hgd : o.guard = none) (s x : Operand) (t e : TypeId) (z0 : Value) (ht : Tryz.prog.underlying t = some (.slice e)) (hinfo : (Tryz.prog.info? e).map (fun i => (i.zero, i.size, i.bytes)) = some (some z0, 3, 48)) (hz3 : z0.cells.size = 3)
  (ho : o.op = .call { callee := .builtin .append, args := #[s, x], argTypes := #[t, t] }) {B n : Nat} {v : Value} {xs : List Value} {c0 c1 c2 : Value} (h1 : c0.oneCell' = true) (h2 : c1.oneCell' = true) (h3 : c2.oneCell' = true)
  (hs : a.eval s = v) {N : Nat} (hx : a.eval x = .slice (some ⟨N, 0, none⟩) 1 1) (hN : N = W.heap.size) (hown : W.ownsRow B e 3 v n xs) (hn : n ≤ 1000) (hB : B ≤ W.heap.size)
  (h : ∀ v' w', Hid (w'.ownsRow B e 3 v' (n + 1) (xs ++ [c0, c1, c2])) → (W.alloc (.cells #[c0, c1, c2] e)).grownBy w' v.ownBlock → Hid (v'.ownBlock = v.ownBlock ∨ v'.ownBlock = some (W.heap.size + 1)) → wpList Tryz.prog ops Q rest (a.put o.dst v') w') : wpList Tryz.prog ops Q (o :: rest) a (W.alloc (.cells #[c0, c1, c2] e)) :=
 wpList_plain hgd fun _ hK => wp_app3 s x t e z0 ht hinfo hz3 ho h1 h2 h3 hs hx hN hown hn hB fun v' w' g2 g3 g4 => hK _ _ (h v' w' g2 g3 g4)
end Go.Proofs.YtehleeibgkpjmaeGreat
