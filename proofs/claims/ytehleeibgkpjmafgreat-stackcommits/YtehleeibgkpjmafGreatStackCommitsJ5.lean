/- Texts joined: RdA, SkI, OwnI, OwnJ, CopyI, ClnI, ClnS, Cted, ExtP. -/
import Derived.Test.YtehleeibgkpjmafGreatStackCommitsJ4
import Derived.Test.YtehleeibgkpjmafGreatStackCommitsJ1
import Derived.OneCell
import Derived.Laws.OwnMore
import Derived.Test.YtehleeibgkpjmafGreatStackCommitsJ3
import Derived.Maps.AppendAt
import Derived.Deep.AppendLies
import Derived.Lib.SliceRun
/- Contracts of reads.page, allPages, Read, All. -/
namespace Go.Proofs.YtehleeibgkpjmafGreat
open Go.RowKit Go.Shelf
set_option maxRecDepth 20000

def SAt (W : World) (g : Nat) (l : List ByteArray) : Prop := W.heap[g]? = some (.cells (l.map Value.string).toArray 9)
theorem SAt.cell {W : World} {g : Nat} {l : List ByteArray} (h : SAt W g l) {j : Nat} (hj : j < l.length) : W.cell? ⟨g, j, none⟩ = some (.string (l.getD j ByteArray.empty)) := by
  have h' : W.heap[g]? = some (.cells (l.map Value.string).toArray 9) := h
  simp [World.cell?, h', List.getD, hj]
theorem SAt.frozen {W : World} {g : Nat} {l : List ByteArray} (h : SAt W g l) (j : Nat) : W.frozen? ⟨g, j, none⟩ = false := by
  have h' : W.heap[g]? = some (.cells (l.map Value.string).toArray 9) := h
  simp [World.frozen?, h']
theorem SAt.lt {W : World} {g : Nat} {l : List ByteArray} (h : SAt W g l) : g < W.heap.size := (Array.getElem?_eq_some_iff.1 h).1
theorem SAt.set {W : World} {g : Nat} {l : List ByteArray} (h : SAt W g l) (j : Nat) (x : ByteArray) : SAt (W.setCell ⟨g, j, none⟩ (.string x)) g (l.set j x) := by
  obtain ⟨hlt, hk⟩ := Array.getElem?_eq_some_iff.1 h
  show (W.heap.modify g _)[g]? = _
  rw [Array.getElem?_eq_getElem (by rw [Array.size_modify]; exact hlt), Array.getElem_modify_self, hk]
  simp [List.map_set]
theorem SAt.ss {W : World} {g n : Nat} {l : List ByteArray} (h : SAt W g l) (hn : l.length = n) (hm : n ≤ maxLen) : Ss W (.slice (some ⟨g, 0, none⟩) n n) l := by
  subst hn
  exact ⟨_, _, rfl, hm, Nat.le_refl _, fun _ => ⟨g, 0, rfl, h.lt, fun j hj => by rw [Nat.zero_add]; exact h.cell hj⟩⟩
theorem mk_strs (n : Nat) (hn : n ≤ 40) (W : World) : (Instr.makeSlice 22 (.int .i64 (n : Int)) (.int .i64 (n : Int))).run Tryz.prog W = .ok (.slice (some ⟨W.heap.size, 0, none⟩) n n) (W.alloc (.cells ((List.replicate n ByteArray.empty).map Value.string).toArray 9)) := by
  have hi := Tryz.info9
  cases h : Tryz.prog.info? 9 with
  | none => rw [h] at hi; cases hi
  | some i =>
    rw [h] at hi
    simp at hi
    have := run_make (P := Tryz.prog) W 22 9 i (.string ByteArray.empty) Tryz.underlying22 h hi.1 .i64 .i64 n n (by omega) (by omega) (by rw [hi.2.2]; omega) (by omega)
    rw [this, hi.2.1]
    have e : madeCells (Value.string ByteArray.empty).cells (((n : Int)).toNat * 1) = ((List.replicate n ByteArray.empty).map Value.string).toArray := by
      apply Array.ext
      · simp [madeCells]
      · intro j h1 h2
        simp [madeCells, Value.cells, Nat.mod_one]
    rw [e]
    simp

theorem page_zero (la : Option Addr) (ln lc : Nat) (e : Int) (w : World) (he : e = 0 ∨ e = -1) :
    Calls Tryz.prog 87 #[.slice la ln lc, .int .i64 e] w fun r w' => r = .returned (.string Z4) ∧ Below w.heap.size w w' := by
  rcases he with rfl | rfl
  all_goals
    go_enter Tryz.func87, Tryz.ntmps87
    go_wp2_with (go_at_call 30; refine (zero_any _).mono ?_; rintro e w1 ⟨rfl, b1⟩)
    go_ret
    exact ⟨rfl, b1⟩
theorem page_slot (lb lo : Nat) (ln lc : Nat) (j : Nat) (d : ByteArray) (w : World) (h1 : 1 ≤ j) (hj : j < ln) (hc : w.cell? ⟨lb, lo + j * 3 + 1, none⟩ = some (.string d)) :
    Calls Tryz.prog 87 #[.slice (some ⟨lb, lo, none⟩) ln lc, .int .i64 j] w fun r w' => r = .returned (.string d) ∧ Below w.heap.size w w' := by
  have h0 : ((j : Int) == 0) = false := by simp; omega
  have hm : ((j : Int) == -1) = false := by simp <;> omega
  have hji : (j : Int) < (ln : Int) := by omega
  go_enter Tryz.func87, Tryz.ntmps87
  go_wp2_with fail
  go_ret
  exact ⟨rfl, Below.refl _ _⟩
theorem page_is {lv : Value} {L : List SlotD} {w : World} (h : Slots w lv L) {e : Int} (he : e = 0 ∨ e = -1 ∨ ∃ j : Nat, e = j ∧ 1 ≤ j ∧ j < L.length) {p : ByteArray} (hp : pageV L e = p) :
    Calls Tryz.prog 87 #[lv, .int .i64 e] w fun r w' => r = .returned (.string p) ∧ Below w.heap.size w w' := by
  unfold pageV at hp
  have h' := h
  obtain ⟨la, lc, rfl⟩ := h.form
  rcases he with he | he | ⟨j, rfl, h1, hj⟩
  · rw [if_pos (by omega)] at hp; subst hp
    exact page_zero la _ lc e w (.inl he)
  · rw [if_pos (by omega)] at hp; subst hp
    exact page_zero la _ lc e w (.inr he)
  · rw [if_neg (by omega)] at hp
    obtain ⟨sb, so, rfl, hsb, tv, _, c2, _⟩ := h'.at j hj
    have e : L.getD (j : Int).toNat default = L[j] := by simp [List.getD, hj]
    rw [e] at hp
    rw [hp] at c2
    exact page_slot sb so _ lc j p w h1 hj c2

theorem SAt.below {W W' : World} {g n : Nat} {l : List ByteArray} (h : SAt W g l) (hb : Below n W W') (hg : g < n) : SAt W' g l := (hb.block _ hg).trans h

theorem lookE_parts {m : ImgD} {n : Int} (h : lookE m n = 0) : checkE m = 0 ∧ 0 ≤ n ∧ n < m.guest := by
  unfold lookE at h
  split at h
  · rename_i h0; exact absurd h h0
  rename_i h0
  split at h
  · rename_i hn; exact ⟨Classical.not_not.1 h0, hn⟩
  · simp at h
theorem look_ent {m : ImgD} {n : Int} (h : lookE m n = 0) : lookV m m.root n.toNat = 0 ∨ lookV m m.root n.toNat = -1 ∨ ∃ j : Nat, lookV m m.root n.toNat = j ∧ 1 ≤ j ∧ j < m.slots.length := by
  obtain ⟨h0, h1, h2⟩ := lookE_parts h
  have hs := checkE_shape h0
  have hg := guest_ok hs
  have hr := root_ok hs
  exact (lookV_ent hs hr.2 n.toNat (by omega)).imp id (Or.imp id (fun ⟨j, a, b, c, _⟩ => ⟨j, a, b, c⟩))

theorem read_bad (gm : Int) (ra : Option Addr) (rn rc : Nat) (sa : Option Addr) (sn sc : Nat) (fa : Option Addr) (fn fc : Nat) (na : Option Addr) (nn nc : Nat) (m : ImgD) (n E : Int) (w : World) (h : Img w (.agg #[.int .i64 gm, .slice ra rn rc, .slice sa sn sc, .slice fa fn fc, .slice na nn nc]) m) (hE : lookE m n = E) (hne : (E != 0) = true) :
    Calls Tryz.prog 54 #[.agg #[.int .i64 gm, .slice ra rn rc, .slice sa sn sc, .slice fa fn fc, .slice na nn nc], .int .i64 n] w fun r w' => r = .returned (.tuple #[.string ⟨#[]⟩, .int .i64 E]) ∧ Below w.heap.size w w' := by
  have b0 : Below w.heap.size w (w.alloc (.cells #[.int .i64 gm, .slice ra rn rc, .slice sa sn sc, .slice fa fn fc, .slice na nn nc] 27)) := (Below.refl _ _).alloc (Nat.le_refl _) _
  have m0 : (w.alloc (.cells #[.int .i64 gm, .slice ra rn rc, .slice sa sn sc, .slice fa fn fc, .slice na nn nc] 27)).heap[w.heap.size]? = some (.cells #[.int .i64 gm, .slice ra rn rc, .slice sa sn sc, .slice fa fn fc, .slice na nn nc] 27) := World.alloc_heap_new _ _
  have z0 : w.heap.size < (w.alloc (.cells #[.int .i64 gm, .slice ra rn rc, .slice sa sn sc, .slice fa fn fc, .slice na nn nc] 27)).heap.size := by simp
  have h1 := look_is (h.below b0) n hE (c := 0) (by rw [if_neg (by intro e; rw [e] at hne; cases hne)])
  clear h hE
  go_enter Tryz.func54, Tryz.ntmps54
  go_wp2_with fail
  refine h1.mono ?_
  rintro e w1 ⟨rfl, b1⟩
  go_wp2_with fail
  go_ret2
  exact ⟨rfl, Below.on b0 b1⟩
theorem read_at (gm : Int) (ra : Option Addr) (rn rc : Nat) (sa : Option Addr) (sn sc : Nat) (fa : Option Addr) (fn fc : Nat) (na : Option Addr) (nn nc : Nat) (m : ImgD) (n : Int) (w : World) (h : Img w (.agg #[.int .i64 gm, .slice ra rn rc, .slice sa sn sc, .slice fa fn fc, .slice na nn nc]) m) (hS : Slots w (.slice sa sn sc) m.slots) (hE : lookE m n = 0) (p : ByteArray) (hp : pageV m.slots (lookV m m.root n.toNat) = p) :
    Calls Tryz.prog 54 #[.agg #[.int .i64 gm, .slice ra rn rc, .slice sa sn sc, .slice fa fn fc, .slice na nn nc], .int .i64 n] w fun r w' => r = .returned (.tuple #[.string p, .int .i64 0]) ∧ Below w.heap.size w w' := by
  have b0 : Below w.heap.size w (w.alloc (.cells #[.int .i64 gm, .slice ra rn rc, .slice sa sn sc, .slice fa fn fc, .slice na nn nc] 27)) := (Below.refl _ _).alloc (Nat.le_refl _) _
  have m0 : (w.alloc (.cells #[.int .i64 gm, .slice ra rn rc, .slice sa sn sc, .slice fa fn fc, .slice na nn nc] 27)).heap[w.heap.size]? = some (.cells #[.int .i64 gm, .slice ra rn rc, .slice sa sn sc, .slice fa fn fc, .slice na nn nc] 27) := World.alloc_heap_new _ _
  have z0 : w.heap.size < (w.alloc (.cells #[.int .i64 gm, .slice ra rn rc, .slice sa sn sc, .slice fa fn fc, .slice na nn nc] 27)).heap.size := by simp
  obtain ⟨c, hc⟩ : ∃ c, lookV m m.root n.toNat = c := ⟨_, rfl⟩
  have h1 := look_is (h.below b0) n hE (c := c) (by rw [if_pos rfl]; exact hc)
  have hent := look_ent hE
  rw [hc] at hent hp
  have h2 := fun W (hW : Below w.heap.size w W) => page_is (hS.below hW) hent hp
  clear h hE hent hp hc hS
  go_enter Tryz.func54, Tryz.ntmps54
  go_wp2_with fail
  refine h1.mono ?_
  rintro e w1 ⟨rfl, b1⟩
  have m1 := cells_below m0 b1 z0
  have hB1 := Below.on b0 b1
  obtain ⟨a0, a1, a2, a3, a4⟩ := five m1
  clear h1
  go_wp2_with fail
  refine (h2 _ hB1).mono ?_
  rintro e w2 ⟨rfl, b2⟩
  go_wp2_with fail
  go_ret2
  exact ⟨rfl, Below.on hB1 b2⟩
theorem read_is {w : World} {v : Value} {m : ImgD} (h : Img w v m) (n : Int) {E : Int} {p : ByteArray} (hE : lookE m n = E) (hp : readV m n = p) :
    Calls Tryz.prog 54 #[v, .int .i64 n] w fun r w' => r = .returned (.tuple #[.string p, .int .i64 E]) ∧ Below w.heap.size w w' := by
  have h' := h
  obtain ⟨ra, rc, sa, sc, fa, fc, na, nc, rfl, h1, h2, h3, h4⟩ := h.parts
  unfold readV at hp
  by_cases h0 : lookE m n = 0
  · rw [if_pos h0] at hp
    rw [h0] at hE
    subst hE
    exact read_at m.guest ra _ rc sa _ sc fa _ fc na _ nc m n w h' h2 h0 p hp
  · rw [if_neg h0] at hp
    subst hp
    exact read_bad m.guest ra _ rc sa _ sc fa _ fc na _ nc m n E w h' hE (by rw [← hE]; simpa using h0)

end Go.Proofs.YtehleeibgkpjmafGreat
/- Contracts of stack: Check, Read. -/
namespace Go.Proofs.YtehleeibgkpjmafGreat
open Go.RowKit Go.Shelf
set_option maxRecDepth 20000
set_option linter.unusedVariables false

theorem six {W : World} {b : Nat} {x0 x1 x2 x3 x4 x5 : Value} {t : TypeId} (h : W.heap[b]? = some (.cells #[x0, x1, x2, x3, x4, x5] t)) : W.cell? ⟨b, 0, none⟩ = some x0 ∧ W.cell? ⟨b, 1, none⟩ = some x1 ∧ W.cell? ⟨b, 2, none⟩ = some x2 ∧ W.cell? ⟨b, 3, none⟩ = some x3 ∧ W.cell? ⟨b, 4, none⟩ = some x4 ∧ W.cell? ⟨b, 5, none⟩ = some x5 := by
  refine ⟨?_, ?_, ?_, ?_, ?_, ?_⟩ <;> simp [World.cell?, h]
def Stk (w : World) (v : Value) (b : List ByteArray) (m : ImgD) : Prop := ∃ bv r s f n, v = .agg #[bv, .int .i64 m.guest, r, s, f, n] ∧ Ss w bv b ∧ Img w (.agg #[.int .i64 m.guest, r, s, f, n]) m
theorem Stk.below {w w1 : World} {v : Value} {b : List ByteArray} {m : ImgD} (h : Stk w v b m) (hb : Below w.heap.size w w1) : Stk w1 v b m := by
  obtain ⟨bv, r, s, f, n, e, h1, h2⟩ := h
  exact ⟨bv, r, s, f, n, e, h1.below hb, h2.below hb⟩
theorem Stk.parts {w : World} {v : Value} {b : List ByteArray} {m : ImgD} (h : Stk w v b m) : ∃ ba bc ra rc sa sc fa fc na nc, v = .agg #[.slice ba b.length bc, .int .i64 m.guest, .slice ra m.root.length rc, .slice sa m.slots.length sc, .slice fa m.refs.length fc, .slice na m.snaps.length nc] ∧ Ss w (.slice ba b.length bc) b ∧ Img w (.agg #[.int .i64 m.guest, .slice ra m.root.length rc, .slice sa m.slots.length sc, .slice fa m.refs.length fc, .slice na m.snaps.length nc]) m := by
  obtain ⟨bv, r, s, f, n, rfl, h1, h2⟩ := h
  obtain ⟨ba, bc, rfl⟩ := h1.form
  have h2' := h2
  obtain ⟨ra, rc, sa, sc, fa, fc, na, nc, e, _⟩ := h2.parts
  simp only [Value.agg.injEq, Array.mk.injEq, List.cons.injEq, and_true, true_and] at e
  obtain ⟨rfl, rfl, rfl, rfl⟩ := e
  exact ⟨ba, bc, ra, rc, sa, sc, fa, fc, na, nc, rfl, h1, h2'⟩
theorem lookE_parts3 {m : ImgD} {n : Int} (h : lookE m n = 0) : checkE m = 0 ∧ 0 ≤ n ∧ n < m.guest := by
  unfold lookE at h
  by_cases h0 : checkE m = 0
  · rw [if_neg (by simpa using h0)] at h
    by_cases h1 : 0 ≤ n ∧ n < m.guest
    · exact ⟨h0, h1⟩
    · rw [if_neg h1] at h; exact absurd h (by decide)
  · rw [if_pos h0] at h; exact absurd h h0
def scE (b : List ByteArray) (m : ImgD) : Int := if ckP b ≠ 0 then ckP b else checkE m
def srE (b : List ByteArray) (m : ImgD) (n : Int) : Int := if scE b m ≠ 0 then scE b m else lookE m n
def srV (b : List ByteArray) (m : ImgD) (n : Int) : ByteArray := if srE b m n ≠ 0 then ByteArray.empty else if lookV m m.root n.toNat = 0 ∧ n < (b.length : Int) then freadA b n else readV m n

set_option maxHeartbeats 4000000 in
theorem sk_check_bad (ba : Option Addr) (bc : Nat) (ra : Option Addr) (rc : Nat) (sa : Option Addr) (sc : Nat) (fa : Option Addr) (fc : Nat) (na : Option Addr) (nc : Nat) (b : List ByteArray) (m : ImgD) (w : World) (hS : Ss w (.slice ba b.length bc) b) (hI : Img w (.agg #[.int .i64 m.guest, .slice ra m.root.length rc, .slice sa m.slots.length sc, .slice fa m.refs.length fc, .slice na m.snaps.length nc]) m) (E : Int) (hE : ckP b = E) (hne : (E != 0) = true) :
    Calls Tryz.prog 20 #[.agg #[.slice ba b.length bc, .int .i64 m.guest, .slice ra m.root.length rc, .slice sa m.slots.length sc, .slice fa m.refs.length fc, .slice na m.snaps.length nc]] w fun r w' => r = .returned (.int .i64 E) ∧ Below w.heap.size w w' := by
  have b0 : Below w.heap.size w (w.alloc (.cells #[.slice ba b.length bc, .int .i64 m.guest, .slice ra m.root.length rc, .slice sa m.slots.length sc, .slice fa m.refs.length fc, .slice na m.snaps.length nc] 29)) := (Below.refl _ _).alloc (Nat.le_refl _) _
  have q0 : (w.alloc (.cells #[.slice ba b.length bc, .int .i64 m.guest, .slice ra m.root.length rc, .slice sa m.slots.length sc, .slice fa m.refs.length fc, .slice na m.snaps.length nc] 29)).heap[w.heap.size]? = some (.cells #[.slice ba b.length bc, .int .i64 m.guest, .slice ra m.root.length rc, .slice sa m.slots.length sc, .slice fa m.refs.length fc, .slice na m.snaps.length nc] 29) := World.alloc_heap_new _ _
  obtain ⟨c0, c1, c2, c3, c4, c5⟩ := six q0
  have hS1 := hS.below b0
  have hI1 := hI.below b0
  clear hS hI hI1
  go_enter Tryz.func20, Tryz.ntmps20
  go_wp2_with (go_at_call 29; refine (pcheck_is hS1 hE).mono ?_; rintro e w' ⟨rfl, hw⟩; subst hw)
  go_ret
  exact ⟨rfl, b0⟩
set_option maxHeartbeats 4000000 in
theorem sk_check_ok (ba : Option Addr) (bc : Nat) (ra : Option Addr) (rc : Nat) (sa : Option Addr) (sc : Nat) (fa : Option Addr) (fc : Nat) (na : Option Addr) (nc : Nat) (b : List ByteArray) (m : ImgD) (w : World) (hS : Ss w (.slice ba b.length bc) b) (hI : Img w (.agg #[.int .i64 m.guest, .slice ra m.root.length rc, .slice sa m.slots.length sc, .slice fa m.refs.length fc, .slice na m.snaps.length nc]) m) (E : Int) (hE : ckP b = 0) (hC : checkE m = E) :
    Calls Tryz.prog 20 #[.agg #[.slice ba b.length bc, .int .i64 m.guest, .slice ra m.root.length rc, .slice sa m.slots.length sc, .slice fa m.refs.length fc, .slice na m.snaps.length nc]] w fun r w' => r = .returned (.int .i64 E) ∧ Below w.heap.size w w' := by
  have b0 : Below w.heap.size w (w.alloc (.cells #[.slice ba b.length bc, .int .i64 m.guest, .slice ra m.root.length rc, .slice sa m.slots.length sc, .slice fa m.refs.length fc, .slice na m.snaps.length nc] 29)) := (Below.refl _ _).alloc (Nat.le_refl _) _
  have q0 : (w.alloc (.cells #[.slice ba b.length bc, .int .i64 m.guest, .slice ra m.root.length rc, .slice sa m.slots.length sc, .slice fa m.refs.length fc, .slice na m.snaps.length nc] 29)).heap[w.heap.size]? = some (.cells #[.slice ba b.length bc, .int .i64 m.guest, .slice ra m.root.length rc, .slice sa m.slots.length sc, .slice fa m.refs.length fc, .slice na m.snaps.length nc] 29) := World.alloc_heap_new _ _
  obtain ⟨c0, c1, c2, c3, c4, c5⟩ := six q0
  have hS1 := hS.below b0
  have hI1 := hI.below b0
  have hcall := tcheck_is hI1 hC
  clear hS hI hI1 hC
  go_enter Tryz.func20, Tryz.ntmps20
  go_wp2_with (first | (go_at_call 38; refine hcall.mono ?_; rintro e w2 ⟨rfl, b2⟩) | (go_at_call 29; refine (pcheck_is hS1 hE).mono ?_; rintro e w' ⟨rfl, hw⟩; subst hw))
  go_ret
  exact ⟨rfl, Below.on b0 b2⟩
theorem sk_check {w : World} {v : Value} {b : List ByteArray} {m : ImgD} (h : Stk w v b m) {E : Int} (hE : scE b m = E) : Calls Tryz.prog 20 #[v] w fun r w' => r = .returned (.int .i64 E) ∧ Below w.heap.size w w' := by
  subst hE
  obtain ⟨ba, bc, ra, rc, sa, sc, fa, fc, na, nc, rfl, hS, hI⟩ := h.parts
  by_cases h0 : ckP b = 0
  · unfold scE
    rw [if_neg (by simpa using h0)]
    exact sk_check_ok ba bc ra rc sa sc fa fc na nc b m w hS hI _ h0 rfl
  · unfold scE
    rw [if_pos h0]
    exact sk_check_bad ba bc ra rc sa sc fa fc na nc b m w hS hI _ rfl (by simpa using h0)

set_option maxHeartbeats 4000000 in
theorem sk_read_bad (ba : Option Addr) (bc : Nat) (ra : Option Addr) (rc : Nat) (sa : Option Addr) (sc : Nat) (fa : Option Addr) (fc : Nat) (na : Option Addr) (nc : Nat) (b : List ByteArray) (m : ImgD) (n : Int) (w : World) (hS : Ss w (.slice ba b.length bc) b) (hI : Img w (.agg #[.int .i64 m.guest, .slice ra m.root.length rc, .slice sa m.slots.length sc, .slice fa m.refs.length fc, .slice na m.snaps.length nc]) m) (E : Int) (hE : scE b m = E) (hne : (E != 0) = true) :
    Calls Tryz.prog 27 #[.agg #[.slice ba b.length bc, .int .i64 m.guest, .slice ra m.root.length rc, .slice sa m.slots.length sc, .slice fa m.refs.length fc, .slice na m.snaps.length nc], .int .i64 n] w fun r w' => r = .returned (.tuple #[.string ⟨#[]⟩, .int .i64 E]) ∧ Below w.heap.size w w' := by
  have b0 : Below w.heap.size w (w.alloc (.cells #[.slice ba b.length bc, .int .i64 m.guest, .slice ra m.root.length rc, .slice sa m.slots.length sc, .slice fa m.refs.length fc, .slice na m.snaps.length nc] 29)) := (Below.refl _ _).alloc (Nat.le_refl _) _
  have q0 : (w.alloc (.cells #[.slice ba b.length bc, .int .i64 m.guest, .slice ra m.root.length rc, .slice sa m.slots.length sc, .slice fa m.refs.length fc, .slice na m.snaps.length nc] 29)).heap[w.heap.size]? = some (.cells #[.slice ba b.length bc, .int .i64 m.guest, .slice ra m.root.length rc, .slice sa m.slots.length sc, .slice fa m.refs.length fc, .slice na m.snaps.length nc] 29) := World.alloc_heap_new _ _
  obtain ⟨c0, c1, c2, c3, c4, c5⟩ := six q0
  have hS1 := hS.below b0
  have hI1 := hI.below b0
  have hck := sk_check (w := (w.alloc (.cells #[.slice ba b.length bc, .int .i64 m.guest, .slice ra m.root.length rc, .slice sa m.slots.length sc, .slice fa m.refs.length fc, .slice na m.snaps.length nc] 29))) (v := .agg #[.slice ba b.length bc, .int .i64 m.guest, .slice ra m.root.length rc, .slice sa m.slots.length sc, .slice fa m.refs.length fc, .slice na m.snaps.length nc]) ⟨_, _, _, _, _, rfl, hS1, hI1⟩ hE
  clear hS hI hI1 hS1 hE
  go_enter Tryz.func27, Tryz.ntmps27
  go_wp2_with (go_at_call 20; refine hck.mono ?_; rintro e w1 ⟨rfl, b1⟩; obtain ⟨d0, d1, d2, d3, d4, d5⟩ := six (cells_below q0 b1 (Array.getElem?_eq_some_iff.1 q0).1))
  go_ret2
  exact ⟨rfl, Below.on b0 b1⟩
set_option maxHeartbeats 4000000 in
theorem sk_read_out (ba : Option Addr) (bc : Nat) (ra : Option Addr) (rc : Nat) (sa : Option Addr) (sc : Nat) (fa : Option Addr) (fc : Nat) (na : Option Addr) (nc : Nat) (b : List ByteArray) (m : ImgD) (n : Int) (w : World) (hS : Ss w (.slice ba b.length bc) b) (hI : Img w (.agg #[.int .i64 m.guest, .slice ra m.root.length rc, .slice sa m.slots.length sc, .slice fa m.refs.length fc, .slice na m.snaps.length nc]) m) (E : Int) (hC : scE b m = 0) (hE : lookE m n = E) (hne : (E != 0) = true) :
    Calls Tryz.prog 27 #[.agg #[.slice ba b.length bc, .int .i64 m.guest, .slice ra m.root.length rc, .slice sa m.slots.length sc, .slice fa m.refs.length fc, .slice na m.snaps.length nc], .int .i64 n] w fun r w' => r = .returned (.tuple #[.string ⟨#[]⟩, .int .i64 E]) ∧ Below w.heap.size w w' := by
  have b0 : Below w.heap.size w (w.alloc (.cells #[.slice ba b.length bc, .int .i64 m.guest, .slice ra m.root.length rc, .slice sa m.slots.length sc, .slice fa m.refs.length fc, .slice na m.snaps.length nc] 29)) := (Below.refl _ _).alloc (Nat.le_refl _) _
  have q0 : (w.alloc (.cells #[.slice ba b.length bc, .int .i64 m.guest, .slice ra m.root.length rc, .slice sa m.slots.length sc, .slice fa m.refs.length fc, .slice na m.snaps.length nc] 29)).heap[w.heap.size]? = some (.cells #[.slice ba b.length bc, .int .i64 m.guest, .slice ra m.root.length rc, .slice sa m.slots.length sc, .slice fa m.refs.length fc, .slice na m.snaps.length nc] 29) := World.alloc_heap_new _ _
  obtain ⟨c0, c1, c2, c3, c4, c5⟩ := six q0
  have hS1 := hS.below b0
  have hI1 := hI.below b0
  have hck := sk_check (w := (w.alloc (.cells #[.slice ba b.length bc, .int .i64 m.guest, .slice ra m.root.length rc, .slice sa m.slots.length sc, .slice fa m.refs.length fc, .slice na m.snaps.length nc] 29))) (v := .agg #[.slice ba b.length bc, .int .i64 m.guest, .slice ra m.root.length rc, .slice sa m.slots.length sc, .slice fa m.refs.length fc, .slice na m.snaps.length nc]) ⟨_, _, _, _, _, rfl, hS1, hI1⟩ hC
  have hE0 : ¬ E = 0 := by simpa using hne
  have HL : Hid (∀ w1, Below (w.alloc (.cells #[.slice ba b.length bc, .int .i64 m.guest, .slice ra m.root.length rc, .slice sa m.slots.length sc, .slice fa m.refs.length fc, .slice na m.snaps.length nc] 29)).heap.size (w.alloc (.cells #[.slice ba b.length bc, .int .i64 m.guest, .slice ra m.root.length rc, .slice sa m.slots.length sc, .slice fa m.refs.length fc, .slice na m.snaps.length nc] 29)) w1 → Calls Tryz.prog 52 #[.agg #[.int .i64 m.guest, .slice ra m.root.length rc, .slice sa m.slots.length sc, .slice fa m.refs.length fc, .slice na m.snaps.length nc], .int .i64 n] w1 fun r w' => r = .returned (.tuple #[.int .i64 0, .int .i64 E]) ∧ Below w1.heap.size w1 w') := fun w1 b1 => look_is (hI1.below b1) n hE (if_neg hE0)
  clear hS hI hI1 hS1 hE hC hE0
  go_enter Tryz.func27, Tryz.ntmps27
  go_wp2_with (first | (go_at_call 52; refine (HL.out w1 b1).mono ?_; rintro e w2 ⟨rfl, b2⟩; obtain ⟨g0, g1, g2, g3, g4, g5⟩ := six (cells_below (cells_below q0 b1 (Array.getElem?_eq_some_iff.1 q0).1) b2 (Nat.lt_of_lt_of_le (Array.getElem?_eq_some_iff.1 q0).1 b1.size))) | (go_at_call 20; refine hck.mono ?_; rintro e w1 ⟨rfl, b1⟩; obtain ⟨d0, d1, d2, d3, d4, d5⟩ := six (cells_below q0 b1 (Array.getElem?_eq_some_iff.1 q0).1)))
  go_ret2
  exact ⟨rfl, Below.on (Below.on b0 b1) b2⟩
set_option maxHeartbeats 4000000 in
theorem sk_read_base (ba : Option Addr) (bc : Nat) (ra : Option Addr) (rc : Nat) (sa : Option Addr) (sc : Nat) (fa : Option Addr) (fc : Nat) (na : Option Addr) (nc : Nat) (b : List ByteArray) (m : ImgD) (n : Int) (w : World) (hS : Ss w (.slice ba b.length bc) b) (hI : Img w (.agg #[.int .i64 m.guest, .slice ra m.root.length rc, .slice sa m.slots.length sc, .slice fa m.refs.length fc, .slice na m.snaps.length nc]) m) (p : ByteArray) (hC : scE b m = 0) (hE : lookE m n = 0) (hk : lookV m m.root n.toNat = 0) (hn : n < (b.length : Int)) (hp : freadA b n = p) (hat : atE b n = 0) :
    Calls Tryz.prog 27 #[.agg #[.slice ba b.length bc, .int .i64 m.guest, .slice ra m.root.length rc, .slice sa m.slots.length sc, .slice fa m.refs.length fc, .slice na m.snaps.length nc], .int .i64 n] w fun r w' => r = .returned (.tuple #[.string p, .int .i64 0]) ∧ Below w.heap.size w w' := by
  have b0 : Below w.heap.size w (w.alloc (.cells #[.slice ba b.length bc, .int .i64 m.guest, .slice ra m.root.length rc, .slice sa m.slots.length sc, .slice fa m.refs.length fc, .slice na m.snaps.length nc] 29)) := (Below.refl _ _).alloc (Nat.le_refl _) _
  have q0 : (w.alloc (.cells #[.slice ba b.length bc, .int .i64 m.guest, .slice ra m.root.length rc, .slice sa m.slots.length sc, .slice fa m.refs.length fc, .slice na m.snaps.length nc] 29)).heap[w.heap.size]? = some (.cells #[.slice ba b.length bc, .int .i64 m.guest, .slice ra m.root.length rc, .slice sa m.slots.length sc, .slice fa m.refs.length fc, .slice na m.snaps.length nc] 29) := World.alloc_heap_new _ _
  obtain ⟨c0, c1, c2, c3, c4, c5⟩ := six q0
  have hS1 := hS.below b0
  have hI1 := hI.below b0
  have hck := sk_check (w := (w.alloc (.cells #[.slice ba b.length bc, .int .i64 m.guest, .slice ra m.root.length rc, .slice sa m.slots.length sc, .slice fa m.refs.length fc, .slice na m.snaps.length nc] 29))) (v := .agg #[.slice ba b.length bc, .int .i64 m.guest, .slice ra m.root.length rc, .slice sa m.slots.length sc, .slice fa m.refs.length fc, .slice na m.snaps.length nc]) ⟨_, _, _, _, _, rfl, hS1, hI1⟩ hC
  have HL : Hid (∀ w1, Below (w.alloc (.cells #[.slice ba b.length bc, .int .i64 m.guest, .slice ra m.root.length rc, .slice sa m.slots.length sc, .slice fa m.refs.length fc, .slice na m.snaps.length nc] 29)).heap.size (w.alloc (.cells #[.slice ba b.length bc, .int .i64 m.guest, .slice ra m.root.length rc, .slice sa m.slots.length sc, .slice fa m.refs.length fc, .slice na m.snaps.length nc] 29)) w1 → Calls Tryz.prog 52 #[.agg #[.int .i64 m.guest, .slice ra m.root.length rc, .slice sa m.slots.length sc, .slice fa m.refs.length fc, .slice na m.snaps.length nc], .int .i64 n] w1 fun r w' => r = .returned (.tuple #[.int .i64 0, .int .i64 0]) ∧ Below w1.heap.size w1 w') := fun w1 b1 => look_is (hI1.below b1) n hE (by rw [if_pos rfl]; exact hk)
  have HR : Hid (∀ w1 w2, Below (w.alloc (.cells #[.slice ba b.length bc, .int .i64 m.guest, .slice ra m.root.length rc, .slice sa m.slots.length sc, .slice fa m.refs.length fc, .slice na m.snaps.length nc] 29)).heap.size (w.alloc (.cells #[.slice ba b.length bc, .int .i64 m.guest, .slice ra m.root.length rc, .slice sa m.slots.length sc, .slice fa m.refs.length fc, .slice na m.snaps.length nc] 29)) w1 → Below w1.heap.size w1 w2 → Calls Tryz.prog 53 #[.slice ba b.length bc, .int .i64 n] w2 fun r w' => r = .returned (.tuple #[.string p, .int .i64 0]) ∧ Below w2.heap.size w2 w') := fun w1 w2 b1 b2 => (fread_is ((hS1.below b1).below b2) hp hat).mono (by rintro e w' ⟨rfl, hw⟩; subst hw; exact ⟨rfl, Below.refl _ _⟩)
  clear hS hI hI1 hS1 hE hC hk hp hat
  go_enter Tryz.func27, Tryz.ntmps27
  go_wp2_with (first | (go_at_call 53; refine (HR.out w1 w2 b1 b2).mono ?_; rintro e w3 ⟨rfl, b3⟩) | (go_at_call 52; refine (HL.out w1 b1).mono ?_; rintro e w2 ⟨rfl, b2⟩; obtain ⟨g0, g1, g2, g3, g4, g5⟩ := six (cells_below (cells_below q0 b1 (Array.getElem?_eq_some_iff.1 q0).1) b2 (Nat.lt_of_lt_of_le (Array.getElem?_eq_some_iff.1 q0).1 b1.size))) | (go_at_call 20; refine hck.mono ?_; rintro e w1 ⟨rfl, b1⟩; obtain ⟨d0, d1, d2, d3, d4, d5⟩ := six (cells_below q0 b1 (Array.getElem?_eq_some_iff.1 q0).1)))
  go_ret2
  exact ⟨rfl, Below.on (Below.on (Below.on b0 b1) b2) b3⟩
set_option maxHeartbeats 4000000 in
theorem sk_read_top (ba : Option Addr) (bc : Nat) (ra : Option Addr) (rc : Nat) (sa : Option Addr) (sc : Nat) (fa : Option Addr) (fc : Nat) (na : Option Addr) (nc : Nat) (b : List ByteArray) (m : ImgD) (n : Int) (w : World) (hS : Ss w (.slice ba b.length bc) b) (hI : Img w (.agg #[.int .i64 m.guest, .slice ra m.root.length rc, .slice sa m.slots.length sc, .slice fa m.refs.length fc, .slice na m.snaps.length nc]) m) (p : ByteArray) (k : Int) (hC : scE b m = 0) (hE : lookE m n = 0) (hk : lookV m m.root n.toNat = k) (hc : ((k == 0) = false) ∨ ((k == 0) = true ∧ decide (n < (b.length : Int)) = false)) (hp : readV m n = p) :
    Calls Tryz.prog 27 #[.agg #[.slice ba b.length bc, .int .i64 m.guest, .slice ra m.root.length rc, .slice sa m.slots.length sc, .slice fa m.refs.length fc, .slice na m.snaps.length nc], .int .i64 n] w fun r w' => r = .returned (.tuple #[.string p, .int .i64 0]) ∧ Below w.heap.size w w' := by
  have b0 : Below w.heap.size w (w.alloc (.cells #[.slice ba b.length bc, .int .i64 m.guest, .slice ra m.root.length rc, .slice sa m.slots.length sc, .slice fa m.refs.length fc, .slice na m.snaps.length nc] 29)) := (Below.refl _ _).alloc (Nat.le_refl _) _
  have q0 : (w.alloc (.cells #[.slice ba b.length bc, .int .i64 m.guest, .slice ra m.root.length rc, .slice sa m.slots.length sc, .slice fa m.refs.length fc, .slice na m.snaps.length nc] 29)).heap[w.heap.size]? = some (.cells #[.slice ba b.length bc, .int .i64 m.guest, .slice ra m.root.length rc, .slice sa m.slots.length sc, .slice fa m.refs.length fc, .slice na m.snaps.length nc] 29) := World.alloc_heap_new _ _
  obtain ⟨c0, c1, c2, c3, c4, c5⟩ := six q0
  have hS1 := hS.below b0
  have hI1 := hI.below b0
  have hck := sk_check (w := (w.alloc (.cells #[.slice ba b.length bc, .int .i64 m.guest, .slice ra m.root.length rc, .slice sa m.slots.length sc, .slice fa m.refs.length fc, .slice na m.snaps.length nc] 29))) (v := .agg #[.slice ba b.length bc, .int .i64 m.guest, .slice ra m.root.length rc, .slice sa m.slots.length sc, .slice fa m.refs.length fc, .slice na m.snaps.length nc]) ⟨_, _, _, _, _, rfl, hS1, hI1⟩ hC
  have HL : Hid (∀ w1, Below (w.alloc (.cells #[.slice ba b.length bc, .int .i64 m.guest, .slice ra m.root.length rc, .slice sa m.slots.length sc, .slice fa m.refs.length fc, .slice na m.snaps.length nc] 29)).heap.size (w.alloc (.cells #[.slice ba b.length bc, .int .i64 m.guest, .slice ra m.root.length rc, .slice sa m.slots.length sc, .slice fa m.refs.length fc, .slice na m.snaps.length nc] 29)) w1 → Calls Tryz.prog 52 #[.agg #[.int .i64 m.guest, .slice ra m.root.length rc, .slice sa m.slots.length sc, .slice fa m.refs.length fc, .slice na m.snaps.length nc], .int .i64 n] w1 fun r w' => r = .returned (.tuple #[.int .i64 k, .int .i64 0]) ∧ Below w1.heap.size w1 w') := fun w1 b1 => look_is (hI1.below b1) n hE (by rw [if_pos rfl]; exact hk)
  have HR : Hid (∀ w1 w2, Below (w.alloc (.cells #[.slice ba b.length bc, .int .i64 m.guest, .slice ra m.root.length rc, .slice sa m.slots.length sc, .slice fa m.refs.length fc, .slice na m.snaps.length nc] 29)).heap.size (w.alloc (.cells #[.slice ba b.length bc, .int .i64 m.guest, .slice ra m.root.length rc, .slice sa m.slots.length sc, .slice fa m.refs.length fc, .slice na m.snaps.length nc] 29)) w1 → Below w1.heap.size w1 w2 → Calls Tryz.prog 54 #[.agg #[.int .i64 m.guest, .slice ra m.root.length rc, .slice sa m.slots.length sc, .slice fa m.refs.length fc, .slice na m.snaps.length nc], .int .i64 n] w2 fun r w' => r = .returned (.tuple #[.string p, .int .i64 0]) ∧ Below w2.heap.size w2 w') := fun w1 w2 b1 b2 => read_is ((hI1.below b1).below b2) n hE hp
  clear hS hI hI1 hS1 hE hC hk hp
  go_enter Tryz.func27, Tryz.ntmps27
  rcases hc with hc | ⟨hc, hd⟩
  · go_wp2_with (first | (go_at_call 54; refine (HR.out w1 w2 b1 b2).mono ?_; rintro e w3 ⟨rfl, b3⟩) | (go_at_call 52; refine (HL.out w1 b1).mono ?_; rintro e w2 ⟨rfl, b2⟩; obtain ⟨g0, g1, g2, g3, g4, g5⟩ := six (cells_below (cells_below q0 b1 (Array.getElem?_eq_some_iff.1 q0).1) b2 (Nat.lt_of_lt_of_le (Array.getElem?_eq_some_iff.1 q0).1 b1.size))) | (go_at_call 20; refine hck.mono ?_; rintro e w1 ⟨rfl, b1⟩; obtain ⟨d0, d1, d2, d3, d4, d5⟩ := six (cells_below q0 b1 (Array.getElem?_eq_some_iff.1 q0).1)))
    go_ret2
    exact ⟨rfl, Below.on (Below.on (Below.on b0 b1) b2) b3⟩
  · go_wp2_with (first | (go_at_call 54; refine (HR.out w1 w2 b1 b2).mono ?_; rintro e w3 ⟨rfl, b3⟩) | (go_at_call 52; refine (HL.out w1 b1).mono ?_; rintro e w2 ⟨rfl, b2⟩; obtain ⟨g0, g1, g2, g3, g4, g5⟩ := six (cells_below (cells_below q0 b1 (Array.getElem?_eq_some_iff.1 q0).1) b2 (Nat.lt_of_lt_of_le (Array.getElem?_eq_some_iff.1 q0).1 b1.size))) | (go_at_call 20; refine hck.mono ?_; rintro e w1 ⟨rfl, b1⟩; obtain ⟨d0, d1, d2, d3, d4, d5⟩ := six (cells_below q0 b1 (Array.getElem?_eq_some_iff.1 q0).1)))
    go_ret2
    exact ⟨rfl, Below.on (Below.on (Below.on b0 b1) b2) b3⟩
theorem scE_zero {b : List ByteArray} {m : ImgD} (h : scE b m = 0) : ckP b = 0 ∧ checkE m = 0 := by
  unfold scE at h
  by_cases h0 : ckP b = 0
  · rw [if_neg (by simpa using h0)] at h; exact ⟨h0, h⟩
  · rw [if_pos h0] at h; exact absurd h h0
theorem sk_read {w : World} {v : Value} {b : List ByteArray} {m : ImgD} (h : Stk w v b m) (n : Int) {p : ByteArray} {E : Int} (hE : srE b m n = E) (hp : srV b m n = p) : Calls Tryz.prog 27 #[v, .int .i64 n] w fun r w' => r = .returned (.tuple #[.string p, .int .i64 E]) ∧ Below w.heap.size w w' := by
  subst hE hp
  obtain ⟨ba, bc, ra, rc, sa, sc, fa, fc, na, nc, rfl, hS, hI⟩ := h.parts
  by_cases hC : scE b m = 0
  · have e1 : srE b m n = lookE m n := by unfold srE; rw [if_neg (by simpa using hC)]
    by_cases hL : lookE m n = 0
    · have e2 : srE b m n = 0 := e1.trans hL
      by_cases hk : lookV m m.root n.toNat = 0 ∧ n < (b.length : Int)
      · have e3 : srV b m n = freadA b n := by unfold srV; rw [if_neg (by simpa using e2), if_pos hk]
        rw [e2, e3]
        have h0 : 0 ≤ n := (lookE_parts3 hL).2.1
        exact sk_read_base ba bc ra rc sa sc fa fc na nc b m n w hS hI _ hC hL hk.1 hk.2 rfl (atE_in (scE_zero hC).1 ⟨h0, hk.2⟩)
      · have e3 : srV b m n = readV m n := by unfold srV; rw [if_neg (by simpa using e2), if_neg hk]
        rw [e2, e3]
        refine sk_read_top ba bc ra rc sa sc fa fc na nc b m n w hS hI _ _ hC hL rfl ?_ rfl
        by_cases hz : lookV m m.root n.toNat = 0
        · exact .inr ⟨by simp [hz], by have : ¬ n < (b.length : Int) := fun x => hk ⟨hz, x⟩; simp; omega⟩
        · exact .inl (by simp [hz])
    · rw [e1]
      have e3 : srV b m n = ByteArray.empty := by unfold srV; rw [if_pos (by rw [e1]; exact hL)]
      rw [e3]
      exact sk_read_out ba bc ra rc sa sc fa fc na nc b m n w hS hI _ hC rfl (by simpa using hL)
  · have e1 : srE b m n = scE b m := by unfold srE; rw [if_pos hC]
    have e3 : srV b m n = ByteArray.empty := by unfold srV; rw [if_pos (by rw [e1]; exact hC)]
    rw [e1, e3]
    exact sk_read_bad ba bc ra rc sa sc fa fc na nc b m n w hS hI _ rfl (by simpa using hC)
end Go.Proofs.YtehleeibgkpjmafGreat
/- An image of one's own: each of its lists, each table and each snapshot's Root lies in a row of its own, in memory that came since B. What stays, and what turns, when something is stored. -/
namespace Go.Proofs.YtehleeibgkpjmafGreat
open Go.RowKit
set_option maxRecDepth 20000

structure Nm where
  kind : Nat
  ix : Nat
abbrev Nm.root : Nm := ⟨0, 0⟩
abbrev Nm.slots : Nm := ⟨1, 0⟩
abbrev Nm.refs : Nm := ⟨2, 0⟩
abbrev Nm.snaps : Nm := ⟨3, 0⟩
abbrev Nm.tab (j : Nat) : Nm := ⟨4, j⟩
abbrev Nm.sr (j : Nat) : Nm := ⟨5, j⟩
def Live (m : ImgD) (a : Nm) : Prop := (a.kind < 4 ∧ a.ix = 0) ∨ (a.kind = 4 ∧ a.ix < m.slots.length) ∨ (a.kind = 5 ∧ a.ix < m.snaps.length)
theorem Live.cases {m : ImgD} {a : Nm} (h : Live m a) : a = .root ∨ a = .slots ∨ a = .refs ∨ a = .snaps ∨ (∃ j, a = .tab j ∧ j < m.slots.length) ∨ ∃ j, a = .sr j ∧ j < m.snaps.length := by
  obtain ⟨k, j⟩ := a
  rcases h with ⟨h1, h2⟩ | ⟨h1, h2⟩ | ⟨h1, h2⟩
  · dsimp only at h1 h2
    subst h2
    match k, h1 with
    | 0, _ => exact .inl rfl
    | 1, _ => exact .inr (.inl rfl)
    | 2, _ => exact .inr (.inr (.inl rfl))
    | 3, _ => exact .inr (.inr (.inr (.inl rfl)))
  · dsimp only at h1 h2; subst h1; exact .inr (.inr (.inr (.inr (.inl ⟨j, rfl, h2⟩))))
  · dsimp only at h1 h2; subst h1; exact .inr (.inr (.inr (.inr (.inr ⟨j, rfl, h2⟩))))
theorem Live.root (m : ImgD) : Live m .root := .inl ⟨by decide, rfl⟩
theorem Live.slots (m : ImgD) : Live m .slots := .inl ⟨by decide, rfl⟩
theorem Live.refs (m : ImgD) : Live m .refs := .inl ⟨by decide, rfl⟩
theorem Live.snaps (m : ImgD) : Live m .snaps := .inl ⟨by decide, rfl⟩
theorem Live.tab {m : ImgD} {j : Nat} (h : j < m.slots.length) : Live m (.tab j) := .inr (.inl ⟨rfl, h⟩)
theorem Live.sr {m : ImgD} {j : Nat} (h : j < m.snaps.length) : Live m (.sr j) := .inr (.inr ⟨rfl, h⟩)
theorem live_iff {m m' : ImgD} (h1 : m'.slots.length = m.slots.length) (h2 : m'.snaps.length = m.snaps.length) (b : Nm) : Live m' b ↔ Live m b := by unfold Live; rw [h1, h2]
def flatS (L : List SlotD) (tv : Nat → Value) : List Value := (List.range L.length).flatMap (fun j => [.int .i64 (L.getD j default).1, .string (L.getD j default).2.1, tv j])
def flatN (S : List SnapD) (qv : Nat → Value) : List Value := (List.range S.length).flatMap (fun j => [.string (S.getD j default).1, .int .i64 (S.getD j default).2.1, qv j])
def ints (l : List Int) : List Value := l.map (Value.int .i64)
def rowT (a : Nm) : TypeId := match a.kind with | 1 => 61 | 3 => 64 | _ => 3
def rowS (a : Nm) : Nat := match a.kind with | 1 => 3 | 3 => 3 | _ => 1
def rowN (m : ImgD) (a : Nm) : Nat := match a.kind with
  | 0 => m.root.length
  | 1 => m.slots.length
  | 2 => m.refs.length
  | 3 => m.snaps.length
  | 4 => (m.slots.getD a.ix default).2.2.length
  | _ => (m.snaps.getD a.ix default).2.2.length
def rowV (m : ImgD) (val : Nm → Value) (a : Nm) : List Value := match a.kind with
  | 0 => ints m.root
  | 1 => flatS m.slots (fun j => val (.tab j))
  | 2 => ints m.refs
  | 3 => flatN m.snaps (fun j => val (.sr j))
  | 4 => ints (m.slots.getD a.ix default).2.2
  | _ => ints (m.snaps.getD a.ix default).2.2
def imgV (g : Int) (val : Nm → Value) : Value := .agg #[.int .i64 g, val .root, val .slots, val .refs, val .snaps]

structure OI (W : World) (B : Nat) (val : Nm → Value) (m : ImgD) : Prop where
  row : ∀ a, Live m a → W.ownsRow B (rowT a) (rowS a) (val a) (rowN m a) (rowV m val a)
  apart : ∀ a b, Live m a → Live m b → a ≠ b → ∀ g, (val a).ownBlock = some g → (val b).ownBlock ≠ some g

theorem OI.keep {W W' : World} {B : Nat} {val : Nm → Value} {m : ImgD} (h : OI W B val m) (hk : ∀ g, B ≤ g → g < W.heap.size → W'.heap[g]? = W.heap[g]?) : OI W' B val m := by
  refine ⟨fun a ha => ?_, h.apart⟩
  have hr := h.row a ha
  refine ⟨hr.1, ?_⟩
  rcases hr.2 with hn | ⟨g, cap, cur, hv, hb, hg, rest⟩
  · exact .inl hn
  · exact .inr ⟨g, cap, cur, hv, hb, (hk g hb (Array.getElem?_eq_some_iff.1 hg).1).trans hg, rest⟩
theorem OI.below {W W' : World} {B : Nat} {val : Nm → Value} {m : ImgD} (h : OI W B val m) (hb : Below W.heap.size W W') : OI W' B val m := h.keep fun g _ hg => hb.block g hg
theorem OI.alloc {W : World} {B : Nat} {val : Nm → Value} {m : ImgD} (h : OI W B val m) (o : Obj) : OI (W.alloc o) B val m := h.below ((Below.refl _ _).alloc (Nat.le_refl _) o)
theorem OI.drew {W : World} {B : Nat} {val : Nm → Value} {m : ImgD} (h : OI W B val m) : OI W.drew B val m := ⟨fun a ha => (h.row a ha).drew, h.apart⟩


theorem ints_length (l : List Int) : (ints l).length = l.length := by simp [ints]
theorem row_sl {W : World} {B : Nat} {v : Value} {l : List Int} (h : W.ownsRow B 3 1 v l.length (ints l)) : Sl W v l := by
  rcases h.2 with ⟨rfl, hn⟩ | ⟨g, cap, cur, rfl, _⟩
  · have : l = [] := List.eq_nil_of_length_eq_zero hn
    subst this; exact Sl.nil W
  · exact Sl_of_own h
theorem flat3_get (f : Nat → Value × Value × Value) : ∀ (n j i : Nat), j < n → i < 3 → ((List.range n).flatMap (fun j => [(f j).1, (f j).2.1, (f j).2.2]))[j * 3 + i]? = some (if i = 0 then (f j).1 else if i = 1 then (f j).2.1 else (f j).2.2)
  | 0, j, i, hj, _ => absurd hj (by omega)
  | n + 1, j, i, hj, hi => by
    have hl : ∀ n, ((List.range n).flatMap (fun j => [(f j).1, (f j).2.1, (f j).2.2])).length = n * 3 := fun n => by
      induction n with
      | zero => rfl
      | succ n ih => rw [List.range_succ, List.flatMap_append, List.length_append, ih]; simp; omega
    rw [List.range_succ, List.flatMap_append]
    by_cases e : j < n
    · rw [List.getElem?_append_left (by rw [hl]; omega)]
      exact flat3_get f n j i e hi
    · have : j = n := by omega
      subst this
      rw [List.getElem?_append_right (by rw [hl]; omega), hl]
      match i, hi with
      | 0, _ => simp
      | 1, _ => simp
      | 2, _ => simp
theorem flatS_get {L : List SlotD} {tv : Nat → Value} {j : Nat} (hj : j < L.length) : (flatS L tv)[j * 3]? = some (.int .i64 (L.getD j default).1) ∧ (flatS L tv)[j * 3 + 1]? = some (.string (L.getD j default).2.1) ∧ (flatS L tv)[j * 3 + 2]? = some (tv j) := by
  have h := fun i hi => flat3_get (fun j => (.int .i64 (L.getD j default).1, .string (L.getD j default).2.1, tv j)) L.length j i hj hi
  exact ⟨h 0 (by omega), h 1 (by omega), h 2 (by omega)⟩
theorem flatN_get {S : List SnapD} {qv : Nat → Value} {j : Nat} (hj : j < S.length) : (flatN S qv)[j * 3]? = some (.string (S.getD j default).1) ∧ (flatN S qv)[j * 3 + 1]? = some (.int .i64 (S.getD j default).2.1) ∧ (flatN S qv)[j * 3 + 2]? = some (qv j) := by
  have h := fun i hi => flat3_get (fun j => (.string (S.getD j default).1, .int .i64 (S.getD j default).2.1, qv j)) S.length j i hj hi
  exact ⟨h 0 (by omega), h 1 (by omega), h 2 (by omega)⟩
theorem row_lt {W : World} {B : Nat} {e : TypeId} {size g n cap : Nat} {xs : List Value} (h : W.ownsRow B e size (.slice (some ⟨g, 0, none⟩) n cap) n xs) : B ≤ g ∧ g < W.heap.size ∧ n ≤ cap ∧ cap ≤ maxLen := by
  rcases h.2 with ⟨h', _⟩ | ⟨g', cap', cur, h', hb, hg, hnc, hcm, _⟩
  · simp at h'
  · simp only [Value.slice.injEq, Option.some.injEq, Addr.mk.injEq, and_true, true_and] at h'
    obtain ⟨rfl, rfl⟩ := h'
    exact ⟨hb, (Array.getElem?_eq_some_iff.1 hg).1, hnc, hcm⟩
theorem row_form {W : World} {B : Nat} {e : TypeId} {size n : Nat} {v : Value} {xs : List Value} (h : W.ownsRow B e size v n xs) : (v = .slice none 0 0 ∧ n = 0) ∨ ∃ g cap, v = .slice (some ⟨g, 0, none⟩) n cap ∧ B ≤ g ∧ g < W.heap.size ∧ n ≤ cap ∧ cap ≤ maxLen := by
  have h' := h
  rcases h.2 with hn | ⟨g, cap, cur, rfl, _⟩
  · exact .inl hn
  · exact .inr ⟨g, cap, rfl, row_lt h'⟩
theorem row_slots {W : World} {B : Nat} {v : Value} {L : List SlotD} {tv : Nat → Value} (h : W.ownsRow B 61 3 v L.length (flatS L tv)) (ht : ∀ j, j < L.length → Sl W (tv j) (L.getD j default).2.2) : Slots W v L := by
  have h' := h
  rcases row_form h with ⟨rfl, hn⟩ | ⟨g, cap, rfl, hb, hg, hnc, hcm⟩
  · have : L = [] := List.eq_nil_of_length_eq_zero hn
    subst this; exact ⟨none, 0, rfl, Nat.zero_le _, Nat.zero_le _, fun h => absurd rfl h⟩
  · refine ⟨_, cap, rfl, Nat.le_trans hnc hcm, hnc, fun _ => ⟨g, 0, rfl, hg, fun j hj => ?_⟩⟩
    have hc := fun i (hi : i < 3) => h'.cellAt (j * 3 + i) (by omega)
    obtain ⟨g0, g1, g2⟩ := flatS_get (tv := tv) hj
    have e : L[j] = L.getD j default := by simp [List.getD, hj]
    rw [e, Nat.zero_add]
    exact ⟨tv j, (hc 0 (by omega)).trans g0, (hc 1 (by omega)).trans g1, (hc 2 (by omega)).trans g2, ht j hj⟩
theorem row_snaps {W : World} {B : Nat} {v : Value} {S : List SnapD} {qv : Nat → Value} (h : W.ownsRow B 64 3 v S.length (flatN S qv)) (ht : ∀ j, j < S.length → Sl W (qv j) (S.getD j default).2.2) : Snaps W v S := by
  have h' := h
  rcases row_form h with ⟨rfl, hn⟩ | ⟨g, cap, rfl, hb, hg, hnc, hcm⟩
  · have : S = [] := List.eq_nil_of_length_eq_zero hn
    subst this; exact ⟨none, 0, rfl, Nat.zero_le _, Nat.zero_le _, fun h => absurd rfl h⟩
  · refine ⟨_, cap, rfl, Nat.le_trans hnc hcm, hnc, fun _ => ⟨g, 0, rfl, hg, fun j hj => ?_⟩⟩
    have hc := fun i (hi : i < 3) => h'.cellAt (j * 3 + i) (by omega)
    obtain ⟨g0, g1, g2⟩ := flatN_get (qv := qv) hj
    have e : S[j] = S.getD j default := by simp [List.getD, hj]
    rw [e, Nat.zero_add]
    exact ⟨qv j, (hc 0 (by omega)).trans g0, (hc 1 (by omega)).trans g1, (hc 2 (by omega)).trans g2, ht j hj⟩
theorem OI.img {W : World} {B : Nat} {val : Nm → Value} {m : ImgD} (h : OI W B val m) : Img W (imgV m.guest val) m :=
  ⟨_, _, _, _, rfl, row_sl (h.row .root (Live.root m)), row_slots (h.row .slots (Live.slots m)) (fun j hj => row_sl (h.row (.tab j) (Live.tab hj))), row_sl (h.row .refs (Live.refs m)), row_snaps (h.row .snaps (Live.snaps m)) (fun j hj => row_sl (h.row (.sr j) (Live.sr hj)))⟩


theorem OI.store {W : World} {B : Nat} {val : Nm → Value} {m m' : ImgD} (h : OI W B val m) {a : Nm} (ha : Live m a) {g n cap : Nat} (hv : val a = .slice (some ⟨g, 0, none⟩) n cap) (i : Nat) (u : Value)
    (hlive : ∀ b, Live m' b ↔ Live m b) (hn : ∀ b, Live m b → rowN m' b = rowN m b) (hsame : ∀ b, Live m b → b ≠ a → rowV m' val b = rowV m val b) (hset : rowV m' val a = (rowV m val a).set i u) : OI (W.setCell ⟨g, i, none⟩ u) B val m' := by
  refine ⟨fun b hb => ?_, fun b c hb hc => h.apart b c ((hlive b).1 hb) ((hlive c).1 hc)⟩
  have hb := (hlive b).1 hb
  rw [hn b hb]
  by_cases e : b = a
  · subst e
    have hr := h.row b hb
    rw [hset]
    have hnn : n = rowN m b := by
      rcases row_form hr with ⟨e, _⟩ | ⟨g', cap', e, _⟩
      · rw [hv] at e; simp at e
      · rw [hv] at e; simp at e; exact e.2.1
    subst hnn
    rw [hv] at hr ⊢
    exact (hr.stored i u).1
  · rw [hsame b hb e]
    exact ownsRow_setCell_other (h.row b hb) (h.apart a b ha hb (fun x => e x.symm) g (by rw [hv]; rfl)) u
theorem getD_setR (l : List SlotD) (i j : Nat) (s : SlotD) : (l.set i s).getD j default = if i = j ∧ j < l.length then s else l.getD j default := by
  by_cases hj : j < l.length
  · by_cases e : i = j
    · subst e; simp [List.getD, hj]
    · simp [List.getD, e]
  · simp [List.getD, hj]
theorem ints_set (l : List Int) (i : Nat) (x : Int) : ints (l.set i x) = (ints l).set i (.int .i64 x) := by unfold ints; rw [List.map_set]
theorem OI.setRoot {W : World} {B : Nat} {val : Nm → Value} {m : ImgD} (h : OI W B val m) {g n cap : Nat} (hv : val .root = .slice (some ⟨g, 0, none⟩) n cap) (i : Nat) (x : Int) : OI (W.setCell ⟨g, i, none⟩ (.int .i64 x)) B val { m with root := m.root.set i x } := by
  refine h.store (a := .root) (Live.root m) hv i _ (live_iff rfl rfl) (fun b hb => ?_) (fun b hb hne => ?_) (ints_set _ _ _)
  · rcases hb.cases with rfl | rfl | rfl | rfl | ⟨j, rfl, hj⟩ | ⟨j, rfl, hj⟩ <;> first | rfl | exact List.length_set
  · rcases hb.cases with rfl | rfl | rfl | rfl | ⟨j, rfl, hj⟩ | ⟨j, rfl, hj⟩ <;> first | rfl | exact absurd rfl hne
theorem OI.setRefs {W : World} {B : Nat} {val : Nm → Value} {m : ImgD} (h : OI W B val m) {g n cap : Nat} (hv : val .refs = .slice (some ⟨g, 0, none⟩) n cap) (i : Nat) (x : Int) : OI (W.setCell ⟨g, i, none⟩ (.int .i64 x)) B val { m with refs := m.refs.set i x } := by
  refine h.store (a := .refs) (Live.refs m) hv i _ (live_iff rfl rfl) (fun b hb => ?_) (fun b hb hne => ?_) (ints_set _ _ _)
  · rcases hb.cases with rfl | rfl | rfl | rfl | ⟨j, rfl, hj⟩ | ⟨j, rfl, hj⟩ <;> first | rfl | exact List.length_set
  · rcases hb.cases with rfl | rfl | rfl | rfl | ⟨j, rfl, hj⟩ | ⟨j, rfl, hj⟩ <;> first | rfl | exact absurd rfl hne
end Go.Proofs.YtehleeibgkpjmafGreat
/- An image of one's own: whole slots that are stored, slots that are put behind, lists that are exchanged. -/
namespace Go.Proofs.YtehleeibgkpjmafGreat
open Go.RowKit
set_option maxRecDepth 20000

def upd (val : Nm → Value) (a : Nm) (v : Value) : Nm → Value := fun b => if b.kind = a.kind ∧ b.ix = a.ix then v else val b
theorem upd_same (val : Nm → Value) (a : Nm) (v : Value) : upd val a v a = v := by unfold upd; rw [if_pos ⟨rfl, rfl⟩]
theorem upd_other (val : Nm → Value) {a b : Nm} (v : Value) (h : b ≠ a) : upd val a v b = val b := by
  unfold upd
  rw [if_neg]
  intro e
  apply h
  obtain ⟨k, i⟩ := a
  obtain ⟨k', i'⟩ := b
  obtain ⟨e1, e2⟩ := e
  dsimp only at e1 e2
  rw [e1, e2]
def Far (m : ImgD) (val : Nm → Value) (a : Nm) (v : Value) : Prop := ∀ b, Live m b → b ≠ a → ∀ g, v.ownBlock = some g → (val b).ownBlock ≠ some g
theorem far_new {W : World} {B : Nat} {val : Nm → Value} {m : ImgD} (h : OI W B val m) (a : Nm) {v : Value} (hv : ∀ g, v.ownBlock = some g → W.heap.size ≤ g) : Far m val a v := fun b hb _ g hg e => by
  have := ((h.row b hb).lt g e).2
  have := hv g hg
  omega
theorem far_nil (m : ImgD) (val : Nm → Value) (a : Nm) (n cap : Nat) : Far m val a (.slice none n cap) := fun _ _ _ g hg => by cases hg

theorem OI.swap {W : World} {B : Nat} {val : Nm → Value} {m m' : ImgD} (h : OI W B val m) {a : Nm} (ha : Live m a) {v : Value} (hv : W.ownsRow B (rowT a) (rowS a) v (rowN m' a) (rowV m' (upd val a v) a)) (hfar : Far m val a v)
    (hlive : ∀ b, Live m' b ↔ Live m b) (hsame : ∀ b, Live m b → b ≠ a → rowN m' b = rowN m b ∧ rowV m' (upd val a v) b = rowV m val b) : OI W B (upd val a v) m' := by
  refine ⟨fun b hb => ?_, fun b c hb hc hne g hg => ?_⟩
  · have hb := (hlive b).1 hb
    by_cases e : b = a
    · subst e; rw [upd_same]; exact hv
    · rw [upd_other val v e, (hsame b hb e).1, (hsame b hb e).2]; exact h.row b hb
  · have hb := (hlive b).1 hb
    have hc := (hlive c).1 hc
    by_cases e : b = a
    · subst e
      rw [upd_same] at hg
      rw [upd_other val v (fun x => hne x.symm)]
      exact hfar c hc (fun x => hne x.symm) g hg
    · rw [upd_other val v e] at hg
      by_cases e2 : c = a
      · subst e2
        rw [upd_same]
        exact fun x => hfar b hb e g x hg
      · rw [upd_other val v e2]; exact h.apart b c hb hc hne g hg
theorem OI.swapRoot {W : World} {B : Nat} {val : Nm → Value} {m : ImgD} (h : OI W B val m) {v : Value} {r : List Int} (hv : W.ownsRow B 3 1 v r.length (ints r)) (hfar : Far m val .root v) (g : Int) : OI W B (upd val .root v) { m with guest := g, root := r } := by
  refine h.swap (a := .root) (Live.root m) hv hfar (live_iff rfl rfl) (fun b hb hne => ?_)
  rcases hb.cases with rfl | rfl | rfl | rfl | ⟨j, rfl, hj⟩ | ⟨j, rfl, hj⟩ <;> first | exact ⟨rfl, rfl⟩ | exact absurd rfl hne
theorem OI.swapRefs {W : World} {B : Nat} {val : Nm → Value} {m : ImgD} (h : OI W B val m) {v : Value} {r : List Int} (hv : W.ownsRow B 3 1 v r.length (ints r)) (hfar : Far m val .refs v) : OI W B (upd val .refs v) { m with refs := r } := by
  refine h.swap (a := .refs) (Live.refs m) hv hfar (live_iff rfl rfl) (fun b hb hne => ?_)
  rcases hb.cases with rfl | rfl | rfl | rfl | ⟨j, rfl, hj⟩ | ⟨j, rfl, hj⟩ <;> first | exact ⟨rfl, rfl⟩ | exact absurd rfl hne


theorem flat3_length (f : Nat → Value × Value × Value) (n : Nat) : ((List.range n).flatMap (fun j => [(f j).1, (f j).2.1, (f j).2.2])).length = n * 3 := by
  induction n with
  | zero => rfl
  | succ n ih => rw [List.range_succ, List.flatMap_append, List.length_append, ih]; simp; omega
theorem flatS_length (L : List SlotD) (tv : Nat → Value) : (flatS L tv).length = L.length * 3 := flat3_length (fun j => (.int .i64 (L.getD j default).1, .string (L.getD j default).2.1, tv j)) L.length
theorem flatN_length (S : List SnapD) (qv : Nat → Value) : (flatN S qv).length = S.length * 3 := flat3_length (fun j => (.string (S.getD j default).1, .int .i64 (S.getD j default).2.1, qv j)) S.length
theorem flatS_set {L : List SlotD} {tv tv' : Nat → Value} {t : Nat} (k : Int) (d : ByteArray) (es : List Int) (htv : ∀ j, j ≠ t → tv' j = tv j) :
    flatS (L.set t (k, d, es)) tv' = (((flatS L tv).set (t * 3) (.int .i64 k)).set (t * 3 + 1) (.string d)).set (t * 3 + 2) (tv' t) := by
  apply List.ext_getElem?
  intro i
  rcases Nat.lt_or_ge i (L.length * 3) with hi | hi
  · obtain ⟨j, r, hj, hr, rfl⟩ : ∃ j r, j < L.length ∧ r < 3 ∧ i = j * 3 + r := ⟨i / 3, i % 3, by omega, Nat.mod_lt _ (by decide), by omega⟩
    obtain ⟨a0, a1, a2⟩ := flatS_get (L := L.set t (k, d, es)) (tv := tv') (j := j) (by rw [List.length_set]; exact hj)
    obtain ⟨b0, b1, b2⟩ := flatS_get (L := L) (tv := tv) hj
    rw [getD_setR] at a0 a1
    have hlen := flatS_length L tv
    by_cases e : t = j
    · subst e
      rw [if_pos ⟨rfl, hj⟩] at a0 a1
      match r, hr with
      | 0, _ => rw [Nat.add_zero, a0, List.getElem?_set_ne (by omega), List.getElem?_set_ne (by omega), List.getElem?_set_self (by rw [hlen]; omega)]
      | 1, _ => rw [a1, List.getElem?_set_ne (by omega), List.getElem?_set_self (by rw [List.length_set, hlen]; omega)]
      | 2, _ => rw [a2, List.getElem?_set_self (by rw [List.length_set, List.length_set, hlen]; omega)]
    · rw [if_neg (fun x => e x.1)] at a0 a1
      rw [htv j (fun x => e x.symm)] at a2
      rw [List.getElem?_set_ne (by omega), List.getElem?_set_ne (by omega), List.getElem?_set_ne (by omega)]
      match r, hr with
      | 0, _ => rw [Nat.add_zero, a0, b0]
      | 1, _ => rw [a1, b1]
      | 2, _ => rw [a2, b2]
  · rw [List.getElem?_eq_none (by rw [flatS_length, List.length_set]; exact hi), List.getElem?_eq_none (by rw [List.length_set, List.length_set, List.length_set, flatS_length]; exact hi)]
theorem OI.setSlot {W : World} {B : Nat} {val : Nm → Value} {m : ImgD} (h : OI W B val m) {t : Nat} (ht : t < m.slots.length) {g n cap : Nat} (hv : val .slots = .slice (some ⟨g, 0, none⟩) n cap) (k : Int) (d : ByteArray) (es : List Int) {ev : Value}
    (hev : W.ownsRow B 3 1 ev es.length (ints es)) (hfar : Far m val (.tab t) ev) :
    OI (((W.setCell ⟨g, t * 3, none⟩ (.int .i64 k)).setCell ⟨g, t * 3 + 1, none⟩ (.string d)).setCell ⟨g, t * 3 + 2, none⟩ ev) B (upd val (.tab t) ev) { m with slots := m.slots.set t (k, d, es) } := by
  have hgd := fun j => getD_setR m.slots t j (k, d, es)
  have hnn : n = m.slots.length := by
    rcases row_form (h.row .slots (Live.slots m)) with ⟨e, _⟩ | ⟨g', cap', e, _⟩
    · rw [hv] at e; simp at e
    · rw [hv] at e; simp at e; exact e.2.1
  have hoth : ∀ {e : TypeId} {size : Nat} {v : Value} {q : Nat} {xs : List Value}, W.ownsRow B e size v q xs → v.ownBlock ≠ some g →
      (((W.setCell ⟨g, t * 3, none⟩ (.int .i64 k)).setCell ⟨g, t * 3 + 1, none⟩ (.string d)).setCell ⟨g, t * 3 + 2, none⟩ ev).ownsRow B e size v q xs := fun hr hne =>
    ownsRow_setCell_other (ownsRow_setCell_other (ownsRow_setCell_other hr hne _) hne _) hne _
  refine ⟨fun b hb => ?_, fun b c hb hc hne q hq => ?_⟩
  · have hb' : Live m b := (live_iff (m := m) (m' := { m with slots := m.slots.set t (k, d, es) }) List.length_set rfl b).1 hb
    by_cases es0 : b = .slots
    · subst es0
      rw [upd_other val ev (by intro x; cases x)]
      have hr := h.row .slots hb'
      have e1 : rowV { m with slots := m.slots.set t (k, d, es) } (upd val (.tab t) ev) .slots = (((rowV m val .slots).set (t * 3) (.int .i64 k)).set (t * 3 + 1) (.string d)).set (t * 3 + 2) ev := by
        have := flatS_set (L := m.slots) (tv := fun j => val (.tab j)) (tv' := fun j => upd val (.tab t) ev (.tab j)) (t := t) k d es (fun j hj => upd_other val ev (by intro x; apply hj; injection x))
        rw [upd_same] at this
        exact this
      have e2 : rowN { m with slots := m.slots.set t (k, d, es) } .slots = rowN m .slots := List.length_set
      rw [e1, e2]
      have hN : rowN m .slots = n := hnn.symm
      rw [hN] at hr ⊢
      rw [hv] at hr ⊢
      exact ((((hr.stored (t * 3) (.int .i64 k)).1).stored (t * 3 + 1) (.string d)).1.stored (t * 3 + 2) ev).1
    · have hbg : (val b).ownBlock ≠ some g := h.apart .slots b (Live.slots m) hb' (fun x => es0 x.symm) g (by rw [hv]; rfl)
      by_cases et : b = .tab t
      · subst et
        rw [upd_same]
        have e1 : rowV { m with slots := m.slots.set t (k, d, es) } (upd val (.tab t) ev) (.tab t) = ints es := by
          show ints ((m.slots.set t (k, d, es)).getD t default).2.2 = _
          rw [hgd, if_pos ⟨rfl, ht⟩]
        have e2 : rowN { m with slots := m.slots.set t (k, d, es) } (.tab t) = es.length := by
          show ((m.slots.set t (k, d, es)).getD t default).2.2.length = _
          rw [hgd, if_pos ⟨rfl, ht⟩]
        rw [e1, e2]
        exact hoth hev (fun x => hfar .slots (Live.slots m) (by intro y; cases y) g x (by rw [hv]; rfl))
      · rw [upd_other val ev et]
        have e1 : rowV { m with slots := m.slots.set t (k, d, es) } (upd val (.tab t) ev) b = rowV m val b ∧ rowN { m with slots := m.slots.set t (k, d, es) } b = rowN m b := by
          rcases hb'.cases with rfl | rfl | rfl | rfl | ⟨j, rfl, hj⟩ | ⟨j, rfl, hj⟩
          · exact ⟨rfl, rfl⟩
          · exact absurd rfl es0
          · exact ⟨rfl, rfl⟩
          · exact ⟨rfl, rfl⟩
          · have hjt : t ≠ j := fun x => et (by rw [x])
            constructor
            · show ints ((m.slots.set t (k, d, es)).getD j default).2.2 = ints (m.slots.getD j default).2.2
              rw [hgd, if_neg (fun x => hjt x.1)]
            · show ((m.slots.set t (k, d, es)).getD j default).2.2.length = (m.slots.getD j default).2.2.length
              rw [hgd, if_neg (fun x => hjt x.1)]
          · exact ⟨rfl, rfl⟩
        rw [e1.1, e1.2]
        exact hoth (h.row b hb') hbg
  · have hb' : Live m b := (live_iff (m := m) (m' := { m with slots := m.slots.set t (k, d, es) }) List.length_set rfl b).1 hb
    have hc' : Live m c := (live_iff (m := m) (m' := { m with slots := m.slots.set t (k, d, es) }) List.length_set rfl c).1 hc
    by_cases e : b = .tab t
    · subst e
      rw [upd_same] at hq
      rw [upd_other val ev (fun x => hne x.symm)]
      exact hfar c hc' (fun x => hne x.symm) q hq
    · rw [upd_other val ev e] at hq
      by_cases e2 : c = .tab t
      · subst e2; rw [upd_same]; exact fun x => hfar b hb' e q x hq
      · rw [upd_other val ev e2]; exact h.apart b c hb' hc' hne q hq


theorem flatS_snoc (L : List SlotD) (tv tv' : Nat → Value) (s : SlotD) (htv : ∀ j, j < L.length → tv' j = tv j) : flatS (L ++ [s]) tv' = flatS L tv ++ [.int .i64 s.1, .string s.2.1, tv' L.length] := by
  unfold flatS
  rw [List.length_append, List.length_singleton, List.range_succ, List.flatMap_append]
  have e1 : (List.range L.length).flatMap (fun j => [Value.int .i64 ((L ++ [s]).getD j default).1, .string ((L ++ [s]).getD j default).2.1, tv' j]) = (List.range L.length).flatMap (fun j => [Value.int .i64 (L.getD j default).1, .string (L.getD j default).2.1, tv j]) := by
    refine congrArg List.flatten (List.map_congr_left fun j hj => ?_)
    have hj := List.mem_range.1 hj
    have e : (L ++ [s]).getD j default = L.getD j default := by simp [List.getD, List.getElem?_append, hj]
    rw [e, htv j hj]
  rw [e1]
  simp
end Go.Proofs.YtehleeibgkpjmafGreat
/- A list of integers is put behind a new empty one: a copy of one's own. A slot, a snapshot, is put behind. -/
namespace Go.Proofs.YtehleeibgkpjmafGreat
open Go.RowKit

theorem infoSlot : (Tryz.prog.info? 61).map (fun i => (i.zero, i.size, i.bytes)) = some (some (.agg #[.int .i64 0, .string ByteArray.empty, .slice none 0 0]), 3, 48) := by kernel_rfl
theorem infoSnap : (Tryz.prog.info? 64).map (fun i => (i.zero, i.size, i.bytes)) = some (some (.agg #[.string ByteArray.empty, .int .i64 0, .slice none 0 0]), 3, 48) := by kernel_rfl
end Go.Proofs.YtehleeibgkpjmafGreat
/- Contracts of slices.Clone: a list of one's own. -/
namespace Go.Proofs.YtehleeibgkpjmafGreat
open Go.RowKit Go.Shelf
set_option maxRecDepth 20000

theorem ints_mem {xs : List Int} : ∀ u ∈ ints xs, u.oneCell' = true := ints_oneCell .i64 xs
theorem sl_form1 {W : World} {v : Value} {xs : List Int} (h : Sl W v xs) : v.oneCell' = true := by obtain ⟨ao, cap, rfl, _⟩ := h; rfl
theorem flatS_mem {L : List SlotD} {tv : Nat → Value} (h : ∀ j, j < L.length → (tv j).oneCell' = true) : ∀ u ∈ flatS L tv, u.oneCell' = true := fun u hu => by
  unfold flatS at hu
  rw [List.mem_flatMap] at hu
  obtain ⟨j, hj, hu⟩ := hu
  rw [List.mem_range] at hj
  simp only [List.mem_cons, List.not_mem_nil, or_false] at hu
  rcases hu with rfl | rfl | rfl
  · rfl
  · rfl
  · exact h j hj
theorem flatN_mem {L : List SnapD} {tv : Nat → Value} (h : ∀ j, j < L.length → (tv j).oneCell' = true) : ∀ u ∈ flatN L tv, u.oneCell' = true := fun u hu => by
  unfold flatN at hu
  rw [List.mem_flatMap] at hu
  obtain ⟨j, hj, hu⟩ := hu
  rw [List.mem_range] at hj
  simp only [List.mem_cons, List.not_mem_nil, or_false] at hu
  rcases hu with rfl | rfl | rfl
  · rfl
  · rfl
  · exact h j hj
def room : Nat := 140737488355328
theorem room_is : room = 140737488355328 := rfl
theorem maxLen_of_room {n b : Nat} (hb : 0 < b) (h : n * b ≤ room) : n ≤ maxLen := by
  have := Nat.le_trans (Nat.le_mul_of_pos_right n hb) h
  rw [room_is] at this
  unfold maxLen
  omega

theorem clnI_nil (n c : Nat) (w : World) : Calls Tryz.prog 98 #[.slice none n c] w fun r w' => r = .returned (.slice none 0 0) ∧ w' = w := by
  have q22 : ∀ (w : World) (a : Option Addr) (n c n' c' : Nat), (binOp .eql 23 (.slice a n c) (.slice none n' c')).run Tryz.prog w = .ok (.bool a.isNone) w := fun w a n c n' c' => Lib.run_eql_slice_nil w _ _ a n c n' c' Tryz.underlying23
  go_enter Tryz.func98, Tryz.ntmps98
  go_wp2
  go_ret
  exact ⟨rfl, rfl⟩
set_option maxHeartbeats 1000000 in
theorem clnI_at (a : Addr) (n c : Nat) (news : List Value) (w : World) (hl : news.length = n * 1) (hbig : n * 8 ≤ room) (hc : ∀ j u, news[j]? = some u → w.cell? (a.add j) = some u) (h1 : ∀ u ∈ news, u.oneCell' = true) :
    Calls Tryz.prog 98 #[.slice (some a) n c] w fun r w' => ∃ v', r = .returned v' ∧ w'.ownsRow w.heap.size 3 1 v' n news ∧ Below w.heap.size w w' := by
  have q22 : ∀ (w : World) (a : Option Addr) (n c n' c' : Nat), (binOp .eql 23 (.slice a n c) (.slice none n' c')).run Tryz.prog w = .ok (.bool a.isNone) w := fun w a n c n' c' => Lib.run_eql_slice_nil w _ _ a n c n' c' Tryz.underlying23
  obtain ⟨i0, hi, hz0, hz1, hz2⟩ := info_parts info3
  have A : Hid ((∀ j u, news[j]? = some u → w.cell? (a.add j) = some u) ∧ news.length = n * 1 ∧ n * 8 ≤ room ∧ (∀ u ∈ news, u.oneCell' = true) ∧ Tryz.prog.info? 3 = some i0 ∧ i0.zero = some (.int .i64 0) ∧ i0.size = 1 ∧ i0.bytes = 8) := ⟨hc, hl, hbig, h1, hi, hz0, hz1, hz2⟩
  clear hc hl hbig h1 hi hz0 hz1 hz2
  go_enter Tryz.func98, Tryz.ntmps98
  go_wp2_with (at_builtin; refine wpList_append_own _ rfl _ _ 23 rfl w.heap.size 3 i0 (.int .i64 0) 1 8 Tryz.underlying23 A.out.2.2.2.2.1 A.out.2.2.2.2.2.1 A.out.2.2.2.2.2.2.1 A.out.2.2.2.2.2.2.2 rfl (by decide) _ _ _ rfl (World.ownsRow_made w #[] 0 (Nat.le_refl _) (Nat.zero_le _) (by simp)) a n c news rfl A.out.2.1 ?qc2 A.out.2.2.2.1 ?qc4 ?qc5 ?qc6 ?_)
  case qc2 =>
    intro j u hj
    exact Lib.cell?_alloc_some _ (A.out.1 j u hj)
  case qc4 => rw [Nat.zero_add]; exact maxLen_of_room (by decide) A.out.2.2.1
  case qc5 => rw [Nat.zero_add]; exact A.out.2.2.1
  case qc6 => simp
  intro v' w1 hown hgrow hnil
  have HO : Hid (w1.ownsRow w.heap.size 3 1 v' n news) := hown
  have HG : Hid (Below w.heap.size w w1) := ((Below.refl _ w).alloc (Nat.le_refl _) _).grown hgrow (by simp) (by intro k hk; simp [Value.ownBlock] at hk; omega)
  clear hown hgrow hnil
  go_wp2
  go_ret
  exact ⟨v', rfl, HO.out, HG.out⟩
theorem clone_ints {w : World} {v : Value} {xs : List Int} (h : Sl w v xs) (hb : xs.length * 8 ≤ room) :
    Calls Tryz.prog 98 #[v] w fun r w' => ∃ v', r = .returned v' ∧ w'.ownsRow w.heap.size 3 1 v' xs.length (ints xs) ∧ Below w.heap.size w w' := by
  obtain ⟨ao, cap, rfl, hm, hcp, hc⟩ := h
  cases ao with
  | none =>
    have hx : xs = [] := Classical.byContradiction fun hne => by obtain ⟨_, _, e, _⟩ := hc hne; cases e
    subst hx
    refine (clnI_nil _ _ w).mono ?_
    rintro e w' ⟨rfl, rfl⟩
    exact ⟨_, rfl, World.ownsRow_nil _ _ _ _, Below.refl _ _⟩
  | some a =>
    refine clnI_at a xs.length cap (ints xs) w (by rw [ints_length]; omega) hb (fun j u hu => ?_) ints_mem
    have hj : j < xs.length := by
      rcases Nat.lt_or_ge j xs.length with h | h
      · exact h
      · rw [List.getElem?_eq_none (by rw [ints_length]; exact h)] at hu; cases hu
    obtain ⟨b, off, e, _, hcell⟩ := hc (by intro e; rw [e] at hj; simp at hj)
    simp only [Option.some.injEq] at e
    subst e
    rw [addr_add, hcell j hj]
    unfold ints at hu
    rw [List.getElem?_map, List.getElem?_eq_getElem hj] at hu
    simp at hu
    simp [List.getD, hj, hu]
abbrev nilS : Value := .slice none 0 0
theorem choose_ltV {p : Nat → Value → Prop} {n : Nat} (h : ∀ i, i < n → ∃ s, p i s) : ∃ f : Nat → Value, ∀ i, i < n → p i (f i) :=
  ⟨fun i => if hi : i < n then (h i hi).choose else .slice none 0 0, fun i hi => by simp only [dif_pos hi]; exact (h i hi).choose_spec⟩

theorem clnS_nil (n c : Nat) (w : World) : Calls Tryz.prog 99 #[.slice none n c] w fun r w' => r = .returned (.slice none 0 0) ∧ w' = w := by
  have q22 : ∀ (w : World) (a : Option Addr) (n c n' c' : Nat), (binOp .eql 24 (.slice a n c) (.slice none n' c')).run Tryz.prog w = .ok (.bool a.isNone) w := fun w a n c n' c' => Lib.run_eql_slice_nil w _ _ a n c n' c' Tryz.underlying24
  go_enter Tryz.func99, Tryz.ntmps99
  go_wp2
  go_ret
  exact ⟨rfl, rfl⟩
set_option maxHeartbeats 1000000 in
theorem clnS_at (a : Addr) (n c : Nat) (news : List Value) (w : World) (hl : news.length = n * 3) (hbig : n * 48 ≤ room) (hc : ∀ j u, news[j]? = some u → w.cell? (a.add j) = some u) (h1 : ∀ u ∈ news, u.oneCell' = true) :
    Calls Tryz.prog 99 #[.slice (some a) n c] w fun r w' => ∃ v', r = .returned v' ∧ w'.ownsRow w.heap.size 61 3 v' n news ∧ Below w.heap.size w w' := by
  have q22 : ∀ (w : World) (a : Option Addr) (n c n' c' : Nat), (binOp .eql 24 (.slice a n c) (.slice none n' c')).run Tryz.prog w = .ok (.bool a.isNone) w := fun w a n c n' c' => Lib.run_eql_slice_nil w _ _ a n c n' c' Tryz.underlying24
  obtain ⟨i0, hi, hz0, hz1, hz2⟩ := info_parts infoSlot
  have A : Hid ((∀ j u, news[j]? = some u → w.cell? (a.add j) = some u) ∧ news.length = n * 3 ∧ n * 48 ≤ room ∧ (∀ u ∈ news, u.oneCell' = true) ∧ Tryz.prog.info? 61 = some i0 ∧ i0.zero = some (.agg #[.int .i64 0, .string ByteArray.empty, .slice none 0 0]) ∧ i0.size = 3 ∧ i0.bytes = 48) := ⟨hc, hl, hbig, h1, hi, hz0, hz1, hz2⟩
  clear hc hl hbig h1 hi hz0 hz1 hz2
  go_enter Tryz.func99, Tryz.ntmps99
  go_wp2_with (at_builtin; refine wpList_append_own _ rfl _ _ 24 rfl w.heap.size 61 i0 (.agg #[.int .i64 0, .string ByteArray.empty, .slice none 0 0]) 3 48 Tryz.underlying24 A.out.2.2.2.2.1 A.out.2.2.2.2.2.1 A.out.2.2.2.2.2.2.1 A.out.2.2.2.2.2.2.2 rfl (by decide) _ _ _ rfl (World.ownsRow_made w #[] 0 (Nat.le_refl _) (Nat.zero_le _) (by simp)) a n c news rfl A.out.2.1 ?qc2 A.out.2.2.2.1 ?qc4 ?qc5 ?qc6 ?_)
  case qc2 =>
    intro j u hj
    exact Lib.cell?_alloc_some _ (A.out.1 j u hj)
  case qc4 => rw [Nat.zero_add]; exact maxLen_of_room (by decide) A.out.2.2.1
  case qc5 => rw [Nat.zero_add]; exact A.out.2.2.1
  case qc6 => simp
  intro v' w1 hown hgrow hnil
  have HO : Hid (w1.ownsRow w.heap.size 61 3 v' n news) := hown
  have HG : Hid (Below w.heap.size w w1) := ((Below.refl _ w).alloc (Nat.le_refl _) _).grown hgrow (by simp) (by intro k hk; simp [Value.ownBlock] at hk; omega)
  clear hown hgrow hnil
  go_wp2
  go_ret
  exact ⟨v', rfl, HO.out, HG.out⟩
theorem clone_slots {w : World} {v : Value} {L : List SlotD} (h : Slots w v L) (hb : L.length * 48 ≤ room) :
    ∃ tv : Nat → Value, (∀ j, j < L.length → Sl w (tv j) (L.getD j default).2.2) ∧ ∀ W, Below w.heap.size w W → Calls Tryz.prog 99 #[v] W fun r w' => ∃ v', r = .returned v' ∧ w'.ownsRow W.heap.size 61 3 v' L.length (flatS L tv) ∧ Below W.heap.size W w' := by
  obtain ⟨ao, cap, rfl, hm, hcp, hc⟩ := h
  cases ao with
  | none =>
    have hx : L = [] := Classical.byContradiction fun hne => by obtain ⟨_, _, e, _⟩ := hc hne; cases e
    subst hx
    refine ⟨fun _ => nilS, fun j hj => absurd hj (Nat.not_lt_zero _), fun W _ => (clnS_nil _ _ W).mono ?_⟩
    rintro e w' ⟨rfl, rfl⟩
    exact ⟨_, rfl, World.ownsRow_nil _ _ _ _, Below.refl _ _⟩
  | some a =>
    have hx : ∀ j, j < L.length → ∃ tv, Sl w tv (L.getD j default).2.2 ∧ ∀ W, Below w.heap.size w W → W.cell? (a.add (j * 3)) = some (.int .i64 (L.getD j default).1) ∧ W.cell? (a.add (j * 3 + 1)) = some (.string (L.getD j default).2.1) ∧ W.cell? (a.add (j * 3 + 2)) = some tv := fun j hj => by
      obtain ⟨b, off, e, hlt, hcell⟩ := hc (by intro e; rw [e] at hj; simp at hj)
      simp only [Option.some.injEq] at e
      subst e
      obtain ⟨tv, c1, c2, c3, hs⟩ := hcell j hj
      have eg : L[j] = L.getD j default := by simp [List.getD, hj]
      rw [eg] at c1 c2 hs
      exact ⟨tv, hs, fun W hW => ⟨by rw [addr_add]; exact (hW.cell (p := ⟨b, off + j * 3, none⟩) hlt).trans c1, by rw [addr_add]; exact (hW.cell (p := ⟨b, off + j * 3 + 1, none⟩) hlt).trans c2, by rw [addr_add]; exact (hW.cell (p := ⟨b, off + j * 3 + 1 + 1, none⟩) hlt).trans c3⟩⟩
    obtain ⟨tv, htv⟩ := choose_ltV hx
    refine ⟨tv, fun j hj => (htv j hj).1, fun W hW => clnS_at a L.length cap (flatS L tv) W (flatS_length L tv) hb (fun i u hu => ?_) (flatS_mem (fun j hj => sl_form1 (htv j hj).1))⟩
    have hi : i < L.length * 3 := by
      rcases Nat.lt_or_ge i (L.length * 3) with h | h
      · exact h
      · rw [List.getElem?_eq_none (by rw [flatS_length]; exact h)] at hu; cases hu
    obtain ⟨j, r, hj, hr, rfl⟩ : ∃ j r, j < L.length ∧ r < 3 ∧ i = j * 3 + r := ⟨i / 3, i % 3, by omega, Nat.mod_lt _ (by decide), by omega⟩
    obtain ⟨g0, g1, g2⟩ := flatS_get (tv := tv) hj
    obtain ⟨c0, c1, c2⟩ := (htv j hj).2 W hW
    match r, hr with
    | 0, _ => rw [Nat.add_zero] at hu ⊢; rw [g0] at hu; cases hu; exact c0
    | 1, _ => rw [g1] at hu; cases hu; exact c1
    | 2, _ => rw [g2] at hu; cases hu; exact c2

theorem clnN_nil (n c : Nat) (w : World) : Calls Tryz.prog 100 #[.slice none n c] w fun r w' => r = .returned (.slice none 0 0) ∧ w' = w := by
  have q22 : ∀ (w : World) (a : Option Addr) (n c n' c' : Nat), (binOp .eql 25 (.slice a n c) (.slice none n' c')).run Tryz.prog w = .ok (.bool a.isNone) w := fun w a n c n' c' => Lib.run_eql_slice_nil w _ _ a n c n' c' Tryz.underlying25
  go_enter Tryz.func100, Tryz.ntmps100
  go_wp2
  go_ret
  exact ⟨rfl, rfl⟩
set_option maxHeartbeats 1000000 in
theorem clnN_at (a : Addr) (n c : Nat) (news : List Value) (w : World) (hl : news.length = n * 3) (hbig : n * 48 ≤ room) (hc : ∀ j u, news[j]? = some u → w.cell? (a.add j) = some u) (h1 : ∀ u ∈ news, u.oneCell' = true) :
    Calls Tryz.prog 100 #[.slice (some a) n c] w fun r w' => ∃ v', r = .returned v' ∧ w'.ownsRow w.heap.size 64 3 v' n news ∧ Below w.heap.size w w' := by
  have q22 : ∀ (w : World) (a : Option Addr) (n c n' c' : Nat), (binOp .eql 25 (.slice a n c) (.slice none n' c')).run Tryz.prog w = .ok (.bool a.isNone) w := fun w a n c n' c' => Lib.run_eql_slice_nil w _ _ a n c n' c' Tryz.underlying25
  obtain ⟨i0, hi, hz0, hz1, hz2⟩ := info_parts infoSnap
  have A : Hid ((∀ j u, news[j]? = some u → w.cell? (a.add j) = some u) ∧ news.length = n * 3 ∧ n * 48 ≤ room ∧ (∀ u ∈ news, u.oneCell' = true) ∧ Tryz.prog.info? 64 = some i0 ∧ i0.zero = some (.agg #[.string ByteArray.empty, .int .i64 0, .slice none 0 0]) ∧ i0.size = 3 ∧ i0.bytes = 48) := ⟨hc, hl, hbig, h1, hi, hz0, hz1, hz2⟩
  clear hc hl hbig h1 hi hz0 hz1 hz2
  go_enter Tryz.func100, Tryz.ntmps100
  go_wp2_with (at_builtin; refine wpList_append_own _ rfl _ _ 25 rfl w.heap.size 64 i0 (.agg #[.string ByteArray.empty, .int .i64 0, .slice none 0 0]) 3 48 Tryz.underlying25 A.out.2.2.2.2.1 A.out.2.2.2.2.2.1 A.out.2.2.2.2.2.2.1 A.out.2.2.2.2.2.2.2 rfl (by decide) _ _ _ rfl (World.ownsRow_made w #[] 0 (Nat.le_refl _) (Nat.zero_le _) (by simp)) a n c news rfl A.out.2.1 ?qc2 A.out.2.2.2.1 ?qc4 ?qc5 ?qc6 ?_)
  case qc2 =>
    intro j u hj
    exact Lib.cell?_alloc_some _ (A.out.1 j u hj)
  case qc4 => rw [Nat.zero_add]; exact maxLen_of_room (by decide) A.out.2.2.1
  case qc5 => rw [Nat.zero_add]; exact A.out.2.2.1
  case qc6 => simp
  intro v' w1 hown hgrow hnil
  have HO : Hid (w1.ownsRow w.heap.size 64 3 v' n news) := hown
  have HG : Hid (Below w.heap.size w w1) := ((Below.refl _ w).alloc (Nat.le_refl _) _).grown hgrow (by simp) (by intro k hk; simp [Value.ownBlock] at hk; omega)
  clear hown hgrow hnil
  go_wp2
  go_ret
  exact ⟨v', rfl, HO.out, HG.out⟩
theorem clone_snaps {w : World} {v : Value} {L : List SnapD} (h : Snaps w v L) (hb : L.length * 48 ≤ room) :
    ∃ tv : Nat → Value, (∀ j, j < L.length → Sl w (tv j) (L.getD j default).2.2) ∧ ∀ W, Below w.heap.size w W → Calls Tryz.prog 100 #[v] W fun r w' => ∃ v', r = .returned v' ∧ w'.ownsRow W.heap.size 64 3 v' L.length (flatN L tv) ∧ Below W.heap.size W w' := by
  obtain ⟨ao, cap, rfl, hm, hcp, hc⟩ := h
  cases ao with
  | none =>
    have hx : L = [] := Classical.byContradiction fun hne => by obtain ⟨_, _, e, _⟩ := hc hne; cases e
    subst hx
    refine ⟨fun _ => nilS, fun j hj => absurd hj (Nat.not_lt_zero _), fun W _ => (clnN_nil _ _ W).mono ?_⟩
    rintro e w' ⟨rfl, rfl⟩
    exact ⟨_, rfl, World.ownsRow_nil _ _ _ _, Below.refl _ _⟩
  | some a =>
    have hx : ∀ j, j < L.length → ∃ tv, Sl w tv (L.getD j default).2.2 ∧ ∀ W, Below w.heap.size w W → W.cell? (a.add (j * 3)) = some (.string (L.getD j default).1) ∧ W.cell? (a.add (j * 3 + 1)) = some (.int .i64 (L.getD j default).2.1) ∧ W.cell? (a.add (j * 3 + 2)) = some tv := fun j hj => by
      obtain ⟨b, off, e, hlt, hcell⟩ := hc (by intro e; rw [e] at hj; simp at hj)
      simp only [Option.some.injEq] at e
      subst e
      obtain ⟨tv, c1, c2, c3, hs⟩ := hcell j hj
      have eg : L[j] = L.getD j default := by simp [List.getD, hj]
      rw [eg] at c1 c2 hs
      exact ⟨tv, hs, fun W hW => ⟨by rw [addr_add]; exact (hW.cell (p := ⟨b, off + j * 3, none⟩) hlt).trans c1, by rw [addr_add]; exact (hW.cell (p := ⟨b, off + j * 3 + 1, none⟩) hlt).trans c2, by rw [addr_add]; exact (hW.cell (p := ⟨b, off + j * 3 + 1 + 1, none⟩) hlt).trans c3⟩⟩
    obtain ⟨tv, htv⟩ := choose_ltV hx
    refine ⟨tv, fun j hj => (htv j hj).1, fun W hW => clnN_at a L.length cap (flatN L tv) W (flatN_length L tv) hb (fun i u hu => ?_) (flatN_mem (fun j hj => sl_form1 (htv j hj).1))⟩
    have hi : i < L.length * 3 := by
      rcases Nat.lt_or_ge i (L.length * 3) with h | h
      · exact h
      · rw [List.getElem?_eq_none (by rw [flatN_length]; exact h)] at hu; cases hu
    obtain ⟨j, r, hj, hr, rfl⟩ : ∃ j r, j < L.length ∧ r < 3 ∧ i = j * 3 + r := ⟨i / 3, i % 3, by omega, Nat.mod_lt _ (by decide), by omega⟩
    obtain ⟨g0, g1, g2⟩ := flatN_get (qv := tv) hj
    obtain ⟨c0, c1, c2⟩ := (htv j hj).2 W hW
    match r, hr with
    | 0, _ => rw [Nat.add_zero] at hu ⊢; rw [g0] at hu; cases hu; exact c0
    | 1, _ => rw [g1] at hu; cases hu; exact c1
    | 2, _ => rw [g2] at hu; cases hu; exact c2
theorem row_slice {W : World} {B : Nat} {e : TypeId} {size n : Nat} {v : Value} {xs : List Value} (h : W.ownsRow B e size v n xs) : ∃ ao cap, v = .slice ao n cap := by
  rcases row_form h with ⟨rfl, rfl⟩ | ⟨g, cap, rfl, _⟩
  · exact ⟨none, 0, rfl⟩
  · exact ⟨_, cap, rfl⟩
end Go.Proofs.YtehleeibgkpjmafGreat
/- Contract of slices.Clone of a list of pages. -/
namespace Go.Proofs.YtehleeibgkpjmafGreat
open Go.RowKit Go.Shelf
set_option maxRecDepth 20000

theorem info9 : (Tryz.prog.info? 9).map (fun i => (i.zero, i.size, i.bytes)) = some (some (.string ByteArray.empty), 1, 16) := by kernel_rfl
def strs (l : List ByteArray) : List Value := l.map Value.string
theorem strs_length (l : List ByteArray) : (strs l).length = l.length := by simp [strs]
theorem strs_mem {xs : List ByteArray} : ∀ u ∈ strs xs, u.oneCell' = true := fun u hu => by
  unfold strs at hu
  obtain ⟨x, _, rfl⟩ := List.mem_map.1 hu
  rfl
theorem row_ss {W : World} {B : Nat} {v : Value} {l : List ByteArray} (h : W.ownsRow B 9 1 v l.length (strs l)) : Ss W v l := by
  rcases h.2 with ⟨rfl, hn⟩ | ⟨g, cap, cur, rfl, hb, hg, hcap, hm, hsz, htk⟩
  · have : l = [] := List.eq_nil_of_length_eq_zero hn
    subst this
    exact ⟨none, 0, rfl, Nat.zero_le _, Nat.le_refl _, fun x => absurd rfl x⟩
  · refine ⟨_, cap, rfl, Nat.le_trans hcap hm, hcap, fun _ => ⟨g, 0, rfl, (Array.getElem?_eq_some_iff.1 hg).1, fun j hj => ?_⟩⟩
    have := h.cellAt j (by omega)
    rw [Nat.zero_add]
    refine this.trans ?_
    unfold strs
    rw [List.getElem?_map, List.getElem?_eq_getElem hj]
    simp [List.getD, hj]

theorem clnT_nil (n c : Nat) (w : World) : Calls Tryz.prog 55 #[.slice none n c] w fun r w' => r = .returned (.slice none 0 0) ∧ w' = w := by
  have q22 : ∀ (w : World) (a : Option Addr) (n c n' c' : Nat), (binOp .eql 22 (.slice a n c) (.slice none n' c')).run Tryz.prog w = .ok (.bool a.isNone) w := fun w a n c n' c' => Lib.run_eql_slice_nil w _ _ a n c n' c' Tryz.underlying22
  go_enter Tryz.func55, Tryz.ntmps55
  go_wp2
  go_ret
  exact ⟨rfl, rfl⟩
set_option maxHeartbeats 1000000 in
theorem clnT_at (a : Addr) (n c : Nat) (news : List Value) (w : World) (hl : news.length = n * 1) (hbig : n * 16 ≤ room) (hc : ∀ j u, news[j]? = some u → w.cell? (a.add j) = some u) (h1 : ∀ u ∈ news, u.oneCell' = true) :
    Calls Tryz.prog 55 #[.slice (some a) n c] w fun r w' => ∃ v', r = .returned v' ∧ w'.ownsRow w.heap.size 9 1 v' n news ∧ Below w.heap.size w w' := by
  have q22 : ∀ (w : World) (a : Option Addr) (n c n' c' : Nat), (binOp .eql 22 (.slice a n c) (.slice none n' c')).run Tryz.prog w = .ok (.bool a.isNone) w := fun w a n c n' c' => Lib.run_eql_slice_nil w _ _ a n c n' c' Tryz.underlying22
  obtain ⟨i0, hi, hz0, hz1, hz2⟩ := info_parts info9
  have A : Hid ((∀ j u, news[j]? = some u → w.cell? (a.add j) = some u) ∧ news.length = n * 1 ∧ n * 16 ≤ room ∧ (∀ u ∈ news, u.oneCell' = true) ∧ Tryz.prog.info? 9 = some i0 ∧ i0.zero = some (.string ByteArray.empty) ∧ i0.size = 1 ∧ i0.bytes = 16) := ⟨hc, hl, hbig, h1, hi, hz0, hz1, hz2⟩
  clear hc hl hbig h1 hi hz0 hz1 hz2
  go_enter Tryz.func55, Tryz.ntmps55
  go_wp2_with (at_builtin; refine wpList_append_own _ rfl _ _ 22 rfl w.heap.size 9 i0 (.string ByteArray.empty) 1 16 Tryz.underlying22 A.out.2.2.2.2.1 A.out.2.2.2.2.2.1 A.out.2.2.2.2.2.2.1 A.out.2.2.2.2.2.2.2 rfl (by decide) _ _ _ rfl (World.ownsRow_made w #[] 0 (Nat.le_refl _) (Nat.zero_le _) (by simp)) a n c news rfl A.out.2.1 ?qc2 A.out.2.2.2.1 ?qc4 ?qc5 ?qc6 ?_)
  case qc2 =>
    intro j u hj
    exact Lib.cell?_alloc_some _ (A.out.1 j u hj)
  case qc4 => rw [Nat.zero_add]; exact maxLen_of_room (by decide) A.out.2.2.1
  case qc5 => rw [Nat.zero_add]; exact A.out.2.2.1
  case qc6 => simp
  intro v' w1 hown hgrow hnil
  have HO : Hid (w1.ownsRow w.heap.size 9 1 v' n news) := hown
  have HG : Hid (Below w.heap.size w w1) := ((Below.refl _ w).alloc (Nat.le_refl _) _).grown hgrow (by simp) (by intro k hk; simp [Value.ownBlock] at hk; omega)
  clear hown hgrow hnil
  go_wp2
  go_ret
  exact ⟨v', rfl, HO.out, HG.out⟩
theorem clone_strs {w : World} {v : Value} {xs : List ByteArray} (h : Ss w v xs) (hb : xs.length * 16 ≤ room) :
    Calls Tryz.prog 55 #[v] w fun r w' => ∃ v', r = .returned v' ∧ w'.ownsRow w.heap.size 9 1 v' xs.length (strs xs) ∧ Below w.heap.size w w' := by
  obtain ⟨ao, cap, rfl, hm, hcp, hc⟩ := h
  cases ao with
  | none =>
    have hx : xs = [] := Classical.byContradiction fun hne => by obtain ⟨_, _, e, _⟩ := hc hne; cases e
    subst hx
    refine (clnT_nil _ _ w).mono ?_
    rintro e w' ⟨rfl, rfl⟩
    exact ⟨_, rfl, World.ownsRow_nil _ _ _ _, Below.refl _ _⟩
  | some a =>
    refine (clnT_at a xs.length cap (strs xs) w (by rw [strs_length]; omega) hb (fun j u hu => ?_) strs_mem).mono ?_
    · have hj : j < xs.length := by
        rcases Nat.lt_or_ge j xs.length with h | h
        · exact h
        · rw [List.getElem?_eq_none (by rw [strs_length]; exact h)] at hu; cases hu
      obtain ⟨b, off, e, _, hcell⟩ := hc (by intro e; rw [e] at hj; simp at hj)
      simp only [Option.some.injEq] at e
      subst e
      rw [addr_add, hcell j hj]
      unfold strs at hu
      rw [List.getElem?_map, List.getElem?_eq_getElem hj] at hu
      simp at hu
      simp [List.getD, hj, hu]
    · rintro e w' ⟨v', rfl, hr, hb⟩
      exact ⟨v', rfl, hr, hb⟩
end Go.Proofs.YtehleeibgkpjmafGreat
/- An image that is counted: Refs are the counts, slots of which it is 0 are Free. What comes is right, and is read as before. Plain lists. -/
namespace Go.Proofs.YtehleeibgkpjmafGreat
open Go.RowKit Go.Shelf
set_option maxRecDepth 20000

def slotZ : SlotD := (0, ⟨#[]⟩, [])
def freeUn (L : List SlotD) (c : List Int) : List SlotD := (List.range L.length).map (fun j => if c.getD j 0 = 0 then slotZ else L.getD j default)
def countedD (m : ImgD) : ImgD := { m with refs := cntL m, slots := freeUn m.slots (cntL m) }

theorem freeUn_length (L : List SlotD) (c : List Int) : (freeUn L c).length = L.length := by simp [freeUn]
theorem freeUn_get {L : List SlotD} {c : List Int} {j : Nat} (hj : j < L.length) : (freeUn L c).getD j default = if c.getD j 0 = 0 then slotZ else L.getD j default := by
  unfold freeUn
  simp only [List.getD, List.getElem?_map, List.getElem?_range hj, Option.map_some, Option.getD_some]
theorem freeUn_kept {L : List SlotD} {c : List Int} {j : Nat} (hj : j < L.length) (hc : c.getD j 0 ≠ 0) : (freeUn L c).getD j default = L.getD j default := by
  rw [freeUn_get hj, if_neg hc]
theorem freeUn_gone {L : List SlotD} {c : List Int} {j : Nat} (hj : j < L.length) (hc : c.getD j 0 = 0) : (freeUn L c).getD j default = slotZ := by
  rw [freeUn_get hj, if_pos hc]


theorem le_sum {f : Nat → Nat} : ∀ {n k : Nat}, k < n → f k ≤ ((List.range n).map f).sum
  | 0, _, h => absurd h (by omega)
  | n + 1, k, h => by
    rw [List.range_succ, List.map_append, List.sum_append]
    by_cases e : k = n
    · subst e; simp
    · have := le_sum (f := f) (n := n) (k := k) (by omega); simp; omega
theorem sum_pos {f : Nat → Nat} : ∀ {n : Nat}, 0 < ((List.range n).map f).sum → ∃ k, k < n ∧ 0 < f k
  | 0, h => absurd h (by simp)
  | n + 1, h => by
    rw [List.range_succ, List.map_append, List.sum_append] at h
    by_cases e : 0 < f n
    · exact ⟨n, by omega, e⟩
    · obtain ⟨k, hk, hf⟩ := sum_pos (f := f) (n := n) (by simp at h; omega)
      exact ⟨k, by omega, hf⟩

theorem told_root {m : ImgD} (h : shapeE m = 0) {j : Nat} (hj : (j : Int) ∈ flatR m) (h1 : 1 ≤ j) : j < m.slots.length ∧ kd m.slots j = 2 ∧ (cntL m).getD j 0 ≠ 0 := by
  rcases rootE_cases (flatR_root h _ hj) with e | ⟨i, e, hi, hk⟩
  · omega
  · have : j = i := by omega
    subst this
    refine ⟨hi, hk, ?_⟩
    rw [cntL_get h j hi]
    unfold cntI
    have := List.count_pos_iff.2 hj
    rw [if_neg (by omega)]; omega
theorem told_ent {m : ImgD} (h : shapeE m = 0) {j : Nat} (hj : (j : Int) ∈ flatR m) (h1 : 1 ≤ j) {i : Nat} (hi : (i : Int) ∈ tabOf m.slots j) (hi1 : 1 ≤ i) : i < m.slots.length ∧ kd m.slots i = 1 ∧ (cntL m).getD i 0 ≠ 0 := by
  obtain ⟨hjl, hk, _⟩ := told_root h hj h1
  rcases tab_ent (shapeE_zero h).2.2.2.2.2.1 _ hi with e | e | ⟨q, e, hq, hk1⟩
  · omega
  · omega
  · have : i = q := by omega
    subst this
    refine ⟨hq, hk1, ?_⟩
    rw [cntL_get h i hq]
    unfold cntI
    rw [if_neg (by omega)]
    have h2 : toldT m.slots (flatR m) i j ≤ sumT m.slots (flatR m) i := le_sum hjl
    have h3 : toldT m.slots (flatR m) i j = (tabOf m.slots j).count (i : Int) := by unfold toldT; rw [if_pos ⟨hk, hj⟩]
    have := List.count_pos_iff.2 hi
    omega
theorem cnt_told {m : ImgD} (h : shapeE m = 0) {j : Nat} (hj : j < m.slots.length) (hc : (cntL m).getD j 0 ≠ 0) : 1 ≤ j ∧ ((kd m.slots j = 2 ∧ (j : Int) ∈ flatR m) ∨ (kd m.slots j = 1 ∧ ∃ k : Nat, 1 ≤ k ∧ (k : Int) ∈ flatR m ∧ kd m.slots k = 2 ∧ (j : Int) ∈ tabOf m.slots k)) := by
  obtain ⟨z1, z2, z3, z4, z5, z6, z7⟩ := shapeE_zero h
  rw [cntL_get h j hj] at hc
  unfold cntI at hc
  by_cases h0 : j = 0
  · rw [if_pos h0] at hc; exact absurd rfl hc
  rw [if_neg h0] at hc
  refine ⟨by omega, ?_⟩
  by_cases hp : 0 < (flatR m).count (j : Int)
  · have hm := List.count_pos_iff.1 hp
    exact .inl ⟨(told_root h hm (by omega)).2.1, hm⟩
  · obtain ⟨k, hk, hf⟩ := sum_pos (f := toldT m.slots (flatR m) j) (n := m.slots.length) (by
      have : 0 < sumT m.slots (flatR m) j := by omega
      exact this)
    unfold toldT at hf
    split at hf
    · rename_i hc2
      have hm := List.count_pos_iff.1 hf
      have k1 : 1 ≤ k := by
        rcases Nat.eq_zero_or_pos k with e | e
        · subst e; rw [slot0 z2] at hc2; simp at hc2
        · exact e
      exact .inr ⟨(told_ent h hc2.2 k1 hm (by omega)).2.1, k, k1, hc2.2, hc2.1, hm⟩
    · omega


theorem kd_kept {m : ImgD} {j : Nat} (hj : j < m.slots.length) (hc : (cntL m).getD j 0 ≠ 0) : kd (countedD m).slots j = kd m.slots j := by
  unfold kd countedD; dsimp only; rw [freeUn_kept hj hc]
theorem tab_kept {m : ImgD} {j : Nat} (hj : j < m.slots.length) (hc : (cntL m).getD j 0 ≠ 0) : tabOf (countedD m).slots j = tabOf m.slots j := by
  unfold tabOf countedD; dsimp only; rw [Int.toNat_natCast, freeUn_kept hj hc]
theorem isKd_of {L : List SlotD} {j : Nat} (hj : j < L.length) {k : Int} (hk : kd L j = k) : isKd L j k = true := by
  rw [isKd_in hj]
  unfold kd at hk
  simp [List.getD, hj] at hk
  simp [hk]
theorem rootsOf_counted (m : ImgD) : rootsOf (countedD m) = rootsOf m := rfl
theorem flatR_counted (m : ImgD) : flatR (countedD m) = flatR m := rfl

theorem okD_Z : okD slotZ = true := by decide
theorem getElem_getD {L : List SlotD} {j : Nat} (hj : j < L.length) : L[j] = L.getD j default := by simp [List.getD, hj]

theorem counted_shape {m : ImgD} (h : shapeE m = 0) : shapeE (countedD m) = 0 := by
  obtain ⟨z1, z2, z3, z4, z5, z6, z7⟩ := shapeE_zero h
  have hp := slotsE_parts z2
  have hlen : (countedD m).slots.length = m.slots.length := freeUn_length _ _
  have hs : slotsE (countedD m).slots = 0 := by
    refine slotsE_ok (by rw [hlen]; exact hp.1) (by rw [hlen]; exact hp.2) (fun j hj => ?_) ?_
    · rw [hlen] at hj
      rw [getElem_getD (by rw [hlen]; exact hj)]
      show okD ((freeUn m.slots (cntL m)).getD j default) = true
      rw [freeUn_get hj]
      split
      · exact okD_Z
      · rw [← getElem_getD hj]; exact slotsE_all z2 hj
    · rw [getElem_getD (by rw [hlen]; exact hp.1)]
      show ((freeUn m.slots (cntL m)).getD 0 default).1 = 0
      rw [freeUn_get hp.1]
      split
      · rfl
      · exact slot0 z2
  have ht : tabFit (countedD m).slots = true := by
    unfold tabFit
    rw [List.all_eq_true]
    intro s hsm
    obtain ⟨j, hj, rfl⟩ := List.getElem_of_mem hsm
    rw [hlen] at hj
    rw [getElem_getD (by rw [hlen]; exact hj), List.all_eq_true]
    show ∀ e ∈ ((freeUn m.slots (cntL m)).getD j default).2.2, tabE (countedD m).slots e = true
    intro e he
    by_cases hc : (cntL m).getD j 0 = 0
    · rw [freeUn_gone hj hc] at he; cases he
    · rw [freeUn_kept hj hc] at he
      have he' : e ∈ tabOf m.slots (j : Int) := by unfold tabOf; rw [Int.toNat_natCast]; exact he
      obtain ⟨j1, hcase⟩ := cnt_told h hj hc
      rcases hcase with ⟨hk, hjm⟩ | ⟨hk, _⟩
      · rcases tab_ent z6 _ he' with e0 | e1 | ⟨i, rfl, hi, hk1⟩
        · rw [e0]; rfl
        · rw [e1]; rfl
        · have i1 : 1 ≤ i := by
            rcases Nat.eq_zero_or_pos i with e | e
            · subst e; rw [slot0 z2] at hk1; simp at hk1
            · exact e
          obtain ⟨_, _, hci⟩ := told_ent h hjm j1 he' i1
          rw [tabE_x (by omega) (by omega)]
          exact isKd_of (by rw [hlen]; exact hi) (by rw [kd_kept hi hci]; exact hk1)
      · -- a page has no table
        exfalso
        have ok := slotsE_all z2 hj
        rw [getElem_getD hj] at ok
        unfold kd at hk
        unfold okD slotOK at ok
        rw [if_neg (by rw [hk]; decide), if_pos hk] at ok
        generalize m.slots.getD j default = s at hk ok he
        simp at ok
        rw [ok.2] at he; cases he
  have hr : (rootsOf (countedD m)).all (fun s => rootFit (countedD m).slots s.2.1 s.2.2) = true := by
    rw [rootsOf_counted, List.all_eq_true]
    intro s hsm
    have hf := List.all_eq_true.1 z7 s hsm
    have hmem : ∀ k ∈ s.2.2, k ∈ flatR m := fun k hk => by unfold flatR; rw [List.mem_flatMap]; exact ⟨s, hsm, hk⟩
    unfold rootFit at hf ⊢
    simp only [Bool.and_eq_true] at hf ⊢
    refine ⟨hf.1, ?_, ?_⟩
    · rw [List.all_eq_true]
      intro k hk
      rcases rootE_cases (List.all_eq_true.1 hf.2.1 k hk) with e | ⟨j, rfl, hj, hk2⟩
      · rw [e]; rfl
      · have j1 : 1 ≤ j := by
          rcases Nat.eq_zero_or_pos j with e | e
          · subst e; rw [slot0 z2] at hk2; simp at hk2
          · exact e
        rw [rootE_x (by omega)]
        obtain ⟨_, _, hc⟩ := told_root h (hmem _ hk) j1
        exact isKd_of (by rw [hlen]; exact hj) (by rw [kd_kept hj hc]; exact hk2)
    · have hl := hf.2.2
      unfold lastFit at hl ⊢
      by_cases hg : s.2.1 % 4 = 0
      · simp [hg]
      · have hg' : (s.2.1 % 4 == 0) = false := by simpa using hg
        rw [hg', Bool.false_or] at hl ⊢
        by_cases hx : s.2.2.getD (s.2.2.length - 1) 0 = 0
        · rw [hx]; rfl
        · have hx' : (s.2.2.getD (s.2.2.length - 1) 0 == 0) = false := by simpa using hx
          rw [hx', Bool.false_or] at hl ⊢
          have hne : s.2.2.length - 1 < s.2.2.length := by
            rcases Nat.eq_zero_or_pos s.2.2.length with e | e
            · exfalso; apply hx; rw [List.length_eq_zero_iff.1 e]; rfl
            · omega
          have hE := all_at hf.2.1 hne
          have hm2 : s.2.2.getD (s.2.2.length - 1) 0 ∈ flatR m := hmem _ (by rw [getD_at hne]; exact List.getElem_mem hne)
          generalize s.2.2.getD (s.2.2.length - 1) 0 = x at hE hm2 hl hx ⊢
          rcases rootE_cases hE with e | ⟨j, rfl, hj, hk2⟩
          · exact absurd e hx
          · obtain ⟨_, _, hc⟩ := told_root h hm2 (by omega)
            rw [tab_kept hj hc]; exact hl
  unfold shapeE
  rw [if_neg (by show ¬ 3 < m.snaps.length; omega), if_neg (by simpa using hs), if_neg, if_neg (by rw [rootsOf_counted, z5]; decide), if_neg (by rw [ht]; decide), if_neg (by rw [hr]; decide)]
  rintro (e | e)
  · exact e (by rw [hlen]; exact cntL_length m)
  · have : namesOK m.snaps = false := e
    rw [z4] at this; cases this

theorem counted_cnt {m : ImgD} (h : shapeE m = 0) : cntL (countedD m) = cntL m := by
  have hlen : (countedD m).slots.length = m.slots.length := freeUn_length _ _
  rw [rl_of (cntL_length (countedD m)), rl_of (cntL_length m), hlen]
  refine rl_congr fun j hj => ?_
  rw [cntL_get (counted_shape h) j (by rw [hlen]; exact hj), cntL_get h j hj, flatR_counted]
  unfold cntI
  by_cases h0 : j = 0
  · rw [if_pos h0, if_pos h0]
  rw [if_neg h0, if_neg h0]
  have e : sumT (countedD m).slots (flatR m) j = sumT m.slots (flatR m) j := by
    unfold sumT
    rw [hlen]
    refine sum_same _ fun k hk => ?_
    unfold toldT
    by_cases hm : (k : Int) ∈ flatR m
    · by_cases k0 : k = 0
      · subst k0
        rw [if_neg (by rw [slot0 (shapeE_zero (counted_shape h)).2.1]; simp), if_neg (by rw [slot0 (shapeE_zero h).2.1]; simp)]
      · obtain ⟨_, _, hc⟩ := told_root h hm (by omega)
        rw [kd_kept hk hc, tab_kept hk hc]
    · rw [if_neg (fun x => hm x.2), if_neg (fun x => hm x.2)]
  rw [e]

theorem counted_right {m : ImgD} (h : shapeE m = 0) : checkE (countedD m) = 0 := by
  have hlen : (countedD m).slots.length = m.slots.length := freeUn_length _ _
  unfold checkE
  rw [if_neg (by simpa using counted_shape h), counted_cnt h]
  have e : (countedD m).refs = cntL m := rfl
  rw [e, if_neg (by simp), if_pos]
  rw [List.all_eq_true]
  intro j hj
  have hj : j < m.slots.length := by rw [← hlen]; simpa using hj
  unfold freeAt
  rw [counted_cnt h]
  by_cases hc : (cntL m).getD j 0 = 0
  · have : ((countedD m).slots.getD j default).1 = 0 := by show ((freeUn m.slots (cntL m)).getD j default).1 = 0; rw [freeUn_gone hj hc]; rfl
    rw [this, hc]; rfl
  · obtain ⟨_, hk⟩ := cnt_told h hj hc
    have hne : kd m.slots j ≠ 0 := by
      rcases hk with ⟨e, _⟩ | ⟨e, _⟩
      · rw [e]; decide
      · rw [e]; decide
    have e1 : ((countedD m).slots.getD j default).1 = kd m.slots j := kd_kept hj hc
    have e2 : (((countedD m).slots.getD j default).1 == 0) = false := by rw [e1]; simpa using hne
    have e3 : ((cntL m).getD j 0 == 0) = false := by simpa using hc
    rw [e2, e3]; rfl
theorem counted_same {m : ImgD} (h : checkE m = 0) : countedD m = m := by
  obtain ⟨hs, hc, hf⟩ := checkE_zero h
  unfold countedD
  have e : freeUn m.slots (cntL m) = m.slots := by
    apply List.ext_getElem
    · exact freeUn_length _ _
    · intro j h1 h2
      rw [getElem_getD h1, getElem_getD h2, freeUn_get h2]
      split
      · rename_i hz
        have hfj := hf j h2
        unfold freeAt at hfj
        rw [hz] at hfj
        have hk : (m.slots.getD j default).1 = 0 := by simpa using hfj
        have ok := slotsE_all (shapeE_zero hs).2.1 h2
        rw [getElem_getD h2] at ok
        unfold okD slotOK at ok
        rw [if_pos hk] at ok
        generalize m.slots.getD j default = s at hk ok
        obtain ⟨a, b, c⟩ := s
        simp at hk ok
        subst hk
        rw [ok.1, ok.2]; rfl
      · rfl
  rw [e, hc]


theorem lookV_counted {m : ImgD} (h : shapeE m = 0) {s : SnapD} (hs : s ∈ rootsOf m) {n : Nat} (hn : n / 4 < s.2.2.length) : lookV (countedD m) s.2.2 n = lookV m s.2.2 n := by
  unfold lookV
  by_cases hz : s.2.2.getD (n / 4) 0 = 0
  · rw [if_pos hz, if_pos hz]
  rw [if_neg hz, if_neg hz]
  have hm : s.2.2.getD (n / 4) 0 ∈ flatR m := by
    unfold flatR; rw [List.mem_flatMap]
    exact ⟨s, hs, by rw [getD_at hn]; exact List.getElem_mem hn⟩
  rcases rootE_cases (flatR_root h _ hm) with e | ⟨j, e, hj, hk⟩
  · exact absurd e hz
  · rw [e] at hm hz ⊢
    obtain ⟨_, _, hc⟩ := told_root h hm (by omega)
    rw [tab_kept hj hc]
theorem pageV_counted {m : ImgD} (h : shapeE m = 0) {s : SnapD} (hs : s ∈ rootsOf m) {n : Nat} (hn : n / 4 < s.2.2.length) : pageV (countedD m).slots (lookV m s.2.2 n) = pageV m.slots (lookV m s.2.2 n) := by
  have hf := List.all_eq_true.1 (shapeE_zero h).2.2.2.2.2.2 s hs
  unfold rootFit at hf
  simp only [Bool.and_eq_true] at hf
  have hent := lookV_ent h hf.2.1 n hn
  unfold pageV
  by_cases hz : lookV m s.2.2 n ≤ 0
  · rw [if_pos hz, if_pos hz]
  rw [if_neg hz, if_neg hz]
  rcases hent with e | e | ⟨j, e, j1, hj, hk⟩
  · omega
  · omega
  · rw [e, Int.toNat_natCast]
    have hr0 : s.2.2.getD (n / 4) 0 ≠ 0 := fun e0 => by
      unfold lookV at e; rw [if_pos e0] at e; omega
    have hm : s.2.2.getD (n / 4) 0 ∈ flatR m := by
      unfold flatR; rw [List.mem_flatMap]
      exact ⟨s, hs, by rw [getD_at hn]; exact List.getElem_mem hn⟩
    have e' : (tabOf m.slots (s.2.2.getD (n / 4) 0)).getD (n % 4) 0 = (j : Int) := by
      unfold lookV at e; rw [if_neg hr0] at e; exact e
    rcases rootE_cases (flatR_root h _ hm) with e0 | ⟨t, et, ht, hkt⟩
    · exact absurd e0 hr0
    · rw [et] at hm hr0 e'
      have hlt : n % 4 < (tabOf m.slots (t : Int)).length := by
        rw [tab_len (shapeE_zero h).2.1 (isKd_of ht hkt)]; omega
      have hmem : (j : Int) ∈ tabOf m.slots (t : Int) := by rw [← e', getD_at hlt]; exact List.getElem_mem hlt
      obtain ⟨_, _, hc⟩ := told_ent h hm (by omega) hmem j1
      have : (countedD m).slots.getD j default = m.slots.getD j default := freeUn_kept hj hc
      rw [this]
theorem allP_counted {m : ImgD} (h : shapeE m = 0) {s : SnapD} (hs : s ∈ rootsOf m) : allP (countedD m) s.2.2 s.2.1.toNat = allP m s.2.2 s.2.1.toNat := by
  unfold allP
  refine List.map_congr_left fun n hn => ?_
  have hn := List.mem_range.1 hn
  have hf := List.all_eq_true.1 (shapeE_zero h).2.2.2.2.2.2 s hs
  have hg := List.all_eq_true.1 (shapeE_zero h).2.2.2.2.1 s hs
  unfold rootFit at hf
  unfold guestOK at hg
  simp only [Bool.and_eq_true, decide_eq_true_eq] at hf hg
  have hl : n / 4 < s.2.2.length := by omega
  rw [lookV_counted h hs hl, pageV_counted h hs hl]
end Go.Proofs.YtehleeibgkpjmafGreat
/- A table is laid for one entry of Root: what the image is then. Plain lists. -/
namespace Go.Proofs.YtehleeibgkpjmafGreat
open Go.RowKit Go.Shelf
set_option maxRecDepth 20000

theorem kd_lt {L : List SlotD} {j : Nat} (h : kd L j ≠ 0) : j < L.length := by
  rcases Nat.lt_or_ge j L.length with h' | h'
  · exact h'
  · exfalso; apply h; unfold kd; rw [show L.getD j default = default by simp [List.getD, Nat.not_lt.2 h']]; rfl
theorem tabOf_eq {L L' : List SlotD} {j : Nat} (h : L'.getD j default = L.getD j default) : tabOf L' j = tabOf L j := by
  unfold tabOf; rw [Int.toNat_natCast, h]
theorem kd_eq {L L' : List SlotD} {j : Nat} (h : L'.getD j default = L.getD j default) : kd L' j = kd L j := by
  unfold kd; rw [h]

structure Ext (L L' : List SlotD) (t : Nat) (es : List Int) : Prop where
  len : L'.length ≤ 40
  keep : ∀ j, j ≠ t → kd L j ≠ 0 → L'.getD j default = L.getD j default
  tab : L'.getD t default = (2, ⟨#[]⟩, es)
  page : kd L t ≠ 1
  ok : ∀ j, j < L'.length → okD (L'.getD j default) = true
  head : kd L' 0 = 0
  tabs : ∀ j, j ≠ t → kd L' j = 2 → kd L j = 2
  ents : ∀ e ∈ es, tabE L' e = true

theorem Ext.kdt {L L' : List SlotD} {t : Nat} {es : List Int} (h : Ext L L' t es) : kd L' t = 2 := by unfold kd; rw [h.tab]
theorem Ext.tlt {L L' : List SlotD} {t : Nat} {es : List Int} (h : Ext L L' t es) : t < L'.length := kd_lt (by rw [h.kdt]; decide)
theorem Ext.t1 {L L' : List SlotD} {t : Nat} {es : List Int} (h : Ext L L' t es) : 1 ≤ t := by
  rcases Nat.eq_zero_or_pos t with e | e
  · have := h.kdt; rw [e, h.head] at this; simp at this
  · exact e
theorem Ext.tabt {L L' : List SlotD} {t : Nat} {es : List Int} (h : Ext L L' t es) : tabOf L' t = es := by unfold tabOf; rw [Int.toNat_natCast, h.tab]
theorem Ext.data {L L' : List SlotD} {t : Nat} {es : List Int} (h : Ext L L' t es) {j : Nat} (hj : kd L j = 1) : L'.getD j default = L.getD j default :=
  h.keep j (fun e => h.page (by rw [← e]; exact hj)) (by rw [hj]; decide)
theorem Ext.slots {L L' : List SlotD} {t : Nat} {es : List Int} (h : Ext L L' t es) : slotsE L' = 0 := by
  refine slotsE_ok (by have := h.tlt; omega) h.len (fun j hj => ?_) ?_
  · rw [getElem_getD hj]; exact h.ok j hj
  · rw [getElem_getD]; exact h.head
theorem Ext.tabE {L L' : List SlotD} {t : Nat} {es : List Int} (h : Ext L L' t es) (h0 : slotsE L = 0) {e : Int} (he : tabE L e = true) : Go.Proofs.YtehleeibgkpjmafGreat.tabE L' e = true := by
  rcases tabE_cases he with e0 | e1 | ⟨j, rfl, hj, hk⟩
  · rw [e0]; rfl
  · rw [e1]; rfl
  · have j1 : 1 ≤ j := by
      rcases Nat.eq_zero_or_pos j with e | e
      · subst e; rw [slot0 h0] at hk; simp at hk
      · exact e
    rw [tabE_x (by omega) (by omega)]
    have hd := h.data hk
    have hk' : kd L' j = 1 := by rw [kd_eq hd]; exact hk
    exact isKd_of (kd_lt (by rw [hk']; decide)) hk'
theorem Ext.fit {L L' : List SlotD} {t : Nat} {es : List Int} (h : Ext L L' t es) (h0 : slotsE L = 0) (hf : tabFit L = true) : tabFit L' = true := by
  unfold tabFit
  rw [List.all_eq_true]
  intro s hs
  obtain ⟨j, hj, rfl⟩ := List.getElem_of_mem hs
  rw [getElem_getD hj, List.all_eq_true]
  intro e he
  by_cases hjt : j = t
  · subst hjt; rw [h.tab] at he; exact h.ents e he
  · by_cases hk : kd L' j = 2
    · have hk0 := h.tabs j hjt hk
      have hkeep := h.keep j hjt (by rw [hk0]; decide)
      rw [hkeep] at he
      have he' : e ∈ tabOf L (j : Int) := by unfold tabOf; rw [Int.toNat_natCast]; exact he
      exact h.tabE h0 (List.all_eq_true.1 (tab_all hf j) e he')
    · exfalso
      have ok := h.ok j hj
      unfold kd at hk
      unfold okD slotOK at ok
      generalize L'.getD j default = s at ok hk he
      rw [if_neg (c := s.1 = 2) hk] at ok
      split at ok
      · simp at ok; rw [ok.2] at he; cases he
      split at ok
      · simp at ok; rw [ok.2] at he; cases he
      · cases ok

structure Lone (m : ImgD) (k t : Nat) : Prop where
  root : ∀ i, i < m.root.length → i ≠ k → m.root.getD i 0 ≠ (t : Int)
  snap : ∀ s ∈ m.snaps, (t : Int) ∉ s.2.2

def tabSet (m : ImgD) (k t : Nat) (L' : List SlotD) (rf : List Int) : ImgD := { m with root := m.root.set k (t : Int), slots := L', refs := rf }

theorem getD_setI (l : List Int) (i j : Nat) (x : Int) : (l.set i x).getD j 0 = if i = j ∧ j < l.length then x else l.getD j 0 := getD_set l i j x

theorem rootE_ext {L L' : List SlotD} {t : Nat} {es : List Int} (h : Ext L L' t es) (h0 : slotsE L = 0) {x : Int} (hx : rootE L x = true) (hne : x ≠ (t : Int)) : rootE L' x = true ∧ tabOf L' x = tabOf L x := by
  rcases rootE_cases hx with e | ⟨j, rfl, hj, hk⟩
  · subst e
    refine ⟨rfl, ?_⟩
    have a : tabOf L 0 = [] := by
      have ok := slotsE_all h0 (slotsE_parts h0).1
      rw [getElem_getD (slotsE_parts h0).1] at ok
      have hk := slot0 h0
      unfold kd at hk
      unfold okD slotOK at ok
      rw [if_pos hk] at ok
      simp at ok
      unfold tabOf
      simpa using ok.2
    have hs := h.slots
    have b : tabOf L' 0 = [] := by
      have ok := slotsE_all hs (slotsE_parts hs).1
      rw [getElem_getD (slotsE_parts hs).1] at ok
      have hk := h.head
      unfold kd at hk
      unfold okD slotOK at ok
      rw [if_pos hk] at ok
      simp at ok
      unfold tabOf
      simpa using ok.2
    rw [a, b]
  · have hjt : j ≠ t := fun e => hne (by rw [e])
    have hkeep := h.keep j hjt (by rw [hk]; decide)
    have hk' : kd L' j = 2 := by rw [kd_eq hkeep]; exact hk
    have j1 : 1 ≤ j := by
      rcases Nat.eq_zero_or_pos j with e | e
      · subst e; rw [slot0 h0] at hk; simp at hk
      · exact e
    refine ⟨?_, tabOf_eq hkeep⟩
    rw [rootE_x (by omega)]
    exact isKd_of (kd_lt (by rw [hk']; decide)) hk'

theorem rootFit_ext {L L' : List SlotD} {t : Nat} {es : List Int} (h : Ext L L' t es) (h0 : slotsE L = 0) {g : Int} {r : List Int} (hf : rootFit L g r = true) (hne : (t : Int) ∉ r) : rootFit L' g r = true := by
  unfold rootFit at hf ⊢
  simp only [Bool.and_eq_true, decide_eq_true_eq] at hf ⊢
  refine ⟨hf.1, ?_, ?_⟩
  · rw [List.all_eq_true]
    intro x hx
    exact (rootE_ext h h0 (List.all_eq_true.1 hf.2.1 x hx) (fun e => hne (e ▸ hx))).1
  · have hl := hf.2.2
    unfold lastFit at hl ⊢
    by_cases hr : r.length = 0
    · rw [List.length_eq_zero_iff.1 hr]; simp
    · have hlt : r.length - 1 < r.length := by omega
      have hmem : r.getD (r.length - 1) 0 ∈ r := by rw [getD_at hlt]; exact List.getElem_mem hlt
      rw [(rootE_ext h h0 (all_at hf.2.1 hlt) (fun e => hne (e ▸ hmem))).2]
      exact hl

theorem tabSet_shape {m : ImgD} {k t : Nat} {L' : List SlotD} {es rf : List Int} (h : shapeE m = 0) (hk : k < m.root.length) (hx : Ext m.slots L' t es) (hl : Lone m k t) (hrf : rf.length = L'.length)
    (hlast : k = m.root.length - 1 → m.guest % 4 ≠ 0 → (es.drop (m.guest % 4).toNat).all (fun e => e == 0) = true) : shapeE (tabSet m k t L' rf) = 0 := by
  obtain ⟨z1, z2, z3, z4, z5, z6, z7⟩ := shapeE_zero h
  have hs := hx.slots
  have ht := hx.fit z2 z6
  have hroot := List.all_eq_true.1 z7 (⟨#[]⟩, m.guest, m.root) List.mem_cons_self
  dsimp only at hroot
  have hr : rootFit L' m.guest (m.root.set k (t : Int)) = true := by
    unfold rootFit at hroot ⊢
    simp only [Bool.and_eq_true, decide_eq_true_eq] at hroot ⊢
    refine ⟨by rw [List.length_set]; exact hroot.1, ?_, ?_⟩
    · rw [List.all_eq_true]
      intro x hx'
      obtain ⟨j, hj, rfl⟩ := List.getElem_of_mem hx'
      rw [List.length_set] at hj
      rw [List.getElem_set]
      by_cases e : k = j
      · rw [if_pos e, rootE_x (by have := hx.t1; omega)]
        exact isKd_of hx.tlt hx.kdt
      · rw [if_neg e]
        have hE := all_at hroot.2.1 hj
        have hn := hl.root j hj (fun x => e x.symm)
        rw [getD_at hj] at hE hn
        exact (rootE_ext hx z2 hE hn).1
    · unfold lastFit
      rw [List.length_set, getD_setI]
      by_cases hg : m.guest % 4 = 0
      · simp [hg]
      have hg' : (m.guest % 4 == 0) = false := by simpa using hg
      rw [hg', Bool.false_or]
      have hlt : m.root.length - 1 < m.root.length := by omega
      by_cases e : k = m.root.length - 1
      · rw [if_pos ⟨e, hlt⟩, hx.tabt]
        have := hlast e hg
        rw [this]; simp
      · rw [if_neg (fun x => e x.1)]
        have hold := hroot.2.2
        unfold lastFit at hold
        rw [hg', Bool.false_or] at hold
        rw [(rootE_ext hx z2 (all_at hroot.2.1 hlt) (hl.root _ hlt (fun x => e x.symm))).2]
        exact hold
  have hall : (rootsOf (tabSet m k t L' rf)).all (fun s => rootFit L' s.2.1 s.2.2) = true := by
    show (((⟨#[]⟩, m.guest, m.root.set k (t : Int)) : SnapD) :: m.snaps).all _ = true
    rw [List.all_cons, hr, Bool.true_and, List.all_eq_true]
    intro s hsm
    exact rootFit_ext hx z2 (List.all_eq_true.1 z7 s (List.mem_cons_of_mem _ hsm)) (hl.snap s hsm)
  have hgall : (rootsOf (tabSet m k t L' rf)).all (fun s => guestOK s.2.1) = true := by
    show (((⟨#[]⟩, m.guest, m.root.set k (t : Int)) : SnapD) :: m.snaps).all _ = true
    have := z5
    unfold rootsOf at this
    rw [List.all_cons] at this ⊢
    exact this
  unfold shapeE
  rw [if_neg (by show ¬ 3 < m.snaps.length; omega), if_neg (by show ¬ slotsE L' ≠ 0; simpa using hs), if_neg, if_neg (by rw [hgall]; decide), if_neg (by show ¬ tabFit L' = false; rw [ht]; decide), if_neg (by have e := hall; show ¬ ((rootsOf (tabSet m k t L' rf)).all fun s => rootFit L' s.2.1 s.2.2) = false; rw [e]; decide)]
  rintro (e | e)
  · exact e hrf
  · have : namesOK m.snaps = false := e
    rw [z4] at this; cases this

theorem look_tabSet {m : ImgD} {k t : Nat} {L' : List SlotD} {es rf : List Int} (hx : Ext m.slots L' t es) (h0 : slotsE m.slots = 0) (hl : Lone m k t) (hall : m.root.all (rootE m.slots) = true) (n : Nat) (hn : n / 4 < m.root.length) :
    lookV (tabSet m k t L' rf) (m.root.set k (t : Int)) n = if n / 4 = k then es.getD (n % 4) 0 else lookV m m.root n := by
  have hg := getD_setI m.root k (n / 4) (t : Int)
  by_cases e : n / 4 = k
  · rw [if_pos (⟨e.symm, hn⟩ : k = n / 4 ∧ n / 4 < m.root.length)] at hg
    unfold lookV
    rw [hg, if_pos e, if_neg (by have := hx.t1; omega)]
    show (tabOf L' (t : Int)).getD (n % 4) 0 = _
    rw [hx.tabt]
  · rw [if_neg (fun x => e x.1.symm)] at hg
    rw [if_neg e]
    unfold lookV
    rw [hg]
    by_cases hz : m.root.getD (n / 4) 0 = 0
    · rw [if_pos hz, if_pos hz]
    · rw [if_neg hz, if_neg hz]
      show (tabOf L' _).getD (n % 4) 0 = _
      rw [(rootE_ext hx h0 (all_at hall hn) (hl.root _ hn e)).2]
theorem look_snap {m : ImgD} {k t : Nat} {L' : List SlotD} {es rf : List Int} (hx : Ext m.slots L' t es) (h0 : slotsE m.slots = 0) {r : List Int} (hall : r.all (rootE m.slots) = true) (hne : (t : Int) ∉ r) (n : Nat) (hn : n / 4 < r.length) :
    lookV (tabSet m k t L' rf) r n = lookV m r n := by
  unfold lookV
  by_cases hz : r.getD (n / 4) 0 = 0
  · rw [if_pos hz, if_pos hz]
  · rw [if_neg hz, if_neg hz]
    show (tabOf L' _).getD (n % 4) 0 = _
    rw [(rootE_ext hx h0 (all_at hall hn) (fun e => hne (by rw [← e, getD_at hn]; exact List.getElem_mem hn))).2]
theorem page_ext {L L' : List SlotD} {t : Nat} {es : List Int} (hx : Ext L L' t es) {e : Int} (he : e = 0 ∨ e = -1 ∨ ∃ j : Nat, e = j ∧ 1 ≤ j ∧ j < L.length ∧ kd L j = 1) : pageV L' e = pageV L e := by
  unfold pageV
  rcases he with rfl | rfl | ⟨j, rfl, j1, hj, hk⟩
  · rfl
  · rfl
  · rw [if_neg (by omega), if_neg (by omega), Int.toNat_natCast, hx.data hk]
end Go.Proofs.YtehleeibgkpjmafGreat
