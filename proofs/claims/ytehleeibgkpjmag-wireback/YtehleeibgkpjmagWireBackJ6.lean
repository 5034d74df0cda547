/- Texts joined: OwC, WiL, WiM. -/
import Derived.Test.YtehleeibgkpjmagWireBackJ5
import Derived.Test.YtehleeibgkpjmagWireBackJ4
import Derived.Deep.RegionHeld
import Derived.Test.YtehleeibgkpjmagWireBackJ3
import Derived.Deep.CutRange
set_option linter.unusedVariables false
set_option linter.unusedSimpArgs false
/- Contract of the document's OwnImage. -/
namespace Go.Proofs.Ytehleeibgkpjmag
open Go.RowKit Go.Shelf
set_option maxRecDepth 20000
set_option linter.unusedVariables false

structure OwR (w1 wr : World) (D : Nat) (p : ImgD) : Prop where
  ex : ∃ val, OX wr w1.heap.size val p ∧ wr.heap[D]? = some (.cells #[.int .i64 p.guest, val .root, val .slots, val .refs, val .snaps] 26) ∧ ∀ a, LiveX p a → (val a).ownBlock ≠ some D
  ge : w1.heap.size ≤ D
  bel : Below w1.heap.size w1 wr
theorem row_loose0 {W : World} {B : Nat} {v : Value} {es : List Int} (h : W.ownsRow B 3 1 v es.length (ints es)) (e : es = []) : ∃ ao cap, v = .slice ao 0 cap := by
  subst e
  rcases row_form h with ⟨x, _⟩ | ⟨g', cap', x, _⟩
  · exact ⟨_, _, x⟩
  · exact ⟨_, _, x⟩
theorem OX.zero (W : World) (B : Nat) : OX W B valZ imgZ := by
  have h := OI.zero W B
  exact ⟨fun a ha => h.row a ha.live, fun a b ha hb => h.apart a b ha.live hb.live, fun j hj => absurd hj (Nat.not_lt_zero _)⟩
def StL (w1 : World) (xs : List Int) (W : World) : Option (Nat ⊕ Value) → Prop
  | none => True
  | some (.inl g) => w1.heap.size ≤ g ∧ W.heap[g]? = some e3
  | some (.inr v) => W.ownsRow w1.heap.size 3 1 v xs.length (ints xs)
def stB : Option (Nat ⊕ Value) → Option Nat
  | none => none
  | some (.inl g) => some g
  | some (.inr v) => v.ownBlock
def StC (w1 W : World) : Option Nat → Prop
  | none => True
  | some D => w1.heap.size ≤ D ∧ W.heap[D]? = some (.cells #[.int .i64 0, .slice none 0 0, .slice none 0 0, .slice none 0 0, .slice none 0 0] 26)
structure CpS (w1 : World) (xs ys : List Int) (a b : Option (Nat ⊕ Value)) (c : Option Nat) (W : World) : Prop where
  bel : Below w1.heap.size w1 W
  ha : StL w1 xs W a
  hb : StL w1 ys W b
  hc : StC w1 W c
  ab : ∀ g, stB a = some g → stB b ≠ some g
  ac : ∀ g, stB a = some g → c ≠ some g
  bc : ∀ g, stB b = some g → c ≠ some g
theorem StL.keep {w1 W W' : World} {xs : List Int} {a : Option (Nat ⊕ Value)} (h : StL w1 xs W a) (hk : ∀ g, stB a = some g → W'.heap[g]? = W.heap[g]?) : StL w1 xs W' a := by
  match a, h with
  | none, _ => trivial
  | some (.inl g), h => exact ⟨h.1, (hk g rfl).trans h.2⟩
  | some (.inr v), h =>
    refine ⟨h.1, ?_⟩
    rcases h.2 with hn | ⟨g, cap, cur, hv, hb, hg, rest⟩
    · exact .inl hn
    · exact .inr ⟨g, cap, cur, hv, hb, (hk g (by show v.ownBlock = some g; rw [hv]; rfl)).trans hg, rest⟩
theorem StL.lt {w1 W : World} {xs : List Int} {a : Option (Nat ⊕ Value)} (h : StL w1 xs W a) {g : Nat} (e : stB a = some g) : w1.heap.size ≤ g ∧ g < W.heap.size := by
  match a, h, e with
  | some (.inl g'), h, e => have e : g' = g := Option.some.inj e; subst e; exact ⟨h.1, (Array.getElem?_eq_some_iff.1 h.2).1⟩
  | some (.inr v), h, e => exact World.ownsRow.lt h g e
theorem StC.keep {w1 W W' : World} {c : Option Nat} (h : StC w1 W c) (hk : ∀ g, c = some g → W'.heap[g]? = W.heap[g]?) : StC w1 W' c := by
  match c, h with
  | none, _ => trivial
  | some D, h => exact ⟨h.1, (hk D rfl).trans h.2⟩
theorem StC.lt {w1 W : World} {c : Option Nat} (h : StC w1 W c) {g : Nat} (e : c = some g) : w1.heap.size ≤ g ∧ g < W.heap.size := by
  subst e; exact ⟨h.1, (Array.getElem?_eq_some_iff.1 h.2).1⟩
theorem CpS.zero (w1 : World) (xs ys : List Int) : CpS w1 xs ys none none none w1 := ⟨Below.refl _ _, trivial, trivial, trivial, fun g h => by (cases h), fun g h => by (cases h), fun g h => by (cases h)⟩
theorem CpS.drew {w1 W : World} {xs ys : List Int} {a b : Option (Nat ⊕ Value)} {c : Option Nat} (h : CpS w1 xs ys a b c W) : CpS w1 xs ys a b c W.drew :=
  ⟨h.bel.drew, h.ha.keep (fun _ _ => rfl), h.hb.keep (fun _ _ => rfl), h.hc.keep (fun _ _ => rfl), h.ab, h.ac, h.bc⟩
end Go.Proofs.Ytehleeibgkpjmag
/- What stands while an image is read: the program's reader. -/
namespace Go.Proofs.Ytehleeibgkpjmag
open Go.RowKit Go.Shelf Go.Lib
set_option maxRecDepth 20000
set_option linter.unusedVariables false
set_option linter.unusedSimpArgs false

structure RdM (w X : World) (R D : Nat) (l : List UInt8) (M : ImgD) : Prop where
  t : RdT w X R l
  hR : R < w.heap.size
  hD : w.heap.size ≤ D
  ex : ∃ val, OX X (D + 1) val M ∧ X.heap[D]? = some (.cells #[.int .i64 M.guest, val .root, val .slots, val .refs, val .snaps] 26)
theorem RdT.grow {W X Y : World} {R : Nat} {l : List UInt8} {v : Value} (h : RdT W X R l) (hR : R < W.heap.size) (g : X.grownBy Y v.ownBlock) (hv : ∀ q, v.ownBlock = some q → W.heap.size ≤ q) : RdT W Y R l :=
  ⟨g.os.trans h.os, g.tape.trans h.tape, g.output.trans h.output, Nat.le_trans h.size g.size, fun q hq hn => (g.block q (Nat.lt_of_lt_of_le hq h.size) (fun e => by have := hv q e.symm; omega)).trans (h.keep q hq hn), (g.block R h.lt (fun e => by have := hv R e.symm; omega)).trans h.box⟩
theorem RdT.drew {W X : World} {R : Nat} {l : List UInt8} (h : RdT W X R l) : RdT W X.drew R l := ⟨h.os, h.tape, h.output, h.size, h.keep, h.box⟩
theorem RdM.drew {w X : World} {R D : Nat} {l : List UInt8} {M : ImgD} (h : RdM w X R D l M) : RdM w X.drew R D l M := by
  obtain ⟨val, hX, hb⟩ := h.ex
  exact ⟨h.t.drew, h.hR, h.hD, val, hX.drew, hb⟩
theorem RdM.read {w X Y : World} {R D : Nat} {l l' : List UInt8} {M : ImgD} (h : RdM w X R D l M) (t : RdT X Y R l') : RdM w Y R D l' M := by
  obtain ⟨val, hX, hb⟩ := h.ex
  have hR := h.hR
  have hD := h.hD
  exact ⟨h.t.trans t, h.hR, h.hD, val, hX.keep (fun g hg hl => t.keep g hl (by omega)), (t.keep D (Array.getElem?_eq_some_iff.1 hb).1 (by omega)).trans hb⟩
theorem RdM.alloc {w X : World} {R D : Nat} {l : List UInt8} {M : ImgD} (h : RdM w X R D l M) (o : Obj) : RdM w (X.alloc o) R D l M := h.read ((RdT.refl h.t.box).alloc o)
theorem RdM.start {w X : World} {R : Nat} {l : List UInt8} (t : RdT w X R l) (hR : R < w.heap.size) (g : Int) : RdM w (X.alloc (.cells #[.int .i64 g, .slice none 0 0, .slice none 0 0, .slice none 0 0, .slice none 0 0] 26)) R X.heap.size l ⟨g, [], [], [], []⟩ := by
  have h0 := OX.zero (X.alloc (.cells #[.int .i64 g, .slice none 0 0, .slice none 0 0, .slice none 0 0, .slice none 0 0] 26)) (X.heap.size + 1)
  have h1 := h0.swapRoot (v := .slice none 0 0) (r := []) (World.ownsRow_nil _ _ _ _) (fun b _ _ g hg _ => by cases hg) g
  refine ⟨t.alloc _, hR, t.size, _, h1, ?_⟩
  rw [World.alloc_heap_new, upd_same, upd_other _ _ (b := .slots) (by intro x; cases x), upd_other _ _ (b := .refs) (by intro x; cases x), upd_other _ _ (b := .snaps) (by intro x; cases x)]
  rfl
theorem RdM.slot {w Wa w' : World} {R D : Nat} {l : List UInt8} {val : Nm → Value} {M : ImgD} {kk : Int} {dd : ByteArray} {es : List Int} {ev sv : Value} (t : RdT w Wa R l) (hR : R < w.heap.size) (hD : w.heap.size ≤ D) (hX : OX Wa (D + 1) val M) (hbox : Wa.heap[D]? = some (.cells #[.int .i64 M.guest, val .root, val .slots, val .refs, val .snaps] 26))
    (hev : Wa.ownsRow (D + 1) 3 1 ev es.length (ints es)) (hfe : FarX M val (.tab M.slots.length) ev) (h2 : Wa.grownBy w' (val .slots).ownBlock) (h1 : w'.ownsRow (D + 1) 60 3 sv (M.slots.length + 1) (flatS M.slots (fun j => val (.tab j)) ++ [.int .i64 kk, .string dd, ev])) (hblk : sv.ownBlock = (val .slots).ownBlock ∨ ∀ g, sv.ownBlock = some g → Wa.heap.size ≤ g) :
    RdM w (w'.setCell ⟨D, 2, none⟩ sv) R D l { M with slots := M.slots ++ [(kk, dd, es)] } := by
  have hDl := (Array.getElem?_eq_some_iff.1 hbox).1
  have hlt := fun q e => ((hX.row .slots (LiveX.slots M)).lt q e).1
  have hN := hX.addSlot (fun _ => hev) (row_loose0 hev) (fun _ => hfe) h2 h1 hblk
  have hb2 := (h2.block D hDl (fun e => by have := hlt D e.symm; omega)).trans hbox
  have hb3 := cells_set hb2 2 sv
  refine ⟨(t.grow hR h2 (fun q e => by have := hlt q e; omega)).other hD hR _, hR, hD, _, hN.far (fun a ha e => by have := ((hN.row a ha).lt D e).1; omega), ?_⟩
  rw [hb3, upd_same, upd_other _ sv (a := .slots) (b := .root) (by intro x; cases x), upd_other _ ev (b := .root) (by intro x; cases x), upd_other _ sv (a := .slots) (b := .refs) (by intro x; cases x), upd_other _ ev (b := .refs) (by intro x; cases x), upd_other _ sv (a := .slots) (b := .snaps) (by intro x; cases x), upd_other _ ev (b := .snaps) (by intro x; cases x)]
  rfl
theorem RdM.snap {w Wa w' : World} {R D : Nat} {l : List UInt8} {val : Nm → Value} {M : ImgD} {kk : Int} {dd : ByteArray} {es : List Int} {ev sv : Value} (t : RdT w Wa R l) (hR : R < w.heap.size) (hD : w.heap.size ≤ D) (hX : OX Wa (D + 1) val M) (hbox : Wa.heap[D]? = some (.cells #[.int .i64 M.guest, val .root, val .slots, val .refs, val .snaps] 26))
    (hev : Wa.ownsRow (D + 1) 3 1 ev es.length (ints es)) (hfe : FarX M val (.sr M.snaps.length) ev) (h2 : Wa.grownBy w' (val .snaps).ownBlock) (h1 : w'.ownsRow (D + 1) 74 3 sv (M.snaps.length + 1) (flatN M.snaps (fun j => val (.sr j)) ++ [.string dd, .int .i64 kk, ev])) (hblk : sv.ownBlock = (val .snaps).ownBlock ∨ ∀ g, sv.ownBlock = some g → Wa.heap.size ≤ g) :
    RdM w (w'.setCell ⟨D, 4, none⟩ sv) R D l { M with snaps := M.snaps ++ [(dd, kk, es)] } := by
  have hDl := (Array.getElem?_eq_some_iff.1 hbox).1
  have hlt := fun q e => ((hX.row .snaps (LiveX.snaps M)).lt q e).1
  have hN := hX.addSnap hev hfe h2 h1 hblk
  have hb2 := (h2.block D hDl (fun e => by have := hlt D e.symm; omega)).trans hbox
  have hb3 := cells_set hb2 4 sv
  refine ⟨(t.grow hR h2 (fun q e => by have := hlt q e; omega)).other hD hR _, hR, hD, _, hN.far (fun a ha e => by have := ((hN.row a ha).lt D e).1; omega), ?_⟩
  rw [hb3, upd_same, upd_other _ sv (a := .snaps) (b := .root) (by intro x; cases x), upd_other _ ev (b := .root) (by intro x; cases x), upd_other _ sv (a := .snaps) (b := .slots) (by intro x; cases x), upd_other _ ev (b := .slots) (by intro x; cases x), upd_other _ sv (a := .snaps) (b := .refs) (by intro x; cases x), upd_other _ ev (b := .refs) (by intro x; cases x)]
  rfl
theorem RdM.root {w X : World} {R D : Nat} {l : List UInt8} {val : Nm → Value} {M : ImgD} {es : List Int} {ev : Value} (t : RdT w X R l) (hR : R < w.heap.size) (hD : w.heap.size ≤ D) (hX : OX X (D + 1) val M) (hbox : X.heap[D]? = some (.cells #[.int .i64 M.guest, val .root, val .slots, val .refs, val .snaps] 26))
    (hev : X.ownsRow (D + 1) 3 1 ev es.length (ints es)) (hfe : FarX M val .root ev) : RdM w (X.setCell ⟨D, 1, none⟩ ev) R D l { M with root := es } := by
  have hN := hX.swapRoot hev hfe M.guest
  have hb3 := cells_set hbox 1 ev
  refine ⟨t.other hD hR _, hR, hD, _, hN.far (fun a ha e => by have := ((hN.row a ha).lt D e).1; omega), ?_⟩
  rw [hb3, upd_same, upd_other _ _ (b := .slots) (by intro x; cases x), upd_other _ _ (b := .refs) (by intro x; cases x), upd_other _ _ (b := .snaps) (by intro x; cases x)]
  rfl
theorem RdM.refs {w X : World} {R D : Nat} {l : List UInt8} {val : Nm → Value} {M : ImgD} {es : List Int} {ev : Value} (t : RdT w X R l) (hR : R < w.heap.size) (hD : w.heap.size ≤ D) (hX : OX X (D + 1) val M) (hbox : X.heap[D]? = some (.cells #[.int .i64 M.guest, val .root, val .slots, val .refs, val .snaps] 26))
    (hev : X.ownsRow (D + 1) 3 1 ev es.length (ints es)) (hfe : FarX M val .refs ev) : RdM w (X.setCell ⟨D, 3, none⟩ ev) R D l { M with refs := es } := by
  have hN := hX.swapRefs hev hfe
  have hb3 := cells_set hbox 3 ev
  refine ⟨t.other hD hR _, hR, hD, _, hN.far (fun a ha e => by have := ((hN.row a ha).lt D e).1; omega), ?_⟩
  rw [hb3, upd_same, upd_other _ _ (b := .slots) (by intro x; cases x), upd_other _ _ (b := .root) (by intro x; cases x), upd_other _ _ (b := .snaps) (by intro x; cases x)]
  rfl
theorem RdM.img {w X : World} {R D : Nat} {l : List UInt8} {M : ImgD} (h : RdM w X R D l M) : ∃ a0 c0 a1 c1 a2 c2 a3 c3, X.heap[D]? = some (.cells #[.int .i64 M.guest, .slice a0 M.root.length c0, .slice a1 M.slots.length c1, .slice a2 M.refs.length c2, .slice a3 M.snaps.length c3] 26) ∧ Img X (.agg #[.int .i64 M.guest, .slice a0 M.root.length c0, .slice a1 M.slots.length c1, .slice a2 M.refs.length c2, .slice a3 M.snaps.length c3]) M ∧ ∀ Y, (∀ q, D < q → q < X.heap.size → Y.heap[q]? = X.heap[q]?) → Img Y (.agg #[.int .i64 M.guest, .slice a0 M.root.length c0, .slice a1 M.slots.length c1, .slice a2 M.refs.length c2, .slice a3 M.snaps.length c3]) M := by
  obtain ⟨val, hX, hb⟩ := h.ex
  obtain ⟨a0, c0, e0, _⟩ := hX.forms .root (LiveX.root _)
  obtain ⟨a1, c1, e1, _⟩ := hX.forms .slots (LiveX.slots _)
  obtain ⟨a2, c2, e2, _⟩ := hX.forms .refs (LiveX.refs _)
  obtain ⟨a3, c3, e3, _⟩ := hX.forms .snaps (LiveX.snaps _)
  have hI := hX.img
  have hF : ∀ Y : World, (∀ q, D < q → q < X.heap.size → Y.heap[q]? = X.heap[q]?) → Img Y (imgV M.guest val) M := fun Y hY => (hX.keep (fun g hg hl => hY g hg hl)).img
  unfold imgV at hI hF
  rw [e0, e1, e2, e3] at hb hI hF
  exact ⟨a0, c0, a1, c1, a2, c2, a3, c3, hb, hI, hF⟩
theorem pMany_none {α : Type} {f : List UInt8 → Option (α × List UInt8)} {l : List UInt8} {k : Nat} (h : pMany f k l = none) : ∀ n, k ≤ n → pMany f n l = none
  | 0, hk => by rw [show k = 0 by omega] at h; exact h
  | n + 1, hk => by
    by_cases e : k = n + 1
    · rw [← e]; exact h
    · show (pMany f n l).bind _ = none
      rw [pMany_none h n (by omega)]; rfl
theorem pMany_next {α : Type} {f : List UInt8 → Option (α × List UInt8)} {l r r' : List UInt8} {k : Nat} {S : List α} {s : α} (h : pMany f k l = some (S, r)) (h2 : f r = some (s, r')) : pMany f (k + 1) l = some (S ++ [s], r') := by
  show (pMany f k l).bind _ = _
  rw [h]; show (f r).map _ = _; rw [h2]; rfl
theorem pMany_stop {α : Type} {f : List UInt8 → Option (α × List UInt8)} {l r : List UInt8} {k : Nat} {S : List α} (h : pMany f k l = some (S, r)) (h2 : f r = none) : pMany f (k + 1) l = none := by
  show (pMany f k l).bind _ = _
  rw [h]; show (f r).map _ = _; rw [h2]; rfl
theorem pSlot_le {l r : List UInt8} {s : SlotD} (h : pSlot l = some (s, r)) : r.length ≤ l.length := by
  obtain ⟨a, h1, h2⟩ := bindS h
  cases l with
  | nil => simp [pNum] at h1
  | cons b t =>
    simp only [pNum, Option.some.injEq] at h1
    subst h1
    unfold pKind at h2
    simp only at h2
    split at h2
    · simp only [Option.some.injEq, Prod.mk.injEq] at h2; rw [← h2.2]; simp
    · split at h2
      · obtain ⟨q, h3, h4⟩ := mapS h2
        unfold pText at h3
        split at h3
        · simp only [Option.some.injEq] at h3; subst h3; simp only [Prod.mk.injEq] at h4; rw [← h4.2]; simp only [List.length_drop, List.length_cons]; omega
        · simp at h3
      · split at h2
        · obtain ⟨q, h3, h4⟩ := mapS h2
          unfold pEnts at h3
          split at h3
          · simp only [Option.some.injEq] at h3; subst h3; simp only [Prod.mk.injEq] at h4; rw [← h4.2]; simp only [List.length_drop, List.length_cons]; omega
          · simp at h3
        · simp at h2
theorem pNum_le {l : List UInt8} {q : Nat × List UInt8} (h : pNum l = some q) : q.2.length ≤ l.length := by
  cases l with
  | nil => simp [pNum] at h
  | cons b t => simp only [pNum, Option.some.injEq] at h; subst h; simp
theorem pText_le {n : Nat} {l : List UInt8} {q : List UInt8 × List UInt8} (h : pText n l = some q) : q.2.length ≤ l.length := by
  unfold pText at h
  split at h
  · simp only [Option.some.injEq] at h; subst h; simp
  · simp at h
theorem pEnts_le {n : Nat} {l : List UInt8} {q : List Int × List UInt8} (h : pEnts n l = some q) : q.2.length ≤ l.length := by
  unfold pEnts at h
  split at h
  · simp only [Option.some.injEq] at h; subst h; simp
  · simp at h
theorem pSnap_le {l r : List UInt8} {s : SnapD} (h : pSnap l = some (s, r)) : r.length ≤ l.length := by
  obtain ⟨a, h1, h⟩ := bindS h
  obtain ⟨t, h2, h⟩ := bindS h
  obtain ⟨g, h3, h⟩ := bindS h
  obtain ⟨q, h4, h5⟩ := mapS h
  simp only [Prod.mk.injEq] at h5
  rw [← h5.2]
  have := pNum_le h1
  have := pText_le h2
  have := pNum_le h3
  have := pEnts_le h4
  omega
theorem pMany_le {α : Type} {f : List UInt8 → Option (α × List UInt8)} (hf : ∀ l s r, f l = some (s, r) → r.length ≤ l.length) {l : List UInt8} : ∀ k S r, pMany f k l = some (S, r) → r.length ≤ l.length ∧ S.length = k
  | 0, S, r, h => by simp only [pMany, Option.some.injEq, Prod.mk.injEq] at h; rw [← h.1, ← h.2]; exact ⟨Nat.le_refl _, rfl⟩
  | k + 1, S, r, h => by
    obtain ⟨q, h1, h2⟩ := bindS h
    obtain ⟨p, h3, h4⟩ := mapS h2
    have ih := pMany_le hf k q.1 q.2 h1
    have := hf q.2 p.1 p.2 h3
    simp only [Prod.mk.injEq] at h4
    rw [← h4.1, ← h4.2]
    exact ⟨by omega, by simp [ih.2]⟩
end Go.Proofs.Ytehleeibgkpjmag
/- The program's reader: image. -/
namespace Go.Proofs.Ytehleeibgkpjmag
open Go.RowKit Go.Shelf Go.Lib
set_option maxRecDepth 20000
set_option linter.unusedVariables false
set_option linter.unusedSimpArgs false

def ImgA (w : World) (R : Nat) (L : List UInt8) (e : Ending) (W' : World) : Prop :=
  (∃ m r, pImg L = some (m, r) ∧ ∃ a0 c0 a1 c1 a2 c2 a3 c3, e = .returned (.agg #[.int .i64 m.guest, .slice a0 m.root.length c0, .slice a1 m.slots.length c1, .slice a2 m.refs.length c2, .slice a3 m.snaps.length c3]) ∧ RdT w W' R r ∧ ∀ Y : World, (∀ q, w.heap.size ≤ q → q < W'.heap.size → Y.heap[q]? = W'.heap[q]?) → Img Y (.agg #[.int .i64 m.guest, .slice a0 m.root.length c0, .slice a1 m.slots.length c1, .slice a2 m.refs.length c2, .slice a3 m.snaps.length c3]) m) ∨ (pImg L = none ∧ e = .panicked wrongP ∧ ∃ l', RdT w W' R l')
theorem row_blkS1L {W W' : World} {B n size : Nat} {e : TypeId} {v : Value} {xs : List Value} (h : W.ownsRow B e size v n xs) (hb : ∀ g, v.ownBlock = some g → W'.heap[g]? = W.heap[g]?) : W'.ownsRow B e size v n xs := by
  refine ⟨h.1, ?_⟩
  rcases h.2 with hn | ⟨g, cap, cur, hv, hB, hg, rest⟩
  · exact .inl hn
  · exact .inr ⟨g, cap, cur, hv, hB, (hb g (by rw [hv]; rfl)).trans hg, rest⟩
theorem row_monoL {W : World} {B B' n size : Nat} {e : TypeId} {v : Value} {xs : List Value} (h : W.ownsRow B e size v n xs) (hB : B' ≤ B) : W.ownsRow B' e size v n xs := by
  refine ⟨h.1, ?_⟩
  rcases h.2 with hn | ⟨g, cap, cur, hv, hb, rest⟩
  · exact .inl hn
  · exact .inr ⟨g, cap, cur, hv, by omega, rest⟩
theorem no_slots {g n : UInt8} {L2 lk : List UInt8} {k : Nat} {Sk : List SlotD} (h : pMany pSlot k L2 = some (Sk, lk)) (h2 : pSlot lk = none) (hk : k < n.toNat) : pImg (g :: n :: L2) = none := by
  have := pMany_none (pMany_stop h h2) n.toNat (by omega)
  show (pMany pSlot n.toNat L2).bind _ = none
  rw [this]; rfl
theorem no_count {g n : UInt8} {L2 : List UInt8} {SS : List SlotD} (h : pMany pSlot n.toNat L2 = some (SS, [])) : pImg (g :: n :: L2) = none := by
  show (pMany pSlot n.toNat L2).bind _ = none
  rw [h]; rfl
theorem no_snaps {g n h : UInt8} {L2 L4 lk : List UInt8} {k : Nat} {SS : List SlotD} {Sk : List SnapD} (hs : pMany pSlot n.toNat L2 = some (SS, h :: L4)) (hp : pMany pSnap k L4 = some (Sk, lk)) (h2 : pSnap lk = none) (hk : k < h.toNat) : pImg (g :: n :: L2) = none := by
  have := pMany_none (pMany_stop hp h2) h.toNat (by omega)
  show (pMany pSlot n.toNat L2).bind _ = none
  rw [hs]
  show (pMany pSnap h.toNat L4).bind _ = none
  rw [this]; rfl
theorem img_end {g n h : UInt8} {L2 L4 L5 : List UInt8} {SS : List SlotD} {NN : List SnapD} (hs : pMany pSlot n.toNat L2 = some (SS, h :: L4)) (hp : pMany pSnap h.toNat L4 = some (NN, L5)) : pImg (g :: n :: L2) = (pEnts ((g.toNat + 3) / 4) L5).map fun r => (⟨(g.toNat : Int), r.1, SS, [], NN⟩, r.2) := by
  show (pMany pSlot n.toNat L2).bind _ = _
  rw [hs]
  show (pMany pSnap h.toNat L4).bind _ = _
  rw [hp]; rfl
theorem RdT.toA {w X : World} {R : Nat} {l : List UInt8} {o : Obj} (h : RdT (w.alloc o) X R l) : RdT w X R l := by
  have hs := h.size
  have hz : (w.alloc o).heap.size = w.heap.size + 1 := by simp
  exact ⟨h.os, h.tape, h.output, by omega, fun q hq hn => (h.keep q (by omega) hn).trans (Below.heap_alloc _ _ q hq), h.box⟩
set_option maxHeartbeats 8000000 in
theorem image_is (R : Nat) (L : List UInt8) (w : World) (hb : w.heap[R]? = some (.cells #[.string (bstr (L))] 112)) (hm : L.length ≤ 4096) :
    Calls Try.prog 71 #[.pointer (some ⟨R, 0, none⟩)] w (ImgA w R L) := by
  have hRw : R < w.heap.size := (Array.getElem?_eq_some_iff.1 hb).1
  have hb1 : (w.alloc (.cells #[.int .i64 0, .slice none 0 0, .slice none 0 0, .slice none 0 0, .slice none 0 0] 26)).heap[R]? = some (.cells #[.string (bstr (L))] 112) := cells_alloc hb _
  obtain ⟨w1, hw1⟩ : ∃ X, w.alloc (.cells #[.int .i64 0, .slice none 0 0, .slice none 0 0, .slice none 0 0, .slice none 0 0] 26) = X := ⟨_, rfl⟩
  have z1 : w1.heap[w.heap.size]? = some (.cells #[.int .i64 0, .slice none 0 0, .slice none 0 0, .slice none 0 0, .slice none 0 0] 26) := by rw [← hw1]; exact World.alloc_heap_new _ _
  have s1 : w.heap.size < w1.heap.size := (Array.getElem?_eq_some_iff.1 z1).1
  have hR : R < w1.heap.size := by omega
  have HW1 : Hid (∀ X l, RdT w1 X R l → RdT w X R l) := fun X l h => by rw [← hw1] at h; exact h.toA
  rw [hw1] at hb1
  cases L with
  | nil =>
    have HN := Hid_mkG (rnum_bad R w1 hb1)
    clear hb
    go_enter Try.func71, Try.ntmps71
    go_wp2_with (go_at_call 90; refine HN.out.mono ?_; rintro e9 w9 ⟨rfl, hw⟩; rw [hw]; clear hw)
    exact ⟨rfl, Or.inr ⟨rfl, rfl, _, HW1.out _ _ (RdT.refl hb1)⟩⟩
  | cons g L1 =>
    have HN : Hid (Calls Try.prog 90 #[.pointer (some ⟨R, 0, none⟩)] w1 fun r W' => r = .returned (.int .i64 (g.toNat : Int)) ∧ RdT w1 W' R L1) := (rnum_ok R g L1 w1 hb1 (by simp at hm; omega)).mono fun r W' h => ⟨h.1, by rw [h.2]; exact (RdT.refl hb1).set _⟩
    have hm1 : L1.length < 4096 := by simp at hm; omega
    have hg := g.toNat_lt
    clear hb hm hb1
    go_enter Try.func71, Try.ntmps71
    go_upto_region 1 with fail
    try rw [hw1]
    clear hw1
    go_wp2_with fail
    refine HN.out.mono ?_
    rintro e9 wa ⟨rfl, Ta⟩
    clear HN
    have HMb := Hid_mkG (RdM.start Ta hR (g.toNat : Int))
    obtain ⟨D, hDe⟩ : ∃ X, wa.heap.size = X := ⟨_, rfl⟩
    have hD0 := Ta.size
    rw [hDe] at HMb hD0
    clear Ta
    cases L1 with
    | nil =>
      have HN := Hid_mkG (rnum_bad R _ HMb.out.t.box)
      go_upto_region 2 with fail
      go_wp2_with fail
      refine HN.out.mono ?_
      rintro e9 wc ⟨rfl, hw⟩
      rw [hw]
      clear hw
      exact ⟨rfl, Or.inr ⟨rfl, rfl, _, HW1.out _ _ HMb.out.t⟩⟩
    | cons n L2 =>
      have HN := Hid_mkG ((rnum_ok R n L2 _ HMb.out.t.box (by simp at hm1; omega)).mono fun r W' h => (show r = .returned (.int .i64 (n.toNat : Int)) ∧ RdM w1 W' R D L2 ⟨(g.toNat : Int), [], [], [], []⟩ from ⟨h.1, by rw [h.2]; exact HMb.out.read ((RdT.refl HMb.out.t.box).set _)⟩))
      have hm2 : L2.length ≤ 4096 := by simp at hm1; omega
      have hn := n.toNat_lt
      go_upto_region 2 with fail
      try rw [hDe]
      clear hm1
      go_wp2_with fail
      refine HN.out.mono ?_
      rintro e9 wc ⟨rfl, Mc⟩
      have Mc := Hid_mkG Mc
      clear HN HMb hDe
      go_wp2_with fail
      go_loopw [9] (fun i wr => ∃ k : Nat, k ≤ n.toNat ∧ i = .int .i64 k ∧ ∃ lk Sk, pMany pSlot k L2 = some (Sk, lk) ∧ Hid (RdM w1 wr R D lk (⟨(g.toNat : Int), [], Sk, [], []⟩ : ImgD))) (fun i _ => n.toNat - (intOf i).toNat)
      case atStart => exact ⟨0, Nat.zero_le _, rfl, L2, [], rfl, Mc⟩
      case round =>
        clear Mc
        obtain ⟨k, hk, rfl, lk, Sk, hpk, HM⟩ := hrel
        by_cases hlk : k < n.toNat
        · have hki : (k : Int) < (n.toNat : Int) := by omega
          have hle := pMany_le (f := pSlot) (fun l s r h => pSlot_le h) k Sk lk hpk
          have hlk4 : lk.length ≤ 4096 := by omega
          obtain ⟨wd, hwd⟩ : ∃ X, wr.drew = X := ⟨_, rfl⟩
          have HMd := HM.out.drew
          rw [hwd] at HMd
          obtain ⟨M, hMe⟩ : ∃ x, (⟨(g.toNat : Int), [], Sk, [], []⟩ : ImgD) = x := ⟨_, rfl⟩
          rw [hMe] at HMd
          obtain ⟨val, hX, hbox⟩ := HMd.ex
          have HT : Hid (RdT w1 wd R lk) := HMd.t
          have hD := HMd.hD
          have hDl : D < wd.heap.size := (Array.getElem?_eq_some_iff.1 hbox).1
          have hDR : D ≠ R := by omega
          obtain ⟨kn, hkn⟩ : ∃ x, M.slots.length = x := ⟨_, rfl⟩
          have hkn4 : kn ≤ 300 := by rw [← hkn, ← hMe]; show Sk.length ≤ 300; omega
          obtain ⟨pa, pc, hp, _⟩ := hX.forms .slots (LiveX.slots _)
          have hp : val .slots = .slice pa kn pc := by rw [hp]; show Value.slice pa M.slots.length pc = _; rw [hkn]
          have hrow := hX.row .slots (LiveX.slots _)
          have hrow : wd.ownsRow (D + 1) 60 3 (val .slots) M.slots.length (flatS M.slots (fun j => val (.tab j))) := hrow
          rw [hkn, hp] at hrow
          have HX : Hid (OX wd (D + 1) val M ∧ (val .slots = .slice pa kn pc ∧ M.slots.length = kn) ∧ some (.cells #[.int .i64 M.guest, val .root, val .slots, val .refs, val .snaps] 26) = some ((.cells #[.int .i64 M.guest, val .root, .slice pa kn pc, val .refs, val .snaps] 26) : Obj)) := ⟨hX, ⟨hp, hkn⟩, by rw [hp]⟩
          rw [hp] at hbox
          have HMe : Hid ((⟨(g.toNat : Int), [], Sk, [], []⟩ : ImgD) = M) := hMe
          clear hX hp hkn HMd hMe HM
          have hpk := Hid_mkG hpk
          cases hps : pSlot lk with
          | none =>
            have HCl := Hid_mkG (rslot_bad (W := wd) HT.out.box hlk4 hps)
            have HNo : Hid (pImg (g :: n :: L2) = none) := no_slots hpk.out hps hlk
            clear hle
            go_upto_region 4 with fail
            refine wp_region_held_drew (S := (fun X : World => True)) (by kernel_rfl) trivial (fun hHeld => ?_)
            refine wpAnyH_take (i := 0) (v := .pointer (some ⟨D, 2, none⟩)) rfl (by kernel_rfl) (by kernel_rfl) (by kernel_rfl) (fun _ _ _ h => h) (Or.inl ⟨by rfl, fun w' hSw => by go_simp⟩) hHeld ?_
            simp only [Act.put, List.getElem_toArray, List.getElem_cons_succ, List.getElem_cons_zero, List.setIfInBounds_toArray, List.set_cons_zero, List.set_cons_succ]
            refine wpAnyH_take (i := 2) (v := .pointer (some ⟨R, 0, none⟩)) rfl (by kernel_rfl) (by kernel_rfl) (by kernel_rfl) (fun _ _ _ h => h) (Or.inl ⟨by rfl, fun w' hSw => by go_simp⟩) hHeld ?_
            simp only [Act.put, List.getElem_toArray, List.getElem_cons_succ, List.getElem_cons_zero, List.setIfInBounds_toArray, List.set_cons_zero, List.set_cons_succ]
            first | rw [hwd] | skip
            refine wpAnyH_ready (rs := [1, 3]) (by kernel_rfl) (by simp) ?_
            refine AllReadyH.cons rfl (fun K hK => ?_) (AllReadyH.cons rfl (fun K hK => ?_) AllReadyH.nil)
            · clear hHeld
              simp only [Act.put, List.getElem_toArray, List.getElem_cons_succ, List.getElem_cons_zero, List.setIfInBounds_toArray, List.set_cons_zero, List.set_cons_succ]
              rw [if_pos (by rfl)]
              have bxx := hbox
              obtain ⟨v0, v1, v2, v3, v4⟩ := five bxx
              go_simp
              clear v0 v1 v2 v3 v4 bxx
              refine hK.out _ _ trivial (fun hHeld => ?_)
              clear hK K
              try simp only [Act.put, List.getElem_toArray, List.getElem_cons_succ, List.getElem_cons_zero, List.setIfInBounds_toArray, List.set_cons_zero, List.set_cons_succ]
              refine wpAnyH_ready (rs := [3]) (by kernel_rfl) (by simp) ?_
              refine AllReadyH.cons rfl (fun K hK => ?_) AllReadyH.nil
              clear hHeld
              simp only [Act.put, List.getElem_toArray, List.getElem_cons_succ, List.getElem_cons_zero, List.setIfInBounds_toArray, List.set_cons_zero, List.set_cons_succ]
              rw [if_pos (by rfl)]
              clear hK
              go_wp2_with (go_at_call 91; refine HCl.out.mono ?_; rintro e9 w6 ⟨rfl, l9, T6⟩; exact ⟨rfl, Or.inr ⟨HNo.out, rfl, l9, HW1.out _ _ (HT.out.trans T6)⟩⟩)

            · clear hHeld
              simp only [Act.put, List.getElem_toArray, List.getElem_cons_succ, List.getElem_cons_zero, List.setIfInBounds_toArray, List.set_cons_zero, List.set_cons_succ]
              rw [if_pos (by rfl)]
              clear hK
              go_wp2_with (go_at_call 91; refine HCl.out.mono ?_; rintro e9 w6 ⟨rfl, l9, T6⟩; exact ⟨rfl, Or.inr ⟨HNo.out, rfl, l9, HW1.out _ _ (HT.out.trans T6)⟩⟩)
          | some p =>
            obtain ⟨⟨s0, s1, es⟩, lr⟩ := p
            have HCl := Hid_mkG (show Calls Try.prog 91 #[.pointer (some ⟨R, 0, none⟩)] wd fun e W' => ∃ tv, e = .returned (.agg #[.int .i64 s0, .string s1, tv]) ∧ RdT wd W' R lr ∧ W'.ownsRow wd.heap.size 3 1 tv es.length (ints es) from rslot_ok (W := wd) HT.out.box hlk4 hps)
            have hps := Hid_mkG hps
            clear hle
            go_upto_region 4 with fail
            refine wp_region_held_drew (S := (fun X : World => True)) (by kernel_rfl) trivial (fun hHeld => ?_)
            refine wpAnyH_take (i := 0) (v := .pointer (some ⟨D, 2, none⟩)) rfl (by kernel_rfl) (by kernel_rfl) (by kernel_rfl) (fun _ _ _ h => h) (Or.inl ⟨by rfl, fun w' hSw => by go_simp⟩) hHeld ?_
            simp only [Act.put, List.getElem_toArray, List.getElem_cons_succ, List.getElem_cons_zero, List.setIfInBounds_toArray, List.set_cons_zero, List.set_cons_succ]
            refine wpAnyH_take (i := 2) (v := .pointer (some ⟨R, 0, none⟩)) rfl (by kernel_rfl) (by kernel_rfl) (by kernel_rfl) (fun _ _ _ h => h) (Or.inl ⟨by rfl, fun w' hSw => by go_simp⟩) hHeld ?_
            simp only [Act.put, List.getElem_toArray, List.getElem_cons_succ, List.getElem_cons_zero, List.setIfInBounds_toArray, List.set_cons_zero, List.set_cons_succ]
            first | rw [hwd] | skip
            refine wpAnyH_ready (rs := [1, 3]) (by kernel_rfl) (by simp) ?_
            refine AllReadyH.cons rfl (fun K hK => ?_) (AllReadyH.cons rfl (fun K hK => ?_) AllReadyH.nil)
            · clear hHeld
              simp only [Act.put, List.getElem_toArray, List.getElem_cons_succ, List.getElem_cons_zero, List.setIfInBounds_toArray, List.set_cons_zero, List.set_cons_succ]
              rw [if_pos (by rfl)]
              have bxx := hbox
              obtain ⟨v0, v1, v2, v3, v4⟩ := five bxx
              go_simp
              clear v0 v1 v2 v3 v4 bxx
              refine hK.out _ _ trivial (fun hHeld => ?_)
              clear hK K
              try simp only [Act.put, List.getElem_toArray, List.getElem_cons_succ, List.getElem_cons_zero, List.setIfInBounds_toArray, List.set_cons_zero, List.set_cons_succ]
              refine wpAnyH_ready (rs := [3]) (by kernel_rfl) (by simp) ?_
              refine AllReadyH.cons rfl (fun K hK => ?_) AllReadyH.nil
              clear hHeld
              simp only [Act.put, List.getElem_toArray, List.getElem_cons_succ, List.getElem_cons_zero, List.setIfInBounds_toArray, List.set_cons_zero, List.set_cons_succ]
              rw [if_pos (by rfl)]
              go_wp2_with (go_at_call 91; refine HCl.out.mono ?_; rintro e9 w6 ⟨tv, rfl, T6, r6⟩; obtain ⟨ta, tc, rfl⟩ := row_slice r6)
              have T6 := Hid_mkG T6
              have r6 := Hid_mkG r6
              have q6 : w6.heap[D]? = some (.cells #[.int .i64 M.guest, val .root, .slice pa kn pc, val .refs, val .snaps] 26) := (T6.out.keep D hDl hDR).trans hbox
              have s6 : wd.heap.size ≤ w6.heap.size := T6.out.size
              refine hK.out _ _ trivial (fun hHeld => ?_)
              clear hK K
              try simp only [Act.put, List.getElem_toArray, List.getElem_cons_succ, List.getElem_cons_zero, List.setIfInBounds_toArray, List.set_cons_zero, List.set_cons_succ]
              refine wpAnyH_ready (rs := [4]) (by kernel_rfl) (by simp) ?_
              refine AllReadyH.cons rfl (fun K hK => ?_) AllReadyH.nil
              clear hHeld
              simp only [Act.put, List.getElem_toArray, List.getElem_cons_succ, List.getElem_cons_zero, List.setIfInBounds_toArray, List.set_cons_zero, List.set_cons_succ]
              rw [if_pos (by rfl)]
              go_simp
              refine hK.out _ _ trivial (fun hHeld => ?_)
              clear hK K
              try simp only [Act.put, List.getElem_toArray, List.getElem_cons_succ, List.getElem_cons_zero, List.setIfInBounds_toArray, List.set_cons_zero, List.set_cons_succ]
              refine wpAnyH_ready (rs := [5]) (by kernel_rfl) (by simp) ?_
              refine AllReadyH.cons rfl (fun K hK => ?_) AllReadyH.nil
              clear hHeld
              simp only [Act.put, List.getElem_toArray, List.getElem_cons_succ, List.getElem_cons_zero, List.setIfInBounds_toArray, List.set_cons_zero, List.set_cons_succ]
              rw [if_pos (by rfl)]
              have hrow6 : w6.ownsRow (D + 1) 60 3 (.slice pa kn pc) kn (flatS M.slots (fun j => val (.tab j))) := row_blkS1L hrow (fun g e => T6.out.keep g (hrow.lt g e).2 (by have := (hrow.lt g e).1; omega))
              refine wp_app3 _ _ 23 60 _ Try.underlying23 infoSlot (by rfl) (by rfl) (B := D + 1) (v := .slice pa kn pc) (c0 := .int .i64 s0) (c1 := .string s1) (c2 := .slice ta es.length tc) (by rfl) (by rfl) (by rfl) (by rfl) (by rfl) (by simp) hrow6 (by omega) (by omega) ?_
              intro v1 w8 h1 h2 h3
              obtain ⟨g1, cap1, hv1⟩ := row_some h1.out
              subst hv1
              have z2 : w8.heap[D]? = some (.cells #[.int .i64 M.guest, val .root, .slice pa kn pc, val .refs, val .snaps] 26) := (h2.block D (by simp; omega) (fun e => by have := (hrow.lt D e.symm).1; omega)).trans (cells_alloc q6 _)
              have HN : Hid (RdM w1 (w8.setCell ⟨D, 2, none⟩ (.slice (some ⟨g1, 0, none⟩) (kn + 1) cap1)) R D lr { M with slots := M.slots ++ [(s0, s1, es)] }) := by
                have hX6 := (HX.out.1.keep (W' := w6) (fun g hg hl => T6.out.keep g hl (by omega)))
                have hr8 := row_monoL (row_blkS1L (W' := w6.alloc (.cells #[.int .i64 s0, .string s1, .slice ta es.length tc] 60)) r6.out (fun g e => Below.heap_alloc _ _ g (r6.out.lt g e).2)) (B' := D + 1) (by omega)
                refine RdM.slot (es := es) (kk := s0) (dd := s1) (ev := .slice ta es.length tc) ((HT.out.trans T6.out).alloc (.cells #[.int .i64 s0, .string s1, .slice ta es.length tc] 60)) hR hD (hX6.alloc _) ((cells_alloc q6 _).trans HX.out.2.2.symm) hr8 (farX_new HX.out.1 _ (fun g e => (r6.out.lt g e).1)) (by rw [HX.out.2.1.1]; exact h2) (by rw [HX.out.2.1.2]; exact h1.out) ?_
                rw [HX.out.2.1.1]
                rcases h3.out with x | x
                · exact .inl x
                · refine .inr (fun g e => ?_)
                  rw [x] at e
                  cases e
                  simp
              refine hK.out _ _ trivial (fun hHeld => ?_)
              clear hK K
              try simp only [Act.put, List.getElem_toArray, List.getElem_cons_succ, List.getElem_cons_zero, List.setIfInBounds_toArray, List.set_cons_zero, List.set_cons_succ]
              refine wpAnyH_take (i := 6) (v := .pointer (some ⟨D, 2, none⟩)) rfl (by kernel_rfl) (by kernel_rfl) (by kernel_rfl) (fun _ _ _ h => h) (Or.inl ⟨by rfl, fun w' hSw => by go_simp⟩) hHeld ?_
              simp only [Act.put, List.getElem_toArray, List.getElem_cons_succ, List.getElem_cons_zero, List.setIfInBounds_toArray, List.set_cons_zero, List.set_cons_succ]
              refine wpAnyH_ready (rs := [7]) (by kernel_rfl) (by simp) ?_
              refine AllReadyH.cons rfl (fun K hK => ?_) AllReadyH.nil
              clear hHeld
              simp only [Act.put, List.getElem_toArray, List.getElem_cons_succ, List.getElem_cons_zero, List.setIfInBounds_toArray, List.set_cons_zero, List.set_cons_succ]
              rw [if_pos (by rfl)]
              obtain ⟨v0, v1, v2, v3, v4⟩ := five z2
              have u3 := cells_frozen z2 2
              go_simp
              refine hK.out _ _ trivial (fun hHeld => ?_)
              clear hK K
              try simp only [Act.put, List.getElem_toArray, List.getElem_cons_succ, List.getElem_cons_zero, List.setIfInBounds_toArray, List.set_cons_zero, List.set_cons_succ]
              clear hHeld v0 v1 v2 v3 v4 u3
              refine wpAnyH_done (by kernel_rfl) ?_ _
              clear h1 h2 h3 z2 q6 hrow6 T6 r6
              go_wp2_with fail
              go_roundw
              case rel => exact ⟨k + 1, by omega, by go_num, lr, Sk ++ [(s0, s1, es)], pMany_next hpk.out hps.out, by rw [← HMe.out] at HN; exact HN⟩
              case measure => simp [intOf]; omega

            · clear hHeld
              simp only [Act.put, List.getElem_toArray, List.getElem_cons_succ, List.getElem_cons_zero, List.setIfInBounds_toArray, List.set_cons_zero, List.set_cons_succ]
              rw [if_pos (by rfl)]
              go_wp2_with (go_at_call 91; refine HCl.out.mono ?_; rintro e9 w6 ⟨tv, rfl, T6, r6⟩; obtain ⟨ta, tc, rfl⟩ := row_slice r6)
              have T6 := Hid_mkG T6
              have r6 := Hid_mkG r6
              have q6 : w6.heap[D]? = some (.cells #[.int .i64 M.guest, val .root, .slice pa kn pc, val .refs, val .snaps] 26) := (T6.out.keep D hDl hDR).trans hbox
              have s6 : wd.heap.size ≤ w6.heap.size := T6.out.size
              refine hK.out _ _ trivial (fun hHeld => ?_)
              clear hK K
              try simp only [Act.put, List.getElem_toArray, List.getElem_cons_succ, List.getElem_cons_zero, List.setIfInBounds_toArray, List.set_cons_zero, List.set_cons_succ]
              refine wpAnyH_ready (rs := [1, 4]) (by kernel_rfl) (by simp) ?_
              refine AllReadyH.cons rfl (fun K hK => ?_) (AllReadyH.cons rfl (fun K hK => ?_) AllReadyH.nil)
              · clear hHeld
                simp only [Act.put, List.getElem_toArray, List.getElem_cons_succ, List.getElem_cons_zero, List.setIfInBounds_toArray, List.set_cons_zero, List.set_cons_succ]
                rw [if_pos (by rfl)]
                have bxx := q6
                obtain ⟨v0, v1, v2, v3, v4⟩ := five bxx
                go_simp
                clear v0 v1 v2 v3 v4 bxx
                refine hK.out _ _ trivial (fun hHeld => ?_)
                clear hK K
                try simp only [Act.put, List.getElem_toArray, List.getElem_cons_succ, List.getElem_cons_zero, List.setIfInBounds_toArray, List.set_cons_zero, List.set_cons_succ]
                refine wpAnyH_ready (rs := [4]) (by kernel_rfl) (by simp) ?_
                refine AllReadyH.cons rfl (fun K hK => ?_) AllReadyH.nil
                clear hHeld
                simp only [Act.put, List.getElem_toArray, List.getElem_cons_succ, List.getElem_cons_zero, List.setIfInBounds_toArray, List.set_cons_zero, List.set_cons_succ]
                rw [if_pos (by rfl)]
                go_simp
                refine hK.out _ _ trivial (fun hHeld => ?_)
                clear hK K
                try simp only [Act.put, List.getElem_toArray, List.getElem_cons_succ, List.getElem_cons_zero, List.setIfInBounds_toArray, List.set_cons_zero, List.set_cons_succ]
                refine wpAnyH_ready (rs := [5]) (by kernel_rfl) (by simp) ?_
                refine AllReadyH.cons rfl (fun K hK => ?_) AllReadyH.nil
                clear hHeld
                simp only [Act.put, List.getElem_toArray, List.getElem_cons_succ, List.getElem_cons_zero, List.setIfInBounds_toArray, List.set_cons_zero, List.set_cons_succ]
                rw [if_pos (by rfl)]
                have hrow6 : w6.ownsRow (D + 1) 60 3 (.slice pa kn pc) kn (flatS M.slots (fun j => val (.tab j))) := row_blkS1L hrow (fun g e => T6.out.keep g (hrow.lt g e).2 (by have := (hrow.lt g e).1; omega))
                refine wp_app3 _ _ 23 60 _ Try.underlying23 infoSlot (by rfl) (by rfl) (B := D + 1) (v := .slice pa kn pc) (c0 := .int .i64 s0) (c1 := .string s1) (c2 := .slice ta es.length tc) (by rfl) (by rfl) (by rfl) (by rfl) (by rfl) (by simp) hrow6 (by omega) (by omega) ?_
                intro v1 w8 h1 h2 h3
                obtain ⟨g1, cap1, hv1⟩ := row_some h1.out
                subst hv1
                have z2 : w8.heap[D]? = some (.cells #[.int .i64 M.guest, val .root, .slice pa kn pc, val .refs, val .snaps] 26) := (h2.block D (by simp; omega) (fun e => by have := (hrow.lt D e.symm).1; omega)).trans (cells_alloc q6 _)
                have HN : Hid (RdM w1 (w8.setCell ⟨D, 2, none⟩ (.slice (some ⟨g1, 0, none⟩) (kn + 1) cap1)) R D lr { M with slots := M.slots ++ [(s0, s1, es)] }) := by
                  have hX6 := (HX.out.1.keep (W' := w6) (fun g hg hl => T6.out.keep g hl (by omega)))
                  have hr8 := row_monoL (row_blkS1L (W' := w6.alloc (.cells #[.int .i64 s0, .string s1, .slice ta es.length tc] 60)) r6.out (fun g e => Below.heap_alloc _ _ g (r6.out.lt g e).2)) (B' := D + 1) (by omega)
                  refine RdM.slot (es := es) (kk := s0) (dd := s1) (ev := .slice ta es.length tc) ((HT.out.trans T6.out).alloc (.cells #[.int .i64 s0, .string s1, .slice ta es.length tc] 60)) hR hD (hX6.alloc _) ((cells_alloc q6 _).trans HX.out.2.2.symm) hr8 (farX_new HX.out.1 _ (fun g e => (r6.out.lt g e).1)) (by rw [HX.out.2.1.1]; exact h2) (by rw [HX.out.2.1.2]; exact h1.out) ?_
                  rw [HX.out.2.1.1]
                  rcases h3.out with x | x
                  · exact .inl x
                  · refine .inr (fun g e => ?_)
                    rw [x] at e
                    cases e
                    simp
                refine hK.out _ _ trivial (fun hHeld => ?_)
                clear hK K
                try simp only [Act.put, List.getElem_toArray, List.getElem_cons_succ, List.getElem_cons_zero, List.setIfInBounds_toArray, List.set_cons_zero, List.set_cons_succ]
                refine wpAnyH_take (i := 6) (v := .pointer (some ⟨D, 2, none⟩)) rfl (by kernel_rfl) (by kernel_rfl) (by kernel_rfl) (fun _ _ _ h => h) (Or.inl ⟨by rfl, fun w' hSw => by go_simp⟩) hHeld ?_
                simp only [Act.put, List.getElem_toArray, List.getElem_cons_succ, List.getElem_cons_zero, List.setIfInBounds_toArray, List.set_cons_zero, List.set_cons_succ]
                refine wpAnyH_ready (rs := [7]) (by kernel_rfl) (by simp) ?_
                refine AllReadyH.cons rfl (fun K hK => ?_) AllReadyH.nil
                clear hHeld
                simp only [Act.put, List.getElem_toArray, List.getElem_cons_succ, List.getElem_cons_zero, List.setIfInBounds_toArray, List.set_cons_zero, List.set_cons_succ]
                rw [if_pos (by rfl)]
                obtain ⟨v0, v1, v2, v3, v4⟩ := five z2
                have u3 := cells_frozen z2 2
                go_simp
                refine hK.out _ _ trivial (fun hHeld => ?_)
                clear hK K
                try simp only [Act.put, List.getElem_toArray, List.getElem_cons_succ, List.getElem_cons_zero, List.setIfInBounds_toArray, List.set_cons_zero, List.set_cons_succ]
                clear hHeld v0 v1 v2 v3 v4 u3
                refine wpAnyH_done (by kernel_rfl) ?_ _
                clear h1 h2 h3 z2 q6 hrow6 T6 r6
                go_wp2_with fail
                go_roundw
                case rel => exact ⟨k + 1, by omega, by go_num, lr, Sk ++ [(s0, s1, es)], pMany_next hpk.out hps.out, by rw [← HMe.out] at HN; exact HN⟩
                case measure => simp [intOf]; omega

              · clear hHeld
                simp only [Act.put, List.getElem_toArray, List.getElem_cons_succ, List.getElem_cons_zero, List.setIfInBounds_toArray, List.set_cons_zero, List.set_cons_succ]
                rw [if_pos (by rfl)]
                go_simp
                refine hK.out _ _ trivial (fun hHeld => ?_)
                clear hK K
                try simp only [Act.put, List.getElem_toArray, List.getElem_cons_succ, List.getElem_cons_zero, List.setIfInBounds_toArray, List.set_cons_zero, List.set_cons_succ]
                refine wpAnyH_ready (rs := [1]) (by kernel_rfl) (by simp) ?_
                refine AllReadyH.cons rfl (fun K hK => ?_) AllReadyH.nil
                clear hHeld
                simp only [Act.put, List.getElem_toArray, List.getElem_cons_succ, List.getElem_cons_zero, List.setIfInBounds_toArray, List.set_cons_zero, List.set_cons_succ]
                rw [if_pos (by rfl)]
                have bxx := cells_alloc q6 (.cells #[.int .i64 s0, .string s1, .slice ta es.length tc] 60)
                obtain ⟨v0, v1, v2, v3, v4⟩ := five bxx
                go_simp
                clear v0 v1 v2 v3 v4 bxx
                refine hK.out _ _ trivial (fun hHeld => ?_)
                clear hK K
                try simp only [Act.put, List.getElem_toArray, List.getElem_cons_succ, List.getElem_cons_zero, List.setIfInBounds_toArray, List.set_cons_zero, List.set_cons_succ]
                refine wpAnyH_ready (rs := [5]) (by kernel_rfl) (by simp) ?_
                refine AllReadyH.cons rfl (fun K hK => ?_) AllReadyH.nil
                clear hHeld
                simp only [Act.put, List.getElem_toArray, List.getElem_cons_succ, List.getElem_cons_zero, List.setIfInBounds_toArray, List.set_cons_zero, List.set_cons_succ]
                rw [if_pos (by rfl)]
                have hrow6 : w6.ownsRow (D + 1) 60 3 (.slice pa kn pc) kn (flatS M.slots (fun j => val (.tab j))) := row_blkS1L hrow (fun g e => T6.out.keep g (hrow.lt g e).2 (by have := (hrow.lt g e).1; omega))
                refine wp_app3 _ _ 23 60 _ Try.underlying23 infoSlot (by rfl) (by rfl) (B := D + 1) (v := .slice pa kn pc) (c0 := .int .i64 s0) (c1 := .string s1) (c2 := .slice ta es.length tc) (by rfl) (by rfl) (by rfl) (by rfl) (by rfl) (by simp) hrow6 (by omega) (by omega) ?_
                intro v1 w8 h1 h2 h3
                obtain ⟨g1, cap1, hv1⟩ := row_some h1.out
                subst hv1
                have z2 : w8.heap[D]? = some (.cells #[.int .i64 M.guest, val .root, .slice pa kn pc, val .refs, val .snaps] 26) := (h2.block D (by simp; omega) (fun e => by have := (hrow.lt D e.symm).1; omega)).trans (cells_alloc q6 _)
                have HN : Hid (RdM w1 (w8.setCell ⟨D, 2, none⟩ (.slice (some ⟨g1, 0, none⟩) (kn + 1) cap1)) R D lr { M with slots := M.slots ++ [(s0, s1, es)] }) := by
                  have hX6 := (HX.out.1.keep (W' := w6) (fun g hg hl => T6.out.keep g hl (by omega)))
                  have hr8 := row_monoL (row_blkS1L (W' := w6.alloc (.cells #[.int .i64 s0, .string s1, .slice ta es.length tc] 60)) r6.out (fun g e => Below.heap_alloc _ _ g (r6.out.lt g e).2)) (B' := D + 1) (by omega)
                  refine RdM.slot (es := es) (kk := s0) (dd := s1) (ev := .slice ta es.length tc) ((HT.out.trans T6.out).alloc (.cells #[.int .i64 s0, .string s1, .slice ta es.length tc] 60)) hR hD (hX6.alloc _) ((cells_alloc q6 _).trans HX.out.2.2.symm) hr8 (farX_new HX.out.1 _ (fun g e => (r6.out.lt g e).1)) (by rw [HX.out.2.1.1]; exact h2) (by rw [HX.out.2.1.2]; exact h1.out) ?_
                  rw [HX.out.2.1.1]
                  rcases h3.out with x | x
                  · exact .inl x
                  · refine .inr (fun g e => ?_)
                    rw [x] at e
                    cases e
                    simp
                refine hK.out _ _ trivial (fun hHeld => ?_)
                clear hK K
                try simp only [Act.put, List.getElem_toArray, List.getElem_cons_succ, List.getElem_cons_zero, List.setIfInBounds_toArray, List.set_cons_zero, List.set_cons_succ]
                refine wpAnyH_take (i := 6) (v := .pointer (some ⟨D, 2, none⟩)) rfl (by kernel_rfl) (by kernel_rfl) (by kernel_rfl) (fun _ _ _ h => h) (Or.inl ⟨by rfl, fun w' hSw => by go_simp⟩) hHeld ?_
                simp only [Act.put, List.getElem_toArray, List.getElem_cons_succ, List.getElem_cons_zero, List.setIfInBounds_toArray, List.set_cons_zero, List.set_cons_succ]
                refine wpAnyH_ready (rs := [7]) (by kernel_rfl) (by simp) ?_
                refine AllReadyH.cons rfl (fun K hK => ?_) AllReadyH.nil
                clear hHeld
                simp only [Act.put, List.getElem_toArray, List.getElem_cons_succ, List.getElem_cons_zero, List.setIfInBounds_toArray, List.set_cons_zero, List.set_cons_succ]
                rw [if_pos (by rfl)]
                obtain ⟨v0, v1, v2, v3, v4⟩ := five z2
                have u3 := cells_frozen z2 2
                go_simp
                refine hK.out _ _ trivial (fun hHeld => ?_)
                clear hK K
                try simp only [Act.put, List.getElem_toArray, List.getElem_cons_succ, List.getElem_cons_zero, List.setIfInBounds_toArray, List.set_cons_zero, List.set_cons_succ]
                clear hHeld v0 v1 v2 v3 v4 u3
                refine wpAnyH_done (by kernel_rfl) ?_ _
                clear h1 h2 h3 z2 q6 hrow6 T6 r6
                go_wp2_with fail
                go_roundw
                case rel => exact ⟨k + 1, by omega, by go_num, lr, Sk ++ [(s0, s1, es)], pMany_next hpk.out hps.out, by rw [← HMe.out] at HN; exact HN⟩
                case measure => simp [intOf]; omega

        · have hki : ¬ (k : Int) < (n.toNat : Int) := by omega
          have ek : k = n.toNat := by omega
          subst ek
          obtain ⟨SS, hSe⟩ : ∃ X, Sk = X := ⟨_, rfl⟩
          subst hSe
          have hle := pMany_le (f := pSlot) (fun l s r h => pSlot_le h) _ _ lk hpk
          obtain ⟨wv, hv⟩ : ∃ X, X = wr := ⟨_, rfl⟩
          subst hv
          cases lk with
          | nil =>
            have HN := Hid_mkG (rnum_bad R _ HM.out.t.box)
            have HNo : Hid (pImg (g :: n :: L2) = none) := no_count hpk
            clear hle hpk
            go_wp2_with fail
            refine HN.out.mono ?_
            rintro e9 wd ⟨rfl, hw⟩
            rw [hw]
            clear hw
            exact ⟨rfl, Or.inr ⟨HNo.out, rfl, _, HW1.out _ _ HM.out.t⟩⟩
          | cons h L4 =>
            have hh := h.toNat_lt
            have hm4 : L4.length < 4096 := by have := hle.1; simp at this; omega
            have HN := Hid_mkG ((rnum_ok R h L4 _ HM.out.t.box hm4).mono fun r W' q => (show r = .returned (.int .i64 (h.toNat : Int)) ∧ RdM w1 W' R D L4 ⟨(g.toNat : Int), [], Sk, [], []⟩ from ⟨q.1, by rw [q.2]; exact HM.out.read ((RdT.refl HM.out.t.box).set _)⟩))
            have hSS := Hid_mkG hpk
            clear hle hpk HM
            go_wp2_with fail
            refine HN.out.mono ?_
            rintro e9 wx ⟨rfl, Mx⟩
            have Mx := Hid_mkG Mx
            clear HN
            obtain ⟨SS, hSe⟩ : ∃ X, X = Sk := ⟨_, rfl⟩
            subst hSe
            go_wp2_with fail
            go_loopw [21] (fun i wr => ∃ k : Nat, k ≤ h.toNat ∧ i = .int .i64 k ∧ ∃ lk Sk, pMany pSnap k L4 = some (Sk, lk) ∧ Hid (RdM w1 wr R D lk (⟨(g.toNat : Int), [], SS, [], Sk⟩ : ImgD))) (fun i _ => h.toNat - (intOf i).toNat)
            case atStart => exact ⟨0, Nat.zero_le _, rfl, L4, [], rfl, Mx⟩
            case round =>
              clear Mx
              obtain ⟨k, hk, rfl, lk, Sk, hpk, HM⟩ := hrel
              by_cases hlk : k < h.toNat
              · have hki : (k : Int) < (h.toNat : Int) := by omega
                have hle := pMany_le (f := pSnap) (fun l s r h => pSnap_le h) k Sk lk hpk
                have hlk4 : lk.length ≤ 4096 := by omega
                obtain ⟨wd, hwd⟩ : ∃ X, wr.drew = X := ⟨_, rfl⟩
                have HMd := HM.out.drew
                rw [hwd] at HMd
                obtain ⟨M, hMe⟩ : ∃ x, (⟨(g.toNat : Int), [], SS, [], Sk⟩ : ImgD) = x := ⟨_, rfl⟩
                rw [hMe] at HMd
                obtain ⟨val, hX, hbox⟩ := HMd.ex
                have HT : Hid (RdT w1 wd R lk) := HMd.t
                have hD := HMd.hD
                have hDl : D < wd.heap.size := (Array.getElem?_eq_some_iff.1 hbox).1
                have hDR : D ≠ R := by omega
                obtain ⟨kn, hkn⟩ : ∃ x, M.snaps.length = x := ⟨_, rfl⟩
                have hkn4 : kn ≤ 300 := by rw [← hkn, ← hMe]; show Sk.length ≤ 300; omega
                obtain ⟨pa, pc, hp, _⟩ := hX.forms .snaps (LiveX.snaps _)
                have hp : val .snaps = .slice pa kn pc := by rw [hp]; show Value.slice pa M.snaps.length pc = _; rw [hkn]
                have hrow := hX.row .snaps (LiveX.snaps _)
                have hrow : wd.ownsRow (D + 1) 74 3 (val .snaps) M.snaps.length (flatN M.snaps (fun j => val (.sr j))) := hrow
                rw [hkn, hp] at hrow
                have HX : Hid (OX wd (D + 1) val M ∧ (val .snaps = .slice pa kn pc ∧ M.snaps.length = kn) ∧ some (.cells #[.int .i64 M.guest, val .root, val .slots, val .refs, val .snaps] 26) = some ((.cells #[.int .i64 M.guest, val .root, val .slots, val .refs, .slice pa kn pc] 26) : Obj)) := ⟨hX, ⟨hp, hkn⟩, by rw [hp]⟩
                rw [hp] at hbox
                have HMe : Hid ((⟨(g.toNat : Int), [], SS, [], Sk⟩ : ImgD) = M) := hMe
                clear hX hp hkn HMd hMe HM
                have hpk := Hid_mkG hpk
                cases hps : pSnap lk with
                | none =>
                  have HCl := Hid_mkG (rsnap_bad (W := wd) HT.out.box hlk4 hps)
                  have HNo : Hid (pImg (g :: n :: L2) = none) := no_snaps hSS.out hpk.out hps hlk
                  clear hle
                  go_upto_region 8 with fail
                  refine wp_region_held_drew (S := (fun X : World => True)) (by kernel_rfl) trivial (fun hHeld => ?_)
                  refine wpAnyH_take (i := 0) (v := .pointer (some ⟨D, 4, none⟩)) rfl (by kernel_rfl) (by kernel_rfl) (by kernel_rfl) (fun _ _ _ h => h) (Or.inl ⟨by rfl, fun w' hSw => by go_simp⟩) hHeld ?_
                  simp only [Act.put, List.getElem_toArray, List.getElem_cons_succ, List.getElem_cons_zero, List.setIfInBounds_toArray, List.set_cons_zero, List.set_cons_succ]
                  refine wpAnyH_take (i := 2) (v := .pointer (some ⟨R, 0, none⟩)) rfl (by kernel_rfl) (by kernel_rfl) (by kernel_rfl) (fun _ _ _ h => h) (Or.inl ⟨by rfl, fun w' hSw => by go_simp⟩) hHeld ?_
                  simp only [Act.put, List.getElem_toArray, List.getElem_cons_succ, List.getElem_cons_zero, List.setIfInBounds_toArray, List.set_cons_zero, List.set_cons_succ]
                  first | rw [hwd] | skip
                  refine wpAnyH_ready (rs := [1, 3]) (by kernel_rfl) (by simp) ?_
                  refine AllReadyH.cons rfl (fun K hK => ?_) (AllReadyH.cons rfl (fun K hK => ?_) AllReadyH.nil)
                  · clear hHeld
                    simp only [Act.put, List.getElem_toArray, List.getElem_cons_succ, List.getElem_cons_zero, List.setIfInBounds_toArray, List.set_cons_zero, List.set_cons_succ]
                    rw [if_pos (by rfl)]
                    have bxx := hbox
                    obtain ⟨v0, v1, v2, v3, v4⟩ := five bxx
                    go_simp
                    clear v0 v1 v2 v3 v4 bxx
                    refine hK.out _ _ trivial (fun hHeld => ?_)
                    clear hK K
                    try simp only [Act.put, List.getElem_toArray, List.getElem_cons_succ, List.getElem_cons_zero, List.setIfInBounds_toArray, List.set_cons_zero, List.set_cons_succ]
                    refine wpAnyH_ready (rs := [3]) (by kernel_rfl) (by simp) ?_
                    refine AllReadyH.cons rfl (fun K hK => ?_) AllReadyH.nil
                    clear hHeld
                    simp only [Act.put, List.getElem_toArray, List.getElem_cons_succ, List.getElem_cons_zero, List.setIfInBounds_toArray, List.set_cons_zero, List.set_cons_succ]
                    rw [if_pos (by rfl)]
                    clear hK
                    go_wp2_with (go_at_call 92; refine HCl.out.mono ?_; rintro e9 w6 ⟨rfl, l9, T6⟩; exact ⟨rfl, Or.inr ⟨HNo.out, rfl, l9, HW1.out _ _ (HT.out.trans T6)⟩⟩)

                  · clear hHeld
                    simp only [Act.put, List.getElem_toArray, List.getElem_cons_succ, List.getElem_cons_zero, List.setIfInBounds_toArray, List.set_cons_zero, List.set_cons_succ]
                    rw [if_pos (by rfl)]
                    clear hK
                    go_wp2_with (go_at_call 92; refine HCl.out.mono ?_; rintro e9 w6 ⟨rfl, l9, T6⟩; exact ⟨rfl, Or.inr ⟨HNo.out, rfl, l9, HW1.out _ _ (HT.out.trans T6)⟩⟩)
                | some p =>
                  obtain ⟨⟨s0, s1, es⟩, lr⟩ := p
                  have HCl := Hid_mkG (show Calls Try.prog 92 #[.pointer (some ⟨R, 0, none⟩)] wd fun e W' => ∃ tv, e = .returned (.agg #[.string s0, .int .i64 s1, tv]) ∧ RdT wd W' R lr ∧ W'.ownsRow wd.heap.size 3 1 tv es.length (ints es) from rsnap_ok (W := wd) HT.out.box hlk4 hps)
                  have hps := Hid_mkG hps
                  clear hle
                  go_upto_region 8 with fail
                  refine wp_region_held_drew (S := (fun X : World => True)) (by kernel_rfl) trivial (fun hHeld => ?_)
                  refine wpAnyH_take (i := 0) (v := .pointer (some ⟨D, 4, none⟩)) rfl (by kernel_rfl) (by kernel_rfl) (by kernel_rfl) (fun _ _ _ h => h) (Or.inl ⟨by rfl, fun w' hSw => by go_simp⟩) hHeld ?_
                  simp only [Act.put, List.getElem_toArray, List.getElem_cons_succ, List.getElem_cons_zero, List.setIfInBounds_toArray, List.set_cons_zero, List.set_cons_succ]
                  refine wpAnyH_take (i := 2) (v := .pointer (some ⟨R, 0, none⟩)) rfl (by kernel_rfl) (by kernel_rfl) (by kernel_rfl) (fun _ _ _ h => h) (Or.inl ⟨by rfl, fun w' hSw => by go_simp⟩) hHeld ?_
                  simp only [Act.put, List.getElem_toArray, List.getElem_cons_succ, List.getElem_cons_zero, List.setIfInBounds_toArray, List.set_cons_zero, List.set_cons_succ]
                  first | rw [hwd] | skip
                  refine wpAnyH_ready (rs := [1, 3]) (by kernel_rfl) (by simp) ?_
                  refine AllReadyH.cons rfl (fun K hK => ?_) (AllReadyH.cons rfl (fun K hK => ?_) AllReadyH.nil)
                  · clear hHeld
                    simp only [Act.put, List.getElem_toArray, List.getElem_cons_succ, List.getElem_cons_zero, List.setIfInBounds_toArray, List.set_cons_zero, List.set_cons_succ]
                    rw [if_pos (by rfl)]
                    have bxx := hbox
                    obtain ⟨v0, v1, v2, v3, v4⟩ := five bxx
                    go_simp
                    clear v0 v1 v2 v3 v4 bxx
                    refine hK.out _ _ trivial (fun hHeld => ?_)
                    clear hK K
                    try simp only [Act.put, List.getElem_toArray, List.getElem_cons_succ, List.getElem_cons_zero, List.setIfInBounds_toArray, List.set_cons_zero, List.set_cons_succ]
                    refine wpAnyH_ready (rs := [3]) (by kernel_rfl) (by simp) ?_
                    refine AllReadyH.cons rfl (fun K hK => ?_) AllReadyH.nil
                    clear hHeld
                    simp only [Act.put, List.getElem_toArray, List.getElem_cons_succ, List.getElem_cons_zero, List.setIfInBounds_toArray, List.set_cons_zero, List.set_cons_succ]
                    rw [if_pos (by rfl)]
                    go_wp2_with (go_at_call 92; refine HCl.out.mono ?_; rintro e9 w6 ⟨tv, rfl, T6, r6⟩; obtain ⟨ta, tc, rfl⟩ := row_slice r6)
                    have T6 := Hid_mkG T6
                    have r6 := Hid_mkG r6
                    have q6 : w6.heap[D]? = some (.cells #[.int .i64 M.guest, val .root, val .slots, val .refs, .slice pa kn pc] 26) := (T6.out.keep D hDl hDR).trans hbox
                    have s6 : wd.heap.size ≤ w6.heap.size := T6.out.size
                    refine hK.out _ _ trivial (fun hHeld => ?_)
                    clear hK K
                    try simp only [Act.put, List.getElem_toArray, List.getElem_cons_succ, List.getElem_cons_zero, List.setIfInBounds_toArray, List.set_cons_zero, List.set_cons_succ]
                    refine wpAnyH_ready (rs := [4]) (by kernel_rfl) (by simp) ?_
                    refine AllReadyH.cons rfl (fun K hK => ?_) AllReadyH.nil
                    clear hHeld
                    simp only [Act.put, List.getElem_toArray, List.getElem_cons_succ, List.getElem_cons_zero, List.setIfInBounds_toArray, List.set_cons_zero, List.set_cons_succ]
                    rw [if_pos (by rfl)]
                    go_simp
                    refine hK.out _ _ trivial (fun hHeld => ?_)
                    clear hK K
                    try simp only [Act.put, List.getElem_toArray, List.getElem_cons_succ, List.getElem_cons_zero, List.setIfInBounds_toArray, List.set_cons_zero, List.set_cons_succ]
                    refine wpAnyH_ready (rs := [5]) (by kernel_rfl) (by simp) ?_
                    refine AllReadyH.cons rfl (fun K hK => ?_) AllReadyH.nil
                    clear hHeld
                    simp only [Act.put, List.getElem_toArray, List.getElem_cons_succ, List.getElem_cons_zero, List.setIfInBounds_toArray, List.set_cons_zero, List.set_cons_succ]
                    rw [if_pos (by rfl)]
                    have hrow6 : w6.ownsRow (D + 1) 74 3 (.slice pa kn pc) kn (flatN M.snaps (fun j => val (.sr j))) := row_blkS1L hrow (fun g e => T6.out.keep g (hrow.lt g e).2 (by have := (hrow.lt g e).1; omega))
                    refine wp_app3 _ _ 24 74 _ Try.underlying24 infoSnap (by rfl) (by rfl) (B := D + 1) (v := .slice pa kn pc) (c0 := .string s0) (c1 := .int .i64 s1) (c2 := .slice ta es.length tc) (by rfl) (by rfl) (by rfl) (by rfl) (by rfl) (by simp) hrow6 (by omega) (by omega) ?_
                    intro v1 w8 h1 h2 h3
                    obtain ⟨g1, cap1, hv1⟩ := row_some h1.out
                    subst hv1
                    have z2 : w8.heap[D]? = some (.cells #[.int .i64 M.guest, val .root, val .slots, val .refs, .slice pa kn pc] 26) := (h2.block D (by simp; omega) (fun e => by have := (hrow.lt D e.symm).1; omega)).trans (cells_alloc q6 _)
                    have HN : Hid (RdM w1 (w8.setCell ⟨D, 4, none⟩ (.slice (some ⟨g1, 0, none⟩) (kn + 1) cap1)) R D lr { M with snaps := M.snaps ++ [(s0, s1, es)] }) := by
                      have hX6 := (HX.out.1.keep (W' := w6) (fun g hg hl => T6.out.keep g hl (by omega)))
                      have hr8 := row_monoL (row_blkS1L (W' := w6.alloc (.cells #[.string s0, .int .i64 s1, .slice ta es.length tc] 74)) r6.out (fun g e => Below.heap_alloc _ _ g (r6.out.lt g e).2)) (B' := D + 1) (by omega)
                      refine RdM.snap (es := es) (kk := s1) (dd := s0) (ev := .slice ta es.length tc) ((HT.out.trans T6.out).alloc (.cells #[.string s0, .int .i64 s1, .slice ta es.length tc] 74)) hR hD (hX6.alloc _) ((cells_alloc q6 _).trans HX.out.2.2.symm) hr8 (farX_new HX.out.1 _ (fun g e => (r6.out.lt g e).1)) (by rw [HX.out.2.1.1]; exact h2) (by rw [HX.out.2.1.2]; exact h1.out) ?_
                      rw [HX.out.2.1.1]
                      rcases h3.out with x | x
                      · exact .inl x
                      · refine .inr (fun g e => ?_)
                        rw [x] at e
                        cases e
                        simp
                    refine hK.out _ _ trivial (fun hHeld => ?_)
                    clear hK K
                    try simp only [Act.put, List.getElem_toArray, List.getElem_cons_succ, List.getElem_cons_zero, List.setIfInBounds_toArray, List.set_cons_zero, List.set_cons_succ]
                    refine wpAnyH_take (i := 6) (v := .pointer (some ⟨D, 4, none⟩)) rfl (by kernel_rfl) (by kernel_rfl) (by kernel_rfl) (fun _ _ _ h => h) (Or.inl ⟨by rfl, fun w' hSw => by go_simp⟩) hHeld ?_
                    simp only [Act.put, List.getElem_toArray, List.getElem_cons_succ, List.getElem_cons_zero, List.setIfInBounds_toArray, List.set_cons_zero, List.set_cons_succ]
                    refine wpAnyH_ready (rs := [7]) (by kernel_rfl) (by simp) ?_
                    refine AllReadyH.cons rfl (fun K hK => ?_) AllReadyH.nil
                    clear hHeld
                    simp only [Act.put, List.getElem_toArray, List.getElem_cons_succ, List.getElem_cons_zero, List.setIfInBounds_toArray, List.set_cons_zero, List.set_cons_succ]
                    rw [if_pos (by rfl)]
                    obtain ⟨v0, v1, v2, v3, v4⟩ := five z2
                    have u3 := cells_frozen z2 4
                    go_simp
                    refine hK.out _ _ trivial (fun hHeld => ?_)
                    clear hK K
                    try simp only [Act.put, List.getElem_toArray, List.getElem_cons_succ, List.getElem_cons_zero, List.setIfInBounds_toArray, List.set_cons_zero, List.set_cons_succ]
                    clear hHeld v0 v1 v2 v3 v4 u3
                    refine wpAnyH_done (by kernel_rfl) ?_ _
                    clear h1 h2 h3 z2 q6 hrow6 T6 r6
                    go_wp2_with fail
                    go_roundw
                    case rel => exact ⟨k + 1, by omega, by go_num, lr, Sk ++ [(s0, s1, es)], pMany_next hpk.out hps.out, by rw [← HMe.out] at HN; exact HN⟩
                    case measure => simp [intOf]; omega

                  · clear hHeld
                    simp only [Act.put, List.getElem_toArray, List.getElem_cons_succ, List.getElem_cons_zero, List.setIfInBounds_toArray, List.set_cons_zero, List.set_cons_succ]
                    rw [if_pos (by rfl)]
                    go_wp2_with (go_at_call 92; refine HCl.out.mono ?_; rintro e9 w6 ⟨tv, rfl, T6, r6⟩; obtain ⟨ta, tc, rfl⟩ := row_slice r6)
                    have T6 := Hid_mkG T6
                    have r6 := Hid_mkG r6
                    have q6 : w6.heap[D]? = some (.cells #[.int .i64 M.guest, val .root, val .slots, val .refs, .slice pa kn pc] 26) := (T6.out.keep D hDl hDR).trans hbox
                    have s6 : wd.heap.size ≤ w6.heap.size := T6.out.size
                    refine hK.out _ _ trivial (fun hHeld => ?_)
                    clear hK K
                    try simp only [Act.put, List.getElem_toArray, List.getElem_cons_succ, List.getElem_cons_zero, List.setIfInBounds_toArray, List.set_cons_zero, List.set_cons_succ]
                    refine wpAnyH_ready (rs := [1, 4]) (by kernel_rfl) (by simp) ?_
                    refine AllReadyH.cons rfl (fun K hK => ?_) (AllReadyH.cons rfl (fun K hK => ?_) AllReadyH.nil)
                    · clear hHeld
                      simp only [Act.put, List.getElem_toArray, List.getElem_cons_succ, List.getElem_cons_zero, List.setIfInBounds_toArray, List.set_cons_zero, List.set_cons_succ]
                      rw [if_pos (by rfl)]
                      have bxx := q6
                      obtain ⟨v0, v1, v2, v3, v4⟩ := five bxx
                      go_simp
                      clear v0 v1 v2 v3 v4 bxx
                      refine hK.out _ _ trivial (fun hHeld => ?_)
                      clear hK K
                      try simp only [Act.put, List.getElem_toArray, List.getElem_cons_succ, List.getElem_cons_zero, List.setIfInBounds_toArray, List.set_cons_zero, List.set_cons_succ]
                      refine wpAnyH_ready (rs := [4]) (by kernel_rfl) (by simp) ?_
                      refine AllReadyH.cons rfl (fun K hK => ?_) AllReadyH.nil
                      clear hHeld
                      simp only [Act.put, List.getElem_toArray, List.getElem_cons_succ, List.getElem_cons_zero, List.setIfInBounds_toArray, List.set_cons_zero, List.set_cons_succ]
                      rw [if_pos (by rfl)]
                      go_simp
                      refine hK.out _ _ trivial (fun hHeld => ?_)
                      clear hK K
                      try simp only [Act.put, List.getElem_toArray, List.getElem_cons_succ, List.getElem_cons_zero, List.setIfInBounds_toArray, List.set_cons_zero, List.set_cons_succ]
                      refine wpAnyH_ready (rs := [5]) (by kernel_rfl) (by simp) ?_
                      refine AllReadyH.cons rfl (fun K hK => ?_) AllReadyH.nil
                      clear hHeld
                      simp only [Act.put, List.getElem_toArray, List.getElem_cons_succ, List.getElem_cons_zero, List.setIfInBounds_toArray, List.set_cons_zero, List.set_cons_succ]
                      rw [if_pos (by rfl)]
                      have hrow6 : w6.ownsRow (D + 1) 74 3 (.slice pa kn pc) kn (flatN M.snaps (fun j => val (.sr j))) := row_blkS1L hrow (fun g e => T6.out.keep g (hrow.lt g e).2 (by have := (hrow.lt g e).1; omega))
                      refine wp_app3 _ _ 24 74 _ Try.underlying24 infoSnap (by rfl) (by rfl) (B := D + 1) (v := .slice pa kn pc) (c0 := .string s0) (c1 := .int .i64 s1) (c2 := .slice ta es.length tc) (by rfl) (by rfl) (by rfl) (by rfl) (by rfl) (by simp) hrow6 (by omega) (by omega) ?_
                      intro v1 w8 h1 h2 h3
                      obtain ⟨g1, cap1, hv1⟩ := row_some h1.out
                      subst hv1
                      have z2 : w8.heap[D]? = some (.cells #[.int .i64 M.guest, val .root, val .slots, val .refs, .slice pa kn pc] 26) := (h2.block D (by simp; omega) (fun e => by have := (hrow.lt D e.symm).1; omega)).trans (cells_alloc q6 _)
                      have HN : Hid (RdM w1 (w8.setCell ⟨D, 4, none⟩ (.slice (some ⟨g1, 0, none⟩) (kn + 1) cap1)) R D lr { M with snaps := M.snaps ++ [(s0, s1, es)] }) := by
                        have hX6 := (HX.out.1.keep (W' := w6) (fun g hg hl => T6.out.keep g hl (by omega)))
                        have hr8 := row_monoL (row_blkS1L (W' := w6.alloc (.cells #[.string s0, .int .i64 s1, .slice ta es.length tc] 74)) r6.out (fun g e => Below.heap_alloc _ _ g (r6.out.lt g e).2)) (B' := D + 1) (by omega)
                        refine RdM.snap (es := es) (kk := s1) (dd := s0) (ev := .slice ta es.length tc) ((HT.out.trans T6.out).alloc (.cells #[.string s0, .int .i64 s1, .slice ta es.length tc] 74)) hR hD (hX6.alloc _) ((cells_alloc q6 _).trans HX.out.2.2.symm) hr8 (farX_new HX.out.1 _ (fun g e => (r6.out.lt g e).1)) (by rw [HX.out.2.1.1]; exact h2) (by rw [HX.out.2.1.2]; exact h1.out) ?_
                        rw [HX.out.2.1.1]
                        rcases h3.out with x | x
                        · exact .inl x
                        · refine .inr (fun g e => ?_)
                          rw [x] at e
                          cases e
                          simp
                      refine hK.out _ _ trivial (fun hHeld => ?_)
                      clear hK K
                      try simp only [Act.put, List.getElem_toArray, List.getElem_cons_succ, List.getElem_cons_zero, List.setIfInBounds_toArray, List.set_cons_zero, List.set_cons_succ]
                      refine wpAnyH_take (i := 6) (v := .pointer (some ⟨D, 4, none⟩)) rfl (by kernel_rfl) (by kernel_rfl) (by kernel_rfl) (fun _ _ _ h => h) (Or.inl ⟨by rfl, fun w' hSw => by go_simp⟩) hHeld ?_
                      simp only [Act.put, List.getElem_toArray, List.getElem_cons_succ, List.getElem_cons_zero, List.setIfInBounds_toArray, List.set_cons_zero, List.set_cons_succ]
                      refine wpAnyH_ready (rs := [7]) (by kernel_rfl) (by simp) ?_
                      refine AllReadyH.cons rfl (fun K hK => ?_) AllReadyH.nil
                      clear hHeld
                      simp only [Act.put, List.getElem_toArray, List.getElem_cons_succ, List.getElem_cons_zero, List.setIfInBounds_toArray, List.set_cons_zero, List.set_cons_succ]
                      rw [if_pos (by rfl)]
                      obtain ⟨v0, v1, v2, v3, v4⟩ := five z2
                      have u3 := cells_frozen z2 4
                      go_simp
                      refine hK.out _ _ trivial (fun hHeld => ?_)
                      clear hK K
                      try simp only [Act.put, List.getElem_toArray, List.getElem_cons_succ, List.getElem_cons_zero, List.setIfInBounds_toArray, List.set_cons_zero, List.set_cons_succ]
                      clear hHeld v0 v1 v2 v3 v4 u3
                      refine wpAnyH_done (by kernel_rfl) ?_ _
                      clear h1 h2 h3 z2 q6 hrow6 T6 r6
                      go_wp2_with fail
                      go_roundw
                      case rel => exact ⟨k + 1, by omega, by go_num, lr, Sk ++ [(s0, s1, es)], pMany_next hpk.out hps.out, by rw [← HMe.out] at HN; exact HN⟩
                      case measure => simp [intOf]; omega

                    · clear hHeld
                      simp only [Act.put, List.getElem_toArray, List.getElem_cons_succ, List.getElem_cons_zero, List.setIfInBounds_toArray, List.set_cons_zero, List.set_cons_succ]
                      rw [if_pos (by rfl)]
                      go_simp
                      refine hK.out _ _ trivial (fun hHeld => ?_)
                      clear hK K
                      try simp only [Act.put, List.getElem_toArray, List.getElem_cons_succ, List.getElem_cons_zero, List.setIfInBounds_toArray, List.set_cons_zero, List.set_cons_succ]
                      refine wpAnyH_ready (rs := [1]) (by kernel_rfl) (by simp) ?_
                      refine AllReadyH.cons rfl (fun K hK => ?_) AllReadyH.nil
                      clear hHeld
                      simp only [Act.put, List.getElem_toArray, List.getElem_cons_succ, List.getElem_cons_zero, List.setIfInBounds_toArray, List.set_cons_zero, List.set_cons_succ]
                      rw [if_pos (by rfl)]
                      have bxx := cells_alloc q6 (.cells #[.string s0, .int .i64 s1, .slice ta es.length tc] 74)
                      obtain ⟨v0, v1, v2, v3, v4⟩ := five bxx
                      go_simp
                      clear v0 v1 v2 v3 v4 bxx
                      refine hK.out _ _ trivial (fun hHeld => ?_)
                      clear hK K
                      try simp only [Act.put, List.getElem_toArray, List.getElem_cons_succ, List.getElem_cons_zero, List.setIfInBounds_toArray, List.set_cons_zero, List.set_cons_succ]
                      refine wpAnyH_ready (rs := [5]) (by kernel_rfl) (by simp) ?_
                      refine AllReadyH.cons rfl (fun K hK => ?_) AllReadyH.nil
                      clear hHeld
                      simp only [Act.put, List.getElem_toArray, List.getElem_cons_succ, List.getElem_cons_zero, List.setIfInBounds_toArray, List.set_cons_zero, List.set_cons_succ]
                      rw [if_pos (by rfl)]
                      have hrow6 : w6.ownsRow (D + 1) 74 3 (.slice pa kn pc) kn (flatN M.snaps (fun j => val (.sr j))) := row_blkS1L hrow (fun g e => T6.out.keep g (hrow.lt g e).2 (by have := (hrow.lt g e).1; omega))
                      refine wp_app3 _ _ 24 74 _ Try.underlying24 infoSnap (by rfl) (by rfl) (B := D + 1) (v := .slice pa kn pc) (c0 := .string s0) (c1 := .int .i64 s1) (c2 := .slice ta es.length tc) (by rfl) (by rfl) (by rfl) (by rfl) (by rfl) (by simp) hrow6 (by omega) (by omega) ?_
                      intro v1 w8 h1 h2 h3
                      obtain ⟨g1, cap1, hv1⟩ := row_some h1.out
                      subst hv1
                      have z2 : w8.heap[D]? = some (.cells #[.int .i64 M.guest, val .root, val .slots, val .refs, .slice pa kn pc] 26) := (h2.block D (by simp; omega) (fun e => by have := (hrow.lt D e.symm).1; omega)).trans (cells_alloc q6 _)
                      have HN : Hid (RdM w1 (w8.setCell ⟨D, 4, none⟩ (.slice (some ⟨g1, 0, none⟩) (kn + 1) cap1)) R D lr { M with snaps := M.snaps ++ [(s0, s1, es)] }) := by
                        have hX6 := (HX.out.1.keep (W' := w6) (fun g hg hl => T6.out.keep g hl (by omega)))
                        have hr8 := row_monoL (row_blkS1L (W' := w6.alloc (.cells #[.string s0, .int .i64 s1, .slice ta es.length tc] 74)) r6.out (fun g e => Below.heap_alloc _ _ g (r6.out.lt g e).2)) (B' := D + 1) (by omega)
                        refine RdM.snap (es := es) (kk := s1) (dd := s0) (ev := .slice ta es.length tc) ((HT.out.trans T6.out).alloc (.cells #[.string s0, .int .i64 s1, .slice ta es.length tc] 74)) hR hD (hX6.alloc _) ((cells_alloc q6 _).trans HX.out.2.2.symm) hr8 (farX_new HX.out.1 _ (fun g e => (r6.out.lt g e).1)) (by rw [HX.out.2.1.1]; exact h2) (by rw [HX.out.2.1.2]; exact h1.out) ?_
                        rw [HX.out.2.1.1]
                        rcases h3.out with x | x
                        · exact .inl x
                        · refine .inr (fun g e => ?_)
                          rw [x] at e
                          cases e
                          simp
                      refine hK.out _ _ trivial (fun hHeld => ?_)
                      clear hK K
                      try simp only [Act.put, List.getElem_toArray, List.getElem_cons_succ, List.getElem_cons_zero, List.setIfInBounds_toArray, List.set_cons_zero, List.set_cons_succ]
                      refine wpAnyH_take (i := 6) (v := .pointer (some ⟨D, 4, none⟩)) rfl (by kernel_rfl) (by kernel_rfl) (by kernel_rfl) (fun _ _ _ h => h) (Or.inl ⟨by rfl, fun w' hSw => by go_simp⟩) hHeld ?_
                      simp only [Act.put, List.getElem_toArray, List.getElem_cons_succ, List.getElem_cons_zero, List.setIfInBounds_toArray, List.set_cons_zero, List.set_cons_succ]
                      refine wpAnyH_ready (rs := [7]) (by kernel_rfl) (by simp) ?_
                      refine AllReadyH.cons rfl (fun K hK => ?_) AllReadyH.nil
                      clear hHeld
                      simp only [Act.put, List.getElem_toArray, List.getElem_cons_succ, List.getElem_cons_zero, List.setIfInBounds_toArray, List.set_cons_zero, List.set_cons_succ]
                      rw [if_pos (by rfl)]
                      obtain ⟨v0, v1, v2, v3, v4⟩ := five z2
                      have u3 := cells_frozen z2 4
                      go_simp
                      refine hK.out _ _ trivial (fun hHeld => ?_)
                      clear hK K
                      try simp only [Act.put, List.getElem_toArray, List.getElem_cons_succ, List.getElem_cons_zero, List.setIfInBounds_toArray, List.set_cons_zero, List.set_cons_succ]
                      clear hHeld v0 v1 v2 v3 v4 u3
                      refine wpAnyH_done (by kernel_rfl) ?_ _
                      clear h1 h2 h3 z2 q6 hrow6 T6 r6
                      go_wp2_with fail
                      go_roundw
                      case rel => exact ⟨k + 1, by omega, by go_num, lr, Sk ++ [(s0, s1, es)], pMany_next hpk.out hps.out, by rw [← HMe.out] at HN; exact HN⟩
                      case measure => simp [intOf]; omega

              · have hki : ¬ (k : Int) < (h.toNat : Int) := by omega
                have ek : k = h.toNat := by omega
                subst ek
                have hle := pMany_le (f := pSnap) (fun l s r h => pSnap_le h) _ _ lk hpk
                have hend := img_end (g := g) hSS.out hpk
                have hlk4 : lk.length ≤ 4096 := by omega
                obtain ⟨wv2, hv⟩ : ∃ X, X = wr := ⟨_, rfl⟩
                subst hv
                obtain ⟨rn, hrn⟩ : ∃ x, (g.toNat + 3) / 4 = x := ⟨_, rfl⟩
                obtain ⟨val, hX, hbox⟩ := HM.out.ex
                have hD := HM.out.hD
                have hDl : D < wv2.heap.size := (Array.getElem?_eq_some_iff.1 hbox).1
                have hDR : D ≠ R := by omega
                obtain ⟨v0, v1, v2, v3, v4⟩ := five hbox
                have HX : Hid (OX wv2 (D + 1) val (⟨(g.toNat : Int), [], SS, [], Sk⟩ : ImgD) ∧ wv2.heap[D]? = some (.cells #[.int .i64 (g.toNat : Int), val .root, val .slots, val .refs, val .snaps] 26)) := ⟨hX, hbox⟩
                have hg255 : g.toNat ≤ 255 := by omega
                rw [hrn] at hend
                by_cases hrl : rn ≤ lk.length
                · have hE : Hid (pImg (g :: n :: L2) = some (⟨(g.toNat : Int), (lk.take rn).map eInt, SS, [], Sk⟩, lk.drop rn)) := by
                    show pImg _ = _
                    rw [hend]; unfold pEnts; rw [if_pos hrl]; rfl
                  have HN := Hid_mkG (rroot_ok R g.toNat rn lk wv2 HM.out.t.box hg255 hrn hrl hlk4)
                  have hrn9 : rn ≤ 1000 := by omega
                  clear hle hend hpk hX hbox hrn
                  go_wp2_with fail
                  refine HN.out.mono ?_
                  rintro e9 w7 ⟨rfl, T7, g7⟩
                  have q7 := (T7.keep D hDl hDR).trans HX.out.2
                  obtain ⟨u0, u1, u2, u3, u4⟩ := five q7
                  have f7 := cells_frozen q7 1
                  have s7 := T7.size
                  have len7 : ((lk.take rn).map eInt).length = rn := by rw [List.length_map, List.length_take]; omega
                  have M8 : RdM w1 (w7.setCell ⟨D, 1, none⟩ (.slice (some ⟨wv2.heap.size, 0, none⟩) rn rn)) R D (lk.drop rn) ⟨(g.toNat : Int), (lk.take rn).map eInt, SS, [], Sk⟩ := by
                    have hX7 := HX.out.1.keep (W' := w7) (fun g hg hl => T7.keep g hl (by omega))
                    have hr7 : w7.ownsRow wv2.heap.size 3 1 (.slice (some ⟨wv2.heap.size, 0, none⟩) rn rn) rn (ints ((lk.take rn).map eInt)) := by
                      have := row_newG (B := wv2.heap.size) (Nat.le_refl _) (by omega) g7
                      rw [len7] at this
                      exact this
                    exact RdM.root (HM.out.t.trans T7) hR hD hX7 q7 (by rw [len7]; exact row_monoL hr7 (by omega)) (farX_new HX.out.1 _ (fun g e => by cases e; exact Nat.le_refl _))
                  obtain ⟨w8, hw8⟩ : ∃ X, w7.setCell ⟨D, 1, none⟩ (.slice (some ⟨wv2.heap.size, 0, none⟩) rn rn) = X := ⟨_, rfl⟩
                  rw [hw8] at M8
                  have M8 := Hid_mkG M8
                  clear T7 g7 q7 HN len7
                  go_upto_region 11 with fail
                  try rw [hw8]
                  clear u0 u1 u2 u3 u4 f7 hw8 v0 v1 v2 v3 v4
                  obtain ⟨a0, c0, a1, c1, a2, c2, a3, c3, b8, I8, F8⟩ := M8.out.img
                  obtain ⟨v0, v1, v2, v3, v4⟩ := five b8
                  have z8 := (M8.out.t.keep w.heap.size s1 (by omega)).trans z1
                  obtain ⟨z0, z1, z2, z3, z4⟩ := five z8
                  have y0 := cells_frozen z8 0
                  have y1 := cells_frozen z8 1
                  have y2 := cells_frozen z8 2
                  have y3 := cells_frozen z8 3
                  have y4 := cells_frozen z8 4
                  have HF := Hid_mkG F8
                  have HT8 := Hid_mkG (HW1.out _ _ M8.out.t)
                  clear b8 I8 F8 z8 M8
                  go_wp2_with fail
                  refine bodyPost_ret (v := .agg #[.int .i64 (g.toNat : Int), .slice a0 ((lk.take rn).map eInt).length c0, .slice a1 SS.length c1, .slice a2 ([] : List Int).length c2, .slice a3 Sk.length c3]) (by simp [results, Try.results71, go_sem, z0, z1, z2, z3, z4]; first | done | omega) rfl (Or.inl ⟨_, _, hE.out, a0, c0, a1, c1, a2, c2, a3, c3, rfl, ?_, ?_⟩)
                  · exact ((((HT8.out.other (Nat.le_refl _) hRw _).other (Nat.le_refl _) hRw _).other (Nat.le_refl _) hRw _).other (Nat.le_refl _) hRw _).other (Nat.le_refl _) hRw _
                  · intro Y hY
                    refine HF.out _ (fun q hq hl => ?_)
                    have hne : q ≠ w.heap.size := by omega
                    rw [hY q (by omega) (by simpa using hl), Below.heap_setCell _ ⟨w.heap.size, 4, none⟩ _ q hne, Below.heap_setCell _ ⟨w.heap.size, 3, none⟩ _ q hne, Below.heap_setCell _ ⟨w.heap.size, 2, none⟩ _ q hne, Below.heap_setCell _ ⟨w.heap.size, 1, none⟩ _ q hne, Below.heap_setCell _ ⟨w.heap.size, 0, none⟩ _ q hne]
                · have hE : Hid (pImg (g :: n :: L2) = none) := by
                    show pImg _ = _
                    rw [hend]; unfold pEnts; rw [if_neg hrl]; rfl
                  have HN := Hid_mkG (rroot_bad R g.toNat rn lk wv2 HM.out.t.box hg255 hrn (by omega) hlk4)
                  have HT := Hid_mkG HM.out.t
                  clear hle hend hpk hX hbox hrn
                  go_wp2_with fail
                  refine HN.out.mono ?_
                  rintro e9 w7 ⟨rfl, T7⟩
                  exact ⟨rfl, Or.inr ⟨hE.out, rfl, _, HW1.out _ _ (HT.out.trans T7)⟩⟩
end Go.Proofs.Ytehleeibgkpjmag
