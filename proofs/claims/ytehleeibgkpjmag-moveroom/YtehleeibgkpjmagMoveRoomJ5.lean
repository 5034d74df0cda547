/- Texts joined: DeskI, SetI, ClnI, CpyH, CpyI. -/
import Derived.Test.YtehleeibgkpjmagMoveRoomJ4
import Derived.Lib.SliceRun
import Derived.Deep.RegionHeld3
import Derived.Test.YtehleeibgkpjmagMoveRoomJ3
import Derived.Deep.CutRange
/- The desk: five cells, and an image's own rows. What stays, and what turns. -/
namespace Go.Proofs.Ytehleeibgkpjmag
open Go.RowKit Go.Shelf
set_option maxRecDepth 20000

theorem Img.four {w : World} {m : ImgD} {a b c d e : Value} (h : Img w (.agg #[a, b, c, d, e]) m) : Sl w b m.root ∧ Slots w c m.slots ∧ Sl w d m.refs ∧ Snaps w e m.snaps := by
  obtain ⟨_, _, _, _, e, h1, h2, h3, h4⟩ := h
  simp only [Value.agg.injEq, Array.mk.injEq, List.cons.injEq, and_true] at e
  obtain ⟨_, rfl, rfl, rfl, rfl⟩ := e
  exact ⟨h1, h2, h3, h4⟩
structure DK (W : World) (B D : Nat) (val : Nm → Value) (m : ImgD) : Prop where
  own : OI W B val m
  box : W.heap[D]? = some (.cells #[.int .i64 m.guest, val .root, val .slots, val .refs, val .snaps] 51)
  ge : B ≤ D
  far : ∀ a, Live m a → (val a).ownBlock ≠ some D
theorem DK.lt {W : World} {B D : Nat} {val : Nm → Value} {m : ImgD} (h : DK W B D val m) : D < W.heap.size := (Array.getElem?_eq_some_iff.1 h.box).1
theorem DK.below {W W' : World} {B D : Nat} {val : Nm → Value} {m : ImgD} (h : DK W B D val m) (hb : Below W.heap.size W W') : DK W' B D val m := ⟨h.own.below hb, (hb.block D h.lt).trans h.box, h.ge, h.far⟩
theorem DK.drew {W : World} {B D : Nat} {val : Nm → Value} {m : ImgD} (h : DK W B D val m) : DK W.drew B D val m := ⟨h.own.drew, h.box, h.ge, h.far⟩
theorem DK.alloc {W : World} {B D : Nat} {val : Nm → Value} {m : ImgD} (h : DK W B D val m) (o : Obj) : DK (W.alloc o) B D val m := h.below ((Below.refl _ _).alloc (Nat.le_refl _) o)

structure DTo (w w' : World) (B D : Nat) (m : ImgD) (val : Nm → Value) (ev : Value) (m' : ImgD) (val' : Nm → Value) : Prop where
  dk : DK w' B D val' m'
  bel : Below B w w'
  keep : ∀ q, q < w.heap.size → q ≠ D → ev.ownBlock ≠ some q → (∀ a, Live m a → (val a).ownBlock ≠ some q) → w'.heap[q]? = w.heap[q]?
  src : ∀ q, q < w.heap.size → ev.ownBlock ≠ some q → (∀ b, Live m b → (val b).ownBlock ≠ some q) → ∀ a, Live m' a → (val' a).ownBlock ≠ some q
abbrev nilV : Value := .slice none 0 0
theorem nilV_own (q : Nat) : nilV.ownBlock ≠ some q := by intro e; cases e

theorem DTo.refl {w : World} {B D : Nat} {m : ImgD} {val : Nm → Value} (h : DK w B D val m) (ev : Value) : DTo w w B D m val ev m val := ⟨h, Below.refl _ _, fun _ _ _ _ _ => rfl, fun _ _ _ hm => hm⟩
theorem DTo.trans {w w1 w2 : World} {B D : Nat} {m m1 m2 : ImgD} {val val1 val2 : Nm → Value} {ev ev' : Value} (h : DTo w w1 B D m val ev m1 val1) (k : DTo w1 w2 B D m1 val1 ev' m2 val2) (he : ∀ q, ev'.ownBlock = some q → ev.ownBlock = some q ∨ w.heap.size ≤ q ∨ ∃ a, Live m a ∧ (val a).ownBlock = some q) : DTo w w2 B D m val ev m2 val2 := by
  have hx : ∀ q, q < w.heap.size → ev.ownBlock ≠ some q → (∀ b, Live m b → (val b).ownBlock ≠ some q) → ev'.ownBlock ≠ some q := fun q hq hev hm e => by
    rcases he q e with x | x | ⟨a, ha, x⟩
    · exact hev x
    · omega
    · exact hm a ha x
  refine ⟨k.dk, h.bel.trans k.bel, fun q hq hD hev hm => ?_, fun q hq hev hm => ?_⟩
  · exact (k.keep q (Nat.lt_of_lt_of_le hq h.bel.size) hD (hx q hq hev hm) (h.src q hq hev hm)).trans (h.keep q hq hD hev hm)
  · exact k.src q (Nat.lt_of_lt_of_le hq h.bel.size) (hx q hq hev hm) (h.src q hq hev hm)
theorem DTo.andThen {w w1 w2 : World} {B D : Nat} {m m1 m2 : ImgD} {val val1 val2 : Nm → Value} (h : DTo w w1 B D m val nilV m1 val1) (k : DTo w1 w2 B D m1 val1 nilV m2 val2) : DTo w w2 B D m val nilV m2 val2 :=
  h.trans k (fun q e => by cases e)
theorem DTo.first {w w1 w2 : World} {B D : Nat} {m m1 : ImgD} {val val1 : Nm → Value} {ev : Value} (hb : Below w.heap.size w w1) (hB : B ≤ w.heap.size) (h : DTo w1 w2 B D m val ev m1 val1) (he : ∀ q, ev.ownBlock = some q → w.heap.size ≤ q) : DTo w w2 B D m val nilV m1 val1 :=
  ⟨h.dk, (hb.mono hB).trans h.bel, fun q hq hD _ hm => (h.keep q (Nat.lt_of_lt_of_le hq hb.size) hD (fun e => by have := he q e; omega) hm).trans (hb.block q hq), fun q hq _ hm => h.src q (Nat.lt_of_lt_of_le hq hb.size) (fun e => by have := he q e; omega) hm⟩
theorem DTo.below {w w1 w2 : World} {B D : Nat} {m m1 : ImgD} {val val1 : Nm → Value} {ev : Value} (h : DTo w w1 B D m val ev m1 val1) (hB : B ≤ w.heap.size) (hb : Below w1.heap.size w1 w2) : DTo w w2 B D m val ev m1 val1 :=
  ⟨h.dk.below hb, h.bel.trans (hb.mono (Nat.le_trans hB h.bel.size)), fun q hq hD hev hm => (hb.block q (Nat.lt_of_lt_of_le hq h.bel.size)).trans (h.keep q hq hD hev hm), h.src⟩
theorem DTo.drew {w w1 : World} {B D : Nat} {m m1 : ImgD} {val val1 : Nm → Value} {ev : Value} (h : DTo w w1 B D m val ev m1 val1) : DTo w w1.drew B D m val ev m1 val1 := ⟨h.dk.drew, h.bel.drew, h.keep, h.src⟩
theorem DTo.alloc {w w1 : World} {B D : Nat} {m m1 : ImgD} {val val1 : Nm → Value} {ev : Value} (h : DTo w w1 B D m val ev m1 val1) (hB : B ≤ w.heap.size) (o : Obj) : DTo w (w1.alloc o) B D m val ev m1 val1 := h.below hB ((Below.refl _ _).alloc (Nat.le_refl _) o)
theorem DK.setFar {W : World} {B D : Nat} {val : Nm → Value} {m : ImgD} (h : DK W B D val m) {g i : Nat} {u : Value} (hD : D ≠ g) (hg : ∀ a, Live m a → (val a).ownBlock ≠ some g) : DK (W.setCell ⟨g, i, none⟩ u) B D val m := ⟨h.own.far hg, cells_other h.box hD _ _, h.ge, h.far⟩
theorem DTo.setNew {w w1 : World} {B D : Nat} {m m1 : ImgD} {val val1 : Nm → Value} {ev : Value} (h : DTo w w1 B D m val ev m1 val1) (hB : B ≤ w.heap.size) {g i : Nat} {u : Value} (hg : w.heap.size ≤ g) (hD : D ≠ g) (hf : ∀ a, Live m1 a → (val1 a).ownBlock ≠ some g) : DTo w (w1.setCell ⟨g, i, none⟩ u) B D m val ev m1 val1 :=
  ⟨h.dk.setFar hD hf, h.bel.setCell (Nat.le_trans hB hg) _, fun q hq hqD hev hm => (Below.heap_setCell w1 ⟨g, i, none⟩ u q (fun e => by have e : q = g := e; omega)).trans (h.keep q hq hqD hev hm), h.src⟩
theorem DTo.cells {w w1 : World} {B D : Nat} {m m1 : ImgD} {val val1 : Nm → Value} {ev : Value} (h : DTo w w1 B D m val ev m1 val1) {q : Nat} {A : Array Value} {t : TypeId} (hq : w.heap[q]? = some (.cells A t)) (hD : q ≠ D) (hev : ev.ownBlock ≠ some q) (hm : ∀ a, Live m a → (val a).ownBlock ≠ some q) : w1.heap[q]? = some (.cells A t) :=
  (h.keep q (Array.getElem?_eq_some_iff.1 hq).1 hD hev hm).trans hq


theorem DK.five {W : World} {B D : Nat} {val : Nm → Value} {m : ImgD} (h : DK W B D val m) : W.cell? ⟨D, 0, none⟩ = some (.int .i64 m.guest) ∧ W.cell? ⟨D, 1, none⟩ = some (val .root) ∧ W.cell? ⟨D, 2, none⟩ = some (val .slots) ∧ W.cell? ⟨D, 3, none⟩ = some (val .refs) ∧ W.cell? ⟨D, 4, none⟩ = some (val .snaps) := Go.Proofs.Ytehleeibgkpjmag.five h.box
theorem DK.frozen {W : World} {B D : Nat} {val : Nm → Value} {m : ImgD} (h : DK W B D val m) (i : Nat) : W.frozen? ⟨D, i, none⟩ = false := cells_frozen h.box i
theorem DK.swapRefs {W : World} {B D : Nat} {val : Nm → Value} {m : ImgD} (h : DK W B D val m) {v : Value} {r : List Int} (hv : W.ownsRow B 3 1 v r.length (ints r)) (hfar : Far m val .refs v) (hD : v.ownBlock ≠ some D) : DK (W.setCell ⟨D, 3, none⟩ v) B D (upd val .refs v) { m with refs := r } := by
  have hf : ∀ a, Live m a → (upd val .refs v a).ownBlock ≠ some D := fun a ha => by
    by_cases e : a = .refs
    · subst e; rw [upd_same]; exact hD
    · rw [upd_other _ _ e]; exact h.far a ha
  refine ⟨(h.own.swapRefs hv hfar).far hf, ?_, h.ge, hf⟩
  have := cells_set h.box 3 v
  rw [upd_same, upd_other _ _ (by intro x; cases x), upd_other _ _ (by intro x; cases x), upd_other _ _ (by intro x; cases x)]
  exact this
theorem DK.swapRoot {W : World} {B D : Nat} {val : Nm → Value} {m : ImgD} (h : DK W B D val m) {v : Value} {r : List Int} (hv : W.ownsRow B 3 1 v r.length (ints r)) (hfar : Far m val .root v) (hD : v.ownBlock ≠ some D) : DK (W.setCell ⟨D, 1, none⟩ v) B D (upd val .root v) { m with root := r } := by
  have hf : ∀ a, Live m a → (upd val .root v a).ownBlock ≠ some D := fun a ha => by
    by_cases e : a = .root
    · subst e; rw [upd_same]; exact hD
    · rw [upd_other _ _ e]; exact h.far a ha
  refine ⟨(h.own.swapRoot hv hfar m.guest).far hf, ?_, h.ge, hf⟩
  have := cells_set h.box 1 v
  rw [upd_same, upd_other _ _ (by intro x; cases x), upd_other _ _ (by intro x; cases x), upd_other _ _ (by intro x; cases x)]
  exact this
theorem OI.reguest {W : World} {B : Nat} {val : Nm → Value} {m : ImgD} (h : OI W B val m) (g : Int) : OI W B val { m with guest := g } := ⟨fun a ha => h.row a ha, fun a b ha hb => h.apart a b ha hb⟩
theorem DK.setGuest {W : World} {B D : Nat} {val : Nm → Value} {m : ImgD} (h : DK W B D val m) (g : Int) : DK (W.setCell ⟨D, 0, none⟩ (.int .i64 g)) B D val { m with guest := g } :=
  ⟨(h.own.reguest g).far h.far, cells_set h.box 0 _, h.ge, h.far⟩

theorem DTo.setOwn {w w1 : World} {B D : Nat} {m m1 m2 : ImgD} {val val1 val2 : Nm → Value} {ev : Value} (h : DTo w w1 B D m val ev m1 val1) {a : Nm} (ha : Live m1 a) {g n cap : Nat} (hv : val1 a = .slice (some ⟨g, 0, none⟩) n cap) {i : Nat} {u : Value} (hdk : DK (w1.setCell ⟨g, i, none⟩ u) B D val2 m2) (hs : ∀ q, ev.ownBlock ≠ some q → (∀ b, Live m1 b → (val1 b).ownBlock ≠ some q) → q < w.heap.size → ∀ b, Live m2 b → (val2 b).ownBlock ≠ some q) : DTo w (w1.setCell ⟨g, i, none⟩ u) B D m val ev m2 val2 := by
  have hg := ((h.dk.own.row a ha).lt g (by rw [hv]; rfl)).1
  refine ⟨hdk, h.bel.setCell hg _, fun q hq hD hev hm => ?_, fun q hq hev hm => hs q hev (h.src q hq hev hm) hq⟩
  exact (Below.heap_setCell w1 ⟨g, i, none⟩ u q (fun e => h.src q hq hev hm a ha (by rw [hv]; exact congrArg some e.symm))).trans (h.keep q hq hD hev hm)
theorem DTo.setDesk {w w1 : World} {B D : Nat} {m m1 m2 : ImgD} {val val1 val2 : Nm → Value} {ev : Value} (h : DTo w w1 B D m val ev m1 val1) {i : Nat} {u : Value} (hdk : DK (w1.setCell ⟨D, i, none⟩ u) B D val2 m2) (hs : ∀ q, ev.ownBlock ≠ some q → (∀ b, Live m1 b → (val1 b).ownBlock ≠ some q) → q < w.heap.size → ∀ b, Live m2 b → (val2 b).ownBlock ≠ some q) : DTo w (w1.setCell ⟨D, i, none⟩ u) B D m val ev m2 val2 :=
  ⟨hdk, h.bel.setCell h.dk.ge _, fun q hq hD hev hm => (Below.heap_setCell w1 ⟨D, i, none⟩ u q hD).trans (h.keep q hq hD hev hm), fun q hq hev hm => hs q hev (h.src q hq hev hm) hq⟩
theorem DK.setRoot {W : World} {B D : Nat} {val : Nm → Value} {m : ImgD} (h : DK W B D val m) {g n cap : Nat} (hv : val .root = .slice (some ⟨g, 0, none⟩) n cap) (i : Nat) (x : Int) : DK (W.setCell ⟨g, i, none⟩ (.int .i64 x)) B D val { m with root := m.root.set i x } :=
  ⟨h.own.setRoot hv i x, cells_other h.box (fun e => h.far .root (Live.root m) (by rw [hv, e]; rfl)) _ _, h.ge, h.far⟩
theorem DK.setRefs {W : World} {B D : Nat} {val : Nm → Value} {m : ImgD} (h : DK W B D val m) {g n cap : Nat} (hv : val .refs = .slice (some ⟨g, 0, none⟩) n cap) (i : Nat) (x : Int) : DK (W.setCell ⟨g, i, none⟩ (.int .i64 x)) B D val { m with refs := m.refs.set i x } :=
  ⟨h.own.setRefs hv i x, cells_other h.box (fun e => h.far .refs (Live.refs m) (by rw [hv, e]; rfl)) _ _, h.ge, h.far⟩
theorem DTo.setRoot {w w1 : World} {B D : Nat} {m m1 : ImgD} {val val1 : Nm → Value} {ev : Value} (h : DTo w w1 B D m val ev m1 val1) {g n cap : Nat} (hv : val1 .root = .slice (some ⟨g, 0, none⟩) n cap) (i : Nat) (x : Int) : DTo w (w1.setCell ⟨g, i, none⟩ (.int .i64 x)) B D m val ev { m1 with root := m1.root.set i x } val1 :=
  h.setOwn (Live.root m1) hv (h.dk.setRoot hv i x) (fun _ _ hm _ => hm)
theorem DTo.setRefs {w w1 : World} {B D : Nat} {m m1 : ImgD} {val val1 : Nm → Value} {ev : Value} (h : DTo w w1 B D m val ev m1 val1) {g n cap : Nat} (hv : val1 .refs = .slice (some ⟨g, 0, none⟩) n cap) (i : Nat) (x : Int) : DTo w (w1.setCell ⟨g, i, none⟩ (.int .i64 x)) B D m val ev { m1 with refs := m1.refs.set i x } val1 :=
  h.setOwn (Live.refs m1) hv (h.dk.setRefs hv i x) (fun _ _ hm _ => hm)
theorem DTo.setGuest {w w1 : World} {B D : Nat} {m m1 : ImgD} {val val1 : Nm → Value} {ev : Value} (h : DTo w w1 B D m val ev m1 val1) (x : Int) : DTo w (w1.setCell ⟨D, 0, none⟩ (.int .i64 x)) B D m val ev { m1 with guest := x } val1 :=
  h.setDesk (h.dk.setGuest x) (fun _ _ hm _ => hm)
theorem upd_src {m1 m2 : ImgD} {val1 : Nm → Value} {ev v : Value} {a : Nm} {n : Nat} (hl : ∀ b, Live m2 b → b ≠ a → Live m1 b) (hv : ∀ q, v.ownBlock = some q → ev.ownBlock = some q ∨ n ≤ q) : ∀ q, ev.ownBlock ≠ some q → (∀ b, Live m1 b → (val1 b).ownBlock ≠ some q) → q < n → ∀ b, Live m2 b → (upd val1 a v b).ownBlock ≠ some q := fun q hev hm hq b hb => by
  by_cases e : b = a
  · subst e
    rw [upd_same]
    intro x
    rcases hv q x with y | y
    · exact hev y
    · omega
  · rw [upd_other _ _ e]; exact hm b (hl b hb e)
theorem DTo.swapRoot {w w1 : World} {B D : Nat} {m m1 : ImgD} {val val1 : Nm → Value} {ev : Value} (h : DTo w w1 B D m val ev m1 val1) {v : Value} {r : List Int} (hv : w1.ownsRow B 3 1 v r.length (ints r)) (hfar : Far m1 val1 .root v) (hD : v.ownBlock ≠ some D) (hs : ∀ q, v.ownBlock = some q → ev.ownBlock = some q ∨ w.heap.size ≤ q) : DTo w (w1.setCell ⟨D, 1, none⟩ v) B D m val ev { m1 with root := r } (upd val1 .root v) :=
  h.setDesk (h.dk.swapRoot hv hfar hD) (upd_src (fun _ hb _ => hb) hs)
theorem DTo.swapRefs {w w1 : World} {B D : Nat} {m m1 : ImgD} {val val1 : Nm → Value} {ev : Value} (h : DTo w w1 B D m val ev m1 val1) {v : Value} {r : List Int} (hv : w1.ownsRow B 3 1 v r.length (ints r)) (hfar : Far m1 val1 .refs v) (hD : v.ownBlock ≠ some D) (hs : ∀ q, v.ownBlock = some q → ev.ownBlock = some q ∨ w.heap.size ≤ q) : DTo w (w1.setCell ⟨D, 3, none⟩ v) B D m val ev { m1 with refs := r } (upd val1 .refs v) :=
  h.setDesk (h.dk.swapRefs hv hfar hD) (upd_src (fun _ hb _ => hb) hs)
theorem DTo.setSlot {w w1 : World} {B D : Nat} {m m1 : ImgD} {val val1 : Nm → Value} {ev : Value} (h : DTo w w1 B D m val ev m1 val1) {t : Nat} (ht : t < m1.slots.length) {g n cap : Nat} (hv : val1 .slots = .slice (some ⟨g, 0, none⟩) n cap) (k : Int) (d : ByteArray) (es : List Int) {e2 : Value}
    (hev : w1.ownsRow B 3 1 e2 es.length (ints es)) (hfar : Far m1 val1 (.tab t) e2) (hD : e2.ownBlock ≠ some D) (hs : ∀ q, e2.ownBlock = some q → ev.ownBlock = some q ∨ w.heap.size ≤ q) :
    DTo w (((w1.setCell ⟨g, t * 3, none⟩ (.int .i64 k)).setCell ⟨g, t * 3 + 1, none⟩ (.string d)).setCell ⟨g, t * 3 + 2, none⟩ e2) B D m val ev { m1 with slots := m1.slots.set t (k, d, es) } (upd val1 (.tab t) e2) := by
  have hDg : D ≠ g := fun e => h.dk.far .slots (Live.slots m1) (by rw [hv, e]; rfl)
  have hg := ((h.dk.own.row .slots (Live.slots m1)).lt g (by rw [hv]; rfl)).1
  have hl : ∀ b, Live { m1 with slots := m1.slots.set t (k, d, es) } b → Live m1 b := fun b hb => (live_iff (m := m1) (m' := { m1 with slots := m1.slots.set t (k, d, es) }) List.length_set rfl b).1 hb
  have hu : ∀ q, ev.ownBlock ≠ some q → (∀ b, Live m1 b → (val1 b).ownBlock ≠ some q) → q < w.heap.size → ∀ b, Live { m1 with slots := m1.slots.set t (k, d, es) } b → (upd val1 (.tab t) e2 b).ownBlock ≠ some q := upd_src (fun b hb _ => hl b hb) hs
  refine ⟨⟨h.dk.own.setSlot ht hv k d es hev hfar, ?_, h.dk.ge, fun a ha => ?_⟩, ((h.bel.setCell hg _).setCell hg _).setCell hg _, fun q hq hqD hev' hm => ?_, fun q hq hev' hm => hu q hev' (h.src q hq hev' hm) hq⟩
  · rw [upd_other _ _ (by intro x; cases x), upd_other _ _ (by intro x; cases x), upd_other _ _ (by intro x; cases x), upd_other _ _ (by intro x; cases x)]
    exact cells_other (cells_other (cells_other h.dk.box hDg _ _) hDg _ _) hDg _ _
  · by_cases e : a = .tab t
    · subst e; rw [upd_same]; exact hD
    · rw [upd_other _ _ e]; exact h.dk.far a (hl a ha)
  · have hqg : q ≠ g := fun e => h.src q hq hev' hm .slots (Live.slots m1) (by rw [hv]; exact congrArg some e.symm)
    exact (cells_other (cells_other (cells_other rfl hqg _ _) hqg _ _) hqg _ _).trans (h.keep q hq hqD hev' hm)
def AnsI (w : World) (B : Nat) (m : ImgD) (err : Int) (r : Ending) (w' : World) : Prop := ∃ val, r = .returned (.tuple #[imgV m.guest val, .int .i64 err]) ∧ OI w' B val m ∧ Below B w w'
def imgZ : ImgD := ⟨0, [], [], [], []⟩
def valZ : Nm → Value := fun _ => nilV
theorem OI.zero (W : World) (B : Nat) : OI W B valZ imgZ := ⟨fun a ha => by
  rcases ha.cases with rfl | rfl | rfl | rfl | ⟨j, rfl, hj⟩ | ⟨j, rfl, hj⟩
  · exact World.ownsRow_nil _ _ _ _
  · exact World.ownsRow_nil _ _ _ _
  · exact World.ownsRow_nil _ _ _ _
  · exact World.ownsRow_nil _ _ _ _
  · exact absurd hj (Nat.not_lt_zero _)
  · exact absurd hj (Nat.not_lt_zero _), fun _ _ _ _ _ g hg => by cases hg⟩
theorem AnsI.bad {w w' : World} {B : Nat} (err : Int) (hb : Below B w w') : AnsI w B imgZ err (.returned (.tuple #[.agg #[.int .i64 0, nilV, nilV, nilV, nilV], .int .i64 err])) w' := ⟨valZ, rfl, OI.zero _ _, hb⟩
end Go.Proofs.Ytehleeibgkpjmag
/- Contract of settled: the counts are told, and what nothing tells is free. -/
namespace Go.Proofs.Ytehleeibgkpjmag
open Go.RowKit Go.Shelf
set_option maxRecDepth 20000

def SetR (v wr : World) (B D : Nat) (m : ImgD) (val : Nm → Value) (q k : Nat) : Prop :=
  ∃ vk, DTo v wr B D m val nilV (frT m k) vk ∧ vk .root = val .root ∧ vk .slots = val .slots ∧ vk .refs = .slice (some ⟨q, 0, none⟩) m.slots.length m.slots.length ∧ vk .snaps = val .snaps

set_option maxHeartbeats 4000000 in
theorem settled_at (m : ImgD) (ra : Option Addr) (rn rc : Nat) (g sc : Nat) (fa : Option Addr) (fn fc : Nat) (na : Option Addr) (nn nc : Nat) (B D : Nat) (val : Nm → Value) (w : World) (hK : DK w B D val m) (e0 : val .root = .slice ra rn rc) (e1 : val .slots = .slice (some ⟨g, 0, none⟩) m.slots.length sc) (e2 : val .refs = .slice fa fn fc) (e3 : val .snaps = .slice na nn nc) (hB : B ≤ w.heap.size) (hE : shapeE m = 0) :
    Calls Try.prog 51 #[.pointer (some ⟨D, 0, none⟩)] w fun r w' => ∃ val', r = .returned (.tuple #[imgV m.guest val', .int .i64 0]) ∧ DTo w w' B D m val nilV (countedD m) val' := by
  have h40 : m.slots.length ≤ 40 := (slotsE_parts (shapeE_zero hE).2.1).2
  have h1s : 1 ≤ m.slots.length := (slotsE_parts (shapeE_zero hE).2.1).1
  have hlc : (cntL m).length = m.slots.length := cntL_length m
  have hDlt := hK.lt
  have hgr := hK.own.row .slots (Live.slots m)
  rw [e1] at hgr
  have hgl := hgr.lt g rfl
  have hDg : g ≠ D := fun e => hK.far .slots (Live.slots m) (by rw [e1, e]; rfl)
  clear hgr
  have hK1 : DK (w.alloc (.cells #[.int .i64 0, .slice none 0 0, .slice none 0 0, .slice none 0 0, .slice none 0 0] 26)) B D val m := hK.alloc _
  obtain ⟨d0, d1, d2, d3, d4⟩ := hK1.five
  have f3 := hK1.frozen 3
  rw [e0] at d1
  rw [e1] at d2
  rw [e2] at d3
  rw [e3] at d4
  have hcall := counts_own hK1.own.img hE
  unfold imgV at hcall
  rw [e0, e1, e2, e3] at hcall
  have hz1 : (w.alloc (.cells #[.int .i64 0, .slice none 0 0, .slice none 0 0, .slice none 0 0, .slice none 0 0] 26)).heap.size = w.heap.size + 1 := by simp
  have mR : (w.alloc (.cells #[.int .i64 0, .slice none 0 0, .slice none 0 0, .slice none 0 0, .slice none 0 0] 26)).heap[w.heap.size]? = some (.cells #[.int .i64 0, .slice none 0 0, .slice none 0 0, .slice none 0 0, .slice none 0 0] 26) := World.alloc_heap_new _ _
  have D1 : ¬ D = w.heap.size := by omega
  have D2 : ¬ w.heap.size = D := by omega
  go_enter Try.func51, Try.ntmps51
  go_wp2_with (go_at_call 47; refine hcall.mono ?_; rintro e w2 ⟨⟨q, hq, rfl, hL⟩, hb2⟩; have hK2 := hK1.below hb2; obtain ⟨c0, c1, c2, c3, c4⟩ := hK2.five; have f2 := hK2.frozen 3; rw [e0] at c1; rw [e1] at c2; rw [e2] at c3; rw [e3] at c4)
  have hb2' : Below (w.alloc (.cells #[.int .i64 0, .slice none 0 0, .slice none 0 0, .slice none 0 0, .slice none 0 0] 26)).heap.size (w.alloc (.cells #[.int .i64 0, .slice none 0 0, .slice none 0 0, .slice none 0 0, .slice none 0 0] 26)) w2 := hb2
  have hq0 := hq
  have hq : w.heap.size + 1 ≤ q := by rw [hz1] at hq; exact hq
  have hrow : w2.ownsRow B 3 1 (.slice (some ⟨q, 0, none⟩) m.slots.length m.slots.length) (cntL m).length (ints (cntL m)) := by
    have := row_LAt hL (B := B) (by omega) (by rw [hlc]; omega)
    rw [hlc] at this ⊢
    exact this
  have hS := (DTo.refl hK1 nilV).below (by rw [hz1]; omega) hb2'
  have hS := hS.swapRefs hrow (far_new hK1.own .refs (fun p e => by cases e; rw [hz1]; exact hq)) (fun e => by have e : q = D := Option.some.inj e; omega) (fun p e => by cases e; rw [hz1]; exact .inr hq)
  have HS : Hid (SetR (w.alloc (.cells #[.int .i64 0, .slice none 0 0, .slice none 0 0, .slice none 0 0, .slice none 0 0] 26)) (w2.setCell ⟨D, 3, none⟩ (.slice (some ⟨q, 0, none⟩) m.slots.length m.slots.length)) B D m val q 0) := by
    refine ⟨upd val .refs (.slice (some ⟨q, 0, none⟩) m.slots.length m.slots.length), ?_, upd_other _ _ (by intro x; cases x), upd_other _ _ (by intro x; cases x), upd_same _ _ _, upd_other _ _ (by intro x; cases x)⟩
    rw [frT_zero]
    exact hS
  have HV : Hid (val .root = .slice ra rn rc ∧ val .slots = .slice (some ⟨g, 0, none⟩) m.slots.length sc ∧ val .snaps = .slice na nn nc) := ⟨e0, e1, e3⟩
  have HK : Hid (DK w B D val m) := hK
  clear hb2' hb2 hrow hS hL hq0 hK1 hK2 c0 c1 c2 c3 c4 d0 d1 d2 d3 d4 f2 f3 hcall hE e0 e1 e2 e3 hK mR hz1
  go_loopw [27] (fun i wr => ∃ k : Nat, k ≤ m.slots.length ∧ i = .int .i64 k ∧ Hid (SetR (w.alloc (.cells #[.int .i64 0, .slice none 0 0, .slice none 0 0, .slice none 0 0, .slice none 0 0] 26)) wr B D m val q k)) (fun i _ => m.slots.length - (intOf i).toNat)
  case atStart => exact ⟨0, Nat.zero_le _, rfl, HS⟩
  case round =>
    obtain ⟨k, hk, rfl, HC⟩ := hrel
    obtain ⟨vk, hT, v0, v1, v2, v3⟩ := HC.out
    obtain ⟨e0, e1, e3⟩ := HV.out
    rw [e0] at v0
    rw [e1] at v1
    rw [e3] at v3
    obtain ⟨d0, d1, d2, d3, d4⟩ := hT.dk.five
    have d0 : wr.cell? ⟨D, 0, none⟩ = some (.int .i64 m.guest) := d0
    rw [v0] at d1
    rw [v1] at d2
    rw [v2] at d3
    rw [v3] at d4
    have hls := frT_length m k
    by_cases hlk : k < m.slots.length
    · have hki : (k : Int) < (m.slots.length : Int) := by omega
      obtain ⟨x, hx⟩ : ∃ x, x = (cntL m).getD k 0 := ⟨_, rfl⟩
      have cx : wr.cell? ⟨q, k, none⟩ = some (.int .i64 x) := by
        have hr := hT.dk.own.row .refs (Live.refs _)
        rw [v2] at hr
        have hr : wr.ownsRow B 3 1 (.slice (some ⟨q, 0, none⟩) m.slots.length m.slots.length) (cntL m).length (ints (cntL m)) := hr
        rw [hlc] at hr
        rw [hx]
        refine (hr.cellAt k (by omega)).trans ?_
        unfold ints
        rw [List.getElem?_map, List.getElem?_eq_getElem (by rw [hlc]; exact hlk)]
        simp [List.getD, hlc, hlk]
      have HX : Hid (x = (cntL m).getD k 0) := hx
      clear hx
      by_cases h0 : x = 0
      · have h0' : (x == 0) = true := by simp [h0]
        have H0 : Hid ((cntL m).getD k 0 = 0) := HX.out.symm.trans h0
        clear h0
        have hr := hT.dk.own.row .slots (Live.slots _)
        rw [v1] at hr
        obtain ⟨s0, s1, s2⟩ := flatS_get (L := (frT m k).slots) (tv := fun j => vk (.tab j)) (j := k) (by rw [hls]; exact hlk)
        have hr : wr.ownsRow B 60 3 (.slice (some ⟨g, 0, none⟩) m.slots.length sc) m.slots.length (flatS (frT m k).slots (fun j => vk (.tab j))) := by rw [← hls]; rw [← hls] at hr; exact hr
        have t0 : wr.cell? ⟨g, k * 3, none⟩ = some _ := (hr.cellAt (k * 3) (by omega)).trans s0
        have t1 : wr.cell? ⟨g, k * 3 + 1, none⟩ = some _ := (hr.cellAt (k * 3 + 1) (by omega)).trans s1
        have t2 : wr.cell? ⟨g, k * 3 + 2, none⟩ = some _ := (hr.cellAt (k * 3 + 2) (by omega)).trans s2
        have u0 := hr.frozenAt (k * 3)
        have u1 := hr.frozenAt (k * 3 + 1)
        have u2 := hr.frozenAt (k * 3 + 2)
        have HN : Hid (SetR (w.alloc (.cells #[.int .i64 0, .slice none 0 0, .slice none 0 0, .slice none 0 0, .slice none 0 0] 26)) (((wr.setCell ⟨g, k * 3, none⟩ (.int .i64 0)).setCell ⟨g, k * 3 + 1, none⟩ (.string ⟨#[]⟩)).setCell ⟨g, k * 3 + 2, none⟩ (.slice none 0 0)) B D m val q (k + 1)) := by
          have hN := hT.setSlot (t := k) (by rw [hls]; exact hlk) v1 0 ⟨#[]⟩ [] (e2 := .slice none 0 0) (World.ownsRow_nil _ _ _ _) (far_nil _ _ _ _ _) (nilV_own _) (fun p e => by cases e)
          refine ⟨upd vk (.tab k) (.slice none 0 0), ?_, (upd_other _ _ (by intro x; cases x)).trans (v0.trans e0.symm), (upd_other _ _ (by intro x; cases x)).trans (v1.trans e1.symm), (upd_other _ _ (by intro x; cases x)).trans v2, (upd_other _ _ (by intro x; cases x)).trans (v3.trans e3.symm)⟩
          rw [frT_gone m H0.out]; exact hN
        clear hT hr s0 s1 s2 e0 e1 e3 v0 v1 v2 v3 HC HX H0 hls
        go_wp2_with fail
        go_roundw
        case rel => exact ⟨k + 1, by omega, by go_num, HN⟩
        case measure => simp [intOf]; omega
      · have h0' : (x == 0) = false := by simp [h0]
        have HN : Hid (SetR (w.alloc (.cells #[.int .i64 0, .slice none 0 0, .slice none 0 0, .slice none 0 0, .slice none 0 0] 26)) wr B D m val q (k + 1)) := by
          refine ⟨vk, ?_, v0.trans e0.symm, v1.trans e1.symm, v2, v3.trans e3.symm⟩
          rw [frT_kept m (fun e => h0 (HX.out.trans e))]
          exact hT
        clear hT e0 e1 e3 v0 v1 v2 v3 HC HX hls
        go_wp2_with fail
        go_roundw
        case rel => exact ⟨k + 1, by omega, by go_num, HN⟩
        case measure => simp [intOf]; omega
    · have ek : k = m.slots.length := by omega
      subst ek
      have hR : wr.heap[w.heap.size]? = some (.cells #[.int .i64 0, .slice none 0 0, .slice none 0 0, .slice none 0 0, .slice none 0 0] 26) := hT.cells (World.alloc_heap_new _ _) (by omega) (nilV_own _) (HK.out.own.lt (Nat.le_refl _))
      obtain ⟨z0, z1, z2, z3, z4⟩ := five hR
      have y0 := cells_frozen hR 0
      have y1 := cells_frozen hR 1
      have y2 := cells_frozen hR 2
      have y3 := cells_frozen hR 3
      have y4 := cells_frozen hR 4
      rw [frT_end] at hT
      have hfr : ∀ a, Live (countedD m) a → (vk a).ownBlock ≠ some w.heap.size := hT.src w.heap.size (by simp) (nilV_own _) (HK.out.own.lt (Nat.le_refl _))
      have HF : Hid (DTo w wr B D m val nilV (countedD m) vk) := DTo.first ((Below.refl _ _).alloc (Nat.le_refl _) _) hB hT (fun p e => by cases e)
      clear hT HC hls
      go_wp2_with fail
      have hn : w.heap.size ≤ w.heap.size := Nat.le_refl _
      refine bodyPost_ret (v := .tuple #[.agg #[.int .i64 m.guest, .slice ra rn rc, .slice (some ⟨g, 0, none⟩) m.slots.length sc, .slice (some ⟨q, 0, none⟩) m.slots.length m.slots.length, .slice na nn nc], .int .i64 0]) (by simp [results, Try.results51, go_sem, z0, z1, z2, z3, z4]) rfl ⟨vk, ?_, ((((HF.out.setNew hB hn D1 hfr).setNew hB hn D1 hfr).setNew hB hn D1 hfr).setNew hB hn D1 hfr).setNew hB hn D1 hfr⟩
      unfold imgV
      rw [v0, v1, v2, v3]

set_option maxHeartbeats 4000000 in
theorem settled_err (m : ImgD) (E : Int) (ra : Option Addr) (rn rc : Nat) (sa : Option Addr) (sn sc : Nat) (fa : Option Addr) (fn fc : Nat) (na : Option Addr) (nn nc : Nat) (B D : Nat) (val : Nm → Value) (w : World) (hK : DK w B D val m) (e0 : val .root = .slice ra rn rc) (e1 : val .slots = .slice sa sn sc) (e2 : val .refs = .slice fa fn fc) (e3 : val .snaps = .slice na nn nc) (hE : shapeE m = E) (hne : (E != 0) = true) :
    Calls Try.prog 51 #[.pointer (some ⟨D, 0, none⟩)] w fun r w' => r = .returned (.tuple #[.agg #[.int .i64 0, nilV, nilV, nilV, nilV], .int .i64 E]) ∧ Below w.heap.size w w' := by
  have hDlt := hK.lt
  have hK1 : DK (w.alloc (.cells #[.int .i64 0, .slice none 0 0, .slice none 0 0, .slice none 0 0, .slice none 0 0] 26)) B D val m := hK.alloc _
  obtain ⟨d0, d1, d2, d3, d4⟩ := hK1.five
  rw [e0] at d1
  rw [e1] at d2
  rw [e2] at d3
  rw [e3] at d4
  have hcall := counts_err hK1.own.img hE hne
  unfold imgV at hcall
  rw [e0, e1, e2, e3] at hcall
  have mR : (w.alloc (.cells #[.int .i64 0, .slice none 0 0, .slice none 0 0, .slice none 0 0, .slice none 0 0] 26)).heap[w.heap.size]? = some (.cells #[.int .i64 0, .slice none 0 0, .slice none 0 0, .slice none 0 0, .slice none 0 0] 26) := World.alloc_heap_new _ _
  have b0 : Below w.heap.size w (w.alloc (.cells #[.int .i64 0, .slice none 0 0, .slice none 0 0, .slice none 0 0, .slice none 0 0] 26)) := (Below.refl _ _).alloc (Nat.le_refl _) _
  clear hE
  go_enter Try.func51, Try.ntmps51
  go_wp2_with (go_at_call 47; refine hcall.mono ?_; rintro e w2 ⟨rfl, hb2⟩; have hR := cells_below mR hb2 (by simp); obtain ⟨z0, z1, z2, z3, z4⟩ := five hR; have y0 := cells_frozen hR 0; have y1 := cells_frozen hR 1; have y2 := cells_frozen hR 2; have y3 := cells_frozen hR 3; have y4 := cells_frozen hR 4)
  have hb := Below.on b0 hb2
  have hn : w.heap.size ≤ w.heap.size := Nat.le_refl _
  refine bodyPost_ret (v := .tuple #[.agg #[.int .i64 0, nilV, nilV, nilV, nilV], .int .i64 E]) (by simp [results, Try.results51, go_sem, z0, z1, z2, z3, z4]) rfl ⟨rfl, ((((hb.setCell hn _).setCell hn _).setCell hn _).setCell hn _).setCell hn _⟩
theorem settled_bad {m : ImgD} {E : Int} {B D : Nat} {val : Nm → Value} {w : World} (hK : DK w B D val m) (hE : shapeE m = E) (hne : E ≠ 0) :
    Calls Try.prog 51 #[.pointer (some ⟨D, 0, none⟩)] w fun r w' => r = .returned (.tuple #[.agg #[.int .i64 0, nilV, nilV, nilV, nilV], .int .i64 E]) ∧ Below w.heap.size w w' := by
  obtain ⟨ra, rc, e0, _⟩ := hK.own.forms .root (Live.root m)
  obtain ⟨sa, sc, e1, _⟩ := hK.own.forms .slots (Live.slots m)
  obtain ⟨fa, fc, e2, _⟩ := hK.own.forms .refs (Live.refs m)
  obtain ⟨na, nc, e3, _⟩ := hK.own.forms .snaps (Live.snaps m)
  exact settled_err m E ra _ rc sa _ sc fa _ fc na _ nc B D val w hK e0 e1 e2 e3 hE (by simpa using hne)
theorem settled_ok {m : ImgD} {B D : Nat} {val : Nm → Value} {w : World} (hK : DK w B D val m) (hB : B ≤ w.heap.size) (hE : shapeE m = 0) :
    Calls Try.prog 51 #[.pointer (some ⟨D, 0, none⟩)] w fun r w' => ∃ val', r = .returned (.tuple #[imgV m.guest val', .int .i64 0]) ∧ DTo w w' B D m val nilV (countedD m) val' := by
  have h1s : 1 ≤ m.slots.length := (slotsE_parts (shapeE_zero hE).2.1).1
  obtain ⟨ra, rc, e0, _⟩ := hK.own.forms .root (Live.root m)
  obtain ⟨sa, sc, e1, hs⟩ := hK.own.forms .slots (Live.slots m)
  obtain ⟨fa, fc, e2, _⟩ := hK.own.forms .refs (Live.refs m)
  obtain ⟨na, nc, e3, _⟩ := hK.own.forms .snaps (Live.snaps m)
  obtain ⟨g, rfl⟩ := hs (by show 0 < m.slots.length; omega)
  exact settled_at m ra _ rc g sc fa _ fc na _ nc B D val w hK e0 e1 e2 e3 hB hE
end Go.Proofs.Ytehleeibgkpjmag
/- Contracts of slices.Clone: a list of one's own. -/
namespace Go.Proofs.Ytehleeibgkpjmag
open Go.RowKit Go.Shelf
set_option maxRecDepth 20000

theorem ints_mem {xs : List Int} : ∀ u ∈ ints xs, u.oneCell' = true := ints_oneCell .i64 xs
theorem sl_form1 {W : World} {v : Value} {xs : List Int} (h : Sl W v xs) : v.oneCell' = true := by obtain ⟨ao, cap, rfl, _⟩ := h; rfl
theorem flatS_mem {L : List SlotD} {tv : Nat → Value} (h : ∀ j, j < L.length → (tv j).oneCell' = true) : ∀ u ∈ flatS L tv, u.oneCell' = true := fun u hu => by
  unfold flatS at hu
  rw [List.mem_flatMap] at hu
  obtain ⟨j, hj, hu⟩ := hu
  rw [List.mem_range] at hj
  simp only [List.mem_cons, List.not_mem_nil, or_false] at hu
  rcases hu with rfl | rfl | rfl
  · rfl
  · rfl
  · exact h j hj
theorem flatN_mem {L : List SnapD} {tv : Nat → Value} (h : ∀ j, j < L.length → (tv j).oneCell' = true) : ∀ u ∈ flatN L tv, u.oneCell' = true := fun u hu => by
  unfold flatN at hu
  rw [List.mem_flatMap] at hu
  obtain ⟨j, hj, hu⟩ := hu
  rw [List.mem_range] at hj
  simp only [List.mem_cons, List.not_mem_nil, or_false] at hu
  rcases hu with rfl | rfl | rfl
  · rfl
  · rfl
  · exact h j hj
def room : Nat := 140737488355328
theorem room_is : room = 140737488355328 := rfl
theorem maxLen_of_room {n b : Nat} (hb : 0 < b) (h : n * b ≤ room) : n ≤ maxLen := by
  have := Nat.le_trans (Nat.le_mul_of_pos_right n hb) h
  rw [room_is] at this
  unfold maxLen
  omega

theorem clnI_nil (n c : Nat) (w : World) : Calls Try.prog 75 #[.slice none n c] w fun r w' => r = .returned (.slice none 0 0) ∧ w' = w := by
  have q22 : ∀ (w : World) (a : Option Addr) (n c n' c' : Nat), (binOp .eql 22 (.slice a n c) (.slice none n' c')).run Try.prog w = .ok (.bool a.isNone) w := fun w a n c n' c' => Lib.run_eql_slice_nil w _ _ a n c n' c' Try.underlying22
  go_enter Try.func75, Try.ntmps75
  go_wp2
  go_ret
  exact ⟨rfl, rfl⟩
set_option maxHeartbeats 1000000 in
theorem clnI_at (a : Addr) (n c : Nat) (news : List Value) (w : World) (hl : news.length = n * 1) (hbig : n * 8 ≤ room) (hc : ∀ j u, news[j]? = some u → w.cell? (a.add j) = some u) (h1 : ∀ u ∈ news, u.oneCell' = true) :
    Calls Try.prog 75 #[.slice (some a) n c] w fun r w' => ∃ v', r = .returned v' ∧ w'.ownsRow w.heap.size 3 1 v' n news ∧ Below w.heap.size w w' := by
  have q22 : ∀ (w : World) (a : Option Addr) (n c n' c' : Nat), (binOp .eql 22 (.slice a n c) (.slice none n' c')).run Try.prog w = .ok (.bool a.isNone) w := fun w a n c n' c' => Lib.run_eql_slice_nil w _ _ a n c n' c' Try.underlying22
  obtain ⟨i0, hi, hz0, hz1, hz2⟩ := info_parts info3
  have A : Hid ((∀ j u, news[j]? = some u → w.cell? (a.add j) = some u) ∧ news.length = n * 1 ∧ n * 8 ≤ room ∧ (∀ u ∈ news, u.oneCell' = true) ∧ Try.prog.info? 3 = some i0 ∧ i0.zero = some (.int .i64 0) ∧ i0.size = 1 ∧ i0.bytes = 8) := ⟨hc, hl, hbig, h1, hi, hz0, hz1, hz2⟩
  clear hc hl hbig h1 hi hz0 hz1 hz2
  go_enter Try.func75, Try.ntmps75
  go_wp2_with (at_builtin; refine wpList_append_own _ rfl _ _ 22 rfl w.heap.size 3 i0 (.int .i64 0) 1 8 Try.underlying22 A.out.2.2.2.2.1 A.out.2.2.2.2.2.1 A.out.2.2.2.2.2.2.1 A.out.2.2.2.2.2.2.2 rfl (by decide) _ _ _ rfl (World.ownsRow_made w #[] 0 (Nat.le_refl _) (Nat.zero_le _) (by simp)) a n c news rfl A.out.2.1 ?qc2 A.out.2.2.2.1 ?qc4 ?qc5 ?qc6 ?_)
  case qc2 =>
    intro j u hj
    exact Lib.cell?_alloc_some _ (A.out.1 j u hj)
  case qc4 => rw [Nat.zero_add]; exact maxLen_of_room (by decide) A.out.2.2.1
  case qc5 => rw [Nat.zero_add]; exact A.out.2.2.1
  case qc6 => simp
  intro v' w1 hown hgrow hnil
  have HO : Hid (w1.ownsRow w.heap.size 3 1 v' n news) := hown
  have HG : Hid (Below w.heap.size w w1) := ((Below.refl _ w).alloc (Nat.le_refl _) _).grown hgrow (by simp) (by intro k hk; simp [Value.ownBlock] at hk; omega)
  clear hown hgrow hnil
  go_wp2
  go_ret
  exact ⟨v', rfl, HO.out, HG.out⟩
theorem clone_ints {w : World} {v : Value} {xs : List Int} (h : Sl w v xs) (hb : xs.length * 8 ≤ room) :
    Calls Try.prog 75 #[v] w fun r w' => ∃ v', r = .returned v' ∧ w'.ownsRow w.heap.size 3 1 v' xs.length (ints xs) ∧ Below w.heap.size w w' := by
  obtain ⟨ao, cap, rfl, hm, hcp, hc⟩ := h
  cases ao with
  | none =>
    have hx : xs = [] := Classical.byContradiction fun hne => by obtain ⟨_, _, e, _⟩ := hc hne; cases e
    subst hx
    refine (clnI_nil _ _ w).mono ?_
    rintro e w' ⟨rfl, rfl⟩
    exact ⟨_, rfl, World.ownsRow_nil _ _ _ _, Below.refl _ _⟩
  | some a =>
    refine clnI_at a xs.length cap (ints xs) w (by rw [ints_length]; omega) hb (fun j u hu => ?_) ints_mem
    have hj : j < xs.length := by
      rcases Nat.lt_or_ge j xs.length with h | h
      · exact h
      · rw [List.getElem?_eq_none (by rw [ints_length]; exact h)] at hu; cases hu
    obtain ⟨b, off, e, _, hcell⟩ := hc (by intro e; rw [e] at hj; simp at hj)
    simp only [Option.some.injEq] at e
    subst e
    rw [addr_add, hcell j hj]
    unfold ints at hu
    rw [List.getElem?_map, List.getElem?_eq_getElem hj] at hu
    simp at hu
    simp [List.getD, hj, hu]
abbrev nilS : Value := .slice none 0 0
theorem choose_ltV {p : Nat → Value → Prop} {n : Nat} (h : ∀ i, i < n → ∃ s, p i s) : ∃ f : Nat → Value, ∀ i, i < n → p i (f i) :=
  ⟨fun i => if hi : i < n then (h i hi).choose else .slice none 0 0, fun i hi => by simp only [dif_pos hi]; exact (h i hi).choose_spec⟩

theorem clnS_nil (n c : Nat) (w : World) : Calls Try.prog 76 #[.slice none n c] w fun r w' => r = .returned (.slice none 0 0) ∧ w' = w := by
  have q22 : ∀ (w : World) (a : Option Addr) (n c n' c' : Nat), (binOp .eql 23 (.slice a n c) (.slice none n' c')).run Try.prog w = .ok (.bool a.isNone) w := fun w a n c n' c' => Lib.run_eql_slice_nil w _ _ a n c n' c' Try.underlying23
  go_enter Try.func76, Try.ntmps76
  go_wp2
  go_ret
  exact ⟨rfl, rfl⟩
set_option maxHeartbeats 1000000 in
theorem clnS_at (a : Addr) (n c : Nat) (news : List Value) (w : World) (hl : news.length = n * 3) (hbig : n * 48 ≤ room) (hc : ∀ j u, news[j]? = some u → w.cell? (a.add j) = some u) (h1 : ∀ u ∈ news, u.oneCell' = true) :
    Calls Try.prog 76 #[.slice (some a) n c] w fun r w' => ∃ v', r = .returned v' ∧ w'.ownsRow w.heap.size 60 3 v' n news ∧ Below w.heap.size w w' := by
  have q22 : ∀ (w : World) (a : Option Addr) (n c n' c' : Nat), (binOp .eql 23 (.slice a n c) (.slice none n' c')).run Try.prog w = .ok (.bool a.isNone) w := fun w a n c n' c' => Lib.run_eql_slice_nil w _ _ a n c n' c' Try.underlying23
  obtain ⟨i0, hi, hz0, hz1, hz2⟩ := info_parts infoSlot
  have A : Hid ((∀ j u, news[j]? = some u → w.cell? (a.add j) = some u) ∧ news.length = n * 3 ∧ n * 48 ≤ room ∧ (∀ u ∈ news, u.oneCell' = true) ∧ Try.prog.info? 60 = some i0 ∧ i0.zero = some (.agg #[.int .i64 0, .string ByteArray.empty, .slice none 0 0]) ∧ i0.size = 3 ∧ i0.bytes = 48) := ⟨hc, hl, hbig, h1, hi, hz0, hz1, hz2⟩
  clear hc hl hbig h1 hi hz0 hz1 hz2
  go_enter Try.func76, Try.ntmps76
  go_wp2_with (at_builtin; refine wpList_append_own _ rfl _ _ 23 rfl w.heap.size 60 i0 (.agg #[.int .i64 0, .string ByteArray.empty, .slice none 0 0]) 3 48 Try.underlying23 A.out.2.2.2.2.1 A.out.2.2.2.2.2.1 A.out.2.2.2.2.2.2.1 A.out.2.2.2.2.2.2.2 rfl (by decide) _ _ _ rfl (World.ownsRow_made w #[] 0 (Nat.le_refl _) (Nat.zero_le _) (by simp)) a n c news rfl A.out.2.1 ?qc2 A.out.2.2.2.1 ?qc4 ?qc5 ?qc6 ?_)
  case qc2 =>
    intro j u hj
    exact Lib.cell?_alloc_some _ (A.out.1 j u hj)
  case qc4 => rw [Nat.zero_add]; exact maxLen_of_room (by decide) A.out.2.2.1
  case qc5 => rw [Nat.zero_add]; exact A.out.2.2.1
  case qc6 => simp
  intro v' w1 hown hgrow hnil
  have HO : Hid (w1.ownsRow w.heap.size 60 3 v' n news) := hown
  have HG : Hid (Below w.heap.size w w1) := ((Below.refl _ w).alloc (Nat.le_refl _) _).grown hgrow (by simp) (by intro k hk; simp [Value.ownBlock] at hk; omega)
  clear hown hgrow hnil
  go_wp2
  go_ret
  exact ⟨v', rfl, HO.out, HG.out⟩
theorem clone_slots {w : World} {v : Value} {L : List SlotD} (h : Slots w v L) (hb : L.length * 48 ≤ room) :
    ∃ tv : Nat → Value, (∀ j, j < L.length → Sl w (tv j) (L.getD j default).2.2) ∧ ∀ W, Below w.heap.size w W → Calls Try.prog 76 #[v] W fun r w' => ∃ v', r = .returned v' ∧ w'.ownsRow W.heap.size 60 3 v' L.length (flatS L tv) ∧ Below W.heap.size W w' := by
  obtain ⟨ao, cap, rfl, hm, hcp, hc⟩ := h
  cases ao with
  | none =>
    have hx : L = [] := Classical.byContradiction fun hne => by obtain ⟨_, _, e, _⟩ := hc hne; cases e
    subst hx
    refine ⟨fun _ => nilS, fun j hj => absurd hj (Nat.not_lt_zero _), fun W _ => (clnS_nil _ _ W).mono ?_⟩
    rintro e w' ⟨rfl, rfl⟩
    exact ⟨_, rfl, World.ownsRow_nil _ _ _ _, Below.refl _ _⟩
  | some a =>
    have hx : ∀ j, j < L.length → ∃ tv, Sl w tv (L.getD j default).2.2 ∧ ∀ W, Below w.heap.size w W → W.cell? (a.add (j * 3)) = some (.int .i64 (L.getD j default).1) ∧ W.cell? (a.add (j * 3 + 1)) = some (.string (L.getD j default).2.1) ∧ W.cell? (a.add (j * 3 + 2)) = some tv := fun j hj => by
      obtain ⟨b, off, e, hlt, hcell⟩ := hc (by intro e; rw [e] at hj; simp at hj)
      simp only [Option.some.injEq] at e
      subst e
      obtain ⟨tv, c1, c2, c3, hs⟩ := hcell j hj
      have eg : L[j] = L.getD j default := by simp [List.getD, hj]
      rw [eg] at c1 c2 hs
      exact ⟨tv, hs, fun W hW => ⟨by rw [addr_add]; exact (hW.cell (p := ⟨b, off + j * 3, none⟩) hlt).trans c1, by rw [addr_add]; exact (hW.cell (p := ⟨b, off + j * 3 + 1, none⟩) hlt).trans c2, by rw [addr_add]; exact (hW.cell (p := ⟨b, off + j * 3 + 1 + 1, none⟩) hlt).trans c3⟩⟩
    obtain ⟨tv, htv⟩ := choose_ltV hx
    refine ⟨tv, fun j hj => (htv j hj).1, fun W hW => clnS_at a L.length cap (flatS L tv) W (flatS_length L tv) hb (fun i u hu => ?_) (flatS_mem (fun j hj => sl_form1 (htv j hj).1))⟩
    have hi : i < L.length * 3 := by
      rcases Nat.lt_or_ge i (L.length * 3) with h | h
      · exact h
      · rw [List.getElem?_eq_none (by rw [flatS_length]; exact h)] at hu; cases hu
    obtain ⟨j, r, hj, hr, rfl⟩ : ∃ j r, j < L.length ∧ r < 3 ∧ i = j * 3 + r := ⟨i / 3, i % 3, by omega, Nat.mod_lt _ (by decide), by omega⟩
    obtain ⟨g0, g1, g2⟩ := flatS_get (tv := tv) hj
    obtain ⟨c0, c1, c2⟩ := (htv j hj).2 W hW
    match r, hr with
    | 0, _ => rw [Nat.add_zero] at hu ⊢; rw [g0] at hu; cases hu; exact c0
    | 1, _ => rw [g1] at hu; cases hu; exact c1
    | 2, _ => rw [g2] at hu; cases hu; exact c2

theorem clnN_nil (n c : Nat) (w : World) : Calls Try.prog 77 #[.slice none n c] w fun r w' => r = .returned (.slice none 0 0) ∧ w' = w := by
  have q22 : ∀ (w : World) (a : Option Addr) (n c n' c' : Nat), (binOp .eql 24 (.slice a n c) (.slice none n' c')).run Try.prog w = .ok (.bool a.isNone) w := fun w a n c n' c' => Lib.run_eql_slice_nil w _ _ a n c n' c' Try.underlying24
  go_enter Try.func77, Try.ntmps77
  go_wp2
  go_ret
  exact ⟨rfl, rfl⟩
set_option maxHeartbeats 1000000 in
theorem clnN_at (a : Addr) (n c : Nat) (news : List Value) (w : World) (hl : news.length = n * 3) (hbig : n * 48 ≤ room) (hc : ∀ j u, news[j]? = some u → w.cell? (a.add j) = some u) (h1 : ∀ u ∈ news, u.oneCell' = true) :
    Calls Try.prog 77 #[.slice (some a) n c] w fun r w' => ∃ v', r = .returned v' ∧ w'.ownsRow w.heap.size 74 3 v' n news ∧ Below w.heap.size w w' := by
  have q22 : ∀ (w : World) (a : Option Addr) (n c n' c' : Nat), (binOp .eql 24 (.slice a n c) (.slice none n' c')).run Try.prog w = .ok (.bool a.isNone) w := fun w a n c n' c' => Lib.run_eql_slice_nil w _ _ a n c n' c' Try.underlying24
  obtain ⟨i0, hi, hz0, hz1, hz2⟩ := info_parts infoSnap
  have A : Hid ((∀ j u, news[j]? = some u → w.cell? (a.add j) = some u) ∧ news.length = n * 3 ∧ n * 48 ≤ room ∧ (∀ u ∈ news, u.oneCell' = true) ∧ Try.prog.info? 74 = some i0 ∧ i0.zero = some (.agg #[.string ByteArray.empty, .int .i64 0, .slice none 0 0]) ∧ i0.size = 3 ∧ i0.bytes = 48) := ⟨hc, hl, hbig, h1, hi, hz0, hz1, hz2⟩
  clear hc hl hbig h1 hi hz0 hz1 hz2
  go_enter Try.func77, Try.ntmps77
  go_wp2_with (at_builtin; refine wpList_append_own _ rfl _ _ 24 rfl w.heap.size 74 i0 (.agg #[.string ByteArray.empty, .int .i64 0, .slice none 0 0]) 3 48 Try.underlying24 A.out.2.2.2.2.1 A.out.2.2.2.2.2.1 A.out.2.2.2.2.2.2.1 A.out.2.2.2.2.2.2.2 rfl (by decide) _ _ _ rfl (World.ownsRow_made w #[] 0 (Nat.le_refl _) (Nat.zero_le _) (by simp)) a n c news rfl A.out.2.1 ?qc2 A.out.2.2.2.1 ?qc4 ?qc5 ?qc6 ?_)
  case qc2 =>
    intro j u hj
    exact Lib.cell?_alloc_some _ (A.out.1 j u hj)
  case qc4 => rw [Nat.zero_add]; exact maxLen_of_room (by decide) A.out.2.2.1
  case qc5 => rw [Nat.zero_add]; exact A.out.2.2.1
  case qc6 => simp
  intro v' w1 hown hgrow hnil
  have HO : Hid (w1.ownsRow w.heap.size 74 3 v' n news) := hown
  have HG : Hid (Below w.heap.size w w1) := ((Below.refl _ w).alloc (Nat.le_refl _) _).grown hgrow (by simp) (by intro k hk; simp [Value.ownBlock] at hk; omega)
  clear hown hgrow hnil
  go_wp2
  go_ret
  exact ⟨v', rfl, HO.out, HG.out⟩
theorem clone_snaps {w : World} {v : Value} {L : List SnapD} (h : Snaps w v L) (hb : L.length * 48 ≤ room) :
    ∃ tv : Nat → Value, (∀ j, j < L.length → Sl w (tv j) (L.getD j default).2.2) ∧ ∀ W, Below w.heap.size w W → Calls Try.prog 77 #[v] W fun r w' => ∃ v', r = .returned v' ∧ w'.ownsRow W.heap.size 74 3 v' L.length (flatN L tv) ∧ Below W.heap.size W w' := by
  obtain ⟨ao, cap, rfl, hm, hcp, hc⟩ := h
  cases ao with
  | none =>
    have hx : L = [] := Classical.byContradiction fun hne => by obtain ⟨_, _, e, _⟩ := hc hne; cases e
    subst hx
    refine ⟨fun _ => nilS, fun j hj => absurd hj (Nat.not_lt_zero _), fun W _ => (clnN_nil _ _ W).mono ?_⟩
    rintro e w' ⟨rfl, rfl⟩
    exact ⟨_, rfl, World.ownsRow_nil _ _ _ _, Below.refl _ _⟩
  | some a =>
    have hx : ∀ j, j < L.length → ∃ tv, Sl w tv (L.getD j default).2.2 ∧ ∀ W, Below w.heap.size w W → W.cell? (a.add (j * 3)) = some (.string (L.getD j default).1) ∧ W.cell? (a.add (j * 3 + 1)) = some (.int .i64 (L.getD j default).2.1) ∧ W.cell? (a.add (j * 3 + 2)) = some tv := fun j hj => by
      obtain ⟨b, off, e, hlt, hcell⟩ := hc (by intro e; rw [e] at hj; simp at hj)
      simp only [Option.some.injEq] at e
      subst e
      obtain ⟨tv, c1, c2, c3, hs⟩ := hcell j hj
      have eg : L[j] = L.getD j default := by simp [List.getD, hj]
      rw [eg] at c1 c2 hs
      exact ⟨tv, hs, fun W hW => ⟨by rw [addr_add]; exact (hW.cell (p := ⟨b, off + j * 3, none⟩) hlt).trans c1, by rw [addr_add]; exact (hW.cell (p := ⟨b, off + j * 3 + 1, none⟩) hlt).trans c2, by rw [addr_add]; exact (hW.cell (p := ⟨b, off + j * 3 + 1 + 1, none⟩) hlt).trans c3⟩⟩
    obtain ⟨tv, htv⟩ := choose_ltV hx
    refine ⟨tv, fun j hj => (htv j hj).1, fun W hW => clnN_at a L.length cap (flatN L tv) W (flatN_length L tv) hb (fun i u hu => ?_) (flatN_mem (fun j hj => sl_form1 (htv j hj).1))⟩
    have hi : i < L.length * 3 := by
      rcases Nat.lt_or_ge i (L.length * 3) with h | h
      · exact h
      · rw [List.getElem?_eq_none (by rw [flatN_length]; exact h)] at hu; cases hu
    obtain ⟨j, r, hj, hr, rfl⟩ : ∃ j r, j < L.length ∧ r < 3 ∧ i = j * 3 + r := ⟨i / 3, i % 3, by omega, Nat.mod_lt _ (by decide), by omega⟩
    obtain ⟨g0, g1, g2⟩ := flatN_get (qv := tv) hj
    obtain ⟨c0, c1, c2⟩ := (htv j hj).2 W hW
    match r, hr with
    | 0, _ => rw [Nat.add_zero] at hu ⊢; rw [g0] at hu; cases hu; exact c0
    | 1, _ => rw [g1] at hu; cases hu; exact c1
    | 2, _ => rw [g2] at hu; cases hu; exact c2
theorem row_slice {W : World} {B : Nat} {e : TypeId} {size n : Nat} {v : Value} {xs : List Value} (h : W.ownsRow B e size v n xs) : ∃ ao cap, v = .slice ao n cap := by
  rcases row_form h with ⟨rfl, rfl⟩ | ⟨g, cap, rfl, _⟩
  · exact ⟨none, 0, rfl⟩
  · exact ⟨_, cap, rfl⟩
end Go.Proofs.Ytehleeibgkpjmag
/- Contract of copied: an image of one's own. -/
namespace Go.Proofs.Ytehleeibgkpjmag
open Go.RowKit Go.Shelf
set_option maxRecDepth 20000

def liveH (k l : Nat) (a : Nm) : Prop := (a.kind < 4 ∧ a.ix = 0) ∨ (a.kind = 4 ∧ a.ix < k) ∨ (a.kind = 5 ∧ a.ix < l)
def rowH (m : ImgD) (val : Nm → Value) (tv qv : Nat → Value) (k l : Nat) (a : Nm) : List Value := match a.kind with
  | 0 => ints m.root
  | 1 => flatS m.slots (fun j => if j < k then val (.tab j) else tv j)
  | 2 => ints m.refs
  | 3 => flatN m.snaps (fun j => if j < l then val (.sr j) else qv j)
  | 4 => ints (m.slots.getD a.ix default).2.2
  | _ => ints (m.snaps.getD a.ix default).2.2
structure HC (W : World) (B : Nat) (val : Nm → Value) (m : ImgD) (tv qv : Nat → Value) (k l : Nat) : Prop where
  row : ∀ a, liveH k l a → W.ownsRow B (rowT a) (rowS a) (val a) (rowN m a) (rowH m val tv qv k l a)
  apart : ∀ a b, liveH k l a → liveH k l b → a ≠ b → ∀ g, (val a).ownBlock = some g → (val b).ownBlock ≠ some g
theorem liveH.cases {k l : Nat} {a : Nm} (h : liveH k l a) : a = .root ∨ a = .slots ∨ a = .refs ∨ a = .snaps ∨ (∃ j, a = .tab j ∧ j < k) ∨ ∃ j, a = .sr j ∧ j < l := by
  obtain ⟨x, j⟩ := a
  rcases h with ⟨h1, h2⟩ | ⟨h1, h2⟩ | ⟨h1, h2⟩
  · dsimp only at h1 h2
    subst h2
    match x, h1 with
    | 0, _ => exact .inl rfl
    | 1, _ => exact .inr (.inl rfl)
    | 2, _ => exact .inr (.inr (.inl rfl))
    | 3, _ => exact .inr (.inr (.inr (.inl rfl)))
  · dsimp only at h1 h2; subst h1; exact .inr (.inr (.inr (.inr (.inl ⟨j, rfl, h2⟩))))
  · dsimp only at h1 h2; subst h1; exact .inr (.inr (.inr (.inr (.inr ⟨j, rfl, h2⟩))))
theorem liveH.old {k l : Nat} {a : Nm} (h : liveH (k + 1) l a) (hne : a ≠ .tab k) : liveH k l a := by
  rcases h.cases with rfl | rfl | rfl | rfl | ⟨j, rfl, hj⟩ | ⟨j, rfl, hj⟩
  · exact .inl ⟨by decide, rfl⟩
  · exact .inl ⟨by decide, rfl⟩
  · exact .inl ⟨by decide, rfl⟩
  · exact .inl ⟨by decide, rfl⟩
  · refine .inr (.inl ⟨rfl, ?_⟩)
    rcases Nat.lt_or_ge j k with h | h
    · exact h
    · exact absurd (by rw [show j = k by omega]) hne
  · exact .inr (.inr ⟨rfl, hj⟩)
theorem liveH.old' {k l : Nat} {a : Nm} (h : liveH k (l + 1) a) (hne : a ≠ .sr l) : liveH k l a := by
  rcases h.cases with rfl | rfl | rfl | rfl | ⟨j, rfl, hj⟩ | ⟨j, rfl, hj⟩
  · exact .inl ⟨by decide, rfl⟩
  · exact .inl ⟨by decide, rfl⟩
  · exact .inl ⟨by decide, rfl⟩
  · exact .inl ⟨by decide, rfl⟩
  · exact .inr (.inl ⟨rfl, hj⟩)
  · refine .inr (.inr ⟨rfl, ?_⟩)
    rcases Nat.lt_or_ge j l with h | h
    · exact h
    · exact absurd (by rw [show j = l by omega]) hne
theorem HC.below {W W' : World} {B : Nat} {val : Nm → Value} {m : ImgD} {tv qv : Nat → Value} {k l : Nat} (h : HC W B val m tv qv k l) (hb : Below W.heap.size W W') : HC W' B val m tv qv k l := by
  refine ⟨fun a ha => ?_, h.apart⟩
  have hr := h.row a ha
  refine ⟨hr.1, ?_⟩
  rcases hr.2 with hn | ⟨g, cap, cur, hv, hb', hg, rest⟩
  · exact .inl hn
  · exact .inr ⟨g, cap, cur, hv, hb', (hb.block g (Array.getElem?_eq_some_iff.1 hg).1).trans hg, rest⟩
theorem HC.far {W : World} {B : Nat} {val : Nm → Value} {m : ImgD} {tv qv : Nat → Value} {k l : Nat} (h : HC W B val m tv qv k l) {g i : Nat} {u : Value} (hg : g < B) : HC (W.setCell ⟨g, i, none⟩ u) B val m tv qv k l :=
  ⟨fun a ha => ownsRow_setCell_other (h.row a ha) (fun e => by have := ((h.row a ha).lt g e).1; omega) u, h.apart⟩
theorem HC.done {W : World} {B : Nat} {val : Nm → Value} {m : ImgD} {tv qv : Nat → Value} (h : HC W B val m tv qv m.slots.length m.snaps.length) : OI W B val m := by
  refine ⟨fun a ha => ?_, fun a b ha hb => h.apart a b ha hb⟩
  have e : rowH m val tv qv m.slots.length m.snaps.length a = rowV m val a := by
    rcases ha.cases with rfl | rfl | rfl | rfl | ⟨j, rfl, hj⟩ | ⟨j, rfl, hj⟩ <;> first | rfl | skip
    · show flatS _ _ = flatS _ _
      unfold flatS
      refine congrArg List.flatten (List.map_congr_left fun j hj => ?_)
      dsimp only
      rw [if_pos (List.mem_range.1 hj)]
    · show flatN _ _ = flatN _ _
      unfold flatN
      refine congrArg List.flatten (List.map_congr_left fun j hj => ?_)
      dsimp only
      rw [if_pos (List.mem_range.1 hj)]
  rw [← e]
  exact h.row a ha
theorem flatN_ext {L : List SnapD} {tv tv' : Nat → Value} (h : ∀ j, j < L.length → tv' j = tv j) : flatN L tv' = flatN L tv := by
  unfold flatN
  refine congrArg List.flatten (List.map_congr_left fun j hj => ?_)
  rw [h j (List.mem_range.1 hj)]
theorem flatS_put {L : List SlotD} {tv tv' : Nat → Value} {t : Nat} (htv : ∀ j, j ≠ t → tv' j = tv j) : flatS L tv' = (flatS L tv).set (t * 3 + 2) (tv' t) := by
  apply List.ext_getElem?
  intro i
  have hlen := flatS_length L tv
  rcases Nat.lt_or_ge i (L.length * 3) with hi | hi
  · obtain ⟨j, r, hj, hr, rfl⟩ : ∃ j r, j < L.length ∧ r < 3 ∧ i = j * 3 + r := ⟨i / 3, i % 3, by omega, Nat.mod_lt _ (by decide), by omega⟩
    obtain ⟨a0, a1, a2⟩ := flatS_get (L := L) (tv := tv') hj
    obtain ⟨b0, b1, b2⟩ := flatS_get (L := L) (tv := tv) hj
    by_cases e : t = j
    · subst e
      match r, hr with
      | 0, _ => rw [Nat.add_zero, a0, List.getElem?_set_ne (by omega), b0]
      | 1, _ => rw [a1, List.getElem?_set_ne (by omega), b1]
      | 2, _ => rw [a2, List.getElem?_set_self (by rw [hlen]; omega)]
    · rw [htv j (fun x => e x.symm)] at a2
      rw [List.getElem?_set_ne (by omega)]
      match r, hr with
      | 0, _ => rw [Nat.add_zero, a0, b0]
      | 1, _ => rw [a1, b1]
      | 2, _ => rw [a2, b2]
  · rw [List.getElem?_eq_none (by rw [flatS_length]; exact hi), List.getElem?_eq_none (by rw [List.length_set, flatS_length]; exact hi)]
theorem flatN_put {L : List SnapD} {tv tv' : Nat → Value} {t : Nat} (htv : ∀ j, j ≠ t → tv' j = tv j) : flatN L tv' = (flatN L tv).set (t * 3 + 2) (tv' t) := by
  apply List.ext_getElem?
  intro i
  have hlen := flatN_length L tv
  rcases Nat.lt_or_ge i (L.length * 3) with hi | hi
  · obtain ⟨j, r, hj, hr, rfl⟩ : ∃ j r, j < L.length ∧ r < 3 ∧ i = j * 3 + r := ⟨i / 3, i % 3, by omega, Nat.mod_lt _ (by decide), by omega⟩
    obtain ⟨a0, a1, a2⟩ := flatN_get (S := L) (qv := tv') hj
    obtain ⟨b0, b1, b2⟩ := flatN_get (S := L) (qv := tv) hj
    by_cases e : t = j
    · subst e
      match r, hr with
      | 0, _ => rw [Nat.add_zero, a0, List.getElem?_set_ne (by omega), b0]
      | 1, _ => rw [a1, List.getElem?_set_ne (by omega), b1]
      | 2, _ => rw [a2, List.getElem?_set_self (by rw [hlen]; omega)]
    · rw [htv j (fun x => e x.symm)] at a2
      rw [List.getElem?_set_ne (by omega)]
      match r, hr with
      | 0, _ => rw [Nat.add_zero, a0, b0]
      | 1, _ => rw [a1, b1]
      | 2, _ => rw [a2, b2]
  · rw [List.getElem?_eq_none (by rw [flatN_length]; exact hi), List.getElem?_eq_none (by rw [List.length_set, flatN_length]; exact hi)]
theorem HC.tab {W : World} {B : Nat} {val : Nm → Value} {m : ImgD} {tv qv : Nat → Value} {k l : Nat} (h : HC W B val m tv qv k l) {g n cap : Nat} (hv : val .slots = .slice (some ⟨g, 0, none⟩) n cap) {v : Value} (hr : W.ownsRow B 3 1 v (m.slots.getD k default).2.2.length (ints (m.slots.getD k default).2.2)) (hf : ∀ a, liveH k l a → ∀ q, v.ownBlock = some q → (val a).ownBlock ≠ some q) :
    HC (W.setCell ⟨g, k * 3 + 2, none⟩ v) B (upd val (.tab k) v) m tv qv (k + 1) l := by
  have hsl : liveH k l .slots := .inl ⟨by decide, rfl⟩
  have hvg : v.ownBlock ≠ some g := fun e => hf .slots hsl g e (by rw [hv]; rfl)
  have hnn : n = m.slots.length := by
    rcases row_form (h.row .slots hsl) with ⟨e, _⟩ | ⟨g', cap', e, _⟩
    · rw [hv] at e; simp at e
    · rw [hv] at e; simp at e; exact e.2.1
  refine ⟨fun a ha => ?_, fun a b ha hb hne q hq => ?_⟩
  · by_cases e : a = .tab k
    · subst e
      rw [upd_same]
      exact ownsRow_setCell_other hr hvg v
    · have ha' := ha.old e
      rw [upd_other _ _ e]
      by_cases es : a = .slots
      · subst es
        have hrs := h.row .slots hsl
        have e1 : rowH m (upd val (.tab k) v) tv qv (k + 1) l .slots = (rowH m val tv qv k l .slots).set (k * 3 + 2) v := by
          have := flatS_put (L := m.slots) (tv := fun j => if j < k then val (.tab j) else tv j) (tv' := fun j => if j < k + 1 then upd val (.tab k) v (.tab j) else tv j) (t := k) (fun j hj => by
            by_cases h1 : j < k
            · rw [if_pos (by omega), if_pos h1, upd_other _ _ (by intro x; injection x with _ x; omega)]
            · rw [if_neg (by omega), if_neg h1])
          rw [if_pos (by omega), upd_same] at this
          exact this
        rw [e1]
        have hN : rowN m .slots = n := hnn.symm
        rw [hN, hv] at hrs ⊢
        exact (hrs.stored (k * 3 + 2) v).1
      · have e1 : rowH m (upd val (.tab k) v) tv qv (k + 1) l a = rowH m val tv qv k l a := by
          rcases ha'.cases with rfl | rfl | rfl | rfl | ⟨j, rfl, hj⟩ | ⟨j, rfl, hj⟩ <;> first | rfl | exact absurd rfl es
        rw [e1]
        exact ownsRow_setCell_other (h.row a ha') (h.apart .slots a hsl ha' (fun x => es x.symm) g (by rw [hv]; rfl)) v
  · by_cases e : a = .tab k
    · subst e
      rw [upd_same] at hq
      rw [upd_other _ _ (fun x => hne x.symm)]
      exact hf b (hb.old (fun x => hne x.symm)) q hq
    · rw [upd_other _ _ e] at hq
      by_cases e2 : b = .tab k
      · subst e2; rw [upd_same]; exact fun x => hf a (ha.old e) q x hq
      · rw [upd_other _ _ e2]; exact h.apart a b (ha.old e) (hb.old e2) hne q hq
theorem HC.sr {W : World} {B : Nat} {val : Nm → Value} {m : ImgD} {tv qv : Nat → Value} {k l : Nat} (h : HC W B val m tv qv k l) {g n cap : Nat} (hv : val .snaps = .slice (some ⟨g, 0, none⟩) n cap) {v : Value} (hr : W.ownsRow B 3 1 v (m.snaps.getD l default).2.2.length (ints (m.snaps.getD l default).2.2)) (hf : ∀ a, liveH k l a → ∀ q, v.ownBlock = some q → (val a).ownBlock ≠ some q) :
    HC (W.setCell ⟨g, l * 3 + 2, none⟩ v) B (upd val (.sr l) v) m tv qv k (l + 1) := by
  have hsl : liveH k l .snaps := .inl ⟨by decide, rfl⟩
  have hvg : v.ownBlock ≠ some g := fun e => hf .snaps hsl g e (by rw [hv]; rfl)
  have hnn : n = m.snaps.length := by
    rcases row_form (h.row .snaps hsl) with ⟨e, _⟩ | ⟨g', cap', e, _⟩
    · rw [hv] at e; simp at e
    · rw [hv] at e; simp at e; exact e.2.1
  refine ⟨fun a ha => ?_, fun a b ha hb hne q hq => ?_⟩
  · by_cases e : a = .sr l
    · subst e
      rw [upd_same]
      exact ownsRow_setCell_other hr hvg v
    · have ha' := ha.old' e
      rw [upd_other _ _ e]
      by_cases es : a = .snaps
      · subst es
        have hrs := h.row .snaps hsl
        have e1 : rowH m (upd val (.sr l) v) tv qv k (l + 1) .snaps = (rowH m val tv qv k l .snaps).set (l * 3 + 2) v := by
          have := flatN_put (L := m.snaps) (tv := fun j => if j < l then val (.sr j) else qv j) (tv' := fun j => if j < l + 1 then upd val (.sr l) v (.sr j) else qv j) (t := l) (fun j hj => by
            by_cases h1 : j < l
            · rw [if_pos (by omega), if_pos h1, upd_other _ _ (by intro x; injection x with _ x; omega)]
            · rw [if_neg (by omega), if_neg h1])
          rw [if_pos (by omega), upd_same] at this
          exact this
        rw [e1]
        have hN : rowN m .snaps = n := hnn.symm
        rw [hN, hv] at hrs ⊢
        exact (hrs.stored (l * 3 + 2) v).1
      · have e1 : rowH m (upd val (.sr l) v) tv qv k (l + 1) a = rowH m val tv qv k l a := by
          rcases ha'.cases with rfl | rfl | rfl | rfl | ⟨j, rfl, hj⟩ | ⟨j, rfl, hj⟩ <;> first | rfl | exact absurd rfl es
        rw [e1]
        exact ownsRow_setCell_other (h.row a ha') (h.apart .snaps a hsl ha' (fun x => es x.symm) g (by rw [hv]; rfl)) v
  · by_cases e : a = .sr l
    · subst e
      rw [upd_same] at hq
      rw [upd_other _ _ (fun x => hne x.symm)]
      exact hf b (hb.old' (fun x => hne x.symm)) q hq
    · rw [upd_other _ _ e] at hq
      by_cases e2 : b = .sr l
      · subst e2; rw [upd_same]; exact fun x => hf a (ha.old' e) q x hq
      · rw [upd_other _ _ e2]; exact h.apart a b (ha.old' e) (hb.old' e2) hne q hq
structure Fits (m : ImgD) : Prop where
  root : m.root.length * 8 ≤ room
  slots : m.slots.length * 48 ≤ room
  refs : m.refs.length * 8 ≤ room
  snaps : m.snaps.length * 48 ≤ room
  tab : ∀ j, j < m.slots.length → (m.slots.getD j default).2.2.length * 8 ≤ room
  sr : ∀ j, j < m.snaps.length → (m.snaps.getD j default).2.2.length * 8 ≤ room
def val4 (vr vs vf vn : Value) : Nm → Value := fun a => if a.kind = 0 then vr else if a.kind = 1 then vs else if a.kind = 2 then vf else vn
theorem HC.start {W : World} {B : Nat} {m : ImgD} {tv qv : Nat → Value} {vr vs vf vn : Value} (h0 : W.ownsRow B 3 1 vr m.root.length (ints m.root)) (h1 : W.ownsRow B 60 3 vs m.slots.length (flatS m.slots tv)) (h2 : W.ownsRow B 3 1 vf m.refs.length (ints m.refs)) (h3 : W.ownsRow B 74 3 vn m.snaps.length (flatN m.snaps qv))
    (a01 : ∀ q, vs.ownBlock = some q → vr.ownBlock ≠ some q) (a02 : ∀ q, vf.ownBlock = some q → vr.ownBlock ≠ some q) (a03 : ∀ q, vn.ownBlock = some q → vr.ownBlock ≠ some q) (a12 : ∀ q, vs.ownBlock = some q → vf.ownBlock ≠ some q) (a13 : ∀ q, vn.ownBlock = some q → vs.ownBlock ≠ some q) (a23 : ∀ q, vn.ownBlock = some q → vf.ownBlock ≠ some q) : HC W B (val4 vr vs vf vn) m tv qv 0 0 := by
  refine ⟨fun a ha => ?_, fun a b ha hb hne q hq => ?_⟩
  · rcases ha.cases with rfl | rfl | rfl | rfl | ⟨j, rfl, hj⟩ | ⟨j, rfl, hj⟩
    · exact h0
    · exact h1
    · exact h2
    · exact h3
    · exact absurd hj (Nat.not_lt_zero _)
    · exact absurd hj (Nat.not_lt_zero _)
  · rcases ha.cases with rfl | rfl | rfl | rfl | ⟨j, rfl, hj⟩ | ⟨j, rfl, hj⟩
    · rcases hb.cases with rfl | rfl | rfl | rfl | ⟨j, rfl, hj⟩ | ⟨j, rfl, hj⟩
      · exact absurd rfl hne
      · exact fun x => a01 q x hq
      · exact fun x => a02 q x hq
      · exact fun x => a03 q x hq
      · exact absurd hj (Nat.not_lt_zero _)
      · exact absurd hj (Nat.not_lt_zero _)
    · rcases hb.cases with rfl | rfl | rfl | rfl | ⟨j, rfl, hj⟩ | ⟨j, rfl, hj⟩
      · exact a01 q hq
      · exact absurd rfl hne
      · exact a12 q hq
      · exact fun x => a13 q x hq
      · exact absurd hj (Nat.not_lt_zero _)
      · exact absurd hj (Nat.not_lt_zero _)
    · rcases hb.cases with rfl | rfl | rfl | rfl | ⟨j, rfl, hj⟩ | ⟨j, rfl, hj⟩
      · exact a02 q hq
      · exact fun x => a12 q x hq
      · exact absurd rfl hne
      · exact fun x => a23 q x hq
      · exact absurd hj (Nat.not_lt_zero _)
      · exact absurd hj (Nat.not_lt_zero _)
    · rcases hb.cases with rfl | rfl | rfl | rfl | ⟨j, rfl, hj⟩ | ⟨j, rfl, hj⟩
      · exact a03 q hq
      · exact a13 q hq
      · exact a23 q hq
      · exact absurd rfl hne
      · exact absurd hj (Nat.not_lt_zero _)
      · exact absurd hj (Nat.not_lt_zero _)
    · exact absurd hj (Nat.not_lt_zero _)
    · exact absurd hj (Nat.not_lt_zero _)
end Go.Proofs.Ytehleeibgkpjmag
/- Contract of copied: the walk. -/
namespace Go.Proofs.Ytehleeibgkpjmag
open Go.RowKit Go.Shelf
set_option maxRecDepth 20000

def Cp1 (w : World) (m : ImgD) (sa : Option Addr) (sn sc : Nat) (na : Option Addr) (nn nc : Nat) (wx : World) : Prop := ∃ qa qc ka kc, wx.heap[w.heap.size]? = some (.cells #[.int .i64 m.guest, .slice qa m.root.length qc, .slice sa sn sc, .slice ka m.refs.length kc, .slice na nn nc] 26) ∧ wx.heap[w.heap.size + 1]? = some (.cells #[.int .i64 0, .slice none 0 0, .slice none 0 0, .slice none 0 0, .slice none 0 0] 26) ∧ Below w.heap.size w wx ∧ wx.ownsRow (w.heap.size + 2) 3 1 (.slice qa m.root.length qc) m.root.length (ints m.root) ∧ wx.ownsRow (w.heap.size + 2) 3 1 (.slice ka m.refs.length kc) m.refs.length (ints m.refs) ∧ ∀ q, (Value.slice ka m.refs.length kc).ownBlock = some q → (Value.slice qa m.root.length qc).ownBlock ≠ some q
def Cp2 (w : World) (m : ImgD) (tv qv : Nat → Value) (wx : World) : Prop := ∃ qa qc pa pc ka kc ja jc, wx.heap[w.heap.size]? = some (.cells #[.int .i64 m.guest, .slice qa m.root.length qc, .slice pa m.slots.length pc, .slice ka m.refs.length kc, .slice ja m.snaps.length jc] 26) ∧ wx.heap[w.heap.size + 1]? = some (.cells #[.int .i64 0, .slice none 0 0, .slice none 0 0, .slice none 0 0, .slice none 0 0] 26) ∧ Below w.heap.size w wx ∧ HC wx (w.heap.size + 2) (val4 (.slice qa m.root.length qc) (.slice pa m.slots.length pc) (.slice ka m.refs.length kc) (.slice ja m.snaps.length jc)) m tv qv 0 0
theorem row_apart {W W' : World} {B B' n n' size size' : Nat} {e e' : TypeId} {v v' : Value} {xs xs' : List Value} (h : W.ownsRow B e size v n xs) (h' : W'.ownsRow B' e' size' v' n' xs') (hB : W.heap.size ≤ B') : ∀ q, v'.ownBlock = some q → v.ownBlock ≠ some q := fun q e x => by
  have h1 := (h.lt q x).2
  have h2 := (h'.lt q e).1
  omega
theorem row_keep {W W' : World} {B n size : Nat} {e : TypeId} {v : Value} {xs : List Value} (h : W.ownsRow B e size v n xs) (hb : Below W.heap.size W W') : W'.ownsRow B e size v n xs := by
  refine ⟨h.1, ?_⟩
  rcases h.2 with hn | ⟨g, cap, cur, hv, hb', hg, rest⟩
  · exact .inl hn
  · exact .inr ⟨g, cap, cur, hv, hb', (hb.block g (Array.getElem?_eq_some_iff.1 hg).1).trans hg, rest⟩
theorem row_mono {W : World} {B B' n size : Nat} {e : TypeId} {v : Value} {xs : List Value} (h : W.ownsRow B e size v n xs) (hB : B' ≤ B) : W.ownsRow B' e size v n xs := by
  refine ⟨h.1, ?_⟩
  rcases h.2 with hn | ⟨g, cap, cur, hv, hb', rest⟩
  · exact .inl hn
  · exact .inr ⟨g, cap, cur, hv, Nat.le_trans hB hb', rest⟩

theorem OI.mono {W : World} {B B' : Nat} {val : Nm → Value} {m : ImgD} (h : OI W B val m) (hB : B' ≤ B) : OI W B' val m := ⟨fun a ha => row_mono (h.row a ha) hB, h.apart⟩
structure CpR (w wr : World) (m : ImgD) (tv qv : Nat → Value) (va vb vc vd : Value) (k l : Nat) : Prop where
  own : ∃ val, HC wr (w.heap.size + 2) val m tv qv k l ∧ val .root = va ∧ val .slots = vb ∧ val .refs = vc ∧ val .snaps = vd
  box : wr.heap[w.heap.size]? = some (.cells #[.int .i64 m.guest, va, vb, vc, vd] 26)
  res : wr.heap[w.heap.size + 1]? = some (.cells #[.int .i64 0, .slice none 0 0, .slice none 0 0, .slice none 0 0, .slice none 0 0] 26)
  bel : Below w.heap.size w wr
theorem CpR.below {w wr wr' : World} {m : ImgD} {tv qv : Nat → Value} {va vb vc vd : Value} {k l : Nat} (h : CpR w wr m tv qv va vb vc vd k l) (hb : Below wr.heap.size wr wr') : CpR w wr' m tv qv va vb vc vd k l := by
  obtain ⟨⟨val, hH, e⟩, h1, h2, h3⟩ := h
  exact ⟨⟨val, hH.below hb, e⟩, cells_below h1 hb (Array.getElem?_eq_some_iff.1 h1).1, cells_below h2 hb (Array.getElem?_eq_some_iff.1 h2).1, Below.on h3 hb⟩
theorem CpR.tab {w wr wr' : World} {m : ImgD} {tv qv : Nat → Value} {va vc vd v : Value} {k l g n cap : Nat} (h : CpR w wr m tv qv va (.slice (some ⟨g, 0, none⟩) n cap) vc vd k l) (hb : Below wr.heap.size wr wr') (hr : wr'.ownsRow wr.heap.size 3 1 v (m.slots.getD k default).2.2.length (ints (m.slots.getD k default).2.2)) : CpR w (wr'.setCell ⟨g, k * 3 + 2, none⟩ v) m tv qv va (.slice (some ⟨g, 0, none⟩) n cap) vc vd (k + 1) l := by
  have hk := h.below hb
  obtain ⟨⟨val, hH, e0, e1, e2, e3⟩, h1, h2, h3⟩ := h
  obtain ⟨_, k1, k2, k3⟩ := hk
  have hg := (hH.row .slots (.inl ⟨by decide, rfl⟩)).lt g (by rw [e1]; rfl)
  have hsz : w.heap.size + 2 ≤ wr.heap.size := (Array.getElem?_eq_some_iff.1 h2).1
  refine ⟨⟨upd val (.tab k) v, (hH.below hb).tab e1 (row_mono hr hsz) (fun a ha q hq x => ?_), (upd_other _ _ (by intro x; cases x)).trans e0, (upd_other _ _ (by intro x; cases x)).trans e1, (upd_other _ _ (by intro x; cases x)).trans e2, (upd_other _ _ (by intro x; cases x)).trans e3⟩, cells_other k1 (by omega) _ _, cells_other k2 (by omega) _ _, k3.setCell (by show _ ≤ g; omega) _⟩
  have x1 := ((hH.row a ha).lt q x).2
  have x2 := (hr.lt q hq).1
  omega
theorem CpR.sr {w wr wr' : World} {m : ImgD} {tv qv : Nat → Value} {va vb vc v : Value} {k l g n cap : Nat} (h : CpR w wr m tv qv va vb vc (.slice (some ⟨g, 0, none⟩) n cap) k l) (hb : Below wr.heap.size wr wr') (hr : wr'.ownsRow wr.heap.size 3 1 v (m.snaps.getD l default).2.2.length (ints (m.snaps.getD l default).2.2)) : CpR w (wr'.setCell ⟨g, l * 3 + 2, none⟩ v) m tv qv va vb vc (.slice (some ⟨g, 0, none⟩) n cap) k (l + 1) := by
  have hk := h.below hb
  obtain ⟨⟨val, hH, e0, e1, e2, e3⟩, h1, h2, h3⟩ := h
  obtain ⟨_, k1, k2, k3⟩ := hk
  have hg := (hH.row .snaps (.inl ⟨by decide, rfl⟩)).lt g (by rw [e3]; rfl)
  have hsz : w.heap.size + 2 ≤ wr.heap.size := (Array.getElem?_eq_some_iff.1 h2).1
  refine ⟨⟨upd val (.sr l) v, (hH.below hb).sr e3 (row_mono hr hsz) (fun a ha q hq x => ?_), (upd_other _ _ (by intro x; cases x)).trans e0, (upd_other _ _ (by intro x; cases x)).trans e1, (upd_other _ _ (by intro x; cases x)).trans e2, (upd_other _ _ (by intro x; cases x)).trans e3⟩, cells_other k1 (by omega) _ _, cells_other k2 (by omega) _ _, k3.setCell (by show _ ≤ g; omega) _⟩
  have x1 := ((hH.row a ha).lt q x).2
  have x2 := (hr.lt q hq).1
  omega

set_option maxHeartbeats 4000000 in
theorem copied_at (m : ImgD) (ra : Option Addr) (rn rc : Nat) (sa : Option Addr) (sn sc : Nat) (fa : Option Addr) (fn fc : Nat) (na : Option Addr) (nn nc : Nat) (w : World) (h0 : Sl w (.slice ra rn rc) m.root) (h1 : Slots w (.slice sa sn sc) m.slots) (h2 : Sl w (.slice fa fn fc) m.refs) (h3 : Snaps w (.slice na nn nc) m.snaps) (hF : Fits m) :
    Calls Try.prog 50 #[.agg #[.int .i64 m.guest, .slice ra rn rc, .slice sa sn sc, .slice fa fn fc, .slice na nn nc]] w fun r w' => ∃ val, r = .returned (imgV m.guest val) ∧ OI w' w.heap.size val m ∧ Below w.heap.size w w' := by
  have m0 : ((w.alloc (.cells #[.int .i64 m.guest, .slice ra rn rc, .slice sa sn sc, .slice fa fn fc, .slice na nn nc] 26)).alloc (.cells #[.int .i64 0, .slice none 0 0, .slice none 0 0, .slice none 0 0, .slice none 0 0] 26)).heap[w.heap.size]? = some (.cells #[.int .i64 m.guest, .slice ra rn rc, .slice sa sn sc, .slice fa fn fc, .slice na nn nc] 26) := cells_alloc (World.alloc_heap_new _ _) _
  have mz : ((w.alloc (.cells #[.int .i64 m.guest, .slice ra rn rc, .slice sa sn sc, .slice fa fn fc, .slice na nn nc] 26)).alloc (.cells #[.int .i64 0, .slice none 0 0, .slice none 0 0, .slice none 0 0, .slice none 0 0] 26)).heap[w.heap.size + 1]? = some (.cells #[.int .i64 0, .slice none 0 0, .slice none 0 0, .slice none 0 0, .slice none 0 0] 26) := by have := World.alloc_heap_new (w.alloc (.cells #[.int .i64 m.guest, .slice ra rn rc, .slice sa sn sc, .slice fa fn fc, .slice na nn nc] 26)) (.cells #[.int .i64 0, .slice none 0 0, .slice none 0 0, .slice none 0 0, .slice none 0 0] 26); simpa using this
  obtain ⟨c0, c1, c2, c3, c4⟩ := five m0
  have b0 : Below w.heap.size w ((w.alloc (.cells #[.int .i64 m.guest, .slice ra rn rc, .slice sa sn sc, .slice fa fn fc, .slice na nn nc] 26)).alloc (.cells #[.int .i64 0, .slice none 0 0, .slice none 0 0, .slice none 0 0, .slice none 0 0] 26)) := ((Below.refl _ _).alloc (Nat.le_refl _) _).alloc (by simp) _
  obtain ⟨W0, hW0⟩ : ∃ W0, ((w.alloc (.cells #[.int .i64 m.guest, .slice ra rn rc, .slice sa sn sc, .slice fa fn fc, .slice na nn nc] 26)).alloc (.cells #[.int .i64 0, .slice none 0 0, .slice none 0 0, .slice none 0 0, .slice none 0 0] 26)) = W0 := ⟨_, rfl⟩
  go_enter Try.func50, Try.ntmps50
  go_upto_region 1 with fail
  rw [hW0] at m0 mz c0 c1 c2 c3 c4 b0
  have hz0 : w.heap.size + 2 ≤ W0.heap.size := by rw [← hW0]; simp
  clear hW0
  go_cut [] from 7 (fun wx => Cp1 w m sa sn sc na nn nc wx)
  case first =>
    go_region_with
      (first
        | (go_at_call 75; refine (clone_ints (h0.below (to_drew b0)) hF.root).mono ?_; rintro e w1 ⟨vr, rfl, hr0, bb1⟩; have bb1 := below_drew bb1; have m1 := cells_below m0 bb1 (by omega); have mz1 := cells_below mz bb1 (by omega); obtain ⟨d0, d1, d2, d3, d4⟩ := five m1; obtain ⟨qa, qc, rfl⟩ := row_slice hr0)
        | (go_at_call 75; refine (clone_ints ((h2.below b0).below bb1) hF.refs).mono ?_; rintro e w2 ⟨vf, rfl, hr2, bb2⟩; have m2 := cells_below m1 bb2 (Array.getElem?_eq_some_iff.1 m1).1; have mz2 := cells_below mz1 bb2 (Array.getElem?_eq_some_iff.1 mz1).1; obtain ⟨g0, g1, g2, g3, g4⟩ := five m2; have f1 := cells_frozen m2 1; have f3 := cells_frozen m2 3; obtain ⟨ka, kc, rfl⟩ := row_slice hr2))
    all_goals
      go_wp2_with fail
      go_meet
      have hz1 : w.heap.size + 2 ≤ w1.heap.size := Nat.le_trans hz0 bb1.size
      have hr0' : W0.heap.size = W0.drew.heap.size := rfl
      have hr0a := hr0
      have hr0 := row_mono (row_keep hr0 bb2) (B' := w.heap.size + 2) (by rw [← hr0']; exact hz0)
      have hr2' := row_mono hr2 (B' := w.heap.size + 2) hz1
      refine ⟨qa, qc, ka, kc, ?_, cells_other (cells_other mz2 (by omega) _ _) (by omega) _ _, ((Below.on b0 (Below.on bb1 bb2)).setCell (Nat.le_refl _) _).setCell (Nat.le_refl _) _, ownsRow_setCell_below (ownsRow_setCell_below hr0 (show w.heap.size < w.heap.size + 2 by omega) _) (show w.heap.size < w.heap.size + 2 by omega) _, ownsRow_setCell_below (ownsRow_setCell_below hr2' (show w.heap.size < w.heap.size + 2 by omega) _) (show w.heap.size < w.heap.size + 2 by omega) _, ?_⟩
      · exact cells_set (cells_set m2 1 _) 3 _
      · exact row_apart hr0a hr2 (Nat.le_refl _)
  case rest =>
  obtain ⟨qa, qc, ka, kc, m1, mz1, b1, hr0, hr2, ap⟩ := hcut
  obtain ⟨d0, d1, d2, d3, d4⟩ := five m1
  have hN1 : w.heap.size + 2 ≤ wc.heap.size := (Array.getElem?_eq_some_iff.1 mz1).1
  obtain ⟨tv, htv, hcs⟩ := clone_slots h1 hF.slots
  obtain ⟨qv, hqv, hcn⟩ := clone_snaps h3 hF.snaps
  clear h0 h2 m0 mz c0 c1 c2 c3 c4 b0 hz0
  go_upto_region 2 with fail
  go_cut [] from 15 (fun wx => Cp2 w m tv qv wx)
  case first =>
    go_region_with
      (first
        | (go_at_call 76; refine (hcs _ (to_drew b1)).mono ?_; rintro e w1 ⟨vr, rfl, hr1, bb1⟩; have bb1 := below_drew bb1; have m2 := cells_below m1 bb1 (by omega); have mz2 := cells_below mz1 bb1 (by omega); obtain ⟨g0, g1, g2, g3, g4⟩ := five m2; obtain ⟨pa, pc, rfl⟩ := row_slice hr1)
        | (go_at_call 77; refine (hcn _ (Below.on b1 bb1)).mono ?_; rintro e w2 ⟨vf, rfl, hr3, bb2⟩; have m3 := cells_below m2 bb2 (Array.getElem?_eq_some_iff.1 m2).1; have mz3 := cells_below mz2 bb2 (Array.getElem?_eq_some_iff.1 mz2).1; obtain ⟨i0, i1, i2, i3, i4⟩ := five m3; have f2 := cells_frozen m3 2; have f4 := cells_frozen m3 4; obtain ⟨ja, jc, rfl⟩ := row_slice hr3))
    all_goals
      go_wp2_with fail
      go_meet
      have hz1 : w.heap.size + 2 ≤ w1.heap.size := Nat.le_trans hN1 bb1.size
      have hdz : wc.heap.size = wc.drew.heap.size := rfl
      have bb12 := Below.on bb1 bb2
      have r1' := row_mono (row_keep hr1 bb2) (B' := w.heap.size + 2) (by rw [← hdz]; exact hN1)
      have r3' := row_mono hr3 (B' := w.heap.size + 2) hz1
      have r0' := row_keep hr0 bb12
      have r2' := row_keep hr2 bb12
      have hset : ∀ {B n size : Nat} {e : TypeId} {v : Value} {xs : List Value} {u u' : Value}, w2.ownsRow B e size v n xs → w.heap.size < B → ((w2.setCell ⟨w.heap.size, 2, none⟩ u).setCell ⟨w.heap.size, 4, none⟩ u').ownsRow B e size v n xs := fun h hB => ownsRow_setCell_below (ownsRow_setCell_below h hB _) hB _
      have hbz : Below w.heap.size w ((w2.setCell ⟨w.heap.size, 2, none⟩ (.slice pa m.slots.length pc)).setCell ⟨w.heap.size, 4, none⟩ (.slice ja m.snaps.length jc)) := ((Below.on b1 bb12).setCell (Nat.le_refl _) _).setCell (Nat.le_refl _) _
      have hlt : w.heap.size < w.heap.size + 2 := by omega
      have r0a := row_keep hr0 bb1
      have r2a := row_keep hr2 bb1
      refine ⟨qa, qc, pa, pc, ka, kc, ja, jc, ?_, cells_other (cells_other mz3 (by omega) _ _) (by omega) _ _, hbz, HC.start (hset r0' hlt) (hset r1' hlt) (hset r2' hlt) (hset r3' hlt) (row_apart hr0 hr1 (Nat.le_refl _)) ap (row_apart r0a hr3 (Nat.le_refl _)) (row_apart hr2 hr1 (Nat.le_refl _)) (row_apart hr1 hr3 (Nat.le_refl _)) (row_apart r2a hr3 (Nat.le_refl _))⟩
      exact cells_set (cells_set m3 2 _) 4 _
  case rest =>
  obtain ⟨qa, qc, pa, pc, ka, kc, ja, jc, m2, mz2, b2, hH⟩ := hcut
  have HS : Hid (CpR w wc m tv qv (.slice qa m.root.length qc) (.slice pa m.slots.length pc) (.slice ka m.refs.length kc) (.slice ja m.snaps.length jc) 0 0) := ⟨⟨_, hH, rfl, rfl, rfl, rfl⟩, m2, mz2, b2⟩
  have HT : Hid (∀ j, j < m.slots.length → Sl w (tv j) (m.slots.getD j default).2.2) := htv
  have HQ : Hid (∀ j, j < m.snaps.length → Sl w (qv j) (m.snaps.getD j default).2.2) := hqv
  have HL : Hid (m.slots.length ≤ 9223372036854775807 ∧ m.snaps.length ≤ 9223372036854775807) := ⟨h1.small, h3.small⟩
  obtain ⟨e0, e1, e2, e3, e4⟩ := five m2
  clear hH m2 mz2 b2 htv hqv hcs hcn h1 h3 d0 d1 d2 d3 d4 m1 mz1 b1 hr0 hr2 ap hN1
  go_wp2_with fail
  clear e0 e1 e2 e3 e4
  go_loopw [26] (fun i wr => ∃ k : Nat, k ≤ m.slots.length ∧ i = .int .i64 k ∧ Hid (CpR w wr m tv qv (.slice qa m.root.length qc) (.slice pa m.slots.length pc) (.slice ka m.refs.length kc) (.slice ja m.snaps.length jc) k 0)) (fun i _ => m.slots.length - (intOf i).toNat)
  case atStart => exact ⟨0, Nat.zero_le _, rfl, HS⟩
  case round =>
    obtain ⟨k, hk, rfl, HC⟩ := hrel
    by_cases hlk : k < m.slots.length
    · obtain ⟨g, rfl⟩ : ∃ g, pa = some ⟨g, 0, none⟩ := by
        obtain ⟨⟨val, hH, _, e1, _⟩, _⟩ := HC.out
        have hr := hH.row .slots (.inl ⟨by decide, rfl⟩)
        rw [e1] at hr
        rcases row_form hr with ⟨e, hn⟩ | ⟨g, cap, e, _⟩
        · have hn : m.slots.length = 0 := hn
          omega
        · simp at e; exact ⟨g, e.1⟩
      obtain ⟨s, hs⟩ : ∃ s, s = m.slots.getD k default := ⟨_, rfl⟩
      obtain ⟨kk, dd, tt⟩ := s
      have hSl := HT.out k hlk
      obtain ⟨ta, tc, htv⟩ := hSl.form
      have HSl : Hid (Sl w (.slice ta tt.length tc) tt ∧ tv k = .slice ta tt.length tc) := by rw [← hs] at hSl htv; exact ⟨htv ▸ hSl, htv⟩
      have HK : Hid ((kk, dd, tt) = m.slots.getD k default) := hs
      clear hs hSl htv
      have hki : (k : Int) < (m.slots.length : Int) := by omega
      have hL := HL.out.1
      have hL1 : (k : Int) + 1 ≤ 9223372036854775807 := by omega
      obtain ⟨⟨val, hH, _, e1, _⟩, hbox, hres, hbel⟩ := HC.out
      have hr := hH.row .slots (.inl ⟨by decide, rfl⟩)
      rw [e1] at hr
      have hr : wr.ownsRow (w.heap.size + 2) 60 3 (.slice (some ⟨g, 0, none⟩) m.slots.length pc) m.slots.length (flatS m.slots (fun j => if j < k then val (.tab j) else tv j)) := hr
      have hgl := hr.lt g rfl
      obtain ⟨s0, s1, s2⟩ := flatS_get (L := m.slots) (tv := fun j => if j < k then val (.tab j) else tv j) (j := k) hlk
      rw [← HK.out] at s0 s1
      rw [if_neg (Nat.lt_irrefl k), HSl.out.2] at s2
      have t0 : wr.cell? ⟨g, k * 3, none⟩ = some (.int .i64 kk) := (hr.cellAt (k * 3) (by omega)).trans s0
      have t1 : wr.cell? ⟨g, k * 3 + 1, none⟩ = some (.string dd) := (hr.cellAt (k * 3 + 1) (by omega)).trans s1
      have t2 : wr.cell? ⟨g, k * 3 + 2, none⟩ = some (.slice ta tt.length tc) := (hr.cellAt (k * 3 + 2) (by omega)).trans s2
      have hA := Below.heap_alloc wr (.cells #[.int .i64 kk, .string dd, .slice ta tt.length tc] 60)
      have ba : Below wr.heap.size wr (wr.alloc (.cells #[.int .i64 kk, .string dd, .slice ta tt.length tc] 60)) := (Below.refl _ _).alloc (Nat.le_refl _) _
      have hNr : w.heap.size + 2 ≤ wr.heap.size := (Array.getElem?_eq_some_iff.1 hres).1
      obtain ⟨x0, x1, x2, x3, x4⟩ := five (cells_below hbox ba (by omega))
      have ms : (wr.alloc (.cells #[.int .i64 kk, .string dd, .slice ta tt.length tc] 60)).heap[wr.heap.size]? = some (.cells #[.int .i64 kk, .string dd, .slice ta tt.length tc] 60) := World.alloc_heap_new _ _
      obtain ⟨y0, y1, y2⟩ := three ms
      have hcl := clone_ints (w := (wr.alloc (.cells #[.int .i64 kk, .string dd, .slice ta tt.length tc] 60)).drew) ((HSl.out.1.below hbel).below (to_drew ba)) (by have := hF.tab k hlk; rw [← HK.out] at this; exact this)
      clear hA hH e1 hbox hres hbel hr s0 s1 s2
      go_wp2_with fail
      go_region_with (first | (go_at_call 75; refine hcl.mono ?_; rintro e w1 ⟨vt, rfl, hrt, bt⟩; have bt := below_drew bt; have bw := Below.on ba bt; have hN := HC.out.below bw; obtain ⟨z0, z1, z2, z3, z4⟩ := five hN.box; have HRT : Hid (w1.ownsRow wr.heap.size 3 1 vt tt.length (ints tt)) := row_mono hrt (by show _ ≤ (wr.alloc _).heap.size; simp); obtain ⟨oa, oc, rfl⟩ := row_slice hrt; have q2 := (bw.cell (p := ⟨g, k * 3 + 2, none⟩) hgl.2).trans t2; have qf : w1.frozen? ⟨g, k * 3 + 2, none⟩ = false := by (obtain ⟨⟨val, hH, _, e1, _⟩, _⟩ := hN; have hr := hH.row .slots (.inl ⟨by decide, rfl⟩); rw [e1] at hr; exact hr.frozenAt _)))
      all_goals
        have HN : Hid (CpR w (w1.setCell ⟨g, k * 3 + 2, none⟩ (.slice oa tt.length oc)) m tv qv (.slice qa m.root.length qc) (.slice (some ⟨g, 0, none⟩) m.slots.length pc) (.slice ka m.refs.length kc) (.slice ja m.snaps.length jc) (k + 1) 0) := HC.out.tab bw (by rw [← HK.out]; exact HRT.out)
        go_wp2_with fail
        go_roundw
        case rel => exact ⟨k + 1, by omega, by go_num, HN⟩
        case measure => simp [intOf]; omega
    · have ek : k = m.slots.length := by omega
      subst ek
      obtain ⟨x, hrn⟩ : ∃ X, X = wr := ⟨_, rfl⟩
      subst hrn
      obtain ⟨y0, y1, y2, y3, y4⟩ := five HC.out.box
      go_wp2_with fail
      clear y0 y1 y2 y3 y4
      go_loopw [43] (fun i wr => ∃ l : Nat, l ≤ m.snaps.length ∧ i = .int .i64 l ∧ Hid (CpR w wr m tv qv (.slice qa m.root.length qc) (.slice pa m.slots.length pc) (.slice ka m.refs.length kc) (.slice ja m.snaps.length jc) m.slots.length l)) (fun i _ => m.snaps.length - (intOf i).toNat)
      case atStart => exact ⟨0, Nat.zero_le _, rfl, HC⟩
      case round =>
        obtain ⟨l, hl, rfl, HD⟩ := hrel
        by_cases hll : l < m.snaps.length
        · obtain ⟨g, rfl⟩ : ∃ g, ja = some ⟨g, 0, none⟩ := by
            obtain ⟨⟨val, hH, _, _, _, e3⟩, _⟩ := HD.out
            have hr := hH.row .snaps (.inl ⟨by decide, rfl⟩)
            rw [e3] at hr
            rcases row_form hr with ⟨e, hn⟩ | ⟨g, cap, e, _⟩
            · have hn : m.snaps.length = 0 := hn
              omega
            · simp at e; exact ⟨g, e.1⟩
          obtain ⟨s, hs⟩ : ∃ s, s = m.snaps.getD l default := ⟨_, rfl⟩
          obtain ⟨nm, sg, tt⟩ := s
          have hSl := HQ.out l hll
          obtain ⟨ta, tc, htv⟩ := hSl.form
          have HSl : Hid (Sl w (.slice ta tt.length tc) tt ∧ qv l = .slice ta tt.length tc) := by rw [← hs] at hSl htv; exact ⟨htv ▸ hSl, htv⟩
          have HK : Hid ((nm, sg, tt) = m.snaps.getD l default) := hs
          clear hs hSl htv
          have hki : (l : Int) < (m.snaps.length : Int) := by omega
          have hL := HL.out.2
          have hL1 : (l : Int) + 1 ≤ 9223372036854775807 := by omega
          obtain ⟨⟨val, hH, _, _, _, e3⟩, hbox, hres, hbel⟩ := HD.out
          have hr := hH.row .snaps (.inl ⟨by decide, rfl⟩)
          rw [e3] at hr
          have hr : wr.ownsRow (w.heap.size + 2) 74 3 (.slice (some ⟨g, 0, none⟩) m.snaps.length jc) m.snaps.length (flatN m.snaps (fun j => if j < l then val (.sr j) else qv j)) := hr
          have hgl := hr.lt g rfl
          obtain ⟨s0, s1, s2⟩ := flatN_get (S := m.snaps) (qv := fun j => if j < l then val (.sr j) else qv j) (j := l) hll
          rw [← HK.out] at s0 s1
          rw [if_neg (Nat.lt_irrefl l), HSl.out.2] at s2
          have t0 : wr.cell? ⟨g, l * 3, none⟩ = some (.string nm) := (hr.cellAt (l * 3) (by omega)).trans s0
          have t1 : wr.cell? ⟨g, l * 3 + 1, none⟩ = some (.int .i64 sg) := (hr.cellAt (l * 3 + 1) (by omega)).trans s1
          have t2 : wr.cell? ⟨g, l * 3 + 2, none⟩ = some (.slice ta tt.length tc) := (hr.cellAt (l * 3 + 2) (by omega)).trans s2
          have ba : Below wr.heap.size wr (wr.alloc (.cells #[.string nm, .int .i64 sg, .slice ta tt.length tc] 74)) := (Below.refl _ _).alloc (Nat.le_refl _) _
          have hNr : w.heap.size + 2 ≤ wr.heap.size := (Array.getElem?_eq_some_iff.1 hres).1
          obtain ⟨x0, x1, x2, x3, x4⟩ := five (cells_below hbox ba (by omega))
          have ms : (wr.alloc (.cells #[.string nm, .int .i64 sg, .slice ta tt.length tc] 74)).heap[wr.heap.size]? = some (.cells #[.string nm, .int .i64 sg, .slice ta tt.length tc] 74) := World.alloc_heap_new _ _
          obtain ⟨y0, y1, y2⟩ := three ms
          have hcl := clone_ints (w := (wr.alloc (.cells #[.string nm, .int .i64 sg, .slice ta tt.length tc] 74)).drew) ((HSl.out.1.below hbel).below (to_drew ba)) (by have := hF.sr l hll; rw [← HK.out] at this; exact this)
          clear hH e3 hbox hres hbel hr s0 s1 s2
          go_wp2_with fail
          go_region_with (first | (go_at_call 75; refine hcl.mono ?_; rintro e w1 ⟨vt, rfl, hrt, bt⟩; have bt := below_drew bt; have bw := Below.on ba bt; have hN := HD.out.below bw; obtain ⟨z0, z1, z2, z3, z4⟩ := five hN.box; have HRT : Hid (w1.ownsRow wr.heap.size 3 1 vt tt.length (ints tt)) := row_mono hrt (by show _ ≤ (wr.alloc _).heap.size; simp); obtain ⟨oa, oc, rfl⟩ := row_slice hrt; have q2 := (bw.cell (p := ⟨g, l * 3 + 2, none⟩) hgl.2).trans t2; have qf : w1.frozen? ⟨g, l * 3 + 2, none⟩ = false := by (obtain ⟨⟨val, hH, _, _, _, e3⟩, _⟩ := hN; have hr := hH.row .snaps (.inl ⟨by decide, rfl⟩); rw [e3] at hr; exact hr.frozenAt _)))
          all_goals
            have HN : Hid (CpR w (w1.setCell ⟨g, l * 3 + 2, none⟩ (.slice oa tt.length oc)) m tv qv (.slice qa m.root.length qc) (.slice pa m.slots.length pc) (.slice ka m.refs.length kc) (.slice (some ⟨g, 0, none⟩) m.snaps.length jc) m.slots.length (l + 1)) := HD.out.sr bw (by rw [← HK.out]; exact HRT.out)
            go_wp2_with fail
            go_roundw
            case rel => exact ⟨l + 1, by omega, by go_num, HN⟩
            case measure => simp [intOf]; omega
        · have el : l = m.snaps.length := by omega
          subst el
          obtain ⟨⟨val, hH, e0, e1, e2, e3⟩, hbox, hres, hbel⟩ := HD.out
          obtain ⟨x0, x1, x2, x3, x4⟩ := five hbox
          obtain ⟨z0, z1, z2, z3, z4⟩ := five hres
          have y0 := cells_frozen hres 0
          have y1 := cells_frozen hres 1
          have y2 := cells_frozen hres 2
          have y3 := cells_frozen hres 3
          have y4 := cells_frozen hres 4
          have HF : Hid (OI wr (w.heap.size + 2) val m) := hH.done
          clear hH
          go_wp2_with fail
          have hf : ∀ a, Live m a → (val a).ownBlock ≠ some (w.heap.size + 1) := fun a ha e => by have := ((HF.out.row a ha).lt _ e).1; omega
          have hB1 : w.heap.size ≤ w.heap.size + 1 := Nat.le_succ _
          refine bodyPost_ret (v := .agg #[.int .i64 m.guest, .slice qa m.root.length qc, .slice pa m.slots.length pc, .slice ka m.refs.length kc, .slice ja m.snaps.length jc]) (by simp [results, Try.results50, go_sem, z0, z1, z2, z3, z4]) rfl ⟨val, ?_, OI.mono (((((HF.out.far hf).far hf).far hf).far hf).far hf) (by omega), ((((hbel.setCell hB1 _).setCell hB1 _).setCell hB1 _).setCell hB1 _).setCell hB1 _⟩
          unfold imgV
          rw [e0, e1, e2, e3]
theorem copied_is {w : World} {v : Value} {m : ImgD} (h : Img w v m) (hF : Fits m) :
    Calls Try.prog 50 #[v] w fun r w' => ∃ val, r = .returned (imgV m.guest val) ∧ OI w' w.heap.size val m ∧ Below w.heap.size w w' := by
  obtain ⟨ra, rc, sa, sc, fa, fc, na, nc, rfl, h1, h2, h3, h4⟩ := h.parts
  exact copied_at m ra _ rc sa _ sc fa _ fc na _ nc w h1 h2 h3 h4 hF
end Go.Proofs.Ytehleeibgkpjmag
