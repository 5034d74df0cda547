/- Texts joined: DeskI, WrQ, SnP, SnT, ShelfC, SnF, SnG, SnV, OwA, OxI. -/
import Derived.Test.YtehleeibgkpjmadSnapsTellsJ4
import Derived.Shelf.Strings.Builder1
import Derived.Shelf.Strings.Builder2
import Derived.Shelf.Small.Strs
import Derived.Shelf.Strings.BuilderF
import Derived.Shelf.Strings.Prefix
import Derived.Shelf.Bits.Mul64
import Derived.Shelf.Strings.Repeat
import Derived.Test.YtehleeibgkpjmadProg
import Derived.Test.YtehleeibgkpjmadSnapsTellsJ1
import Derived.Deep.RegionLaw
import Derived.Deep.CutRange
/- The desk: five cells, and an image's own rows. What stays, and what turns. -/
namespace Go.Proofs.Ytehleeibgkpjmad
open Go.RowKit Go.Shelf
set_option maxRecDepth 20000

theorem Img.four {w : World} {m : ImgD} {a b c d e : Value} (h : Img w (.agg #[a, b, c, d, e]) m) : Sl w b m.root ∧ Slots w c m.slots ∧ Sl w d m.refs ∧ Snaps w e m.snaps := by
  obtain ⟨_, _, _, _, e, h1, h2, h3, h4⟩ := h
  simp only [Value.agg.injEq, Array.mk.injEq, List.cons.injEq, and_true] at e
  obtain ⟨_, rfl, rfl, rfl, rfl⟩ := e
  exact ⟨h1, h2, h3, h4⟩
structure DK (W : World) (B D : Nat) (val : Nm → Value) (m : ImgD) : Prop where
  own : OI W B val m
  box : W.heap[D]? = some (.cells #[.int .i64 m.guest, val .root, val .slots, val .refs, val .snaps] 57)
  ge : B ≤ D
  far : ∀ a, Live m a → (val a).ownBlock ≠ some D
theorem DK.lt {W : World} {B D : Nat} {val : Nm → Value} {m : ImgD} (h : DK W B D val m) : D < W.heap.size := (Array.getElem?_eq_some_iff.1 h.box).1
theorem DK.below {W W' : World} {B D : Nat} {val : Nm → Value} {m : ImgD} (h : DK W B D val m) (hb : Below W.heap.size W W') : DK W' B D val m := ⟨h.own.below hb, (hb.block D h.lt).trans h.box, h.ge, h.far⟩
theorem DK.drew {W : World} {B D : Nat} {val : Nm → Value} {m : ImgD} (h : DK W B D val m) : DK W.drew B D val m := ⟨h.own.drew, h.box, h.ge, h.far⟩
theorem DK.alloc {W : World} {B D : Nat} {val : Nm → Value} {m : ImgD} (h : DK W B D val m) (o : Obj) : DK (W.alloc o) B D val m := h.below ((Below.refl _ _).alloc (Nat.le_refl _) o)

structure DTo (w w' : World) (B D : Nat) (m : ImgD) (val : Nm → Value) (ev : Value) (m' : ImgD) (val' : Nm → Value) : Prop where
  dk : DK w' B D val' m'
  bel : Below B w w'
  keep : ∀ q, q < w.heap.size → q ≠ D → ev.ownBlock ≠ some q → (∀ a, Live m a → (val a).ownBlock ≠ some q) → w'.heap[q]? = w.heap[q]?
  src : ∀ q, q < w.heap.size → ev.ownBlock ≠ some q → (∀ b, Live m b → (val b).ownBlock ≠ some q) → ∀ a, Live m' a → (val' a).ownBlock ≠ some q
abbrev nilV : Value := .slice none 0 0
theorem nilV_own (q : Nat) : nilV.ownBlock ≠ some q := by intro e; cases e

theorem DTo.refl {w : World} {B D : Nat} {m : ImgD} {val : Nm → Value} (h : DK w B D val m) (ev : Value) : DTo w w B D m val ev m val := ⟨h, Below.refl _ _, fun _ _ _ _ _ => rfl, fun _ _ _ hm => hm⟩
theorem DTo.trans {w w1 w2 : World} {B D : Nat} {m m1 m2 : ImgD} {val val1 val2 : Nm → Value} {ev ev' : Value} (h : DTo w w1 B D m val ev m1 val1) (k : DTo w1 w2 B D m1 val1 ev' m2 val2) (he : ∀ q, ev'.ownBlock = some q → ev.ownBlock = some q ∨ w.heap.size ≤ q ∨ ∃ a, Live m a ∧ (val a).ownBlock = some q) : DTo w w2 B D m val ev m2 val2 := by
  have hx : ∀ q, q < w.heap.size → ev.ownBlock ≠ some q → (∀ b, Live m b → (val b).ownBlock ≠ some q) → ev'.ownBlock ≠ some q := fun q hq hev hm e => by
    rcases he q e with x | x | ⟨a, ha, x⟩
    · exact hev x
    · omega
    · exact hm a ha x
  refine ⟨k.dk, h.bel.trans k.bel, fun q hq hD hev hm => ?_, fun q hq hev hm => ?_⟩
  · exact (k.keep q (Nat.lt_of_lt_of_le hq h.bel.size) hD (hx q hq hev hm) (h.src q hq hev hm)).trans (h.keep q hq hD hev hm)
  · exact k.src q (Nat.lt_of_lt_of_le hq h.bel.size) (hx q hq hev hm) (h.src q hq hev hm)
theorem DTo.andThen {w w1 w2 : World} {B D : Nat} {m m1 m2 : ImgD} {val val1 val2 : Nm → Value} (h : DTo w w1 B D m val nilV m1 val1) (k : DTo w1 w2 B D m1 val1 nilV m2 val2) : DTo w w2 B D m val nilV m2 val2 :=
  h.trans k (fun q e => by cases e)
theorem DTo.first {w w1 w2 : World} {B D : Nat} {m m1 : ImgD} {val val1 : Nm → Value} {ev : Value} (hb : Below w.heap.size w w1) (hB : B ≤ w.heap.size) (h : DTo w1 w2 B D m val ev m1 val1) (he : ∀ q, ev.ownBlock = some q → w.heap.size ≤ q) : DTo w w2 B D m val nilV m1 val1 :=
  ⟨h.dk, (hb.mono hB).trans h.bel, fun q hq hD _ hm => (h.keep q (Nat.lt_of_lt_of_le hq hb.size) hD (fun e => by have := he q e; omega) hm).trans (hb.block q hq), fun q hq _ hm => h.src q (Nat.lt_of_lt_of_le hq hb.size) (fun e => by have := he q e; omega) hm⟩
theorem DTo.below {w w1 w2 : World} {B D : Nat} {m m1 : ImgD} {val val1 : Nm → Value} {ev : Value} (h : DTo w w1 B D m val ev m1 val1) (hB : B ≤ w.heap.size) (hb : Below w1.heap.size w1 w2) : DTo w w2 B D m val ev m1 val1 :=
  ⟨h.dk.below hb, h.bel.trans (hb.mono (Nat.le_trans hB h.bel.size)), fun q hq hD hev hm => (hb.block q (Nat.lt_of_lt_of_le hq h.bel.size)).trans (h.keep q hq hD hev hm), h.src⟩
theorem DTo.drew {w w1 : World} {B D : Nat} {m m1 : ImgD} {val val1 : Nm → Value} {ev : Value} (h : DTo w w1 B D m val ev m1 val1) : DTo w w1.drew B D m val ev m1 val1 := ⟨h.dk.drew, h.bel.drew, h.keep, h.src⟩
theorem DTo.alloc {w w1 : World} {B D : Nat} {m m1 : ImgD} {val val1 : Nm → Value} {ev : Value} (h : DTo w w1 B D m val ev m1 val1) (hB : B ≤ w.heap.size) (o : Obj) : DTo w (w1.alloc o) B D m val ev m1 val1 := h.below hB ((Below.refl _ _).alloc (Nat.le_refl _) o)
theorem DK.setFar {W : World} {B D : Nat} {val : Nm → Value} {m : ImgD} (h : DK W B D val m) {g i : Nat} {u : Value} (hD : D ≠ g) (hg : ∀ a, Live m a → (val a).ownBlock ≠ some g) : DK (W.setCell ⟨g, i, none⟩ u) B D val m := ⟨h.own.far hg, cells_other h.box hD _ _, h.ge, h.far⟩
theorem DTo.setNew {w w1 : World} {B D : Nat} {m m1 : ImgD} {val val1 : Nm → Value} {ev : Value} (h : DTo w w1 B D m val ev m1 val1) (hB : B ≤ w.heap.size) {g i : Nat} {u : Value} (hg : w.heap.size ≤ g) (hD : D ≠ g) (hf : ∀ a, Live m1 a → (val1 a).ownBlock ≠ some g) : DTo w (w1.setCell ⟨g, i, none⟩ u) B D m val ev m1 val1 :=
  ⟨h.dk.setFar hD hf, h.bel.setCell (Nat.le_trans hB hg) _, fun q hq hqD hev hm => (Below.heap_setCell w1 ⟨g, i, none⟩ u q (fun e => by have e : q = g := e; omega)).trans (h.keep q hq hqD hev hm), h.src⟩
theorem DTo.cells {w w1 : World} {B D : Nat} {m m1 : ImgD} {val val1 : Nm → Value} {ev : Value} (h : DTo w w1 B D m val ev m1 val1) {q : Nat} {A : Array Value} {t : TypeId} (hq : w.heap[q]? = some (.cells A t)) (hD : q ≠ D) (hev : ev.ownBlock ≠ some q) (hm : ∀ a, Live m a → (val a).ownBlock ≠ some q) : w1.heap[q]? = some (.cells A t) :=
  (h.keep q (Array.getElem?_eq_some_iff.1 hq).1 hD hev hm).trans hq


theorem DK.five {W : World} {B D : Nat} {val : Nm → Value} {m : ImgD} (h : DK W B D val m) : W.cell? ⟨D, 0, none⟩ = some (.int .i64 m.guest) ∧ W.cell? ⟨D, 1, none⟩ = some (val .root) ∧ W.cell? ⟨D, 2, none⟩ = some (val .slots) ∧ W.cell? ⟨D, 3, none⟩ = some (val .refs) ∧ W.cell? ⟨D, 4, none⟩ = some (val .snaps) := Go.Proofs.Ytehleeibgkpjmad.five h.box
theorem DK.frozen {W : World} {B D : Nat} {val : Nm → Value} {m : ImgD} (h : DK W B D val m) (i : Nat) : W.frozen? ⟨D, i, none⟩ = false := cells_frozen h.box i
theorem DK.swapRefs {W : World} {B D : Nat} {val : Nm → Value} {m : ImgD} (h : DK W B D val m) {v : Value} {r : List Int} (hv : W.ownsRow B 3 1 v r.length (ints r)) (hfar : Far m val .refs v) (hD : v.ownBlock ≠ some D) : DK (W.setCell ⟨D, 3, none⟩ v) B D (upd val .refs v) { m with refs := r } := by
  have hf : ∀ a, Live m a → (upd val .refs v a).ownBlock ≠ some D := fun a ha => by
    by_cases e : a = .refs
    · subst e; rw [upd_same]; exact hD
    · rw [upd_other _ _ e]; exact h.far a ha
  refine ⟨(h.own.swapRefs hv hfar).far hf, ?_, h.ge, hf⟩
  have := cells_set h.box 3 v
  rw [upd_same, upd_other _ _ (by intro x; cases x), upd_other _ _ (by intro x; cases x), upd_other _ _ (by intro x; cases x)]
  exact this
theorem DK.swapRoot {W : World} {B D : Nat} {val : Nm → Value} {m : ImgD} (h : DK W B D val m) {v : Value} {r : List Int} (hv : W.ownsRow B 3 1 v r.length (ints r)) (hfar : Far m val .root v) (hD : v.ownBlock ≠ some D) : DK (W.setCell ⟨D, 1, none⟩ v) B D (upd val .root v) { m with root := r } := by
  have hf : ∀ a, Live m a → (upd val .root v a).ownBlock ≠ some D := fun a ha => by
    by_cases e : a = .root
    · subst e; rw [upd_same]; exact hD
    · rw [upd_other _ _ e]; exact h.far a ha
  refine ⟨(h.own.swapRoot hv hfar m.guest).far hf, ?_, h.ge, hf⟩
  have := cells_set h.box 1 v
  rw [upd_same, upd_other _ _ (by intro x; cases x), upd_other _ _ (by intro x; cases x), upd_other _ _ (by intro x; cases x)]
  exact this
theorem OI.reguest {W : World} {B : Nat} {val : Nm → Value} {m : ImgD} (h : OI W B val m) (g : Int) : OI W B val { m with guest := g } := ⟨fun a ha => h.row a ha, fun a b ha hb => h.apart a b ha hb⟩
theorem DK.setGuest {W : World} {B D : Nat} {val : Nm → Value} {m : ImgD} (h : DK W B D val m) (g : Int) : DK (W.setCell ⟨D, 0, none⟩ (.int .i64 g)) B D val { m with guest := g } :=
  ⟨(h.own.reguest g).far h.far, cells_set h.box 0 _, h.ge, h.far⟩

theorem DTo.setDesk {w w1 : World} {B D : Nat} {m m1 m2 : ImgD} {val val1 val2 : Nm → Value} {ev : Value} (h : DTo w w1 B D m val ev m1 val1) {i : Nat} {u : Value} (hdk : DK (w1.setCell ⟨D, i, none⟩ u) B D val2 m2) (hs : ∀ q, ev.ownBlock ≠ some q → (∀ b, Live m1 b → (val1 b).ownBlock ≠ some q) → q < w.heap.size → ∀ b, Live m2 b → (val2 b).ownBlock ≠ some q) : DTo w (w1.setCell ⟨D, i, none⟩ u) B D m val ev m2 val2 :=
  ⟨hdk, h.bel.setCell h.dk.ge _, fun q hq hD hev hm => (Below.heap_setCell w1 ⟨D, i, none⟩ u q hD).trans (h.keep q hq hD hev hm), fun q hq hev hm => hs q hev (h.src q hq hev hm) hq⟩
theorem DTo.setGuest {w w1 : World} {B D : Nat} {m m1 : ImgD} {val val1 : Nm → Value} {ev : Value} (h : DTo w w1 B D m val ev m1 val1) (x : Int) : DTo w (w1.setCell ⟨D, 0, none⟩ (.int .i64 x)) B D m val ev { m1 with guest := x } val1 :=
  h.setDesk (h.dk.setGuest x) (fun _ _ hm _ => hm)
theorem upd_src {m1 m2 : ImgD} {val1 : Nm → Value} {ev v : Value} {a : Nm} {n : Nat} (hl : ∀ b, Live m2 b → b ≠ a → Live m1 b) (hv : ∀ q, v.ownBlock = some q → ev.ownBlock = some q ∨ n ≤ q) : ∀ q, ev.ownBlock ≠ some q → (∀ b, Live m1 b → (val1 b).ownBlock ≠ some q) → q < n → ∀ b, Live m2 b → (upd val1 a v b).ownBlock ≠ some q := fun q hev hm hq b hb => by
  by_cases e : b = a
  · subst e
    rw [upd_same]
    intro x
    rcases hv q x with y | y
    · exact hev y
    · omega
  · rw [upd_other _ _ e]; exact hm b (hl b hb e)
theorem DTo.swapRoot {w w1 : World} {B D : Nat} {m m1 : ImgD} {val val1 : Nm → Value} {ev : Value} (h : DTo w w1 B D m val ev m1 val1) {v : Value} {r : List Int} (hv : w1.ownsRow B 3 1 v r.length (ints r)) (hfar : Far m1 val1 .root v) (hD : v.ownBlock ≠ some D) (hs : ∀ q, v.ownBlock = some q → ev.ownBlock = some q ∨ w.heap.size ≤ q) : DTo w (w1.setCell ⟨D, 1, none⟩ v) B D m val ev { m1 with root := r } (upd val1 .root v) :=
  h.setDesk (h.dk.swapRoot hv hfar hD) (upd_src (fun _ hb _ => hb) hs)
theorem DTo.swapRefs {w w1 : World} {B D : Nat} {m m1 : ImgD} {val val1 : Nm → Value} {ev : Value} (h : DTo w w1 B D m val ev m1 val1) {v : Value} {r : List Int} (hv : w1.ownsRow B 3 1 v r.length (ints r)) (hfar : Far m1 val1 .refs v) (hD : v.ownBlock ≠ some D) (hs : ∀ q, v.ownBlock = some q → ev.ownBlock = some q ∨ w.heap.size ≤ q) : DTo w (w1.setCell ⟨D, 3, none⟩ v) B D m val ev { m1 with refs := r } (upd val1 .refs v) :=
  h.setDesk (h.dk.swapRefs hv hfar hD) (upd_src (fun _ hb _ => hb) hs)
theorem DTo.setSlot {w w1 : World} {B D : Nat} {m m1 : ImgD} {val val1 : Nm → Value} {ev : Value} (h : DTo w w1 B D m val ev m1 val1) {t : Nat} (ht : t < m1.slots.length) {g n cap : Nat} (hv : val1 .slots = .slice (some ⟨g, 0, none⟩) n cap) (k : Int) (d : ByteArray) (es : List Int) {e2 : Value}
    (hev : w1.ownsRow B 3 1 e2 es.length (ints es)) (hfar : Far m1 val1 (.tab t) e2) (hD : e2.ownBlock ≠ some D) (hs : ∀ q, e2.ownBlock = some q → ev.ownBlock = some q ∨ w.heap.size ≤ q) :
    DTo w (((w1.setCell ⟨g, t * 3, none⟩ (.int .i64 k)).setCell ⟨g, t * 3 + 1, none⟩ (.string d)).setCell ⟨g, t * 3 + 2, none⟩ e2) B D m val ev { m1 with slots := m1.slots.set t (k, d, es) } (upd val1 (.tab t) e2) := by
  have hDg : D ≠ g := fun e => h.dk.far .slots (Live.slots m1) (by rw [hv, e]; rfl)
  have hg := ((h.dk.own.row .slots (Live.slots m1)).lt g (by rw [hv]; rfl)).1
  have hl : ∀ b, Live { m1 with slots := m1.slots.set t (k, d, es) } b → Live m1 b := fun b hb => (live_iff (m := m1) (m' := { m1 with slots := m1.slots.set t (k, d, es) }) List.length_set rfl b).1 hb
  have hu : ∀ q, ev.ownBlock ≠ some q → (∀ b, Live m1 b → (val1 b).ownBlock ≠ some q) → q < w.heap.size → ∀ b, Live { m1 with slots := m1.slots.set t (k, d, es) } b → (upd val1 (.tab t) e2 b).ownBlock ≠ some q := upd_src (fun b hb _ => hl b hb) hs
  refine ⟨⟨h.dk.own.setSlot ht hv k d es hev hfar, ?_, h.dk.ge, fun a ha => ?_⟩, ((h.bel.setCell hg _).setCell hg _).setCell hg _, fun q hq hqD hev' hm => ?_, fun q hq hev' hm => hu q hev' (h.src q hq hev' hm) hq⟩
  · rw [upd_other _ _ (by intro x; cases x), upd_other _ _ (by intro x; cases x), upd_other _ _ (by intro x; cases x), upd_other _ _ (by intro x; cases x)]
    exact cells_other (cells_other (cells_other h.dk.box hDg _ _) hDg _ _) hDg _ _
  · by_cases e : a = .tab t
    · subst e; rw [upd_same]; exact hD
    · rw [upd_other _ _ e]; exact h.dk.far a (hl a ha)
  · have hqg : q ≠ g := fun e => h.src q hq hev' hm .slots (Live.slots m1) (by rw [hv]; exact congrArg some e.symm)
    exact (cells_other (cells_other (cells_other rfl hqg _ _) hqg _ _) hqg _ _).trans (h.keep q hq hqD hev' hm)
def AnsI (w : World) (B : Nat) (m : ImgD) (err : Int) (r : Ending) (w' : World) : Prop := ∃ val, r = .returned (.tuple #[imgV m.guest val, .int .i64 err]) ∧ OI w' B val m ∧ Below B w w'
def imgZ : ImgD := ⟨0, [], [], [], []⟩
def valZ : Nm → Value := fun _ => nilV
theorem OI.zero (W : World) (B : Nat) : OI W B valZ imgZ := ⟨fun a ha => by
  rcases ha.cases with rfl | rfl | rfl | rfl | ⟨j, rfl, hj⟩ | ⟨j, rfl, hj⟩
  · exact World.ownsRow_nil _ _ _ _
  · exact World.ownsRow_nil _ _ _ _
  · exact World.ownsRow_nil _ _ _ _
  · exact World.ownsRow_nil _ _ _ _
  · exact absurd hj (Nat.not_lt_zero _)
  · exact absurd hj (Nat.not_lt_zero _), fun _ _ _ _ _ g hg => by cases hg⟩
theorem AnsI.bad {w w' : World} {B : Nat} (err : Int) (hb : Below B w w') : AnsI w B imgZ err (.returned (.tuple #[.agg #[.int .i64 0, nilV, nilV, nilV, nilV], .int .i64 err])) w' := ⟨valZ, rfl, OI.zero _ _, hb⟩
end Go.Proofs.Ytehleeibgkpjmad
/- Writing, wiping, punching: what comes is right, and how it is read. Plain lists. -/
namespace Go.Proofs.Ytehleeibgkpjmad
open Go.RowKit Go.Shelf
set_option maxRecDepth 20000

def EntOK (L : List SlotD) (e : Int) : Prop := e = 0 ∨ e = -1 ∨ ∃ j : Nat, e = j ∧ 1 ≤ j ∧ j < L.length ∧ kd L j = 1
structure Laid (m M : ImgD) (k : Nat) (es : List Int) : Prop where
  shape : shapeE M = 0
  guest : M.guest = m.guest
  snaps : M.snaps = m.snaps
  rlen : M.root.length = m.root.length
  look : ∀ q, q / 4 < m.root.length → lookV M M.root q = if q / 4 = k then es.getD (q % 4) 0 else lookV m m.root q
  past : ∀ s ∈ m.snaps, ∀ q, q / 4 < s.2.2.length → lookV M s.2.2 q = lookV m s.2.2 q
  page : ∀ e, EntOK m.slots e → pageV M.slots e = pageV m.slots e

theorem reroot_shape {m : ImgD} (h : shapeE m = 0) {g : Int} {r : List Int} (hg : guestOK g = true) (hf : rootFit m.slots g r = true) : shapeE { m with guest := g, root := r } = 0 := by
  obtain ⟨z1, z2, z3, z4, z5, z6, z7⟩ := shapeE_zero h
  unfold rootsOf at z5 z7
  rw [List.all_cons] at z5 z7
  simp only [Bool.and_eq_true] at z5 z7
  have hgall : (rootsOf { m with guest := g, root := r }).all (fun s => guestOK s.2.1) = true := by
    show (((⟨#[]⟩, g, r) : SnapD) :: m.snaps).all _ = true
    rw [List.all_cons, z5.2, Bool.and_true]; exact hg
  have hall : (rootsOf { m with guest := g, root := r }).all (fun s => rootFit m.slots s.2.1 s.2.2) = true := by
    show (((⟨#[]⟩, g, r) : SnapD) :: m.snaps).all _ = true
    rw [List.all_cons, z7.2, Bool.and_true]; exact hf
  unfold shapeE
  rw [if_neg (by show ¬ 3 < m.snaps.length; omega), if_neg (by show ¬ slotsE m.slots ≠ 0; simpa using z2), if_neg, if_neg (by rw [hgall]; decide), if_neg (by show ¬ tabFit m.slots = false; rw [z6]; decide), if_neg (by show ¬ ((rootsOf { m with guest := g, root := r }).all fun s => rootFit m.slots s.2.1 s.2.2) = false; rw [hall]; decide)]
  rintro (e | e)
  · exact e z3
  · have : namesOK m.snaps = false := e
    rw [z4] at this; cases this
theorem rootFit_root {m : ImgD} (h : shapeE m = 0) : rootFit m.slots m.guest m.root = true := List.all_eq_true.1 (shapeE_zero h).2.2.2.2.2.2 (⟨#[]⟩, m.guest, m.root) List.mem_cons_self
theorem guestOK_guest {m : ImgD} (h : shapeE m = 0) : guestOK m.guest = true := List.all_eq_true.1 (shapeE_zero h).2.2.2.2.1 (⟨#[]⟩, m.guest, m.root) List.mem_cons_self

theorem snap_fit {m : ImgD} (h : shapeE m = 0) {s : SnapD} (hs : s ∈ rootsOf m) : 0 ≤ s.2.1 ∧ s.2.1 ≤ 16 ∧ (s.2.2.length : Int) = (s.2.1 + 3) / 4 ∧ s.2.2.all (rootE m.slots) = true := by
  have hf := List.all_eq_true.1 (shapeE_zero h).2.2.2.2.2.2 s hs
  have hg := List.all_eq_true.1 (shapeE_zero h).2.2.2.2.1 s hs
  unfold rootFit at hf
  unfold guestOK at hg
  simp only [Bool.and_eq_true, decide_eq_true_eq] at hf hg
  exact ⟨hg.1, hg.2, hf.1, hf.2.1⟩
theorem Laid.allV {m M : ImgD} {k : Nat} {es : List Int} (hL : Laid m M k es) : Go.Proofs.Ytehleeibgkpjmad.allV (countedD M) = allP M M.root m.guest.toNat := by
  unfold Go.Proofs.Ytehleeibgkpjmad.allV
  rw [if_pos (counted_right hL.shape)]
  have := allP_counted hL.shape (s := (⟨#[]⟩, M.guest, M.root)) List.mem_cons_self
  show allP (countedD M) M.root M.guest.toNat = _
  rw [this, hL.guest]
theorem Laid.put {m M : ImgD} {n : Nat} {x : Int} (hC : checkE m = 0) (hn : (n : Int) < m.guest) (hL : Laid m M (n / 4) ((tableO m (n / 4)).set (n % 4) x)) : Go.Proofs.Ytehleeibgkpjmad.allV (countedD M) = (Go.Proofs.Ytehleeibgkpjmad.allV m).set n (pageV M.slots x) := by
  have h := checkE_shape hC
  have hr := root_ok h
  have hg := guest_ok h
  rw [hL.allV]
  unfold Go.Proofs.Ytehleeibgkpjmad.allV
  rw [if_pos hC]
  unfold allP
  apply List.ext_getElem
  · simp
  · intro q h1 h2
    have hq : q < m.guest.toNat := by simpa using h1
    rw [List.getElem_set, List.getElem_map, List.getElem_range]
    rw [hL.look q (by omega)]
    have hlen : (tableO m (n / 4)).length = 4 := ckE_len (tableO_ok h (by omega)).1
    by_cases e : n = q
    · subst e
      rw [if_pos rfl, if_pos rfl, set_get (by rw [hlen]; omega)]
    · rw [if_neg e]
      simp only [List.getElem_map, List.getElem_range]
      by_cases e4 : q / 4 = n / 4
      · rw [if_pos e4, getD_setI, if_neg (fun z => e (by omega)), ← e4, ← lookV_tableO]
        exact hL.page _ (lookV_ent h hr.2 q (by omega))
      · rw [if_neg e4]
        exact hL.page _ (lookV_ent h hr.2 q (by omega))



end Go.Proofs.Ytehleeibgkpjmad
/- Snapshots: what comes is right, and how it is read. Plain lists. -/
namespace Go.Proofs.Ytehleeibgkpjmad
open Go.RowKit Go.Shelf
set_option maxRecDepth 20000

abbrev lessN (a b : ByteArray) : Bool := Op.bytesLess a.toList b.toList
theorem less_trans : ∀ {x y z : List UInt8}, Op.bytesLess x y = true → Op.bytesLess y z = true → Op.bytesLess x z = true
  | _, _, [], _, h => by simp [Op.bytesLess] at h
  | _, [], _ :: _, h, _ => by simp [Op.bytesLess] at h
  | [], _ :: _, _ :: _, _, _ => rfl
  | a :: x, b :: y, c :: z, h, k => by
    simp only [Op.bytesLess, Bool.or_eq_true, Bool.and_eq_true, decide_eq_true_eq, beq_iff_eq] at h k ⊢
    rcases h with h | ⟨rfl, h⟩
    · rcases k with k | ⟨rfl, _⟩
      · exact .inl (by rw [UInt8.lt_iff_toNat_lt] at h k ⊢; omega)
      · exact .inl h
    · rcases k with k | ⟨rfl, k⟩
      · exact .inl k
      · exact .inr ⟨rfl, less_trans h k⟩
theorem less_total {x y : List UInt8} (h : Op.bytesLess x y = false) (hne : x ≠ y) : Op.bytesLess y x = true := by
  have := bytesLeq x y
  rw [h, Bool.false_or] at this
  have e : (x == y) = false := by simpa using hne
  rw [e] at this
  simpa using this.symm
theorem less_irr (x : List UInt8) : Op.bytesLess x x = false := by
  have := bytesLeq x x
  simp at this
  cases e : Op.bytesLess x x with
  | false => rfl
  | true => rw [e] at this; simp at this

def NamesP (S : List SnapD) : Prop := (∀ s ∈ S, isNm s.1 = true) ∧ S.Pairwise (fun a b => lessN a.1 b.1 = true)
theorem namesOK_iff (S : List SnapD) : namesOK S = true ↔ NamesP S := by
  unfold namesOK NamesP
  rw [List.all_eq_true]
  constructor
  · intro h
    have hk : ∀ k, k < S.length → nmAt S k = true := fun k hk => h k (by simpa using hk)
    refine ⟨fun s hs => ?_, ?_⟩
    · obtain ⟨j, hj, rfl⟩ := List.getElem_of_mem hs
      have := hk j hj
      unfold nmAt at this
      simp only [Bool.and_eq_true] at this
      have h1 := this.1
      rwa [show S.getD j default = S[j] by simp [List.getD, hj]] at h1
    · rw [List.pairwise_iff_getElem]
      have adj : ∀ i, (hi : i + 1 < S.length) → lessN S[i].1 S[i + 1].1 = true := fun i hi => by
        have := hk (i + 1) hi
        rw [nmAt_at hi (by omega)] at this
        simp only [Bool.and_eq_true] at this
        exact this.2
      have far : ∀ d i, (hd : i + d + 1 < S.length) → lessN (S[i]'(by omega)).1 (S[i + d + 1]).1 = true := by
        intro d
        induction d with
        | zero => intro i hd; exact adj i hd
        | succ d ih => intro i hd; exact less_trans (ih i (by omega)) (adj (i + d + 1) (by omega))
      intro i j hi hj hij
      obtain ⟨d, rfl⟩ : ∃ d, j = i + d + 1 := ⟨j - i - 1, by omega⟩
      exact far d i hj
  · rintro ⟨h1, h2⟩ k hk
    have hk : k < S.length := by simpa using hk
    rw [List.pairwise_iff_getElem] at h2
    rcases Nat.eq_zero_or_pos k with e | e
    · subst e
      rw [nmAt_0 hk]; exact h1 _ (List.getElem_mem hk)
    · rw [nmAt_at hk e, h1 _ (List.getElem_mem hk), Bool.true_and]
      exact h2 (k - 1) k (by omega) hk (by omega)

def insS (S : List SnapD) (s : SnapD) : List SnapD := S.takeWhile (fun x => lessN x.1 s.1) ++ s :: S.dropWhile (fun x => lessN x.1 s.1)
theorem insS_length (S : List SnapD) (s : SnapD) : (insS S s).length = S.length + 1 := by
  unfold insS
  have := congrArg List.length (List.takeWhile_append_dropWhile (p := fun x : SnapD => lessN x.1 s.1) (l := S))
  rw [List.length_append] at this
  rw [List.length_append, List.length_cons]; omega
theorem mem_insS {S : List SnapD} {s x : SnapD} : x ∈ insS S s ↔ x = s ∨ x ∈ S := by
  unfold insS
  have e := List.takeWhile_append_dropWhile (p := fun x : SnapD => lessN x.1 s.1) (l := S)
  constructor
  · intro h
    rcases List.mem_append.1 h with h | h
    · exact .inr (e ▸ List.mem_append_left _ h)
    · rcases List.mem_cons.1 h with h | h
      · exact .inl h
      · exact .inr (e ▸ List.mem_append_right _ h)
  · rintro (rfl | h)
    · exact List.mem_append_right _ List.mem_cons_self
    · rw [← e] at h
      rcases List.mem_append.1 h with h | h
      · exact List.mem_append_left _ h
      · exact List.mem_append_right _ (List.mem_cons_of_mem _ h)
theorem mem_tw {p : SnapD → Bool} : ∀ {l : List SnapD} {x : SnapD}, x ∈ l.takeWhile p → p x = true
  | [], x, h => by cases h
  | a :: l, x, h => by
    rw [List.takeWhile_cons] at h
    split at h
    · rename_i hp
      rcases List.mem_cons.1 h with rfl | h
      · exact hp
      · exact mem_tw h
    · cases h
theorem insS_names {S : List SnapD} {s : SnapD} (h : NamesP S) (hs : isNm s.1 = true) (hne : ∀ x ∈ S, x.1.toList ≠ s.1.toList) : NamesP (insS S s) := by
  refine ⟨fun x hx => ?_, ?_⟩
  · rcases mem_insS.1 hx with rfl | hm
    · exact hs
    · exact h.1 x hm
  · have e := List.takeWhile_append_dropWhile (p := fun x : SnapD => lessN x.1 s.1) (l := S)
    have hp := h.2
    rw [← e, List.pairwise_append] at hp
    have hright : ∀ y ∈ S.dropWhile (fun x => lessN x.1 s.1), lessN s.1 y.1 = true := by
      cases hd : S.dropWhile (fun x => lessN x.1 s.1) with
      | nil => intro y hy; cases hy
      | cons x r =>
        have hx : lessN x.1 s.1 = false := by
          have := List.head?_dropWhile_not (fun x : SnapD => lessN x.1 s.1) S
          rw [hd] at this
          simpa using this
        have hxm : x ∈ S := e ▸ List.mem_append_right _ (by rw [hd]; exact List.mem_cons_self)
        have hsx : lessN s.1 x.1 = true := less_total hx (hne x hxm)
        rw [hd] at hp
        intro y hy
        rcases List.mem_cons.1 hy with rfl | hy
        · exact hsx
        · exact less_trans hsx (List.rel_of_pairwise_cons hp.2.1 hy)
    unfold insS
    rw [List.pairwise_append, List.pairwise_cons]
    refine ⟨hp.1, ⟨hright, hp.2.1⟩, fun a ha b hb => ?_⟩
    rcases List.mem_cons.1 hb with rfl | hb
    · exact mem_tw (p := fun x : SnapD => lessN x.1 b.1) ha
    · exact hp.2.2 a ha b hb

theorem resnap_shape {m : ImgD} (h : shapeE m = 0) {S : List SnapD} (h3 : S.length ≤ 3) (hn : namesOK S = true) (hf : ∀ s ∈ S, guestOK s.2.1 = true ∧ rootFit m.slots s.2.1 s.2.2 = true) : shapeE { m with snaps := S } = 0 := by
  obtain ⟨z1, z2, z3, z4, z5, z6, z7⟩ := shapeE_zero h
  have hgall : (rootsOf { m with snaps := S }).all (fun s => guestOK s.2.1) = true := by
    show (((⟨#[]⟩, m.guest, m.root) : SnapD) :: S).all _ = true
    rw [List.all_cons, List.all_eq_true.2 (fun s hs => (hf s hs).1), Bool.and_true]; exact guestOK_guest h
  have hall : (rootsOf { m with snaps := S }).all (fun s => rootFit m.slots s.2.1 s.2.2) = true := by
    show (((⟨#[]⟩, m.guest, m.root) : SnapD) :: S).all _ = true
    rw [List.all_cons, List.all_eq_true.2 (fun s hs => (hf s hs).2), Bool.and_true]; exact rootFit_root h
  unfold shapeE
  rw [if_neg (by show ¬ 3 < S.length; omega), if_neg (by show ¬ slotsE m.slots ≠ 0; simpa using z2), if_neg, if_neg (by rw [hgall]; decide), if_neg (by show ¬ tabFit m.slots = false; rw [z6]; decide), if_neg (by show ¬ ((rootsOf { m with snaps := S }).all fun s => rootFit m.slots s.2.1 s.2.2) = false; rw [hall]; decide)]
  rintro (e | e)
  · exact e z3
  · have : namesOK S = false := e
    rw [hn] at this; cases this
theorem snap_ok {m : ImgD} (h : shapeE m = 0) {s : SnapD} (hs : s ∈ m.snaps) : guestOK s.2.1 = true ∧ rootFit m.slots s.2.1 s.2.2 = true :=
  ⟨List.all_eq_true.1 (shapeE_zero h).2.2.2.2.1 s (List.mem_cons_of_mem _ hs), List.all_eq_true.1 (shapeE_zero h).2.2.2.2.2.2 s (List.mem_cons_of_mem _ hs)⟩

def createM (m : ImgD) (nm : ByteArray) : ImgD := { m with snaps := insS m.snaps (nm, m.guest, m.root) }
def revertM (m : ImgD) (k : Nat) : ImgD := { m with guest := (m.snaps.getD k default).2.1, root := (m.snaps.getD k default).2.2 }
def deleteM (m : ImgD) (k : Nat) : ImgD := { m with snaps := m.snaps.eraseIdx k }
theorem snapIx_none {S : List SnapD} {nm : ByteArray} (h : snapIx S nm = none) : ∀ x ∈ S, x.1.toList ≠ nm.toList := fun x hx e => by
  unfold snapIx at h
  rw [List.findIdx?_eq_none_iff] at h
  have := h x hx
  simp [e] at this
theorem create_shape {m : ImgD} (h : shapeE m = 0) {nm : ByteArray} (hn : isNm nm = true) (hx : snapIx m.snaps nm = none) (h3 : m.snaps.length < 3) : shapeE (createM m nm) = 0 := by
  refine resnap_shape h (by rw [insS_length]; omega) ((namesOK_iff _).2 (insS_names ((namesOK_iff _).1 (shapeE_zero h).2.2.2.1) hn (snapIx_none hx))) (fun s hs => ?_)
  rcases mem_insS.1 hs with rfl | hs
  · exact ⟨guestOK_guest h, rootFit_root h⟩
  · exact snap_ok h hs
theorem revert_shape {m : ImgD} (h : shapeE m = 0) {k : Nat} (hk : k < m.snaps.length) : shapeE (revertM m k) = 0 := by
  have hm : m.snaps.getD k default ∈ m.snaps := by rw [show m.snaps.getD k default = m.snaps[k] by simp [List.getD, hk]]; exact List.getElem_mem hk
  exact reroot_shape h (snap_ok h hm).1 (snap_ok h hm).2
theorem delete_shape {m : ImgD} (h : shapeE m = 0) (k : Nat) : shapeE (deleteM m k) = 0 := by
  have hsub := List.eraseIdx_sublist m.snaps k
  obtain ⟨n1, n2⟩ := (namesOK_iff _).1 (shapeE_zero h).2.2.2.1
  refine resnap_shape h (Nat.le_trans hsub.length_le (shapeE_zero h).1) ((namesOK_iff _).2 ⟨fun s hs => n1 s (hsub.subset hs), n2.sublist hsub⟩) (fun s hs => snap_ok h (hsub.subset hs))


theorem told_more {m M : ImgD} (h : shapeE m = 0) (hM : shapeE M = 0) (hs : M.slots = m.slots) (hsub : ∀ x ∈ flatR m, x ∈ flatR M) {j : Nat} (hj : j < m.slots.length) (hc : (cntL m).getD j 0 ≠ 0) : (cntL M).getD j 0 ≠ 0 := by
  obtain ⟨j1, hcase⟩ := cnt_told h hj hc
  rcases hcase with ⟨hk, hm⟩ | ⟨hk, k, k1, hkm, hk2, hjm⟩
  · exact (told_root hM (hsub _ hm) j1).2.2
  · exact (told_ent hM (hsub _ hkm) k1 (by rw [hs]; exact hjm) j1).2.2
theorem slots_more {m M : ImgD} (hC : checkE m = 0) (hM : shapeE M = 0) (hs : M.slots = m.slots) (hsub : ∀ x ∈ flatR m, x ∈ flatR M) : (countedD M).slots = m.slots := by
  have h := checkE_shape hC
  have e0 := congrArg ImgD.slots (counted_same hC)
  have e0 : freeUn m.slots (cntL m) = m.slots := e0
  show freeUn M.slots (cntL M) = m.slots
  rw [hs]
  apply List.ext_getElem
  · exact freeUn_length _ _
  · intro j h1 h2
    rw [getElem_getD h1, getElem_getD h2, freeUn_get h2]
    split
    · rename_i hz
      have hz0 : (cntL m).getD j 0 = 0 := Classical.byContradiction fun x => told_more h hM hs hsub h2 x hz
      have := freeUn_gone (L := m.slots) h2 hz0
      rw [e0] at this; exact this.symm
    · rfl
theorem used_fewer (L : List SlotD) (c : List Int) : usedN (freeUn L c) ≤ usedN L := by
  unfold usedN
  have hl : L = (List.range L.length).map (fun j => L.getD j default) := by
    apply List.ext_getElem
    · simp
    · intro j h1 h2; simp [List.getD, h1]
  rw [hl]
  unfold freeUn
  rw [List.length_map, List.length_range, List.countP_map, List.countP_map]
  refine List.countP_mono_left fun j hj => ?_
  have hj := List.mem_range.1 hj
  intro hx
  simp only [Function.comp_apply] at hx ⊢
  split at hx
  · simp [slotZ] at hx
  · simp [List.getD, hj] at hx ⊢; exact hx
theorem flat_create (m : ImgD) (nm : ByteArray) : ∀ x ∈ flatR m, x ∈ flatR (createM m nm) := fun x hx => by
  unfold flatR at hx ⊢
  rw [List.mem_flatMap] at hx ⊢
  obtain ⟨s, hs, hm⟩ := hx
  rcases List.mem_cons.1 hs with rfl | hs
  · exact ⟨_, List.mem_cons_self, hm⟩
  · exact ⟨s, List.mem_cons_of_mem _ (mem_insS.2 (.inr hs)), hm⟩
end Go.Proofs.Ytehleeibgkpjmad
/- The desk with a snapshot less, a snapshot more. -/
namespace Go.Proofs.Ytehleeibgkpjmad
open Go.RowKit Go.Shelf
set_option maxRecDepth 20000
set_option linter.unusedVariables false
set_option linter.unusedSimpArgs false

theorem ext3 {L1 L2 : List Value} {n : Nat} (h1 : L1.length = n * 3) (h2 : L2.length = n * 3) (h : ∀ q, q < n → L1[q * 3]? = L2[q * 3]? ∧ L1[q * 3 + 1]? = L2[q * 3 + 1]? ∧ L1[q * 3 + 2]? = L2[q * 3 + 2]?) : L1 = L2 := by
  apply List.ext_getElem?
  intro p
  by_cases hp : p < n * 3
  · obtain ⟨a, b, c⟩ := h (p / 3) (by omega)
    have : p = p / 3 * 3 ∨ p = p / 3 * 3 + 1 ∨ p = p / 3 * 3 + 2 := by omega
    rcases this with e | e | e <;> rw [e] <;> assumption
  · rw [List.getElem?_eq_none (by omega), List.getElem?_eq_none (by omega)]
def skip (k j : Nat) : Nat := if j < k then j else j + 1
theorem getD_erase (S : List SnapD) (k j : Nat) : (S.eraseIdx k).getD j default = S.getD (skip k j) default := by
  unfold skip
  simp only [List.getD_eq_getElem?_getD, List.getElem?_eraseIdx]
  split <;> rfl
theorem flatN_erase {S : List SnapD} {k : Nat} (hk : k < S.length) (qv : Nat → Value) : flatN (S.eraseIdx k) (fun j => qv (skip k j)) = (flatN S qv).take (k * 3) ++ (flatN S qv).drop ((k + 1) * 3) := by
  have hl := flatN_length S qv
  have he : (S.eraseIdx k).length = S.length - 1 := by rw [List.length_eraseIdx, if_pos hk]
  have ht : ((flatN S qv).take (k * 3)).length = k * 3 := by rw [List.length_take, hl]; omega
  refine ext3 (n := S.length - 1) (by rw [flatN_length, he]) (by rw [List.length_append, List.length_drop, ht, hl]; omega) fun q hq => ?_
  obtain ⟨a, b, c⟩ := flatN_get (S := S.eraseIdx k) (qv := fun j => qv (skip k j)) (j := q) (by omega)
  obtain ⟨a', b', c'⟩ := flatN_get (S := S) (qv := qv) (j := skip k q) (by unfold skip; split <;> omega)
  rw [a, b, c, getD_erase, ← a', ← b', ← c']
  unfold skip
  simp only [List.getElem?_append, List.getElem?_take, List.getElem?_drop, ht]
  by_cases h : q < k
  · rw [if_pos h, if_pos (by omega), if_pos (by omega), if_pos (by omega), if_pos (by omega), if_pos (by omega), if_pos (by omega)]; exact ⟨rfl, rfl, rfl⟩
  · rw [if_neg h, if_neg (by omega), if_neg (by omega), if_neg (by omega)]
    exact ⟨by congr 1; omega, by congr 1; omega, by congr 1; omega⟩
def delVal (val : Nm → Value) (v : Value) (k : Nat) : Nm → Value := fun a => if a.kind = 5 then val (.sr (skip k a.ix)) else if a.kind = 3 then v else val a
def delNm (k : Nat) (a : Nm) : Nm := if a.kind = 5 then .sr (skip k a.ix) else a
theorem delVal_eq {val : Nm → Value} {v : Value} {k : Nat} {a : Nm} (h : a.kind ≠ 3) : delVal val v k a = val (delNm k a) := by
  unfold delVal delNm
  by_cases e : a.kind = 5
  · rw [if_pos e, if_pos e]
  · rw [if_neg e, if_neg e, if_neg h]
theorem delNm_kind (k : Nat) (a : Nm) : (delNm k a).kind = a.kind := by
  unfold delNm
  split
  · rename_i e; rw [e]
  · rfl
theorem delNm_live {m : ImgD} {k : Nat} (hk : k < m.snaps.length) {a : Nm} (h : Live (deleteM m k) a) : Live m (delNm k a) := by
  have he : (m.snaps.eraseIdx k).length = m.snaps.length - 1 := by rw [List.length_eraseIdx, if_pos hk]
  rcases h with ⟨h1, h2⟩ | ⟨h1, h2⟩ | ⟨h1, h2⟩
  · have : a.kind ≠ 5 := by omega
    unfold delNm; rw [if_neg this]; exact .inl ⟨h1, h2⟩
  · have : a.kind ≠ 5 := by omega
    unfold delNm; rw [if_neg this]; exact .inr (.inl ⟨h1, h2⟩)
  · unfold delNm; rw [if_pos h1]
    have h2 : a.ix < (m.snaps.eraseIdx k).length := h2
    exact Live.sr (by unfold skip; split <;> omega)
theorem delNm_inj {k : Nat} {a b : Nm} (h : a ≠ b) : delNm k a ≠ delNm k b := fun e => by
  have hk := congrArg Nm.kind e
  rw [delNm_kind, delNm_kind] at hk
  apply h
  unfold delNm at e
  by_cases h5 : a.kind = 5
  · rw [if_pos h5, if_pos (hk ▸ h5)] at e
    have e := congrArg Nm.ix e
    have e : skip k a.ix = skip k b.ix := e
    have : a.ix = b.ix := by unfold skip at e; split at e <;> split at e <;> omega
    cases a; cases b; simp_all
  · rw [if_neg h5, if_neg (hk ▸ h5)] at e
    exact e

theorem live3 {m : ImgD} {a : Nm} (h : Live m a) (e : a.kind = 3) : a = .snaps := by
  rcases h with ⟨h1, h2⟩ | ⟨h1, h2⟩ | ⟨h1, h2⟩
  · cases a; simp_all
  · omega
  · omega
theorem OI.del {W W' : World} {B k : Nat} {val : Nm → Value} {m : ImgD} {v : Value} (h : OI W B val m) (hk : k < m.snaps.length) (hv : W'.ownsRow B 72 3 v (m.snaps.length - 1) ((flatN m.snaps (fun j => val (.sr j))).take (k * 3) ++ (flatN m.snaps (fun j => val (.sr j))).drop ((k + 1) * 3)))
    (hg : W.grownBy W' (val .snaps).ownBlock) (hb : v.ownBlock = (val .snaps).ownBlock) : OI W' B (delVal val v k) (deleteM m k) := by
  refine ⟨fun a ha => ?_, fun a b ha hb2 hab g hga => ?_⟩
  · by_cases e : a.kind = 3
    · have ea := live3 ha e
      subst ea
      rw [← flatN_erase hk] at hv
      have hl : (deleteM m k).snaps.length = m.snaps.length - 1 := by show (m.snaps.eraseIdx k).length = _; rw [List.length_eraseIdx, if_pos hk]
      show W'.ownsRow B 72 3 v (deleteM m k).snaps.length (flatN (m.snaps.eraseIdx k) (fun j => val (.sr (skip k j))))
      rw [hl]; exact hv
    · have hr := h.row (delNm k a) (delNm_live hk ha)
      have hne : (val (delNm k a)).ownBlock = none ∨ (val (delNm k a)).ownBlock ≠ (val .snaps).ownBlock := by
        cases eq : (val (delNm k a)).ownBlock with
        | none => exact .inl rfl
        | some g => exact .inr (fun x => h.apart (delNm k a) .snaps (delNm_live hk ha) (Live.snaps m) (fun y => e (by rw [← delNm_kind k a, y])) g eq x.symm)
      have hr := hr.kept hg hne
      rw [delVal_eq e]
      have e1 : rowT (delNm k a) = rowT a := by unfold rowT; rw [delNm_kind]
      have e2 : rowS (delNm k a) = rowS a := by unfold rowS; rw [delNm_kind]
      rw [e1, e2] at hr
      rcases ha.cases with rfl | rfl | rfl | rfl | ⟨j, rfl, hj⟩ | ⟨j, rfl, hj⟩
      · exact hr
      · exact hr
      · exact hr
      · exact absurd rfl e
      · exact hr
      · have e3 : rowN (deleteM m k) (.sr j) = rowN m (delNm k (.sr j)) := by
          show ((m.snaps.eraseIdx k).getD j default).2.2.length = (m.snaps.getD (skip k j) default).2.2.length
          rw [getD_erase]
        have e4 : rowV (deleteM m k) (delVal val v k) (.sr j) = rowV m val (delNm k (.sr j)) := by
          show ints ((m.snaps.eraseIdx k).getD j default).2.2 = ints (m.snaps.getD (skip k j) default).2.2
          rw [getD_erase]
        rw [e3, e4]; exact hr
  · by_cases ea : a.kind = 3
    · have ea' := live3 ha ea
      have eb : b.kind ≠ 3 := fun x => hab (ea'.trans (live3 hb2 x).symm)
      subst ea'
      rw [delVal_eq eb]
      exact h.apart .snaps (delNm k b) (Live.snaps m) (delNm_live hk hb2) (fun y => eb (by rw [← delNm_kind k b, ← y])) g (hb.symm.trans hga)
    · rw [delVal_eq ea] at hga
      by_cases eb : b.kind = 3
      · have eb' := live3 hb2 eb
        subst eb'
        intro x
        exact h.apart (delNm k a) .snaps (delNm_live hk ha) (Live.snaps m) (fun y => ea (by rw [← delNm_kind k a, y])) g hga (hb.symm.trans x)
      · rw [delVal_eq eb]
        exact h.apart _ _ (delNm_live hk ha) (delNm_live hk hb2) (delNm_inj hab) g hga

theorem DTo.del {W W' : World} {B D k : Nat} {val : Nm → Value} {m : ImgD} {v : Value} (h : DK W B D val m) (hB : B ≤ W.heap.size) (hk : k < m.snaps.length) (hv : W'.ownsRow B 72 3 v (m.snaps.length - 1) ((flatN m.snaps (fun j => val (.sr j))).take (k * 3) ++ (flatN m.snaps (fun j => val (.sr j))).drop ((k + 1) * 3)))
    (hg : W.grownBy W' (val .snaps).ownBlock) (hb : v.ownBlock = (val .snaps).ownBlock) : DTo W (W'.setCell ⟨D, 4, none⟩ v) B D m val nilV (deleteM m k) (delVal val v k) := by
  have hval : ∀ q, (∀ b, Live m b → (val b).ownBlock ≠ some q) → ∀ a, Live (deleteM m k) a → (delVal val v k a).ownBlock ≠ some q := fun q hq a ha => by
    by_cases e : a.kind = 3
    · have ea := live3 ha e
      subst ea
      show v.ownBlock ≠ some q
      rw [hb]; exact hq .snaps (Live.snaps m)
    · rw [delVal_eq e]; exact hq _ (delNm_live hk ha)
  have hf := hval D h.far
  have hbel : Below B W W' := Below.grown (Below.refl _ _) hg hB (fun q e => ((h.own.row .snaps (Live.snaps m)).lt q e).1)
  refine ⟨⟨(h.own.del hk hv hg hb).far hf, ?_, h.ge, hf⟩, hbel.setCell h.ge _, fun q hq hD _ hm => (Below.heap_setCell W' ⟨D, 4, none⟩ v q hD).trans (hg.block q hq (fun e => hm .snaps (Live.snaps m) e.symm)), fun q _ _ hm => hval q hm⟩
  have hbox := (hg.block D h.lt (fun e => h.far .snaps (Live.snaps m) e.symm)).trans h.box
  exact cells_set hbox 4 v
end Go.Proofs.Ytehleeibgkpjmad
/- The library's contracts that are used here, at this program: strings.Repeat, strings.Join. -/
namespace Go.Proofs
open Go.Shelf
def Try.lays106_ren : Go.Shelf.Ren := ⟨fun | 106 => 85 | 213 => 107 | 265 => 122 | n => n, fun | 9 => 9 | 3 => 3 | n => n, fun | n => n⟩
theorem Try.lays106 : Go.Proofs.Lays.n106 Try.prog Try.lays106_ren := {
  mixed := by kernel_rfl
  f106 := Try.func85.trans (congrArg some (by kernel_rfl))
  f213 := Try.func107.trans (congrArg some (by kernel_rfl))
  f265 := Try.func122.trans (congrArg some (by kernel_rfl))
  t3 := Try.underlying3
  a3 := Try.isAgg3
  z3 := Try.sizeOf3
  v3 := Try.zeroValue3
  t9 := Try.underlying9
  a9 := Try.isAgg9
  z9 := Try.sizeOf9
  v9 := Try.zeroValue9 }
open Go.RowKit in
theorem Try.strings_Compare (a b : ByteArray) (w : World) :
    Calls Try.prog 85 #[.string a, .string b] w fun e w' => e = .returned (.int .i64 (Lib.compareBytes a.data.toList b.data.toList)) ∧ w' = w := Any.strings_Compare Try.lays106 a b w
end Go.Proofs
/- Contracts of the program's snaps: the comparison that find hands on. -/
namespace Go.Proofs.Ytehleeibgkpjmad
open Go.RowKit Go.Shelf
set_option maxRecDepth 20000
set_option linter.unusedVariables false
set_option linter.unusedSimpArgs false

theorem findCmp_is (a nm : ByteArray) (g : Int) (ra : Option Addr) (rn rc : Nat) (w : World) :
    Calls Try.prog 84 #[.agg #[.string a, .int .i64 g, .slice ra rn rc], .string nm] w fun r w' => r = .returned (.int .i64 (Lib.compareBytes a.data.toList nm.data.toList)) ∧ Below w.heap.size w w' := by
  have b0 : Below w.heap.size w (w.alloc (.cells #[.string a, .int .i64 g, .slice ra rn rc] 72)) := (Below.refl _ _).alloc (Nat.le_refl _) _
  go_enter Try.func84, Try.ntmps84
  go_wp2_with (go_at_call 85; refine (Try.strings_Compare _ _ _).mono ?_; rintro e w' ⟨rfl, hw⟩; rw [hw]; clear hw)
  go_ret
  exact ⟨rfl, b0⟩




set_option maxHeartbeats 4000000 in
theorem bsearch_at (b off cap n k : Nat) (nm : ByteArray) (c : Nat → Int) (w : World) (h3 : n ≤ 3) (hlt : b < w.heap.size) (HC : Hid (∀ j, j < n → ∃ (a : ByteArray) (g : Int) (ra : Option Addr) (rn rc : Nat), w.cell? ⟨b, off + j * 3, none⟩ = some (.string a) ∧ w.cell? ⟨b, off + j * 3 + 1, none⟩ = some (.int .i64 g) ∧ w.cell? ⟨b, off + j * 3 + 1 + 1, none⟩ = some (.slice ra rn rc) ∧ Lib.compareBytes a.data.toList nm.data.toList = c j))
    (hk : k ≤ n) (HL : Hid (∀ j, j < n → (c j < 0 ↔ j < k))) :
    Calls Try.prog 83 #[.slice (some ⟨b, off, none⟩) n cap, .string nm, .func (.func 84) #[] #[]] w fun r w' => r = .returned (.tuple #[.int .i64 (k : Int), .bool (decide (k < n) && c k == 0)]) ∧ Below w.heap.size w w' := by
  go_enter Try.func83, Try.ntmps83
  go_wp2_with fail
  go_loopw [9, 10, 11] (fun s9 s10 _ wr => ∃ i j : Nat, s9 = .int .i64 i ∧ s10 = .int .i64 j ∧ i ≤ k ∧ k ≤ j ∧ j ≤ n ∧ Below w.heap.size w wr) (fun s9 s10 _ _ => (intOf s10).toNat - (intOf s9).toNat)
  case atStart => exact ⟨0, n, rfl, rfl, Nat.zero_le _, hk, Nat.le_refl _, Below.refl _ _⟩
  case round =>
    obtain ⟨i, j, rfl, rfl, hi, hj, hjn, hbel⟩ := hrel
    by_cases hlt2 : i < j
    · have hcase : (i = 0 ∧ j = 1) ∨ (i = 0 ∧ j = 2) ∨ (i = 0 ∧ j = 3) ∨ (i = 1 ∧ j = 2) ∨ (i = 1 ∧ j = 3) ∨ (i = 2 ∧ j = 3) := by omega
      rcases hcase with ⟨rfl, rfl⟩ | ⟨rfl, rfl⟩ | ⟨rfl, rfl⟩ | ⟨rfl, rfl⟩ | ⟨rfl, rfl⟩ | ⟨rfl, rfl⟩
      · obtain ⟨a, g, ra, rn, rc, k0, k1, k2, hcc⟩ := HC.out 0 (by omega)
        have k0 := (hbel.cell (p := ⟨b, off + 0 * 3, none⟩) hlt).trans k0
        have k1 := (hbel.cell (p := ⟨b, off + 0 * 3 + 1, none⟩) hlt).trans k1
        have k2 := (hbel.cell (p := ⟨b, off + 0 * 3 + 1 + 1, none⟩) hlt).trans k2
        simp only [Nat.reduceMul, Nat.add_assoc, Nat.reduceAdd, Nat.add_zero] at k0 k1 k2
        have hn0 : ((0 : Nat) : Int) < (n : Int) := by omega
        have hnn : (0 : Int) < (n : Int) := by omega
        have hL := HL.out 0 (by omega)
        have hcall := fun W => findCmp_is a nm g ra rn rc W
        rw [hcc] at hcall
        clear hcc
        generalize c 0 = ch at hcall hL
        by_cases hs : ch < 0
        · have hs1 : decide (ch < 0) = true := by simpa using hs
          have hk2 := hL.1 hs
          clear hL
          go_wp2_with (go_at_call 84; refine (hcall _).mono ?_; rintro e w1 ⟨rfl, b1⟩)
          go_roundw
          case rel => exact ⟨1, 1, by go_num, by go_num, hk2, hj, hjn, Below.on hbel b1⟩
          case measure => simp [intOf]
        · have hs1 : decide (ch < 0) = false := by simpa using hs
          have hk2 : k ≤ 0 := by have := fun x => hs (hL.2 x); omega
          clear hL
          go_wp2_with (go_at_call 84; refine (hcall _).mono ?_; rintro e w1 ⟨rfl, b1⟩)
          go_roundw
          case rel => exact ⟨0, 0, by go_num, by go_num, hi, hk2, by omega, Below.on hbel b1⟩
          case measure => simp [intOf]
      · obtain ⟨a, g, ra, rn, rc, k0, k1, k2, hcc⟩ := HC.out 1 (by omega)
        have k0 := (hbel.cell (p := ⟨b, off + 1 * 3, none⟩) hlt).trans k0
        have k1 := (hbel.cell (p := ⟨b, off + 1 * 3 + 1, none⟩) hlt).trans k1
        have k2 := (hbel.cell (p := ⟨b, off + 1 * 3 + 1 + 1, none⟩) hlt).trans k2
        simp only [Nat.reduceMul, Nat.add_assoc, Nat.reduceAdd, Nat.add_zero] at k0 k1 k2
        have hn1 : ((1 : Nat) : Int) < (n : Int) := by omega
        have hnn : (1 : Int) < (n : Int) := by omega
        have hL := HL.out 1 (by omega)
        have hcall := fun W => findCmp_is a nm g ra rn rc W
        rw [hcc] at hcall
        clear hcc
        generalize c 1 = ch at hcall hL
        by_cases hs : ch < 0
        · have hs1 : decide (ch < 0) = true := by simpa using hs
          have hk2 := hL.1 hs
          clear hL
          go_wp2_with (go_at_call 84; refine (hcall _).mono ?_; rintro e w1 ⟨rfl, b1⟩)
          go_roundw
          case rel => exact ⟨2, 2, by go_num, by go_num, hk2, hj, hjn, Below.on hbel b1⟩
          case measure => simp [intOf]
        · have hs1 : decide (ch < 0) = false := by simpa using hs
          have hk2 : k ≤ 1 := by have := fun x => hs (hL.2 x); omega
          clear hL
          go_wp2_with (go_at_call 84; refine (hcall _).mono ?_; rintro e w1 ⟨rfl, b1⟩)
          go_roundw
          case rel => exact ⟨0, 1, by go_num, by go_num, hi, hk2, by omega, Below.on hbel b1⟩
          case measure => simp [intOf]
      · obtain ⟨a, g, ra, rn, rc, k0, k1, k2, hcc⟩ := HC.out 1 (by omega)
        have k0 := (hbel.cell (p := ⟨b, off + 1 * 3, none⟩) hlt).trans k0
        have k1 := (hbel.cell (p := ⟨b, off + 1 * 3 + 1, none⟩) hlt).trans k1
        have k2 := (hbel.cell (p := ⟨b, off + 1 * 3 + 1 + 1, none⟩) hlt).trans k2
        simp only [Nat.reduceMul, Nat.add_assoc, Nat.reduceAdd, Nat.add_zero] at k0 k1 k2
        have hn1 : ((1 : Nat) : Int) < (n : Int) := by omega
        have hnn : (1 : Int) < (n : Int) := by omega
        have hL := HL.out 1 (by omega)
        have hcall := fun W => findCmp_is a nm g ra rn rc W
        rw [hcc] at hcall
        clear hcc
        generalize c 1 = ch at hcall hL
        by_cases hs : ch < 0
        · have hs1 : decide (ch < 0) = true := by simpa using hs
          have hk2 := hL.1 hs
          clear hL
          go_wp2_with (go_at_call 84; refine (hcall _).mono ?_; rintro e w1 ⟨rfl, b1⟩)
          go_roundw
          case rel => exact ⟨2, 3, by go_num, by go_num, hk2, hj, hjn, Below.on hbel b1⟩
          case measure => simp [intOf]
        · have hs1 : decide (ch < 0) = false := by simpa using hs
          have hk2 : k ≤ 1 := by have := fun x => hs (hL.2 x); omega
          clear hL
          go_wp2_with (go_at_call 84; refine (hcall _).mono ?_; rintro e w1 ⟨rfl, b1⟩)
          go_roundw
          case rel => exact ⟨0, 1, by go_num, by go_num, hi, hk2, by omega, Below.on hbel b1⟩
          case measure => simp [intOf]
      · obtain ⟨a, g, ra, rn, rc, k0, k1, k2, hcc⟩ := HC.out 1 (by omega)
        have k0 := (hbel.cell (p := ⟨b, off + 1 * 3, none⟩) hlt).trans k0
        have k1 := (hbel.cell (p := ⟨b, off + 1 * 3 + 1, none⟩) hlt).trans k1
        have k2 := (hbel.cell (p := ⟨b, off + 1 * 3 + 1 + 1, none⟩) hlt).trans k2
        simp only [Nat.reduceMul, Nat.add_assoc, Nat.reduceAdd, Nat.add_zero] at k0 k1 k2
        have hn1 : ((1 : Nat) : Int) < (n : Int) := by omega
        have hnn : (1 : Int) < (n : Int) := by omega
        have hL := HL.out 1 (by omega)
        have hcall := fun W => findCmp_is a nm g ra rn rc W
        rw [hcc] at hcall
        clear hcc
        generalize c 1 = ch at hcall hL
        by_cases hs : ch < 0
        · have hs1 : decide (ch < 0) = true := by simpa using hs
          have hk2 := hL.1 hs
          clear hL
          go_wp2_with (go_at_call 84; refine (hcall _).mono ?_; rintro e w1 ⟨rfl, b1⟩)
          go_roundw
          case rel => exact ⟨2, 2, by go_num, by go_num, hk2, hj, hjn, Below.on hbel b1⟩
          case measure => simp [intOf]
        · have hs1 : decide (ch < 0) = false := by simpa using hs
          have hk2 : k ≤ 1 := by have := fun x => hs (hL.2 x); omega
          clear hL
          go_wp2_with (go_at_call 84; refine (hcall _).mono ?_; rintro e w1 ⟨rfl, b1⟩)
          go_roundw
          case rel => exact ⟨1, 1, by go_num, by go_num, hi, hk2, by omega, Below.on hbel b1⟩
          case measure => simp [intOf]
      · obtain ⟨a, g, ra, rn, rc, k0, k1, k2, hcc⟩ := HC.out 2 (by omega)
        have k0 := (hbel.cell (p := ⟨b, off + 2 * 3, none⟩) hlt).trans k0
        have k1 := (hbel.cell (p := ⟨b, off + 2 * 3 + 1, none⟩) hlt).trans k1
        have k2 := (hbel.cell (p := ⟨b, off + 2 * 3 + 1 + 1, none⟩) hlt).trans k2
        simp only [Nat.reduceMul, Nat.add_assoc, Nat.reduceAdd, Nat.add_zero] at k0 k1 k2
        have hn2 : ((2 : Nat) : Int) < (n : Int) := by omega
        have hnn : (2 : Int) < (n : Int) := by omega
        have hL := HL.out 2 (by omega)
        have hcall := fun W => findCmp_is a nm g ra rn rc W
        rw [hcc] at hcall
        clear hcc
        generalize c 2 = ch at hcall hL
        by_cases hs : ch < 0
        · have hs1 : decide (ch < 0) = true := by simpa using hs
          have hk2 := hL.1 hs
          clear hL
          go_wp2_with (go_at_call 84; refine (hcall _).mono ?_; rintro e w1 ⟨rfl, b1⟩)
          go_roundw
          case rel => exact ⟨3, 3, by go_num, by go_num, hk2, hj, hjn, Below.on hbel b1⟩
          case measure => simp [intOf]
        · have hs1 : decide (ch < 0) = false := by simpa using hs
          have hk2 : k ≤ 2 := by have := fun x => hs (hL.2 x); omega
          clear hL
          go_wp2_with (go_at_call 84; refine (hcall _).mono ?_; rintro e w1 ⟨rfl, b1⟩)
          go_roundw
          case rel => exact ⟨1, 2, by go_num, by go_num, hi, hk2, by omega, Below.on hbel b1⟩
          case measure => simp [intOf]
      · obtain ⟨a, g, ra, rn, rc, k0, k1, k2, hcc⟩ := HC.out 2 (by omega)
        have k0 := (hbel.cell (p := ⟨b, off + 2 * 3, none⟩) hlt).trans k0
        have k1 := (hbel.cell (p := ⟨b, off + 2 * 3 + 1, none⟩) hlt).trans k1
        have k2 := (hbel.cell (p := ⟨b, off + 2 * 3 + 1 + 1, none⟩) hlt).trans k2
        simp only [Nat.reduceMul, Nat.add_assoc, Nat.reduceAdd, Nat.add_zero] at k0 k1 k2
        have hn2 : ((2 : Nat) : Int) < (n : Int) := by omega
        have hnn : (2 : Int) < (n : Int) := by omega
        have hL := HL.out 2 (by omega)
        have hcall := fun W => findCmp_is a nm g ra rn rc W
        rw [hcc] at hcall
        clear hcc
        generalize c 2 = ch at hcall hL
        by_cases hs : ch < 0
        · have hs1 : decide (ch < 0) = true := by simpa using hs
          have hk2 := hL.1 hs
          clear hL
          go_wp2_with (go_at_call 84; refine (hcall _).mono ?_; rintro e w1 ⟨rfl, b1⟩)
          go_roundw
          case rel => exact ⟨3, 3, by go_num, by go_num, hk2, hj, hjn, Below.on hbel b1⟩
          case measure => simp [intOf]
        · have hs1 : decide (ch < 0) = false := by simpa using hs
          have hk2 : k ≤ 2 := by have := fun x => hs (hL.2 x); omega
          clear hL
          go_wp2_with (go_at_call 84; refine (hcall _).mono ?_; rintro e w1 ⟨rfl, b1⟩)
          go_roundw
          case rel => exact ⟨2, 2, by go_num, by go_num, hi, hk2, by omega, Below.on hbel b1⟩
          case measure => simp [intOf]
    · have e1 : i = k := by omega
      subst e1
      by_cases hin : i < n
      · obtain ⟨a, g, ra, rn, rc, k0, k1, k2, hcc⟩ := HC.out i hin
        have k0 := (hbel.cell (p := ⟨b, off + i * 3, none⟩) hlt).trans k0
        have k1 := (hbel.cell (p := ⟨b, off + i * 3 + 1, none⟩) hlt).trans k1
        have k2 := (hbel.cell (p := ⟨b, off + i * 3 + 1 + 1, none⟩) hlt).trans k2
        have hni : (i : Int) < (n : Int) := by omega
        have hd : decide ((i : Int) < (n : Int)) = true := by simpa using hni
        have hcall := fun W => findCmp_is a nm g ra rn rc W
        rw [hcc] at hcall
        clear hcc
        have hdn : decide (i < n) = true := by simpa using hin
        have HDn : Hid (decide (i < n) = true) := hdn
        clear hdn hin
        go_wp2_with (go_at_call 84; refine (hcall _).mono ?_; rintro e w1 ⟨rfl, b1⟩)
        go_ret2
        exact ⟨by rw [HDn.out, Bool.true_and]; rfl, Below.on hbel b1⟩
      · have e2 : i = n := by omega
        subst e2
        have hd : decide ((i : Int) < (i : Int)) = false := by simp
        have HDn : Hid (decide (i < i) = false) := by show decide (i < i) = false; simp
        clear hin
        go_wp2_with fail
        go_ret2
        exact ⟨by rw [HDn.out, Bool.false_and]; rfl, hbel⟩
end Go.Proofs.Ytehleeibgkpjmad
/- The program's find: where a name stands among snapshots, or would stand. -/
namespace Go.Proofs.Ytehleeibgkpjmad
open Go.RowKit Go.Shelf
set_option maxRecDepth 20000
set_option linter.unusedVariables false
set_option linter.unusedSimpArgs false

theorem cmp_less : ∀ x y : List UInt8, Lib.compareBytes x y < 0 ↔ Op.bytesLess x y = true
  | [], [] => by simp [Lib.compareBytes, Op.bytesLess]
  | [], _ :: _ => by simp [Lib.compareBytes, Op.bytesLess]
  | _ :: _, [] => by simp [Lib.compareBytes, Op.bytesLess]
  | a :: x, b :: y => by
    have ih := cmp_less x y
    unfold Lib.compareBytes
    simp only [Op.bytesLess, Bool.or_eq_true, Bool.and_eq_true, decide_eq_true_eq, beq_iff_eq]
    by_cases h : a < b
    · simp [h]
    · by_cases h2 : b < a
      · have hne : a ≠ b := fun e => by subst e; exact h h2
        simp [h, h2, hne]
      · have e : a = b := by
          rw [UInt8.lt_iff_toNat_lt] at h h2
          exact UInt8.toNat_inj.1 (by omega)
        simp [h, h2, e, ih]
theorem cmp_zero : ∀ x y : List UInt8, Lib.compareBytes x y = 0 ↔ x = y
  | [], [] => by simp [Lib.compareBytes]
  | [], _ :: _ => by simp [Lib.compareBytes]
  | _ :: _, [] => by simp [Lib.compareBytes]
  | a :: x, b :: y => by
    have ih := cmp_zero x y
    unfold Lib.compareBytes
    by_cases h : a < b
    · have hne : a ≠ b := fun e => by subst e; rw [UInt8.lt_iff_toNat_lt] at h; omega
      simp [h, hne]
    · by_cases h2 : b < a
      · have hne : a ≠ b := fun e => by subst e; exact h h2
        simp [h, h2, hne]
      · have e : a = b := by
          rw [UInt8.lt_iff_toNat_lt] at h h2
          exact UInt8.toNat_inj.1 (by omega)
        simp [h, h2, e, ih]

def posS (S : List SnapD) (nm : ByteArray) : Nat := (S.takeWhile (fun x => lessN x.1 nm)).length
theorem posS_le (S : List SnapD) (nm : ByteArray) : posS S nm ≤ S.length := by
  unfold posS
  have := congrArg List.length (List.takeWhile_append_dropWhile (p := fun x : SnapD => lessN x.1 nm) (l := S))
  rw [List.length_append] at this
  omega
theorem tw_lt {p : SnapD → Bool} : ∀ {L : List SnapD} {j : Nat} (hj : j < L.length), j < (L.takeWhile p).length → p L[j] = true
  | a :: L, 0, _, h => by
    rw [List.takeWhile_cons] at h
    split at h
    · assumption
    · simp at h
  | a :: L, j + 1, hj, h => by
    rw [List.takeWhile_cons] at h
    split at h
    · exact tw_lt (L := L) (by simpa using hj) (by simpa using h)
    · simp at h
theorem tw_at {p : SnapD → Bool} : ∀ {L : List SnapD} (hj : (L.takeWhile p).length < L.length), p (L[(L.takeWhile p).length]) = false
  | [], h => by simp at h
  | a :: L, h => by
    by_cases hp : p a = true
    · have e : ((a :: L).takeWhile p) = a :: L.takeWhile p := by rw [List.takeWhile_cons, if_pos hp]
      have h2 : (L.takeWhile p).length < L.length := by rw [e] at h; simpa using h
      have := tw_at (L := L) h2
      simp only [e, List.length_cons, List.getElem_cons_succ]
      exact this
    · have e : ((a :: L).takeWhile p) = [] := by rw [List.takeWhile_cons, if_neg hp]
      simp only [e, List.length_nil, List.getElem_cons_zero]
      simpa using hp

theorem pos_iff {S : List SnapD} (h : NamesP S) (nm : ByteArray) {j : Nat} (hj : j < S.length) : lessN S[j].1 nm = true ↔ j < posS S nm := by
  constructor
  · intro hl
    apply Decidable.byContradiction
    intro hn
    have hp : posS S nm < S.length := by omega
    have hf : lessN (S[posS S nm]).1 nm = false := tw_at (p := fun x => lessN x.1 nm) hp
    rcases Nat.lt_or_ge (posS S nm) j with h1 | h1
    · have := (List.pairwise_iff_getElem.1 h.2) (posS S nm) j hp hj h1
      have := less_trans this hl
      exact absurd (hf.symm.trans this) (by decide)
    · have e : posS S nm = j := by omega
      simp only [e] at hf
      rw [hl] at hf; cases hf
  · intro h1
    exact tw_lt (p := fun x => lessN x.1 nm) hj h1
theorem pos_here {S : List SnapD} (h : NamesP S) {nm : ByteArray} {k : Nat} (hk : snapIx S nm = some k) : posS S nm = k := by
  have hkl := snapIx_some hk
  unfold snapIx at hk
  have he : (S[k]).1.toList = nm.toList := by
    have := (List.findIdx?_eq_some_iff_getElem.1 hk).2.1
    simpa using this
  have h1 : ¬ k < posS S nm := fun hh => by
    have := (pos_iff h nm hkl).2 hh
    unfold lessN at this
    rw [he, less_irr] at this; cases this
  have h2 : ¬ posS S nm < k := fun hh => by
    have hp : posS S nm < S.length := by omega
    have := (List.pairwise_iff_getElem.1 h.2) (posS S nm) k hp hkl hh
    unfold lessN at this
    rw [he] at this
    have := (pos_iff h nm hp).1 this
    omega
  omega
theorem pos_found {S : List SnapD} (h : NamesP S) (nm : ByteArray) : (snapIx S nm).isSome = (decide (posS S nm < S.length) && ((S.getD (posS S nm) default).1.toList == nm.toList)) := by
  cases hs : snapIx S nm with
  | some k =>
    have hp := pos_here h hs
    have hkl := snapIx_some hs
    unfold snapIx at hs
    have he : (S[k]).1.toList = nm.toList := by
      have := (List.findIdx?_eq_some_iff_getElem.1 hs).2.1
      simpa using this
    rw [hp]
    simp [hkl, he]
  | none =>
    by_cases hl : posS S nm < S.length
    · have := snapIx_none hs S[posS S nm] (List.getElem_mem hl)
      simp [hl, this]
    · simp [hl]

theorem bsearch_none (ao : Option Addr) (cap : Nat) (nm : ByteArray) (w : World) :
    Calls Try.prog 83 #[.slice ao 0 cap, .string nm, .func (.func 84) #[] #[]] w fun r w' => r = .returned (.tuple #[.int .i64 (0 : Int), .bool false]) ∧ Below w.heap.size w w' := by
  go_enter Try.func83, Try.ntmps83
  go_wp2_with fail
  go_loopw [9, 10, 11] (fun s9 s10 _ wr => s9 = .int .i64 0 ∧ s10 = .int .i64 0 ∧ wr = w) (fun _ _ _ _ => 0)
  case atStart => exact ⟨rfl, rfl, rfl⟩
  case round =>
    obtain ⟨rfl, rfl, hw⟩ := hrel
    subst hw
    go_wp2_with fail
    go_ret2
    exact ⟨rfl, Below.refl _ _⟩

theorem find_is {w : World} {v : Value} {S : List SnapD} (h : Snaps w v S) (hN : NamesP S) (h3 : S.length ≤ 3) (nm : ByteArray) {k : Nat} (hk : posS S nm = k) {t : Bool} (ht : (snapIx S nm).isSome = t) :
    Calls Try.prog 51 #[v, .string nm] w fun r w' => r = .returned (.tuple #[.int .i64 (k : Int), .bool t]) ∧ Below w.heap.size w w' := by
  have hb : Calls Try.prog 83 #[v, .string nm, .func (.func 84) #[] #[]] w fun r w' => r = .returned (.tuple #[.int .i64 (k : Int), .bool t]) ∧ Below w.heap.size w w' := by
    obtain ⟨ao, cap, rfl, hm, hc, hS⟩ := h
    rw [pos_found hN] at ht
    by_cases e : S = []
    · subst e
      have e1 : k = 0 := by rw [← hk]; rfl
      have e2 : t = false := by rw [← ht]; simp
      subst e1 e2
      exact bsearch_none ao cap nm w
    · obtain ⟨b, off, rfl, hlt, hA⟩ := hS e
      have hle := posS_le S nm
      have hcz : ∀ j, (hj : j < S.length) → Lib.compareBytes (S.getD j default).1.data.toList nm.data.toList = Lib.compareBytes S[j].1.data.toList nm.data.toList := fun j hj => by simp [List.getD, hj]
      refine (bsearch_at b off cap S.length k nm (fun j => Lib.compareBytes (S.getD j default).1.data.toList nm.data.toList) w h3 hlt (fun j hj => ?_) (by rw [← hk]; exact hle) (fun j hj => ?_)).mono ?_
      · obtain ⟨rv, a0, a1, a2, a3⟩ := hA j hj
        obtain ⟨ra, rc, rfl⟩ := a3.form
        exact ⟨_, _, ra, _, rc, a0, a1, a2, (hcz j hj).symm⟩
      · rw [hcz j hj, cmp_less, ← ByteArray.toList_eq, ← ByteArray.toList_eq, ← hk]
        exact pos_iff hN nm hj
      · rintro r w' ⟨rfl, hbb⟩
        refine ⟨?_, hbb⟩
        rw [← ht, hk]
        by_cases hkl : k < S.length
        · have : ((Lib.compareBytes (S.getD k default).1.data.toList nm.data.toList) == 0) = ((S.getD k default).1.toList == nm.toList) := by
            rw [Bool.eq_iff_iff, beq_iff_eq, beq_iff_eq, cmp_zero, ByteArray.toList_eq, ByteArray.toList_eq]
          rw [this]
        · simp [hkl]
  obtain ⟨ao, cap, rfl⟩ := h.form
  generalize S.length = n at hb
  clear h hN h3 hk ht
  go_enter Try.func51, Try.ntmps51
  go_wp2_with (go_at_call 83; refine hb.mono ?_; rintro e w1 ⟨rfl, b1⟩)
  go_ret2
  exact ⟨rfl, b1⟩
end Go.Proofs.Ytehleeibgkpjmad
/- The desk with a snapshot more. -/
namespace Go.Proofs.Ytehleeibgkpjmad
open Go.RowKit Go.Shelf
set_option maxRecDepth 20000
set_option linter.unusedVariables false
set_option linter.unusedSimpArgs false

def insN (k : Nat) (S : List SnapD) (s : SnapD) : List SnapD := S.take k ++ s :: S.drop k
theorem insN_length {k : Nat} {S : List SnapD} (s : SnapD) (hk : k ≤ S.length) : (insN k S s).length = S.length + 1 := by
  unfold insN; simp; omega
theorem tw_take {p : SnapD → Bool} : ∀ (L : List SnapD), L.takeWhile p = L.take (L.takeWhile p).length ∧ L.dropWhile p = L.drop (L.takeWhile p).length
  | [] => ⟨rfl, rfl⟩
  | a :: L => by
    have ih := tw_take (p := p) L
    cases e : p a with
    | true => rw [List.takeWhile_cons, List.dropWhile_cons, if_pos e, if_pos e]; simp only [List.length_cons, List.take_succ_cons, List.drop_succ_cons]; exact ⟨by rw [← ih.1], ih.2⟩
    | false => rw [List.takeWhile_cons, List.dropWhile_cons, if_neg (by rw [e]; decide), if_neg (by rw [e]; decide)]; exact ⟨rfl, rfl⟩
theorem insS_insN (S : List SnapD) (s : SnapD) : insS S s = insN (posS S s.1) S s := by
  unfold insS insN posS
  rw [← (tw_take S).1, ← (tw_take S).2]
def skip2 (k j : Nat) : Nat := if j < k then j else j - 1
theorem getD_ins {S : List SnapD} {k : Nat} (s : SnapD) (hk : k ≤ S.length) (j : Nat) : (insN k S s).getD j default = if j = k then s else S.getD (skip2 k j) default := by
  have ht : (S.take k).length = k := by rw [List.length_take]; omega
  unfold insN skip2
  simp only [List.getD_eq_getElem?_getD, List.getElem?_append, ht]
  by_cases h : j < k
  · rw [if_pos h, if_neg (by omega), if_pos h, List.getElem?_take, if_pos h]
  · rw [if_neg h, if_neg h]
    by_cases e : j = k
    · rw [if_pos e, e]; simp
    · rw [if_neg e]
      obtain ⟨d, rfl⟩ : ∃ d, j = k + d + 1 := ⟨j - k - 1, by omega⟩
      rw [show k + d + 1 - k = d + 1 by omega, List.getElem?_cons_succ, List.getElem?_drop, show k + d + 1 - 1 = k + d by omega]
def insQ (qv : Nat → Value) (rv : Value) (k : Nat) : Nat → Value := fun j => if j = k then rv else qv (skip2 k j)
theorem flatN_ins {S : List SnapD} {k : Nat} (s : SnapD) (rv : Value) (hk : k ≤ S.length) (qv : Nat → Value) : flatN (insN k S s) (insQ qv rv k) = (flatN S qv).take (k * 3) ++ [.string s.1, .int .i64 s.2.1, rv] ++ (flatN S qv).drop (k * 3) := by
  have hl := flatN_length S qv
  have he := insN_length s hk
  have ht : ((flatN S qv).take (k * 3)).length = k * 3 := by rw [List.length_take, hl]; omega
  refine ext3 (n := S.length + 1) (by rw [flatN_length, he]) (by simp only [List.length_append, List.length_drop, ht, hl, List.length_cons, List.length_nil]; omega) fun q hq => ?_
  obtain ⟨a, b, c⟩ := flatN_get (S := insN k S s) (qv := insQ qv rv k) (j := q) (by omega)
  rw [a, b, c, getD_ins s hk]
  unfold insQ
  simp only [List.append_assoc, List.getElem?_append, ht]
  by_cases h : q < k
  · obtain ⟨a', b', c'⟩ := flatN_get (S := S) (qv := qv) (j := q) (by omega)
    have n1 : ¬ q = k := by omega
    have p0 : q * 3 < k * 3 := by omega
    have p1 : q * 3 + 1 < k * 3 := by omega
    have p2 : q * 3 + 2 < k * 3 := by omega
    rw [if_neg n1, if_neg n1, if_pos p0, if_pos p1, if_pos p2]
    simp only [List.getElem?_take, if_pos p0, if_pos p1, if_pos p2]
    rw [a', b', c']
    unfold skip2; rw [if_pos h]; exact ⟨rfl, rfl, rfl⟩
  · rw [if_neg (show ¬ q * 3 < k * 3 by omega), if_neg (show ¬ q * 3 + 1 < k * 3 by omega), if_neg (show ¬ q * 3 + 2 < k * 3 by omega)]
    by_cases e : q = k
    · subst e
      rw [if_pos rfl, if_pos rfl, show q * 3 - q * 3 = 0 by omega, show q * 3 + 1 - q * 3 = 1 by omega, show q * 3 + 2 - q * 3 = 2 by omega]
      exact ⟨rfl, rfl, rfl⟩
    · rw [if_neg e, if_neg e]
      obtain ⟨a', b', c'⟩ := flatN_get (S := S) (qv := qv) (j := q - 1) (by omega)
      unfold skip2
      rw [if_neg h, ← a', ← b', ← c']
      simp only [List.length_cons, List.length_nil]
      rw [if_neg (show ¬ q * 3 - k * 3 < 0 + 1 + 1 + 1 by omega), if_neg (show ¬ q * 3 + 1 - k * 3 < 0 + 1 + 1 + 1 by omega), if_neg (show ¬ q * 3 + 2 - k * 3 < 0 + 1 + 1 + 1 by omega)]
      simp only [List.getElem?_drop]
      exact ⟨by congr 1; omega, by congr 1; omega, by congr 1; omega⟩

def insVal (val : Nm → Value) (v rv : Value) (k : Nat) : Nm → Value := fun a => if a.kind = 5 then insQ (fun j => val (.sr j)) rv k a.ix else if a.kind = 3 then v else val a
def insNm (k : Nat) (a : Nm) : Nm := if a.kind = 5 then .sr (skip2 k a.ix) else a
def isNew (k : Nat) (a : Nm) : Prop := a.kind = 5 ∧ a.ix = k
def insM (m : ImgD) (k : Nat) (s : SnapD) : ImgD := { m with snaps := insN k m.snaps s }
theorem insVal_new {val : Nm → Value} {v rv : Value} {k : Nat} {a : Nm} (h : isNew k a) : insVal val v rv k a = rv := by
  unfold insVal insQ; rw [if_pos h.1, if_pos h.2]
theorem insVal_eq {val : Nm → Value} {v rv : Value} {k : Nat} {a : Nm} (h : a.kind ≠ 3) (hn : ¬ isNew k a) : insVal val v rv k a = val (insNm k a) := by
  unfold insVal insNm
  by_cases e : a.kind = 5
  · rw [if_pos e, if_pos e]; unfold insQ; rw [if_neg (fun x => hn ⟨e, x⟩)]
  · rw [if_neg e, if_neg e, if_neg h]
theorem insNm_kind (k : Nat) (a : Nm) : (insNm k a).kind = a.kind := by
  unfold insNm
  split
  · rename_i e; rw [e]
  · rfl
theorem insNm_live {m : ImgD} {k : Nat} {s : SnapD} (hk : k ≤ m.snaps.length) {a : Nm} (h : Live (insM m k s) a) (hn : ¬ isNew k a) : Live m (insNm k a) := by
  have he := insN_length s hk
  rcases h with ⟨h1, h2⟩ | ⟨h1, h2⟩ | ⟨h1, h2⟩
  · have : a.kind ≠ 5 := by omega
    unfold insNm; rw [if_neg this]; exact .inl ⟨h1, h2⟩
  · have : a.kind ≠ 5 := by omega
    unfold insNm; rw [if_neg this]; exact .inr (.inl ⟨h1, h2⟩)
  · unfold insNm; rw [if_pos h1]
    have h2 : a.ix < (insN k m.snaps s).length := h2
    have hne : a.ix ≠ k := fun x => hn ⟨h1, x⟩
    exact Live.sr (by unfold skip2; split <;> omega)
theorem insNm_inj {k : Nat} {a b : Nm} (h : a ≠ b) (ha : ¬ isNew k a) (hb : ¬ isNew k b) : insNm k a ≠ insNm k b := fun e => by
  have hk := congrArg Nm.kind e
  rw [insNm_kind, insNm_kind] at hk
  apply h
  unfold insNm at e
  by_cases h5 : a.kind = 5
  · rw [if_pos h5, if_pos (hk ▸ h5)] at e
    have e := congrArg Nm.ix e
    have e : skip2 k a.ix = skip2 k b.ix := e
    have na : a.ix ≠ k := fun x => ha ⟨h5, x⟩
    have nb : b.ix ≠ k := fun x => hb ⟨hk ▸ h5, x⟩
    have : a.ix = b.ix := by unfold skip2 at e; split at e <;> split at e <;> omega
    cases a; cases b; simp_all
  · rw [if_neg h5, if_neg (hk ▸ h5)] at e
    exact e
theorem isNew_eq {k : Nat} {a : Nm} (h : isNew k a) : a = .sr k := by obtain ⟨x, y⟩ := a; obtain ⟨h1, h2⟩ := h; simp_all

theorem OI.ins {W W' : World} {B k : Nat} {val : Nm → Value} {m : ImgD} {v rv : Value} {s : SnapD} (h : OI W B val m) (hk : k ≤ m.snaps.length)
    (hr : W.ownsRow B 3 1 rv s.2.2.length (ints s.2.2)) (hrf : ∀ b, Live m b → ∀ g, rv.ownBlock = some g → (val b).ownBlock ≠ some g)
    (hv : W'.ownsRow B 72 3 v (m.snaps.length + 1) ((flatN m.snaps (fun j => val (.sr j))).take (k * 3) ++ [.string s.1, .int .i64 s.2.1, rv] ++ (flatN m.snaps (fun j => val (.sr j))).drop (k * 3)))
    (hg : W.grownBy W' (val .snaps).ownBlock) (hb : v.ownBlock = (val .snaps).ownBlock ∨ v.ownBlock = some W.heap.size) : OI W' B (insVal val v rv k) (insM m k s) := by
  have hold : ∀ a, Live m a → a ≠ .snaps → ∀ g, (val a).ownBlock = some g → v.ownBlock ≠ some g := fun a ha hne g hga x => by
    rcases hb with e | e
    · exact h.apart a .snaps ha (Live.snaps m) hne g hga (e.symm.trans x)
    · rw [e] at x
      have := ((h.row a ha).lt g hga).2
      have x := Option.some.inj x
      omega
  have hnew : ∀ g, rv.ownBlock = some g → v.ownBlock ≠ some g := fun g hga x => by
    rcases hb with e | e
    · exact hrf .snaps (Live.snaps m) g hga (e.symm.trans x)
    · rw [e] at x
      have := (hr.lt g hga).2
      have x := Option.some.inj x
      omega
  have hns : ∀ {a : Nm}, a.kind ≠ 3 → insNm k a ≠ .snaps := fun {a} e y => e (by rw [← insNm_kind k a, y])
  refine ⟨fun a ha => ?_, fun a b ha hb2 hab g hga => ?_⟩
  · by_cases e : a.kind = 3
    · have ea := live3 ha e
      subst ea
      rw [← flatN_ins s rv hk, ← insN_length s hk] at hv
      exact hv
    · by_cases en : isNew k a
      · have ea := isNew_eq en
        subst ea
        have hr' := hr.kept hg (by
          cases eq : rv.ownBlock with
          | none => exact .inl rfl
          | some g => exact .inr (fun x => hrf .snaps (Live.snaps m) g eq x.symm))
        rw [insVal_new en]
        have e3 : rowN (insM m k s) (.sr k) = s.2.2.length := by
          show ((insN k m.snaps s).getD k default).2.2.length = _
          rw [getD_ins s hk, if_pos rfl]
        have e4 : rowV (insM m k s) (insVal val v rv k) (.sr k) = ints s.2.2 := by
          show ints ((insN k m.snaps s).getD k default).2.2 = _
          rw [getD_ins s hk, if_pos rfl]
        rw [e3, e4]; exact hr'
      · have hl := insNm_live hk ha en
        have hr := h.row (insNm k a) hl
        have hr := hr.kept hg (by
          cases eq : (val (insNm k a)).ownBlock with
          | none => exact .inl rfl
          | some g => exact .inr (fun x => h.apart (insNm k a) .snaps hl (Live.snaps m) (hns e) g eq x.symm))
        rw [insVal_eq e en]
        have e1 : rowT (insNm k a) = rowT a := by unfold rowT; rw [insNm_kind]
        have e2 : rowS (insNm k a) = rowS a := by unfold rowS; rw [insNm_kind]
        rw [e1, e2] at hr
        rcases ha.cases with rfl | rfl | rfl | rfl | ⟨j, rfl, hj⟩ | ⟨j, rfl, hj⟩
        · exact hr
        · exact hr
        · exact hr
        · exact absurd rfl e
        · exact hr
        · have hjk : j ≠ k := fun x => en ⟨rfl, x⟩
          have e3 : rowN (insM m k s) (.sr j) = rowN m (insNm k (.sr j)) := by
            show ((insN k m.snaps s).getD j default).2.2.length = (m.snaps.getD (skip2 k j) default).2.2.length
            rw [getD_ins s hk, if_neg hjk]
          have e4 : rowV (insM m k s) (insVal val v rv k) (.sr j) = rowV m val (insNm k (.sr j)) := by
            show ints ((insN k m.snaps s).getD j default).2.2 = ints (m.snaps.getD (skip2 k j) default).2.2
            rw [getD_ins s hk, if_neg hjk]
          rw [e3, e4]; exact hr
  · by_cases ea : a.kind = 3
    · have ea' := live3 ha ea
      have eb : b.kind ≠ 3 := fun x => hab (ea'.trans (live3 hb2 x).symm)
      subst ea'
      have hga : v.ownBlock = some g := hga
      by_cases nb : isNew k b
      · rw [insVal_new nb]; exact fun x => hnew g x hga
      · rw [insVal_eq eb nb]; exact fun x => hold _ (insNm_live hk hb2 nb) (hns eb) g x hga
    · by_cases na : isNew k a
      · rw [insVal_new na] at hga
        by_cases eb : b.kind = 3
        · have eb' := live3 hb2 eb
          subst eb'
          exact hnew g hga
        · have nb : ¬ isNew k b := fun x => hab ((isNew_eq na).trans (isNew_eq x).symm)
          rw [insVal_eq eb nb]
          exact hrf _ (insNm_live hk hb2 nb) g hga
      · rw [insVal_eq ea na] at hga
        by_cases eb : b.kind = 3
        · have eb' := live3 hb2 eb
          subst eb'
          exact hold _ (insNm_live hk ha na) (hns ea) g hga
        · by_cases nb : isNew k b
          · rw [insVal_new nb]; exact fun x => hrf _ (insNm_live hk ha na) g x hga
          · rw [insVal_eq eb nb]
            exact h.apart _ _ (insNm_live hk ha na) (insNm_live hk hb2 nb) (insNm_inj hab na nb) g hga

theorem DTo.ins {W W' : World} {B D k : Nat} {val : Nm → Value} {m : ImgD} {v rv : Value} {s : SnapD} (h : DK W B D val m) (hB : B ≤ W.heap.size) (hk : k ≤ m.snaps.length)
    (hr : W.ownsRow B 3 1 rv s.2.2.length (ints s.2.2)) (hrf : ∀ b, Live m b → ∀ g, rv.ownBlock = some g → (val b).ownBlock ≠ some g) (hrD : rv.ownBlock ≠ some D)
    (hv : W'.ownsRow B 72 3 v (m.snaps.length + 1) ((flatN m.snaps (fun j => val (.sr j))).take (k * 3) ++ [.string s.1, .int .i64 s.2.1, rv] ++ (flatN m.snaps (fun j => val (.sr j))).drop (k * 3)))
    (hg : W.grownBy W' (val .snaps).ownBlock) (hb : v.ownBlock = (val .snaps).ownBlock ∨ v.ownBlock = some W.heap.size) : DTo W (W'.setCell ⟨D, 4, none⟩ v) B D m val rv (insM m k s) (insVal val v rv k) := by
  have hval : ∀ q, q < W.heap.size → rv.ownBlock ≠ some q → (∀ b, Live m b → (val b).ownBlock ≠ some q) → ∀ a, Live (insM m k s) a → (insVal val v rv k a).ownBlock ≠ some q := fun q hq hrq hm a ha => by
    by_cases e : a.kind = 3
    · have ea := live3 ha e
      subst ea
      show v.ownBlock ≠ some q
      rcases hb with x | x
      · rw [x]; exact hm .snaps (Live.snaps m)
      · rw [x]; intro y; have := Option.some.inj y; omega
    · by_cases en : isNew k a
      · rw [insVal_new en]; exact hrq
      · rw [insVal_eq e en]; exact hm _ (insNm_live hk ha en)
  have hf := hval D h.lt hrD h.far
  have hbel : Below B W W' := Below.grown (Below.refl _ _) hg hB (fun q e => ((h.own.row .snaps (Live.snaps m)).lt q e).1)
  refine ⟨⟨(h.own.ins hk hr hrf hv hg hb).far hf, ?_, h.ge, hf⟩, hbel.setCell h.ge _, fun q hq hD _ hm => (Below.heap_setCell W' ⟨D, 4, none⟩ v q hD).trans (hg.block q hq (fun e => hm .snaps (Live.snaps m) e.symm)), fun q hq hrq hm => hval q hq hrq hm⟩
  have hbox := (hg.block D h.lt (fun e => h.far .snaps (Live.snaps m) e.symm)).trans h.box
  exact cells_set hbox 4 v
end Go.Proofs.Ytehleeibgkpjmad
/- Of one's own: two lists that are copied in whatever order; a snapshot that is put behind all. -/
namespace Go.Proofs.Ytehleeibgkpjmad
open Go.RowKit Go.Shelf
set_option maxRecDepth 20000
set_option linter.unusedVariables false

abbrev e3 : Obj := .cells #[] 3
structure CpI (w1 : World) (xs ys : List Int) (a b : Option Value) (W : World) : Prop where
  bel : Below w1.heap.size w1 W
  ra : ∀ v, a = some v → W.ownsRow w1.heap.size 3 1 v xs.length (ints xs)
  rb : ∀ v, b = some v → W.ownsRow w1.heap.size 3 1 v ys.length (ints ys)
  ap : ∀ v u, a = some v → b = some u → ∀ g, v.ownBlock = some g → u.ownBlock ≠ some g
theorem CpI.zero (w1 : World) (xs ys : List Int) : CpI w1 xs ys none none w1 := ⟨Below.refl _ _, fun v h => by (cases h), fun v h => by (cases h), fun v u h => by (cases h)⟩
theorem CpI.alloc {w1 : World} {xs ys : List Int} {a b : Option Value} {W : World} (h : CpI w1 xs ys a b W) (o : Obj) : CpI w1 xs ys a b (W.alloc o) :=
  ⟨h.bel.alloc h.bel.size o, fun v e => (h.ra v e).alloc o, fun v e => (h.rb v e).alloc o, h.ap⟩
theorem CpI.drew {w1 : World} {xs ys : List Int} {a b : Option Value} {W : World} (h : CpI w1 xs ys a b W) : CpI w1 xs ys a b W.drew :=
  ⟨h.bel.drew, fun v e => (h.ra v e).drew, fun v e => (h.rb v e).drew, h.ap⟩
end Go.Proofs.Ytehleeibgkpjmad
/- An image of one's own, as the document makes it: a table that has no entry may be whatever slice there was; all other lists lie in rows of their own, in memory that came since B. -/
namespace Go.Proofs.Ytehleeibgkpjmad
open Go.RowKit Go.Shelf
set_option maxRecDepth 20000
set_option linter.unusedVariables false

abbrev tbl (m : ImgD) (j : Nat) : List Int := (m.slots.getD j default).2.2
def LiveX (m : ImgD) (a : Nm) : Prop := (a.kind < 4 ∧ a.ix = 0) ∨ (a.kind = 4 ∧ a.ix < m.slots.length ∧ tbl m a.ix ≠ []) ∨ (a.kind = 5 ∧ a.ix < m.snaps.length)
theorem LiveX.cases {m : ImgD} {a : Nm} (h : LiveX m a) : a = .root ∨ a = .slots ∨ a = .refs ∨ a = .snaps ∨ (∃ j, a = .tab j ∧ j < m.slots.length ∧ tbl m j ≠ []) ∨ ∃ j, a = .sr j ∧ j < m.snaps.length := by
  obtain ⟨k, j⟩ := a
  rcases h with ⟨h1, h2⟩ | ⟨h1, h2⟩ | ⟨h1, h2⟩
  · dsimp only at h1 h2
    subst h2
    match k, h1 with
    | 0, _ => exact .inl rfl
    | 1, _ => exact .inr (.inl rfl)
    | 2, _ => exact .inr (.inr (.inl rfl))
    | 3, _ => exact .inr (.inr (.inr (.inl rfl)))
  · dsimp only at h1 h2; subst h1; exact .inr (.inr (.inr (.inr (.inl ⟨j, rfl, h2⟩))))
  · dsimp only at h1 h2; subst h1; exact .inr (.inr (.inr (.inr (.inr ⟨j, rfl, h2⟩))))
theorem LiveX.root (m : ImgD) : LiveX m .root := .inl ⟨by decide, rfl⟩
theorem LiveX.slots (m : ImgD) : LiveX m .slots := .inl ⟨by decide, rfl⟩
theorem LiveX.refs (m : ImgD) : LiveX m .refs := .inl ⟨by decide, rfl⟩
theorem LiveX.snaps (m : ImgD) : LiveX m .snaps := .inl ⟨by decide, rfl⟩
theorem LiveX.tab {m : ImgD} {j : Nat} (h : j < m.slots.length ∧ tbl m j ≠ []) : LiveX m (.tab j) := .inr (.inl ⟨rfl, h⟩)
theorem LiveX.sr {m : ImgD} {j : Nat} (h : j < m.snaps.length) : LiveX m (.sr j) := .inr (.inr ⟨rfl, h⟩)
theorem liveX_iff {m m' : ImgD} (h1 : m'.slots.length = m.slots.length) (h2 : m'.snaps.length = m.snaps.length) (h3 : ∀ j, tbl m' j = [] ↔ tbl m j = []) (b : Nm) : LiveX m' b ↔ LiveX m b := by
  unfold LiveX
  rw [h1, h2, ne_eq, ne_eq, h3]
theorem LiveX.live {m : ImgD} {a : Nm} (h : LiveX m a) : Live m a := by
  rcases h with h | h | h
  · exact .inl h
  · exact .inr (.inl ⟨h.1, h.2.1⟩)
  · exact .inr (.inr h)
structure OX (W : World) (B : Nat) (val : Nm → Value) (m : ImgD) : Prop where
  row : ∀ a, LiveX m a → W.ownsRow B (rowT a) (rowS a) (val a) (rowN m a) (rowV m val a)
  apart : ∀ a b, LiveX m a → LiveX m b → a ≠ b → ∀ g, (val a).ownBlock = some g → (val b).ownBlock ≠ some g
  loose : ∀ j, j < m.slots.length → tbl m j = [] → ∃ ao cap, val (.tab j) = .slice ao 0 cap
theorem OX.keep {W W' : World} {B : Nat} {val : Nm → Value} {m : ImgD} (h : OX W B val m) (hk : ∀ g, B ≤ g → g < W.heap.size → W'.heap[g]? = W.heap[g]?) : OX W' B val m := by
  refine ⟨fun a ha => ?_, h.apart, h.loose⟩
  have hr := h.row a ha
  refine ⟨hr.1, ?_⟩
  rcases hr.2 with hn | ⟨g, cap, cur, hv, hb, hg, rest⟩
  · exact .inl hn
  · exact .inr ⟨g, cap, cur, hv, hb, (hk g hb (Array.getElem?_eq_some_iff.1 hg).1).trans hg, rest⟩
theorem OX.below {W W' : World} {B : Nat} {val : Nm → Value} {m : ImgD} (h : OX W B val m) (hb : Below W.heap.size W W') : OX W' B val m := h.keep fun g _ hg => hb.block g hg
theorem OX.alloc {W : World} {B : Nat} {val : Nm → Value} {m : ImgD} (h : OX W B val m) (o : Obj) : OX (W.alloc o) B val m := h.below ((Below.refl _ _).alloc (Nat.le_refl _) o)
theorem OX.drew {W : World} {B : Nat} {val : Nm → Value} {m : ImgD} (h : OX W B val m) : OX W.drew B val m := ⟨fun a ha => (h.row a ha).drew, h.apart, h.loose⟩

theorem OX.mono {W : World} {B B' : Nat} {val : Nm → Value} {m : ImgD} (h : OX W B val m) (hb : B' ≤ B) : OX W B' val m := by
  refine ⟨fun a ha => ?_, h.apart, h.loose⟩
  have hr := h.row a ha
  refine ⟨hr.1, ?_⟩
  rcases hr.2 with hn | ⟨g, cap, cur, hv, hg, rest⟩
  · exact .inl hn
  · exact .inr ⟨g, cap, cur, hv, Nat.le_trans hb hg, rest⟩
theorem OX.tabSl {W : World} {B : Nat} {val : Nm → Value} {m : ImgD} (h : OX W B val m) {j : Nat} (hj : j < m.slots.length) : Sl W (val (.tab j)) (tbl m j) := by
  by_cases e : tbl m j = []
  · obtain ⟨ao, cap, ev⟩ := h.loose j hj e
    rw [ev, e]
    exact ⟨ao, cap, rfl, Nat.zero_le _, Nat.zero_le _, fun x => absurd rfl x⟩
  · exact row_sl (h.row (.tab j) (LiveX.tab ⟨hj, e⟩))
theorem OX.img {W : World} {B : Nat} {val : Nm → Value} {m : ImgD} (h : OX W B val m) : Img W (imgV m.guest val) m :=
  ⟨_, _, _, _, rfl, row_sl (h.row .root (LiveX.root m)), row_slots (h.row .slots (LiveX.slots m)) (fun j hj => h.tabSl hj), row_sl (h.row .refs (LiveX.refs m)), row_snaps (h.row .snaps (LiveX.snaps m)) (fun j hj => row_sl (h.row (.sr j) (LiveX.sr hj)))⟩
def FarX (m : ImgD) (val : Nm → Value) (a : Nm) (v : Value) : Prop := ∀ b, LiveX m b → b ≠ a → ∀ g, v.ownBlock = some g → (val b).ownBlock ≠ some g
theorem farX_new {W : World} {B : Nat} {val : Nm → Value} {m : ImgD} (h : OX W B val m) (a : Nm) {v : Value} (hv : ∀ g, v.ownBlock = some g → W.heap.size ≤ g) : FarX m val a v := fun b hb _ g hg e => by
  have := ((h.row b hb).lt g e).2
  have := hv g hg
  omega
theorem farX_nil (m : ImgD) (val : Nm → Value) (a : Nm) (n cap : Nat) : FarX m val a (.slice none n cap) := fun _ _ _ g hg => by cases hg

theorem OX.swap {W : World} {B : Nat} {val : Nm → Value} {m m' : ImgD} (h : OX W B val m) {a : Nm} (ha : LiveX m a) {v : Value} (hv : W.ownsRow B (rowT a) (rowS a) v (rowN m' a) (rowV m' (upd val a v) a)) (hfar : FarX m val a v)
    (hlive : ∀ b, LiveX m' b ↔ LiveX m b) (hsame : ∀ b, LiveX m b → b ≠ a → rowN m' b = rowN m b ∧ rowV m' (upd val a v) b = rowV m val b) (hloose : ∀ j, j < m'.slots.length → tbl m' j = [] → a ≠ .tab j ∧ j < m.slots.length ∧ tbl m j = []) : OX W B (upd val a v) m' := by
  refine ⟨fun b hb => ?_, fun b c hb hc hne g hg => ?_, fun j hj e => by obtain ⟨h1, h2, h3⟩ := hloose j hj e; rw [upd_other val v (fun x => h1 x.symm)]; exact h.loose j h2 h3⟩
  · have hb := (hlive b).1 hb
    by_cases e : b = a
    · subst e; rw [upd_same]; exact hv
    · rw [upd_other val v e, (hsame b hb e).1, (hsame b hb e).2]; exact h.row b hb
  · have hb := (hlive b).1 hb
    have hc := (hlive c).1 hc
    by_cases e : b = a
    · subst e
      rw [upd_same] at hg
      rw [upd_other val v (fun x => hne x.symm)]
      exact hfar c hc (fun x => hne x.symm) g hg
    · rw [upd_other val v e] at hg
      by_cases e2 : c = a
      · subst e2
        rw [upd_same]
        exact fun x => hfar b hb e g x hg
      · rw [upd_other val v e2]; exact h.apart b c hb hc hne g hg
theorem OX.swapRoot {W : World} {B : Nat} {val : Nm → Value} {m : ImgD} (h : OX W B val m) {v : Value} {r : List Int} (hv : W.ownsRow B 3 1 v r.length (ints r)) (hfar : FarX m val .root v) (g : Int) : OX W B (upd val .root v) { m with guest := g, root := r } := by
  refine h.swap (a := .root) (LiveX.root m) hv hfar (liveX_iff rfl rfl fun _ => Iff.rfl) (fun b hb hne => ?_) (fun j hj e => ⟨(by intro x; cases x), hj, e⟩)
  rcases hb.cases with rfl | rfl | rfl | rfl | ⟨j, rfl, hj⟩ | ⟨j, rfl, hj⟩ <;> first | exact ⟨rfl, rfl⟩ | exact absurd rfl hne
theorem OX.swapRefs {W : World} {B : Nat} {val : Nm → Value} {m : ImgD} (h : OX W B val m) {v : Value} {r : List Int} (hv : W.ownsRow B 3 1 v r.length (ints r)) (hfar : FarX m val .refs v) : OX W B (upd val .refs v) { m with refs := r } := by
  refine h.swap (a := .refs) (LiveX.refs m) hv hfar (liveX_iff rfl rfl fun _ => Iff.rfl) (fun b hb hne => ?_) (fun j hj e => ⟨(by intro x; cases x), hj, e⟩)
  rcases hb.cases with rfl | rfl | rfl | rfl | ⟨j, rfl, hj⟩ | ⟨j, rfl, hj⟩ <;> first | exact ⟨rfl, rfl⟩ | exact absurd rfl hne

theorem OX.setSlot {W : World} {B : Nat} {val : Nm → Value} {m : ImgD} (h : OX W B val m) {t : Nat} (ht : t < m.slots.length) {g n cap : Nat} (hv : val .slots = .slice (some ⟨g, 0, none⟩) n cap) (k : Int) (d : ByteArray) (es : List Int) {ev : Value}
    (hev : W.ownsRow B 3 1 ev es.length (ints es)) (hfar : FarX m val (.tab t) ev) :
    OX (((W.setCell ⟨g, t * 3, none⟩ (.int .i64 k)).setCell ⟨g, t * 3 + 1, none⟩ (.string d)).setCell ⟨g, t * 3 + 2, none⟩ ev) B (upd val (.tab t) ev) { m with slots := m.slots.set t (k, d, es) } := by
  have hgd := fun j => getD_setR m.slots t j (k, d, es)
  have hnn : n = m.slots.length := by
    rcases row_form (h.row .slots (LiveX.slots m)) with ⟨e, _⟩ | ⟨g', cap', e, _⟩
    · rw [hv] at e; simp at e
    · rw [hv] at e; simp at e; exact e.2.1
  have hoth : ∀ {e : TypeId} {size : Nat} {v : Value} {q : Nat} {xs : List Value}, W.ownsRow B e size v q xs → v.ownBlock ≠ some g →
      (((W.setCell ⟨g, t * 3, none⟩ (.int .i64 k)).setCell ⟨g, t * 3 + 1, none⟩ (.string d)).setCell ⟨g, t * 3 + 2, none⟩ ev).ownsRow B e size v q xs := fun hr hne =>
    ownsRow_setCell_other (ownsRow_setCell_other (ownsRow_setCell_other hr hne _) hne _) hne _
  have hlive : ∀ b, LiveX { m with slots := m.slots.set t (k, d, es) } b → b ≠ .tab t → LiveX m b := fun b hb hne => by
    rcases hb.cases with rfl | rfl | rfl | rfl | ⟨j, rfl, hj⟩ | ⟨j, rfl, hj⟩
    · exact LiveX.root m
    · exact LiveX.slots m
    · exact LiveX.refs m
    · exact LiveX.snaps m
    · refine LiveX.tab ⟨?_, ?_⟩
      · have := hj.1
        rwa [show (m.slots.set t (k, d, es)).length = m.slots.length from List.length_set] at this
      · have := hj.2
        have e : tbl { m with slots := m.slots.set t (k, d, es) } j = tbl m j := by
          show ((m.slots.set t (k, d, es)).getD j default).2.2 = _
          rw [hgd, if_neg (fun x => hne (by rw [x.1]))]
        rwa [e] at this
    · exact LiveX.sr hj
  refine ⟨fun b hb => ?_, fun b c hb hc hne q hq => ?_, fun j hj e => ?_⟩
  · by_cases es0 : b = .slots
    · subst es0
      rw [upd_other val ev (by intro x; cases x)]
      have hr := h.row .slots (LiveX.slots m)
      have e1 : rowV { m with slots := m.slots.set t (k, d, es) } (upd val (.tab t) ev) .slots = (((rowV m val .slots).set (t * 3) (.int .i64 k)).set (t * 3 + 1) (.string d)).set (t * 3 + 2) ev := by
        have := flatS_set (L := m.slots) (tv := fun j => val (.tab j)) (tv' := fun j => upd val (.tab t) ev (.tab j)) (t := t) k d es (fun j hj => upd_other val ev (by intro x; apply hj; injection x))
        rw [upd_same] at this
        exact this
      have e2 : rowN { m with slots := m.slots.set t (k, d, es) } .slots = rowN m .slots := List.length_set
      rw [e1, e2]
      have hN : rowN m .slots = n := hnn.symm
      rw [hN] at hr ⊢
      rw [hv] at hr ⊢
      exact ((((hr.stored (t * 3) (.int .i64 k)).1).stored (t * 3 + 1) (.string d)).1.stored (t * 3 + 2) ev).1
    · by_cases et : b = .tab t
      · subst et
        rw [upd_same]
        have e1 : rowV { m with slots := m.slots.set t (k, d, es) } (upd val (.tab t) ev) (.tab t) = ints es := by
          show ints ((m.slots.set t (k, d, es)).getD t default).2.2 = _
          rw [hgd, if_pos ⟨rfl, ht⟩]
        have e2 : rowN { m with slots := m.slots.set t (k, d, es) } (.tab t) = es.length := by
          show ((m.slots.set t (k, d, es)).getD t default).2.2.length = _
          rw [hgd, if_pos ⟨rfl, ht⟩]
        rw [e1, e2]
        exact hoth hev (fun x => hfar .slots (LiveX.slots m) (by intro y; cases y) g x (by rw [hv]; rfl))
      · have hb' := hlive b hb et
        have hbg : (val b).ownBlock ≠ some g := h.apart .slots b (LiveX.slots m) hb' (fun x => es0 x.symm) g (by rw [hv]; rfl)
        rw [upd_other val ev et]
        have e1 : rowV { m with slots := m.slots.set t (k, d, es) } (upd val (.tab t) ev) b = rowV m val b ∧ rowN { m with slots := m.slots.set t (k, d, es) } b = rowN m b := by
          rcases hb'.cases with rfl | rfl | rfl | rfl | ⟨j, rfl, hj⟩ | ⟨j, rfl, hj⟩
          · exact ⟨rfl, rfl⟩
          · exact absurd rfl es0
          · exact ⟨rfl, rfl⟩
          · exact ⟨rfl, rfl⟩
          · have hjt : t ≠ j := fun x => et (by rw [x])
            constructor
            · show ints ((m.slots.set t (k, d, es)).getD j default).2.2 = ints (m.slots.getD j default).2.2
              rw [hgd, if_neg (fun x => hjt x.1)]
            · show ((m.slots.set t (k, d, es)).getD j default).2.2.length = (m.slots.getD j default).2.2.length
              rw [hgd, if_neg (fun x => hjt x.1)]
          · exact ⟨rfl, rfl⟩
        rw [e1.1, e1.2]
        exact hoth (h.row b hb') hbg
  · by_cases e : b = .tab t
    · subst e
      rw [upd_same] at hq
      rw [upd_other val ev (fun x => hne x.symm)]
      exact hfar c (hlive c hc (fun x => hne x.symm)) (fun x => hne x.symm) q hq
    · rw [upd_other val ev e] at hq
      have hb' := hlive b hb e
      by_cases e2 : c = .tab t
      · subst e2; rw [upd_same]; exact fun x => hfar b hb' e q x hq
      · rw [upd_other val ev e2]; exact h.apart b c hb' (hlive c hc e2) hne q hq
  · rw [show ({ m with slots := m.slots.set t (k, d, es) } : ImgD).slots.length = m.slots.length from List.length_set] at hj
    have e : ((m.slots.set t (k, d, es)).getD j default).2.2 = [] := e
    rw [hgd] at e
    by_cases ej : t = j
    · subst ej
      rw [if_pos ⟨rfl, hj⟩] at e
      have e : es = [] := e
      rw [upd_same]
      rw [e] at hev
      rcases row_form hev with ⟨x, _⟩ | ⟨g', cap', x, _⟩
      · exact ⟨_, _, x⟩
      · exact ⟨_, _, x⟩
    · rw [if_neg (fun x => ej x.1)] at e
      rw [upd_other val ev (by intro x; apply ej; injection x with _ x; exact x.symm)]
      exact h.loose j hj e
theorem OX.addSlot {W W' : World} {B : Nat} {val : Nm → Value} {m : ImgD} (h : OX W B val m) {k : Int} {d : ByteArray} {es : List Int} {ev sv : Value} (hev : es ≠ [] → W.ownsRow B 3 1 ev es.length (ints es)) (hev0 : es = [] → ∃ ao cap, ev = .slice ao 0 cap) (hfar : es ≠ [] → FarX m val (.tab m.slots.length) ev)
    (hgrow : W.grownBy W' (val .slots).ownBlock) (hrow : W'.ownsRow B 52 3 sv (m.slots.length + 1) (flatS m.slots (fun j => val (.tab j)) ++ [.int .i64 k, .string d, ev])) (hblk : sv.ownBlock = (val .slots).ownBlock ∨ ∀ g, sv.ownBlock = some g → W.heap.size ≤ g) :
    OX W' B (upd (upd val (.tab m.slots.length) ev) .slots sv) { m with slots := m.slots ++ [(k, d, es)] } := by
  have hval : ∀ b, b ≠ .slots → b ≠ .tab m.slots.length → upd (upd val (.tab m.slots.length) ev) .slots sv b = val b := fun b h1 h2 => by rw [upd_other _ sv h1, upd_other _ ev h2]
  have hvs : upd (upd val (.tab m.slots.length) ev) .slots sv .slots = sv := upd_same _ _ _
  have hvt : upd (upd val (.tab m.slots.length) ev) .slots sv (.tab m.slots.length) = ev := by rw [upd_other _ sv (by intro x; cases x), upd_same]
  have hcase : ∀ b, LiveX { m with slots := m.slots ++ [(k, d, es)] } b → b = .slots ∨ (b = .tab m.slots.length ∧ es ≠ []) ∨ (LiveX m b ∧ b ≠ .slots ∧ b ≠ .tab m.slots.length) := fun b hb => by
    rcases hb.cases with rfl | rfl | rfl | rfl | ⟨j, rfl, hj⟩ | ⟨j, rfl, hj⟩
    · exact .inr (.inr ⟨LiveX.root m, (by intro x; cases x), (by intro x; cases x)⟩)
    · exact .inl rfl
    · exact .inr (.inr ⟨LiveX.refs m, (by intro x; cases x), (by intro x; cases x)⟩)
    · exact .inr (.inr ⟨LiveX.snaps m, (by intro x; cases x), (by intro x; cases x)⟩)
    · obtain ⟨hj, hjn⟩ := hj
      by_cases e : j = m.slots.length
      · subst e
        refine .inr (.inl ⟨rfl, ?_⟩)
        have hjn : ((m.slots ++ [(k, d, es)]).getD m.slots.length default).2.2 ≠ [] := hjn
        simpa [List.getD] using hjn
      · have hjl : j < m.slots.length := by simp at hj; omega
        refine .inr (.inr ⟨LiveX.tab ⟨hjl, ?_⟩, (by intro x; cases x), ?_⟩)
        · have hjn : ((m.slots ++ [(k, d, es)]).getD j default).2.2 ≠ [] := hjn
          have e : (m.slots ++ [(k, d, es)]).getD j default = m.slots.getD j default := by simp [List.getD, List.getElem?_append, hjl]
          rwa [e] at hjn
        · intro x; apply e; injection x
    · exact .inr (.inr ⟨LiveX.sr hj, (by intro x; cases x), (by intro x; cases x)⟩)
  have hnot : ∀ b, LiveX m b → b ≠ .slots → (val b).ownBlock = none ∨ (val b).ownBlock ≠ (val .slots).ownBlock := fun b hb hne => by
    cases hg : (val b).ownBlock with
    | none => exact .inl rfl
    | some g => exact .inr (fun x => h.apart b .slots hb (LiveX.slots m) hne g hg x.symm)
  have hevn : es ≠ [] → ev.ownBlock = none ∨ ev.ownBlock ≠ (val .slots).ownBlock := fun hne => by
    cases hg : ev.ownBlock with
    | none => exact .inl rfl
    | some g => exact .inr (fun x => hfar hne .slots (LiveX.slots m) (by intro y; cases y) g hg x.symm)
  have hsvfar : ∀ b, LiveX m b → b ≠ .slots → ∀ g, sv.ownBlock = some g → (val b).ownBlock ≠ some g := fun b hb hne g hg hx => by
    rcases hblk with e | e
    · rw [e] at hg; exact h.apart b .slots hb (LiveX.slots m) hne g hx hg
    · have := ((h.row b hb).lt g hx).2
      have := e g hg
      omega
  have hsvev : es ≠ [] → ∀ g, sv.ownBlock = some g → ev.ownBlock ≠ some g := fun hne g hg hx => by
    rcases hblk with e | e
    · rw [e] at hg; exact hfar hne .slots (LiveX.slots m) (by intro y; cases y) g hx hg
    · have := ((hev hne).lt g hx).2
      have := e g hg
      omega
  refine ⟨fun b hb => ?_, fun b c hb hc hne q hq => ?_, fun j hj e => ?_⟩
  · rcases hcase b hb with rfl | ⟨rfl, hes⟩ | ⟨hb', h1, h2⟩
    · rw [hvs]
      have e1 : rowV { m with slots := m.slots ++ [(k, d, es)] } (upd (upd val (.tab m.slots.length) ev) .slots sv) .slots = flatS m.slots (fun j => val (.tab j)) ++ [.int .i64 k, .string d, ev] := by
        have := flatS_snoc m.slots (fun j => val (.tab j)) (fun j => upd (upd val (.tab m.slots.length) ev) .slots sv (.tab j)) (k, d, es) (fun j hj => hval _ (by intro x; cases x) (by intro x; injection x with _ x; omega))
        rw [hvt] at this
        exact this
      have e2 : rowN { m with slots := m.slots ++ [(k, d, es)] } .slots = m.slots.length + 1 := by show (m.slots ++ [(k, d, es)]).length = _; simp
      rw [e1, e2]; exact hrow
    · rw [hvt]
      have e0 : (m.slots ++ [(k, d, es)]).getD m.slots.length default = (k, d, es) := by simp [List.getD]
      have e1 : rowV { m with slots := m.slots ++ [(k, d, es)] } (upd (upd val (.tab m.slots.length) ev) .slots sv) (.tab m.slots.length) = ints es := by
        show ints ((m.slots ++ [(k, d, es)]).getD m.slots.length default).2.2 = _
        rw [e0]
      have e2 : rowN { m with slots := m.slots ++ [(k, d, es)] } (.tab m.slots.length) = es.length := by
        show ((m.slots ++ [(k, d, es)]).getD m.slots.length default).2.2.length = _
        rw [e0]
      rw [e1, e2]
      exact (hev hes).kept hgrow (hevn hes)
    · rw [hval b h1 h2]
      have e1 : rowV { m with slots := m.slots ++ [(k, d, es)] } (upd (upd val (.tab m.slots.length) ev) .slots sv) b = rowV m val b ∧ rowN { m with slots := m.slots ++ [(k, d, es)] } b = rowN m b := by
        rcases hb'.cases with rfl | rfl | rfl | rfl | ⟨j, rfl, hj⟩ | ⟨j, rfl, hj⟩
        · exact ⟨rfl, rfl⟩
        · exact absurd rfl h1
        · exact ⟨rfl, rfl⟩
        · refine ⟨?_, rfl⟩
          show flatN m.snaps _ = flatN m.snaps _
          unfold flatN
          refine congrArg List.flatten (List.map_congr_left fun j _ => ?_)
          dsimp only
          rw [hval (.sr j) (by intro x; cases x) (by intro x; cases x)]
        · have e : (m.slots ++ [(k, d, es)]).getD j default = m.slots.getD j default := by simp [List.getD, List.getElem?_append, hj.1]
          constructor
          · show ints ((m.slots ++ [(k, d, es)]).getD j default).2.2 = _
            rw [e]; rfl
          · show ((m.slots ++ [(k, d, es)]).getD j default).2.2.length = _
            rw [e]; rfl
        · exact ⟨rfl, rfl⟩
      rw [e1.1, e1.2]
      exact (h.row b hb').kept hgrow (hnot b hb' h1)
  · rcases hcase b hb with rfl | ⟨rfl, hes⟩ | ⟨hb', h1, h2⟩
    · rw [hvs] at hq
      rcases hcase c hc with rfl | ⟨rfl, hes2⟩ | ⟨hc', g1, g2⟩
      · exact absurd rfl hne
      · rw [hvt]; exact hsvev hes2 q hq
      · rw [hval c g1 g2]; exact hsvfar c hc' g1 q hq
    · rw [hvt] at hq
      rcases hcase c hc with rfl | ⟨rfl, hes2⟩ | ⟨hc', g1, g2⟩
      · rw [hvs]; exact fun x => hsvev hes q x hq
      · exact absurd rfl hne
      · rw [hval c g1 g2]; exact hfar hes c hc' g2 q hq
    · rw [hval b h1 h2] at hq
      rcases hcase c hc with rfl | ⟨rfl, hes2⟩ | ⟨hc', g1, g2⟩
      · rw [hvs]; exact fun x => hsvfar b hb' h1 q x hq
      · rw [hvt]; exact fun x => hfar hes2 b hb' h2 q x hq
      · rw [hval c g1 g2]; exact h.apart b c hb' hc' hne q hq
  · have hj : j < (m.slots ++ [(k, d, es)]).length := hj
    have e : ((m.slots ++ [(k, d, es)]).getD j default).2.2 = [] := e
    by_cases ej : j = m.slots.length
    · subst ej
      rw [hvt]
      exact hev0 (by simpa [List.getD] using e)
    · have hjl : j < m.slots.length := by simp at hj; omega
      have e2 : (m.slots ++ [(k, d, es)]).getD j default = m.slots.getD j default := by simp [List.getD, List.getElem?_append, hjl]
      rw [hval _ (by intro x; cases x) (by intro x; injection x with _ x; exact ej x)]
      exact h.loose j hjl (by rw [e2] at e; exact e)
theorem flatN_snoc (L : List SnapD) (tv tv' : Nat → Value) (s : SnapD) (htv : ∀ j, j < L.length → tv' j = tv j) : flatN (L ++ [s]) tv' = flatN L tv ++ [.string s.1, .int .i64 s.2.1, tv' L.length] := by
  unfold flatN
  rw [List.length_append, List.length_singleton, List.range_succ, List.flatMap_append]
  have e1 : (List.range L.length).flatMap (fun j => [Value.string ((L ++ [s]).getD j default).1, .int .i64 ((L ++ [s]).getD j default).2.1, tv' j]) = (List.range L.length).flatMap (fun j => [Value.string (L.getD j default).1, .int .i64 (L.getD j default).2.1, tv j]) := by
    refine congrArg List.flatten (List.map_congr_left fun j hj => ?_)
    have hj := List.mem_range.1 hj
    have e : (L ++ [s]).getD j default = L.getD j default := by simp [List.getD, List.getElem?_append, hj]
    rw [e, htv j hj]
  rw [e1]
  simp
theorem OX.addSnap {W W' : World} {B : Nat} {val : Nm → Value} {m : ImgD} (h : OX W B val m) {k : Int} {d : ByteArray} {es : List Int} {ev sv : Value} (hev : W.ownsRow B 3 1 ev es.length (ints es)) (hfar : FarX m val (.sr m.snaps.length) ev)
    (hgrow : W.grownBy W' (val .snaps).ownBlock) (hrow : W'.ownsRow B 72 3 sv (m.snaps.length + 1) (flatN m.snaps (fun j => val (.sr j)) ++ [.string d, .int .i64 k, ev])) (hblk : sv.ownBlock = (val .snaps).ownBlock ∨ ∀ g, sv.ownBlock = some g → W.heap.size ≤ g) :
    OX W' B (upd (upd val (.sr m.snaps.length) ev) .snaps sv) { m with snaps := m.snaps ++ [(d, k, es)] } := by
  have hval : ∀ b, b ≠ .snaps → b ≠ .sr m.snaps.length → upd (upd val (.sr m.snaps.length) ev) .snaps sv b = val b := fun b h1 h2 => by rw [upd_other _ sv h1, upd_other _ ev h2]
  have hvs : upd (upd val (.sr m.snaps.length) ev) .snaps sv .snaps = sv := upd_same _ _ _
  have hvt : upd (upd val (.sr m.snaps.length) ev) .snaps sv (.sr m.snaps.length) = ev := by rw [upd_other _ sv (by intro x; cases x), upd_same]
  have hcase : ∀ b, LiveX { m with snaps := m.snaps ++ [(d, k, es)] } b → b = .snaps ∨ b = .sr m.snaps.length ∨ (LiveX m b ∧ b ≠ .snaps ∧ b ≠ .sr m.snaps.length) := fun b hb => by
    rcases hb.cases with rfl | rfl | rfl | rfl | ⟨j, rfl, hj⟩ | ⟨j, rfl, hj⟩
    · exact .inr (.inr ⟨LiveX.root m, (by intro x; cases x), (by intro x; cases x)⟩)
    · exact .inr (.inr ⟨LiveX.slots m, (by intro x; cases x), (by intro x; cases x)⟩)
    · exact .inr (.inr ⟨LiveX.refs m, (by intro x; cases x), (by intro x; cases x)⟩)
    · exact .inl rfl
    · exact .inr (.inr ⟨LiveX.tab hj, (by intro x; cases x), (by intro x; cases x)⟩)
    · by_cases e : j = m.snaps.length
      · subst e; exact .inr (.inl rfl)
      · refine .inr (.inr ⟨LiveX.sr (by simp at hj; omega), (by intro x; cases x), ?_⟩)
        intro x; apply e; injection x
  have hnot : ∀ b, LiveX m b → b ≠ .snaps → (val b).ownBlock = none ∨ (val b).ownBlock ≠ (val .snaps).ownBlock := fun b hb hne => by
    cases hg : (val b).ownBlock with
    | none => exact .inl rfl
    | some g => exact .inr (fun x => h.apart b .snaps hb (LiveX.snaps m) hne g hg x.symm)
  have hevn : ev.ownBlock = none ∨ ev.ownBlock ≠ (val .snaps).ownBlock := by
    cases hg : ev.ownBlock with
    | none => exact .inl rfl
    | some g => exact .inr (fun x => hfar .snaps (LiveX.snaps m) (by intro y; cases y) g hg x.symm)
  have hsvfar : ∀ b, LiveX m b → b ≠ .snaps → ∀ g, sv.ownBlock = some g → (val b).ownBlock ≠ some g := fun b hb hne g hg hx => by
    rcases hblk with e | e
    · rw [e] at hg; exact h.apart b .snaps hb (LiveX.snaps m) hne g hx hg
    · have := ((h.row b hb).lt g hx).2
      have := e g hg
      omega
  have hsvev : ∀ g, sv.ownBlock = some g → ev.ownBlock ≠ some g := fun g hg hx => by
    rcases hblk with e | e
    · rw [e] at hg; exact hfar .snaps (LiveX.snaps m) (by intro y; cases y) g hx hg
    · have := (hev.lt g hx).2
      have := e g hg
      omega
  refine ⟨fun b hb => ?_, fun b c hb hc hne q hq => ?_, fun j hj e => by rw [hval _ (by intro x; cases x) (by intro x; cases x)]; exact h.loose j hj e⟩
  · rcases hcase b hb with rfl | rfl | ⟨hb', h1, h2⟩
    · rw [hvs]
      have e1 : rowV { m with snaps := m.snaps ++ [(d, k, es)] } (upd (upd val (.sr m.snaps.length) ev) .snaps sv) .snaps = flatN m.snaps (fun j => val (.sr j)) ++ [.string d, .int .i64 k, ev] := by
        have := flatN_snoc m.snaps (fun j => val (.sr j)) (fun j => upd (upd val (.sr m.snaps.length) ev) .snaps sv (.sr j)) (d, k, es) (fun j hj => hval _ (by intro x; cases x) (by intro x; injection x with _ x; omega))
        rw [hvt] at this
        exact this
      have e2 : rowN { m with snaps := m.snaps ++ [(d, k, es)] } .snaps = m.snaps.length + 1 := by show (m.snaps ++ [(d, k, es)]).length = _; simp
      rw [e1, e2]; exact hrow
    · rw [hvt]
      have e0 : (m.snaps ++ [(d, k, es)]).getD m.snaps.length default = (d, k, es) := by simp [List.getD]
      have e1 : rowV { m with snaps := m.snaps ++ [(d, k, es)] } (upd (upd val (.sr m.snaps.length) ev) .snaps sv) (.sr m.snaps.length) = ints es := by
        show ints ((m.snaps ++ [(d, k, es)]).getD m.snaps.length default).2.2 = _
        rw [e0]
      have e2 : rowN { m with snaps := m.snaps ++ [(d, k, es)] } (.sr m.snaps.length) = es.length := by
        show ((m.snaps ++ [(d, k, es)]).getD m.snaps.length default).2.2.length = _
        rw [e0]
      rw [e1, e2]
      exact hev.kept hgrow hevn
    · rw [hval b h1 h2]
      have e1 : rowV { m with snaps := m.snaps ++ [(d, k, es)] } (upd (upd val (.sr m.snaps.length) ev) .snaps sv) b = rowV m val b ∧ rowN { m with snaps := m.snaps ++ [(d, k, es)] } b = rowN m b := by
        rcases hb'.cases with rfl | rfl | rfl | rfl | ⟨j, rfl, hj⟩ | ⟨j, rfl, hj⟩
        · exact ⟨rfl, rfl⟩
        · refine ⟨?_, rfl⟩
          show flatS m.slots _ = flatS m.slots _
          unfold flatS
          refine congrArg List.flatten (List.map_congr_left fun j _ => ?_)
          dsimp only
          rw [hval (.tab j) (by intro x; cases x) (by intro x; cases x)]
        · exact ⟨rfl, rfl⟩
        · exact absurd rfl h1
        · exact ⟨rfl, rfl⟩
        · have e : (m.snaps ++ [(d, k, es)]).getD j default = m.snaps.getD j default := by simp [List.getD, List.getElem?_append, hj]
          constructor
          · show ints ((m.snaps ++ [(d, k, es)]).getD j default).2.2 = _
            rw [e]; rfl
          · show ((m.snaps ++ [(d, k, es)]).getD j default).2.2.length = _
            rw [e]; rfl
      rw [e1.1, e1.2]
      exact (h.row b hb').kept hgrow (hnot b hb' h1)
  · rcases hcase b hb with rfl | rfl | ⟨hb', h1, h2⟩
    · rw [hvs] at hq
      rcases hcase c hc with rfl | rfl | ⟨hc', g1, g2⟩
      · exact absurd rfl hne
      · rw [hvt]; exact hsvev q hq
      · rw [hval c g1 g2]; exact hsvfar c hc' g1 q hq
    · rw [hvt] at hq
      rcases hcase c hc with rfl | rfl | ⟨hc', g1, g2⟩
      · rw [hvs]; exact fun x => hsvev q x hq
      · exact absurd rfl hne
      · rw [hval c g1 g2]; exact hfar c hc' g2 q hq
    · rw [hval b h1 h2] at hq
      rcases hcase c hc with rfl | rfl | ⟨hc', g1, g2⟩
      · rw [hvs]; exact fun x => hsvfar b hb' h1 q x hq
      · rw [hvt]; exact fun x => hfar b hb' h2 q x hq
      · rw [hval c g1 g2]; exact h.apart b c hb' hc' hne q hq

theorem OX.far {W : World} {B : Nat} {val : Nm → Value} {m : ImgD} (h : OX W B val m) {g i : Nat} {u : Value} (hg : ∀ a, LiveX m a → (val a).ownBlock ≠ some g) : OX (W.setCell ⟨g, i, none⟩ u) B val m :=
  ⟨fun a ha => ownsRow_setCell_other (h.row a ha) (hg a ha) u, h.apart, h.loose⟩
theorem OX.lt {W : World} {B : Nat} {val : Nm → Value} {m : ImgD} (h : OX W B val m) {g : Nat} (hg : W.heap.size ≤ g) : ∀ a, LiveX m a → (val a).ownBlock ≠ some g := fun a ha e => by
  have := ((h.row a ha).lt g e).2
  omega

theorem addX_far {m : ImgD} {val : Nm → Value} {ev sv : Value} {s : SlotD} {g : Nat} (h1 : ∀ a, LiveX m a → (val a).ownBlock ≠ some g) (h2 : s.2.2 ≠ [] → ev.ownBlock ≠ some g) (h3 : sv.ownBlock ≠ some g) :
    ∀ a, LiveX { m with slots := m.slots ++ [s] } a → (upd (upd val (.tab m.slots.length) ev) .slots sv a).ownBlock ≠ some g := fun a ha => by
  by_cases e1 : a = .slots
  · subst e1; rw [upd_same]; exact h3
  rw [upd_other _ _ e1]
  by_cases e2 : a = .tab m.slots.length
  · subst e2
    rw [upd_same]
    refine h2 ?_
    rcases ha.cases with x | x | x | x | ⟨j, x, hj⟩ | ⟨j, x, hj⟩ <;> try (cases x)
    have hj : ((m.slots ++ [s]).getD m.slots.length default).2.2 ≠ [] := hj.2
    simpa [List.getD] using hj
  rw [upd_other _ _ e2]
  apply h1
  rcases ha.cases with rfl | rfl | rfl | rfl | ⟨j, rfl, hj⟩ | ⟨j, rfl, hj⟩
  · exact LiveX.root m
  · exact LiveX.slots m
  · exact LiveX.refs m
  · exact LiveX.snaps m
  · obtain ⟨hj, hjn⟩ := hj
    have hj : j < (m.slots ++ [s]).length := hj
    rw [List.length_append, List.length_singleton] at hj
    rcases Nat.lt_or_ge j m.slots.length with h | h
    · refine LiveX.tab ⟨h, ?_⟩
      have hjn : ((m.slots ++ [s]).getD j default).2.2 ≠ [] := hjn
      have e : (m.slots ++ [s]).getD j default = m.slots.getD j default := by simp [List.getD, List.getElem?_append, h]
      rwa [e] at hjn
    · exact absurd (by rw [show j = m.slots.length by omega]) e2
  · exact LiveX.sr hj
def SrcX (w : World) (m : ImgD) (val : Nm → Value) (ev : Value) (m' : ImgD) (val' : Nm → Value) : Prop := ∀ g, g < w.heap.size → ev.ownBlock ≠ some g → (∀ b, LiveX m b → (val b).ownBlock ≠ some g) → ∀ a, LiveX m' a → (val' a).ownBlock ≠ some g
def KeepX (w w' : World) (m : ImgD) (val : Nm → Value) : Prop := ∀ q, q < w.heap.size → (∀ a, LiveX m a → (val a).ownBlock ≠ some q) → w'.heap[q]? = w.heap[q]?
theorem KeepX.refl (w : World) (m : ImgD) (val : Nm → Value) : KeepX w w m val := fun _ _ _ => rfl
theorem KeepX.alloc {w W : World} {m : ImgD} {val : Nm → Value} (h : KeepX w W m val) (hs : w.heap.size ≤ W.heap.size) (o : Obj) : KeepX w (W.alloc o) m val := fun q hq hn => (Below.heap_alloc W o q (by omega)).trans (h q hq hn)
theorem KeepX.own {w W : World} {m : ImgD} {val : Nm → Value} (h : KeepX w W m val) {a : Nm} (ha : LiveX m a) {g n c : Nat} (hg : val a = .slice (some ⟨g, 0, none⟩) n c) {i : Nat} {v : Value} : KeepX w (W.setCell ⟨g, i, none⟩ v) m val := fun q hq hn =>
  (Below.heap_setCell W ⟨g, i, none⟩ v q (fun e => hn a ha (by rw [hg]; exact congrArg some e.symm))).trans (h q hq hn)
theorem KeepX.new {w W : World} {m : ImgD} {val : Nm → Value} (h : KeepX w W m val) {g i : Nat} (hg : w.heap.size ≤ g) {v : Value} : KeepX w (W.setCell ⟨g, i, none⟩ v) m val := fun q hq hn =>
  (Below.heap_setCell W ⟨g, i, none⟩ v q (fun e => by have e : q = g := e; omega)).trans (h q hq hn)
theorem KeepX.grown {w W W' : World} {m : ImgD} {val : Nm → Value} (h : KeepX w W m val) (hs : w.heap.size ≤ W.heap.size) {a : Nm} (ha : LiveX m a) {v : Value} (hv : val a = v) (hg : W.grownBy W' v.ownBlock) : KeepX w W' m val := fun q hq hn =>
  (hg.block q (by omega) (fun e => hn a ha (by rw [hv]; exact e.symm))).trans (h q hq hn)
theorem KeepX.below {w W W' : World} {m : ImgD} {val : Nm → Value} (h : KeepX w W m val) {n : Nat} (hs : w.heap.size ≤ n) (hg : Below n W W') : KeepX w W' m val := fun q hq hn => (hg.block q (by omega)).trans (h q hq hn)

theorem OX.forms {W : World} {B : Nat} {val : Nm → Value} {m : ImgD} (h : OX W B val m) (a : Nm) (ha : LiveX m a) : ∃ ao cap, val a = .slice ao (rowN m a) cap ∧ (0 < rowN m a → ∃ g, ao = some ⟨g, 0, none⟩) := by
  rcases row_form (h.row a ha) with ⟨e, hn⟩ | ⟨g, cap, e, _⟩
  · exact ⟨none, 0, by rw [e, hn], fun hp => absurd hp (by omega)⟩
  · exact ⟨_, cap, e, fun _ => ⟨g, rfl⟩⟩
end Go.Proofs.Ytehleeibgkpjmad
