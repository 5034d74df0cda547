/- Texts joined: CopyI, ClnI, LayI, TabI, CtdI, DeskI, CpyH, FitP, WiP, WiA, WiS. -/
import Derived.Test.YtehleeibgkpjmagWireWritesJ4
import Derived.Test.YtehleeibgkpjmagWireWritesJ3
import Derived.Maps.AppendAt
import Derived.Deep.AppendLies
import Derived.Lib.SliceRun
import Derived.Deep.RegionHeld3
import Derived.Lib.AppendStr
import Derived.Laws.IdiomStrings
import Derived.Lib.BufferRead
set_option linter.unusedVariables false
set_option linter.unusedSimpArgs false
/- A list of integers is put behind a new empty one: a copy of one's own. A slot, a snapshot, is put behind. -/
namespace Go.Proofs.Ytehleeibgkpjmag
open Go.RowKit

theorem infoSlot : (Try.prog.info? 60).map (fun i => (i.zero, i.size, i.bytes)) = some (some (.agg #[.int .i64 0, .string ByteArray.empty, .slice none 0 0]), 3, 48) := by kernel_rfl
theorem infoSnap : (Try.prog.info? 74).map (fun i => (i.zero, i.size, i.bytes)) = some (some (.agg #[.string ByteArray.empty, .int .i64 0, .slice none 0 0]), 3, 48) := by kernel_rfl
theorem three_new (W : World) (T : TypeId) (x y z : Value) : ∀ (j : Nat) (u : Value), [x, y, z][j]? = some u → (W.alloc (.cells #[x, y, z] T)).cell? ((⟨W.heap.size, 0, none⟩ : Addr).add j) = some u := by
  intro j u hj
  rw [addr_add, World.cell?_alloc_at _ _ _ _ rfl]
  match j, hj with
  | 0, hj => simpa using hj
  | 1, hj => simpa using hj
  | 2, hj => simpa using hj
theorem wp_app3 {W : World} {o : Oper} {a : Act} {K : Act → World → Prop} {Q : Exit → Act → World → Prop} (s x : Operand) (t e : TypeId) (z0 : Value) (ht : Try.prog.underlying t = some (.slice e)) (hinfo : (Try.prog.info? e).map (fun i => (i.zero, i.size, i.bytes)) = some (some z0, 3, 48)) (hz3 : z0.cells.size = 3)
    (ho : o.op = .call { callee := .builtin .append, args := #[s, x], argTypes := #[t, t] }) {B n : Nat} {v : Value} {xs : List Value} {c0 c1 c2 : Value} (h1 : c0.oneCell' = true) (h2 : c1.oneCell' = true) (h3 : c2.oneCell' = true)
    (hs : a.eval s = v) {N : Nat} (hx : a.eval x = .slice (some ⟨N, 0, none⟩) 1 1) (hN : N = W.heap.size) (hown : W.ownsRow B e 3 v n xs) (hn : n ≤ 1000) (hB : B ≤ W.heap.size)
    (h : ∀ v' w', Hid (w'.ownsRow B e 3 v' (n + 1) (xs ++ [c0, c1, c2])) → (W.alloc (.cells #[c0, c1, c2] e)).grownBy w' v.ownBlock → Hid (v'.ownBlock = v.ownBlock ∨ v'.ownBlock = some (W.heap.size + 1)) → K (a.put o.dst v') w') : o.wp Try.prog a (W.alloc (.cells #[c0, c1, c2] e)) K Q := by
  subst hN
  obtain ⟨i0, hi, hz0, hz1, hz2⟩ := info_parts hinfo
  obtain ⟨v', w', hr, g2, g3, _, g5⟩ := run_append_own_at (P := Try.prog) (W.alloc (.cells #[c0, c1, c2] e)) B t o.type e i0 z0 3 48 ht hi hz0 hz1 hz2 hz3 (by decide) v n xs (hown.alloc _) ⟨W.heap.size, 0, none⟩ 1 1 [c0, c1, c2] rfl (three_new W e c0 c1 c2) (by intro u hu; simp at hu; rcases hu with rfl | rfl | rfl <;> assumption) (by unfold maxLen; omega) (by omega) (by simp; omega)
  unfold Oper.wp execOp
  simp only [ho, resolve, invoke, builtin, Sem.run_bind, Sem.run_pure, Result.andThen_ok, List.map_toArray, List.map_cons, List.map_nil, hs, hx, hr]
  have g6 : v'.ownBlock = v.ownBlock ∨ v'.ownBlock = some (W.heap.size + 1) := by simpa using g5
  exact h v' w' g2 g3 g6
theorem wpList_app3 {W : World} {ops : Array Oper} {rest : List Oper} {o : Oper} {a : Act} {Q : Exit → Act → World → Prop} (hgd : o.guard = none) (s x : Operand) (t e : TypeId) (z0 : Value) (ht : Try.prog.underlying t = some (.slice e)) (hinfo : (Try.prog.info? e).map (fun i => (i.zero, i.size, i.bytes)) = some (some z0, 3, 48)) (hz3 : z0.cells.size = 3)
    (ho : o.op = .call { callee := .builtin .append, args := #[s, x], argTypes := #[t, t] }) {B n : Nat} {v : Value} {xs : List Value} {c0 c1 c2 : Value} (h1 : c0.oneCell' = true) (h2 : c1.oneCell' = true) (h3 : c2.oneCell' = true)
    (hs : a.eval s = v) {N : Nat} (hx : a.eval x = .slice (some ⟨N, 0, none⟩) 1 1) (hN : N = W.heap.size) (hown : W.ownsRow B e 3 v n xs) (hn : n ≤ 1000) (hB : B ≤ W.heap.size)
    (h : ∀ v' w', Hid (w'.ownsRow B e 3 v' (n + 1) (xs ++ [c0, c1, c2])) → (W.alloc (.cells #[c0, c1, c2] e)).grownBy w' v.ownBlock → Hid (v'.ownBlock = v.ownBlock ∨ v'.ownBlock = some (W.heap.size + 1)) → wpList Try.prog ops Q rest (a.put o.dst v') w') : wpList Try.prog ops Q (o :: rest) a (W.alloc (.cells #[c0, c1, c2] e)) :=
  wpList_plain hgd fun _ hK => wp_app3 s x t e z0 ht hinfo hz3 ho h1 h2 h3 hs hx hN hown hn hB fun v' w' g2 g3 g4 => hK _ _ (h v' w' g2 g3 g4)
end Go.Proofs.Ytehleeibgkpjmag
/- Contracts of slices.Clone: a list of one's own. -/
namespace Go.Proofs.Ytehleeibgkpjmag
open Go.RowKit Go.Shelf
theorem row_slice {W : World} {B : Nat} {e : TypeId} {size n : Nat} {v : Value} {xs : List Value} (h : W.ownsRow B e size v n xs) : ∃ ao cap, v = .slice ao n cap := by
  rcases row_form h with ⟨rfl, rfl⟩ | ⟨g, cap, rfl, _⟩
  · exact ⟨none, 0, rfl⟩
  · exact ⟨_, cap, rfl⟩
end Go.Proofs.Ytehleeibgkpjmag
/- Contract of the document's lay: a slot is stored, or put behind. -/
namespace Go.Proofs.Ytehleeibgkpjmag
open Go.RowKit Go.Shelf
set_option maxRecDepth 20000

theorem OI.far {W : World} {B : Nat} {val : Nm → Value} {m : ImgD} (h : OI W B val m) {g i : Nat} {u : Value} (hg : ∀ a, Live m a → (val a).ownBlock ≠ some g) : OI (W.setCell ⟨g, i, none⟩ u) B val m :=
  ⟨fun a ha => ownsRow_setCell_other (h.row a ha) (hg a ha) u, h.apart⟩
theorem OI.lt {W : World} {B : Nat} {val : Nm → Value} {m : ImgD} (h : OI W B val m) {g : Nat} (hg : W.heap.size ≤ g) : ∀ a, Live m a → (val a).ownBlock ≠ some g := fun a ha e => by
  have := ((h.row a ha).lt g e).2
  omega

theorem row_some {W : World} {B : Nat} {e : TypeId} {size n : Nat} {v : Value} {xs : List Value} (h : W.ownsRow B e size v (n + 1) xs) : ∃ g cap, v = .slice (some ⟨g, 0, none⟩) (n + 1) cap := by
  rcases row_form h with ⟨_, e⟩ | ⟨g, cap, e, _⟩
  · cases e
  · exact ⟨g, cap, e⟩
theorem cells_frozen {W : World} {b : Nat} {A : Array Value} {t : TypeId} (h : W.heap[b]? = some (.cells A t)) (i : Nat) : W.frozen? ⟨b, i, none⟩ = false := by simp [World.frozen?, h]
def OKeep (w w' : World) (m : ImgD) (val : Nm → Value) : Prop := ∀ q, q < w.heap.size → (∀ a, Live m a → (val a).ownBlock ≠ some q) → w'.heap[q]? = w.heap[q]?
theorem OKeep.refl (w : World) (m : ImgD) (val : Nm → Value) : OKeep w w m val := fun _ _ _ => rfl
theorem OKeep.alloc {w W : World} {m : ImgD} {val : Nm → Value} (h : OKeep w W m val) (hs : w.heap.size ≤ W.heap.size) (o : Obj) : OKeep w (W.alloc o) m val := fun q hq hn => (Below.heap_alloc W o q (by omega)).trans (h q hq hn)
theorem OKeep.own {w W : World} {m : ImgD} {val : Nm → Value} (h : OKeep w W m val) {a : Nm} (ha : Live m a) {g n c : Nat} (hg : val a = .slice (some ⟨g, 0, none⟩) n c) {i : Nat} {v : Value} : OKeep w (W.setCell ⟨g, i, none⟩ v) m val := fun q hq hn =>
  (Below.heap_setCell W ⟨g, i, none⟩ v q (fun e => hn a ha (by rw [hg]; exact congrArg some e.symm))).trans (h q hq hn)
theorem OKeep.new {w W : World} {m : ImgD} {val : Nm → Value} (h : OKeep w W m val) {g i : Nat} (hg : w.heap.size ≤ g) {v : Value} : OKeep w (W.setCell ⟨g, i, none⟩ v) m val := fun q hq hn =>
  (Below.heap_setCell W ⟨g, i, none⟩ v q (fun e => by have e : q = g := e; omega)).trans (h q hq hn)
theorem OKeep.grown {w W W' : World} {m : ImgD} {val : Nm → Value} (h : OKeep w W m val) (hs : w.heap.size ≤ W.heap.size) {a : Nm} (ha : Live m a) {v : Value} (hv : val a = v) (hg : W.grownBy W' v.ownBlock) : OKeep w W' m val := fun q hq hn =>
  (hg.block q (by omega) (fun e => hn a ha (by rw [hv]; exact e.symm))).trans (h q hq hn)
theorem OKeep.below {w W W' : World} {m : ImgD} {val : Nm → Value} (h : OKeep w W m val) {n : Nat} (hs : w.heap.size ≤ n) (hg : Below n W W') : OKeep w W' m val := fun q hq hn => (hg.block q (by omega)).trans (h q hq hn)

theorem OI.forms {W : World} {B : Nat} {val : Nm → Value} {m : ImgD} (h : OI W B val m) (a : Nm) (ha : Live m a) : ∃ ao cap, val a = .slice ao (rowN m a) cap ∧ (0 < rowN m a → ∃ g, ao = some ⟨g, 0, none⟩) := by
  rcases row_form (h.row a ha) with ⟨e, hn⟩ | ⟨g, cap, e, _⟩
  · exact ⟨none, 0, by rw [e, hn], fun hp => absurd hp (by omega)⟩
  · exact ⟨_, cap, e, fun _ => ⟨g, rfl⟩⟩
end Go.Proofs.Ytehleeibgkpjmag
/- Contract of the document's tableOf: a table of one's own. -/
namespace Go.Proofs.Ytehleeibgkpjmag
open Go.RowKit Go.Shelf
end Go.Proofs.Ytehleeibgkpjmag
/- Contract of the document's counted. -/
namespace Go.Proofs.Ytehleeibgkpjmag
open Go.RowKit Go.Shelf
theorem cells_set {W : World} {b : Nat} {A : Array Value} {t : TypeId} (h : W.heap[b]? = some (.cells A t)) (i : Nat) (v : Value) : (W.setCell ⟨b, i, none⟩ v).heap[b]? = some (.cells (A.setIfInBounds i v) t) := by
  obtain ⟨hlt, hk⟩ := Array.getElem?_eq_some_iff.1 h
  show (W.heap.modify b _)[b]? = _
  rw [Array.getElem?_eq_getElem (by rw [Array.size_modify]; exact hlt), Array.getElem_modify_self, hk]
  simp
theorem cells_other {W : World} {b : Nat} {o : Option Obj} (h : W.heap[b]? = o) {g : Nat} (hg : b ≠ g) (i : Nat) (v : Value) : (W.setCell ⟨g, i, none⟩ v).heap[b]? = o := (Below.heap_setCell W ⟨g, i, none⟩ v b hg).trans h
end Go.Proofs.Ytehleeibgkpjmag
/- The desk: five cells, and an image's own rows. What stays, and what turns. -/
namespace Go.Proofs.Ytehleeibgkpjmag
open Go.RowKit Go.Shelf
set_option maxRecDepth 20000

theorem Img.four {w : World} {m : ImgD} {a b c d e : Value} (h : Img w (.agg #[a, b, c, d, e]) m) : Sl w b m.root ∧ Slots w c m.slots ∧ Sl w d m.refs ∧ Snaps w e m.snaps := by
  obtain ⟨_, _, _, _, e, h1, h2, h3, h4⟩ := h
  simp only [Value.agg.injEq, Array.mk.injEq, List.cons.injEq, and_true] at e
  obtain ⟨_, rfl, rfl, rfl, rfl⟩ := e
  exact ⟨h1, h2, h3, h4⟩
structure DK (W : World) (B D : Nat) (val : Nm → Value) (m : ImgD) : Prop where
  own : OI W B val m
  box : W.heap[D]? = some (.cells #[.int .i64 m.guest, val .root, val .slots, val .refs, val .snaps] 51)
  ge : B ≤ D
  far : ∀ a, Live m a → (val a).ownBlock ≠ some D
theorem DK.lt {W : World} {B D : Nat} {val : Nm → Value} {m : ImgD} (h : DK W B D val m) : D < W.heap.size := (Array.getElem?_eq_some_iff.1 h.box).1
theorem DK.below {W W' : World} {B D : Nat} {val : Nm → Value} {m : ImgD} (h : DK W B D val m) (hb : Below W.heap.size W W') : DK W' B D val m := ⟨h.own.below hb, (hb.block D h.lt).trans h.box, h.ge, h.far⟩
theorem DK.drew {W : World} {B D : Nat} {val : Nm → Value} {m : ImgD} (h : DK W B D val m) : DK W.drew B D val m := ⟨h.own.drew, h.box, h.ge, h.far⟩
theorem DK.alloc {W : World} {B D : Nat} {val : Nm → Value} {m : ImgD} (h : DK W B D val m) (o : Obj) : DK (W.alloc o) B D val m := h.below ((Below.refl _ _).alloc (Nat.le_refl _) o)

structure DTo (w w' : World) (B D : Nat) (m : ImgD) (val : Nm → Value) (ev : Value) (m' : ImgD) (val' : Nm → Value) : Prop where
  dk : DK w' B D val' m'
  bel : Below B w w'
  keep : ∀ q, q < w.heap.size → q ≠ D → ev.ownBlock ≠ some q → (∀ a, Live m a → (val a).ownBlock ≠ some q) → w'.heap[q]? = w.heap[q]?
  src : ∀ q, q < w.heap.size → ev.ownBlock ≠ some q → (∀ b, Live m b → (val b).ownBlock ≠ some q) → ∀ a, Live m' a → (val' a).ownBlock ≠ some q
abbrev nilV : Value := .slice none 0 0
theorem DTo.refl {w : World} {B D : Nat} {m : ImgD} {val : Nm → Value} (h : DK w B D val m) (ev : Value) : DTo w w B D m val ev m val := ⟨h, Below.refl _ _, fun _ _ _ _ _ => rfl, fun _ _ _ hm => hm⟩
theorem DTo.trans {w w1 w2 : World} {B D : Nat} {m m1 m2 : ImgD} {val val1 val2 : Nm → Value} {ev ev' : Value} (h : DTo w w1 B D m val ev m1 val1) (k : DTo w1 w2 B D m1 val1 ev' m2 val2) (he : ∀ q, ev'.ownBlock = some q → ev.ownBlock = some q ∨ w.heap.size ≤ q ∨ ∃ a, Live m a ∧ (val a).ownBlock = some q) : DTo w w2 B D m val ev m2 val2 := by
  have hx : ∀ q, q < w.heap.size → ev.ownBlock ≠ some q → (∀ b, Live m b → (val b).ownBlock ≠ some q) → ev'.ownBlock ≠ some q := fun q hq hev hm e => by
    rcases he q e with x | x | ⟨a, ha, x⟩
    · exact hev x
    · omega
    · exact hm a ha x
  refine ⟨k.dk, h.bel.trans k.bel, fun q hq hD hev hm => ?_, fun q hq hev hm => ?_⟩
  · exact (k.keep q (Nat.lt_of_lt_of_le hq h.bel.size) hD (hx q hq hev hm) (h.src q hq hev hm)).trans (h.keep q hq hD hev hm)
  · exact k.src q (Nat.lt_of_lt_of_le hq h.bel.size) (hx q hq hev hm) (h.src q hq hev hm)
theorem DTo.andThen {w w1 w2 : World} {B D : Nat} {m m1 m2 : ImgD} {val val1 val2 : Nm → Value} (h : DTo w w1 B D m val nilV m1 val1) (k : DTo w1 w2 B D m1 val1 nilV m2 val2) : DTo w w2 B D m val nilV m2 val2 :=
  h.trans k (fun q e => by cases e)
theorem DTo.below {w w1 w2 : World} {B D : Nat} {m m1 : ImgD} {val val1 : Nm → Value} {ev : Value} (h : DTo w w1 B D m val ev m1 val1) (hB : B ≤ w.heap.size) (hb : Below w1.heap.size w1 w2) : DTo w w2 B D m val ev m1 val1 :=
  ⟨h.dk.below hb, h.bel.trans (hb.mono (Nat.le_trans hB h.bel.size)), fun q hq hD hev hm => (hb.block q (Nat.lt_of_lt_of_le hq h.bel.size)).trans (h.keep q hq hD hev hm), h.src⟩
theorem DTo.drew {w w1 : World} {B D : Nat} {m m1 : ImgD} {val val1 : Nm → Value} {ev : Value} (h : DTo w w1 B D m val ev m1 val1) : DTo w w1.drew B D m val ev m1 val1 := ⟨h.dk.drew, h.bel.drew, h.keep, h.src⟩
theorem DTo.alloc {w w1 : World} {B D : Nat} {m m1 : ImgD} {val val1 : Nm → Value} {ev : Value} (h : DTo w w1 B D m val ev m1 val1) (hB : B ≤ w.heap.size) (o : Obj) : DTo w (w1.alloc o) B D m val ev m1 val1 := h.below hB ((Below.refl _ _).alloc (Nat.le_refl _) o)
theorem DTo.cells {w w1 : World} {B D : Nat} {m m1 : ImgD} {val val1 : Nm → Value} {ev : Value} (h : DTo w w1 B D m val ev m1 val1) {q : Nat} {A : Array Value} {t : TypeId} (hq : w.heap[q]? = some (.cells A t)) (hD : q ≠ D) (hev : ev.ownBlock ≠ some q) (hm : ∀ a, Live m a → (val a).ownBlock ≠ some q) : w1.heap[q]? = some (.cells A t) :=
  (h.keep q (Array.getElem?_eq_some_iff.1 hq).1 hD hev hm).trans hq


theorem DK.frozen {W : World} {B D : Nat} {val : Nm → Value} {m : ImgD} (h : DK W B D val m) (i : Nat) : W.frozen? ⟨D, i, none⟩ = false := cells_frozen h.box i
theorem DK.swapRefs {W : World} {B D : Nat} {val : Nm → Value} {m : ImgD} (h : DK W B D val m) {v : Value} {r : List Int} (hv : W.ownsRow B 3 1 v r.length (ints r)) (hfar : Far m val .refs v) (hD : v.ownBlock ≠ some D) : DK (W.setCell ⟨D, 3, none⟩ v) B D (upd val .refs v) { m with refs := r } := by
  have hf : ∀ a, Live m a → (upd val .refs v a).ownBlock ≠ some D := fun a ha => by
    by_cases e : a = .refs
    · subst e; rw [upd_same]; exact hD
    · rw [upd_other _ _ e]; exact h.far a ha
  refine ⟨(h.own.swapRefs hv hfar).far hf, ?_, h.ge, hf⟩
  have := cells_set h.box 3 v
  rw [upd_same, upd_other _ _ (by intro x; cases x), upd_other _ _ (by intro x; cases x), upd_other _ _ (by intro x; cases x)]
  exact this
theorem DK.swapRoot {W : World} {B D : Nat} {val : Nm → Value} {m : ImgD} (h : DK W B D val m) {v : Value} {r : List Int} (hv : W.ownsRow B 3 1 v r.length (ints r)) (hfar : Far m val .root v) (hD : v.ownBlock ≠ some D) : DK (W.setCell ⟨D, 1, none⟩ v) B D (upd val .root v) { m with root := r } := by
  have hf : ∀ a, Live m a → (upd val .root v a).ownBlock ≠ some D := fun a ha => by
    by_cases e : a = .root
    · subst e; rw [upd_same]; exact hD
    · rw [upd_other _ _ e]; exact h.far a ha
  refine ⟨(h.own.swapRoot hv hfar m.guest).far hf, ?_, h.ge, hf⟩
  have := cells_set h.box 1 v
  rw [upd_same, upd_other _ _ (by intro x; cases x), upd_other _ _ (by intro x; cases x), upd_other _ _ (by intro x; cases x)]
  exact this

theorem DTo.setDesk {w w1 : World} {B D : Nat} {m m1 m2 : ImgD} {val val1 val2 : Nm → Value} {ev : Value} (h : DTo w w1 B D m val ev m1 val1) {i : Nat} {u : Value} (hdk : DK (w1.setCell ⟨D, i, none⟩ u) B D val2 m2) (hs : ∀ q, ev.ownBlock ≠ some q → (∀ b, Live m1 b → (val1 b).ownBlock ≠ some q) → q < w.heap.size → ∀ b, Live m2 b → (val2 b).ownBlock ≠ some q) : DTo w (w1.setCell ⟨D, i, none⟩ u) B D m val ev m2 val2 :=
  ⟨hdk, h.bel.setCell h.dk.ge _, fun q hq hD hev hm => (Below.heap_setCell w1 ⟨D, i, none⟩ u q hD).trans (h.keep q hq hD hev hm), fun q hq hev hm => hs q hev (h.src q hq hev hm) hq⟩
theorem upd_src {m1 m2 : ImgD} {val1 : Nm → Value} {ev v : Value} {a : Nm} {n : Nat} (hl : ∀ b, Live m2 b → b ≠ a → Live m1 b) (hv : ∀ q, v.ownBlock = some q → ev.ownBlock = some q ∨ n ≤ q) : ∀ q, ev.ownBlock ≠ some q → (∀ b, Live m1 b → (val1 b).ownBlock ≠ some q) → q < n → ∀ b, Live m2 b → (upd val1 a v b).ownBlock ≠ some q := fun q hev hm hq b hb => by
  by_cases e : b = a
  · subst e
    rw [upd_same]
    intro x
    rcases hv q x with y | y
    · exact hev y
    · omega
  · rw [upd_other _ _ e]; exact hm b (hl b hb e)
theorem DTo.swapRoot {w w1 : World} {B D : Nat} {m m1 : ImgD} {val val1 : Nm → Value} {ev : Value} (h : DTo w w1 B D m val ev m1 val1) {v : Value} {r : List Int} (hv : w1.ownsRow B 3 1 v r.length (ints r)) (hfar : Far m1 val1 .root v) (hD : v.ownBlock ≠ some D) (hs : ∀ q, v.ownBlock = some q → ev.ownBlock = some q ∨ w.heap.size ≤ q) : DTo w (w1.setCell ⟨D, 1, none⟩ v) B D m val ev { m1 with root := r } (upd val1 .root v) :=
  h.setDesk (h.dk.swapRoot hv hfar hD) (upd_src (fun _ hb _ => hb) hs)
theorem DTo.swapRefs {w w1 : World} {B D : Nat} {m m1 : ImgD} {val val1 : Nm → Value} {ev : Value} (h : DTo w w1 B D m val ev m1 val1) {v : Value} {r : List Int} (hv : w1.ownsRow B 3 1 v r.length (ints r)) (hfar : Far m1 val1 .refs v) (hD : v.ownBlock ≠ some D) (hs : ∀ q, v.ownBlock = some q → ev.ownBlock = some q ∨ w.heap.size ≤ q) : DTo w (w1.setCell ⟨D, 3, none⟩ v) B D m val ev { m1 with refs := r } (upd val1 .refs v) :=
  h.setDesk (h.dk.swapRefs hv hfar hD) (upd_src (fun _ hb _ => hb) hs)
def AnsI (w : World) (B : Nat) (m : ImgD) (err : Int) (r : Ending) (w' : World) : Prop := ∃ val, r = .returned (.tuple #[imgV m.guest val, .int .i64 err]) ∧ OI w' B val m ∧ Below B w w'
def imgZ : ImgD := ⟨0, [], [], [], []⟩
def valZ : Nm → Value := fun _ => nilV
theorem OI.zero (W : World) (B : Nat) : OI W B valZ imgZ := ⟨fun a ha => by
  rcases ha.cases with rfl | rfl | rfl | rfl | ⟨j, rfl, hj⟩ | ⟨j, rfl, hj⟩
  · exact World.ownsRow_nil _ _ _ _
  · exact World.ownsRow_nil _ _ _ _
  · exact World.ownsRow_nil _ _ _ _
  · exact World.ownsRow_nil _ _ _ _
  · exact absurd hj (Nat.not_lt_zero _)
  · exact absurd hj (Nat.not_lt_zero _), fun _ _ _ _ _ g hg => by cases hg⟩
theorem AnsI.bad {w w' : World} {B : Nat} (err : Int) (hb : Below B w w') : AnsI w B imgZ err (.returned (.tuple #[.agg #[.int .i64 0, nilV, nilV, nilV, nilV], .int .i64 err])) w' := ⟨valZ, rfl, OI.zero _ _, hb⟩
end Go.Proofs.Ytehleeibgkpjmag
/- Contract of copied: an image of one's own. -/
namespace Go.Proofs.Ytehleeibgkpjmag
open Go.RowKit Go.Shelf
set_option maxRecDepth 20000

def liveH (k l : Nat) (a : Nm) : Prop := (a.kind < 4 ∧ a.ix = 0) ∨ (a.kind = 4 ∧ a.ix < k) ∨ (a.kind = 5 ∧ a.ix < l)
def rowH (m : ImgD) (val : Nm → Value) (tv qv : Nat → Value) (k l : Nat) (a : Nm) : List Value := match a.kind with
  | 0 => ints m.root
  | 1 => flatS m.slots (fun j => if j < k then val (.tab j) else tv j)
  | 2 => ints m.refs
  | 3 => flatN m.snaps (fun j => if j < l then val (.sr j) else qv j)
  | 4 => ints (m.slots.getD a.ix default).2.2
  | _ => ints (m.snaps.getD a.ix default).2.2
structure HC (W : World) (B : Nat) (val : Nm → Value) (m : ImgD) (tv qv : Nat → Value) (k l : Nat) : Prop where
  row : ∀ a, liveH k l a → W.ownsRow B (rowT a) (rowS a) (val a) (rowN m a) (rowH m val tv qv k l a)
  apart : ∀ a b, liveH k l a → liveH k l b → a ≠ b → ∀ g, (val a).ownBlock = some g → (val b).ownBlock ≠ some g
theorem liveH.cases {k l : Nat} {a : Nm} (h : liveH k l a) : a = .root ∨ a = .slots ∨ a = .refs ∨ a = .snaps ∨ (∃ j, a = .tab j ∧ j < k) ∨ ∃ j, a = .sr j ∧ j < l := by
  obtain ⟨x, j⟩ := a
  rcases h with ⟨h1, h2⟩ | ⟨h1, h2⟩ | ⟨h1, h2⟩
  · dsimp only at h1 h2
    subst h2
    match x, h1 with
    | 0, _ => exact .inl rfl
    | 1, _ => exact .inr (.inl rfl)
    | 2, _ => exact .inr (.inr (.inl rfl))
    | 3, _ => exact .inr (.inr (.inr (.inl rfl)))
  · dsimp only at h1 h2; subst h1; exact .inr (.inr (.inr (.inr (.inl ⟨j, rfl, h2⟩))))
  · dsimp only at h1 h2; subst h1; exact .inr (.inr (.inr (.inr (.inr ⟨j, rfl, h2⟩))))
theorem liveH.old {k l : Nat} {a : Nm} (h : liveH (k + 1) l a) (hne : a ≠ .tab k) : liveH k l a := by
  rcases h.cases with rfl | rfl | rfl | rfl | ⟨j, rfl, hj⟩ | ⟨j, rfl, hj⟩
  · exact .inl ⟨by decide, rfl⟩
  · exact .inl ⟨by decide, rfl⟩
  · exact .inl ⟨by decide, rfl⟩
  · exact .inl ⟨by decide, rfl⟩
  · refine .inr (.inl ⟨rfl, ?_⟩)
    rcases Nat.lt_or_ge j k with h | h
    · exact h
    · exact absurd (by rw [show j = k by omega]) hne
  · exact .inr (.inr ⟨rfl, hj⟩)
theorem liveH.old' {k l : Nat} {a : Nm} (h : liveH k (l + 1) a) (hne : a ≠ .sr l) : liveH k l a := by
  rcases h.cases with rfl | rfl | rfl | rfl | ⟨j, rfl, hj⟩ | ⟨j, rfl, hj⟩
  · exact .inl ⟨by decide, rfl⟩
  · exact .inl ⟨by decide, rfl⟩
  · exact .inl ⟨by decide, rfl⟩
  · exact .inl ⟨by decide, rfl⟩
  · exact .inr (.inl ⟨rfl, hj⟩)
  · refine .inr (.inr ⟨rfl, ?_⟩)
    rcases Nat.lt_or_ge j l with h | h
    · exact h
    · exact absurd (by rw [show j = l by omega]) hne
theorem HC.below {W W' : World} {B : Nat} {val : Nm → Value} {m : ImgD} {tv qv : Nat → Value} {k l : Nat} (h : HC W B val m tv qv k l) (hb : Below W.heap.size W W') : HC W' B val m tv qv k l := by
  refine ⟨fun a ha => ?_, h.apart⟩
  have hr := h.row a ha
  refine ⟨hr.1, ?_⟩
  rcases hr.2 with hn | ⟨g, cap, cur, hv, hb', hg, rest⟩
  · exact .inl hn
  · exact .inr ⟨g, cap, cur, hv, hb', (hb.block g (Array.getElem?_eq_some_iff.1 hg).1).trans hg, rest⟩
theorem HC.far {W : World} {B : Nat} {val : Nm → Value} {m : ImgD} {tv qv : Nat → Value} {k l : Nat} (h : HC W B val m tv qv k l) {g i : Nat} {u : Value} (hg : g < B) : HC (W.setCell ⟨g, i, none⟩ u) B val m tv qv k l :=
  ⟨fun a ha => ownsRow_setCell_other (h.row a ha) (fun e => by have := ((h.row a ha).lt g e).1; omega) u, h.apart⟩
theorem flatS_put {L : List SlotD} {tv tv' : Nat → Value} {t : Nat} (htv : ∀ j, j ≠ t → tv' j = tv j) : flatS L tv' = (flatS L tv).set (t * 3 + 2) (tv' t) := by
  apply List.ext_getElem?
  intro i
  have hlen := flatS_length L tv
  rcases Nat.lt_or_ge i (L.length * 3) with hi | hi
  · obtain ⟨j, r, hj, hr, rfl⟩ : ∃ j r, j < L.length ∧ r < 3 ∧ i = j * 3 + r := ⟨i / 3, i % 3, by omega, Nat.mod_lt _ (by decide), by omega⟩
    obtain ⟨a0, a1, a2⟩ := flatS_get (L := L) (tv := tv') hj
    obtain ⟨b0, b1, b2⟩ := flatS_get (L := L) (tv := tv) hj
    by_cases e : t = j
    · subst e
      match r, hr with
      | 0, _ => rw [Nat.add_zero, a0, List.getElem?_set_ne (by omega), b0]
      | 1, _ => rw [a1, List.getElem?_set_ne (by omega), b1]
      | 2, _ => rw [a2, List.getElem?_set_self (by rw [hlen]; omega)]
    · rw [htv j (fun x => e x.symm)] at a2
      rw [List.getElem?_set_ne (by omega)]
      match r, hr with
      | 0, _ => rw [Nat.add_zero, a0, b0]
      | 1, _ => rw [a1, b1]
      | 2, _ => rw [a2, b2]
  · rw [List.getElem?_eq_none (by rw [flatS_length]; exact hi), List.getElem?_eq_none (by rw [List.length_set, flatS_length]; exact hi)]
theorem flatN_put {L : List SnapD} {tv tv' : Nat → Value} {t : Nat} (htv : ∀ j, j ≠ t → tv' j = tv j) : flatN L tv' = (flatN L tv).set (t * 3 + 2) (tv' t) := by
  apply List.ext_getElem?
  intro i
  have hlen := flatN_length L tv
  rcases Nat.lt_or_ge i (L.length * 3) with hi | hi
  · obtain ⟨j, r, hj, hr, rfl⟩ : ∃ j r, j < L.length ∧ r < 3 ∧ i = j * 3 + r := ⟨i / 3, i % 3, by omega, Nat.mod_lt _ (by decide), by omega⟩
    obtain ⟨a0, a1, a2⟩ := flatN_get (S := L) (qv := tv') hj
    obtain ⟨b0, b1, b2⟩ := flatN_get (S := L) (qv := tv) hj
    by_cases e : t = j
    · subst e
      match r, hr with
      | 0, _ => rw [Nat.add_zero, a0, List.getElem?_set_ne (by omega), b0]
      | 1, _ => rw [a1, List.getElem?_set_ne (by omega), b1]
      | 2, _ => rw [a2, List.getElem?_set_self (by rw [hlen]; omega)]
    · rw [htv j (fun x => e x.symm)] at a2
      rw [List.getElem?_set_ne (by omega)]
      match r, hr with
      | 0, _ => rw [Nat.add_zero, a0, b0]
      | 1, _ => rw [a1, b1]
      | 2, _ => rw [a2, b2]
  · rw [List.getElem?_eq_none (by rw [flatN_length]; exact hi), List.getElem?_eq_none (by rw [List.length_set, flatN_length]; exact hi)]
theorem HC.tab {W : World} {B : Nat} {val : Nm → Value} {m : ImgD} {tv qv : Nat → Value} {k l : Nat} (h : HC W B val m tv qv k l) {g n cap : Nat} (hv : val .slots = .slice (some ⟨g, 0, none⟩) n cap) {v : Value} (hr : W.ownsRow B 3 1 v (m.slots.getD k default).2.2.length (ints (m.slots.getD k default).2.2)) (hf : ∀ a, liveH k l a → ∀ q, v.ownBlock = some q → (val a).ownBlock ≠ some q) :
    HC (W.setCell ⟨g, k * 3 + 2, none⟩ v) B (upd val (.tab k) v) m tv qv (k + 1) l := by
  have hsl : liveH k l .slots := .inl ⟨by decide, rfl⟩
  have hvg : v.ownBlock ≠ some g := fun e => hf .slots hsl g e (by rw [hv]; rfl)
  have hnn : n = m.slots.length := by
    rcases row_form (h.row .slots hsl) with ⟨e, _⟩ | ⟨g', cap', e, _⟩
    · rw [hv] at e; simp at e
    · rw [hv] at e; simp at e; exact e.2.1
  refine ⟨fun a ha => ?_, fun a b ha hb hne q hq => ?_⟩
  · by_cases e : a = .tab k
    · subst e
      rw [upd_same]
      exact ownsRow_setCell_other hr hvg v
    · have ha' := ha.old e
      rw [upd_other _ _ e]
      by_cases es : a = .slots
      · subst es
        have hrs := h.row .slots hsl
        have e1 : rowH m (upd val (.tab k) v) tv qv (k + 1) l .slots = (rowH m val tv qv k l .slots).set (k * 3 + 2) v := by
          have := flatS_put (L := m.slots) (tv := fun j => if j < k then val (.tab j) else tv j) (tv' := fun j => if j < k + 1 then upd val (.tab k) v (.tab j) else tv j) (t := k) (fun j hj => by
            by_cases h1 : j < k
            · rw [if_pos (by omega), if_pos h1, upd_other _ _ (by intro x; injection x with _ x; omega)]
            · rw [if_neg (by omega), if_neg h1])
          rw [if_pos (by omega), upd_same] at this
          exact this
        rw [e1]
        have hN : rowN m .slots = n := hnn.symm
        rw [hN, hv] at hrs ⊢
        exact (hrs.stored (k * 3 + 2) v).1
      · have e1 : rowH m (upd val (.tab k) v) tv qv (k + 1) l a = rowH m val tv qv k l a := by
          rcases ha'.cases with rfl | rfl | rfl | rfl | ⟨j, rfl, hj⟩ | ⟨j, rfl, hj⟩ <;> first | rfl | exact absurd rfl es
        rw [e1]
        exact ownsRow_setCell_other (h.row a ha') (h.apart .slots a hsl ha' (fun x => es x.symm) g (by rw [hv]; rfl)) v
  · by_cases e : a = .tab k
    · subst e
      rw [upd_same] at hq
      rw [upd_other _ _ (fun x => hne x.symm)]
      exact hf b (hb.old (fun x => hne x.symm)) q hq
    · rw [upd_other _ _ e] at hq
      by_cases e2 : b = .tab k
      · subst e2; rw [upd_same]; exact fun x => hf a (ha.old e) q x hq
      · rw [upd_other _ _ e2]; exact h.apart a b (ha.old e) (hb.old e2) hne q hq
theorem HC.sr {W : World} {B : Nat} {val : Nm → Value} {m : ImgD} {tv qv : Nat → Value} {k l : Nat} (h : HC W B val m tv qv k l) {g n cap : Nat} (hv : val .snaps = .slice (some ⟨g, 0, none⟩) n cap) {v : Value} (hr : W.ownsRow B 3 1 v (m.snaps.getD l default).2.2.length (ints (m.snaps.getD l default).2.2)) (hf : ∀ a, liveH k l a → ∀ q, v.ownBlock = some q → (val a).ownBlock ≠ some q) :
    HC (W.setCell ⟨g, l * 3 + 2, none⟩ v) B (upd val (.sr l) v) m tv qv k (l + 1) := by
  have hsl : liveH k l .snaps := .inl ⟨by decide, rfl⟩
  have hvg : v.ownBlock ≠ some g := fun e => hf .snaps hsl g e (by rw [hv]; rfl)
  have hnn : n = m.snaps.length := by
    rcases row_form (h.row .snaps hsl) with ⟨e, _⟩ | ⟨g', cap', e, _⟩
    · rw [hv] at e; simp at e
    · rw [hv] at e; simp at e; exact e.2.1
  refine ⟨fun a ha => ?_, fun a b ha hb hne q hq => ?_⟩
  · by_cases e : a = .sr l
    · subst e
      rw [upd_same]
      exact ownsRow_setCell_other hr hvg v
    · have ha' := ha.old' e
      rw [upd_other _ _ e]
      by_cases es : a = .snaps
      · subst es
        have hrs := h.row .snaps hsl
        have e1 : rowH m (upd val (.sr l) v) tv qv k (l + 1) .snaps = (rowH m val tv qv k l .snaps).set (l * 3 + 2) v := by
          have := flatN_put (L := m.snaps) (tv := fun j => if j < l then val (.sr j) else qv j) (tv' := fun j => if j < l + 1 then upd val (.sr l) v (.sr j) else qv j) (t := l) (fun j hj => by
            by_cases h1 : j < l
            · rw [if_pos (by omega), if_pos h1, upd_other _ _ (by intro x; injection x with _ x; omega)]
            · rw [if_neg (by omega), if_neg h1])
          rw [if_pos (by omega), upd_same] at this
          exact this
        rw [e1]
        have hN : rowN m .snaps = n := hnn.symm
        rw [hN, hv] at hrs ⊢
        exact (hrs.stored (l * 3 + 2) v).1
      · have e1 : rowH m (upd val (.sr l) v) tv qv k (l + 1) a = rowH m val tv qv k l a := by
          rcases ha'.cases with rfl | rfl | rfl | rfl | ⟨j, rfl, hj⟩ | ⟨j, rfl, hj⟩ <;> first | rfl | exact absurd rfl es
        rw [e1]
        exact ownsRow_setCell_other (h.row a ha') (h.apart .snaps a hsl ha' (fun x => es x.symm) g (by rw [hv]; rfl)) v
  · by_cases e : a = .sr l
    · subst e
      rw [upd_same] at hq
      rw [upd_other _ _ (fun x => hne x.symm)]
      exact hf b (hb.old' (fun x => hne x.symm)) q hq
    · rw [upd_other _ _ e] at hq
      by_cases e2 : b = .sr l
      · subst e2; rw [upd_same]; exact fun x => hf a (ha.old' e) q x hq
      · rw [upd_other _ _ e2]; exact h.apart a b (ha.old' e) (hb.old' e2) hne q hq
def val4 (vr vs vf vn : Value) : Nm → Value := fun a => if a.kind = 0 then vr else if a.kind = 1 then vs else if a.kind = 2 then vf else vn
theorem HC.start {W : World} {B : Nat} {m : ImgD} {tv qv : Nat → Value} {vr vs vf vn : Value} (h0 : W.ownsRow B 3 1 vr m.root.length (ints m.root)) (h1 : W.ownsRow B 60 3 vs m.slots.length (flatS m.slots tv)) (h2 : W.ownsRow B 3 1 vf m.refs.length (ints m.refs)) (h3 : W.ownsRow B 74 3 vn m.snaps.length (flatN m.snaps qv))
    (a01 : ∀ q, vs.ownBlock = some q → vr.ownBlock ≠ some q) (a02 : ∀ q, vf.ownBlock = some q → vr.ownBlock ≠ some q) (a03 : ∀ q, vn.ownBlock = some q → vr.ownBlock ≠ some q) (a12 : ∀ q, vs.ownBlock = some q → vf.ownBlock ≠ some q) (a13 : ∀ q, vn.ownBlock = some q → vs.ownBlock ≠ some q) (a23 : ∀ q, vn.ownBlock = some q → vf.ownBlock ≠ some q) : HC W B (val4 vr vs vf vn) m tv qv 0 0 := by
  refine ⟨fun a ha => ?_, fun a b ha hb hne q hq => ?_⟩
  · rcases ha.cases with rfl | rfl | rfl | rfl | ⟨j, rfl, hj⟩ | ⟨j, rfl, hj⟩
    · exact h0
    · exact h1
    · exact h2
    · exact h3
    · exact absurd hj (Nat.not_lt_zero _)
    · exact absurd hj (Nat.not_lt_zero _)
  · rcases ha.cases with rfl | rfl | rfl | rfl | ⟨j, rfl, hj⟩ | ⟨j, rfl, hj⟩
    · rcases hb.cases with rfl | rfl | rfl | rfl | ⟨j, rfl, hj⟩ | ⟨j, rfl, hj⟩
      · exact absurd rfl hne
      · exact fun x => a01 q x hq
      · exact fun x => a02 q x hq
      · exact fun x => a03 q x hq
      · exact absurd hj (Nat.not_lt_zero _)
      · exact absurd hj (Nat.not_lt_zero _)
    · rcases hb.cases with rfl | rfl | rfl | rfl | ⟨j, rfl, hj⟩ | ⟨j, rfl, hj⟩
      · exact a01 q hq
      · exact absurd rfl hne
      · exact a12 q hq
      · exact fun x => a13 q x hq
      · exact absurd hj (Nat.not_lt_zero _)
      · exact absurd hj (Nat.not_lt_zero _)
    · rcases hb.cases with rfl | rfl | rfl | rfl | ⟨j, rfl, hj⟩ | ⟨j, rfl, hj⟩
      · exact a02 q hq
      · exact fun x => a12 q x hq
      · exact absurd rfl hne
      · exact fun x => a23 q x hq
      · exact absurd hj (Nat.not_lt_zero _)
      · exact absurd hj (Nat.not_lt_zero _)
    · rcases hb.cases with rfl | rfl | rfl | rfl | ⟨j, rfl, hj⟩ | ⟨j, rfl, hj⟩
      · exact a03 q hq
      · exact a13 q hq
      · exact a23 q hq
      · exact absurd rfl hne
      · exact absurd hj (Nat.not_lt_zero _)
      · exact absurd hj (Nat.not_lt_zero _)
    · exact absurd hj (Nat.not_lt_zero _)
    · exact absurd hj (Nat.not_lt_zero _)
end Go.Proofs.Ytehleeibgkpjmag
/- An image of right shape is not too wide to be copied. -/
namespace Go.Proofs.Ytehleeibgkpjmag
open Go.RowKit
set_option maxRecDepth 20000

theorem okD_len {s : SlotD} (h : okD s = true) : s.2.2.length ≤ 4 := by
  unfold okD slotOK at h
  split at h
  · simp at h; rw [h.2]; exact Nat.zero_le _
  · split at h
    · simp at h; rw [h.2]; exact Nat.zero_le _
    · split at h
      · simp at h; rw [ckE_len h.1]; exact Nat.le_refl _
      · cases h
end Go.Proofs.Ytehleeibgkpjmag
/- Images as bytes, plain: what is written, what is read. -/
namespace Go.Proofs.Ytehleeibgkpjmag
open Go.RowKit Go.Shelf
set_option linter.unusedVariables false
set_option linter.unusedSimpArgs false

def by8 (x : Int) : UInt8 := UInt8.ofNat (x % 256).toNat
def eInt (a : UInt8) : Int := if a.toNat = 255 then -1 else (a.toNat : Int)
theorem by8_nat (a : UInt8) : by8 (a.toNat : Int) = a := by
  unfold by8
  have h := a.toNat_lt
  rw [show ((a.toNat : Int) % 256).toNat = a.toNat by omega]
  exact UInt8.ofNat_toNat
theorem by8_eInt (a : UInt8) : by8 (eInt a) = a := by
  unfold eInt
  split
  · rename_i h
    have : a = 255 := by rw [← UInt8.ofNat_toNat (x := a), h]; rfl
    rw [this]; rfl
  · exact by8_nat a
theorem by8_toNat {x : Int} (h0 : 0 ≤ x) (h : x < 256) : (by8 x).toNat = x.toNat := by
  unfold by8
  rw [UInt8.toNat_ofNat']
  omega
theorem eInt_by8 {e : Int} (h : isE e = true) : eInt (by8 e) = e := by
  unfold isE at h
  simp only [Bool.or_eq_true, Bool.and_eq_true, beq_iff_eq, decide_eq_true_eq] at h
  rcases h with h | h | ⟨h1, h2⟩
  · subst h; rfl
  · subst h; rfl
  · unfold eInt
    rw [by8_toNat (by omega) (by omega), if_neg (by omega)]
    omega
def slotB (s : SlotD) : List UInt8 := by8 s.1 :: (s.2.1.data.toList ++ s.2.2.map by8)
def snapB (s : SnapD) : List UInt8 := by8 (s.1.size : Int) :: (s.1.data.toList ++ by8 s.2.1 :: s.2.2.map by8)
def imgB (m : ImgD) : List UInt8 := by8 m.guest :: by8 (m.slots.length : Int) :: (m.slots.flatMap slotB ++ by8 (m.snaps.length : Int) :: (m.snaps.flatMap snapB ++ m.root.map by8))

-- the program's reader
def pNum : List UInt8 → Option (Nat × List UInt8)
  | [] => none
  | a :: r => some (a.toNat, r)
def pText (n : Nat) (l : List UInt8) : Option (List UInt8 × List UInt8) := if n ≤ l.length then some (l.take n, l.drop n) else none
def pEnts (n : Nat) (l : List UInt8) : Option (List Int × List UInt8) := if n ≤ l.length then some ((l.take n).map eInt, l.drop n) else none
def pKind (k : Nat) (r : List UInt8) : Option (SlotD × List UInt8) :=
  if k = 0 then some ((0, ⟨#[]⟩, []), r) else if k = 1 then (pText 4 r).map (fun q => ((1, ⟨q.1.toArray⟩, []), q.2)) else if k = 2 then (pEnts 4 r).map (fun q => ((2, ⟨#[]⟩, q.1), q.2)) else none
def pSlot (l : List UInt8) : Option (SlotD × List UInt8) := (pNum l).bind fun a => pKind a.1 a.2
def pMany {α : Type} (f : List UInt8 → Option (α × List UInt8)) : Nat → List UInt8 → Option (List α × List UInt8)
  | 0, l => some ([], l)
  | n + 1, l => (pMany f n l).bind fun q => (f q.2).map fun p => (q.1 ++ [p.1], p.2)
def pSnap (l : List UInt8) : Option (SnapD × List UInt8) :=
  (pNum l).bind fun a => (pText a.1 a.2).bind fun t => (pNum t.2).bind fun g => (pEnts ((g.1 + 3) / 4) g.2).map fun r => ((⟨t.1.toArray⟩, (g.1 : Int), r.1), r.2)
def pImg (l : List UInt8) : Option (ImgD × List UInt8) :=
  (pNum l).bind fun g => (pNum g.2).bind fun n => (pMany pSlot n.1 n.2).bind fun S => (pNum S.2).bind fun k => (pMany pSnap k.1 k.2).bind fun N => (pEnts ((g.1 + 3) / 4) N.2).map fun r => (⟨(g.1 : Int), r.1, S.1, [], N.1⟩, r.2)
def parse (l : List UInt8) : Option ImgD := (pImg l).bind fun q => if q.2 = [] then some q.1 else none

-- the document's reader
def nNum : List UInt8 → Nat × List UInt8
  | [] => (0, [])
  | a :: r => (a.toNat, r)
def nText (n : Nat) (l : List UInt8) : List UInt8 × List UInt8 := (l.take n, l.drop n)
def nEnt (k : Nat) : Int := if k = 255 then -1 else (k : Int)
def nList : Nat → List UInt8 → List Int × List UInt8
  | 0, l => ([], l)
  | n + 1, l => ((nList n l).1 ++ [nEnt (nNum (nList n l).2).1], (nNum (nList n l).2).2)
def nKind (k : Nat) (r : List UInt8) : SlotD × List UInt8 :=
  if k = 1 then ((1, ⟨(nText 4 r).1.toArray⟩, []), (nText 4 r).2) else if k = 2 then ((2, ⟨#[]⟩, (nList 4 r).1), (nList 4 r).2) else (((k : Int), ⟨#[]⟩, []), r)
def nSlot (l : List UInt8) : SlotD × List UInt8 := nKind (nNum l).1 (nNum l).2
def nMany {α : Type} (f : List UInt8 → α × List UInt8) : Nat → List UInt8 → List α × List UInt8
  | 0, l => ([], l)
  | n + 1, l => ((nMany f n l).1 ++ [(f (nMany f n l).2).1], (f (nMany f n l).2).2)
def nSnapT (l : List UInt8) : List UInt8 × List UInt8 := nText (nNum l).1 (nNum l).2
def nSnapG (l : List UInt8) : Nat × List UInt8 := nNum (nSnapT l).2
def nSnapR (l : List UInt8) : List Int × List UInt8 := nList (((nSnapG l).1 + 3) / 4) (nSnapG l).2
def nSnap (l : List UInt8) : SnapD × List UInt8 := ((⟨(nSnapT l).1.toArray⟩, ((nSnapG l).1 : Int), (nSnapR l).1), (nSnapR l).2)
def nG (l : List UInt8) : Nat × List UInt8 := nNum l
def nN (l : List UInt8) : Nat × List UInt8 := nNum (nG l).2
def nS (l : List UInt8) : List SlotD × List UInt8 := nMany nSlot (nN l).1 (nN l).2
def nK (l : List UInt8) : Nat × List UInt8 := nNum (nS l).2
def nW (l : List UInt8) : List SnapD × List UInt8 := nMany nSnap (nK l).1 (nK l).2
def nR (l : List UInt8) : List Int × List UInt8 := nList (((nG l).1 + 3) / 4) (nW l).2
def nImg (l : List UInt8) : ImgD := ⟨((nG l).1 : Int), (nR l).1, (nS l).1, [], (nW l).1⟩

theorem bindS {α β : Type} {o : Option α} {f : α → Option β} {b : β} (h : o.bind f = some b) : ∃ a, o = some a ∧ f a = some b := by
  cases o with
  | none => simp at h
  | some a => exact ⟨a, rfl, h⟩
theorem mapS {α β : Type} {o : Option α} {f : α → β} {b : β} (h : o.map f = some b) : ∃ a, o = some a ∧ f a = b := by
  cases o with
  | none => simp at h
  | some a => exact ⟨a, rfl, by simpa using h⟩

-- where the program reads, the document reads alike
theorem pNum_n {l : List UInt8} {q : Nat × List UInt8} (h : pNum l = some q) : nNum l = q := by
  cases l with
  | nil => simp [pNum] at h
  | cons a r => simpa [pNum, nNum] using h
theorem pText_n {n : Nat} {l : List UInt8} {q : List UInt8 × List UInt8} (h : pText n l = some q) : nText n l = q := by
  unfold pText at h
  split at h
  · simpa [nText] using h
  · simp at h
theorem nList_is (l : List UInt8) : ∀ n, n ≤ l.length → nList n l = ((l.take n).map eInt, l.drop n)
  | 0, _ => rfl
  | n + 1, h => by
    have ih := nList_is l n (by omega)
    have hl : n < l.length := by omega
    have hd : l.drop n = l[n] :: l.drop (n + 1) := List.drop_eq_getElem_cons hl
    show ((nList n l).1 ++ [nEnt (nNum (nList n l).2).1], (nNum (nList n l).2).2) = _
    rw [ih]
    show ((l.take n).map eInt ++ [nEnt (nNum (l.drop n)).1], (nNum (l.drop n)).2) = _
    rw [hd]
    show ((l.take n).map eInt ++ [nEnt l[n].toNat], l.drop (n + 1)) = _
    rw [show l.take (n + 1) = l.take n ++ [l[n]] from (List.take_append_getElem hl).symm, List.map_append]
    rfl
theorem pEnts_n {n : Nat} {l : List UInt8} {q : List Int × List UInt8} (h : pEnts n l = some q) : nList n l = q := by
  unfold pEnts at h
  split at h
  · rename_i hn
    rw [nList_is l n hn]
    simpa using h
  · simp at h
theorem pKind_n {k : Nat} {r : List UInt8} {q : SlotD × List UInt8} (h : pKind k r = some q) : nKind k r = q := by
  unfold pKind at h
  unfold nKind
  split at h
  · rename_i e
    subst e
    rw [if_neg (by decide), if_neg (by decide)]
    simpa using h
  · split at h
    · rename_i e
      obtain ⟨a, h1, h2⟩ := mapS h
      rw [if_pos e, pText_n h1]
      exact h2
    · split at h
      · rename_i e1 e
        obtain ⟨a, h1, h2⟩ := mapS h
        rw [if_neg e1, if_pos e, pEnts_n h1]
        exact h2
      · simp at h
theorem pSlot_n {l : List UInt8} {q : SlotD × List UInt8} (h : pSlot l = some q) : nSlot l = q := by
  obtain ⟨a, h1, h2⟩ := bindS h
  unfold nSlot
  rw [pNum_n h1]
  exact pKind_n h2
theorem pMany_n {α : Type} {f : List UInt8 → Option (α × List UInt8)} {g : List UInt8 → α × List UInt8} (hf : ∀ l q, f l = some q → g l = q) : ∀ n l q, pMany f n l = some q → nMany g n l = q
  | 0, l, q, h => by simpa [pMany, nMany] using h
  | n + 1, l, q, h => by
    obtain ⟨a, h1, h2⟩ := bindS h
    obtain ⟨b, h3, h4⟩ := mapS h2
    have ih := pMany_n hf n l a h1
    show ((nMany g n l).1 ++ [(g (nMany g n l).2).1], (g (nMany g n l).2).2) = q
    rw [ih, hf _ _ h3]
    exact h4
theorem pSnap_n {l : List UInt8} {q : SnapD × List UInt8} (h : pSnap l = some q) : nSnap l = q := by
  obtain ⟨a, h1, h⟩ := bindS h
  obtain ⟨t, h2, h⟩ := bindS h
  obtain ⟨g, h3, h⟩ := bindS h
  obtain ⟨r, h4, h⟩ := mapS h
  have e1 : nSnapT l = t := by unfold nSnapT; rw [pNum_n h1]; exact pText_n h2
  have e2 : nSnapG l = g := by unfold nSnapG; rw [e1]; exact pNum_n h3
  have e3 : nSnapR l = r := by unfold nSnapR; rw [e2]; exact pEnts_n h4
  unfold nSnap
  rw [e1, e2, e3]
  exact h
theorem pImg_n {l : List UInt8} {q : ImgD × List UInt8} (h : pImg l = some q) : nImg l = q.1 := by
  obtain ⟨g, h1, h⟩ := bindS h
  obtain ⟨n, h2, h⟩ := bindS h
  obtain ⟨S, h3, h⟩ := bindS h
  obtain ⟨k, h4, h⟩ := bindS h
  obtain ⟨N, h5, h⟩ := bindS h
  obtain ⟨r, h6, h⟩ := mapS h
  have e1 : nG l = g := pNum_n h1
  have e2 : nN l = n := by unfold nN; rw [e1]; exact pNum_n h2
  have e3 : nS l = S := by unfold nS; rw [e2]; exact pMany_n (fun _ _ => pSlot_n) _ _ _ h3
  have e4 : nK l = k := by unfold nK; rw [e3]; exact pNum_n h4
  have e5 : nW l = N := by unfold nW; rw [e4]; exact pMany_n (fun _ _ => pSnap_n) _ _ _ h5
  have e6 : nR l = r := by unfold nR; rw [e1, e5]; exact pEnts_n h6
  unfold nImg
  rw [e1, e3, e5, e6, ← h]

-- what is read is what its bytes were
theorem pNum_b {l : List UInt8} {q : Nat × List UInt8} (h : pNum l = some q) : by8 (q.1 : Int) :: q.2 = l := by
  cases l with
  | nil => simp [pNum] at h
  | cons a r =>
    have h : (a.toNat, r) = q := by simpa [pNum] using h
    subst h
    show by8 (a.toNat : Int) :: r = a :: r
    rw [by8_nat]
theorem pText_b {n : Nat} {l : List UInt8} {q : List UInt8 × List UInt8} (h : pText n l = some q) : q.1 ++ q.2 = l ∧ q.1.length = n := by
  unfold pText at h
  split at h
  · rename_i hn
    have h : (l.take n, l.drop n) = q := by simpa using h
    subst h
    exact ⟨List.take_append_drop _ _, by rw [List.length_take]; omega⟩
  · simp at h
theorem map_by8 (l : List UInt8) : (l.map eInt).map by8 = l := by
  rw [List.map_map]
  have : by8 ∘ eInt = id := funext fun a => by8_eInt a
  rw [this, List.map_id]
theorem pEnts_b {n : Nat} {l : List UInt8} {q : List Int × List UInt8} (h : pEnts n l = some q) : q.1.map by8 ++ q.2 = l := by
  unfold pEnts at h
  split at h
  · have h : ((l.take n).map eInt, l.drop n) = q := by simpa using h
    subst h
    show ((l.take n).map eInt).map by8 ++ l.drop n = l
    rw [map_by8]
    exact List.take_append_drop _ _
  · simp at h
theorem pSlot_b {l : List UInt8} {q : SlotD × List UInt8} (h : pSlot l = some q) : slotB q.1 ++ q.2 = l := by
  obtain ⟨a, h1, h2⟩ := bindS h
  have hb := pNum_b h1
  unfold pKind at h2
  split at h2
  · rename_i e
    have h2 : (((0 : Int), (⟨#[]⟩ : ByteArray), ([] : List Int)), a.2) = q := by simpa using h2
    subst h2
    rw [← hb, e]
    rfl
  · split at h2
    · rename_i e
      obtain ⟨t, h3, h4⟩ := mapS h2
      subst h4
      rw [← hb, e]
      show by8 1 :: (t.1 ++ [] ++ t.2) = _
      rw [List.append_nil, (pText_b h3).1]
      rfl
    · split at h2
      · rename_i e
        obtain ⟨t, h3, h4⟩ := mapS h2
        subst h4
        rw [← hb, e]
        show by8 2 :: (([] : List UInt8) ++ t.1.map by8 ++ t.2) = _
        rw [List.nil_append, pEnts_b h3]
        rfl
      · simp at h2
theorem pMany_b {α : Type} {f : List UInt8 → Option (α × List UInt8)} {B : α → List UInt8} (hf : ∀ l q, f l = some q → B q.1 ++ q.2 = l) : ∀ n l q, pMany f n l = some q → q.1.flatMap B ++ q.2 = l ∧ q.1.length = n
  | 0, l, q, h => by
    have h : (([] : List α), l) = q := by simpa [pMany] using h
    subst h
    exact ⟨rfl, rfl⟩
  | n + 1, l, q, h => by
    obtain ⟨a, h1, h2⟩ := bindS h
    obtain ⟨b, h3, h4⟩ := mapS h2
    obtain ⟨i1, i2⟩ := pMany_b hf n l a h1
    subst h4
    refine ⟨?_, by simp [i2]⟩
    show (a.1 ++ [b.1]).flatMap B ++ b.2 = l
    rw [List.flatMap_append, List.append_assoc]
    show a.1.flatMap B ++ ([b.1].flatMap B ++ b.2) = l
    rw [show [b.1].flatMap B = B b.1 by simp, hf _ _ h3, i1]
theorem size_list (l : List UInt8) : (⟨l.toArray⟩ : ByteArray).size = l.length := by simp [ByteArray.size]
theorem pSnap_b {l : List UInt8} {q : SnapD × List UInt8} (h : pSnap l = some q) : snapB q.1 ++ q.2 = l := by
  obtain ⟨a, h1, h⟩ := bindS h
  obtain ⟨t, h2, h⟩ := bindS h
  obtain ⟨g, h3, h⟩ := bindS h
  obtain ⟨r, h4, h⟩ := mapS h
  subst h
  have b1 := pNum_b h1
  obtain ⟨b2, b2'⟩ := pText_b h2
  have b3 := pNum_b h3
  have b4 := pEnts_b h4
  show by8 ((⟨t.1.toArray⟩ : ByteArray).size : Int) :: ((t.1 ++ by8 (g.1 : Int) :: r.1.map by8) ++ r.2) = l
  rw [size_list, b2', List.append_assoc, List.cons_append, b4, b3, b2, b1]
theorem pImg_b {l : List UInt8} {q : ImgD × List UInt8} (h : pImg l = some q) : imgB q.1 ++ q.2 = l := by
  obtain ⟨g, h1, h⟩ := bindS h
  obtain ⟨n, h2, h⟩ := bindS h
  obtain ⟨S, h3, h⟩ := bindS h
  obtain ⟨k, h4, h⟩ := bindS h
  obtain ⟨N, h5, h⟩ := bindS h
  obtain ⟨r, h6, h⟩ := mapS h
  subst h
  have b1 := pNum_b h1
  have b2 := pNum_b h2
  obtain ⟨b3, b3'⟩ := pMany_b (B := slotB) (fun _ _ => pSlot_b) _ _ _ h3
  have b4 := pNum_b h4
  obtain ⟨b5, b5'⟩ := pMany_b (B := snapB) (fun _ _ => pSnap_b) _ _ _ h5
  have b6 := pEnts_b h6
  show by8 (g.1 : Int) :: by8 (S.1.length : Int) :: ((S.1.flatMap slotB ++ by8 (N.1.length : Int) :: (N.1.flatMap snapB ++ r.1.map by8)) ++ r.2) = l
  rw [List.append_assoc, List.cons_append, List.append_assoc, b6, b5, b5', b4, b3, b3', b2, b1]

-- what is written is read as it was
theorem pText_of (t r : List UInt8) : pText t.length (t ++ r) = some (t, r) := by
  unfold pText
  rw [if_pos (by simp)]
  simp
theorem pEnts_of (es : List Int) (h : ∀ e ∈ es, isE e = true) (r : List UInt8) : pEnts es.length (es.map by8 ++ r) = some (es, r) := by
  unfold pEnts
  rw [if_pos (by simp)]
  have e1 : (es.map by8 ++ r).take es.length = es.map by8 := by rw [List.take_append_of_le_length (by simp), List.take_of_length_le (by simp)]
  have e2 : (es.map by8 ++ r).drop es.length = r := by rw [List.drop_append_of_le_length (by simp), List.drop_of_length_le (by simp)]; rfl
  rw [e1, e2, List.map_map]
  have : es.map (eInt ∘ by8) = es := by
    conv => rhs; rw [← List.map_id es]
    exact List.map_congr_left fun e he => eInt_by8 (h e he)
  rw [this]
theorem ba_none {d : ByteArray} (h : d.size = 0) : d = ⟨#[]⟩ := by
  obtain ⟨a⟩ := d
  have : a = #[] := Array.eq_empty_of_size_eq_zero h
  rw [this]
theorem pSlot_of {s : SlotD} (h : okD s = true) (r : List UInt8) : pSlot (slotB s ++ r) = some (s, r) := by
  obtain ⟨k, d, t⟩ := s
  have he := okD_ents h
  unfold okD slotOK at h
  dsimp only at h he
  show pKind (by8 k).toNat ((d.data.toList ++ t.map by8) ++ r) = _
  unfold pKind
  by_cases h0 : k = 0
  · rw [if_pos h0] at h
    obtain ⟨h1, h2⟩ := of_decide_eq_true h
    have h2 := List.length_eq_zero_iff.1 h2
    have hd := ba_none h1
    subst hd h2 h0
    rw [if_pos (by rfl)]
    rfl
  · rw [if_neg h0] at h
    by_cases h1 : k = 1
    · rw [if_pos h1] at h
      obtain ⟨h2, h3⟩ := of_decide_eq_true h
      have h3 := List.length_eq_zero_iff.1 h3
      subst h1 h3
      have h4 : d.data.toList.length = 4 := h2
      have := pText_of d.data.toList r
      rw [h4] at this
      rw [if_neg (by decide), if_pos (by decide), List.map_nil, List.append_nil, this]
      rfl
    · rw [if_neg h1] at h
      by_cases h2 : k = 2
      · rw [if_pos h2] at h
        obtain ⟨h3, _, h5⟩ := of_decide_eq_true h
        have hd := ba_none h5
        subst hd h2
        have h4 : t.length = 4 := ckE_len h3
        have := pEnts_of t he r
        rw [h4] at this
        rw [if_neg (by decide), if_neg (by decide), if_pos (by decide)]
        show Option.map _ (pEnts 4 (t.map by8 ++ r)) = _
        rw [this]
        rfl
      · rw [if_neg h2] at h; cases h
theorem pMany_of {α : Type} {f : List UInt8 → Option (α × List UInt8)} {B : α → List UInt8} (L : List α) (hf : ∀ s ∈ L, ∀ r, f (B s ++ r) = some (s, r)) (r : List UInt8) : ∀ k, k ≤ L.length → pMany f k (L.flatMap B ++ r) = some (L.take k, (L.drop k).flatMap B ++ r)
  | 0, _ => rfl
  | k + 1, h => by
    have hk : k < L.length := by omega
    have ih := pMany_of L hf r k (by omega)
    show (pMany f k (L.flatMap B ++ r)).bind _ = _
    rw [ih]
    show Option.map _ (f ((L.drop k).flatMap B ++ r)) = _
    rw [List.drop_eq_getElem_cons hk, List.flatMap_cons, List.append_assoc, hf _ (List.getElem_mem hk)]
    show some (L.take k ++ [L[k]], (L.drop (k + 1)).flatMap B ++ r) = _
    rw [List.take_append_getElem hk]
theorem rootE_isE {L : List SlotD} (h40 : L.length ≤ 40) {e : Int} (h : rootE L e = true) : isE e = true := by
  unfold rootE isKd at h
  unfold isE
  simp only [Bool.not_eq_true', Bool.and_eq_false_iff, bne_eq_false_iff_eq, Bool.not_eq_false', Bool.and_eq_true, decide_eq_true_eq] at h
  simp only [Bool.or_eq_true, Bool.and_eq_true, beq_iff_eq, decide_eq_true_eq]
  rcases h with h | ⟨⟨h1, h2⟩, _⟩
  · exact .inl h
  · by_cases h0 : e = 0
    · exact .inl h0
    · exact .inr (.inr ⟨by omega, by omega⟩)
theorem nm_size {L : List SnapD} (h : namesOK L = true) {s : SnapD} (hs : s ∈ L) : s.1.size ≤ 8 := by
  obtain ⟨j, hj, e⟩ := List.getElem_of_mem hs
  have := List.all_eq_true.1 h j (List.mem_range.2 hj)
  unfold nmAt isNm at this
  simp only [Bool.and_eq_true, decide_eq_true_eq] at this
  have h8 := this.1.1.2
  have e2 : L.getD j default = s := by simp [List.getD, hj, e]
  rw [e2] at h8
  exact h8
theorem pNum_of {x : Int} (h0 : 0 ≤ x) (h : x < 256) (r : List UInt8) : pNum (by8 x :: r) = some (x.toNat, r) := by
  show some ((by8 x).toNat, r) = _
  rw [by8_toNat h0 h]
theorem pSnap_of {m : ImgD} (h : shapeE m = 0) {s : SnapD} (hs : s ∈ m.snaps) (r : List UInt8) : pSnap (snapB s ++ r) = some (s, r) := by
  obtain ⟨f1, f2, f3, f4⟩ := snap_fit h (s := s) (List.mem_cons_of_mem _ hs)
  have h8 := nm_size (shapeE_zero h).2.2.2.1 hs
  have h40 := (slotsE_parts (shapeE_zero h).2.1).2
  obtain ⟨nm, g, es⟩ := s
  have f1 : 0 ≤ g := f1
  have f2 : g ≤ 16 := f2
  have f3 : (es.length : Int) = (g + 3) / 4 := f3
  have h8 : nm.size ≤ 8 := h8
  have he : ∀ e ∈ es, isE e = true := fun e he => rootE_isE h40 (List.all_eq_true.1 f4 e he)
  have hl : nm.data.toList.length = nm.size := rfl
  have e1 : pNum (snapB (nm, g, es) ++ r) = some (nm.data.toList.length, (nm.data.toList ++ (by8 g :: (es.map by8 ++ r)))) := by
    show pNum (by8 (nm.size : Int) :: ((nm.data.toList ++ by8 g :: es.map by8) ++ r)) = _
    rw [pNum_of (by omega) (by omega), List.append_assoc, List.cons_append, hl]
    simp
  have hg : (g.toNat + 3) / 4 = es.length := by omega
  unfold pSnap
  rw [e1]
  simp only [Option.bind_some]
  rw [pText_of]
  simp only [Option.bind_some]
  rw [pNum_of f1 (by omega)]
  simp only [Option.bind_some]
  rw [hg, pEnts_of es he]
  show some (((⟨nm.data.toList.toArray⟩ : ByteArray), (g.toNat : Int), es), r) = _
  rw [Int.toNat_of_nonneg f1]
theorem pImg_of {m : ImgD} (h : shapeE m = 0) : pImg (imgB m) = some ({ m with refs := [] }, []) := by
  obtain ⟨z1, z2, _, _, _, _, _⟩ := shapeE_zero h
  have h40 := (slotsE_parts z2).2
  obtain ⟨g0, g16⟩ := guest_ok h
  obtain ⟨r1, r2⟩ := root_ok h
  have hall : m.slots.all okD = true := by
    unfold slotsE at z2
    rw [if_pos (slotsE_parts (shapeE_zero h).2.1)] at z2
    split at z2
    · rename_i hx; exact hx.1
    · simp at z2
  have he : ∀ e ∈ m.root, isE e = true := fun e he => rootE_isE h40 (List.all_eq_true.1 r2 e he)
  have hg : (m.guest.toNat + 3) / 4 = m.root.length := by omega
  unfold pImg imgB
  rw [pNum_of g0 (by omega)]
  simp only [Option.bind_some]
  rw [pNum_of (by omega) (by omega), Int.toNat_natCast]
  simp only [Option.bind_some]
  rw [pMany_of m.slots (fun s hs r => pSlot_of (List.all_eq_true.1 hall s hs) r) _ _ (Nat.le_refl _), List.take_length, List.drop_length]
  simp only [Option.bind_some, List.flatMap_nil, List.nil_append]
  rw [pNum_of (by omega) (by omega), Int.toNat_natCast]
  simp only [Option.bind_some]
  rw [pMany_of m.snaps (fun s hs r => pSnap_of h hs r) _ _ (Nat.le_refl _), List.take_length, List.drop_length]
  simp only [Option.bind_some, List.flatMap_nil, List.nil_append]
  have := pEnts_of m.root he []
  rw [List.append_nil] at this
  rw [hg, this]
  show some ((⟨(m.guest.toNat : Int), m.root, m.slots, [], m.snaps⟩ : ImgD), ([] : List UInt8)) = _
  rw [Int.toNat_of_nonneg g0]
theorem parse_of {m : ImgD} (h : shapeE m = 0) : parse (imgB m) = some { m with refs := [] } := by
  unfold parse
  rw [pImg_of h]
  rfl
theorem parse_b {l : List UInt8} {m : ImgD} (h : parse l = some m) : imgB m = l ∧ nImg l = m := by
  obtain ⟨q, h1, h2⟩ := bindS h
  split at h2
  · rename_i e
    have h2 : q.1 = m := by simpa using h2
    subst h2
    have := pImg_b h1
    rw [e, List.append_nil] at this
    exact ⟨this, pImg_n h1⟩
  · simp at h2

def wcnt (m : ImgD) : ImgD := { m with refs := cntL m }
def wzer (m : ImgD) : ImgD := { m with refs := rfZ m.slots }
def fine (m : ImgD) : Bool := shapeE (wzer m) == 0 && checkE (wcnt m) == 0
def rdO (l : List UInt8) : Option ImgD := (parse l).bind fun m => if fine m = true then some (wcnt m) else none
def noO (l : List UInt8) : Option ImgD := if fine (nImg l) = true ∧ imgB (wcnt (nImg l)) = l then some (wcnt (nImg l)) else none
theorem rdO_noO (l : List UInt8) : rdO l = noO l := by
  unfold rdO noO
  cases hp : parse l with
  | none =>
    show none = _
    rw [if_neg]
    rintro ⟨h1, h2⟩
    unfold fine at h1
    simp only [Bool.and_eq_true, beq_iff_eq] at h1
    have := parse_of (checkE_shape h1.2)
    rw [h2, hp] at this
    cases this
  | some m =>
    obtain ⟨h1, h2⟩ := parse_b hp
    show (if fine m = true then some (wcnt m) else none) = _
    rw [h2]
    by_cases hf : fine m = true
    · rw [if_pos hf, if_pos ⟨hf, h1⟩]
    · rw [if_neg hf, if_neg (fun x => hf x.1)]
theorem wcnt_right {m : ImgD} (h : checkE m = 0) : wcnt { m with refs := [] } = m := by
  unfold wcnt
  have : cntL m = m.refs := by
    unfold checkE at h
    rw [if_neg (by rw [checkE_shape (by unfold checkE; exact h)]; simp)] at h
    split at h
    · simp at h
    · rename_i hx; simpa using hx
  show (⟨m.guest, m.root, m.slots, cntL m, m.snaps⟩ : ImgD) = m
  rw [this]
theorem rdO_of {m : ImgD} (h : checkE m = 0) : rdO (imgB m) = some m := by
  have hs := checkE_shape h
  unfold rdO
  rw [parse_of hs]
  show (if fine { m with refs := [] } = true then some (wcnt { m with refs := [] }) else none) = some m
  rw [wcnt_right h, if_pos]
  unfold fine
  rw [wcnt_right h, h]
  have : shapeE (wzer { m with refs := [] }) = 0 := by
    obtain ⟨z1, z2, z3, z4, z5, z6, z7⟩ := shapeE_zero hs
    have e : shapeE (wzer { m with refs := [] }) = shapeE m := by
      unfold shapeE wzer rfZ
      have : (List.replicate m.slots.length (0 : Int)).length = m.slots.length := by simp
      show (if 3 < m.snaps.length then _ else if slotsE m.slots ≠ 0 then _ else if (List.replicate m.slots.length (0 : Int)).length ≠ m.slots.length ∨ namesOK m.snaps = false then _ else _) = _
      rw [this, z3]
      rfl
    rw [e]; exact hs
  rw [this]
  rfl
theorem flatB_len {α : Type} {B : α → List UInt8} {c : Nat} : ∀ (L : List α), (∀ s ∈ L, (B s).length ≤ c) → (L.flatMap B).length ≤ c * L.length
  | [], _ => by simp
  | s :: L, h => by
    have h1 := h s List.mem_cons_self
    have h2 := flatB_len L (fun x hx => h x (List.mem_cons_of_mem _ hx))
    rw [List.flatMap_cons, List.length_append, List.length_cons, Nat.mul_add]
    omega
theorem slotB_len {s : SlotD} (h : okD s = true) : (slotB s).length ≤ 9 := by
  have h4 := okD_len h
  have h5 : s.2.1.size ≤ 4 := by
    obtain ⟨k, d, t⟩ := s
    unfold okD slotOK at h
    dsimp only at h ⊢
    split at h
    · have := (of_decide_eq_true h).1; omega
    · split at h
      · have := (of_decide_eq_true h).1; omega
      · split at h
        · have := (of_decide_eq_true h).2.2; omega
        · cases h
  have : s.2.1.data.toList.length = s.2.1.size := rfl
  unfold slotB
  simp only [List.length_cons, List.length_append, List.length_map]
  omega
end Go.Proofs.Ytehleeibgkpjmag
/- The program's writer: put, text. -/
namespace Go.Proofs.Ytehleeibgkpjmag
open Go.RowKit Go.Shelf Go.Lib
set_option maxRecDepth 20000
set_option linter.unusedVariables false
set_option linter.unusedSimpArgs false

def bys (l : List UInt8) : List Value := l.map (fun b => Value.int .u8 (b.toNat : Int))
theorem bys_length (l : List UInt8) : (bys l).length = l.length := by unfold bys; simp
theorem bys_append (a b : List UInt8) : bys (a ++ b) = bys a ++ bys b := by unfold bys; simp
theorem bys_str (s : ByteArray) : strCells s = bys s.data.toList := by
  first | rfl | (unfold strCells bys; simp) | (unfold strCells bys; simp [ByteArray.toList])
theorem info5W : (Try.prog.info? 5).map (fun i => (i.zero, i.size, i.bytes)) = some (some (.int .u8 0), 1, 1) := by kernel_rfl
theorem by8_wrap (x : Int) : ((by8 x).toNat : Int) = IntKind.u8.wrap x := by
  unfold by8
  rw [UInt8.toNat_ofNat']
  have e : IntKind.u8.wrap x = x % 256 := by first | rfl | (simp [IntKind.wrap]; done) | (unfold IntKind.wrap; simp)
  rw [e]
  omega
theorem one_newB (W : World) (x : Value) : ∀ (j : Nat) (u : Value), [x][j]? = some u → (W.alloc (.cells #[x] 5)).cell? ((⟨W.heap.size, 0, none⟩ : Addr).add j) = some u := by
  intro j u hj
  rw [addr_add, World.cell?_alloc_at _ _ _ _ rfl]
  match j, hj with
  | 0, hj => simpa using hj
theorem wpList_addB {W : World} {ops : Array Oper} {rest : List Oper} {o : Oper} {a : Act} {Q : Exit → Act → World → Prop} (hgd : o.guard = none) (s x : Operand)
    (ho : o.op = .call { callee := .builtin .append, args := #[s, x], argTypes := #[68, 68] }) {B n : Nat} {v : Value} {xs : List UInt8} {c : Int} (b : UInt8) (hc : c = (b.toNat : Int))
    (hs : a.eval s = v) {N : Nat} (hx : a.eval x = .slice (some ⟨N, 0, none⟩) 1 1) (hN : N = W.heap.size) (hown : W.ownsRow B 5 1 v n (bys xs)) (hn : n ≤ 100000) (hB : B ≤ W.heap.size)
    (h : ∀ v' w', Hid (w'.ownsRow B 5 1 v' (n + 1) (bys (xs ++ [b]))) → Hid ((W.alloc (.cells #[.int .u8 c] 5)).grownBy w' v.ownBlock) → wpList Try.prog ops Q rest (a.put o.dst v') w') : wpList Try.prog ops Q (o :: rest) a (W.alloc (.cells #[.int .u8 c] 5)) := by
  subst hN
  subst hc
  obtain ⟨i0, hi, hz0, hz1, hz2⟩ := info_parts info5W
  refine wpList_plain hgd fun _ hK => ?_
  obtain ⟨v', w', hr, g2, g3, _, g5⟩ := run_append_own_at (P := Try.prog) (W.alloc (.cells #[.int .u8 (b.toNat : Int)] 5)) B 68 o.type 5 i0 (.int .u8 0) 1 1 Try.underlying68 hi hz0 hz1 hz2 rfl (by decide) v n (bys xs) (hown.alloc _) ⟨W.heap.size, 0, none⟩ 1 1 [.int .u8 (b.toNat : Int)] rfl (one_newB W _) (by intro u hu; simp at hu; subst hu; rfl) (by unfold maxLen; omega) (by omega) (by simp; omega)
  unfold Oper.wp execOp
  simp only [ho, resolve, invoke, builtin, Sem.run_bind, Sem.run_pure, Result.andThen_ok, List.map_toArray, List.map_cons, List.map_nil, hs, hx, hr]
  exact hK _ _ (h v' w' (by rw [bys_append]; exact g2) g3)
theorem wpList_addT {W : World} {ops : Array Oper} {rest : List Oper} {o : Oper} {a : Act} {Q : Exit → Act → World → Prop} (hgd : o.guard = none) (s x : Operand)
    (ho : o.op = .call { callee := .builtin .append, args := #[s, x], argTypes := #[68, 9] }) {B n : Nat} {v : Value} {xs : List UInt8} (t : ByteArray)
    (hs : a.eval s = v) (hx : a.eval x = .string t) (hown : W.ownsRow B 5 1 v n (bys xs)) (hn : n + t.size ≤ 100000) (hB : B ≤ W.heap.size)
    (h : ∀ v' w', Hid (w'.ownsRow B 5 1 v' (n + t.size) (bys (xs ++ t.data.toList))) → Hid (W.grownBy w' v.ownBlock) → wpList Try.prog ops Q rest (a.put o.dst v') w') : wpList Try.prog ops Q (o :: rest) a W := by
  obtain ⟨i0, hi, hz0, hz1, hz2⟩ := info_parts info5W
  refine wpList_plain hgd fun _ hK => ?_
  obtain ⟨v', w', hr, g2, g3, _⟩ := run_append_own_string (P := Try.prog) (w := W) B 68 9 o.type 5 i0 Try.underlying68 (by kernel_rfl) hi hz0 hz1 hz2 v n (bys xs) hown t (by unfold maxLen; omega) (by omega) hB
  unfold Oper.wp execOp
  simp only [ho, resolve, invoke, builtin, Sem.run_bind, Sem.run_pure, Result.andThen_ok, List.map_toArray, List.map_cons, List.map_nil, hs, hx, hr]
  exact hK _ _ (h v' w' (by rw [bys_append, ← bys_str]; exact g2) g3)

def SafeB (W : World) (D q : Nat) : Prop := q < D ∨ (q ≠ D ∧ q < W.heap.size ∧ ∀ c z, W.heap[q]? ≠ some (.cells c 5 z))
structure WrK (W W' : World) (D : Nat) : Prop where
  os : W'.os = W.os
  tape : W'.tape = W.tape
  output : W'.output = W.output
  size : W.heap.size ≤ W'.heap.size
  keep : ∀ q, q < W.heap.size → SafeB W D q → W'.heap[q]? = W.heap[q]?
theorem WrK.refl (W : World) (D : Nat) : WrK W W D := ⟨rfl, rfl, rfl, Nat.le_refl _, fun _ _ _ => rfl⟩
theorem WrK.safe {W W' : World} {D q : Nat} (h : WrK W W' D) (hq : q < W.heap.size) (hs : SafeB W D q) : SafeB W' D q := by
  rcases hs with x | ⟨x, y, z⟩
  · exact .inl x
  · exact .inr ⟨x, Nat.lt_of_lt_of_le y h.size, by rw [h.keep q hq (.inr ⟨x, y, z⟩)]; exact z⟩
theorem WrK.trans {W W' W'' : World} {D : Nat} (h : WrK W W' D) (k : WrK W' W'' D) : WrK W W'' D :=
  ⟨k.os.trans h.os, k.tape.trans h.tape, k.output.trans h.output, Nat.le_trans h.size k.size, fun q hq hs => (k.keep q (Nat.lt_of_lt_of_le hq h.size) (h.safe hq hs)).trans (h.keep q hq hs)⟩
theorem WrK.alloc {W W' : World} {D : Nat} (h : WrK W W' D) (o : Obj) : WrK W (W'.alloc o) D :=
  h.trans ⟨rfl, rfl, rfl, by simp, fun q hq _ => Below.heap_alloc _ _ q hq⟩
theorem WrK.set {W W' : World} {D : Nat} (h : WrK W W' D) (i : Nat) (v : Value) (hD : D < W'.heap.size) : WrK W (W'.setCell ⟨D, i, none⟩ v) D :=
  h.trans ⟨rfl, rfl, rfl, by simp, fun q hq hs => Below.heap_setCell _ ⟨D, i, none⟩ v q (by rcases hs with x | x; exact Nat.ne_of_lt x; exact x.1)⟩
theorem WrK.below {W W' : World} {D B : Nat} (h : WrK W W' D) (hB : B ≤ D) (hD : D ≤ W.heap.size) : Below B W W' := ⟨h.os, h.tape, h.output, h.size, fun q hq => h.keep q (by omega) (.inl (by omega))⟩
structure WrS (W : World) (D : Nat) (ov : Value) (l : List UInt8) : Prop where
  box : W.heap[D]? = some (.cells #[ov] 70)
  row : W.ownsRow (D + 1) 5 1 ov l.length (bys l)
theorem WrS.lt {W : World} {D : Nat} {ov : Value} {l : List UInt8} (h : WrS W D ov l) : D < W.heap.size := (Array.getElem?_eq_some_iff.1 h.box).1
theorem row_typeW {W : World} {B n size q : Nat} {e : TypeId} {v : Value} {xs : List Value} (h : W.ownsRow B e size v n xs) (hq : v.ownBlock = some q) : ∃ c, W.heap[q]? = some (.cells c e (0, 0)) := by
  rcases h.2 with ⟨e1, _⟩ | ⟨g, cap, cur, e1, _, hg, _⟩
  · rw [e1] at hq; cases hq
  · rw [e1] at hq; cases hq; exact ⟨cur, hg⟩
theorem safe_row {W : World} {D q : Nat} {ov : Value} {l : List UInt8} (h : WrS W D ov l) (hs : SafeB W D q) : some q ≠ ov.ownBlock := fun e => by
  rcases hs with x | ⟨_, _, z⟩
  · have := (h.row.lt q e.symm).1; omega
  · obtain ⟨c, hc⟩ := row_typeW h.row e.symm
    exact z _ _ hc
theorem wr_step {W w' : World} {D n : Nat} {ov v' : Value} {l l' : List UInt8} (h : WrS W D ov l) (hn : l'.length = n) (g1 : w'.ownsRow (D + 1) 5 1 v' n (bys l')) (g2 : W.grownBy w' ov.ownBlock) :
    WrS (w'.setCell ⟨D, 0, none⟩ v') D v' l' ∧ WrK W (w'.setCell ⟨D, 0, none⟩ v') D := by
  subst hn
  have hD := h.lt
  have hDo : some D ≠ ov.ownBlock := fun e => by have := (h.row.lt D e.symm).1; omega
  have hDv : v'.ownBlock ≠ some D := fun e => by have := (g1.lt D e).1; omega
  have hbx := (g2.block D hD hDo).trans h.box
  refine ⟨⟨cells_set hbx 0 v', ownsRow_setCell_other g1 (fun e => hDv e) _⟩, ?_⟩
  have hk : WrK W w' D := ⟨g2.os, g2.tape, g2.output, g2.size, fun q hq hs => g2.block q hq (safe_row h hs)⟩
  exact hk.set 0 v' (Nat.lt_of_lt_of_le hD g2.size)
theorem WrS.alloc {W : World} {D : Nat} {ov : Value} {l : List UInt8} (h : WrS W D ov l) (o : Obj) : WrS (W.alloc o) D ov l := ⟨cells_alloc h.box _, h.row.alloc _⟩
theorem Sl.kept {W W' : World} {D : Nat} {na : Option Addr} {nc : Nat} {xs : List Int} (h : Sl W (.slice na xs.length nc) xs) (hk : WrK W W' D) (hs : ∀ b off, xs ≠ [] → na = some ⟨b, off, none⟩ → SafeB W D b) : Sl W' (.slice na xs.length nc) xs := by
  obtain ⟨ao, cap, e, h1, h2, h3⟩ := h
  refine ⟨ao, cap, e, h1, h2, fun hne => ?_⟩
  obtain ⟨b, off, e2, hlt, hc⟩ := h3 hne
  simp only [Value.slice.injEq] at e
  obtain ⟨e3, _, _⟩ := e
  have hkb := hk.keep b hlt (hs b off hne (e3.trans e2))
  exact ⟨b, off, e2, Nat.lt_of_lt_of_le hlt hk.size, fun j hj => by rw [show W'.cell? ⟨b, off + j, none⟩ = W.cell? ⟨b, off + j, none⟩ by simp only [World.cell?, hkb]]; exact hc j hj⟩

set_option maxHeartbeats 2000000 in
theorem put_at (D : Nat) (na : Option Addr) (nc : Nat) (xs : List Int) (l : List UInt8) (ov : Value) (W : World) (hS : WrS W D ov l) (hx : Sl W (.slice na xs.length nc) xs) (hs : ∀ b off, xs ≠ [] → na = some ⟨b, off, none⟩ → SafeB W D b) (hl : l.length + xs.length ≤ 50000) :
    Calls Try.prog 35 #[.pointer (some ⟨D, 0, none⟩), .slice na xs.length nc] W fun r W' => r = .returned (.tuple #[]) ∧ ∃ ov', WrS W' D ov' (l ++ xs.map by8) ∧ WrK W W' D := by
  have HX : Hid (Sl W (.slice na xs.length nc) xs ∧ ∀ b off, xs ≠ [] → na = some ⟨b, off, none⟩ → SafeB W D b) := ⟨hx, hs⟩
  have H0 : Hid (∃ ov', WrS W D ov' (l ++ (xs.take 0).map by8) ∧ WrK W W D) := ⟨ov, by simpa using hS, WrK.refl _ _⟩
  have hxl : xs.length ≤ 50000 := by omega
  clear hS hx hs
  go_enter Try.func35, Try.ntmps35
  go_wp2_with fail
  go_loopw [5, 8] (fun _ i wr => ∃ k : Nat, k ≤ xs.length ∧ i = .int .i64 k ∧ Hid (∃ ov', WrS wr D ov' (l ++ (xs.take k).map by8) ∧ WrK W wr D)) (fun _ i _ => xs.length - (intOf i).toNat)
  case atStart => exact ⟨0, Nat.zero_le _, rfl, H0⟩
  case round =>
    obtain ⟨k, hk, rfl, HC⟩ := hrel
    obtain ⟨ov, hS, hK⟩ := HC.out
    by_cases hlk : k < xs.length
    · have hki : (k : Int) < (xs.length : Int) := by omega
      have hxw := HX.out.1.kept hK HX.out.2
      obtain ⟨b, off, lc', e0, _, hbl, hcell⟩ := hxw.open (by omega)
      simp only [Value.slice.injEq] at e0
      obtain ⟨rfl, _, rfl⟩ := e0
      have cp := hcell k hlk
      obtain ⟨e, hee⟩ : ∃ x, xs.getD k 0 = x := ⟨_, rfl⟩
      rw [hee] at cp
      have hmem : xs[k] = e := by rw [← hee]; simp [List.getD, hlk]
      have HT : Hid (l ++ (xs.take (k + 1)).map by8 = (l ++ (xs.take k).map by8) ++ [by8 e]) := by
        show _ = _
        rw [show xs.take (k + 1) = xs.take k ++ [xs[k]] from (List.take_append_getElem hlk).symm, List.map_append, hmem, List.append_assoc]
        rfl
      obtain ⟨L, hL⟩ : ∃ X, l ++ (xs.take k).map by8 = X := ⟨_, rfl⟩
      rw [hL] at hS HT
      have hLl : L.length ≤ 100000 := by rw [← hL, List.length_append, List.length_map, List.length_take]; omega
      have HS : Hid (WrS wr D ov L) := hS
      have HK : Hid (WrK W wr D) := hK
      have hrow := hS.row
      have hbx := hS.box
      have cD : wr.cell? ⟨D, 0, none⟩ = some ov := by simp [World.cell?, hbx]
      have fD : wr.frozen? ⟨D, 0, none⟩ = false := cells_frozen hbx 0
      have hDl := hS.lt
      have hbD : (wr.alloc (.cells #[.int .u8 (IntKind.u8.wrap e)] 5)).cell? ⟨D, 0, none⟩ = some ov := (World.cell?_alloc_past _ _ _ hDl).trans cD
      clear hcell hee hmem hL hS hK HC hbl hxw
      go_wp2_with (at_builtin; refine wpList_addB (by rfl) _ _ (by rfl) (W := wr) (B := D + 1) (n := L.length) (v := ov) (xs := L) (by8 e) (by first | rfl | exact (by8_wrap e).symm | (rw [by8_wrap]; done) | (rw [by8_wrap]; rfl)) (by rfl) (N := wr.heap.size) (by rfl) (by rfl) hrow hLl (by omega) ?_; intro v8 w8 g1 g2; obtain ⟨ga, gc, hv8⟩ := row_slice g1.out; subst hv8; have d8 := (g2.out.block D (by simp; omega) (fun e => by have := (hrow.lt D e.symm).1; omega)).trans (cells_alloc hbx _); have c8 : w8.cell? ⟨D, 0, none⟩ = some ov := (by simp [World.cell?, d8]); have f8 : w8.frozen? ⟨D, 0, none⟩ = false := cells_frozen d8 0)
      have HN : Hid (∃ ov', WrS (w8.setCell ⟨D, 0, none⟩ (.slice ga (L.length + 1) gc)) D ov' (l ++ (xs.take (k + 1)).map by8) ∧ WrK W (w8.setCell ⟨D, 0, none⟩ (.slice ga (L.length + 1) gc)) D) := by
        rw [HT.out]
        have hst := wr_step (HS.out.alloc (.cells #[.int .u8 (IntKind.u8.wrap e)] 5)) (by simp) g1.out g2.out
        exact ⟨_, hst.1, (HK.out.alloc _).trans hst.2⟩
      go_roundw
      case rel => exact ⟨k + 1, by omega, by go_num, HN⟩
      case measure => simp [intOf]; omega
    · have ek : k = xs.length := by omega
      subst ek
      rw [List.take_length] at HC
      go_wp2_with fail
      obtain ⟨ov', h1, h2⟩ := HC.out
      go_end0
      exact ⟨rfl, ov', h1, h2⟩
theorem wput_is {D : Nat} {nv : Value} {xs : List Int} {l : List UInt8} {ov : Value} {W : World} (hS : WrS W D ov l) (hx : Sl W nv xs) (hs : ∀ b off n c, xs ≠ [] → nv = .slice (some ⟨b, off, none⟩) n c → SafeB W D b) (hl : l.length + xs.length ≤ 50000) {L : List UInt8} (hL : l ++ xs.map by8 = L) :
    Calls Try.prog 35 #[.pointer (some ⟨D, 0, none⟩), nv] W fun r W' => r = .returned (.tuple #[]) ∧ ∃ ov', WrS W' D ov' L ∧ WrK W W' D := by
  obtain ⟨na, nc, rfl⟩ := hx.form
  subst hL
  exact put_at D na nc xs l ov W hS hx (fun b off hn e => hs b off _ _ hn (by rw [e])) hl
set_option maxHeartbeats 2000000 in
theorem text_is {D : Nat} {t : ByteArray} {l : List UInt8} {ov : Value} {W : World} (hS : WrS W D ov l) (hl : l.length + t.size ≤ 50000) {L : List UInt8} (hL : l ++ t.data.toList = L) :
    Calls Try.prog 63 #[.pointer (some ⟨D, 0, none⟩), .string t] W fun r W' => r = .returned (.tuple #[]) ∧ ∃ ov', WrS W' D ov' L ∧ WrK W W' D := by
  subst hL
  have HS : Hid (WrS W D ov l) := hS
  have hrow := hS.row
  have hbx := hS.box
  have cD : W.cell? ⟨D, 0, none⟩ = some ov := by simp [World.cell?, hbx]
  have fD : W.frozen? ⟨D, 0, none⟩ = false := cells_frozen hbx 0
  have hDl := hS.lt
  clear hS
  go_enter Try.func63, Try.ntmps63
  go_wp2_with (at_builtin; refine wpList_addT (by rfl) _ _ (by rfl) (B := D + 1) (n := l.length) (v := ov) (xs := l) t (by rfl) (by rfl) hrow (by omega) (by omega) ?_; intro v8 w8 g1 g2; obtain ⟨ga, gc, hv8⟩ := row_slice g1.out; subst hv8; have d8 := (g2.out.block D hDl (fun e => by have := (hrow.lt D e.symm).1; omega)).trans hbx; have c8 : w8.cell? ⟨D, 0, none⟩ = some ov := (by simp [World.cell?, d8]); have f8 : w8.frozen? ⟨D, 0, none⟩ = false := cells_frozen d8 0)
  have hst := wr_step HS.out (by rw [List.length_append]; rfl) g1.out g2.out
  go_end0
  exact ⟨rfl, _, hst.1, hst.2⟩
end Go.Proofs.Ytehleeibgkpjmag
/- The program's writer: slot, snap. -/
namespace Go.Proofs.Ytehleeibgkpjmag
open Go.RowKit Go.Shelf Go.Lib
set_option maxRecDepth 20000
set_option linter.unusedVariables false
set_option linter.unusedSimpArgs false

theorem safe_ty {W : World} {D q : Nat} {c : Array Value} {e : TypeId} {z : Nat × Nat} (h : W.heap[q]? = some (.cells c e z)) (hq : q ≠ D) (he : e ≠ 5) : SafeB W D q :=
  .inr ⟨hq, (Array.getElem?_eq_some_iff.1 h).1, fun c' z' x => by rw [h] at x; injection x with x; injection x with _ x _; exact he x⟩
theorem sl_lit {W : World} {q : Nat} {x : Int} (h : W.heap[q]? = some (.cells #[.int .i64 x] 3)) : Sl W (.slice (some ⟨q, 0, none⟩) 1 1) [x] :=
  ⟨_, _, rfl, by unfold maxLen; simp, by simp, fun _ => ⟨q, 0, rfl, (Array.getElem?_eq_some_iff.1 h).1, fun j hj => by
    have : j = 0 := by simp at hj; exact hj
    subst this
    simp [World.cell?, h]⟩⟩
set_option maxHeartbeats 4000000 in
theorem wslot_at (D : Nat) (k : Int) (d : ByteArray) (ta : Option Addr) (tc : Nat) (es : List Int) (l : List UInt8) (ov : Value) (W : World) (hS : WrS W D ov l) (ht : Sl W (.slice ta es.length tc) es) (hts : ∀ b off, es ≠ [] → ta = some ⟨b, off, none⟩ → SafeB W D b ∧ b < W.heap.size) (hl : l.length + d.size + es.length + 10 ≤ 50000) :
    Calls Try.prog 36 #[.pointer (some ⟨D, 0, none⟩), .agg #[.int .i64 k, .string d, .slice ta es.length tc]] W fun r W' => r = .returned (.tuple #[]) ∧ ∃ ov', WrS W' D ov' (l ++ slotB (k, d, es)) ∧ WrK W W' D := by
  have hDl := hS.lt
  have S0 := (hS.alloc (.cells #[.int .i64 k, .string d, .slice ta es.length tc] 60)).alloc (.cells #[.int .i64 k] 3)
  have K0 : WrK W ((W.alloc (.cells #[.int .i64 k, .string d, .slice ta es.length tc] 60)).alloc (.cells #[.int .i64 k] 3)) D := ((WrK.refl W D).alloc (.cells #[.int .i64 k, .string d, .slice ta es.length tc] 60)).alloc (.cells #[.int .i64 k] 3)
  have bx0 : ((W.alloc (.cells #[.int .i64 k, .string d, .slice ta es.length tc] 60)).alloc (.cells #[.int .i64 k] 3)).heap[W.heap.size]? = some (.cells #[.int .i64 k, .string d, .slice ta es.length tc] 60) := cells_alloc (World.alloc_heap_new _ _) _
  have nb0 : ((W.alloc (.cells #[.int .i64 k, .string d, .slice ta es.length tc] 60)).alloc (.cells #[.int .i64 k] 3)).heap[W.heap.size + 1]? = some (.cells #[.int .i64 k] 3) := by have := World.alloc_heap_new (W.alloc (.cells #[.int .i64 k, .string d, .slice ta es.length tc] 60)) (.cells #[.int .i64 k] 3); simpa using this
  have hx0 : Sl ((W.alloc (.cells #[.int .i64 k, .string d, .slice ta es.length tc] 60)).alloc (.cells #[.int .i64 k] 3)) (.slice (some ⟨W.heap.size + 1, 0, none⟩) 1 1) [k] := sl_lit nb0
  have hz0 : ((W.alloc (.cells #[.int .i64 k, .string d, .slice ta es.length tc] 60)).alloc (.cells #[.int .i64 k] 3)).heap.size = W.heap.size + 2 := by simp
  have bxA : (W.alloc (.cells #[.int .i64 k, .string d, .slice ta es.length tc] 60)).heap[W.heap.size]? = some (.cells #[.int .i64 k, .string d, .slice ta es.length tc] 60) := World.alloc_heap_new _ _
  obtain ⟨a0, a1, a2⟩ := three bxA
  obtain ⟨y00, y01, y02⟩ := three bx0
  have HC0 : Hid (∃ X, X = ((W.alloc (.cells #[.int .i64 k, .string d, .slice ta es.length tc] 60)).alloc (.cells #[.int .i64 k] 3)) ∧ WrS X D ov l ∧ WrK W X D ∧ X.heap[W.heap.size]? = some (.cells #[.int .i64 k, .string d, .slice ta es.length tc] 60) ∧ X.heap[W.heap.size + 1]? = some (.cells #[.int .i64 k] 3) ∧ Sl X (.slice (some ⟨W.heap.size + 1, 0, none⟩) 1 1) [k] ∧ X.heap.size = W.heap.size + 2) := ⟨_, rfl, S0, K0, bx0, nb0, hx0, hz0⟩
  have HT : Hid (Sl W (.slice ta es.length tc) es ∧ ∀ b off, es ≠ [] → ta = some ⟨b, off, none⟩ → SafeB W D b ∧ b < W.heap.size) := ⟨ht, hts⟩
  clear S0 K0 bx0 nb0 hx0 bxA ht hts hS
  go_enter Try.func36, Try.ntmps36
  go_wp2_with fail
  clear a0 a1 a2 y00 y01 y02 hz0
  obtain ⟨w0, hw0, S0, K0, bx0, nb0, hx0, hz0⟩ := HC0.out
  rw [← hw0]
  clear hw0
  refine (wput_is S0 hx0 (fun b off n c _ e => by simp only [Value.slice.injEq, Option.some.injEq, Addr.mk.injEq] at e; obtain ⟨⟨rfl, _⟩, _⟩ := e; exact safe_ty nb0 (by omega) (by decide)) (by simp; omega) rfl).mono ?_
  rintro e w1 ⟨rfl, ov1, S1, K1⟩
  have s1 := K1.size
  have bx1 : w1.heap[W.heap.size]? = some (.cells #[.int .i64 k, .string d, .slice ta es.length tc] 60) := (K1.keep _ (by have := s1; simp <;> omega) (safe_ty bx0 (by omega) (by decide))).trans bx0
  obtain ⟨y10, y11, y12⟩ := three bx1
  have H1 : Hid (WrS w1 D ov1 (l ++ [k].map by8) ∧ WrK W w1 D ∧ w1.heap[W.heap.size]? = some (.cells #[.int .i64 k, .string d, .slice ta es.length tc] 60)) := ⟨S1, K0.trans K1, bx1⟩
  clear S0 K0 bx0 nb0 hx0 S1 K1 bx1
  go_wp2_with fail
  clear y10 y11 y12
  obtain ⟨S1, K1, bx1⟩ := H1.out
  refine (text_is S1 (by simp; omega) rfl).mono ?_
  rintro e w2 ⟨rfl, ov2, S2, K2⟩
  have s2 := K2.size
  have bx2 : w2.heap[W.heap.size]? = some (.cells #[.int .i64 k, .string d, .slice ta es.length tc] 60) := (K2.keep _ (by have := s2; simp <;> omega) (safe_ty bx1 (by omega) (by decide))).trans bx1
  obtain ⟨y20, y21, y22⟩ := three bx2
  have H2 : Hid (WrS w2 D ov2 (l ++ [k].map by8 ++ d.data.toList) ∧ WrK W w2 D) := ⟨S2, K1.trans K2⟩
  clear S1 K1 bx1 S2 K2 bx2
  go_wp2_with fail
  clear y20 y21 y22
  obtain ⟨S2, K2⟩ := H2.out
  refine (wput_is S2 (HT.out.1.kept K2 (fun b off hn e => (HT.out.2 b off hn e).1)) (fun b off n c hn e => by simp only [Value.slice.injEq] at e; exact K2.safe (HT.out.2 b off hn e.1).2 (HT.out.2 b off hn e.1).1) (by simp; have : d.data.toList.length = d.size := rfl; omega) rfl).mono ?_
  rintro e w9 ⟨rfl, ov9, S9, K9⟩
  have hfin : WrS w9 D ov9 (l ++ slotB (k, d, es)) ∧ WrK W w9 D := by
    refine ⟨?_, K2.trans K9⟩
    have e9 : l ++ slotB (k, d, es) = l ++ [k].map by8 ++ d.data.toList ++ es.map by8 := by unfold slotB; simp
    rw [e9]; exact S9
  clear S9 K9
  go_wp2_with fail
  go_end0
  exact ⟨rfl, ov9, hfin⟩

set_option maxHeartbeats 4000000 in
theorem wsnap_at (D : Nat) (k : Int) (d : ByteArray) (ta : Option Addr) (tc : Nat) (es : List Int) (l : List UInt8) (ov : Value) (W : World) (hS : WrS W D ov l) (ht : Sl W (.slice ta es.length tc) es) (hts : ∀ b off, es ≠ [] → ta = some ⟨b, off, none⟩ → SafeB W D b ∧ b < W.heap.size) (hl : l.length + d.size + es.length + 10 ≤ 50000) :
    Calls Try.prog 37 #[.pointer (some ⟨D, 0, none⟩), .agg #[.string d, .int .i64 k, .slice ta es.length tc]] W fun r W' => r = .returned (.tuple #[]) ∧ ∃ ov', WrS W' D ov' (l ++ snapB (d, k, es)) ∧ WrK W W' D := by
  have hDl := hS.lt
  have S0 := (hS.alloc (.cells #[.string d, .int .i64 k, .slice ta es.length tc] 74)).alloc (.cells #[.int .i64 (d.size : Int)] 3)
  have K0 : WrK W ((W.alloc (.cells #[.string d, .int .i64 k, .slice ta es.length tc] 74)).alloc (.cells #[.int .i64 (d.size : Int)] 3)) D := ((WrK.refl W D).alloc (.cells #[.string d, .int .i64 k, .slice ta es.length tc] 74)).alloc (.cells #[.int .i64 (d.size : Int)] 3)
  have bx0 : ((W.alloc (.cells #[.string d, .int .i64 k, .slice ta es.length tc] 74)).alloc (.cells #[.int .i64 (d.size : Int)] 3)).heap[W.heap.size]? = some (.cells #[.string d, .int .i64 k, .slice ta es.length tc] 74) := cells_alloc (World.alloc_heap_new _ _) _
  have nb0 : ((W.alloc (.cells #[.string d, .int .i64 k, .slice ta es.length tc] 74)).alloc (.cells #[.int .i64 (d.size : Int)] 3)).heap[W.heap.size + 1]? = some (.cells #[.int .i64 (d.size : Int)] 3) := by have := World.alloc_heap_new (W.alloc (.cells #[.string d, .int .i64 k, .slice ta es.length tc] 74)) (.cells #[.int .i64 (d.size : Int)] 3); simpa using this
  have hx0 : Sl ((W.alloc (.cells #[.string d, .int .i64 k, .slice ta es.length tc] 74)).alloc (.cells #[.int .i64 (d.size : Int)] 3)) (.slice (some ⟨W.heap.size + 1, 0, none⟩) 1 1) [(d.size : Int)] := sl_lit nb0
  have hz0 : ((W.alloc (.cells #[.string d, .int .i64 k, .slice ta es.length tc] 74)).alloc (.cells #[.int .i64 (d.size : Int)] 3)).heap.size = W.heap.size + 2 := by simp
  have bxA : (W.alloc (.cells #[.string d, .int .i64 k, .slice ta es.length tc] 74)).heap[W.heap.size]? = some (.cells #[.string d, .int .i64 k, .slice ta es.length tc] 74) := World.alloc_heap_new _ _
  obtain ⟨a0, a1, a2⟩ := three bxA
  obtain ⟨y00, y01, y02⟩ := three bx0
  have HC0 : Hid (∃ X, X = ((W.alloc (.cells #[.string d, .int .i64 k, .slice ta es.length tc] 74)).alloc (.cells #[.int .i64 (d.size : Int)] 3)) ∧ WrS X D ov l ∧ WrK W X D ∧ X.heap[W.heap.size]? = some (.cells #[.string d, .int .i64 k, .slice ta es.length tc] 74) ∧ X.heap[W.heap.size + 1]? = some (.cells #[.int .i64 (d.size : Int)] 3) ∧ Sl X (.slice (some ⟨W.heap.size + 1, 0, none⟩) 1 1) [(d.size : Int)] ∧ X.heap.size = W.heap.size + 2) := ⟨_, rfl, S0, K0, bx0, nb0, hx0, hz0⟩
  have HT : Hid (Sl W (.slice ta es.length tc) es ∧ ∀ b off, es ≠ [] → ta = some ⟨b, off, none⟩ → SafeB W D b ∧ b < W.heap.size) := ⟨ht, hts⟩
  clear S0 K0 bx0 nb0 hx0 bxA ht hts hS
  go_enter Try.func37, Try.ntmps37
  go_wp2_with fail
  clear a0 a1 a2 y00 y01 y02 hz0
  obtain ⟨w0, hw0, S0, K0, bx0, nb0, hx0, hz0⟩ := HC0.out
  rw [← hw0]
  clear hw0
  refine (wput_is S0 hx0 (fun b off n c _ e => by simp only [Value.slice.injEq, Option.some.injEq, Addr.mk.injEq] at e; obtain ⟨⟨rfl, _⟩, _⟩ := e; exact safe_ty nb0 (by omega) (by decide)) (by simp; omega) rfl).mono ?_
  rintro e w1 ⟨rfl, ov1, S1, K1⟩
  have s1 := K1.size
  have bx1 : w1.heap[W.heap.size]? = some (.cells #[.string d, .int .i64 k, .slice ta es.length tc] 74) := (K1.keep _ (by have := s1; simp <;> omega) (safe_ty bx0 (by omega) (by decide))).trans bx0
  obtain ⟨y10, y11, y12⟩ := three bx1
  have H1 : Hid (WrS w1 D ov1 (l ++ [(d.size : Int)].map by8) ∧ WrK W w1 D ∧ w1.heap[W.heap.size]? = some (.cells #[.string d, .int .i64 k, .slice ta es.length tc] 74)) := ⟨S1, K0.trans K1, bx1⟩
  clear S0 K0 bx0 nb0 hx0 S1 K1 bx1
  go_wp2_with fail
  clear y10 y11 y12
  obtain ⟨S1, K1, bx1⟩ := H1.out
  refine (text_is S1 (by simp; omega) rfl).mono ?_
  rintro e w2 ⟨rfl, ov2, S2, K2⟩
  have s2 := K2.size
  have bx2 : w2.heap[W.heap.size]? = some (.cells #[.string d, .int .i64 k, .slice ta es.length tc] 74) := (K2.keep _ (by have := s2; simp <;> omega) (safe_ty bx1 (by omega) (by decide))).trans bx1
  obtain ⟨y20, y21, y22⟩ := three bx2
  have s12 := K1.size
  have S2' := S2.alloc (.cells #[.int .i64 k] 3)
  have bx2' := cells_alloc bx2 (.cells #[.int .i64 k] 3)
  have nb2 : (w2.alloc (.cells #[.int .i64 k] 3)).heap[w2.heap.size]? = some (.cells #[.int .i64 k] 3) := World.alloc_heap_new _ _
  have hx2 := sl_lit nb2
  have K2' := (K1.trans K2).alloc (.cells #[.int .i64 k] 3)
  have H2 : Hid (∃ X, X = w2.alloc (.cells #[.int .i64 k] 3) ∧ WrS X D ov2 (l ++ [(d.size : Int)].map by8 ++ d.data.toList) ∧ WrK W X D ∧ X.heap[W.heap.size]? = some (.cells #[.string d, .int .i64 k, .slice ta es.length tc] 74) ∧ X.heap[w2.heap.size]? = some (.cells #[.int .i64 k] 3) ∧ Sl X (.slice (some ⟨w2.heap.size, 0, none⟩) 1 1) [k] ∧ W.heap.size < w2.heap.size ∧ X.heap.size = w2.heap.size + 1) := ⟨_, rfl, S2', K2', bx2', nb2, hx2, by omega, by simp⟩
  clear S1 K1 bx1 S2 K2 bx2 S2' K2' bx2' nb2 hx2
  go_wp2_with fail
  clear y20 y21 y22
  obtain ⟨w3, hw3, S3, K3, bx3, nb3, hx3, hlt3, hz3⟩ := H2.out
  rw [← hw3]
  clear hw3
  refine (wput_is S3 hx3 (fun b off n c _ e => by simp only [Value.slice.injEq, Option.some.injEq, Addr.mk.injEq] at e; obtain ⟨⟨rfl, _⟩, _⟩ := e; exact safe_ty nb3 (by omega) (by decide)) (by simp; have : d.data.toList.length = d.size := rfl; omega) rfl).mono ?_
  rintro e w4 ⟨rfl, ov4, S4, K4⟩
  have s4 := K4.size
  have bx4 : w4.heap[W.heap.size]? = some (.cells #[.string d, .int .i64 k, .slice ta es.length tc] 74) := (K4.keep _ (by omega) (safe_ty bx3 (by omega) (by decide))).trans bx3
  obtain ⟨y40, y41, y42⟩ := three bx4
  have H3 : Hid (WrS w4 D ov4 (l ++ [(d.size : Int)].map by8 ++ d.data.toList ++ [k].map by8) ∧ WrK W w4 D) := ⟨S4, K3.trans K4⟩
  clear S3 K3 bx3 nb3 hx3 S4 K4 bx4
  go_wp2_with fail
  clear y40 y41 y42
  obtain ⟨S4, K4⟩ := H3.out
  refine (wput_is S4 (HT.out.1.kept K4 (fun b off hn e => (HT.out.2 b off hn e).1)) (fun b off n c hn e => by simp only [Value.slice.injEq] at e; exact K4.safe (HT.out.2 b off hn e.1).2 (HT.out.2 b off hn e.1).1) (by simp; have : d.data.toList.length = d.size := rfl; omega) rfl).mono ?_
  rintro e w9 ⟨rfl, ov9, S9, K9⟩
  have hfin : WrS w9 D ov9 (l ++ snapB (d, k, es)) ∧ WrK W w9 D := by
    refine ⟨?_, K4.trans K9⟩
    have e9 : l ++ snapB (d, k, es) = l ++ [(d.size : Int)].map by8 ++ d.data.toList ++ [k].map by8 ++ es.map by8 := by unfold snapB; simp
    rw [e9]; exact S9
  clear S9 K9
  go_wp2_with fail
  go_end0
  exact ⟨rfl, ov9, hfin⟩

end Go.Proofs.Ytehleeibgkpjmag
