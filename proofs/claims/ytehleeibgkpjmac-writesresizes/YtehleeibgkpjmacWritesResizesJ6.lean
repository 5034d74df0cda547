/- Texts joined: OxI, ClnI, WrQ. -/
import Derived.Test.YtehleeibgkpjmacWritesResizesJ1
import Derived.Test.YtehleeibgkpjmacWritesResizesJ5
import Derived.Test.YtehleeibgkpjmacWritesResizesJ3
import Derived.Lib.SliceRun
/- An image of one's own, as the document makes it: a table that has no entry may be whatever slice there was; all other lists lie in rows of their own, in memory that came since B. -/
namespace Go.Proofs.Ytehleeibgkpjmac
open Go.RowKit Go.Shelf
set_option maxRecDepth 20000
set_option linter.unusedVariables false

abbrev tbl (m : ImgD) (j : Nat) : List Int := (m.slots.getD j default).2.2
def LiveX (m : ImgD) (a : Nm) : Prop := (a.kind < 4 ∧ a.ix = 0) ∨ (a.kind = 4 ∧ a.ix < m.slots.length ∧ tbl m a.ix ≠ []) ∨ (a.kind = 5 ∧ a.ix < m.snaps.length)
theorem LiveX.cases {m : ImgD} {a : Nm} (h : LiveX m a) : a = .root ∨ a = .slots ∨ a = .refs ∨ a = .snaps ∨ (∃ j, a = .tab j ∧ j < m.slots.length ∧ tbl m j ≠ []) ∨ ∃ j, a = .sr j ∧ j < m.snaps.length := by
  obtain ⟨k, j⟩ := a
  rcases h with ⟨h1, h2⟩ | ⟨h1, h2⟩ | ⟨h1, h2⟩
  · dsimp only at h1 h2
    subst h2
    match k, h1 with
    | 0, _ => exact .inl rfl
    | 1, _ => exact .inr (.inl rfl)
    | 2, _ => exact .inr (.inr (.inl rfl))
    | 3, _ => exact .inr (.inr (.inr (.inl rfl)))
  · dsimp only at h1 h2; subst h1; exact .inr (.inr (.inr (.inr (.inl ⟨j, rfl, h2⟩))))
  · dsimp only at h1 h2; subst h1; exact .inr (.inr (.inr (.inr (.inr ⟨j, rfl, h2⟩))))
theorem LiveX.root (m : ImgD) : LiveX m .root := .inl ⟨by decide, rfl⟩
theorem LiveX.slots (m : ImgD) : LiveX m .slots := .inl ⟨by decide, rfl⟩
theorem LiveX.refs (m : ImgD) : LiveX m .refs := .inl ⟨by decide, rfl⟩
theorem LiveX.snaps (m : ImgD) : LiveX m .snaps := .inl ⟨by decide, rfl⟩
theorem LiveX.tab {m : ImgD} {j : Nat} (h : j < m.slots.length ∧ tbl m j ≠ []) : LiveX m (.tab j) := .inr (.inl ⟨rfl, h⟩)
theorem LiveX.sr {m : ImgD} {j : Nat} (h : j < m.snaps.length) : LiveX m (.sr j) := .inr (.inr ⟨rfl, h⟩)
theorem liveX_iff {m m' : ImgD} (h1 : m'.slots.length = m.slots.length) (h2 : m'.snaps.length = m.snaps.length) (h3 : ∀ j, tbl m' j = [] ↔ tbl m j = []) (b : Nm) : LiveX m' b ↔ LiveX m b := by
  unfold LiveX
  rw [h1, h2, ne_eq, ne_eq, h3]
theorem LiveX.live {m : ImgD} {a : Nm} (h : LiveX m a) : Live m a := by
  rcases h with h | h | h
  · exact .inl h
  · exact .inr (.inl ⟨h.1, h.2.1⟩)
  · exact .inr (.inr h)
structure OX (W : World) (B : Nat) (val : Nm → Value) (m : ImgD) : Prop where
  row : ∀ a, LiveX m a → W.ownsRow B (rowT a) (rowS a) (val a) (rowN m a) (rowV m val a)
  apart : ∀ a b, LiveX m a → LiveX m b → a ≠ b → ∀ g, (val a).ownBlock = some g → (val b).ownBlock ≠ some g
  loose : ∀ j, j < m.slots.length → tbl m j = [] → ∃ ao cap, val (.tab j) = .slice ao 0 cap
theorem OX.keep {W W' : World} {B : Nat} {val : Nm → Value} {m : ImgD} (h : OX W B val m) (hk : ∀ g, B ≤ g → g < W.heap.size → W'.heap[g]? = W.heap[g]?) : OX W' B val m := by
  refine ⟨fun a ha => ?_, h.apart, h.loose⟩
  have hr := h.row a ha
  refine ⟨hr.1, ?_⟩
  rcases hr.2 with hn | ⟨g, cap, cur, hv, hb, hg, rest⟩
  · exact .inl hn
  · exact .inr ⟨g, cap, cur, hv, hb, (hk g hb (Array.getElem?_eq_some_iff.1 hg).1).trans hg, rest⟩
theorem OX.below {W W' : World} {B : Nat} {val : Nm → Value} {m : ImgD} (h : OX W B val m) (hb : Below W.heap.size W W') : OX W' B val m := h.keep fun g _ hg => hb.block g hg
theorem OX.alloc {W : World} {B : Nat} {val : Nm → Value} {m : ImgD} (h : OX W B val m) (o : Obj) : OX (W.alloc o) B val m := h.below ((Below.refl _ _).alloc (Nat.le_refl _) o)
theorem OX.drew {W : World} {B : Nat} {val : Nm → Value} {m : ImgD} (h : OX W B val m) : OX W.drew B val m := ⟨fun a ha => (h.row a ha).drew, h.apart, h.loose⟩

theorem OX.mono {W : World} {B B' : Nat} {val : Nm → Value} {m : ImgD} (h : OX W B val m) (hb : B' ≤ B) : OX W B' val m := by
  refine ⟨fun a ha => ?_, h.apart, h.loose⟩
  have hr := h.row a ha
  refine ⟨hr.1, ?_⟩
  rcases hr.2 with hn | ⟨g, cap, cur, hv, hg, rest⟩
  · exact .inl hn
  · exact .inr ⟨g, cap, cur, hv, Nat.le_trans hb hg, rest⟩
theorem OX.tabSl {W : World} {B : Nat} {val : Nm → Value} {m : ImgD} (h : OX W B val m) {j : Nat} (hj : j < m.slots.length) : Sl W (val (.tab j)) (tbl m j) := by
  by_cases e : tbl m j = []
  · obtain ⟨ao, cap, ev⟩ := h.loose j hj e
    rw [ev, e]
    exact ⟨ao, cap, rfl, Nat.zero_le _, Nat.zero_le _, fun x => absurd rfl x⟩
  · exact row_sl (h.row (.tab j) (LiveX.tab ⟨hj, e⟩))
theorem OX.img {W : World} {B : Nat} {val : Nm → Value} {m : ImgD} (h : OX W B val m) : Img W (imgV m.guest val) m :=
  ⟨_, _, _, _, rfl, row_sl (h.row .root (LiveX.root m)), row_slots (h.row .slots (LiveX.slots m)) (fun j hj => h.tabSl hj), row_sl (h.row .refs (LiveX.refs m)), row_snaps (h.row .snaps (LiveX.snaps m)) (fun j hj => row_sl (h.row (.sr j) (LiveX.sr hj)))⟩
/-- One cell of row a is stored. -/
theorem OX.store {W : World} {B : Nat} {val : Nm → Value} {m m' : ImgD} (h : OX W B val m) {a : Nm} (ha : LiveX m a) {g n cap : Nat} (hv : val a = .slice (some ⟨g, 0, none⟩) n cap) (i : Nat) (u : Value)
    (hlive : ∀ b, LiveX m' b ↔ LiveX m b) (hn : ∀ b, LiveX m b → rowN m' b = rowN m b) (hsame : ∀ b, LiveX m b → b ≠ a → rowV m' val b = rowV m val b) (hset : rowV m' val a = (rowV m val a).set i u) (hloose : ∀ j, j < m'.slots.length → tbl m' j = [] → j < m.slots.length ∧ tbl m j = []) : OX (W.setCell ⟨g, i, none⟩ u) B val m' := by
  refine ⟨fun b hb => ?_, fun b c hb hc => h.apart b c ((hlive b).1 hb) ((hlive c).1 hc), fun j hj e => h.loose j (hloose j hj e).1 (hloose j hj e).2⟩
  have hb := (hlive b).1 hb
  rw [hn b hb]
  by_cases e : b = a
  · subst e
    have hr := h.row b hb
    rw [hset]
    have hnn : n = rowN m b := by
      rcases row_form hr with ⟨e, _⟩ | ⟨g', cap', e, _⟩
      · rw [hv] at e; simp at e
      · rw [hv] at e; simp at e; exact e.2.1
    subst hnn
    rw [hv] at hr ⊢
    exact (hr.stored i u).1
  · rw [hsame b hb e]
    exact ownsRow_setCell_other (h.row b hb) (h.apart a b ha hb (fun x => e x.symm) g (by rw [hv]; rfl)) u
theorem OX.setRoot {W : World} {B : Nat} {val : Nm → Value} {m : ImgD} (h : OX W B val m) {g n cap : Nat} (hv : val .root = .slice (some ⟨g, 0, none⟩) n cap) (i : Nat) (x : Int) : OX (W.setCell ⟨g, i, none⟩ (.int .i64 x)) B val { m with root := m.root.set i x } := by
  refine h.store (a := .root) (LiveX.root m) hv i _ (liveX_iff rfl rfl fun _ => Iff.rfl) (fun b hb => ?_) (fun b hb hne => ?_) (ints_set _ _ _) (fun _ hj e => ⟨hj, e⟩)
  · rcases hb.cases with rfl | rfl | rfl | rfl | ⟨j, rfl, hj⟩ | ⟨j, rfl, hj⟩ <;> first | rfl | exact List.length_set
  · rcases hb.cases with rfl | rfl | rfl | rfl | ⟨j, rfl, hj⟩ | ⟨j, rfl, hj⟩ <;> first | rfl | exact absurd rfl hne
theorem OX.setRefs {W : World} {B : Nat} {val : Nm → Value} {m : ImgD} (h : OX W B val m) {g n cap : Nat} (hv : val .refs = .slice (some ⟨g, 0, none⟩) n cap) (i : Nat) (x : Int) : OX (W.setCell ⟨g, i, none⟩ (.int .i64 x)) B val { m with refs := m.refs.set i x } := by
  refine h.store (a := .refs) (LiveX.refs m) hv i _ (liveX_iff rfl rfl fun _ => Iff.rfl) (fun b hb => ?_) (fun b hb hne => ?_) (ints_set _ _ _) (fun _ hj e => ⟨hj, e⟩)
  · rcases hb.cases with rfl | rfl | rfl | rfl | ⟨j, rfl, hj⟩ | ⟨j, rfl, hj⟩ <;> first | rfl | exact List.length_set
  · rcases hb.cases with rfl | rfl | rfl | rfl | ⟨j, rfl, hj⟩ | ⟨j, rfl, hj⟩ <;> first | rfl | exact absurd rfl hne
/-- v's block is nobody's else. -/
def FarX (m : ImgD) (val : Nm → Value) (a : Nm) (v : Value) : Prop := ∀ b, LiveX m b → b ≠ a → ∀ g, v.ownBlock = some g → (val b).ownBlock ≠ some g
theorem farX_new {W : World} {B : Nat} {val : Nm → Value} {m : ImgD} (h : OX W B val m) (a : Nm) {v : Value} (hv : ∀ g, v.ownBlock = some g → W.heap.size ≤ g) : FarX m val a v := fun b hb _ g hg e => by
  have := ((h.row b hb).lt g e).2
  have := hv g hg
  omega
theorem farX_nil (m : ImgD) (val : Nm → Value) (a : Nm) (n cap : Nat) : FarX m val a (.slice none n cap) := fun _ _ _ g hg => by cases hg

/-- Row a is another one. -/
theorem OX.swap {W : World} {B : Nat} {val : Nm → Value} {m m' : ImgD} (h : OX W B val m) {a : Nm} (ha : LiveX m a) {v : Value} (hv : W.ownsRow B (rowT a) (rowS a) v (rowN m' a) (rowV m' (upd val a v) a)) (hfar : FarX m val a v)
    (hlive : ∀ b, LiveX m' b ↔ LiveX m b) (hsame : ∀ b, LiveX m b → b ≠ a → rowN m' b = rowN m b ∧ rowV m' (upd val a v) b = rowV m val b) (hloose : ∀ j, j < m'.slots.length → tbl m' j = [] → a ≠ .tab j ∧ j < m.slots.length ∧ tbl m j = []) : OX W B (upd val a v) m' := by
  refine ⟨fun b hb => ?_, fun b c hb hc hne g hg => ?_, fun j hj e => by obtain ⟨h1, h2, h3⟩ := hloose j hj e; rw [upd_other val v (fun x => h1 x.symm)]; exact h.loose j h2 h3⟩
  · have hb := (hlive b).1 hb
    by_cases e : b = a
    · subst e; rw [upd_same]; exact hv
    · rw [upd_other val v e, (hsame b hb e).1, (hsame b hb e).2]; exact h.row b hb
  · have hb := (hlive b).1 hb
    have hc := (hlive c).1 hc
    by_cases e : b = a
    · subst e
      rw [upd_same] at hg
      rw [upd_other val v (fun x => hne x.symm)]
      exact hfar c hc (fun x => hne x.symm) g hg
    · rw [upd_other val v e] at hg
      by_cases e2 : c = a
      · subst e2
        rw [upd_same]
        exact fun x => hfar b hb e g x hg
      · rw [upd_other val v e2]; exact h.apart b c hb hc hne g hg
theorem OX.swapRoot {W : World} {B : Nat} {val : Nm → Value} {m : ImgD} (h : OX W B val m) {v : Value} {r : List Int} (hv : W.ownsRow B 3 1 v r.length (ints r)) (hfar : FarX m val .root v) (g : Int) : OX W B (upd val .root v) { m with guest := g, root := r } := by
  refine h.swap (a := .root) (LiveX.root m) hv hfar (liveX_iff rfl rfl fun _ => Iff.rfl) (fun b hb hne => ?_) (fun j hj e => ⟨(by intro x; cases x), hj, e⟩)
  rcases hb.cases with rfl | rfl | rfl | rfl | ⟨j, rfl, hj⟩ | ⟨j, rfl, hj⟩ <;> first | exact ⟨rfl, rfl⟩ | exact absurd rfl hne
theorem OX.swapRefs {W : World} {B : Nat} {val : Nm → Value} {m : ImgD} (h : OX W B val m) {v : Value} {r : List Int} (hv : W.ownsRow B 3 1 v r.length (ints r)) (hfar : FarX m val .refs v) : OX W B (upd val .refs v) { m with refs := r } := by
  refine h.swap (a := .refs) (LiveX.refs m) hv hfar (liveX_iff rfl rfl fun _ => Iff.rfl) (fun b hb hne => ?_) (fun j hj e => ⟨(by intro x; cases x), hj, e⟩)
  rcases hb.cases with rfl | rfl | rfl | rfl | ⟨j, rfl, hj⟩ | ⟨j, rfl, hj⟩ <;> first | exact ⟨rfl, rfl⟩ | exact absurd rfl hne

theorem OX.setSlot {W : World} {B : Nat} {val : Nm → Value} {m : ImgD} (h : OX W B val m) {t : Nat} (ht : t < m.slots.length) {g n cap : Nat} (hv : val .slots = .slice (some ⟨g, 0, none⟩) n cap) (k : Int) (d : ByteArray) (es : List Int) {ev : Value}
    (hev : W.ownsRow B 3 1 ev es.length (ints es)) (hfar : FarX m val (.tab t) ev) :
    OX (((W.setCell ⟨g, t * 3, none⟩ (.int .i64 k)).setCell ⟨g, t * 3 + 1, none⟩ (.string d)).setCell ⟨g, t * 3 + 2, none⟩ ev) B (upd val (.tab t) ev) { m with slots := m.slots.set t (k, d, es) } := by
  have hgd := fun j => getD_setR m.slots t j (k, d, es)
  have hnn : n = m.slots.length := by
    rcases row_form (h.row .slots (LiveX.slots m)) with ⟨e, _⟩ | ⟨g', cap', e, _⟩
    · rw [hv] at e; simp at e
    · rw [hv] at e; simp at e; exact e.2.1
  have hoth : ∀ {e : TypeId} {size : Nat} {v : Value} {q : Nat} {xs : List Value}, W.ownsRow B e size v q xs → v.ownBlock ≠ some g →
      (((W.setCell ⟨g, t * 3, none⟩ (.int .i64 k)).setCell ⟨g, t * 3 + 1, none⟩ (.string d)).setCell ⟨g, t * 3 + 2, none⟩ ev).ownsRow B e size v q xs := fun hr hne =>
    ownsRow_setCell_other (ownsRow_setCell_other (ownsRow_setCell_other hr hne _) hne _) hne _
  have hlive : ∀ b, LiveX { m with slots := m.slots.set t (k, d, es) } b → b ≠ .tab t → LiveX m b := fun b hb hne => by
    rcases hb.cases with rfl | rfl | rfl | rfl | ⟨j, rfl, hj⟩ | ⟨j, rfl, hj⟩
    · exact LiveX.root m
    · exact LiveX.slots m
    · exact LiveX.refs m
    · exact LiveX.snaps m
    · refine LiveX.tab ⟨?_, ?_⟩
      · have := hj.1
        rwa [show (m.slots.set t (k, d, es)).length = m.slots.length from List.length_set] at this
      · have := hj.2
        have e : tbl { m with slots := m.slots.set t (k, d, es) } j = tbl m j := by
          show ((m.slots.set t (k, d, es)).getD j default).2.2 = _
          rw [hgd, if_neg (fun x => hne (by rw [x.1]))]
        rwa [e] at this
    · exact LiveX.sr hj
  refine ⟨fun b hb => ?_, fun b c hb hc hne q hq => ?_, fun j hj e => ?_⟩
  · by_cases es0 : b = .slots
    · subst es0
      rw [upd_other val ev (by intro x; cases x)]
      have hr := h.row .slots (LiveX.slots m)
      have e1 : rowV { m with slots := m.slots.set t (k, d, es) } (upd val (.tab t) ev) .slots = (((rowV m val .slots).set (t * 3) (.int .i64 k)).set (t * 3 + 1) (.string d)).set (t * 3 + 2) ev := by
        have := flatS_set (L := m.slots) (tv := fun j => val (.tab j)) (tv' := fun j => upd val (.tab t) ev (.tab j)) (t := t) k d es (fun j hj => upd_other val ev (by intro x; apply hj; injection x))
        rw [upd_same] at this
        exact this
      have e2 : rowN { m with slots := m.slots.set t (k, d, es) } .slots = rowN m .slots := List.length_set
      rw [e1, e2]
      have hN : rowN m .slots = n := hnn.symm
      rw [hN] at hr ⊢
      rw [hv] at hr ⊢
      exact ((((hr.stored (t * 3) (.int .i64 k)).1).stored (t * 3 + 1) (.string d)).1.stored (t * 3 + 2) ev).1
    · by_cases et : b = .tab t
      · subst et
        rw [upd_same]
        have e1 : rowV { m with slots := m.slots.set t (k, d, es) } (upd val (.tab t) ev) (.tab t) = ints es := by
          show ints ((m.slots.set t (k, d, es)).getD t default).2.2 = _
          rw [hgd, if_pos ⟨rfl, ht⟩]
        have e2 : rowN { m with slots := m.slots.set t (k, d, es) } (.tab t) = es.length := by
          show ((m.slots.set t (k, d, es)).getD t default).2.2.length = _
          rw [hgd, if_pos ⟨rfl, ht⟩]
        rw [e1, e2]
        exact hoth hev (fun x => hfar .slots (LiveX.slots m) (by intro y; cases y) g x (by rw [hv]; rfl))
      · have hb' := hlive b hb et
        have hbg : (val b).ownBlock ≠ some g := h.apart .slots b (LiveX.slots m) hb' (fun x => es0 x.symm) g (by rw [hv]; rfl)
        rw [upd_other val ev et]
        have e1 : rowV { m with slots := m.slots.set t (k, d, es) } (upd val (.tab t) ev) b = rowV m val b ∧ rowN { m with slots := m.slots.set t (k, d, es) } b = rowN m b := by
          rcases hb'.cases with rfl | rfl | rfl | rfl | ⟨j, rfl, hj⟩ | ⟨j, rfl, hj⟩
          · exact ⟨rfl, rfl⟩
          · exact absurd rfl es0
          · exact ⟨rfl, rfl⟩
          · exact ⟨rfl, rfl⟩
          · have hjt : t ≠ j := fun x => et (by rw [x])
            constructor
            · show ints ((m.slots.set t (k, d, es)).getD j default).2.2 = ints (m.slots.getD j default).2.2
              rw [hgd, if_neg (fun x => hjt x.1)]
            · show ((m.slots.set t (k, d, es)).getD j default).2.2.length = (m.slots.getD j default).2.2.length
              rw [hgd, if_neg (fun x => hjt x.1)]
          · exact ⟨rfl, rfl⟩
        rw [e1.1, e1.2]
        exact hoth (h.row b hb') hbg
  · by_cases e : b = .tab t
    · subst e
      rw [upd_same] at hq
      rw [upd_other val ev (fun x => hne x.symm)]
      exact hfar c (hlive c hc (fun x => hne x.symm)) (fun x => hne x.symm) q hq
    · rw [upd_other val ev e] at hq
      have hb' := hlive b hb e
      by_cases e2 : c = .tab t
      · subst e2; rw [upd_same]; exact fun x => hfar b hb' e q x hq
      · rw [upd_other val ev e2]; exact h.apart b c hb' (hlive c hc e2) hne q hq
  · rw [show ({ m with slots := m.slots.set t (k, d, es) } : ImgD).slots.length = m.slots.length from List.length_set] at hj
    have e : ((m.slots.set t (k, d, es)).getD j default).2.2 = [] := e
    rw [hgd] at e
    by_cases ej : t = j
    · subst ej
      rw [if_pos ⟨rfl, hj⟩] at e
      have e : es = [] := e
      rw [upd_same]
      rw [e] at hev
      rcases row_form hev with ⟨x, _⟩ | ⟨g', cap', x, _⟩
      · exact ⟨_, _, x⟩
      · exact ⟨_, _, x⟩
    · rw [if_neg (fun x => ej x.1)] at e
      rw [upd_other val ev (by intro x; apply ej; injection x with _ x; exact x.symm)]
      exact h.loose j hj e
theorem OX.addSlot {W W' : World} {B : Nat} {val : Nm → Value} {m : ImgD} (h : OX W B val m) {k : Int} {d : ByteArray} {es : List Int} {ev sv : Value} (hev : es ≠ [] → W.ownsRow B 3 1 ev es.length (ints es)) (hev0 : es = [] → ∃ ao cap, ev = .slice ao 0 cap) (hfar : es ≠ [] → FarX m val (.tab m.slots.length) ev)
    (hgrow : W.grownBy W' (val .slots).ownBlock) (hrow : W'.ownsRow B 33 3 sv (m.slots.length + 1) (flatS m.slots (fun j => val (.tab j)) ++ [.int .i64 k, .string d, ev])) (hblk : sv.ownBlock = (val .slots).ownBlock ∨ ∀ g, sv.ownBlock = some g → W.heap.size ≤ g) :
    OX W' B (upd (upd val (.tab m.slots.length) ev) .slots sv) { m with slots := m.slots ++ [(k, d, es)] } := by
  have hval : ∀ b, b ≠ .slots → b ≠ .tab m.slots.length → upd (upd val (.tab m.slots.length) ev) .slots sv b = val b := fun b h1 h2 => by rw [upd_other _ sv h1, upd_other _ ev h2]
  have hvs : upd (upd val (.tab m.slots.length) ev) .slots sv .slots = sv := upd_same _ _ _
  have hvt : upd (upd val (.tab m.slots.length) ev) .slots sv (.tab m.slots.length) = ev := by rw [upd_other _ sv (by intro x; cases x), upd_same]
  have hcase : ∀ b, LiveX { m with slots := m.slots ++ [(k, d, es)] } b → b = .slots ∨ (b = .tab m.slots.length ∧ es ≠ []) ∨ (LiveX m b ∧ b ≠ .slots ∧ b ≠ .tab m.slots.length) := fun b hb => by
    rcases hb.cases with rfl | rfl | rfl | rfl | ⟨j, rfl, hj⟩ | ⟨j, rfl, hj⟩
    · exact .inr (.inr ⟨LiveX.root m, (by intro x; cases x), (by intro x; cases x)⟩)
    · exact .inl rfl
    · exact .inr (.inr ⟨LiveX.refs m, (by intro x; cases x), (by intro x; cases x)⟩)
    · exact .inr (.inr ⟨LiveX.snaps m, (by intro x; cases x), (by intro x; cases x)⟩)
    · obtain ⟨hj, hjn⟩ := hj
      by_cases e : j = m.slots.length
      · subst e
        refine .inr (.inl ⟨rfl, ?_⟩)
        have hjn : ((m.slots ++ [(k, d, es)]).getD m.slots.length default).2.2 ≠ [] := hjn
        simpa [List.getD] using hjn
      · have hjl : j < m.slots.length := by simp at hj; omega
        refine .inr (.inr ⟨LiveX.tab ⟨hjl, ?_⟩, (by intro x; cases x), ?_⟩)
        · have hjn : ((m.slots ++ [(k, d, es)]).getD j default).2.2 ≠ [] := hjn
          have e : (m.slots ++ [(k, d, es)]).getD j default = m.slots.getD j default := by simp [List.getD, List.getElem?_append, hjl]
          rwa [e] at hjn
        · intro x; apply e; injection x
    · exact .inr (.inr ⟨LiveX.sr hj, (by intro x; cases x), (by intro x; cases x)⟩)
  have hnot : ∀ b, LiveX m b → b ≠ .slots → (val b).ownBlock = none ∨ (val b).ownBlock ≠ (val .slots).ownBlock := fun b hb hne => by
    cases hg : (val b).ownBlock with
    | none => exact .inl rfl
    | some g => exact .inr (fun x => h.apart b .slots hb (LiveX.slots m) hne g hg x.symm)
  have hevn : es ≠ [] → ev.ownBlock = none ∨ ev.ownBlock ≠ (val .slots).ownBlock := fun hne => by
    cases hg : ev.ownBlock with
    | none => exact .inl rfl
    | some g => exact .inr (fun x => hfar hne .slots (LiveX.slots m) (by intro y; cases y) g hg x.symm)
  have hsvfar : ∀ b, LiveX m b → b ≠ .slots → ∀ g, sv.ownBlock = some g → (val b).ownBlock ≠ some g := fun b hb hne g hg hx => by
    rcases hblk with e | e
    · rw [e] at hg; exact h.apart b .slots hb (LiveX.slots m) hne g hx hg
    · have := ((h.row b hb).lt g hx).2
      have := e g hg
      omega
  have hsvev : es ≠ [] → ∀ g, sv.ownBlock = some g → ev.ownBlock ≠ some g := fun hne g hg hx => by
    rcases hblk with e | e
    · rw [e] at hg; exact hfar hne .slots (LiveX.slots m) (by intro y; cases y) g hx hg
    · have := ((hev hne).lt g hx).2
      have := e g hg
      omega
  refine ⟨fun b hb => ?_, fun b c hb hc hne q hq => ?_, fun j hj e => ?_⟩
  · rcases hcase b hb with rfl | ⟨rfl, hes⟩ | ⟨hb', h1, h2⟩
    · rw [hvs]
      have e1 : rowV { m with slots := m.slots ++ [(k, d, es)] } (upd (upd val (.tab m.slots.length) ev) .slots sv) .slots = flatS m.slots (fun j => val (.tab j)) ++ [.int .i64 k, .string d, ev] := by
        have := flatS_snoc m.slots (fun j => val (.tab j)) (fun j => upd (upd val (.tab m.slots.length) ev) .slots sv (.tab j)) (k, d, es) (fun j hj => hval _ (by intro x; cases x) (by intro x; injection x with _ x; omega))
        rw [hvt] at this
        exact this
      have e2 : rowN { m with slots := m.slots ++ [(k, d, es)] } .slots = m.slots.length + 1 := by show (m.slots ++ [(k, d, es)]).length = _; simp
      rw [e1, e2]; exact hrow
    · rw [hvt]
      have e0 : (m.slots ++ [(k, d, es)]).getD m.slots.length default = (k, d, es) := by simp [List.getD]
      have e1 : rowV { m with slots := m.slots ++ [(k, d, es)] } (upd (upd val (.tab m.slots.length) ev) .slots sv) (.tab m.slots.length) = ints es := by
        show ints ((m.slots ++ [(k, d, es)]).getD m.slots.length default).2.2 = _
        rw [e0]
      have e2 : rowN { m with slots := m.slots ++ [(k, d, es)] } (.tab m.slots.length) = es.length := by
        show ((m.slots ++ [(k, d, es)]).getD m.slots.length default).2.2.length = _
        rw [e0]
      rw [e1, e2]
      exact (hev hes).kept hgrow (hevn hes)
    · rw [hval b h1 h2]
      have e1 : rowV { m with slots := m.slots ++ [(k, d, es)] } (upd (upd val (.tab m.slots.length) ev) .slots sv) b = rowV m val b ∧ rowN { m with slots := m.slots ++ [(k, d, es)] } b = rowN m b := by
        rcases hb'.cases with rfl | rfl | rfl | rfl | ⟨j, rfl, hj⟩ | ⟨j, rfl, hj⟩
        · exact ⟨rfl, rfl⟩
        · exact absurd rfl h1
        · exact ⟨rfl, rfl⟩
        · refine ⟨?_, rfl⟩
          show flatN m.snaps _ = flatN m.snaps _
          unfold flatN
          refine congrArg List.flatten (List.map_congr_left fun j _ => ?_)
          dsimp only
          rw [hval (.sr j) (by intro x; cases x) (by intro x; cases x)]
        · have e : (m.slots ++ [(k, d, es)]).getD j default = m.slots.getD j default := by simp [List.getD, List.getElem?_append, hj.1]
          constructor
          · show ints ((m.slots ++ [(k, d, es)]).getD j default).2.2 = _
            rw [e]; rfl
          · show ((m.slots ++ [(k, d, es)]).getD j default).2.2.length = _
            rw [e]; rfl
        · exact ⟨rfl, rfl⟩
      rw [e1.1, e1.2]
      exact (h.row b hb').kept hgrow (hnot b hb' h1)
  · rcases hcase b hb with rfl | ⟨rfl, hes⟩ | ⟨hb', h1, h2⟩
    · rw [hvs] at hq
      rcases hcase c hc with rfl | ⟨rfl, hes2⟩ | ⟨hc', g1, g2⟩
      · exact absurd rfl hne
      · rw [hvt]; exact hsvev hes2 q hq
      · rw [hval c g1 g2]; exact hsvfar c hc' g1 q hq
    · rw [hvt] at hq
      rcases hcase c hc with rfl | ⟨rfl, hes2⟩ | ⟨hc', g1, g2⟩
      · rw [hvs]; exact fun x => hsvev hes q x hq
      · exact absurd rfl hne
      · rw [hval c g1 g2]; exact hfar hes c hc' g2 q hq
    · rw [hval b h1 h2] at hq
      rcases hcase c hc with rfl | ⟨rfl, hes2⟩ | ⟨hc', g1, g2⟩
      · rw [hvs]; exact fun x => hsvfar b hb' h1 q x hq
      · rw [hvt]; exact fun x => hfar hes2 b hb' h2 q x hq
      · rw [hval c g1 g2]; exact h.apart b c hb' hc' hne q hq
  · have hj : j < (m.slots ++ [(k, d, es)]).length := hj
    have e : ((m.slots ++ [(k, d, es)]).getD j default).2.2 = [] := e
    by_cases ej : j = m.slots.length
    · subst ej
      rw [hvt]
      exact hev0 (by simpa [List.getD] using e)
    · have hjl : j < m.slots.length := by simp at hj; omega
      have e2 : (m.slots ++ [(k, d, es)]).getD j default = m.slots.getD j default := by simp [List.getD, List.getElem?_append, hjl]
      rw [hval _ (by intro x; cases x) (by intro x; injection x with _ x; exact ej x)]
      exact h.loose j hjl (by rw [e2] at e; exact e)
theorem flatN_snoc (L : List SnapD) (tv tv' : Nat → Value) (s : SnapD) (htv : ∀ j, j < L.length → tv' j = tv j) : flatN (L ++ [s]) tv' = flatN L tv ++ [.string s.1, .int .i64 s.2.1, tv' L.length] := by
  unfold flatN
  rw [List.length_append, List.length_singleton, List.range_succ, List.flatMap_append]
  have e1 : (List.range L.length).flatMap (fun j => [Value.string ((L ++ [s]).getD j default).1, .int .i64 ((L ++ [s]).getD j default).2.1, tv' j]) = (List.range L.length).flatMap (fun j => [Value.string (L.getD j default).1, .int .i64 (L.getD j default).2.1, tv j]) := by
    refine congrArg List.flatten (List.map_congr_left fun j hj => ?_)
    have hj := List.mem_range.1 hj
    have e : (L ++ [s]).getD j default = L.getD j default := by simp [List.getD, List.getElem?_append, hj]
    rw [e, htv j hj]
  rw [e1]
  simp
theorem OX.addSnap {W W' : World} {B : Nat} {val : Nm → Value} {m : ImgD} (h : OX W B val m) {k : Int} {d : ByteArray} {es : List Int} {ev sv : Value} (hev : W.ownsRow B 3 1 ev es.length (ints es)) (hfar : FarX m val (.sr m.snaps.length) ev)
    (hgrow : W.grownBy W' (val .snaps).ownBlock) (hrow : W'.ownsRow B 61 3 sv (m.snaps.length + 1) (flatN m.snaps (fun j => val (.sr j)) ++ [.string d, .int .i64 k, ev])) (hblk : sv.ownBlock = (val .snaps).ownBlock ∨ ∀ g, sv.ownBlock = some g → W.heap.size ≤ g) :
    OX W' B (upd (upd val (.sr m.snaps.length) ev) .snaps sv) { m with snaps := m.snaps ++ [(d, k, es)] } := by
  have hval : ∀ b, b ≠ .snaps → b ≠ .sr m.snaps.length → upd (upd val (.sr m.snaps.length) ev) .snaps sv b = val b := fun b h1 h2 => by rw [upd_other _ sv h1, upd_other _ ev h2]
  have hvs : upd (upd val (.sr m.snaps.length) ev) .snaps sv .snaps = sv := upd_same _ _ _
  have hvt : upd (upd val (.sr m.snaps.length) ev) .snaps sv (.sr m.snaps.length) = ev := by rw [upd_other _ sv (by intro x; cases x), upd_same]
  have hcase : ∀ b, LiveX { m with snaps := m.snaps ++ [(d, k, es)] } b → b = .snaps ∨ b = .sr m.snaps.length ∨ (LiveX m b ∧ b ≠ .snaps ∧ b ≠ .sr m.snaps.length) := fun b hb => by
    rcases hb.cases with rfl | rfl | rfl | rfl | ⟨j, rfl, hj⟩ | ⟨j, rfl, hj⟩
    · exact .inr (.inr ⟨LiveX.root m, (by intro x; cases x), (by intro x; cases x)⟩)
    · exact .inr (.inr ⟨LiveX.slots m, (by intro x; cases x), (by intro x; cases x)⟩)
    · exact .inr (.inr ⟨LiveX.refs m, (by intro x; cases x), (by intro x; cases x)⟩)
    · exact .inl rfl
    · exact .inr (.inr ⟨LiveX.tab hj, (by intro x; cases x), (by intro x; cases x)⟩)
    · by_cases e : j = m.snaps.length
      · subst e; exact .inr (.inl rfl)
      · refine .inr (.inr ⟨LiveX.sr (by simp at hj; omega), (by intro x; cases x), ?_⟩)
        intro x; apply e; injection x
  have hnot : ∀ b, LiveX m b → b ≠ .snaps → (val b).ownBlock = none ∨ (val b).ownBlock ≠ (val .snaps).ownBlock := fun b hb hne => by
    cases hg : (val b).ownBlock with
    | none => exact .inl rfl
    | some g => exact .inr (fun x => h.apart b .snaps hb (LiveX.snaps m) hne g hg x.symm)
  have hevn : ev.ownBlock = none ∨ ev.ownBlock ≠ (val .snaps).ownBlock := by
    cases hg : ev.ownBlock with
    | none => exact .inl rfl
    | some g => exact .inr (fun x => hfar .snaps (LiveX.snaps m) (by intro y; cases y) g hg x.symm)
  have hsvfar : ∀ b, LiveX m b → b ≠ .snaps → ∀ g, sv.ownBlock = some g → (val b).ownBlock ≠ some g := fun b hb hne g hg hx => by
    rcases hblk with e | e
    · rw [e] at hg; exact h.apart b .snaps hb (LiveX.snaps m) hne g hx hg
    · have := ((h.row b hb).lt g hx).2
      have := e g hg
      omega
  have hsvev : ∀ g, sv.ownBlock = some g → ev.ownBlock ≠ some g := fun g hg hx => by
    rcases hblk with e | e
    · rw [e] at hg; exact hfar .snaps (LiveX.snaps m) (by intro y; cases y) g hx hg
    · have := (hev.lt g hx).2
      have := e g hg
      omega
  refine ⟨fun b hb => ?_, fun b c hb hc hne q hq => ?_, fun j hj e => by rw [hval _ (by intro x; cases x) (by intro x; cases x)]; exact h.loose j hj e⟩
  · rcases hcase b hb with rfl | rfl | ⟨hb', h1, h2⟩
    · rw [hvs]
      have e1 : rowV { m with snaps := m.snaps ++ [(d, k, es)] } (upd (upd val (.sr m.snaps.length) ev) .snaps sv) .snaps = flatN m.snaps (fun j => val (.sr j)) ++ [.string d, .int .i64 k, ev] := by
        have := flatN_snoc m.snaps (fun j => val (.sr j)) (fun j => upd (upd val (.sr m.snaps.length) ev) .snaps sv (.sr j)) (d, k, es) (fun j hj => hval _ (by intro x; cases x) (by intro x; injection x with _ x; omega))
        rw [hvt] at this
        exact this
      have e2 : rowN { m with snaps := m.snaps ++ [(d, k, es)] } .snaps = m.snaps.length + 1 := by show (m.snaps ++ [(d, k, es)]).length = _; simp
      rw [e1, e2]; exact hrow
    · rw [hvt]
      have e0 : (m.snaps ++ [(d, k, es)]).getD m.snaps.length default = (d, k, es) := by simp [List.getD]
      have e1 : rowV { m with snaps := m.snaps ++ [(d, k, es)] } (upd (upd val (.sr m.snaps.length) ev) .snaps sv) (.sr m.snaps.length) = ints es := by
        show ints ((m.snaps ++ [(d, k, es)]).getD m.snaps.length default).2.2 = _
        rw [e0]
      have e2 : rowN { m with snaps := m.snaps ++ [(d, k, es)] } (.sr m.snaps.length) = es.length := by
        show ((m.snaps ++ [(d, k, es)]).getD m.snaps.length default).2.2.length = _
        rw [e0]
      rw [e1, e2]
      exact hev.kept hgrow hevn
    · rw [hval b h1 h2]
      have e1 : rowV { m with snaps := m.snaps ++ [(d, k, es)] } (upd (upd val (.sr m.snaps.length) ev) .snaps sv) b = rowV m val b ∧ rowN { m with snaps := m.snaps ++ [(d, k, es)] } b = rowN m b := by
        rcases hb'.cases with rfl | rfl | rfl | rfl | ⟨j, rfl, hj⟩ | ⟨j, rfl, hj⟩
        · exact ⟨rfl, rfl⟩
        · refine ⟨?_, rfl⟩
          show flatS m.slots _ = flatS m.slots _
          unfold flatS
          refine congrArg List.flatten (List.map_congr_left fun j _ => ?_)
          dsimp only
          rw [hval (.tab j) (by intro x; cases x) (by intro x; cases x)]
        · exact ⟨rfl, rfl⟩
        · exact absurd rfl h1
        · exact ⟨rfl, rfl⟩
        · have e : (m.snaps ++ [(d, k, es)]).getD j default = m.snaps.getD j default := by simp [List.getD, List.getElem?_append, hj]
          constructor
          · show ints ((m.snaps ++ [(d, k, es)]).getD j default).2.2 = _
            rw [e]; rfl
          · show ((m.snaps ++ [(d, k, es)]).getD j default).2.2.length = _
            rw [e]; rfl
      rw [e1.1, e1.2]
      exact (h.row b hb').kept hgrow (hnot b hb' h1)
  · rcases hcase b hb with rfl | rfl | ⟨hb', h1, h2⟩
    · rw [hvs] at hq
      rcases hcase c hc with rfl | rfl | ⟨hc', g1, g2⟩
      · exact absurd rfl hne
      · rw [hvt]; exact hsvev q hq
      · rw [hval c g1 g2]; exact hsvfar c hc' g1 q hq
    · rw [hvt] at hq
      rcases hcase c hc with rfl | rfl | ⟨hc', g1, g2⟩
      · rw [hvs]; exact fun x => hsvev q x hq
      · exact absurd rfl hne
      · rw [hval c g1 g2]; exact hfar c hc' g2 q hq
    · rw [hval b h1 h2] at hq
      rcases hcase c hc with rfl | rfl | ⟨hc', g1, g2⟩
      · rw [hvs]; exact fun x => hsvfar b hb' h1 q x hq
      · rw [hvt]; exact fun x => hfar b hb' h2 q x hq
      · rw [hval c g1 g2]; exact h.apart b c hb' hc' hne q hq

/-- A cell of nobody's row is stored. -/
theorem OX.far {W : World} {B : Nat} {val : Nm → Value} {m : ImgD} (h : OX W B val m) {g i : Nat} {u : Value} (hg : ∀ a, LiveX m a → (val a).ownBlock ≠ some g) : OX (W.setCell ⟨g, i, none⟩ u) B val m :=
  ⟨fun a ha => ownsRow_setCell_other (h.row a ha) (hg a ha) u, h.apart, h.loose⟩
theorem OX.lt {W : World} {B : Nat} {val : Nm → Value} {m : ImgD} (h : OX W B val m) {g : Nat} (hg : W.heap.size ≤ g) : ∀ a, LiveX m a → (val a).ownBlock ≠ some g := fun a ha e => by
  have := ((h.row a ha).lt g e).2
  omega

theorem addX_far {m : ImgD} {val : Nm → Value} {ev sv : Value} {s : SlotD} {g : Nat} (h1 : ∀ a, LiveX m a → (val a).ownBlock ≠ some g) (h2 : s.2.2 ≠ [] → ev.ownBlock ≠ some g) (h3 : sv.ownBlock ≠ some g) :
    ∀ a, LiveX { m with slots := m.slots ++ [s] } a → (upd (upd val (.tab m.slots.length) ev) .slots sv a).ownBlock ≠ some g := fun a ha => by
  by_cases e1 : a = .slots
  · subst e1; rw [upd_same]; exact h3
  rw [upd_other _ _ e1]
  by_cases e2 : a = .tab m.slots.length
  · subst e2
    rw [upd_same]
    refine h2 ?_
    rcases ha.cases with x | x | x | x | ⟨j, x, hj⟩ | ⟨j, x, hj⟩ <;> try (cases x)
    have hj : ((m.slots ++ [s]).getD m.slots.length default).2.2 ≠ [] := hj.2
    simpa [List.getD] using hj
  rw [upd_other _ _ e2]
  apply h1
  rcases ha.cases with rfl | rfl | rfl | rfl | ⟨j, rfl, hj⟩ | ⟨j, rfl, hj⟩
  · exact LiveX.root m
  · exact LiveX.slots m
  · exact LiveX.refs m
  · exact LiveX.snaps m
  · obtain ⟨hj, hjn⟩ := hj
    have hj : j < (m.slots ++ [s]).length := hj
    rw [List.length_append, List.length_singleton] at hj
    rcases Nat.lt_or_ge j m.slots.length with h | h
    · refine LiveX.tab ⟨h, ?_⟩
      have hjn : ((m.slots ++ [s]).getD j default).2.2 ≠ [] := hjn
      have e : (m.slots ++ [s]).getD j default = m.slots.getD j default := by simp [List.getD, List.getElem?_append, h]
      rwa [e] at hjn
    · exact absurd (by rw [show j = m.slots.length by omega]) e2
  · exact LiveX.sr hj
theorem setX_far {m : ImgD} {val : Nm → Value} {ev : Value} {s : SlotD} {g i : Nat} (h1 : ∀ a, LiveX m a → (val a).ownBlock ≠ some g) (h2 : ev.ownBlock ≠ some g) :
    ∀ a, LiveX { m with slots := m.slots.set i s } a → (upd val (.tab i) ev a).ownBlock ≠ some g := fun a ha => by
  by_cases e2 : a = .tab i
  · subst e2; rw [upd_same]; exact h2
  rw [upd_other _ _ e2]
  apply h1
  rcases ha.cases with rfl | rfl | rfl | rfl | ⟨j, rfl, hj⟩ | ⟨j, rfl, hj⟩
  · exact LiveX.root m
  · exact LiveX.slots m
  · exact LiveX.refs m
  · exact LiveX.snaps m
  · refine LiveX.tab ⟨?_, ?_⟩
    · have := hj.1
      rwa [show (m.slots.set i s).length = m.slots.length from List.length_set] at this
    · have := hj.2
      have e : tbl { m with slots := m.slots.set i s } j = tbl m j := by
        show ((m.slots.set i s).getD j default).2.2 = _
        rw [getD_setR, if_neg (fun x => e2 (by rw [x.1]))]
      rwa [e] at this
  · exact LiveX.sr hj
theorem ownX_old {W : World} {B : Nat} {val : Nm → Value} {m : ImgD} (h : OX W B val m) {a : Nm} (ha : LiveX m a) {v : Value} (hv : val a = v) {g : Nat} (hg : W.heap.size ≤ g) : some g ≠ v.ownBlock := by
  subst hv; exact fun e => h.lt hg a ha e.symm
/-- Where the new image's rows lie: in the old one's, in what was handed in, or in what is new. -/
def SrcX (w : World) (m : ImgD) (val : Nm → Value) (ev : Value) (m' : ImgD) (val' : Nm → Value) : Prop := ∀ g, g < w.heap.size → ev.ownBlock ≠ some g → (∀ b, LiveX m b → (val b).ownBlock ≠ some g) → ∀ a, LiveX m' a → (val' a).ownBlock ≠ some g
/-- Nothing but the image's own rows has turned. -/
def KeepX (w w' : World) (m : ImgD) (val : Nm → Value) : Prop := ∀ q, q < w.heap.size → (∀ a, LiveX m a → (val a).ownBlock ≠ some q) → w'.heap[q]? = w.heap[q]?
theorem KeepX.refl (w : World) (m : ImgD) (val : Nm → Value) : KeepX w w m val := fun _ _ _ => rfl
theorem KeepX.alloc {w W : World} {m : ImgD} {val : Nm → Value} (h : KeepX w W m val) (hs : w.heap.size ≤ W.heap.size) (o : Obj) : KeepX w (W.alloc o) m val := fun q hq hn => (Below.heap_alloc W o q (by omega)).trans (h q hq hn)
theorem KeepX.own {w W : World} {m : ImgD} {val : Nm → Value} (h : KeepX w W m val) {a : Nm} (ha : LiveX m a) {g n c : Nat} (hg : val a = .slice (some ⟨g, 0, none⟩) n c) {i : Nat} {v : Value} : KeepX w (W.setCell ⟨g, i, none⟩ v) m val := fun q hq hn =>
  (Below.heap_setCell W ⟨g, i, none⟩ v q (fun e => hn a ha (by rw [hg]; exact congrArg some e.symm))).trans (h q hq hn)
theorem KeepX.new {w W : World} {m : ImgD} {val : Nm → Value} (h : KeepX w W m val) {g i : Nat} (hg : w.heap.size ≤ g) {v : Value} : KeepX w (W.setCell ⟨g, i, none⟩ v) m val := fun q hq hn =>
  (Below.heap_setCell W ⟨g, i, none⟩ v q (fun e => by have e : q = g := e; omega)).trans (h q hq hn)
theorem KeepX.grown {w W W' : World} {m : ImgD} {val : Nm → Value} (h : KeepX w W m val) (hs : w.heap.size ≤ W.heap.size) {a : Nm} (ha : LiveX m a) {v : Value} (hv : val a = v) (hg : W.grownBy W' v.ownBlock) : KeepX w W' m val := fun q hq hn =>
  (hg.block q (by omega) (fun e => hn a ha (by rw [hv]; exact e.symm))).trans (h q hq hn)
theorem KeepX.below {w W W' : World} {m : ImgD} {val : Nm → Value} (h : KeepX w W m val) {n : Nat} (hs : w.heap.size ≤ n) (hg : Below n W W') : KeepX w W' m val := fun q hq hn => (hg.block q (by omega)).trans (h q hq hn)

theorem OX.forms {W : World} {B : Nat} {val : Nm → Value} {m : ImgD} (h : OX W B val m) (a : Nm) (ha : LiveX m a) : ∃ ao cap, val a = .slice ao (rowN m a) cap ∧ (0 < rowN m a → ∃ g, ao = some ⟨g, 0, none⟩) := by
  rcases row_form (h.row a ha) with ⟨e, hn⟩ | ⟨g, cap, e, _⟩
  · exact ⟨none, 0, by rw [e, hn], fun hp => absurd hp (by omega)⟩
  · exact ⟨_, cap, e, fun _ => ⟨g, rfl⟩⟩
end Go.Proofs.Ytehleeibgkpjmac
/- Contracts of slices.Clone: a list of one's own. -/
namespace Go.Proofs.Ytehleeibgkpjmac
open Go.RowKit Go.Shelf
set_option maxRecDepth 20000

theorem ints_mem {xs : List Int} : ∀ u ∈ ints xs, u.oneCell' = true := ints_oneCell .i64 xs
theorem sl_form1 {W : World} {v : Value} {xs : List Int} (h : Sl W v xs) : v.oneCell' = true := by obtain ⟨ao, cap, rfl, _⟩ := h; rfl
theorem flatS_mem {L : List SlotD} {tv : Nat → Value} (h : ∀ j, j < L.length → (tv j).oneCell' = true) : ∀ u ∈ flatS L tv, u.oneCell' = true := fun u hu => by
  unfold flatS at hu
  rw [List.mem_flatMap] at hu
  obtain ⟨j, hj, hu⟩ := hu
  rw [List.mem_range] at hj
  simp only [List.mem_cons, List.not_mem_nil, or_false] at hu
  rcases hu with rfl | rfl | rfl
  · rfl
  · rfl
  · exact h j hj
theorem flatN_mem {L : List SnapD} {tv : Nat → Value} (h : ∀ j, j < L.length → (tv j).oneCell' = true) : ∀ u ∈ flatN L tv, u.oneCell' = true := fun u hu => by
  unfold flatN at hu
  rw [List.mem_flatMap] at hu
  obtain ⟨j, hj, hu⟩ := hu
  rw [List.mem_range] at hj
  simp only [List.mem_cons, List.not_mem_nil, or_false] at hu
  rcases hu with rfl | rfl | rfl
  · rfl
  · rfl
  · exact h j hj
def room : Nat := 140737488355328
theorem room_is : room = 140737488355328 := rfl
theorem maxLen_of_room {n b : Nat} (hb : 0 < b) (h : n * b ≤ room) : n ≤ maxLen := by
  have := Nat.le_trans (Nat.le_mul_of_pos_right n hb) h
  rw [room_is] at this
  unfold maxLen
  omega

theorem clnI_nil (n c : Nat) (w : World) : Calls Try.prog 112 #[.slice none n c] w fun r w' => r = .returned (.slice none 0 0) ∧ w' = w := by
  have q22 : ∀ (w : World) (a : Option Addr) (n c n' c' : Nat), (binOp .eql 22 (.slice a n c) (.slice none n' c')).run Try.prog w = .ok (.bool a.isNone) w := fun w a n c n' c' => Lib.run_eql_slice_nil w _ _ a n c n' c' Try.underlying22
  go_enter Try.func112, Try.ntmps112
  go_wp2
  go_ret
  exact ⟨rfl, rfl⟩
set_option maxHeartbeats 1000000 in
theorem clnI_at (a : Addr) (n c : Nat) (news : List Value) (w : World) (hl : news.length = n * 1) (hbig : n * 8 ≤ room) (hc : ∀ j u, news[j]? = some u → w.cell? (a.add j) = some u) (h1 : ∀ u ∈ news, u.oneCell' = true) :
    Calls Try.prog 112 #[.slice (some a) n c] w fun r w' => ∃ v', r = .returned v' ∧ w'.ownsRow w.heap.size 3 1 v' n news ∧ Below w.heap.size w w' := by
  have q22 : ∀ (w : World) (a : Option Addr) (n c n' c' : Nat), (binOp .eql 22 (.slice a n c) (.slice none n' c')).run Try.prog w = .ok (.bool a.isNone) w := fun w a n c n' c' => Lib.run_eql_slice_nil w _ _ a n c n' c' Try.underlying22
  obtain ⟨i0, hi, hz0, hz1, hz2⟩ := info_parts info3
  have A : Hid ((∀ j u, news[j]? = some u → w.cell? (a.add j) = some u) ∧ news.length = n * 1 ∧ n * 8 ≤ room ∧ (∀ u ∈ news, u.oneCell' = true) ∧ Try.prog.info? 3 = some i0 ∧ i0.zero = some (.int .i64 0) ∧ i0.size = 1 ∧ i0.bytes = 8) := ⟨hc, hl, hbig, h1, hi, hz0, hz1, hz2⟩
  clear hc hl hbig h1 hi hz0 hz1 hz2
  go_enter Try.func112, Try.ntmps112
  go_wp2_with (at_builtin; refine wpList_append_own _ rfl _ _ 22 rfl w.heap.size 3 i0 (.int .i64 0) 1 8 Try.underlying22 A.out.2.2.2.2.1 A.out.2.2.2.2.2.1 A.out.2.2.2.2.2.2.1 A.out.2.2.2.2.2.2.2 rfl (by decide) _ _ _ rfl (World.ownsRow_made w #[] 0 (Nat.le_refl _) (Nat.zero_le _) (by simp)) a n c news rfl A.out.2.1 ?qc2 A.out.2.2.2.1 ?qc4 ?qc5 ?qc6 ?_)
  case qc2 =>
    intro j u hj
    exact Lib.cell?_alloc_some _ (A.out.1 j u hj)
  case qc4 => rw [Nat.zero_add]; exact maxLen_of_room (by decide) A.out.2.2.1
  case qc5 => rw [Nat.zero_add]; exact A.out.2.2.1
  case qc6 => simp
  intro v' w1 hown hgrow hnil
  have HO : Hid (w1.ownsRow w.heap.size 3 1 v' n news) := hown
  have HG : Hid (Below w.heap.size w w1) := ((Below.refl _ w).alloc (Nat.le_refl _) _).grown hgrow (by simp) (by intro k hk; simp [Value.ownBlock] at hk; omega)
  clear hown hgrow hnil
  go_wp2
  go_ret
  exact ⟨v', rfl, HO.out, HG.out⟩
theorem clone_ints {w : World} {v : Value} {xs : List Int} (h : Sl w v xs) (hb : xs.length * 8 ≤ room) :
    Calls Try.prog 112 #[v] w fun r w' => ∃ v', r = .returned v' ∧ w'.ownsRow w.heap.size 3 1 v' xs.length (ints xs) ∧ Below w.heap.size w w' := by
  obtain ⟨ao, cap, rfl, hm, hcp, hc⟩ := h
  cases ao with
  | none =>
    have hx : xs = [] := Classical.byContradiction fun hne => by obtain ⟨_, _, e, _⟩ := hc hne; cases e
    subst hx
    refine (clnI_nil _ _ w).mono ?_
    rintro e w' ⟨rfl, rfl⟩
    exact ⟨_, rfl, World.ownsRow_nil _ _ _ _, Below.refl _ _⟩
  | some a =>
    refine clnI_at a xs.length cap (ints xs) w (by rw [ints_length]; omega) hb (fun j u hu => ?_) ints_mem
    have hj : j < xs.length := by
      rcases Nat.lt_or_ge j xs.length with h | h
      · exact h
      · rw [List.getElem?_eq_none (by rw [ints_length]; exact h)] at hu; cases hu
    obtain ⟨b, off, e, _, hcell⟩ := hc (by intro e; rw [e] at hj; simp at hj)
    simp only [Option.some.injEq] at e
    subst e
    rw [addr_add, hcell j hj]
    unfold ints at hu
    rw [List.getElem?_map, List.getElem?_eq_getElem hj] at hu
    simp at hu
    simp [List.getD, hj, hu]
abbrev nilS : Value := .slice none 0 0
theorem choose_ltV {p : Nat → Value → Prop} {n : Nat} (h : ∀ i, i < n → ∃ s, p i s) : ∃ f : Nat → Value, ∀ i, i < n → p i (f i) :=
  ⟨fun i => if hi : i < n then (h i hi).choose else .slice none 0 0, fun i hi => by simp only [dif_pos hi]; exact (h i hi).choose_spec⟩

theorem clnS_nil (n c : Nat) (w : World) : Calls Try.prog 113 #[.slice none n c] w fun r w' => r = .returned (.slice none 0 0) ∧ w' = w := by
  have q22 : ∀ (w : World) (a : Option Addr) (n c n' c' : Nat), (binOp .eql 23 (.slice a n c) (.slice none n' c')).run Try.prog w = .ok (.bool a.isNone) w := fun w a n c n' c' => Lib.run_eql_slice_nil w _ _ a n c n' c' Try.underlying23
  go_enter Try.func113, Try.ntmps113
  go_wp2
  go_ret
  exact ⟨rfl, rfl⟩
set_option maxHeartbeats 1000000 in
theorem clnS_at (a : Addr) (n c : Nat) (news : List Value) (w : World) (hl : news.length = n * 3) (hbig : n * 48 ≤ room) (hc : ∀ j u, news[j]? = some u → w.cell? (a.add j) = some u) (h1 : ∀ u ∈ news, u.oneCell' = true) :
    Calls Try.prog 113 #[.slice (some a) n c] w fun r w' => ∃ v', r = .returned v' ∧ w'.ownsRow w.heap.size 33 3 v' n news ∧ Below w.heap.size w w' := by
  have q22 : ∀ (w : World) (a : Option Addr) (n c n' c' : Nat), (binOp .eql 23 (.slice a n c) (.slice none n' c')).run Try.prog w = .ok (.bool a.isNone) w := fun w a n c n' c' => Lib.run_eql_slice_nil w _ _ a n c n' c' Try.underlying23
  obtain ⟨i0, hi, hz0, hz1, hz2⟩ := info_parts infoSlot
  have A : Hid ((∀ j u, news[j]? = some u → w.cell? (a.add j) = some u) ∧ news.length = n * 3 ∧ n * 48 ≤ room ∧ (∀ u ∈ news, u.oneCell' = true) ∧ Try.prog.info? 33 = some i0 ∧ i0.zero = some (.agg #[.int .i64 0, .string ByteArray.empty, .slice none 0 0]) ∧ i0.size = 3 ∧ i0.bytes = 48) := ⟨hc, hl, hbig, h1, hi, hz0, hz1, hz2⟩
  clear hc hl hbig h1 hi hz0 hz1 hz2
  go_enter Try.func113, Try.ntmps113
  go_wp2_with (at_builtin; refine wpList_append_own _ rfl _ _ 23 rfl w.heap.size 33 i0 (.agg #[.int .i64 0, .string ByteArray.empty, .slice none 0 0]) 3 48 Try.underlying23 A.out.2.2.2.2.1 A.out.2.2.2.2.2.1 A.out.2.2.2.2.2.2.1 A.out.2.2.2.2.2.2.2 rfl (by decide) _ _ _ rfl (World.ownsRow_made w #[] 0 (Nat.le_refl _) (Nat.zero_le _) (by simp)) a n c news rfl A.out.2.1 ?qc2 A.out.2.2.2.1 ?qc4 ?qc5 ?qc6 ?_)
  case qc2 =>
    intro j u hj
    exact Lib.cell?_alloc_some _ (A.out.1 j u hj)
  case qc4 => rw [Nat.zero_add]; exact maxLen_of_room (by decide) A.out.2.2.1
  case qc5 => rw [Nat.zero_add]; exact A.out.2.2.1
  case qc6 => simp
  intro v' w1 hown hgrow hnil
  have HO : Hid (w1.ownsRow w.heap.size 33 3 v' n news) := hown
  have HG : Hid (Below w.heap.size w w1) := ((Below.refl _ w).alloc (Nat.le_refl _) _).grown hgrow (by simp) (by intro k hk; simp [Value.ownBlock] at hk; omega)
  clear hown hgrow hnil
  go_wp2
  go_ret
  exact ⟨v', rfl, HO.out, HG.out⟩
theorem clone_slots {w : World} {v : Value} {L : List SlotD} (h : Slots w v L) (hb : L.length * 48 ≤ room) :
    ∃ tv : Nat → Value, (∀ j, j < L.length → Sl w (tv j) (L.getD j default).2.2) ∧ ∀ W, Below w.heap.size w W → Calls Try.prog 113 #[v] W fun r w' => ∃ v', r = .returned v' ∧ w'.ownsRow W.heap.size 33 3 v' L.length (flatS L tv) ∧ Below W.heap.size W w' := by
  obtain ⟨ao, cap, rfl, hm, hcp, hc⟩ := h
  cases ao with
  | none =>
    have hx : L = [] := Classical.byContradiction fun hne => by obtain ⟨_, _, e, _⟩ := hc hne; cases e
    subst hx
    refine ⟨fun _ => nilS, fun j hj => absurd hj (Nat.not_lt_zero _), fun W _ => (clnS_nil _ _ W).mono ?_⟩
    rintro e w' ⟨rfl, rfl⟩
    exact ⟨_, rfl, World.ownsRow_nil _ _ _ _, Below.refl _ _⟩
  | some a =>
    have hx : ∀ j, j < L.length → ∃ tv, Sl w tv (L.getD j default).2.2 ∧ ∀ W, Below w.heap.size w W → W.cell? (a.add (j * 3)) = some (.int .i64 (L.getD j default).1) ∧ W.cell? (a.add (j * 3 + 1)) = some (.string (L.getD j default).2.1) ∧ W.cell? (a.add (j * 3 + 2)) = some tv := fun j hj => by
      obtain ⟨b, off, e, hlt, hcell⟩ := hc (by intro e; rw [e] at hj; simp at hj)
      simp only [Option.some.injEq] at e
      subst e
      obtain ⟨tv, c1, c2, c3, hs⟩ := hcell j hj
      have eg : L[j] = L.getD j default := by simp [List.getD, hj]
      rw [eg] at c1 c2 hs
      exact ⟨tv, hs, fun W hW => ⟨by rw [addr_add]; exact (hW.cell (p := ⟨b, off + j * 3, none⟩) hlt).trans c1, by rw [addr_add]; exact (hW.cell (p := ⟨b, off + j * 3 + 1, none⟩) hlt).trans c2, by rw [addr_add]; exact (hW.cell (p := ⟨b, off + j * 3 + 1 + 1, none⟩) hlt).trans c3⟩⟩
    obtain ⟨tv, htv⟩ := choose_ltV hx
    refine ⟨tv, fun j hj => (htv j hj).1, fun W hW => clnS_at a L.length cap (flatS L tv) W (flatS_length L tv) hb (fun i u hu => ?_) (flatS_mem (fun j hj => sl_form1 (htv j hj).1))⟩
    have hi : i < L.length * 3 := by
      rcases Nat.lt_or_ge i (L.length * 3) with h | h
      · exact h
      · rw [List.getElem?_eq_none (by rw [flatS_length]; exact h)] at hu; cases hu
    obtain ⟨j, r, hj, hr, rfl⟩ : ∃ j r, j < L.length ∧ r < 3 ∧ i = j * 3 + r := ⟨i / 3, i % 3, by omega, Nat.mod_lt _ (by decide), by omega⟩
    obtain ⟨g0, g1, g2⟩ := flatS_get (tv := tv) hj
    obtain ⟨c0, c1, c2⟩ := (htv j hj).2 W hW
    match r, hr with
    | 0, _ => rw [Nat.add_zero] at hu ⊢; rw [g0] at hu; cases hu; exact c0
    | 1, _ => rw [g1] at hu; cases hu; exact c1
    | 2, _ => rw [g2] at hu; cases hu; exact c2

theorem clnN_nil (n c : Nat) (w : World) : Calls Try.prog 114 #[.slice none n c] w fun r w' => r = .returned (.slice none 0 0) ∧ w' = w := by
  have q22 : ∀ (w : World) (a : Option Addr) (n c n' c' : Nat), (binOp .eql 24 (.slice a n c) (.slice none n' c')).run Try.prog w = .ok (.bool a.isNone) w := fun w a n c n' c' => Lib.run_eql_slice_nil w _ _ a n c n' c' Try.underlying24
  go_enter Try.func114, Try.ntmps114
  go_wp2
  go_ret
  exact ⟨rfl, rfl⟩
set_option maxHeartbeats 1000000 in
theorem clnN_at (a : Addr) (n c : Nat) (news : List Value) (w : World) (hl : news.length = n * 3) (hbig : n * 48 ≤ room) (hc : ∀ j u, news[j]? = some u → w.cell? (a.add j) = some u) (h1 : ∀ u ∈ news, u.oneCell' = true) :
    Calls Try.prog 114 #[.slice (some a) n c] w fun r w' => ∃ v', r = .returned v' ∧ w'.ownsRow w.heap.size 61 3 v' n news ∧ Below w.heap.size w w' := by
  have q22 : ∀ (w : World) (a : Option Addr) (n c n' c' : Nat), (binOp .eql 24 (.slice a n c) (.slice none n' c')).run Try.prog w = .ok (.bool a.isNone) w := fun w a n c n' c' => Lib.run_eql_slice_nil w _ _ a n c n' c' Try.underlying24
  obtain ⟨i0, hi, hz0, hz1, hz2⟩ := info_parts infoSnap
  have A : Hid ((∀ j u, news[j]? = some u → w.cell? (a.add j) = some u) ∧ news.length = n * 3 ∧ n * 48 ≤ room ∧ (∀ u ∈ news, u.oneCell' = true) ∧ Try.prog.info? 61 = some i0 ∧ i0.zero = some (.agg #[.string ByteArray.empty, .int .i64 0, .slice none 0 0]) ∧ i0.size = 3 ∧ i0.bytes = 48) := ⟨hc, hl, hbig, h1, hi, hz0, hz1, hz2⟩
  clear hc hl hbig h1 hi hz0 hz1 hz2
  go_enter Try.func114, Try.ntmps114
  go_wp2_with (at_builtin; refine wpList_append_own _ rfl _ _ 24 rfl w.heap.size 61 i0 (.agg #[.string ByteArray.empty, .int .i64 0, .slice none 0 0]) 3 48 Try.underlying24 A.out.2.2.2.2.1 A.out.2.2.2.2.2.1 A.out.2.2.2.2.2.2.1 A.out.2.2.2.2.2.2.2 rfl (by decide) _ _ _ rfl (World.ownsRow_made w #[] 0 (Nat.le_refl _) (Nat.zero_le _) (by simp)) a n c news rfl A.out.2.1 ?qc2 A.out.2.2.2.1 ?qc4 ?qc5 ?qc6 ?_)
  case qc2 =>
    intro j u hj
    exact Lib.cell?_alloc_some _ (A.out.1 j u hj)
  case qc4 => rw [Nat.zero_add]; exact maxLen_of_room (by decide) A.out.2.2.1
  case qc5 => rw [Nat.zero_add]; exact A.out.2.2.1
  case qc6 => simp
  intro v' w1 hown hgrow hnil
  have HO : Hid (w1.ownsRow w.heap.size 61 3 v' n news) := hown
  have HG : Hid (Below w.heap.size w w1) := ((Below.refl _ w).alloc (Nat.le_refl _) _).grown hgrow (by simp) (by intro k hk; simp [Value.ownBlock] at hk; omega)
  clear hown hgrow hnil
  go_wp2
  go_ret
  exact ⟨v', rfl, HO.out, HG.out⟩
theorem clone_snaps {w : World} {v : Value} {L : List SnapD} (h : Snaps w v L) (hb : L.length * 48 ≤ room) :
    ∃ tv : Nat → Value, (∀ j, j < L.length → Sl w (tv j) (L.getD j default).2.2) ∧ ∀ W, Below w.heap.size w W → Calls Try.prog 114 #[v] W fun r w' => ∃ v', r = .returned v' ∧ w'.ownsRow W.heap.size 61 3 v' L.length (flatN L tv) ∧ Below W.heap.size W w' := by
  obtain ⟨ao, cap, rfl, hm, hcp, hc⟩ := h
  cases ao with
  | none =>
    have hx : L = [] := Classical.byContradiction fun hne => by obtain ⟨_, _, e, _⟩ := hc hne; cases e
    subst hx
    refine ⟨fun _ => nilS, fun j hj => absurd hj (Nat.not_lt_zero _), fun W _ => (clnN_nil _ _ W).mono ?_⟩
    rintro e w' ⟨rfl, rfl⟩
    exact ⟨_, rfl, World.ownsRow_nil _ _ _ _, Below.refl _ _⟩
  | some a =>
    have hx : ∀ j, j < L.length → ∃ tv, Sl w tv (L.getD j default).2.2 ∧ ∀ W, Below w.heap.size w W → W.cell? (a.add (j * 3)) = some (.string (L.getD j default).1) ∧ W.cell? (a.add (j * 3 + 1)) = some (.int .i64 (L.getD j default).2.1) ∧ W.cell? (a.add (j * 3 + 2)) = some tv := fun j hj => by
      obtain ⟨b, off, e, hlt, hcell⟩ := hc (by intro e; rw [e] at hj; simp at hj)
      simp only [Option.some.injEq] at e
      subst e
      obtain ⟨tv, c1, c2, c3, hs⟩ := hcell j hj
      have eg : L[j] = L.getD j default := by simp [List.getD, hj]
      rw [eg] at c1 c2 hs
      exact ⟨tv, hs, fun W hW => ⟨by rw [addr_add]; exact (hW.cell (p := ⟨b, off + j * 3, none⟩) hlt).trans c1, by rw [addr_add]; exact (hW.cell (p := ⟨b, off + j * 3 + 1, none⟩) hlt).trans c2, by rw [addr_add]; exact (hW.cell (p := ⟨b, off + j * 3 + 1 + 1, none⟩) hlt).trans c3⟩⟩
    obtain ⟨tv, htv⟩ := choose_ltV hx
    refine ⟨tv, fun j hj => (htv j hj).1, fun W hW => clnN_at a L.length cap (flatN L tv) W (flatN_length L tv) hb (fun i u hu => ?_) (flatN_mem (fun j hj => sl_form1 (htv j hj).1))⟩
    have hi : i < L.length * 3 := by
      rcases Nat.lt_or_ge i (L.length * 3) with h | h
      · exact h
      · rw [List.getElem?_eq_none (by rw [flatN_length]; exact h)] at hu; cases hu
    obtain ⟨j, r, hj, hr, rfl⟩ : ∃ j r, j < L.length ∧ r < 3 ∧ i = j * 3 + r := ⟨i / 3, i % 3, by omega, Nat.mod_lt _ (by decide), by omega⟩
    obtain ⟨g0, g1, g2⟩ := flatN_get (qv := tv) hj
    obtain ⟨c0, c1, c2⟩ := (htv j hj).2 W hW
    match r, hr with
    | 0, _ => rw [Nat.add_zero] at hu ⊢; rw [g0] at hu; cases hu; exact c0
    | 1, _ => rw [g1] at hu; cases hu; exact c1
    | 2, _ => rw [g2] at hu; cases hu; exact c2
theorem row_slice {W : World} {B : Nat} {e : TypeId} {size n : Nat} {v : Value} {xs : List Value} (h : W.ownsRow B e size v n xs) : ∃ ao cap, v = .slice ao n cap := by
  rcases row_form h with ⟨rfl, rfl⟩ | ⟨g, cap, rfl, _⟩
  · exact ⟨none, 0, rfl⟩
  · exact ⟨_, cap, rfl⟩
end Go.Proofs.Ytehleeibgkpjmac
/- Writing, wiping, punching: what comes is right, and how it is read. Plain lists. -/
namespace Go.Proofs.Ytehleeibgkpjmac
open Go.RowKit Go.Shelf
set_option maxRecDepth 20000

def EntOK (L : List SlotD) (e : Int) : Prop := e = 0 ∨ e = -1 ∨ ∃ j : Nat, e = j ∧ 1 ≤ j ∧ j < L.length ∧ kd L j = 1
/-- The image M is m with the entries es in its k-th table. -/
structure Laid (m M : ImgD) (k : Nat) (es : List Int) : Prop where
  shape : shapeE M = 0
  guest : M.guest = m.guest
  snaps : M.snaps = m.snaps
  rlen : M.root.length = m.root.length
  look : ∀ q, q / 4 < m.root.length → lookV M M.root q = if q / 4 = k then es.getD (q % 4) 0 else lookV m m.root q
  past : ∀ s ∈ m.snaps, ∀ q, q / 4 < s.2.2.length → lookV M s.2.2 q = lookV m s.2.2 q
  page : ∀ e, EntOK m.slots e → pageV M.slots e = pageV m.slots e

theorem laid_ext {m : ImgD} {k t : Nat} {L' : List SlotD} {es rf : List Int} (h : shapeE m = 0) (hk : k < m.root.length) (hx : Ext m.slots L' t es) (hl : Lone m k t) (hrf : rf.length = L'.length) (hz : TailZ m k es) : Laid m (tabSet m k t L' rf) k es := by
  have hs := (shapeE_zero h).2.1
  have hr := root_ok h
  refine ⟨tabSet_shape h hk hx hl hrf hz, rfl, rfl, by show (m.root.set k _).length = _; rw [List.length_set], fun q hq => look_tabSet hx hs hl hr.2 q hq, fun s hsm q hq => ?_, fun e he => page_ext hx he⟩
  have hf := List.all_eq_true.1 (shapeE_zero h).2.2.2.2.2.2 s (List.mem_cons_of_mem _ hsm)
  unfold rootFit at hf
  simp only [Bool.and_eq_true] at hf
  exact look_snap hx hs hf.2.1 (hl.snap s hsm) q hq

/-- Another Guest, another Root. -/
theorem reroot_shape {m : ImgD} (h : shapeE m = 0) {g : Int} {r : List Int} (hg : guestOK g = true) (hf : rootFit m.slots g r = true) : shapeE { m with guest := g, root := r } = 0 := by
  obtain ⟨z1, z2, z3, z4, z5, z6, z7⟩ := shapeE_zero h
  unfold rootsOf at z5 z7
  rw [List.all_cons] at z5 z7
  simp only [Bool.and_eq_true] at z5 z7
  have hgall : (rootsOf { m with guest := g, root := r }).all (fun s => guestOK s.2.1) = true := by
    show (((⟨#[]⟩, g, r) : SnapD) :: m.snaps).all _ = true
    rw [List.all_cons, z5.2, Bool.and_true]; exact hg
  have hall : (rootsOf { m with guest := g, root := r }).all (fun s => rootFit m.slots s.2.1 s.2.2) = true := by
    show (((⟨#[]⟩, g, r) : SnapD) :: m.snaps).all _ = true
    rw [List.all_cons, z7.2, Bool.and_true]; exact hf
  unfold shapeE
  rw [if_neg (by show ¬ 3 < m.snaps.length; omega), if_neg (by show ¬ slotsE m.slots ≠ 0; simpa using z2), if_neg, if_neg (by rw [hgall]; decide), if_neg (by show ¬ tabFit m.slots = false; rw [z6]; decide), if_neg (by show ¬ ((rootsOf { m with guest := g, root := r }).all fun s => rootFit m.slots s.2.1 s.2.2) = false; rw [hall]; decide)]
  rintro (e | e)
  · exact e z3
  · have : namesOK m.snaps = false := e
    rw [z4] at this; cases this
theorem rootFit_root {m : ImgD} (h : shapeE m = 0) : rootFit m.slots m.guest m.root = true := List.all_eq_true.1 (shapeE_zero h).2.2.2.2.2.2 (⟨#[]⟩, m.guest, m.root) List.mem_cons_self
theorem guestOK_guest {m : ImgD} (h : shapeE m = 0) : guestOK m.guest = true := List.all_eq_true.1 (shapeE_zero h).2.2.2.2.1 (⟨#[]⟩, m.guest, m.root) List.mem_cons_self
theorem rootFit_zero {L : List SlotD} {g : Int} {r : List Int} (h : rootFit L g r = true) (k : Nat) : rootFit L g (r.set k 0) = true := by
  unfold rootFit at h ⊢
  simp only [Bool.and_eq_true, decide_eq_true_eq] at h ⊢
  refine ⟨by rw [List.length_set]; exact h.1, ?_, ?_⟩
  · rw [List.all_eq_true]
    intro x hx
    rcases mem_set hx with hm | hm
    · exact List.all_eq_true.1 h.2.1 x hm
    · rw [hm]; rfl
  · have hl := h.2.2
    unfold lastFit at hl ⊢
    rw [List.length_set, getD_setI]
    by_cases e : k = r.length - 1 ∧ r.length - 1 < r.length
    · rw [if_pos e]; simp
    · rw [if_neg e]; exact hl
theorem laid_bare {m : ImgD} {k : Nat} {es : List Int} (h : shapeE m = 0) (hb : bareL es = true) : Laid m { m with root := m.root.set k 0 } k es := by
  refine ⟨reroot_shape h (guestOK_guest h) (rootFit_zero (rootFit_root h) k), rfl, rfl, List.length_set, fun q hq => ?_, fun _ _ _ _ => rfl, fun _ _ => rfl⟩
  have hg := getD_setI m.root k (q / 4) 0
  by_cases e : q / 4 = k
  · rw [if_pos (⟨e.symm, hq⟩ : k = q / 4 ∧ q / 4 < m.root.length)] at hg
    rw [if_pos e]
    unfold lookV
    show (if (m.root.set k 0).getD (q / 4) 0 = 0 then 0 else _) = _
    rw [hg, if_pos rfl]
    unfold bareL at hb
    by_cases hi : q % 4 < es.length
    · have := List.all_eq_true.1 hb _ (List.getElem_mem hi)
      have e0 : es[q % 4] = 0 := by simpa using this
      rw [getD_at hi, e0]
    · simp [List.getD, hi]
  · rw [if_neg (fun x => e x.1.symm)] at hg
    rw [if_neg e]
    unfold lookV
    show (if (m.root.set k 0).getD (q / 4) 0 = 0 then 0 else (tabOf m.slots ((m.root.set k 0).getD (q / 4) 0)).getD (q % 4) 0) = _
    rw [hg]

/-- tabled. -/
theorem tabled_laid {m : ImgD} (hC : checkE m = 0) {k : Nat} (hk : k < m.root.length) {es : List Int} (hes : ckE es = 0) (hents : ∀ e ∈ es, tabE m.slots e = true) (hz : TailZ m k es) {M : ImgD} (hM : tabledD m k es = some M) : Laid m M k es ∧ M.slots.length ≤ m.slots.length + 1 := by
  obtain ⟨h, _, _⟩ := checkE_zero hC
  unfold tabledD at hM
  split at hM
  · rename_i hb
    simp at hM
    subst hM
    exact ⟨laid_bare h hb, Nat.le_succ _⟩
  · rename_i hb
    have hb : bareL es = false := by simpa using hb
    split at hM
    · cases hM
    · rename_i h40
      simp at hM
      subst hM
      obtain ⟨t1, tl, t40, tk, hl⟩ := tabN_spec hC hk h40
      refine ⟨laid_ext h hk (ext_lay (shapeE_zero h).2.1 tl t1 t40 tk hes hb hents) hl (by simp [rfZ, tabL]) hz, ?_⟩
      show (layS _ _ _).length ≤ _
      rw [layS_length]; split <;> omega

/-! ### How it is read -/
theorem snap_fit {m : ImgD} (h : shapeE m = 0) {s : SnapD} (hs : s ∈ rootsOf m) : 0 ≤ s.2.1 ∧ s.2.1 ≤ 16 ∧ (s.2.2.length : Int) = (s.2.1 + 3) / 4 ∧ s.2.2.all (rootE m.slots) = true := by
  have hf := List.all_eq_true.1 (shapeE_zero h).2.2.2.2.2.2 s hs
  have hg := List.all_eq_true.1 (shapeE_zero h).2.2.2.2.1 s hs
  unfold rootFit at hf
  unfold guestOK at hg
  simp only [Bool.and_eq_true, decide_eq_true_eq] at hf hg
  exact ⟨hg.1, hg.2, hf.1, hf.2.1⟩
theorem Laid.allV {m M : ImgD} {k : Nat} {es : List Int} (hL : Laid m M k es) : Go.Proofs.Ytehleeibgkpjmac.allV (countedD M) = allP M M.root m.guest.toNat := by
  unfold Go.Proofs.Ytehleeibgkpjmac.allV
  rw [if_pos (counted_right hL.shape)]
  have := allP_counted hL.shape (s := (⟨#[]⟩, M.guest, M.root)) List.mem_cons_self
  show allP (countedD M) M.root M.guest.toNat = _
  rw [this, hL.guest]
/-- One entry is put: one page is another, all others are as they were. -/
theorem Laid.put {m M : ImgD} {n : Nat} {x : Int} (hC : checkE m = 0) (hn : (n : Int) < m.guest) (hL : Laid m M (n / 4) ((tableO m (n / 4)).set (n % 4) x)) : Go.Proofs.Ytehleeibgkpjmac.allV (countedD M) = (Go.Proofs.Ytehleeibgkpjmac.allV m).set n (pageV M.slots x) := by
  have h := checkE_shape hC
  have hr := root_ok h
  have hg := guest_ok h
  rw [hL.allV]
  unfold Go.Proofs.Ytehleeibgkpjmac.allV
  rw [if_pos hC]
  unfold allP
  apply List.ext_getElem
  · simp
  · intro q h1 h2
    have hq : q < m.guest.toNat := by simpa using h1
    rw [List.getElem_set, List.getElem_map, List.getElem_range]
    rw [hL.look q (by omega)]
    have hlen : (tableO m (n / 4)).length = 4 := ckE_len (tableO_ok h (by omega)).1
    by_cases e : n = q
    · subst e
      rw [if_pos rfl, if_pos rfl, set_get (by rw [hlen]; omega)]
    · rw [if_neg e]
      simp only [List.getElem_map, List.getElem_range]
      by_cases e4 : q / 4 = n / 4
      · rw [if_pos e4, getD_setI, if_neg (fun z => e (by omega)), ← e4, ← lookV_tableO]
        exact hL.page _ (lookV_ent h hr.2 q (by omega))
      · rw [if_neg e4]
        exact hL.page _ (lookV_ent h hr.2 q (by omega))

/-! ### Write -/
theorem write_laid {m : ImgD} (hC : checkE m = 0) {n : Nat} (hn : (n : Int) < m.guest) (h40 : tabN m (n / 4) ≠ 40) (hd40 : wD m n ≠ 40) {page : ByteArray} (hp : page.size = 4) :
    Laid m (tabSet m (n / 4) (tabN m (n / 4)) (wL m n page) (rfZ (wL m n page))) (n / 4) (wEs m n) ∧ pageV (wL m n page) (wD m n) = page ∧ (wL m n page).length ≤ m.slots.length + 2 := by
  obtain ⟨hx, hl, hz, hk, d1, d40, hkd, hdt⟩ := write_ext hC hn h40 hd40 hp
  refine ⟨laid_ext (checkE_shape hC) hk hx hl (by simp [rfZ]) hz, ?_, ?_⟩
  · unfold pageV
    rw [if_neg (by omega), Int.toNat_natCast]
    have hdl : wD m n ≤ (tabL m (n / 4) (wEs m n)).length := by
      obtain ⟨t1, tl, t40, tk, _⟩ := tabN_spec hC hk h40
      have hle := layS_le (s := ((2, ⟨#[]⟩, tableO m (n / 4)) : SlotD)) tl (slotsE_parts (shapeE_zero (checkE_shape hC)).2.1).2 t40
      have := (grabN_spec (L := tabL m (n / 4) (tableO m (n / 4))) (by unfold tabL; omega)).2.1
      unfold tabL at this ⊢
      rw [layS_length] at this ⊢
      exact this
    unfold wL
    rw [layS_get hdl, if_pos rfl]
  · unfold wL tabL
    rw [layS_length, layS_length]
    split <;> split <;> omega

/-! ### In place -/
theorem kd_setP {L : List SlotD} {e : Nat} {page : ByteArray} (hk : kd L e = 1) (j : Nat) : kd (L.set e (1, page, [])) j = kd L j := by
  by_cases h : e = j
  · subst h
    have := kd_lt (L := L) (j := e) (by rw [hk]; decide)
    rw [hk]; unfold kd; simp [List.getD, this]
  · unfold kd; simp [List.getD, h]
theorem tab_page {L : List SlotD} (hs : slotsE L = 0) {e : Nat} (hk : kd L e = 1) : (L.getD e default).2.2 = [] := by
  have he := kd_lt (L := L) (j := e) (by rw [hk]; decide)
  have ok := slotsE_all hs he
  rw [getElem_getD he] at ok
  unfold kd at hk
  unfold okD at ok
  rw [hk, slotOK_1] at ok
  simpa using (of_decide_eq_true ok).2
theorem tab_setP {L : List SlotD} (hs : slotsE L = 0) {e : Nat} {page : ByteArray} (hk : kd L e = 1) (x : Int) : tabOf (L.set e (1, page, [])) x = tabOf L x := by
  unfold tabOf
  by_cases h : e = x.toNat
  · have := kd_lt (L := L) (j := e) (by rw [hk]; decide)
    rw [← h, tab_page hs hk]; simp [List.getD, this]
  · simp [List.getD, h]
/-- Images that part in pages alone. -/
theorem setP_same {m : ImgD} {e : Nat} {page : ByteArray} (hC : checkE m = 0) (hk : kd m.slots e = 1) (hp : page.size = 4) : checkE { m with slots := m.slots.set e (1, page, []) } = 0 ∧ ∀ r q, lookV { m with slots := m.slots.set e (1, page, []) } r q = lookV m r q := by
  obtain ⟨h, hcnt, hfree⟩ := checkE_zero hC
  obtain ⟨z1, z2, z3, z4, z5, z6, z7⟩ := shapeE_zero h
  have he := kd_lt (L := m.slots) (j := e) (by rw [hk]; decide)
  have hkd := fun j => kd_setP (page := page) hk j
  have htab := fun x => tab_setP (page := page) z2 hk x
  have hisKd : ∀ x kind, isKd (m.slots.set e (1, page, [])) x kind = isKd m.slots x kind := fun x kind => by
    have := hkd x.toNat
    unfold kd at this
    unfold isKd
    rw [List.length_set, this]
  have htE : ∀ x, tabE (m.slots.set e (1, page, [])) x = tabE m.slots x := fun x => by unfold tabE; rw [hisKd]
  have hrE : ∀ x, rootE (m.slots.set e (1, page, [])) x = rootE m.slots x := fun x => by unfold rootE; rw [hisKd]
  have hs : slotsE (m.slots.set e (1, page, [])) = 0 := by
    refine slotsE_ok (by rw [List.length_set]; exact (slotsE_parts z2).1) (by rw [List.length_set]; exact (slotsE_parts z2).2) (fun j hj => ?_) ?_
    · rw [List.length_set] at hj
      rw [List.getElem_set]
      split
      · exact ok_page hp
      · exact slotsE_all z2 hj
    · rw [kd_getElem (by rw [List.length_set]; exact (slotsE_parts z2).1), hkd]; exact slot0 z2
  have hfit : tabFit (m.slots.set e (1, page, [])) = true := by
    unfold tabFit
    rw [List.all_eq_true]
    intro s hsm
    obtain ⟨j, hj, rfl⟩ := List.getElem_of_mem hsm
    rw [List.length_set] at hj
    rw [List.all_eq_true]
    intro x hx
    rw [htE]
    have e1 := htab (j : Int)
    unfold tabOf at e1
    rw [Int.toNat_natCast] at e1
    rw [getElem_getD (by rw [List.length_set]; exact hj), e1] at hx
    exact List.all_eq_true.1 (tab_all z6 (j : Int)) x (by unfold tabOf; rw [Int.toNat_natCast]; exact hx)
  have hrf : ∀ g r, rootFit (m.slots.set e (1, page, [])) g r = rootFit m.slots g r := fun g r => by
    unfold rootFit lastFit
    rw [show rootE (m.slots.set e (1, page, [])) = rootE m.slots from funext hrE]
    simp only [htab]
  have hsh : shapeE { m with slots := m.slots.set e (1, page, []) } = 0 := by
    unfold shapeE
    rw [if_neg (by show ¬ 3 < m.snaps.length; omega), if_neg (by show ¬ slotsE _ ≠ 0; simpa using hs), if_neg, if_neg (by show ¬ (rootsOf m).all _ = false; rw [z5]; decide), if_neg (by show ¬ tabFit _ = false; rw [hfit]; decide), if_neg]
    · show ¬ ((rootsOf m).all fun s => rootFit (m.slots.set e (1, page, [])) s.2.1 s.2.2) = false
      simp only [hrf]
      rw [z7]; decide
    · rintro (x | x)
      · apply x; show m.refs.length = (m.slots.set e _).length; rw [List.length_set]; exact z3
      · have : namesOK m.snaps = false := x
        rw [z4] at this; cases this
  have hcl : cntL { m with slots := m.slots.set e (1, page, []) } = cntL m := by
    rw [rl_of (cntL_length _), rl_of (cntL_length m)]
    show rl (m.slots.set e _).length _ = _
    rw [List.length_set]
    refine rl_congr fun j hj => ?_
    rw [cntL_get hsh j (by show j < (m.slots.set e _).length; rw [List.length_set]; exact hj), cntL_get h j hj]
    show cntI (m.slots.set e (1, page, [])) (flatR m) j = cntI m.slots (flatR m) j
    unfold cntI
    have : sumT (m.slots.set e (1, page, [])) (flatR m) j = sumT m.slots (flatR m) j := by
      unfold sumT
      rw [List.length_set]
      refine sum_same _ fun q _ => ?_
      unfold toldT
      rw [hkd, htab]
    rw [this]
  refine ⟨?_, fun r q => ?_⟩
  · unfold checkE
    rw [if_neg (by simpa using hsh), hcl]
    show (if cntL m ≠ m.refs then (9 : Int) else _) = 0
    rw [if_neg (by rw [hcnt]; simp), if_pos]
    rw [List.all_eq_true]
    intro j hj
    have hj : j < m.slots.length := by
      have : j < (m.slots.set e (1, page, [])).length := by simpa using hj
      rwa [List.length_set] at this
    have := hfree j hj
    unfold freeAt at this ⊢
    rw [hcl]
    have e1 := hkd j
    unfold kd at e1
    show (((m.slots.set e (1, page, [])).getD j default).1 == 0) == _
    rw [e1]; exact this
  · unfold lookV
    show (if r.getD (q / 4) 0 = 0 then (0 : Int) else (tabOf (m.slots.set e (1, page, [])) (r.getD (q / 4) 0)).getD (q % 4) 0) = _
    rw [htab]
end Go.Proofs.Ytehleeibgkpjmac
