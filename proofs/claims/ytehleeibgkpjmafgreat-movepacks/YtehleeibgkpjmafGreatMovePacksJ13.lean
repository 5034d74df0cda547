/- Texts joined: OxI, OwC, OxL, OxC, SlotRef, TbdI, TbdJ, OxT, PutI, WoA, RoA, PkO, PkQ1. -/
import Derived.Test.YtehleeibgkpjmafGreatMovePacksJ6
import Derived.Test.YtehleeibgkpjmafGreatMovePacksJ12
import Derived.Deep.RegionHeld
import Derived.Test.YtehleeibgkpjmafGreatMovePacksJ5
import Derived.Test.YtehleeibgkpjmafGreatMovePacksJ3
import Derived.Test.YtehleeibgkpjmafGreatMovePacksJ11
import Derived.Test.YtehleeibgkpjmafGreatMovePacksJ7
set_option linter.unusedVariables false
set_option linter.unusedSimpArgs false
/- An image of one's own, as the document makes it: a table that has no entry may be whatever slice there was; all other lists lie in rows of their own, in memory that came since B. -/
namespace Go.Proofs.YtehleeibgkpjmafGreat
open Go.RowKit Go.Shelf
set_option maxRecDepth 20000
set_option linter.unusedVariables false

abbrev tbl (m : ImgD) (j : Nat) : List Int := (m.slots.getD j default).2.2
def LiveX (m : ImgD) (a : Nm) : Prop := (a.kind < 4 ∧ a.ix = 0) ∨ (a.kind = 4 ∧ a.ix < m.slots.length ∧ tbl m a.ix ≠ []) ∨ (a.kind = 5 ∧ a.ix < m.snaps.length)
theorem LiveX.cases {m : ImgD} {a : Nm} (h : LiveX m a) : a = .root ∨ a = .slots ∨ a = .refs ∨ a = .snaps ∨ (∃ j, a = .tab j ∧ j < m.slots.length ∧ tbl m j ≠ []) ∨ ∃ j, a = .sr j ∧ j < m.snaps.length := by
  obtain ⟨k, j⟩ := a
  rcases h with ⟨h1, h2⟩ | ⟨h1, h2⟩ | ⟨h1, h2⟩
  · dsimp only at h1 h2
    subst h2
    match k, h1 with
    | 0, _ => exact .inl rfl
    | 1, _ => exact .inr (.inl rfl)
    | 2, _ => exact .inr (.inr (.inl rfl))
    | 3, _ => exact .inr (.inr (.inr (.inl rfl)))
  · dsimp only at h1 h2; subst h1; exact .inr (.inr (.inr (.inr (.inl ⟨j, rfl, h2⟩))))
  · dsimp only at h1 h2; subst h1; exact .inr (.inr (.inr (.inr (.inr ⟨j, rfl, h2⟩))))
theorem LiveX.root (m : ImgD) : LiveX m .root := .inl ⟨by decide, rfl⟩
theorem LiveX.slots (m : ImgD) : LiveX m .slots := .inl ⟨by decide, rfl⟩
theorem LiveX.refs (m : ImgD) : LiveX m .refs := .inl ⟨by decide, rfl⟩
theorem LiveX.snaps (m : ImgD) : LiveX m .snaps := .inl ⟨by decide, rfl⟩
theorem LiveX.tab {m : ImgD} {j : Nat} (h : j < m.slots.length ∧ tbl m j ≠ []) : LiveX m (.tab j) := .inr (.inl ⟨rfl, h⟩)
theorem LiveX.sr {m : ImgD} {j : Nat} (h : j < m.snaps.length) : LiveX m (.sr j) := .inr (.inr ⟨rfl, h⟩)
theorem liveX_iff {m m' : ImgD} (h1 : m'.slots.length = m.slots.length) (h2 : m'.snaps.length = m.snaps.length) (h3 : ∀ j, tbl m' j = [] ↔ tbl m j = []) (b : Nm) : LiveX m' b ↔ LiveX m b := by
  unfold LiveX
  rw [h1, h2, ne_eq, ne_eq, h3]
theorem LiveX.live {m : ImgD} {a : Nm} (h : LiveX m a) : Live m a := by
  rcases h with h | h | h
  · exact .inl h
  · exact .inr (.inl ⟨h.1, h.2.1⟩)
  · exact .inr (.inr h)
structure OX (W : World) (B : Nat) (val : Nm → Value) (m : ImgD) : Prop where
  row : ∀ a, LiveX m a → W.ownsRow B (rowT a) (rowS a) (val a) (rowN m a) (rowV m val a)
  apart : ∀ a b, LiveX m a → LiveX m b → a ≠ b → ∀ g, (val a).ownBlock = some g → (val b).ownBlock ≠ some g
  loose : ∀ j, j < m.slots.length → tbl m j = [] → ∃ ao cap, val (.tab j) = .slice ao 0 cap
theorem OX.keep {W W' : World} {B : Nat} {val : Nm → Value} {m : ImgD} (h : OX W B val m) (hk : ∀ g, B ≤ g → g < W.heap.size → W'.heap[g]? = W.heap[g]?) : OX W' B val m := by
  refine ⟨fun a ha => ?_, h.apart, h.loose⟩
  have hr := h.row a ha
  refine ⟨hr.1, ?_⟩
  rcases hr.2 with hn | ⟨g, cap, cur, hv, hb, hg, rest⟩
  · exact .inl hn
  · exact .inr ⟨g, cap, cur, hv, hb, (hk g hb (Array.getElem?_eq_some_iff.1 hg).1).trans hg, rest⟩
theorem OX.below {W W' : World} {B : Nat} {val : Nm → Value} {m : ImgD} (h : OX W B val m) (hb : Below W.heap.size W W') : OX W' B val m := h.keep fun g _ hg => hb.block g hg
theorem OX.alloc {W : World} {B : Nat} {val : Nm → Value} {m : ImgD} (h : OX W B val m) (o : Obj) : OX (W.alloc o) B val m := h.below ((Below.refl _ _).alloc (Nat.le_refl _) o)
theorem OX.drew {W : World} {B : Nat} {val : Nm → Value} {m : ImgD} (h : OX W B val m) : OX W.drew B val m := ⟨fun a ha => (h.row a ha).drew, h.apart, h.loose⟩

theorem OX.mono {W : World} {B B' : Nat} {val : Nm → Value} {m : ImgD} (h : OX W B val m) (hb : B' ≤ B) : OX W B' val m := by
  refine ⟨fun a ha => ?_, h.apart, h.loose⟩
  have hr := h.row a ha
  refine ⟨hr.1, ?_⟩
  rcases hr.2 with hn | ⟨g, cap, cur, hv, hg, rest⟩
  · exact .inl hn
  · exact .inr ⟨g, cap, cur, hv, Nat.le_trans hb hg, rest⟩
theorem OX.tabSl {W : World} {B : Nat} {val : Nm → Value} {m : ImgD} (h : OX W B val m) {j : Nat} (hj : j < m.slots.length) : Sl W (val (.tab j)) (tbl m j) := by
  by_cases e : tbl m j = []
  · obtain ⟨ao, cap, ev⟩ := h.loose j hj e
    rw [ev, e]
    exact ⟨ao, cap, rfl, Nat.zero_le _, Nat.zero_le _, fun x => absurd rfl x⟩
  · exact row_sl (h.row (.tab j) (LiveX.tab ⟨hj, e⟩))
theorem OX.img {W : World} {B : Nat} {val : Nm → Value} {m : ImgD} (h : OX W B val m) : Img W (imgV m.guest val) m :=
  ⟨_, _, _, _, rfl, row_sl (h.row .root (LiveX.root m)), row_slots (h.row .slots (LiveX.slots m)) (fun j hj => h.tabSl hj), row_sl (h.row .refs (LiveX.refs m)), row_snaps (h.row .snaps (LiveX.snaps m)) (fun j hj => row_sl (h.row (.sr j) (LiveX.sr hj)))⟩
theorem OX.store {W : World} {B : Nat} {val : Nm → Value} {m m' : ImgD} (h : OX W B val m) {a : Nm} (ha : LiveX m a) {g n cap : Nat} (hv : val a = .slice (some ⟨g, 0, none⟩) n cap) (i : Nat) (u : Value)
    (hlive : ∀ b, LiveX m' b ↔ LiveX m b) (hn : ∀ b, LiveX m b → rowN m' b = rowN m b) (hsame : ∀ b, LiveX m b → b ≠ a → rowV m' val b = rowV m val b) (hset : rowV m' val a = (rowV m val a).set i u) (hloose : ∀ j, j < m'.slots.length → tbl m' j = [] → j < m.slots.length ∧ tbl m j = []) : OX (W.setCell ⟨g, i, none⟩ u) B val m' := by
  refine ⟨fun b hb => ?_, fun b c hb hc => h.apart b c ((hlive b).1 hb) ((hlive c).1 hc), fun j hj e => h.loose j (hloose j hj e).1 (hloose j hj e).2⟩
  have hb := (hlive b).1 hb
  rw [hn b hb]
  by_cases e : b = a
  · subst e
    have hr := h.row b hb
    rw [hset]
    have hnn : n = rowN m b := by
      rcases row_form hr with ⟨e, _⟩ | ⟨g', cap', e, _⟩
      · rw [hv] at e; simp at e
      · rw [hv] at e; simp at e; exact e.2.1
    subst hnn
    rw [hv] at hr ⊢
    exact (hr.stored i u).1
  · rw [hsame b hb e]
    exact ownsRow_setCell_other (h.row b hb) (h.apart a b ha hb (fun x => e x.symm) g (by rw [hv]; rfl)) u
theorem OX.setRoot {W : World} {B : Nat} {val : Nm → Value} {m : ImgD} (h : OX W B val m) {g n cap : Nat} (hv : val .root = .slice (some ⟨g, 0, none⟩) n cap) (i : Nat) (x : Int) : OX (W.setCell ⟨g, i, none⟩ (.int .i64 x)) B val { m with root := m.root.set i x } := by
  refine h.store (a := .root) (LiveX.root m) hv i _ (liveX_iff rfl rfl fun _ => Iff.rfl) (fun b hb => ?_) (fun b hb hne => ?_) (ints_set _ _ _) (fun _ hj e => ⟨hj, e⟩)
  · rcases hb.cases with rfl | rfl | rfl | rfl | ⟨j, rfl, hj⟩ | ⟨j, rfl, hj⟩ <;> first | rfl | exact List.length_set
  · rcases hb.cases with rfl | rfl | rfl | rfl | ⟨j, rfl, hj⟩ | ⟨j, rfl, hj⟩ <;> first | rfl | exact absurd rfl hne
theorem OX.setRefs {W : World} {B : Nat} {val : Nm → Value} {m : ImgD} (h : OX W B val m) {g n cap : Nat} (hv : val .refs = .slice (some ⟨g, 0, none⟩) n cap) (i : Nat) (x : Int) : OX (W.setCell ⟨g, i, none⟩ (.int .i64 x)) B val { m with refs := m.refs.set i x } := by
  refine h.store (a := .refs) (LiveX.refs m) hv i _ (liveX_iff rfl rfl fun _ => Iff.rfl) (fun b hb => ?_) (fun b hb hne => ?_) (ints_set _ _ _) (fun _ hj e => ⟨hj, e⟩)
  · rcases hb.cases with rfl | rfl | rfl | rfl | ⟨j, rfl, hj⟩ | ⟨j, rfl, hj⟩ <;> first | rfl | exact List.length_set
  · rcases hb.cases with rfl | rfl | rfl | rfl | ⟨j, rfl, hj⟩ | ⟨j, rfl, hj⟩ <;> first | rfl | exact absurd rfl hne
def FarX (m : ImgD) (val : Nm → Value) (a : Nm) (v : Value) : Prop := ∀ b, LiveX m b → b ≠ a → ∀ g, v.ownBlock = some g → (val b).ownBlock ≠ some g
theorem farX_new {W : World} {B : Nat} {val : Nm → Value} {m : ImgD} (h : OX W B val m) (a : Nm) {v : Value} (hv : ∀ g, v.ownBlock = some g → W.heap.size ≤ g) : FarX m val a v := fun b hb _ g hg e => by
  have := ((h.row b hb).lt g e).2
  have := hv g hg
  omega
theorem farX_nil (m : ImgD) (val : Nm → Value) (a : Nm) (n cap : Nat) : FarX m val a (.slice none n cap) := fun _ _ _ g hg => by cases hg

theorem OX.swap {W : World} {B : Nat} {val : Nm → Value} {m m' : ImgD} (h : OX W B val m) {a : Nm} (ha : LiveX m a) {v : Value} (hv : W.ownsRow B (rowT a) (rowS a) v (rowN m' a) (rowV m' (upd val a v) a)) (hfar : FarX m val a v)
    (hlive : ∀ b, LiveX m' b ↔ LiveX m b) (hsame : ∀ b, LiveX m b → b ≠ a → rowN m' b = rowN m b ∧ rowV m' (upd val a v) b = rowV m val b) (hloose : ∀ j, j < m'.slots.length → tbl m' j = [] → a ≠ .tab j ∧ j < m.slots.length ∧ tbl m j = []) : OX W B (upd val a v) m' := by
  refine ⟨fun b hb => ?_, fun b c hb hc hne g hg => ?_, fun j hj e => by obtain ⟨h1, h2, h3⟩ := hloose j hj e; rw [upd_other val v (fun x => h1 x.symm)]; exact h.loose j h2 h3⟩
  · have hb := (hlive b).1 hb
    by_cases e : b = a
    · subst e; rw [upd_same]; exact hv
    · rw [upd_other val v e, (hsame b hb e).1, (hsame b hb e).2]; exact h.row b hb
  · have hb := (hlive b).1 hb
    have hc := (hlive c).1 hc
    by_cases e : b = a
    · subst e
      rw [upd_same] at hg
      rw [upd_other val v (fun x => hne x.symm)]
      exact hfar c hc (fun x => hne x.symm) g hg
    · rw [upd_other val v e] at hg
      by_cases e2 : c = a
      · subst e2
        rw [upd_same]
        exact fun x => hfar b hb e g x hg
      · rw [upd_other val v e2]; exact h.apart b c hb hc hne g hg
theorem OX.swapRoot {W : World} {B : Nat} {val : Nm → Value} {m : ImgD} (h : OX W B val m) {v : Value} {r : List Int} (hv : W.ownsRow B 3 1 v r.length (ints r)) (hfar : FarX m val .root v) (g : Int) : OX W B (upd val .root v) { m with guest := g, root := r } := by
  refine h.swap (a := .root) (LiveX.root m) hv hfar (liveX_iff rfl rfl fun _ => Iff.rfl) (fun b hb hne => ?_) (fun j hj e => ⟨(by intro x; cases x), hj, e⟩)
  rcases hb.cases with rfl | rfl | rfl | rfl | ⟨j, rfl, hj⟩ | ⟨j, rfl, hj⟩ <;> first | exact ⟨rfl, rfl⟩ | exact absurd rfl hne
theorem OX.swapRefs {W : World} {B : Nat} {val : Nm → Value} {m : ImgD} (h : OX W B val m) {v : Value} {r : List Int} (hv : W.ownsRow B 3 1 v r.length (ints r)) (hfar : FarX m val .refs v) : OX W B (upd val .refs v) { m with refs := r } := by
  refine h.swap (a := .refs) (LiveX.refs m) hv hfar (liveX_iff rfl rfl fun _ => Iff.rfl) (fun b hb hne => ?_) (fun j hj e => ⟨(by intro x; cases x), hj, e⟩)
  rcases hb.cases with rfl | rfl | rfl | rfl | ⟨j, rfl, hj⟩ | ⟨j, rfl, hj⟩ <;> first | exact ⟨rfl, rfl⟩ | exact absurd rfl hne

theorem OX.setSlot {W : World} {B : Nat} {val : Nm → Value} {m : ImgD} (h : OX W B val m) {t : Nat} (ht : t < m.slots.length) {g n cap : Nat} (hv : val .slots = .slice (some ⟨g, 0, none⟩) n cap) (k : Int) (d : ByteArray) (es : List Int) {ev : Value}
    (hev : W.ownsRow B 3 1 ev es.length (ints es)) (hfar : FarX m val (.tab t) ev) :
    OX (((W.setCell ⟨g, t * 3, none⟩ (.int .i64 k)).setCell ⟨g, t * 3 + 1, none⟩ (.string d)).setCell ⟨g, t * 3 + 2, none⟩ ev) B (upd val (.tab t) ev) { m with slots := m.slots.set t (k, d, es) } := by
  have hgd := fun j => getD_setR m.slots t j (k, d, es)
  have hnn : n = m.slots.length := by
    rcases row_form (h.row .slots (LiveX.slots m)) with ⟨e, _⟩ | ⟨g', cap', e, _⟩
    · rw [hv] at e; simp at e
    · rw [hv] at e; simp at e; exact e.2.1
  have hoth : ∀ {e : TypeId} {size : Nat} {v : Value} {q : Nat} {xs : List Value}, W.ownsRow B e size v q xs → v.ownBlock ≠ some g →
      (((W.setCell ⟨g, t * 3, none⟩ (.int .i64 k)).setCell ⟨g, t * 3 + 1, none⟩ (.string d)).setCell ⟨g, t * 3 + 2, none⟩ ev).ownsRow B e size v q xs := fun hr hne =>
    ownsRow_setCell_other (ownsRow_setCell_other (ownsRow_setCell_other hr hne _) hne _) hne _
  have hlive : ∀ b, LiveX { m with slots := m.slots.set t (k, d, es) } b → b ≠ .tab t → LiveX m b := fun b hb hne => by
    rcases hb.cases with rfl | rfl | rfl | rfl | ⟨j, rfl, hj⟩ | ⟨j, rfl, hj⟩
    · exact LiveX.root m
    · exact LiveX.slots m
    · exact LiveX.refs m
    · exact LiveX.snaps m
    · refine LiveX.tab ⟨?_, ?_⟩
      · have := hj.1
        rwa [show (m.slots.set t (k, d, es)).length = m.slots.length from List.length_set] at this
      · have := hj.2
        have e : tbl { m with slots := m.slots.set t (k, d, es) } j = tbl m j := by
          show ((m.slots.set t (k, d, es)).getD j default).2.2 = _
          rw [hgd, if_neg (fun x => hne (by rw [x.1]))]
        rwa [e] at this
    · exact LiveX.sr hj
  refine ⟨fun b hb => ?_, fun b c hb hc hne q hq => ?_, fun j hj e => ?_⟩
  · by_cases es0 : b = .slots
    · subst es0
      rw [upd_other val ev (by intro x; cases x)]
      have hr := h.row .slots (LiveX.slots m)
      have e1 : rowV { m with slots := m.slots.set t (k, d, es) } (upd val (.tab t) ev) .slots = (((rowV m val .slots).set (t * 3) (.int .i64 k)).set (t * 3 + 1) (.string d)).set (t * 3 + 2) ev := by
        have := flatS_set (L := m.slots) (tv := fun j => val (.tab j)) (tv' := fun j => upd val (.tab t) ev (.tab j)) (t := t) k d es (fun j hj => upd_other val ev (by intro x; apply hj; injection x))
        rw [upd_same] at this
        exact this
      have e2 : rowN { m with slots := m.slots.set t (k, d, es) } .slots = rowN m .slots := List.length_set
      rw [e1, e2]
      have hN : rowN m .slots = n := hnn.symm
      rw [hN] at hr ⊢
      rw [hv] at hr ⊢
      exact ((((hr.stored (t * 3) (.int .i64 k)).1).stored (t * 3 + 1) (.string d)).1.stored (t * 3 + 2) ev).1
    · by_cases et : b = .tab t
      · subst et
        rw [upd_same]
        have e1 : rowV { m with slots := m.slots.set t (k, d, es) } (upd val (.tab t) ev) (.tab t) = ints es := by
          show ints ((m.slots.set t (k, d, es)).getD t default).2.2 = _
          rw [hgd, if_pos ⟨rfl, ht⟩]
        have e2 : rowN { m with slots := m.slots.set t (k, d, es) } (.tab t) = es.length := by
          show ((m.slots.set t (k, d, es)).getD t default).2.2.length = _
          rw [hgd, if_pos ⟨rfl, ht⟩]
        rw [e1, e2]
        exact hoth hev (fun x => hfar .slots (LiveX.slots m) (by intro y; cases y) g x (by rw [hv]; rfl))
      · have hb' := hlive b hb et
        have hbg : (val b).ownBlock ≠ some g := h.apart .slots b (LiveX.slots m) hb' (fun x => es0 x.symm) g (by rw [hv]; rfl)
        rw [upd_other val ev et]
        have e1 : rowV { m with slots := m.slots.set t (k, d, es) } (upd val (.tab t) ev) b = rowV m val b ∧ rowN { m with slots := m.slots.set t (k, d, es) } b = rowN m b := by
          rcases hb'.cases with rfl | rfl | rfl | rfl | ⟨j, rfl, hj⟩ | ⟨j, rfl, hj⟩
          · exact ⟨rfl, rfl⟩
          · exact absurd rfl es0
          · exact ⟨rfl, rfl⟩
          · exact ⟨rfl, rfl⟩
          · have hjt : t ≠ j := fun x => et (by rw [x])
            constructor
            · show ints ((m.slots.set t (k, d, es)).getD j default).2.2 = ints (m.slots.getD j default).2.2
              rw [hgd, if_neg (fun x => hjt x.1)]
            · show ((m.slots.set t (k, d, es)).getD j default).2.2.length = (m.slots.getD j default).2.2.length
              rw [hgd, if_neg (fun x => hjt x.1)]
          · exact ⟨rfl, rfl⟩
        rw [e1.1, e1.2]
        exact hoth (h.row b hb') hbg
  · by_cases e : b = .tab t
    · subst e
      rw [upd_same] at hq
      rw [upd_other val ev (fun x => hne x.symm)]
      exact hfar c (hlive c hc (fun x => hne x.symm)) (fun x => hne x.symm) q hq
    · rw [upd_other val ev e] at hq
      have hb' := hlive b hb e
      by_cases e2 : c = .tab t
      · subst e2; rw [upd_same]; exact fun x => hfar b hb' e q x hq
      · rw [upd_other val ev e2]; exact h.apart b c hb' (hlive c hc e2) hne q hq
  · rw [show ({ m with slots := m.slots.set t (k, d, es) } : ImgD).slots.length = m.slots.length from List.length_set] at hj
    have e : ((m.slots.set t (k, d, es)).getD j default).2.2 = [] := e
    rw [hgd] at e
    by_cases ej : t = j
    · subst ej
      rw [if_pos ⟨rfl, hj⟩] at e
      have e : es = [] := e
      rw [upd_same]
      rw [e] at hev
      rcases row_form hev with ⟨x, _⟩ | ⟨g', cap', x, _⟩
      · exact ⟨_, _, x⟩
      · exact ⟨_, _, x⟩
    · rw [if_neg (fun x => ej x.1)] at e
      rw [upd_other val ev (by intro x; apply ej; injection x with _ x; exact x.symm)]
      exact h.loose j hj e
theorem OX.addSlot {W W' : World} {B : Nat} {val : Nm → Value} {m : ImgD} (h : OX W B val m) {k : Int} {d : ByteArray} {es : List Int} {ev sv : Value} (hev : es ≠ [] → W.ownsRow B 3 1 ev es.length (ints es)) (hev0 : es = [] → ∃ ao cap, ev = .slice ao 0 cap) (hfar : es ≠ [] → FarX m val (.tab m.slots.length) ev)
    (hgrow : W.grownBy W' (val .slots).ownBlock) (hrow : W'.ownsRow B 61 3 sv (m.slots.length + 1) (flatS m.slots (fun j => val (.tab j)) ++ [.int .i64 k, .string d, ev])) (hblk : sv.ownBlock = (val .slots).ownBlock ∨ ∀ g, sv.ownBlock = some g → W.heap.size ≤ g) :
    OX W' B (upd (upd val (.tab m.slots.length) ev) .slots sv) { m with slots := m.slots ++ [(k, d, es)] } := by
  have hval : ∀ b, b ≠ .slots → b ≠ .tab m.slots.length → upd (upd val (.tab m.slots.length) ev) .slots sv b = val b := fun b h1 h2 => by rw [upd_other _ sv h1, upd_other _ ev h2]
  have hvs : upd (upd val (.tab m.slots.length) ev) .slots sv .slots = sv := upd_same _ _ _
  have hvt : upd (upd val (.tab m.slots.length) ev) .slots sv (.tab m.slots.length) = ev := by rw [upd_other _ sv (by intro x; cases x), upd_same]
  have hcase : ∀ b, LiveX { m with slots := m.slots ++ [(k, d, es)] } b → b = .slots ∨ (b = .tab m.slots.length ∧ es ≠ []) ∨ (LiveX m b ∧ b ≠ .slots ∧ b ≠ .tab m.slots.length) := fun b hb => by
    rcases hb.cases with rfl | rfl | rfl | rfl | ⟨j, rfl, hj⟩ | ⟨j, rfl, hj⟩
    · exact .inr (.inr ⟨LiveX.root m, (by intro x; cases x), (by intro x; cases x)⟩)
    · exact .inl rfl
    · exact .inr (.inr ⟨LiveX.refs m, (by intro x; cases x), (by intro x; cases x)⟩)
    · exact .inr (.inr ⟨LiveX.snaps m, (by intro x; cases x), (by intro x; cases x)⟩)
    · obtain ⟨hj, hjn⟩ := hj
      by_cases e : j = m.slots.length
      · subst e
        refine .inr (.inl ⟨rfl, ?_⟩)
        have hjn : ((m.slots ++ [(k, d, es)]).getD m.slots.length default).2.2 ≠ [] := hjn
        simpa [List.getD] using hjn
      · have hjl : j < m.slots.length := by simp at hj; omega
        refine .inr (.inr ⟨LiveX.tab ⟨hjl, ?_⟩, (by intro x; cases x), ?_⟩)
        · have hjn : ((m.slots ++ [(k, d, es)]).getD j default).2.2 ≠ [] := hjn
          have e : (m.slots ++ [(k, d, es)]).getD j default = m.slots.getD j default := by simp [List.getD, List.getElem?_append, hjl]
          rwa [e] at hjn
        · intro x; apply e; injection x
    · exact .inr (.inr ⟨LiveX.sr hj, (by intro x; cases x), (by intro x; cases x)⟩)
  have hnot : ∀ b, LiveX m b → b ≠ .slots → (val b).ownBlock = none ∨ (val b).ownBlock ≠ (val .slots).ownBlock := fun b hb hne => by
    cases hg : (val b).ownBlock with
    | none => exact .inl rfl
    | some g => exact .inr (fun x => h.apart b .slots hb (LiveX.slots m) hne g hg x.symm)
  have hevn : es ≠ [] → ev.ownBlock = none ∨ ev.ownBlock ≠ (val .slots).ownBlock := fun hne => by
    cases hg : ev.ownBlock with
    | none => exact .inl rfl
    | some g => exact .inr (fun x => hfar hne .slots (LiveX.slots m) (by intro y; cases y) g hg x.symm)
  have hsvfar : ∀ b, LiveX m b → b ≠ .slots → ∀ g, sv.ownBlock = some g → (val b).ownBlock ≠ some g := fun b hb hne g hg hx => by
    rcases hblk with e | e
    · rw [e] at hg; exact h.apart b .slots hb (LiveX.slots m) hne g hx hg
    · have := ((h.row b hb).lt g hx).2
      have := e g hg
      omega
  have hsvev : es ≠ [] → ∀ g, sv.ownBlock = some g → ev.ownBlock ≠ some g := fun hne g hg hx => by
    rcases hblk with e | e
    · rw [e] at hg; exact hfar hne .slots (LiveX.slots m) (by intro y; cases y) g hx hg
    · have := ((hev hne).lt g hx).2
      have := e g hg
      omega
  refine ⟨fun b hb => ?_, fun b c hb hc hne q hq => ?_, fun j hj e => ?_⟩
  · rcases hcase b hb with rfl | ⟨rfl, hes⟩ | ⟨hb', h1, h2⟩
    · rw [hvs]
      have e1 : rowV { m with slots := m.slots ++ [(k, d, es)] } (upd (upd val (.tab m.slots.length) ev) .slots sv) .slots = flatS m.slots (fun j => val (.tab j)) ++ [.int .i64 k, .string d, ev] := by
        have := flatS_snoc m.slots (fun j => val (.tab j)) (fun j => upd (upd val (.tab m.slots.length) ev) .slots sv (.tab j)) (k, d, es) (fun j hj => hval _ (by intro x; cases x) (by intro x; injection x with _ x; omega))
        rw [hvt] at this
        exact this
      have e2 : rowN { m with slots := m.slots ++ [(k, d, es)] } .slots = m.slots.length + 1 := by show (m.slots ++ [(k, d, es)]).length = _; simp
      rw [e1, e2]; exact hrow
    · rw [hvt]
      have e0 : (m.slots ++ [(k, d, es)]).getD m.slots.length default = (k, d, es) := by simp [List.getD]
      have e1 : rowV { m with slots := m.slots ++ [(k, d, es)] } (upd (upd val (.tab m.slots.length) ev) .slots sv) (.tab m.slots.length) = ints es := by
        show ints ((m.slots ++ [(k, d, es)]).getD m.slots.length default).2.2 = _
        rw [e0]
      have e2 : rowN { m with slots := m.slots ++ [(k, d, es)] } (.tab m.slots.length) = es.length := by
        show ((m.slots ++ [(k, d, es)]).getD m.slots.length default).2.2.length = _
        rw [e0]
      rw [e1, e2]
      exact (hev hes).kept hgrow (hevn hes)
    · rw [hval b h1 h2]
      have e1 : rowV { m with slots := m.slots ++ [(k, d, es)] } (upd (upd val (.tab m.slots.length) ev) .slots sv) b = rowV m val b ∧ rowN { m with slots := m.slots ++ [(k, d, es)] } b = rowN m b := by
        rcases hb'.cases with rfl | rfl | rfl | rfl | ⟨j, rfl, hj⟩ | ⟨j, rfl, hj⟩
        · exact ⟨rfl, rfl⟩
        · exact absurd rfl h1
        · exact ⟨rfl, rfl⟩
        · refine ⟨?_, rfl⟩
          show flatN m.snaps _ = flatN m.snaps _
          unfold flatN
          refine congrArg List.flatten (List.map_congr_left fun j _ => ?_)
          dsimp only
          rw [hval (.sr j) (by intro x; cases x) (by intro x; cases x)]
        · have e : (m.slots ++ [(k, d, es)]).getD j default = m.slots.getD j default := by simp [List.getD, List.getElem?_append, hj.1]
          constructor
          · show ints ((m.slots ++ [(k, d, es)]).getD j default).2.2 = _
            rw [e]; rfl
          · show ((m.slots ++ [(k, d, es)]).getD j default).2.2.length = _
            rw [e]; rfl
        · exact ⟨rfl, rfl⟩
      rw [e1.1, e1.2]
      exact (h.row b hb').kept hgrow (hnot b hb' h1)
  · rcases hcase b hb with rfl | ⟨rfl, hes⟩ | ⟨hb', h1, h2⟩
    · rw [hvs] at hq
      rcases hcase c hc with rfl | ⟨rfl, hes2⟩ | ⟨hc', g1, g2⟩
      · exact absurd rfl hne
      · rw [hvt]; exact hsvev hes2 q hq
      · rw [hval c g1 g2]; exact hsvfar c hc' g1 q hq
    · rw [hvt] at hq
      rcases hcase c hc with rfl | ⟨rfl, hes2⟩ | ⟨hc', g1, g2⟩
      · rw [hvs]; exact fun x => hsvev hes q x hq
      · exact absurd rfl hne
      · rw [hval c g1 g2]; exact hfar hes c hc' g2 q hq
    · rw [hval b h1 h2] at hq
      rcases hcase c hc with rfl | ⟨rfl, hes2⟩ | ⟨hc', g1, g2⟩
      · rw [hvs]; exact fun x => hsvfar b hb' h1 q x hq
      · rw [hvt]; exact fun x => hfar hes2 b hb' h2 q x hq
      · rw [hval c g1 g2]; exact h.apart b c hb' hc' hne q hq
  · have hj : j < (m.slots ++ [(k, d, es)]).length := hj
    have e : ((m.slots ++ [(k, d, es)]).getD j default).2.2 = [] := e
    by_cases ej : j = m.slots.length
    · subst ej
      rw [hvt]
      exact hev0 (by simpa [List.getD] using e)
    · have hjl : j < m.slots.length := by simp at hj; omega
      have e2 : (m.slots ++ [(k, d, es)]).getD j default = m.slots.getD j default := by simp [List.getD, List.getElem?_append, hjl]
      rw [hval _ (by intro x; cases x) (by intro x; injection x with _ x; exact ej x)]
      exact h.loose j hjl (by rw [e2] at e; exact e)
theorem flatN_snoc (L : List SnapD) (tv tv' : Nat → Value) (s : SnapD) (htv : ∀ j, j < L.length → tv' j = tv j) : flatN (L ++ [s]) tv' = flatN L tv ++ [.string s.1, .int .i64 s.2.1, tv' L.length] := by
  unfold flatN
  rw [List.length_append, List.length_singleton, List.range_succ, List.flatMap_append]
  have e1 : (List.range L.length).flatMap (fun j => [Value.string ((L ++ [s]).getD j default).1, .int .i64 ((L ++ [s]).getD j default).2.1, tv' j]) = (List.range L.length).flatMap (fun j => [Value.string (L.getD j default).1, .int .i64 (L.getD j default).2.1, tv j]) := by
    refine congrArg List.flatten (List.map_congr_left fun j hj => ?_)
    have hj := List.mem_range.1 hj
    have e : (L ++ [s]).getD j default = L.getD j default := by simp [List.getD, List.getElem?_append, hj]
    rw [e, htv j hj]
  rw [e1]
  simp
theorem OX.addSnap {W W' : World} {B : Nat} {val : Nm → Value} {m : ImgD} (h : OX W B val m) {k : Int} {d : ByteArray} {es : List Int} {ev sv : Value} (hev : W.ownsRow B 3 1 ev es.length (ints es)) (hfar : FarX m val (.sr m.snaps.length) ev)
    (hgrow : W.grownBy W' (val .snaps).ownBlock) (hrow : W'.ownsRow B 64 3 sv (m.snaps.length + 1) (flatN m.snaps (fun j => val (.sr j)) ++ [.string d, .int .i64 k, ev])) (hblk : sv.ownBlock = (val .snaps).ownBlock ∨ ∀ g, sv.ownBlock = some g → W.heap.size ≤ g) :
    OX W' B (upd (upd val (.sr m.snaps.length) ev) .snaps sv) { m with snaps := m.snaps ++ [(d, k, es)] } := by
  have hval : ∀ b, b ≠ .snaps → b ≠ .sr m.snaps.length → upd (upd val (.sr m.snaps.length) ev) .snaps sv b = val b := fun b h1 h2 => by rw [upd_other _ sv h1, upd_other _ ev h2]
  have hvs : upd (upd val (.sr m.snaps.length) ev) .snaps sv .snaps = sv := upd_same _ _ _
  have hvt : upd (upd val (.sr m.snaps.length) ev) .snaps sv (.sr m.snaps.length) = ev := by rw [upd_other _ sv (by intro x; cases x), upd_same]
  have hcase : ∀ b, LiveX { m with snaps := m.snaps ++ [(d, k, es)] } b → b = .snaps ∨ b = .sr m.snaps.length ∨ (LiveX m b ∧ b ≠ .snaps ∧ b ≠ .sr m.snaps.length) := fun b hb => by
    rcases hb.cases with rfl | rfl | rfl | rfl | ⟨j, rfl, hj⟩ | ⟨j, rfl, hj⟩
    · exact .inr (.inr ⟨LiveX.root m, (by intro x; cases x), (by intro x; cases x)⟩)
    · exact .inr (.inr ⟨LiveX.slots m, (by intro x; cases x), (by intro x; cases x)⟩)
    · exact .inr (.inr ⟨LiveX.refs m, (by intro x; cases x), (by intro x; cases x)⟩)
    · exact .inl rfl
    · exact .inr (.inr ⟨LiveX.tab hj, (by intro x; cases x), (by intro x; cases x)⟩)
    · by_cases e : j = m.snaps.length
      · subst e; exact .inr (.inl rfl)
      · refine .inr (.inr ⟨LiveX.sr (by simp at hj; omega), (by intro x; cases x), ?_⟩)
        intro x; apply e; injection x
  have hnot : ∀ b, LiveX m b → b ≠ .snaps → (val b).ownBlock = none ∨ (val b).ownBlock ≠ (val .snaps).ownBlock := fun b hb hne => by
    cases hg : (val b).ownBlock with
    | none => exact .inl rfl
    | some g => exact .inr (fun x => h.apart b .snaps hb (LiveX.snaps m) hne g hg x.symm)
  have hevn : ev.ownBlock = none ∨ ev.ownBlock ≠ (val .snaps).ownBlock := by
    cases hg : ev.ownBlock with
    | none => exact .inl rfl
    | some g => exact .inr (fun x => hfar .snaps (LiveX.snaps m) (by intro y; cases y) g hg x.symm)
  have hsvfar : ∀ b, LiveX m b → b ≠ .snaps → ∀ g, sv.ownBlock = some g → (val b).ownBlock ≠ some g := fun b hb hne g hg hx => by
    rcases hblk with e | e
    · rw [e] at hg; exact h.apart b .snaps hb (LiveX.snaps m) hne g hx hg
    · have := ((h.row b hb).lt g hx).2
      have := e g hg
      omega
  have hsvev : ∀ g, sv.ownBlock = some g → ev.ownBlock ≠ some g := fun g hg hx => by
    rcases hblk with e | e
    · rw [e] at hg; exact hfar .snaps (LiveX.snaps m) (by intro y; cases y) g hx hg
    · have := (hev.lt g hx).2
      have := e g hg
      omega
  refine ⟨fun b hb => ?_, fun b c hb hc hne q hq => ?_, fun j hj e => by rw [hval _ (by intro x; cases x) (by intro x; cases x)]; exact h.loose j hj e⟩
  · rcases hcase b hb with rfl | rfl | ⟨hb', h1, h2⟩
    · rw [hvs]
      have e1 : rowV { m with snaps := m.snaps ++ [(d, k, es)] } (upd (upd val (.sr m.snaps.length) ev) .snaps sv) .snaps = flatN m.snaps (fun j => val (.sr j)) ++ [.string d, .int .i64 k, ev] := by
        have := flatN_snoc m.snaps (fun j => val (.sr j)) (fun j => upd (upd val (.sr m.snaps.length) ev) .snaps sv (.sr j)) (d, k, es) (fun j hj => hval _ (by intro x; cases x) (by intro x; injection x with _ x; omega))
        rw [hvt] at this
        exact this
      have e2 : rowN { m with snaps := m.snaps ++ [(d, k, es)] } .snaps = m.snaps.length + 1 := by show (m.snaps ++ [(d, k, es)]).length = _; simp
      rw [e1, e2]; exact hrow
    · rw [hvt]
      have e0 : (m.snaps ++ [(d, k, es)]).getD m.snaps.length default = (d, k, es) := by simp [List.getD]
      have e1 : rowV { m with snaps := m.snaps ++ [(d, k, es)] } (upd (upd val (.sr m.snaps.length) ev) .snaps sv) (.sr m.snaps.length) = ints es := by
        show ints ((m.snaps ++ [(d, k, es)]).getD m.snaps.length default).2.2 = _
        rw [e0]
      have e2 : rowN { m with snaps := m.snaps ++ [(d, k, es)] } (.sr m.snaps.length) = es.length := by
        show ((m.snaps ++ [(d, k, es)]).getD m.snaps.length default).2.2.length = _
        rw [e0]
      rw [e1, e2]
      exact hev.kept hgrow hevn
    · rw [hval b h1 h2]
      have e1 : rowV { m with snaps := m.snaps ++ [(d, k, es)] } (upd (upd val (.sr m.snaps.length) ev) .snaps sv) b = rowV m val b ∧ rowN { m with snaps := m.snaps ++ [(d, k, es)] } b = rowN m b := by
        rcases hb'.cases with rfl | rfl | rfl | rfl | ⟨j, rfl, hj⟩ | ⟨j, rfl, hj⟩
        · exact ⟨rfl, rfl⟩
        · refine ⟨?_, rfl⟩
          show flatS m.slots _ = flatS m.slots _
          unfold flatS
          refine congrArg List.flatten (List.map_congr_left fun j _ => ?_)
          dsimp only
          rw [hval (.tab j) (by intro x; cases x) (by intro x; cases x)]
        · exact ⟨rfl, rfl⟩
        · exact absurd rfl h1
        · exact ⟨rfl, rfl⟩
        · have e : (m.snaps ++ [(d, k, es)]).getD j default = m.snaps.getD j default := by simp [List.getD, List.getElem?_append, hj]
          constructor
          · show ints ((m.snaps ++ [(d, k, es)]).getD j default).2.2 = _
            rw [e]; rfl
          · show ((m.snaps ++ [(d, k, es)]).getD j default).2.2.length = _
            rw [e]; rfl
      rw [e1.1, e1.2]
      exact (h.row b hb').kept hgrow (hnot b hb' h1)
  · rcases hcase b hb with rfl | rfl | ⟨hb', h1, h2⟩
    · rw [hvs] at hq
      rcases hcase c hc with rfl | rfl | ⟨hc', g1, g2⟩
      · exact absurd rfl hne
      · rw [hvt]; exact hsvev q hq
      · rw [hval c g1 g2]; exact hsvfar c hc' g1 q hq
    · rw [hvt] at hq
      rcases hcase c hc with rfl | rfl | ⟨hc', g1, g2⟩
      · rw [hvs]; exact fun x => hsvev q x hq
      · exact absurd rfl hne
      · rw [hval c g1 g2]; exact hfar c hc' g2 q hq
    · rw [hval b h1 h2] at hq
      rcases hcase c hc with rfl | rfl | ⟨hc', g1, g2⟩
      · rw [hvs]; exact fun x => hsvfar b hb' h1 q x hq
      · rw [hvt]; exact fun x => hfar b hb' h2 q x hq
      · rw [hval c g1 g2]; exact h.apart b c hb' hc' hne q hq

theorem OX.far {W : World} {B : Nat} {val : Nm → Value} {m : ImgD} (h : OX W B val m) {g i : Nat} {u : Value} (hg : ∀ a, LiveX m a → (val a).ownBlock ≠ some g) : OX (W.setCell ⟨g, i, none⟩ u) B val m :=
  ⟨fun a ha => ownsRow_setCell_other (h.row a ha) (hg a ha) u, h.apart, h.loose⟩
theorem OX.lt {W : World} {B : Nat} {val : Nm → Value} {m : ImgD} (h : OX W B val m) {g : Nat} (hg : W.heap.size ≤ g) : ∀ a, LiveX m a → (val a).ownBlock ≠ some g := fun a ha e => by
  have := ((h.row a ha).lt g e).2
  omega

theorem addX_far {m : ImgD} {val : Nm → Value} {ev sv : Value} {s : SlotD} {g : Nat} (h1 : ∀ a, LiveX m a → (val a).ownBlock ≠ some g) (h2 : s.2.2 ≠ [] → ev.ownBlock ≠ some g) (h3 : sv.ownBlock ≠ some g) :
    ∀ a, LiveX { m with slots := m.slots ++ [s] } a → (upd (upd val (.tab m.slots.length) ev) .slots sv a).ownBlock ≠ some g := fun a ha => by
  by_cases e1 : a = .slots
  · subst e1; rw [upd_same]; exact h3
  rw [upd_other _ _ e1]
  by_cases e2 : a = .tab m.slots.length
  · subst e2
    rw [upd_same]
    refine h2 ?_
    rcases ha.cases with x | x | x | x | ⟨j, x, hj⟩ | ⟨j, x, hj⟩ <;> try (cases x)
    have hj : ((m.slots ++ [s]).getD m.slots.length default).2.2 ≠ [] := hj.2
    simpa [List.getD] using hj
  rw [upd_other _ _ e2]
  apply h1
  rcases ha.cases with rfl | rfl | rfl | rfl | ⟨j, rfl, hj⟩ | ⟨j, rfl, hj⟩
  · exact LiveX.root m
  · exact LiveX.slots m
  · exact LiveX.refs m
  · exact LiveX.snaps m
  · obtain ⟨hj, hjn⟩ := hj
    have hj : j < (m.slots ++ [s]).length := hj
    rw [List.length_append, List.length_singleton] at hj
    rcases Nat.lt_or_ge j m.slots.length with h | h
    · refine LiveX.tab ⟨h, ?_⟩
      have hjn : ((m.slots ++ [s]).getD j default).2.2 ≠ [] := hjn
      have e : (m.slots ++ [s]).getD j default = m.slots.getD j default := by simp [List.getD, List.getElem?_append, h]
      rwa [e] at hjn
    · exact absurd (by rw [show j = m.slots.length by omega]) e2
  · exact LiveX.sr hj
def KeepX (w w' : World) (m : ImgD) (val : Nm → Value) : Prop := ∀ q, q < w.heap.size → (∀ a, LiveX m a → (val a).ownBlock ≠ some q) → w'.heap[q]? = w.heap[q]?
theorem KeepX.refl (w : World) (m : ImgD) (val : Nm → Value) : KeepX w w m val := fun _ _ _ => rfl
theorem KeepX.alloc {w W : World} {m : ImgD} {val : Nm → Value} (h : KeepX w W m val) (hs : w.heap.size ≤ W.heap.size) (o : Obj) : KeepX w (W.alloc o) m val := fun q hq hn => (Below.heap_alloc W o q (by omega)).trans (h q hq hn)
theorem KeepX.own {w W : World} {m : ImgD} {val : Nm → Value} (h : KeepX w W m val) {a : Nm} (ha : LiveX m a) {g n c : Nat} (hg : val a = .slice (some ⟨g, 0, none⟩) n c) {i : Nat} {v : Value} : KeepX w (W.setCell ⟨g, i, none⟩ v) m val := fun q hq hn =>
  (Below.heap_setCell W ⟨g, i, none⟩ v q (fun e => hn a ha (by rw [hg]; exact congrArg some e.symm))).trans (h q hq hn)
theorem KeepX.new {w W : World} {m : ImgD} {val : Nm → Value} (h : KeepX w W m val) {g i : Nat} (hg : w.heap.size ≤ g) {v : Value} : KeepX w (W.setCell ⟨g, i, none⟩ v) m val := fun q hq hn =>
  (Below.heap_setCell W ⟨g, i, none⟩ v q (fun e => by have e : q = g := e; omega)).trans (h q hq hn)
theorem KeepX.grown {w W W' : World} {m : ImgD} {val : Nm → Value} (h : KeepX w W m val) (hs : w.heap.size ≤ W.heap.size) {a : Nm} (ha : LiveX m a) {v : Value} (hv : val a = v) (hg : W.grownBy W' v.ownBlock) : KeepX w W' m val := fun q hq hn =>
  (hg.block q (by omega) (fun e => hn a ha (by rw [hv]; exact e.symm))).trans (h q hq hn)
theorem KeepX.below {w W W' : World} {m : ImgD} {val : Nm → Value} (h : KeepX w W m val) {n : Nat} (hs : w.heap.size ≤ n) (hg : Below n W W') : KeepX w W' m val := fun q hq hn => (hg.block q (by omega)).trans (h q hq hn)

theorem OX.forms {W : World} {B : Nat} {val : Nm → Value} {m : ImgD} (h : OX W B val m) (a : Nm) (ha : LiveX m a) : ∃ ao cap, val a = .slice ao (rowN m a) cap ∧ (0 < rowN m a → ∃ g, ao = some ⟨g, 0, none⟩) := by
  rcases row_form (h.row a ha) with ⟨e, hn⟩ | ⟨g, cap, e, _⟩
  · exact ⟨none, 0, by rw [e, hn], fun hp => absurd hp (by omega)⟩
  · exact ⟨_, cap, e, fun _ => ⟨g, rfl⟩⟩
end Go.Proofs.YtehleeibgkpjmafGreat
/- Contract of the document's OwnImage. -/
namespace Go.Proofs.YtehleeibgkpjmafGreat
open Go.RowKit Go.Shelf
set_option maxRecDepth 20000
set_option linter.unusedVariables false

structure OwR (w1 wr : World) (D : Nat) (p : ImgD) : Prop where
  ex : ∃ val, OX wr w1.heap.size val p ∧ wr.heap[D]? = some (.cells #[.int .i64 p.guest, val .root, val .slots, val .refs, val .snaps] 27) ∧ ∀ a, LiveX p a → (val a).ownBlock ≠ some D
  ge : w1.heap.size ≤ D
  bel : Below w1.heap.size w1 wr
theorem addX_farN {m : ImgD} {val : Nm → Value} {ev sv : Value} {s : SnapD} {g : Nat} (h1 : ∀ a, LiveX m a → (val a).ownBlock ≠ some g) (h2 : ev.ownBlock ≠ some g) (h3 : sv.ownBlock ≠ some g) :
    ∀ a, LiveX { m with snaps := m.snaps ++ [s] } a → (upd (upd val (.sr m.snaps.length) ev) .snaps sv a).ownBlock ≠ some g := fun a ha => by
  by_cases e1 : a = .snaps
  · subst e1; rw [upd_same]; exact h3
  rw [upd_other _ _ e1]
  by_cases e2 : a = .sr m.snaps.length
  · subst e2; rw [upd_same]; exact h2
  rw [upd_other _ _ e2]
  apply h1
  rcases ha.cases with rfl | rfl | rfl | rfl | ⟨j, rfl, hj⟩ | ⟨j, rfl, hj⟩
  · exact LiveX.root m
  · exact LiveX.slots m
  · exact LiveX.refs m
  · exact LiveX.snaps m
  · exact LiveX.tab hj
  · refine LiveX.sr ?_
    have hj : j < (m.snaps ++ [s]).length := hj
    rw [List.length_append, List.length_singleton] at hj
    rcases Nat.lt_or_ge j m.snaps.length with h | h
    · exact h
    · exact absurd (by rw [show j = m.snaps.length by omega]) e2
theorem ow_slot {w1 Wa w' : World} {D : Nat} {val : Nm → Value} {p : ImgD} {kk : Int} {dd : ByteArray} {es : List Int} {ev sv : Value} (hX : OX Wa w1.heap.size val p) (hbel : Below w1.heap.size w1 Wa) (hbox : Wa.heap[D]? = some (.cells #[.int .i64 p.guest, val .root, val .slots, val .refs, val .snaps] 27)) (hge : w1.heap.size ≤ D) (hfar : ∀ a, LiveX p a → (val a).ownBlock ≠ some D)
    (hev : es ≠ [] → Wa.ownsRow w1.heap.size 3 1 ev es.length (ints es)) (hev0 : es = [] → ∃ ao cap, ev = .slice ao 0 cap) (hfe : es ≠ [] → FarX p val (.tab p.slots.length) ev) (hDe : es ≠ [] → ev.ownBlock ≠ some D) (h2 : Wa.grownBy w' (val .slots).ownBlock) (h1 : w'.ownsRow w1.heap.size 61 3 sv (p.slots.length + 1) (flatS p.slots (fun j => val (.tab j)) ++ [.int .i64 kk, .string dd, ev])) (hblk : sv.ownBlock = (val .slots).ownBlock ∨ ∀ g, sv.ownBlock = some g → Wa.heap.size ≤ g) :
    OwR w1 (w'.setCell ⟨D, 2, none⟩ sv) D { p with slots := p.slots ++ [(kk, dd, es)] } := by
  have hDl := (Array.getElem?_eq_some_iff.1 hbox).1
  have hsD : sv.ownBlock ≠ some D := fun e => by
    rcases hblk with x | x
    · rw [x] at e; exact hfar .slots (LiveX.slots p) e
    · have := x D e; omega
  have hN := hX.addSlot hev hev0 hfe h2 h1 hblk
  have hF := addX_far (s := (kk, dd, es)) hfar hDe hsD
  have hb2 := (h2.block D hDl (fun e => hfar .slots (LiveX.slots p) e.symm)).trans hbox
  have hb3 := cells_set hb2 2 sv
  refine ⟨⟨_, hN.far hF, ?_, hF⟩, hge, (hbel.grown h2 hbel.size (fun k e => ((hX.row .slots (LiveX.slots p)).lt k e).1)).setCell hge _⟩
  rw [hb3, upd_same, upd_other _ sv (a := .slots) (b := .root) (by intro x; cases x), upd_other _ ev (b := .root) (by intro x; cases x), upd_other _ sv (a := .slots) (b := .refs) (by intro x; cases x), upd_other _ ev (b := .refs) (by intro x; cases x), upd_other _ sv (a := .slots) (b := .snaps) (by intro x; cases x), upd_other _ ev (b := .snaps) (by intro x; cases x)]
  rfl
theorem ow_snap {w1 Wa w' : World} {D : Nat} {val : Nm → Value} {p : ImgD} {kk : Int} {dd : ByteArray} {es : List Int} {ev sv : Value} (hX : OX Wa w1.heap.size val p) (hbel : Below w1.heap.size w1 Wa) (hbox : Wa.heap[D]? = some (.cells #[.int .i64 p.guest, val .root, val .slots, val .refs, val .snaps] 27)) (hge : w1.heap.size ≤ D) (hfar : ∀ a, LiveX p a → (val a).ownBlock ≠ some D)
    (hev : Wa.ownsRow w1.heap.size 3 1 ev es.length (ints es)) (hfe : FarX p val (.sr p.snaps.length) ev) (hDe : ev.ownBlock ≠ some D) (h2 : Wa.grownBy w' (val .snaps).ownBlock) (h1 : w'.ownsRow w1.heap.size 64 3 sv (p.snaps.length + 1) (flatN p.snaps (fun j => val (.sr j)) ++ [.string dd, .int .i64 kk, ev])) (hblk : sv.ownBlock = (val .snaps).ownBlock ∨ ∀ g, sv.ownBlock = some g → Wa.heap.size ≤ g) :
    OwR w1 (w'.setCell ⟨D, 4, none⟩ sv) D { p with snaps := p.snaps ++ [(dd, kk, es)] } := by
  have hDl := (Array.getElem?_eq_some_iff.1 hbox).1
  have hsD : sv.ownBlock ≠ some D := fun e => by
    rcases hblk with x | x
    · rw [x] at e; exact hfar .snaps (LiveX.snaps p) e
    · have := x D e; omega
  have hN := hX.addSnap hev hfe h2 h1 hblk
  have hF := addX_farN (s := (dd, kk, es)) hfar hDe hsD
  have hb2 := (h2.block D hDl (fun e => hfar .snaps (LiveX.snaps p) e.symm)).trans hbox
  have hb3 := cells_set hb2 4 sv
  refine ⟨⟨_, hN.far hF, ?_, hF⟩, hge, (hbel.grown h2 hbel.size (fun k e => ((hX.row .snaps (LiveX.snaps p)).lt k e).1)).setCell hge _⟩
  rw [hb3, upd_same, upd_other _ sv (a := .snaps) (b := .root) (by intro x; cases x), upd_other _ ev (b := .root) (by intro x; cases x), upd_other _ sv (a := .snaps) (b := .slots) (by intro x; cases x), upd_other _ ev (b := .slots) (by intro x; cases x), upd_other _ sv (a := .snaps) (b := .refs) (by intro x; cases x), upd_other _ ev (b := .refs) (by intro x; cases x)]
  rfl

theorem row_loose0 {W : World} {B : Nat} {v : Value} {es : List Int} (h : W.ownsRow B 3 1 v es.length (ints es)) (e : es = []) : ∃ ao cap, v = .slice ao 0 cap := by
  subst e
  rcases row_form h with ⟨x, _⟩ | ⟨g', cap', x, _⟩
  · exact ⟨_, _, x⟩
  · exact ⟨_, _, x⟩
def pmA (m : ImgD) (k : Nat) : ImgD := { m with slots := m.slots.take k, snaps := [] }
theorem take_next {α : Type} (l : List α) {k : Nat} (h : k < l.length) : l.take (k + 1) = l.take k ++ [l[k]] := (List.take_append_getElem h).symm
theorem OX.zero (W : World) (B : Nat) : OX W B valZ imgZ := by
  have h := OI.zero W B
  exact ⟨fun a ha => h.row a ha.live, fun a b ha hb => h.apart a b ha.live hb.live, fun j hj => absurd hj (Nat.not_lt_zero _)⟩
def StL (w1 : World) (xs : List Int) (W : World) : Option (Nat ⊕ Value) → Prop
  | none => True
  | some (.inl g) => w1.heap.size ≤ g ∧ W.heap[g]? = some e3
  | some (.inr v) => W.ownsRow w1.heap.size 3 1 v xs.length (ints xs)
def stB : Option (Nat ⊕ Value) → Option Nat
  | none => none
  | some (.inl g) => some g
  | some (.inr v) => v.ownBlock
def StC (w1 W : World) : Option Nat → Prop
  | none => True
  | some D => w1.heap.size ≤ D ∧ W.heap[D]? = some (.cells #[.int .i64 0, .slice none 0 0, .slice none 0 0, .slice none 0 0, .slice none 0 0] 27)
structure CpS (w1 : World) (xs ys : List Int) (a b : Option (Nat ⊕ Value)) (c : Option Nat) (W : World) : Prop where
  bel : Below w1.heap.size w1 W
  ha : StL w1 xs W a
  hb : StL w1 ys W b
  hc : StC w1 W c
  ab : ∀ g, stB a = some g → stB b ≠ some g
  ac : ∀ g, stB a = some g → c ≠ some g
  bc : ∀ g, stB b = some g → c ≠ some g
theorem StL.keep {w1 W W' : World} {xs : List Int} {a : Option (Nat ⊕ Value)} (h : StL w1 xs W a) (hk : ∀ g, stB a = some g → W'.heap[g]? = W.heap[g]?) : StL w1 xs W' a := by
  match a, h with
  | none, _ => trivial
  | some (.inl g), h => exact ⟨h.1, (hk g rfl).trans h.2⟩
  | some (.inr v), h =>
    refine ⟨h.1, ?_⟩
    rcases h.2 with hn | ⟨g, cap, cur, hv, hb, hg, rest⟩
    · exact .inl hn
    · exact .inr ⟨g, cap, cur, hv, hb, (hk g (by show v.ownBlock = some g; rw [hv]; rfl)).trans hg, rest⟩
theorem StL.lt {w1 W : World} {xs : List Int} {a : Option (Nat ⊕ Value)} (h : StL w1 xs W a) {g : Nat} (e : stB a = some g) : w1.heap.size ≤ g ∧ g < W.heap.size := by
  match a, h, e with
  | some (.inl g'), h, e => have e : g' = g := Option.some.inj e; subst e; exact ⟨h.1, (Array.getElem?_eq_some_iff.1 h.2).1⟩
  | some (.inr v), h, e => exact World.ownsRow.lt h g e
theorem StC.keep {w1 W W' : World} {c : Option Nat} (h : StC w1 W c) (hk : ∀ g, c = some g → W'.heap[g]? = W.heap[g]?) : StC w1 W' c := by
  match c, h with
  | none, _ => trivial
  | some D, h => exact ⟨h.1, (hk D rfl).trans h.2⟩
theorem StC.lt {w1 W : World} {c : Option Nat} (h : StC w1 W c) {g : Nat} (e : c = some g) : w1.heap.size ≤ g ∧ g < W.heap.size := by
  subst e; exact ⟨h.1, (Array.getElem?_eq_some_iff.1 h.2).1⟩
theorem CpS.zero (w1 : World) (xs ys : List Int) : CpS w1 xs ys none none none w1 := ⟨Below.refl _ _, trivial, trivial, trivial, fun g h => by (cases h), fun g h => by (cases h), fun g h => by (cases h)⟩
theorem CpS.drew {w1 W : World} {xs ys : List Int} {a b : Option (Nat ⊕ Value)} {c : Option Nat} (h : CpS w1 xs ys a b c W) : CpS w1 xs ys a b c W.drew :=
  ⟨h.bel.drew, h.ha.keep (fun _ _ => rfl), h.hb.keep (fun _ _ => rfl), h.hc.keep (fun _ _ => rfl), h.ab, h.ac, h.bc⟩
theorem CpS.last {w1 W : World} {m : ImgD} {va vb : Value} {D : Nat} (h : CpS w1 m.root m.refs (some (.inr va)) (some (.inr vb)) (some D) W) :
    OwR w1 (((((W.setCell ⟨D, 0, none⟩ (.int .i64 m.guest)).setCell ⟨D, 1, none⟩ va).setCell ⟨D, 2, none⟩ (.slice none 0 0)).setCell ⟨D, 3, none⟩ vb).setCell ⟨D, 4, none⟩ (.slice none 0 0)) D (pmA m 0) := by
  have hD := h.hc
  have hbox := cells_set (cells_set (cells_set (cells_set (cells_set hD.2 0 (.int .i64 m.guest)) 1 va) 2 (.slice none 0 0)) 3 vb) 4 (.slice none 0 0)
  have hbel : Below w1.heap.size w1 (((((W.setCell ⟨D, 0, none⟩ (.int .i64 m.guest)).setCell ⟨D, 1, none⟩ va).setCell ⟨D, 2, none⟩ (.slice none 0 0)).setCell ⟨D, 3, none⟩ vb).setCell ⟨D, 4, none⟩ (.slice none 0 0)) := ((((h.bel.setCell (p := ⟨D, 0, none⟩) hD.1 _).setCell (p := ⟨D, 1, none⟩) hD.1 _).setCell (p := ⟨D, 2, none⟩) hD.1 _).setCell (p := ⟨D, 3, none⟩) hD.1 _).setCell (p := ⟨D, 4, none⟩) hD.1 _
  have hk : ∀ q, q ≠ D → (((((W.setCell ⟨D, 0, none⟩ (.int .i64 m.guest)).setCell ⟨D, 1, none⟩ va).setCell ⟨D, 2, none⟩ (.slice none 0 0)).setCell ⟨D, 3, none⟩ vb).setCell ⟨D, 4, none⟩ (.slice none 0 0)).heap[q]? = W.heap[q]? := fun q hq => by
    rw [Below.heap_setCell _ _ _ q hq, Below.heap_setCell _ _ _ q hq, Below.heap_setCell _ _ _ q hq, Below.heap_setCell _ _ _ q hq, Below.heap_setCell _ _ _ q hq]
  have ha : StL w1 m.root (((((W.setCell ⟨D, 0, none⟩ (.int .i64 m.guest)).setCell ⟨D, 1, none⟩ va).setCell ⟨D, 2, none⟩ (.slice none 0 0)).setCell ⟨D, 3, none⟩ vb).setCell ⟨D, 4, none⟩ (.slice none 0 0)) (some (.inr va)) := h.ha.keep (fun g e => hk g (fun x => h.ac g e (by rw [x])))
  have hb : StL w1 m.refs (((((W.setCell ⟨D, 0, none⟩ (.int .i64 m.guest)).setCell ⟨D, 1, none⟩ va).setCell ⟨D, 2, none⟩ (.slice none 0 0)).setCell ⟨D, 3, none⟩ vb).setCell ⟨D, 4, none⟩ (.slice none 0 0)) (some (.inr vb)) := h.hb.keep (fun g e => hk g (fun x => h.bc g e (by rw [x])))
  have h0 := OX.zero (((((W.setCell ⟨D, 0, none⟩ (.int .i64 m.guest)).setCell ⟨D, 1, none⟩ va).setCell ⟨D, 2, none⟩ (.slice none 0 0)).setCell ⟨D, 3, none⟩ vb).setCell ⟨D, 4, none⟩ (.slice none 0 0)) w1.heap.size
  have hz : ∀ a, (valZ a).ownBlock = none := fun a => rfl
  have h1 := h0.swapRoot ha (fun b _ _ g _ e => by rw [hz] at e; cases e) m.guest
  have h2 := h1.swapRefs hb (fun b hb' hne g hg e => by
    by_cases e1 : b = .root
    · subst e1; rw [upd_same] at e; exact h.ab g e hg
    · rw [upd_other _ _ e1, hz] at e; cases e)
  refine ⟨⟨_, h2, ?_, fun a ha' e => ?_⟩, hD.1, hbel⟩
  · rw [hbox, upd_same, upd_other _ vb (a := .refs) (b := .root) (by intro x; cases x), upd_same, upd_other _ vb (a := .refs) (b := .slots) (by intro x; cases x), upd_other _ va (b := .slots) (by intro x; cases x), upd_other _ vb (a := .refs) (b := .snaps) (by intro x; cases x), upd_other _ va (b := .snaps) (by intro x; cases x)]
    rfl
  · by_cases e1 : a = .refs
    · subst e1; rw [upd_same] at e; exact h.bc D e rfl
    · rw [upd_other _ _ e1] at e
      by_cases e2 : a = .root
      · subst e2; rw [upd_same] at e; exact h.ac D e rfl
      · rw [upd_other _ _ e2, hz] at e; cases e

end Go.Proofs.YtehleeibgkpjmafGreat
/- Contract of the document's lay, of an image as the document makes it. -/
namespace Go.Proofs.YtehleeibgkpjmafGreat
open Go.RowKit Go.Shelf
end Go.Proofs.YtehleeibgkpjmafGreat
/- Contract of the document's counted, of an image as the document makes it. -/
namespace Go.Proofs.YtehleeibgkpjmafGreat
open Go.RowKit Go.Shelf
end Go.Proofs.YtehleeibgkpjmafGreat
/- Contracts of the document's GrabOf, UsedOf. -/
namespace Go.Proofs.YtehleeibgkpjmafGreat
open Go.RowKit
end Go.Proofs.YtehleeibgkpjmafGreat
/- Contract of the document's tabled: a table is stored. -/
namespace Go.Proofs.YtehleeibgkpjmafGreat
open Go.RowKit Go.Shelf
end Go.Proofs.YtehleeibgkpjmafGreat
/- tabled, its ways joined. -/
namespace Go.Proofs.YtehleeibgkpjmafGreat
open Go.RowKit Go.Shelf
end Go.Proofs.YtehleeibgkpjmafGreat
/- Contract of the document's tabled, of an image as the document makes it. -/
namespace Go.Proofs.YtehleeibgkpjmafGreat
open Go.RowKit Go.Shelf
end Go.Proofs.YtehleeibgkpjmafGreat
/- Contract of the document's putOf. -/
namespace Go.Proofs.YtehleeibgkpjmafGreat
open Go.RowKit Go.Shelf
theorem imgZ_im (W : World) : Img W (.agg #[.int .i64 0, .slice none 0 0, .slice none 0 0, .slice none 0 0, .slice none 0 0]) imgZ := (OI.zero W 0).img
theorem OX.four' {W : World} {B : Nat} {val : Nm → Value} {m : ImgD} (h : OX W B val m) : ∃ a0 c0 a1 c1 a2 c2 a3 c3, val .root = .slice a0 m.root.length c0 ∧ val .slots = .slice a1 m.slots.length c1 ∧ val .refs = .slice a2 m.refs.length c2 ∧ val .snaps = .slice a3 m.snaps.length c3 := by
  obtain ⟨a0, c0, h0, _⟩ := h.forms .root (LiveX.root _)
  obtain ⟨a1, c1, h1, _⟩ := h.forms .slots (LiveX.slots _)
  obtain ⟨a2, c2, h2, _⟩ := h.forms .refs (LiveX.refs _)
  obtain ⟨a3, c3, h3, _⟩ := h.forms .snaps (LiveX.snaps _)
  exact ⟨a0, c0, a1, c1, a2, c2, a3, c3, h0, h1, h2, h3⟩
theorem OX.five {W : World} {B D : Nat} {val : Nm → Value} {m : ImgD} (h : OX W B val m) (hf : ∀ a, LiveX m a → (val a).ownBlock ≠ some D) (a0 a1 a2 a3 a4 : Value) : OX (((((W.setCell ⟨D, 0, none⟩ a0).setCell ⟨D, 1, none⟩ a1).setCell ⟨D, 2, none⟩ a2).setCell ⟨D, 3, none⟩ a3).setCell ⟨D, 4, none⟩ a4) B val m := ((((h.far hf).far hf).far hf).far hf).far hf
theorem below_five {w W : World} {B D : Nat} (h : Below B w W) (hD : B ≤ D) (a0 a1 a2 a3 a4 : Value) : Below B w (((((W.setCell ⟨D, 0, none⟩ a0).setCell ⟨D, 1, none⟩ a1).setCell ⟨D, 2, none⟩ a2).setCell ⟨D, 3, none⟩ a3).setCell ⟨D, 4, none⟩ a4) :=
  ((((h.setCell (p := ⟨D, 0, none⟩) hD _).setCell (p := ⟨D, 1, none⟩) hD _).setCell (p := ⟨D, 2, none⟩) hD _).setCell (p := ⟨D, 3, none⟩) hD _).setCell (p := ⟨D, 4, none⟩) hD _
end Go.Proofs.YtehleeibgkpjmafGreat
/- The document's WriteOf: what lies in memory between its steps; plain facts. -/
namespace Go.Proofs.YtehleeibgkpjmafGreat
open Go.RowKit Go.Shelf


end Go.Proofs.YtehleeibgkpjmafGreat
/- The document's ResizeOf: the calls it leans on (CutOf's row is one's own; SameInts of two lists that differ). -/
namespace Go.Proofs.YtehleeibgkpjmafGreat
open Go.RowKit Go.Shelf

theorem one_newR (W : World) (x : Value) : ∀ (j : Nat) (u : Value), [x][j]? = some u → (W.alloc (.cells #[x] 3)).cell? ((⟨W.heap.size, 0, none⟩ : Addr).add j) = some u := by
  intro j u hj
  rw [addr_add, World.cell?_alloc_at _ _ _ _ rfl]
  match j, hj with
  | 0, hj => simpa using hj
theorem OX.blk {W W' : World} {B : Nat} {val : Nm → Value} {m : ImgD} (h : OX W B val m) (hk : ∀ a, LiveX m a → ∀ q, (val a).ownBlock = some q → W'.heap[q]? = W.heap[q]?) : OX W' B val m := ⟨fun a ha => row_blk (h.row a ha) (fun q e => hk a ha q e), h.apart, h.loose⟩
theorem OwR.drew {V X : World} {D : Nat} {p : ImgD} (h : OwR V X D p) : OwR V X.drew D p := by
  obtain ⟨val, h1, h2, h3⟩ := h.ex
  exact ⟨⟨val, h1.drew, h2, h3⟩, h.ge, to_drew h.bel⟩
end Go.Proofs.YtehleeibgkpjmafGreat
/- Contracts of the document's renamed, allRenamed. -/
namespace Go.Proofs.YtehleeibgkpjmafGreat
open Go.RowKit Go.Shelf
set_option maxRecDepth 20000
set_option linter.unusedVariables false
set_option linter.unusedSimpArgs false

theorem rnkO_1 (L : List SlotD) : rnk L 1 = 1 := rfl
theorem rnkO_succ (L : List SlotD) (k : Nat) : rnk L (k + 1) = rnk L k + if kept L k = true then 1 else 0 := by
  unfold rnk
  rw [List.range_succ, List.filter_append, List.length_append]
  congr 1
  by_cases h : kept L k = true <;> simp [List.filter_cons, h]
theorem wp_addI {W : World} {o : Oper} {a : Act} {K : Act → World → Prop} {Q : Exit → Act → World → Prop} (s x : Operand)
    (ho : o.op = .call { callee := .builtin .append, args := #[s, x], argTypes := #[23, 23] }) {B n : Nat} {v : Value} {xs : List Int} {e : Int}
    (hs : a.eval s = v) {N : Nat} (hx : a.eval x = .slice (some ⟨N, 0, none⟩) 1 1) (hN : N = W.heap.size) (hown : W.ownsRow B 3 1 v n (ints xs)) (hn : n ≤ 1000) (hB : B ≤ W.heap.size)
    (h : ∀ v' w', Hid (w'.ownsRow B 3 1 v' (n + 1) (ints (xs ++ [e]))) → Hid ((W.alloc (.cells #[.int .i64 e] 3)).grownBy w' v.ownBlock) → Hid (v'.ownBlock = v.ownBlock ∨ v'.ownBlock = some (W.heap.size + 1)) → K (a.put o.dst v') w') : o.wp Tryz.prog a (W.alloc (.cells #[.int .i64 e] 3)) K Q := by
  subst hN
  obtain ⟨i0, hi, hz0, hz1, hz2⟩ := info_parts info3
  obtain ⟨v', w', hr, g2, g3, _, g5⟩ := run_append_own_at (P := Tryz.prog) (W.alloc (.cells #[.int .i64 e] 3)) B 23 o.type 3 i0 (.int .i64 0) 1 8 Tryz.underlying23 hi hz0 hz1 hz2 rfl (by decide) v n (ints xs) (hown.alloc _) ⟨W.heap.size, 0, none⟩ 1 1 [.int .i64 e] rfl (one_newR W _) (by intro u hu; simp at hu; subst hu; rfl) (by unfold maxLen; omega) (by omega) (by simp; omega)
  unfold Oper.wp execOp
  simp only [ho, resolve, invoke, builtin, Sem.run_bind, Sem.run_pure, Result.andThen_ok, List.map_toArray, List.map_cons, List.map_nil, hs, hx, hr]
  have g6 : v'.ownBlock = v.ownBlock ∨ v'.ownBlock = some (W.heap.size + 1) := by simpa using g5
  have e1 : ints (xs ++ [e]) = ints xs ++ [.int .i64 e] := by unfold ints; simp
  exact h v' w' (by rw [e1]; exact g2) g3 g6

theorem renamed_low (j : Int) (ra : Option Addr) (rc : Nat) (sa : Option Addr) (sc : Nat) (fa : Option Addr) (fc : Nat) (na : Option Addr) (nc : Nat) (m : ImgD) (w : World) (hj : j ≤ 0) :
    Calls Tryz.prog 81 #[.agg #[.int .i64 m.guest, .slice ra m.root.length rc, .slice sa m.slots.length sc, .slice fa m.refs.length fc, .slice na m.snaps.length nc], .int .i64 j] w fun r w' => r = .returned (.int .i64 j) ∧ Below w.heap.size w w' := by
  go_enter Tryz.func81, Tryz.ntmps81
  go_wp2
  go_ret
  exact ⟨rfl, (Below.refl _ _).alloc (Nat.le_refl _) _⟩
set_option maxHeartbeats 2000000 in
theorem renamed_high (j sb so : Nat) (ra : Option Addr) (rc : Nat) (sc : Nat) (fa : Option Addr) (fc : Nat) (na : Option Addr) (nc : Nat) (m : ImgD) (w : World) (hj : 1 ≤ j) (hjl : j < m.slots.length) (h40 : m.slots.length ≤ 40)
    (hsl : sb < w.heap.size) (hc : ∀ k, k < m.slots.length → w.cell? ⟨sb, so + k * 3, none⟩ = some (.int .i64 (kd m.slots k))) :
    Calls Tryz.prog 81 #[.agg #[.int .i64 m.guest, .slice ra m.root.length rc, .slice (some ⟨sb, so, none⟩) m.slots.length sc, .slice fa m.refs.length fc, .slice na m.snaps.length nc], .int .i64 (j : Int)] w fun r w' => r = .returned (.int .i64 (rnk m.slots j : Int)) ∧ Below w.heap.size w w' := by
  have m0 : (w.alloc (.cells #[.int .i64 m.guest, .slice ra m.root.length rc, .slice (some ⟨sb, so, none⟩) m.slots.length sc, .slice fa m.refs.length fc, .slice na m.snaps.length nc] 27)).heap[w.heap.size]? = some (.cells #[.int .i64 m.guest, .slice ra m.root.length rc, .slice (some ⟨sb, so, none⟩) m.slots.length sc, .slice fa m.refs.length fc, .slice na m.snaps.length nc] 27) := World.alloc_heap_new _ _
  obtain ⟨c0, c1, c2, c3, c4⟩ := five m0
  clear m0
  have b0 : Below w.heap.size w (w.alloc (.cells #[.int .i64 m.guest, .slice ra m.root.length rc, .slice (some ⟨sb, so, none⟩) m.slots.length sc, .slice fa m.refs.length fc, .slice na m.snaps.length nc] 27)) := (Below.refl _ _).alloc (Nat.le_refl _) _
  have HCc : Hid (∀ k, k < m.slots.length → (w.alloc (.cells #[.int .i64 m.guest, .slice ra m.root.length rc, .slice (some ⟨sb, so, none⟩) m.slots.length sc, .slice fa m.refs.length fc, .slice na m.snaps.length nc] 27)).cell? ⟨sb, so + k * 3, none⟩ = some (.int .i64 (kd m.slots k))) := fun k hk => (b0.cell (p := ⟨sb, so + k * 3, none⟩) hsl).trans (hc k hk)
  have HB := b0
  clear hc b0
  have hji : ¬ (j : Int) ≤ 0 := by omega
  go_enter Tryz.func81, Tryz.ntmps81
  go_wp2
  go_loop [5, 6] (fun c i => ∃ k r : Nat, 1 ≤ k ∧ k ≤ j ∧ r ≤ k ∧ i = .int .i64 k ∧ c = .int .i64 r ∧ Hid (rnk m.slots k = r)) (fun _ i => j - (intOf i).toNat)
  case atStart => exact ⟨1, 1, by omega, hj, by omega, rfl, rfl, rnkO_1 _⟩
  case round =>
    obtain ⟨k, r, hk1, hkj, hrk, rfl, rfl, HR⟩ := hrel
    by_cases hlt : k < j
    · have hki : (k : Int) < (j : Int) := by omega
      have hkl : k < m.slots.length := by omega
      have hkl2 : (k : Int) < (m.slots.length : Int) := by omega
      have cK := HCc.out k hkl
      obtain ⟨kk, hkk⟩ : ∃ x, kd m.slots k = x := ⟨_, rfl⟩
      rw [hkk] at cK
      have hs := rnkO_succ m.slots k
      have hkp : kept m.slots k = (kk != 0) := by unfold kept; rw [hkk]; have : (k == 0) = false := by simp; omega
                                                  rw [this]; rfl
      rw [hkp, HR.out] at hs
      rcases Bool.eq_false_or_eq_true (kk != 0) with hb | hb
      · have HS : Hid (rnk m.slots (k + 1) = r + 1) := by rw [hb] at hs; exact hs
        clear hs hkp hkk
        go_wp2
        go_round
        case rel => exact ⟨k + 1, r + 1, by omega, by omega, by omega, by go_num, by go_num, HS⟩
        case measure => simp [intOf]; omega
      · have HS : Hid (rnk m.slots (k + 1) = r) := by rw [hb] at hs; exact hs
        clear hs hkp hkk
        go_wp2
        go_round
        case rel => exact ⟨k + 1, r, by omega, by omega, by omega, by go_num, rfl, HS⟩
        case measure => simp [intOf]; omega
    · have hki : ¬ (k : Int) < (j : Int) := by omega
      have HE : Hid (k = j) := by show k = j; omega
      go_wp2
      go_ret
      exact ⟨ret_int (by rw [← HE.out, HR.out]), HB⟩
theorem renamed_is {w : World} {v : Value} {m : ImgD} (h : Img w v m) (h40 : m.slots.length ≤ 40) {e r : Int} (he : EntP m.slots e) (hr : ren m.slots e = r) :
    Calls Tryz.prog 81 #[v, .int .i64 e] w fun x w' => x = .returned (.int .i64 r) ∧ Below w.heap.size w w' := by
  have h' := h
  obtain ⟨ra, rc, sa, sc, fa, fc, na, nc, rfl, _⟩ := h.parts
  subst hr
  rcases he with x | x | ⟨j, rfl, j1, jl, jk⟩
  · subst x; rw [ren_0]; exact renamed_low 0 ra rc sa sc fa fc na nc m w (by omega)
  · subst x; rw [ren_neg]; exact renamed_low (-1) ra rc sa sc fa fc na nc m w (by omega)
  · rw [ren_at jl jk]
    obtain ⟨sb, so, sc', e, _, hbl, hps⟩ := h'.four.2.1.open (by omega)
    simp only [Value.slice.injEq] at e
    obtain ⟨rfl, _, rfl⟩ := e
    exact renamed_high j sb so ra rc _ fa fc na nc m w j1 jl h40 hbl (fun k hk => by
      obtain ⟨tv, q0, _⟩ := hps k hk
      have e : kd m.slots k = m.slots[k].1 := by unfold kd; simp [List.getD, hk]
      rw [e]; exact q0)

structure ArS (w wr : World) (bx : Obj) (pa : Option Addr) (k pc : Nat) (ys : List Int) : Prop where
  row : wr.ownsRow (w.heap.size + 1) 3 1 (.slice pa k pc) k (ints ys)
  bel : Below w.heap.size w wr
  box : wr.heap[w.heap.size]? = some bx
set_option maxHeartbeats 4000000 in
theorem allRen_at (la : Option Addr) (lc : Nat) (ra : Option Addr) (rc : Nat) (sa : Option Addr) (sc : Nat) (fa : Option Addr) (fc : Nat) (na : Option Addr) (nc : Nat) (m : ImgD) (xs : List Int) (w : World) (h : Img w (.agg #[.int .i64 m.guest, .slice ra m.root.length rc, .slice sa m.slots.length sc, .slice fa m.refs.length fc, .slice na m.snaps.length nc]) m) (hl : Sl w (.slice la xs.length lc) xs) (h40 : m.slots.length ≤ 40) (hx : xs.length ≤ 40) (he : ∀ e ∈ xs, EntP m.slots e) :
    Calls Tryz.prog 47 #[.agg #[.int .i64 m.guest, .slice ra m.root.length rc, .slice sa m.slots.length sc, .slice fa m.refs.length fc, .slice na m.snaps.length nc], .slice la xs.length lc] w fun r w' => ∃ va, r = .returned va ∧ w'.ownsRow (w.heap.size + 1) 3 1 va xs.length (ints (xs.map (ren m.slots))) ∧ Below w.heap.size w w' := by
  have b0 : Below w.heap.size w (w.alloc (.cells #[.int .i64 m.guest, .slice ra m.root.length rc, .slice sa m.slots.length sc, .slice fa m.refs.length fc, .slice na m.snaps.length nc] 27)) := (Below.refl _ _).alloc (Nat.le_refl _) _
  have m0 : (w.alloc (.cells #[.int .i64 m.guest, .slice ra m.root.length rc, .slice sa m.slots.length sc, .slice fa m.refs.length fc, .slice na m.snaps.length nc] 27)).heap[w.heap.size]? = some (.cells #[.int .i64 m.guest, .slice ra m.root.length rc, .slice sa m.slots.length sc, .slice fa m.refs.length fc, .slice na m.snaps.length nc] 27) := World.alloc_heap_new _ _
  have HI : Hid (Img w (.agg #[.int .i64 m.guest, .slice ra m.root.length rc, .slice sa m.slots.length sc, .slice fa m.refs.length fc, .slice na m.snaps.length nc]) m ∧ Sl w (.slice la xs.length lc) xs ∧ ∀ e ∈ xs, EntP m.slots e) := ⟨h, hl, he⟩
  have HS0 : Hid (ArS w (w.alloc (.cells #[.int .i64 m.guest, .slice ra m.root.length rc, .slice sa m.slots.length sc, .slice fa m.refs.length fc, .slice na m.snaps.length nc] 27)) (.cells #[.int .i64 m.guest, .slice ra m.root.length rc, .slice sa m.slots.length sc, .slice fa m.refs.length fc, .slice na m.snaps.length nc] 27) none 0 0 ((xs.take 0).map (ren m.slots))) := ⟨World.ownsRow_nil _ _ _ _, b0, m0⟩
  clear h hl he b0 m0
  go_enter Tryz.func47, Tryz.ntmps47
  go_wp2_with fail
  obtain ⟨W0, hW0⟩ : ∃ X, (w.alloc (.cells #[.int .i64 m.guest, .slice ra m.root.length rc, .slice sa m.slots.length sc, .slice fa m.refs.length fc, .slice na m.snaps.length nc] 27)) = X := ⟨_, rfl⟩
  rw [hW0] at HS0 ⊢
  clear hW0
  go_loopw [5, 6] (fun o i wr => ∃ k pa pc, k ≤ xs.length ∧ i = .int .i64 (k : Int) ∧ o = .slice pa k pc ∧ Hid (ArS w wr (.cells #[.int .i64 m.guest, .slice ra m.root.length rc, .slice sa m.slots.length sc, .slice fa m.refs.length fc, .slice na m.snaps.length nc] 27) pa k pc ((xs.take k).map (ren m.slots)))) (fun _ i _ => xs.length - (intOf i).toNat)
  case atStart => exact ⟨0, none, 0, Nat.zero_le _, rfl, rfl, HS0⟩
  case round =>
    obtain ⟨k, pa, pc, hk, rfl, rfl, HC⟩ := hrel
    have bl := HC.out.bel
    have hbx := HC.out.box
    have hDl := (Array.getElem?_eq_some_iff.1 hbx).1
    by_cases hlk : k < xs.length
    · have hki : (k : Int) < (xs.length : Int) := by omega
      obtain ⟨b, off, lc', e0, _, hbl, hcell⟩ := HI.out.2.1.open (by omega)
      simp only [Value.slice.injEq] at e0
      obtain ⟨rfl, _, rfl⟩ := e0
      have cp : wr.cell? ⟨b, off + k, none⟩ = some (.int .i64 (xs.getD k 0)) := (bl.cell (p := ⟨b, off + k, none⟩) hbl).trans (hcell k hlk)
      obtain ⟨e, hee⟩ : ∃ x, xs.getD k 0 = x := ⟨_, rfl⟩
      rw [hee] at cp
      have hmem : xs[k] = e := by rw [← hee]; simp [List.getD, hlk]
      obtain ⟨r, hr⟩ : ∃ x, ren m.slots e = x := ⟨_, rfl⟩
      have HX : Hid ((xs.take (k + 1)).map (ren m.slots) = (xs.take k).map (ren m.slots) ++ [r]) := by
        show _ = _
        rw [show xs.take (k + 1) = xs.take k ++ [xs[k]] from (List.take_append_getElem hlk).symm, List.map_append, hmem, ← hr]
        rfl
      have HRn : Hid (∀ W, Below w.heap.size w W → Calls Tryz.prog 81 #[.agg #[.int .i64 m.guest, .slice ra m.root.length rc, .slice sa m.slots.length sc, .slice fa m.refs.length fc, .slice na m.snaps.length nc], .int .i64 e] W fun x w' => x = .returned (.int .i64 r) ∧ Below W.heap.size W w') := fun W hW => renamed_is (HI.out.1.below hW) h40 (HI.out.2.2 e (by rw [← hmem]; exact List.getElem_mem _)) hr
      clear hee hmem hr
      go_upto_region 5 with fail
      refine wp_region_held_drew (S := (fun X : World => X.heap[w.heap.size]? = some (.cells #[.int .i64 m.guest, .slice ra m.root.length rc, .slice sa m.slots.length sc, .slice fa m.refs.length fc, .slice na m.snaps.length nc] 27) ∧ X.cell? ⟨b, off + k, none⟩ = some (.int .i64 e))) (by kernel_rfl) ⟨hbx, cp⟩ (fun hHeld => ?_)
      refine wpAnyH_take (i := 0) (v := .slice pa k pc) rfl (by kernel_rfl) (by kernel_rfl) (by kernel_rfl) (fun _ _ _ h => h) (Or.inl ⟨by rfl, fun w' hSw => by obtain ⟨qa, qb⟩ := hSw; obtain ⟨j0, j1, j2, j3, j4⟩ := five qa; go_simp⟩) hHeld ?_
      simp only [Act.put, List.getElem_toArray, List.getElem_cons_succ, List.getElem_cons_zero, List.setIfInBounds_toArray, List.set_cons_zero, List.set_cons_succ]
      refine wpAnyH_take (i := 1) (v := .agg #[.int .i64 m.guest, .slice ra m.root.length rc, .slice sa m.slots.length sc, .slice fa m.refs.length fc, .slice na m.snaps.length nc]) rfl (by kernel_rfl) (by kernel_rfl) (by kernel_rfl) (fun _ _ _ h => h) (Or.inl ⟨by rfl, fun w' hSw => by obtain ⟨qa, qb⟩ := hSw; obtain ⟨j0, j1, j2, j3, j4⟩ := five qa; go_simp⟩) hHeld ?_
      simp only [Act.put, List.getElem_toArray, List.getElem_cons_succ, List.getElem_cons_zero, List.setIfInBounds_toArray, List.set_cons_zero, List.set_cons_succ]
      refine wpAnyH_take (i := 2) (v := .slice (some ⟨b, off, none⟩) xs.length lc) rfl (by kernel_rfl) (by kernel_rfl) (by kernel_rfl) (fun _ _ _ h => h) (Or.inl ⟨by rfl, fun w' hSw => by obtain ⟨qa, qb⟩ := hSw; obtain ⟨j0, j1, j2, j3, j4⟩ := five qa; go_simp⟩) hHeld ?_
      simp only [Act.put, List.getElem_toArray, List.getElem_cons_succ, List.getElem_cons_zero, List.setIfInBounds_toArray, List.set_cons_zero, List.set_cons_succ]
      refine wpAnyH_take (i := 3) (v := .int .i64 (k : Int)) rfl (by kernel_rfl) (by kernel_rfl) (by kernel_rfl) (fun _ _ _ h => h) (Or.inl ⟨by rfl, fun w' hSw => by obtain ⟨qa, qb⟩ := hSw; obtain ⟨j0, j1, j2, j3, j4⟩ := five qa; go_simp⟩) hHeld ?_
      simp only [Act.put, List.getElem_toArray, List.getElem_cons_succ, List.getElem_cons_zero, List.setIfInBounds_toArray, List.set_cons_zero, List.set_cons_succ]
      refine wpAnyH_take (i := 4) (v := .pointer (some ⟨b, off + k, none⟩)) rfl (by kernel_rfl) (by kernel_rfl) (by kernel_rfl) (fun _ _ _ h => h) (Or.inl ⟨by rfl, fun w' hSw => by obtain ⟨qa, qb⟩ := hSw; obtain ⟨j0, j1, j2, j3, j4⟩ := five qa; go_simp⟩) hHeld ?_
      simp only [Act.put, List.getElem_toArray, List.getElem_cons_succ, List.getElem_cons_zero, List.setIfInBounds_toArray, List.set_cons_zero, List.set_cons_succ]
      refine wpAnyH_take (i := 5) (v := .int .i64 e) rfl (by kernel_rfl) (by kernel_rfl) (by kernel_rfl) (fun _ _ _ h => h) (Or.inl ⟨by rfl, fun w' hSw => by obtain ⟨qa, qb⟩ := hSw; obtain ⟨j0, j1, j2, j3, j4⟩ := five qa; go_simp⟩) hHeld ?_
      simp only [Act.put, List.getElem_toArray, List.getElem_cons_succ, List.getElem_cons_zero, List.setIfInBounds_toArray, List.set_cons_zero, List.set_cons_succ]
      refine wpAnyH_ready (rs := [6]) (by kernel_rfl) (by simp) ?_
      refine AllReadyH.cons rfl (fun K hK => ?_) AllReadyH.nil
      clear hHeld
      simp only [Act.put, List.getElem_toArray, List.getElem_cons_succ, List.getElem_cons_zero, List.setIfInBounds_toArray, List.set_cons_zero, List.set_cons_succ]
      rw [if_pos (by rfl)]
      go_wp2_with (go_at_call 81; refine (HRn.out _ (to_drew bl)).mono ?_; rintro x9 w4 ⟨rfl, b4⟩)
      replace b4 : Below wr.heap.size wr w4 := below_drew b4
      have s4 := b4.size
      have bx4 := cells_below hbx b4 hDl
      have sb4 := bl.size
      have cp4 : w4.cell? ⟨b, off + k, none⟩ = some (.int .i64 e) := (b4.cell (p := ⟨b, off + k, none⟩) (by show b < _; omega)).trans cp
      have r4 := row_blkS HC.out.row (W' := w4) (fun q hq => b4.block q (HC.out.row.lt q hq).2)
      refine hK.out _ _ ⟨bx4, cp4⟩ (fun hHeld => ?_)
      clear hK K
      try simp only [Act.put, List.getElem_toArray, List.getElem_cons_succ, List.getElem_cons_zero, List.setIfInBounds_toArray, List.set_cons_zero, List.set_cons_succ]
      refine wpAnyH_ready (rs := [7]) (by kernel_rfl) (by simp) ?_
      refine AllReadyH.cons rfl (fun K hK => ?_) AllReadyH.nil
      clear hHeld
      simp only [Act.put, List.getElem_toArray, List.getElem_cons_succ, List.getElem_cons_zero, List.setIfInBounds_toArray, List.set_cons_zero, List.set_cons_succ]
      rw [if_pos (by rfl)]
      go_simp
      refine hK.out _ _ ⟨cells_alloc bx4 _, (World.cell?_alloc_past _ _ _ (by show b < _; omega)).trans cp4⟩ (fun hHeld => ?_)
      clear hK K
      try simp only [Act.put, List.getElem_toArray, List.getElem_cons_succ, List.getElem_cons_zero, List.setIfInBounds_toArray, List.set_cons_zero, List.set_cons_succ]
      refine wpAnyH_ready (rs := [8]) (by kernel_rfl) (by simp) ?_
      refine AllReadyH.cons rfl (fun K hK => ?_) AllReadyH.nil
      clear hHeld
      simp only [Act.put, List.getElem_toArray, List.getElem_cons_succ, List.getElem_cons_zero, List.setIfInBounds_toArray, List.set_cons_zero, List.set_cons_succ]
      rw [if_pos (by rfl)]
      refine wp_addI (B := w.heap.size + 1) (n := k) (v := .slice pa k pc) (xs := (xs.take k).map (ren m.slots)) (e := r) _ _ (by rfl) (by rfl) (N := w4.heap.size) (by rfl) rfl r4 (by omega) (by omega) ?_
      intro v8 w8 g1 g2 g3
      obtain ⟨ga, gc, hv8⟩ := row_some g1.out
      subst hv8
      have hown : (Value.slice pa k pc).ownBlock ≠ some w.heap.size := fun e => by have := (HC.out.row.lt _ e).1; omega
      have hownb : (Value.slice pa k pc).ownBlock ≠ some b := fun e => by have := (HC.out.row.lt _ e).1; omega
      have hz : (w4.alloc (.cells #[.int .i64 r] 3)).heap.size = w4.heap.size + 1 := by simp
      have bx8 := (g2.out.block w.heap.size (by rw [hz]; omega) (fun e => hown e.symm)).trans (cells_alloc bx4 (.cells #[.int .i64 r] 3))
      have cb8 : w8.heap[b]? = w4.heap[b]? := (g2.out.block b (by rw [hz]; omega) (fun e => hownb e.symm)).trans (Below.heap_alloc _ _ b (by omega))
      have cp8 : w8.cell? ⟨b, off + k, none⟩ = some (.int .i64 e) := by
        have : w8.cell? ⟨b, off + k, none⟩ = w4.cell? ⟨b, off + k, none⟩ := by simp only [World.cell?, cb8]
        rw [this]; exact cp4
      have HN : Hid (ArS w w8 (.cells #[.int .i64 m.guest, .slice ra m.root.length rc, .slice sa m.slots.length sc, .slice fa m.refs.length fc, .slice na m.snaps.length nc] 27) (some ⟨ga, 0, none⟩) (k + 1) gc ((xs.take (k + 1)).map (ren m.slots))) := by
        refine ⟨by rw [HX.out]; exact g1.out, ?_, bx8⟩
        exact ((bl.trans (b4.mono sb4)).alloc (by omega) _).grown g2.out (by rw [hz]; omega) (fun q e => by have := (HC.out.row.lt _ e).1; omega)
      refine hK.out _ _ ⟨bx8, cp8⟩ (fun hHeld => ?_)
      clear hK K
      try simp only [Act.put, List.getElem_toArray, List.getElem_cons_succ, List.getElem_cons_zero, List.setIfInBounds_toArray, List.set_cons_zero, List.set_cons_succ]
      refine wpAnyH_ready (rs := [9]) (by kernel_rfl) (by simp) ?_
      refine AllReadyH.cons rfl (fun K hK => ?_) AllReadyH.nil
      clear hHeld
      simp only [Act.put, List.getElem_toArray, List.getElem_cons_succ, List.getElem_cons_zero, List.setIfInBounds_toArray, List.set_cons_zero, List.set_cons_succ]
      rw [if_pos (by rfl)]
      go_simp
      refine hK.out _ _ ⟨bx8, cp8⟩ (fun hHeld => ?_)
      clear hK K hHeld
      try simp only [Act.put, List.getElem_toArray, List.getElem_cons_succ, List.getElem_cons_zero, List.setIfInBounds_toArray, List.set_cons_zero, List.set_cons_succ]
      refine wpAnyH_done (by kernel_rfl) ?_ _
      clear g1 g2 g3 bx8 cb8 cp8 bx4 cp4 r4 b4 hownb hown
      go_wp2_with fail
      go_roundw
      case rel => exact ⟨k + 1, some ⟨ga, 0, none⟩, gc, by omega, by go_num, rfl, HN⟩
      case measure => simp [intOf]; omega
    · have HE : Hid (k = xs.length) := by show k = xs.length; omega
      have hki : ¬ (k : Int) < (xs.length : Int) := by omega
      have HR : Hid (wr.ownsRow (w.heap.size + 1) 3 1 (.slice pa k pc) xs.length (ints (xs.map (ren m.slots))) ∧ Below w.heap.size w wr) := by
        refine ⟨?_, bl⟩
        have h9 := HC.out.row
        have e := HE.out
        rw [show xs.take k = xs by rw [e, List.take_length]] at h9
        rw [e] at h9
        rw [e]
        exact h9
      clear bl hbx HC
      go_wp2_with fail
      go_ret
      exact ⟨.slice pa k pc, rfl, HR.out.1, HR.out.2⟩
theorem allRen_is {w : World} {v u : Value} {m : ImgD} {xs : List Int} (h : Img w v m) (hl : Sl w u xs) (h40 : m.slots.length ≤ 40) (hx : xs.length ≤ 40) (he : ∀ e ∈ xs, EntP m.slots e) {ys : List Int} (hy : xs.map (ren m.slots) = ys) :
    Calls Tryz.prog 47 #[v, u] w fun r w' => ∃ va, r = .returned va ∧ w'.ownsRow (w.heap.size + 1) 3 1 va ys.length (ints ys) ∧ Below w.heap.size w w' := by
  have h' := h
  obtain ⟨ra, rc, sa, sc, fa, fc, na, nc, rfl, _⟩ := h.parts
  obtain ⟨la, lc, rfl⟩ := hl.form
  subst hy
  rw [List.length_map]
  exact allRen_at la lc ra rc sa sc fa fc na nc m xs w h' hl h40 hx he
end Go.Proofs.YtehleeibgkpjmafGreat
/- The document's PackOf, first: what is made ahead of the loops. -/
namespace Go.Proofs.YtehleeibgkpjmafGreat
open Go.RowKit Go.Shelf
set_option maxRecDepth 20000
set_option linter.unusedVariables false
set_option linter.unusedSimpArgs false

theorem ow_newrefs {V X W : World} {D : Nat} {val : Nm → Value} {m : ImgD} (hX : OX X V.heap.size val m) (hbox : X.heap[D]? = some (.cells #[.int .i64 m.guest, val .root, val .slots, val .refs, val .snaps] 27)) (hge : V.heap.size ≤ D) (hfar : ∀ a, LiveX m a → (val a).ownBlock ≠ some D)
    {v : Value} {r : List Int} (hown : W.ownsRow V.heap.size 3 1 v r.length (ints r)) (hblk : ∀ q, q < X.heap.size → (val .refs).ownBlock ≠ some q → W.heap[q]? = X.heap[q]?) (hbel : Below V.heap.size V W) (hv : v.ownBlock = (val .refs).ownBlock ∨ ∀ q, v.ownBlock = some q → X.heap.size ≤ q) :
    OwR V (W.setCell ⟨D, 3, none⟩ v) D { m with refs := r } := by
  have hDl : D < X.heap.size := (Array.getElem?_eq_some_iff.1 hbox).1
  have hlive : ∀ (r' : List Int) a, LiveX { m with refs := r' } a → LiveX m a := fun r' a ha => (liveX_iff (m := m) (m' := { m with refs := r' }) rfl rfl (fun _ => Iff.rfl) a).1 ha
  have h0 := hX.swapRefs (v := .slice none 0 0) (r := []) (World.ownsRow_nil _ _ _ _) (farX_nil _ _ _ _ _)
  have h1 : OX W V.heap.size (upd val .refs (.slice none 0 0)) { m with refs := [] } := h0.blk (fun a ha q hq => by
    by_cases ea : a = .refs
    · subst ea; rw [upd_same] at hq; cases hq
    · rw [upd_other _ _ ea] at hq
      have ha' := hlive [] a ha
      exact hblk q ((hX.row a ha').lt q hq).2 (fun e => hX.apart .refs a (LiveX.refs m) ha' (fun x => ea x.symm) q e hq))
  have h2 := h1.swapRefs (v := v) (r := r) hown (fun b hb hne g hg e => by
    rw [upd_other _ _ hne] at e
    have hb' := hlive [] b hb
    rcases hv with x | x
    · exact hX.apart .refs b (LiveX.refs m) hb' (fun y => hne y.symm) g (x ▸ hg) e
    · have := x g hg; have := ((hX.row b hb').lt g e).2; omega)
  have hfar2 : ∀ a, LiveX { m with refs := r } a → (upd (upd val .refs (.slice none 0 0)) .refs v a).ownBlock ≠ some D := fun a ha e => by
    by_cases ea : a = .refs
    · subst ea; rw [upd_same] at e
      rcases hv with x | x
      · exact hfar .refs (LiveX.refs m) (x ▸ e)
      · have := x D e; omega
    · rw [upd_other _ _ ea, upd_other _ _ ea] at e
      exact hfar a (hlive r a ha) e
  refine ⟨⟨_, h2.far hfar2, ?_, hfar2⟩, hge, hbel.setCell (p := ⟨D, 3, none⟩) hge _⟩
  rw [upd_same, upd_other _ v (a := .refs) (b := .root) (by intro x; cases x), upd_other _ _ (a := .refs) (b := .root) (by intro x; cases x), upd_other _ v (a := .refs) (b := .slots) (by intro x; cases x), upd_other _ _ (a := .refs) (b := .slots) (by intro x; cases x), upd_other _ v (a := .refs) (b := .snaps) (by intro x; cases x), upd_other _ _ (a := .refs) (b := .snaps) (by intro x; cases x)]
  exact cells_set ((hblk D hDl (hfar .refs (LiveX.refs m))).trans hbox) 3 v

structure PkM (w1 X : World) (R : List Int) (oc : Option Value) (os ofr od : Option Nat) : Prop where
  bel : Below w1.heap.size w1 X
  c : ∀ v, oc = some v → X.ownsRow w1.heap.size 3 1 v R.length (ints R)
  s : ∀ g, os = some g → w1.heap.size ≤ g ∧ X.heap[g]? = some (.cells #[.int .i64 0, .string ⟨#[]⟩, .slice none 0 0] 61)
  f : ∀ g, ofr = some g → w1.heap.size ≤ g ∧ X.heap[g]? = some (.cells #[.int .i64 0] 3)
  d : ∀ g, od = some g → w1.heap.size ≤ g ∧ X.heap[g]? = some (.cells #[.int .i64 0, .slice none 0 0, .slice none 0 0, .slice none 0 0, .slice none 0 0] 27)
  cs : ∀ v g, oc = some v → os = some g → v.ownBlock ≠ some g
  cf : ∀ v g, oc = some v → ofr = some g → v.ownBlock ≠ some g
  cd : ∀ v g, oc = some v → od = some g → v.ownBlock ≠ some g
  sf : ∀ g h, os = some g → ofr = some h → g ≠ h
  sd : ∀ g h, os = some g → od = some h → g ≠ h
  fd : ∀ g h, ofr = some g → od = some h → g ≠ h
theorem ltS {X : World} {g : Nat} {o : Obj} (h : X.heap[g]? = some o) : g < X.heap.size := (Array.getElem?_eq_some_iff.1 h).1
theorem PkM.zero (w1 : World) (R : List Int) : PkM w1 w1 R none none none none := ⟨Below.refl _ _, fun _ h => (by cases h), fun _ h => (by cases h), fun _ h => (by cases h), fun _ h => (by cases h), fun _ _ h => (by cases h), fun _ _ h => (by cases h), fun _ _ h => (by cases h), fun _ _ h => (by cases h), fun _ _ h => (by cases h), fun _ _ h => (by cases h)⟩
theorem PkM.on {w1 X Y : World} {R : List Int} {oc : Option Value} {os ofr od : Option Nat} (h : PkM w1 X R oc os ofr od) (hb : Below X.heap.size X Y) : PkM w1 Y R oc os ofr od :=
  ⟨h.bel.trans (hb.mono h.bel.size), fun v e => row_blkS (h.c v e) (fun q hq => hb.block q ((h.c v e).lt q hq).2), fun g e => ⟨(h.s g e).1, (hb.block g (ltS (h.s g e).2)).trans (h.s g e).2⟩, fun g e => ⟨(h.f g e).1, (hb.block g (ltS (h.f g e).2)).trans (h.f g e).2⟩, fun g e => ⟨(h.d g e).1, (hb.block g (ltS (h.d g e).2)).trans (h.d g e).2⟩, h.cs, h.cf, h.cd, h.sf, h.sd, h.fd⟩
theorem PkM.drew {w1 X : World} {R : List Int} {oc : Option Value} {os ofr od : Option Nat} (h : PkM w1 X R oc os ofr od) : PkM w1 X.drew R oc os ofr od := h.on (to_drew (Below.refl _ _))
theorem PkM.addC {w1 X Y : World} {R : List Int} {os ofr od : Option Nat} {v : Value} (h : PkM w1 X R none os ofr od) (hb : Below X.heap.size X Y) (hv : Y.ownsRow (X.heap.size + 1) 3 1 v R.length (ints R)) : PkM w1 Y R (some v) os ofr od := by
  have h' := h.on hb
  have hs := h.bel.size
  refine ⟨h'.bel, fun u e => ?_, h'.s, h'.f, h'.d, fun u g e1 e2 e3 => ?_, fun u g e1 e2 e3 => ?_, fun u g e1 e2 e3 => ?_, h.sf, h.sd, h.fd⟩
  · cases e; exact row_mono hv (by omega)
  · cases e1; have := (hv.lt g e3).1; have := ltS (h.s g e2).2; omega
  · cases e1; have := (hv.lt g e3).1; have := ltS (h.f g e2).2; omega
  · cases e1; have := (hv.lt g e3).1; have := ltS (h.d g e2).2; omega
theorem PkM.addS {w1 X : World} {R : List Int} {oc : Option Value} {ofr od : Option Nat} (h : PkM w1 X R oc none ofr od) : PkM w1 (X.alloc (.cells #[.int .i64 0, .string ⟨#[]⟩, .slice none 0 0] 61)) R oc (some X.heap.size) ofr od := by
  have h' := h.on (Y := X.alloc (.cells #[.int .i64 0, .string ⟨#[]⟩, .slice none 0 0] 61)) ((Below.refl _ _).alloc (Nat.le_refl _) _)
  refine ⟨h'.bel, h'.c, fun g e => ?_, h'.f, h'.d, fun u g e1 e2 e3 => ?_, h.cf, h.cd, fun g q e1 e2 e3 => ?_, fun g q e1 e2 e3 => ?_, h.fd⟩
  · cases e; exact ⟨h.bel.size, World.alloc_heap_new _ _⟩
  · cases e2; have := ((h.c u e1).lt _ e3).2; omega
  · cases e1; have := ltS (h.f q e2).2; omega
  · cases e1; have := ltS (h.d q e2).2; omega
theorem PkM.addF {w1 X : World} {R : List Int} {oc : Option Value} {os od : Option Nat} (h : PkM w1 X R oc os none od) : PkM w1 (X.alloc (.cells #[.int .i64 0] 3)) R oc os (some X.heap.size) od := by
  have h' := h.on (Y := X.alloc (.cells #[.int .i64 0] 3)) ((Below.refl _ _).alloc (Nat.le_refl _) _)
  refine ⟨h'.bel, h'.c, h'.s, fun g e => ?_, h'.d, h.cs, fun u g e1 e2 e3 => ?_, h.cd, fun g q e1 e2 e3 => ?_, h.sd, fun g q e1 e2 e3 => ?_⟩
  · cases e; exact ⟨h.bel.size, World.alloc_heap_new _ _⟩
  · cases e2; have := ((h.c u e1).lt _ e3).2; omega
  · cases e2; have := ltS (h.s g e1).2; omega
  · cases e1; have := ltS (h.d q e2).2; omega
theorem PkM.addD {w1 X : World} {R : List Int} {oc : Option Value} {os ofr : Option Nat} (h : PkM w1 X R oc os ofr none) : PkM w1 (X.alloc (.cells #[.int .i64 0, .slice none 0 0, .slice none 0 0, .slice none 0 0, .slice none 0 0] 27)) R oc os ofr (some X.heap.size) := by
  have h' := h.on (Y := X.alloc (.cells #[.int .i64 0, .slice none 0 0, .slice none 0 0, .slice none 0 0, .slice none 0 0] 27)) ((Below.refl _ _).alloc (Nat.le_refl _) _)
  refine ⟨h'.bel, h'.c, h'.s, h'.f, fun g e => ?_, h.cs, h.cf, fun u g e1 e2 e3 => ?_, h.sf, fun g q e1 e2 e3 => ?_, fun g q e1 e2 e3 => ?_⟩
  · cases e; exact ⟨h.bel.size, World.alloc_heap_new _ _⟩
  · cases e2; have := ((h.c u e1).lt _ e3).2; omega
  · cases e2; have := ltS (h.s g e1).2; omega
  · cases e2; have := ltS (h.f g e1).2; omega
theorem pk_first {w1 X : World} {R : List Int} {va : Value} {gs gf D : Nat} (g : Int) (h : PkM w1 X R (some va) (some gs) (some gf) (some D)) : OwR w1 (((((X.setCell ⟨D, 0, none⟩ (.int .i64 g)).setCell ⟨D, 1, none⟩ (va)).setCell ⟨D, 2, none⟩ (.slice (some ⟨gs, 0, none⟩) 1 1)).setCell ⟨D, 3, none⟩ (.slice (some ⟨gf, 0, none⟩) 1 1)).setCell ⟨D, 4, none⟩ (.slice none 0 0)) D ⟨g, R, [(0, ⟨#[]⟩, [])], [0], []⟩ := by
  obtain ⟨val, hval⟩ : ∃ f : Nm → Value, f = upd (upd (upd valZ .root va) .slots (.slice (some ⟨gs, 0, none⟩) 1 1)) .refs (.slice (some ⟨gf, 0, none⟩) 1 1) := ⟨_, rfl⟩
  have e0 : val .root = va := by rw [hval, upd_other _ _ (by intro x; cases x), upd_other _ _ (by intro x; cases x), upd_same]
  have e1 : val .slots = .slice (some ⟨gs, 0, none⟩) 1 1 := by rw [hval, upd_other _ _ (by intro x; cases x), upd_same]
  have e2 : val .refs = .slice (some ⟨gf, 0, none⟩) 1 1 := by rw [hval, upd_same]
  have e3 : val .snaps = .slice none 0 0 := by rw [hval, upd_other _ _ (by intro x; cases x), upd_other _ _ (by intro x; cases x), upd_other _ _ (by intro x; cases x)]; rfl
  have e4 : val (.tab 0) = .slice none 0 0 := by rw [hval, upd_other _ _ (by intro x; cases x), upd_other _ _ (by intro x; cases x), upd_other _ _ (by intro x; cases x)]; rfl
  have hs := h.s gs rfl
  have hf := h.f gf rfl
  have hd := h.d D rfl
  have hj0 : ∀ j : Nat, j < ([(0, ⟨#[]⟩, [])] : List SlotD).length → j = 0 := fun j hj => by simp at hj; exact hj
  have hX : OX X w1.heap.size val ⟨g, R, [(0, ⟨#[]⟩, [])], [0], []⟩ := by
    refine ⟨fun a ha => ?_, fun a b ha hb hne q hq e => ?_, fun j hj _ => ?_⟩
    · rcases ha.cases with rfl | rfl | rfl | rfl | ⟨j, rfl, hj, ht⟩ | ⟨j, rfl, hj⟩
      · show X.ownsRow w1.heap.size 3 1 (val .root) R.length (ints R)
        rw [e0]; exact h.c va rfl
      · show X.ownsRow w1.heap.size 61 3 (val .slots) 1 [.int .i64 0, .string ⟨#[]⟩, val (.tab 0)]
        rw [e1, e4]
        exact ⟨rfl, .inr ⟨gs, 1, _, rfl, hs.1, hs.2, Nat.le_refl _, by unfold maxLen; omega, rfl, rfl⟩⟩
      · show X.ownsRow w1.heap.size 3 1 (val .refs) 1 [.int .i64 0]
        rw [e2]
        exact ⟨rfl, .inr ⟨gf, 1, _, rfl, hf.1, hf.2, Nat.le_refl _, by unfold maxLen; omega, rfl, rfl⟩⟩
      · show X.ownsRow w1.heap.size 64 3 (val .snaps) 0 []
        rw [e3]; exact World.ownsRow_nil _ _ _ _
      · have := hj0 j hj; subst this; exact absurd rfl ht
      · exact absurd hj (Nat.not_lt_zero _)
    · rcases ha.cases with rfl | rfl | rfl | rfl | ⟨j, rfl, hj, ht⟩ | ⟨j, rfl, hj⟩
      · rw [e0] at hq
        rcases hb.cases with rfl | rfl | rfl | rfl | ⟨j, rfl, hj, ht⟩ | ⟨j, rfl, hj⟩
        · exact hne rfl
        · rw [e1] at e; cases e; exact h.cs va _ rfl rfl hq
        · rw [e2] at e; cases e; exact h.cf va _ rfl rfl hq
        · rw [e3] at e; cases e
        · have := hj0 j hj; subst this; exact absurd rfl ht
        · exact absurd hj (Nat.not_lt_zero _)
      · rw [e1] at hq
        cases hq
        rcases hb.cases with rfl | rfl | rfl | rfl | ⟨j, rfl, hj, ht⟩ | ⟨j, rfl, hj⟩
        · rw [e0] at e; exact h.cs va _ rfl rfl e
        · exact hne rfl
        · rw [e2] at e; cases e; exact h.sf _ _ rfl rfl rfl
        · rw [e3] at e; cases e
        · have := hj0 j hj; subst this; exact absurd rfl ht
        · exact absurd hj (Nat.not_lt_zero _)
      · rw [e2] at hq
        cases hq
        rcases hb.cases with rfl | rfl | rfl | rfl | ⟨j, rfl, hj, ht⟩ | ⟨j, rfl, hj⟩
        · rw [e0] at e; exact h.cf va _ rfl rfl e
        · rw [e1] at e; cases e; exact h.sf _ _ rfl rfl rfl
        · exact hne rfl
        · rw [e3] at e; cases e
        · have := hj0 j hj; subst this; exact absurd rfl ht
        · exact absurd hj (Nat.not_lt_zero _)
      · rw [e3] at hq; cases hq
      · have := hj0 j hj; subst this; exact absurd rfl ht
      · exact absurd hj (Nat.not_lt_zero _)
    · have := hj0 j hj; subst this; exact ⟨none, 0, e4⟩
  have hfar : ∀ a, LiveX (⟨g, R, [(0, ⟨#[]⟩, [])], [0], []⟩ : ImgD) a → (val a).ownBlock ≠ some D := fun a ha e => by
    rcases ha.cases with rfl | rfl | rfl | rfl | ⟨j, rfl, hj, ht⟩ | ⟨j, rfl, hj⟩
    · rw [e0] at e; exact h.cd va _ rfl rfl e
    · rw [e1] at e; cases e; exact h.sd _ _ rfl rfl rfl
    · rw [e2] at e; cases e; exact h.fd _ _ rfl rfl rfl
    · rw [e3] at e; cases e
    · have := hj0 j hj; subst this; exact absurd rfl ht
    · exact absurd hj (Nat.not_lt_zero _)
  refine ⟨⟨val, ((((hX.far hfar).far hfar).far hfar).far hfar).far hfar, ?_, hfar⟩, hd.1, ((((h.bel.setCell (p := ⟨D, 0, none⟩) hd.1 _).setCell (p := ⟨D, 1, none⟩) hd.1 _).setCell (p := ⟨D, 2, none⟩) hd.1 _).setCell (p := ⟨D, 3, none⟩) hd.1 _).setCell (p := ⟨D, 4, none⟩) hd.1 _⟩
  rw [e0, e1, e2, e3]
  exact five_setU hd.2 _ _ _ _ _

-- the image so far
def pkI (L : List SlotD) (k : Nat) : List Nat := (List.range k).filter (kept L)
def pkA (m : ImgD) (k : Nat) : ImgD := ⟨m.guest, m.root.map (ren m.slots), (pkI m.slots k).map (fun j => packS m.slots (m.slots.getD j default)), (pkI m.slots k).map (fun j => m.refs.getD j 0), []⟩
def pkB (m : ImgD) (k : Nat) : ImgD := { packD m with snaps := (m.snaps.take k).map (packN m.slots) }
theorem pkI_succ (L : List SlotD) (k : Nat) : pkI L (k + 1) = if kept L k = true then pkI L k ++ [k] else pkI L k := by
  unfold pkI
  rw [List.range_succ, List.filter_append]
  by_cases h : kept L k = true <;> simp [List.filter_cons, h]
theorem pkA_no (m : ImgD) {k : Nat} (h : kept m.slots k = false) : pkA m (k + 1) = pkA m k := by
  unfold pkA; rw [pkI_succ, if_neg (by rw [h]; decide)]
theorem pkA_yes (m : ImgD) {k : Nat} (h : kept m.slots k = true) : pkA m (k + 1) = { pkA m k with slots := (pkA m k).slots ++ [packS m.slots (m.slots.getD k default)], refs := (pkA m k).refs ++ [m.refs.getD k 0] } := by
  unfold pkA; rw [pkI_succ, if_pos h, List.map_append, List.map_append]; rfl
theorem pkA_end (m : ImgD) : pkA m m.slots.length = pkB m 0 := rfl
theorem pkB_succ (m : ImgD) {k : Nat} (h : k < m.snaps.length) : pkB m (k + 1) = { pkB m k with snaps := (pkB m k).snaps ++ [packN m.slots m.snaps[k]] } := by
  unfold pkB; rw [take_next _ h, List.map_append]; rfl
theorem pkB_end (m : ImgD) : pkB m m.snaps.length = packD m := by unfold pkB; rw [List.take_length]; rfl
theorem pkA_1 {m : ImgD} (hC : checkE m = 0) : pkA m 1 = ⟨m.guest, m.root.map (ren m.slots), [(0, ⟨#[]⟩, [])], [0], []⟩ := by
  have hs := checkE_shape hC
  have h1 := (slotsE_parts (shapeE_zero hs).2.1).1
  have hk := kd_head hs
  have hok : okD (m.slots.getD 0 default) = true := by
    have z2 := (shapeE_zero hs).2.1
    unfold slotsE at z2
    rw [if_pos (slotsE_parts (shapeE_zero hs).2.1)] at z2
    split at z2
    · rename_i hx; exact List.all_eq_true.1 hx.1 _ (getD_mem h1)
    · simp at z2
  have hr : m.refs.getD 0 0 = 0 := by
    have hc : cntL m = m.refs := by
      have hC' := hC
      unfold checkE at hC'
      rw [if_neg (by rw [hs]; simp)] at hC'
      split at hC'
      · simp at hC'
      · rename_i hx; simpa using hx
    rw [← hc]
    rw [cntL_get hs 0 h1]
    rfl
  obtain ⟨⟨a, d, t⟩, hs0⟩ : ∃ s, m.slots.getD 0 default = s := ⟨_, rfl⟩
  unfold kd at hk
  rw [hs0] at hok hk
  have hk : a = 0 := hk
  subst hk
  unfold okD slotOK at hok
  dsimp only at hok
  rw [if_pos rfl] at hok
  obtain ⟨h2, h3⟩ := of_decide_eq_true hok
  have h3 := List.length_eq_zero_iff.1 h3
  have hd : d = ⟨#[]⟩ := by
    obtain ⟨x⟩ := d
    have : x = #[] := Array.eq_empty_of_size_eq_zero h2
    rw [this]
  subst hd h3
  show (⟨m.guest, m.root.map (ren m.slots), [packS m.slots (m.slots.getD 0 default)], [m.refs.getD 0 0], []⟩ : ImgD) = _
  rw [hs0, hr]
  rfl
end Go.Proofs.YtehleeibgkpjmafGreat
