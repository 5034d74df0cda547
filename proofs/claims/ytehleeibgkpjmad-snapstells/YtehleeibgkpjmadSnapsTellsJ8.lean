/- Texts joined: NoT, OxL, OxC, SlotRef, TbdI, TbdJ, OxT, Strs, FlPlain, WrR, WrA, SetI, CpyH, CpyI. -/
import Derived.Test.YtehleeibgkpjmadSnapsTellsJ5
import Derived.Test.YtehleeibgkpjmadSnapsTellsJ7
import Derived.Test.YtehleeibgkpjmadSnapsTellsJ4
import Derived.Test.YtehleeibgkpjmadSnapsTellsJ3
import Derived.Test.YtehleeibgkpjmadSnapsTellsJ1
import Derived.Test.YtehleeibgkpjmadSnapsTellsJ6
import Derived.Deep.RegionHeld3
import Derived.Deep.CutRange
/- The document's image with a snapshot less; with two that stand beside each other exchanged. -/
namespace Go.Proofs.Ytehleeibgkpjmad
open Go.RowKit Go.Shelf
set_option maxRecDepth 20000
set_option linter.unusedVariables false
set_option linter.unusedSimpArgs false

theorem delNm_liveX {m : ImgD} {k : Nat} (hk : k < m.snaps.length) {a : Nm} (h : LiveX (deleteM m k) a) : LiveX m (delNm k a) := by
  have he : (m.snaps.eraseIdx k).length = m.snaps.length - 1 := by rw [List.length_eraseIdx, if_pos hk]
  rcases h with ⟨h1, h2⟩ | ⟨h1, h2⟩ | ⟨h1, h2⟩
  · have : a.kind ≠ 5 := by omega
    unfold delNm; rw [if_neg this]; exact .inl ⟨h1, h2⟩
  · have : a.kind ≠ 5 := by omega
    unfold delNm; rw [if_neg this]; exact .inr (.inl ⟨h1, h2⟩)
  · unfold delNm; rw [if_pos h1]
    have h2 : a.ix < (m.snaps.eraseIdx k).length := h2
    exact LiveX.sr (by unfold skip; split <;> omega)
theorem liveX3 {m : ImgD} {a : Nm} (h : LiveX m a) (e : a.kind = 3) : a = .snaps := live3 h.live e
theorem OX.del {W W' : World} {B k : Nat} {val : Nm → Value} {m : ImgD} {v : Value} (h : OX W B val m) (hk : k < m.snaps.length) (hv : W'.ownsRow B 72 3 v (m.snaps.length - 1) ((flatN m.snaps (fun j => val (.sr j))).take (k * 3) ++ (flatN m.snaps (fun j => val (.sr j))).drop ((k + 1) * 3)))
    (hg : W.grownBy W' (val .snaps).ownBlock) (hb : v.ownBlock = (val .snaps).ownBlock) : OX W' B (delVal val v k) (deleteM m k) := by
  refine ⟨fun a ha => ?_, fun a b ha hb2 hab g hga => ?_, fun j hj he => h.loose j hj he⟩
  · by_cases e : a.kind = 3
    · have ea := liveX3 ha e
      subst ea
      rw [← flatN_erase hk] at hv
      have hl : (deleteM m k).snaps.length = m.snaps.length - 1 := by show (m.snaps.eraseIdx k).length = _; rw [List.length_eraseIdx, if_pos hk]
      show W'.ownsRow B 72 3 v (deleteM m k).snaps.length (flatN (m.snaps.eraseIdx k) (fun j => val (.sr (skip k j))))
      rw [hl]; exact hv
    · have hr := h.row (delNm k a) (delNm_liveX hk ha)
      have hne : (val (delNm k a)).ownBlock = none ∨ (val (delNm k a)).ownBlock ≠ (val .snaps).ownBlock := by
        cases eq : (val (delNm k a)).ownBlock with
        | none => exact .inl rfl
        | some g => exact .inr (fun x => h.apart (delNm k a) .snaps (delNm_liveX hk ha) (LiveX.snaps m) (fun y => e (by rw [← delNm_kind k a, y])) g eq x.symm)
      have hr := hr.kept hg hne
      rw [delVal_eq e]
      have e1 : rowT (delNm k a) = rowT a := by unfold rowT; rw [delNm_kind]
      have e2 : rowS (delNm k a) = rowS a := by unfold rowS; rw [delNm_kind]
      rw [e1, e2] at hr
      rcases ha.cases with rfl | rfl | rfl | rfl | ⟨j, rfl, hj, _⟩ | ⟨j, rfl, hj⟩
      · exact hr
      · exact hr
      · exact hr
      · exact absurd rfl e
      · exact hr
      · have e3 : rowN (deleteM m k) (.sr j) = rowN m (delNm k (.sr j)) := by
          show ((m.snaps.eraseIdx k).getD j default).2.2.length = (m.snaps.getD (skip k j) default).2.2.length
          rw [getD_erase]
        have e4 : rowV (deleteM m k) (delVal val v k) (.sr j) = rowV m val (delNm k (.sr j)) := by
          show ints ((m.snaps.eraseIdx k).getD j default).2.2 = ints (m.snaps.getD (skip k j) default).2.2
          rw [getD_erase]
        rw [e3, e4]; exact hr
  · by_cases ea : a.kind = 3
    · have ea' := liveX3 ha ea
      have eb : b.kind ≠ 3 := fun x => hab (ea'.trans (liveX3 hb2 x).symm)
      subst ea'
      rw [delVal_eq eb]
      exact h.apart .snaps (delNm k b) (LiveX.snaps m) (delNm_liveX hk hb2) (fun y => eb (by rw [← delNm_kind k b, ← y])) g (hb.symm.trans hga)
    · rw [delVal_eq ea] at hga
      by_cases eb : b.kind = 3
      · have eb' := liveX3 hb2 eb
        subst eb'
        intro x
        exact h.apart (delNm k a) .snaps (delNm_liveX hk ha) (LiveX.snaps m) (fun y => ea (by rw [← delNm_kind k a, y])) g hga (hb.symm.trans x)
      · rw [delVal_eq eb]
        exact h.apart _ _ (delNm_liveX hk ha) (delNm_liveX hk hb2) (delNm_inj hab) g hga

theorem row_blkO {W W' : World} {B n size : Nat} {e : TypeId} {v : Value} {xs : List Value} (h : W.ownsRow B e size v n xs) (hb : ∀ g, v.ownBlock = some g → W'.heap[g]? = W.heap[g]?) : W'.ownsRow B e size v n xs := by
  refine ⟨h.1, ?_⟩
  rcases h.2 with hn | ⟨g, cap, cur, hv, hb', hg, rest⟩
  · exact .inl hn
  · exact .inr ⟨g, cap, cur, hv, hb', (hb g (by rw [hv]; rfl)).trans hg, rest⟩
theorem ow_del {V X W' : World} {D k : Nat} {val : Nm → Value} {m : ImgD} {v : Value} (hX : OX X V.heap.size val m) (hbel : Below V.heap.size V X) (hbox : X.heap[D]? = some (.cells #[.int .i64 m.guest, val .root, val .slots, val .refs, val .snaps] 26)) (hge : V.heap.size ≤ D) (hfar : ∀ a, LiveX m a → (val a).ownBlock ≠ some D) (hk : k < m.snaps.length)
    (hv : W'.ownsRow V.heap.size 72 3 v (m.snaps.length - 1) ((flatN m.snaps (fun j => val (.sr j))).take (k * 3) ++ (flatN m.snaps (fun j => val (.sr j))).drop ((k + 1) * 3))) (hg : X.grownBy W' (val .snaps).ownBlock) (hb : v.ownBlock = (val .snaps).ownBlock) :
    OwR V (W'.setCell ⟨D, 4, none⟩ v) D (deleteM m k) := by
  have hDl := (Array.getElem?_eq_some_iff.1 hbox).1
  have hf : ∀ a, LiveX (deleteM m k) a → (delVal val v k a).ownBlock ≠ some D := fun a ha => by
    by_cases e : a.kind = 3
    · have ea := liveX3 ha e
      subst ea
      show v.ownBlock ≠ some D
      rw [hb]; exact hfar .snaps (LiveX.snaps m)
    · rw [delVal_eq e]; exact hfar _ (delNm_liveX hk ha)
  have hO := hX.del hk hv hg hb
  have hbW : Below V.heap.size X W' := Below.grown (Below.refl _ _) hg hbel.size (fun q e => ((hX.row .snaps (LiveX.snaps m)).lt q e).1)
  have hbx := (hg.block D hDl (fun e => hfar .snaps (LiveX.snaps m) e.symm)).trans hbox
  exact ⟨⟨_, hO.far hf, cells_set hbx 4 v, hf⟩, hge, (hbel.trans hbW).setCell (p := ⟨D, 4, none⟩) hge _⟩


def swN (k : Nat) (a : Nm) : Nm := if a.kind = 5 ∧ a.ix = k then .sr (k + 1) else if a.kind = 5 ∧ a.ix = k + 1 then .sr k else a
theorem swN_kind (k : Nat) (a : Nm) : (swN k a).kind = a.kind := by
  unfold swN
  split
  · rename_i e; rw [e.1]
  · split
    · rename_i e; rw [e.1]
    · rfl
theorem swN_other {k : Nat} {a : Nm} (h : a.kind ≠ 5) : swN k a = a := by unfold swN; rw [if_neg (fun e => h e.1), if_neg (fun e => h e.1)]
theorem swN_swN (k : Nat) (a : Nm) : swN k (swN k a) = a := by
  obtain ⟨x, i⟩ := a
  unfold swN
  by_cases h1 : x = 5
  · subst h1
    by_cases h2 : i = k
    · subst h2; simp
    · by_cases h3 : i = k + 1
      · subst h3; simp
      · simp [h2, h3]
  · simp [h1]
def swI (k j : Nat) : Nat := if j = k then k + 1 else if j = k + 1 then k else j
theorem swN_sr (k j : Nat) : swN k (.sr j) = .sr (swI k j) := by
  unfold swN swI
  by_cases h1 : j = k
  · rw [if_pos ⟨rfl, h1⟩, if_pos h1]
  · rw [if_neg (fun e => h1 e.2), if_neg h1]
    by_cases h2 : j = k + 1
    · rw [if_pos ⟨rfl, h2⟩, if_pos h2]
    · rw [if_neg (fun e => h2 e.2), if_neg h2]
def swV (val : Nm → Value) (k : Nat) : Nm → Value := fun a => val (swN k a)
theorem getD_sw {S : List SnapD} {k : Nat} {s : SnapD} (hk : k < S.length) (j : Nat) : (insN k S s).getD j default = (insN (k + 1) S s).getD (swI k j) default := by
  rw [getD_ins s (by omega), getD_ins s (by omega)]
  unfold swI skip2
  by_cases h1 : j = k
  · rw [if_pos h1, if_pos h1, if_pos rfl]
  · rw [if_neg h1, if_neg h1]
    by_cases h2 : j = k + 1
    · rw [if_pos h2, if_neg (by omega), if_neg (by omega), if_pos (by omega)]; congr 1; omega
    · rw [if_neg h2, if_neg h2]
      by_cases h3 : j < k
      · rw [if_pos h3, if_pos (by omega)]
      · rw [if_neg h3, if_neg (by omega)]
theorem swI_lt {k j n : Nat} (hk : k + 1 < n) (hj : j < n) : swI k j < n := by unfold swI; split <;> (try split) <;> omega
theorem liveX_sw {m : ImgD} {k : Nat} {s : SnapD} (hk : k < m.snaps.length) {a : Nm} (h : LiveX (insM m k s) a) : LiveX (insM m (k + 1) s) (swN k a) := by
  have e1 : (insM m k s).snaps.length = m.snaps.length + 1 := insN_length s (by omega)
  have e2 : (insM m (k + 1) s).snaps.length = m.snaps.length + 1 := insN_length s (by omega)
  rcases h with ⟨h1, h2⟩ | ⟨h1, h2⟩ | ⟨h1, h2⟩
  · rw [swN_other (by omega)]; exact .inl ⟨h1, h2⟩
  · rw [swN_other (by omega)]; exact .inr (.inl ⟨h1, h2⟩)
  · obtain ⟨x, i⟩ := a
    dsimp only at h1 h2
    subst h1
    rw [show (⟨5, i⟩ : Nm) = .sr i from rfl, swN_sr]
    exact LiveX.sr (by rw [e2]; exact swI_lt (by omega) (by omega))
theorem flatN_sw {S : List SnapD} {k : Nat} {s : SnapD} (hk : k < S.length) (qv : Nat → Value) : flatN (insN k S s) (fun j => qv (swI k j)) = ((((((flatN (insN (k + 1) S s) qv).set (k * 3) (.string s.1)).set (k * 3 + 1) (.int .i64 s.2.1)).set (k * 3 + 2) (qv (k + 1))).set ((k + 1) * 3) (.string (S.getD k default).1)).set ((k + 1) * 3 + 1) (.int .i64 (S.getD k default).2.1)).set ((k + 1) * 3 + 2) (qv k) := by
  have l1 := insN_length (S := S) (k := k) s (by omega)
  have l2 := insN_length (S := S) (k := k + 1) s (by omega)
  have hL := flatN_length (insN (k + 1) S s) qv
  refine ext3 (n := S.length + 1) (by rw [flatN_length, l1]) (by simp only [List.length_set]; rw [hL, l2]) fun q hq => ?_
  obtain ⟨a, b, c⟩ := flatN_get (S := insN k S s) (qv := fun j => qv (swI k j)) (j := q) (by omega)
  rw [a, b, c, getD_sw hk]
  simp only [List.getElem?_set, List.length_set, hL, l2]
  by_cases h1 : q = k
  · subst h1
    have e : (insN (q + 1) S s).getD (q + 1) default = s := by rw [getD_ins s (by omega), if_pos rfl]
    have es : swI q q = q + 1 := by unfold swI; rw [if_pos rfl]
    rw [es, e]
    refine ⟨?_, ?_, ?_⟩
    · rw [if_neg (by omega), if_neg (by omega), if_neg (by omega), if_neg (by omega), if_neg (by omega), if_pos rfl, if_pos (by omega)]
    · rw [if_neg (by omega), if_neg (by omega), if_neg (by omega), if_neg (by omega), if_pos rfl, if_pos (by omega)]
    · rw [if_neg (by omega), if_neg (by omega), if_neg (by omega), if_pos rfl, if_pos (by omega)]
  · by_cases h2 : q = k + 1
    · subst h2
      have e : (insN (k + 1) S s).getD k default = S.getD k default := by rw [getD_ins s (by omega), if_neg (by omega)]; unfold skip2; rw [if_pos (by omega)]
      have es : swI k (k + 1) = k := by unfold swI; rw [if_neg (by omega), if_pos rfl]
      rw [es, e]
      refine ⟨?_, ?_, ?_⟩
      · rw [if_neg (by omega), if_neg (by omega), if_pos rfl, if_pos (by omega)]
      · rw [if_neg (by omega), if_pos rfl, if_pos (by omega)]
      · rw [if_pos rfl, if_pos (by omega)]
    · have es : swI k q = q := by unfold swI; rw [if_neg h1, if_neg h2]
      obtain ⟨a', b', c'⟩ := flatN_get (S := insN (k + 1) S s) (qv := qv) (j := q) (by omega)
      rw [es]
      refine ⟨?_, ?_, ?_⟩
      · rw [if_neg (by omega), if_neg (by omega), if_neg (by omega), if_neg (by omega), if_neg (by omega), if_neg (by omega), a']
      · rw [if_neg (by omega), if_neg (by omega), if_neg (by omega), if_neg (by omega), if_neg (by omega), if_neg (by omega), b']
      · rw [if_neg (by omega), if_neg (by omega), if_neg (by omega), if_neg (by omega), if_neg (by omega), if_neg (by omega), c']
theorem ow_swap {V X : World} {D k g cap : Nat} {val : Nm → Value} {m : ImgD} {s : SnapD} (hk : k < m.snaps.length) (hX : OX X V.heap.size val (insM m (k + 1) s)) (hbel : Below V.heap.size V X) (hbox : X.heap[D]? = some (.cells #[.int .i64 m.guest, val .root, val .slots, val .refs, val .snaps] 26)) (hge : V.heap.size ≤ D) (hfar : ∀ a, LiveX (insM m (k + 1) s) a → (val a).ownBlock ≠ some D)
    (hv : val .snaps = .slice (some ⟨g, 0, none⟩) (m.snaps.length + 1) cap) :
    OwR V ((((((X.setCell ⟨g, k * 3, none⟩ (.string s.1)).setCell ⟨g, k * 3 + 1, none⟩ (.int .i64 s.2.1)).setCell ⟨g, k * 3 + 2, none⟩ (val (.sr (k + 1)))).setCell ⟨g, (k + 1) * 3, none⟩ (.string (m.snaps.getD k default).1)).setCell ⟨g, (k + 1) * 3 + 1, none⟩ (.int .i64 (m.snaps.getD k default).2.1)).setCell ⟨g, (k + 1) * 3 + 2, none⟩ (val (.sr k))) D (insM m k s) := by
  have hrow : X.ownsRow V.heap.size 72 3 (val .snaps) (insM m (k + 1) s).snaps.length (flatN (insM m (k + 1) s).snaps (fun j => val (.sr j))) := hX.row .snaps (LiveX.snaps _)
  have l1 : (insM m k s).snaps.length = m.snaps.length + 1 := insN_length s (by omega)
  have l2 : (insM m (k + 1) s).snaps.length = m.snaps.length + 1 := insN_length s (by omega)
  rw [l2, hv] at hrow
  have hgV : V.heap.size ≤ g := (row_lt hrow).1
  have hgD : D ≠ g := fun e => hfar .snaps (LiveX.snaps _) (by rw [hv, e]; rfl)
  have hoth : ∀ (W : World) (i : Nat) (u : Value) (q : Nat), q ≠ g → (W.setCell ⟨g, i, none⟩ u).heap[q]? = W.heap[q]? := fun W i u q hq => Below.heap_setCell W ⟨g, i, none⟩ u q hq
  have h6 := (((((((hrow.stored (k * 3) (.string s.1)).1).stored (k * 3 + 1) (.int .i64 s.2.1)).1).stored (k * 3 + 2) (val (.sr (k + 1)))).1).stored ((k + 1) * 3) (.string (m.snaps.getD k default).1)).1
  have h6 := (h6.stored ((k + 1) * 3 + 1) (.int .i64 (m.snaps.getD k default).2.1)).1
  have h6 := (h6.stored ((k + 1) * 3 + 2) (val (.sr k))).1
  have hap : ∀ a, LiveX (insM m (k + 1) s) a → a.kind ≠ 3 → ∀ q, (val a).ownBlock = some q → q ≠ g := fun a ha e q hq x => hX.apart a .snaps ha (LiveX.snaps _) (fun y => e (by rw [y])) q hq (by rw [hv, x]; rfl)
  have hsame : ∀ q, q ≠ g → ((((((X.setCell ⟨g, k * 3, none⟩ (.string s.1)).setCell ⟨g, k * 3 + 1, none⟩ (.int .i64 s.2.1)).setCell ⟨g, k * 3 + 2, none⟩ (val (.sr (k + 1)))).setCell ⟨g, (k + 1) * 3, none⟩ (.string (m.snaps.getD k default).1)).setCell ⟨g, (k + 1) * 3 + 1, none⟩ (.int .i64 (m.snaps.getD k default).2.1)).setCell ⟨g, (k + 1) * 3 + 2, none⟩ (val (.sr k))).heap[q]? = X.heap[q]? := fun q hq => by
    rw [hoth _ _ _ q hq, hoth _ _ _ q hq, hoth _ _ _ q hq, hoth _ _ _ q hq, hoth _ _ _ q hq, hoth _ _ _ q hq]
  have hk3 : ∀ a : Nm, a.kind ≠ 5 → swV val k a = val a := fun a ha => by unfold swV; rw [swN_other ha]
  have hfl : (fun j => swV val k (.sr j)) = fun j => (fun i => val (.sr i)) (swI k j) := by funext j; show val (swN k (.sr j)) = _; rw [swN_sr]
  have hO : OX ((((((X.setCell ⟨g, k * 3, none⟩ (.string s.1)).setCell ⟨g, k * 3 + 1, none⟩ (.int .i64 s.2.1)).setCell ⟨g, k * 3 + 2, none⟩ (val (.sr (k + 1)))).setCell ⟨g, (k + 1) * 3, none⟩ (.string (m.snaps.getD k default).1)).setCell ⟨g, (k + 1) * 3 + 1, none⟩ (.int .i64 (m.snaps.getD k default).2.1)).setCell ⟨g, (k + 1) * 3 + 2, none⟩ (val (.sr k))) V.heap.size (swV val k) (insM m k s) := by
    refine ⟨fun a ha => ?_, fun a b ha hb hab q hq => ?_, fun j hj he => hX.loose j hj he⟩
    · by_cases e : a.kind = 3
      · have ea := liveX3 ha e
        subst ea
        show World.ownsRow _ V.heap.size 72 3 (swV val k .snaps) (insM m k s).snaps.length (flatN (insN k m.snaps s) (fun j => swV val k (.sr j)))
        rw [hfl, flatN_sw hk (fun i => val (.sr i)), l1, hk3 .snaps (by decide), hv]
        exact h6
      · have hl := liveX_sw hk ha
        have hr := hX.row _ hl
        have hr := row_blkO hr (fun q hq => hsame q (hap _ hl (by rw [swN_kind]; exact e) q hq))
        have e1 : rowT (swN k a) = rowT a := by unfold rowT; rw [swN_kind]
        have e2 : rowS (swN k a) = rowS a := by unfold rowS; rw [swN_kind]
        rw [e1, e2] at hr
        rcases ha.cases with rfl | rfl | rfl | rfl | ⟨j, rfl, hj, _⟩ | ⟨j, rfl, hj⟩
        · exact hr
        · exact hr
        · exact hr
        · exact absurd rfl e
        · exact hr
        · have e3 : rowN (insM m k s) (.sr j) = rowN (insM m (k + 1) s) (swN k (.sr j)) := by
            rw [swN_sr]
            show ((insN k m.snaps s).getD j default).2.2.length = ((insN (k + 1) m.snaps s).getD (swI k j) default).2.2.length
            rw [getD_sw hk]
          have e4 : rowV (insM m k s) (swV val k) (.sr j) = rowV (insM m (k + 1) s) val (swN k (.sr j)) := by
            rw [swN_sr]
            show ints ((insN k m.snaps s).getD j default).2.2 = ints ((insN (k + 1) m.snaps s).getD (swI k j) default).2.2
            rw [getD_sw hk]
          rw [e3, e4]; exact hr
    · exact hX.apart _ _ (liveX_sw hk ha) (liveX_sw hk hb) (fun e => hab (by rw [← swN_swN k a, e, swN_swN])) q hq
  have hf : ∀ a, LiveX (insM m k s) a → (swV val k a).ownBlock ≠ some D := fun a ha => hfar _ (liveX_sw hk ha)
  refine ⟨⟨swV val k, hO, ?_, hf⟩, hge, (((((hbel.setCell (p := ⟨g, k * 3, none⟩) hgV _).setCell (p := ⟨g, k * 3 + 1, none⟩) hgV _).setCell (p := ⟨g, k * 3 + 2, none⟩) hgV _).setCell (p := ⟨g, (k + 1) * 3, none⟩) hgV _).setCell (p := ⟨g, (k + 1) * 3 + 1, none⟩) hgV _).setCell (p := ⟨g, (k + 1) * 3 + 2, none⟩) hgV _⟩
  rw [hk3 .root (by decide), hk3 .slots (by decide), hk3 .refs (by decide), hk3 .snaps (by decide)]
  exact (hsame D hgD).trans hbox
end Go.Proofs.Ytehleeibgkpjmad
/- Contract of the document's lay, of an image as the document makes it. -/
namespace Go.Proofs.Ytehleeibgkpjmad
open Go.RowKit Go.Shelf
end Go.Proofs.Ytehleeibgkpjmad
/- Contract of the document's counted, of an image as the document makes it. -/
namespace Go.Proofs.Ytehleeibgkpjmad
open Go.RowKit Go.Shelf
set_option maxRecDepth 20000
set_option linter.unusedVariables false

theorem liveX_frT {m : ImgD} {k : Nat} {a : Nm} (h : LiveX (frT m k) a) : LiveX m a := by
  rcases h.cases with rfl | rfl | rfl | rfl | ⟨j, rfl, hj, hn⟩ | ⟨j, rfl, hj⟩
  · exact LiveX.root m
  · exact LiveX.slots m
  · exact LiveX.refs m
  · exact LiveX.snaps m
  · rw [frT_length] at hj
    refine LiveX.tab ⟨hj, fun e => hn ?_⟩
    show ((frT m k).slots.getD j default).2.2 = []
    rw [frT_get m k hj]
    split
    · rfl
    · exact e
  · exact LiveX.sr hj
theorem liveX_counted {m : ImgD} {a : Nm} (h : LiveX (countedD m) a) : LiveX m a := by
  rw [← frT_end] at h; exact liveX_frT h
structure CtX (w wr : World) (B : Nat) (m : ImgD) (val : Nm → Value) (k : Nat) : Prop where
  own : ∃ vk, OX wr B vk (frT m k) ∧ vk .root = val .root ∧ vk .slots = val .slots ∧ vk .refs = .slice (some ⟨w.heap.size + 4, 0, none⟩) m.slots.length m.slots.length ∧ vk .snaps = val .snaps ∧ (∀ a, LiveX m a → a ≠ .refs → ∀ q, q < w.heap.size + 2 → (∀ b, LiveX m b → (val b).ownBlock ≠ some q) → (vk a).ownBlock ≠ some q)
  box : wr.heap[w.heap.size]? = some (.cells #[.int .i64 m.guest, val .root, val .slots, .slice (some ⟨w.heap.size + 4, 0, none⟩) m.slots.length m.slots.length, val .snaps] 26)
  res : wr.heap[w.heap.size + 1]? = some (.cells #[.int .i64 0, .slice none 0 0, .slice none 0 0, .slice none 0 0, .slice none 0 0] 26)
  bel : Below B w wr
  kep : KeepX w wr m val

set_option maxHeartbeats 4000000 in
theorem countedX_at (m : ImgD) (ra : Option Addr) (rn rc : Nat) (g sc : Nat) (fa : Option Addr) (fn fc : Nat) (na : Option Addr) (nn nc : Nat) (B : Nat) (val : Nm → Value) (w : World) (hO : OX w B val m) (e0 : val .root = .slice ra rn rc) (e1 : val .slots = .slice (some ⟨g, 0, none⟩) m.slots.length sc) (e3 : val .snaps = .slice na nn nc) (hB : B ≤ w.heap.size) (hE : shapeE { m with refs := rfZ m.slots } = 0) :
    Calls Try.prog 63 #[.agg #[.int .i64 m.guest, .slice ra rn rc, .slice (some ⟨g, 0, none⟩) m.slots.length sc, .slice fa fn fc, .slice na nn nc]] w fun r w' => ∃ val', r = .returned (imgV m.guest val') ∧ OX w' B val' (countedD m) ∧ Below B w w' ∧ KeepX w w' m val ∧ SrcX w m val (.slice none 0 0) (countedD m) val' := by
  have m0 : ((w.alloc (.cells #[.int .i64 m.guest, .slice ra rn rc, .slice (some ⟨g, 0, none⟩) m.slots.length sc, .slice fa fn fc, .slice na nn nc] 26)).alloc (.cells #[.int .i64 0, .slice none 0 0, .slice none 0 0, .slice none 0 0, .slice none 0 0] 26)).heap[w.heap.size]? = some (.cells #[.int .i64 m.guest, .slice ra rn rc, .slice (some ⟨g, 0, none⟩) m.slots.length sc, .slice fa fn fc, .slice na nn nc] 26) := cells_alloc (World.alloc_heap_new _ _) _
  have m2 : ((w.alloc (.cells #[.int .i64 m.guest, .slice ra rn rc, .slice (some ⟨g, 0, none⟩) m.slots.length sc, .slice fa fn fc, .slice na nn nc] 26)).alloc (.cells #[.int .i64 0, .slice none 0 0, .slice none 0 0, .slice none 0 0, .slice none 0 0] 26)).heap[w.heap.size + 1]? = some (.cells #[.int .i64 0, .slice none 0 0, .slice none 0 0, .slice none 0 0, .slice none 0 0] 26) := by have := World.alloc_heap_new (w.alloc (.cells #[.int .i64 m.guest, .slice ra rn rc, .slice (some ⟨g, 0, none⟩) m.slots.length sc, .slice fa fn fc, .slice na nn nc] 26)) (.cells #[.int .i64 0, .slice none 0 0, .slice none 0 0, .slice none 0 0, .slice none 0 0] 26); simpa using this
  obtain ⟨c0, c1, c2, c3, c4⟩ := five m0
  have f3 := cells_frozen m0 3
  have h40 : m.slots.length ≤ 40 := (slotsE_parts (shapeE_zero hE).2.1).2
  have h1s : 1 ≤ m.slots.length := (slotsE_parts (shapeE_zero hE).2.1).1
  have hmk := mk_ints m.slots.length h40
  go_enter Try.func63, Try.ntmps63
  have hz0 : ((w.alloc (.cells #[.int .i64 m.guest, .slice ra rn rc, .slice (some ⟨g, 0, none⟩) m.slots.length sc, .slice (some ⟨w.heap.size + 1 + 1, 0, none⟩) m.slots.length m.slots.length, .slice na nn nc] 26)).alloc (.cells #[.int .i64 0, .slice none 0 0, .slice none 0 0, .slice none 0 0, .slice none 0 0] 26)).heap.size = w.heap.size + 1 + 1 := by simp
  have hz1 : (((w.alloc (.cells #[.int .i64 m.guest, .slice ra rn rc, .slice (some ⟨g, 0, none⟩) m.slots.length sc, .slice (some ⟨w.heap.size + 1 + 1, 0, none⟩) m.slots.length m.slots.length, .slice na nn nc] 26)).alloc (.cells #[.int .i64 0, .slice none 0 0, .slice none 0 0, .slice none 0 0, .slice none 0 0] 26)).alloc (.cells (Array.replicate m.slots.length (.int .i64 0)) 3)).heap.size = w.heap.size + 3 := by simp
  have hlz : (rfZ m.slots).length = m.slots.length := by simp [rfZ]
  have hAr : Array.replicate m.slots.length (Value.int .i64 0) = (ints (rfZ m.slots)).toArray := by simp [ints, rfZ]
  have hrow : (((w.alloc (.cells #[.int .i64 m.guest, .slice ra rn rc, .slice (some ⟨g, 0, none⟩) m.slots.length sc, .slice (some ⟨w.heap.size + 1 + 1, 0, none⟩) m.slots.length m.slots.length, .slice na nn nc] 26)).alloc (.cells #[.int .i64 0, .slice none 0 0, .slice none 0 0, .slice none 0 0, .slice none 0 0] 26)).alloc (.cells (Array.replicate m.slots.length (.int .i64 0)) 3)).ownsRow B 3 1 (.slice (some ⟨w.heap.size + 1 + 1, 0, none⟩) m.slots.length m.slots.length) (rfZ m.slots).length (ints (rfZ m.slots)) := by
    have := new_row ((w.alloc (.cells #[.int .i64 m.guest, .slice ra rn rc, .slice (some ⟨g, 0, none⟩) m.slots.length sc, .slice (some ⟨w.heap.size + 1 + 1, 0, none⟩) m.slots.length m.slots.length, .slice na nn nc] 26)).alloc (.cells #[.int .i64 0, .slice none 0 0, .slice none 0 0, .slice none 0 0, .slice none 0 0] 26)) (rfZ m.slots) (by rw [hlz]; omega) (B := B) (by rw [hz0]; omega)
    rw [hz0, hlz] at this
    rw [hAr, hlz]
    exact this
  have hA0 : OX ((w.alloc (.cells #[.int .i64 m.guest, .slice ra rn rc, .slice (some ⟨g, 0, none⟩) m.slots.length sc, .slice (some ⟨w.heap.size + 1 + 1, 0, none⟩) m.slots.length m.slots.length, .slice na nn nc] 26)).alloc (.cells #[.int .i64 0, .slice none 0 0, .slice none 0 0, .slice none 0 0, .slice none 0 0] 26)) B val m := (hO.alloc _).alloc _
  have hZ := (hA0.alloc (.cells (Array.replicate m.slots.length (.int .i64 0)) 3)).swapRefs hrow (farX_new hA0 .refs (fun q e => by cases e; rw [hz0]; exact Nat.le_refl _))
  have hI := hZ.img
  have hcall := countsOf_is hI hE
  have eI : imgV m.guest (upd val .refs (.slice (some ⟨w.heap.size + 1 + 1, 0, none⟩) m.slots.length m.slots.length)) = .agg #[.int .i64 m.guest, .slice ra rn rc, .slice (some ⟨g, 0, none⟩) m.slots.length sc, .slice (some ⟨w.heap.size + 1 + 1, 0, none⟩) m.slots.length m.slots.length, .slice na nn nc] := by
    unfold imgV
    rw [upd_same, upd_other _ _ (by intro x; cases x), upd_other _ _ (by intro x; cases x), upd_other _ _ (by intro x; cases x), e0, e1, e3]
  have hcall : Calls Try.prog 90 #[.agg #[.int .i64 m.guest, .slice ra rn rc, .slice (some ⟨g, 0, none⟩) m.slots.length sc, .slice (some ⟨w.heap.size + 1 + 1, 0, none⟩) m.slots.length m.slots.length, .slice na nn nc]] (((w.alloc (.cells #[.int .i64 m.guest, .slice ra rn rc, .slice (some ⟨g, 0, none⟩) m.slots.length sc, .slice (some ⟨w.heap.size + 1 + 1, 0, none⟩) m.slots.length m.slots.length, .slice na nn nc] 26)).alloc (.cells #[.int .i64 0, .slice none 0 0, .slice none 0 0, .slice none 0 0, .slice none 0 0] 26)).alloc (.cells (Array.replicate m.slots.length (.int .i64 0)) 3)) fun r w' => (r = .returned (.slice (some ⟨w.heap.size + 4, 0, none⟩) m.slots.length m.slots.length) ∧ Hid (LAt w' (w.heap.size + 4) (cntL m))) ∧ Hid (Below (w.heap.size + 3) (((w.alloc (.cells #[.int .i64 m.guest, .slice ra rn rc, .slice (some ⟨g, 0, none⟩) m.slots.length sc, .slice (some ⟨w.heap.size + 1 + 1, 0, none⟩) m.slots.length m.slots.length, .slice na nn nc] 26)).alloc (.cells #[.int .i64 0, .slice none 0 0, .slice none 0 0, .slice none 0 0, .slice none 0 0] 26)).alloc (.cells (Array.replicate m.slots.length (.int .i64 0)) 3)) w') := by
    have h := hcall
    rw [hz1, show imgV ({ m with refs := rfZ m.slots } : ImgD).guest (upd val .refs (.slice (some ⟨w.heap.size + 1 + 1, 0, none⟩) m.slots.length m.slots.length)) = .agg #[.int .i64 m.guest, .slice ra rn rc, .slice (some ⟨g, 0, none⟩) m.slots.length sc, .slice (some ⟨w.heap.size + 1 + 1, 0, none⟩) m.slots.length m.slots.length, .slice na nn nc] from eI] at h
    exact h
  have p0 : (((w.alloc (.cells #[.int .i64 m.guest, .slice ra rn rc, .slice (some ⟨g, 0, none⟩) m.slots.length sc, .slice (some ⟨w.heap.size + 1 + 1, 0, none⟩) m.slots.length m.slots.length, .slice na nn nc] 26)).alloc (.cells #[.int .i64 0, .slice none 0 0, .slice none 0 0, .slice none 0 0, .slice none 0 0] 26)).alloc (.cells (Array.replicate m.slots.length (.int .i64 0)) 3)).heap[w.heap.size]? = some (.cells #[.int .i64 m.guest, .slice ra rn rc, .slice (some ⟨g, 0, none⟩) m.slots.length sc, .slice (some ⟨w.heap.size + 1 + 1, 0, none⟩) m.slots.length m.slots.length, .slice na nn nc] 26) := cells_alloc (cells_alloc (World.alloc_heap_new _ _) _) _
  have p1 : (((w.alloc (.cells #[.int .i64 m.guest, .slice ra rn rc, .slice (some ⟨g, 0, none⟩) m.slots.length sc, .slice (some ⟨w.heap.size + 1 + 1, 0, none⟩) m.slots.length m.slots.length, .slice na nn nc] 26)).alloc (.cells #[.int .i64 0, .slice none 0 0, .slice none 0 0, .slice none 0 0, .slice none 0 0] 26)).alloc (.cells (Array.replicate m.slots.length (.int .i64 0)) 3)).heap[w.heap.size + 1]? = some (.cells #[.int .i64 0, .slice none 0 0, .slice none 0 0, .slice none 0 0, .slice none 0 0] 26) := cells_alloc (by have := World.alloc_heap_new (w.alloc (.cells #[.int .i64 m.guest, .slice ra rn rc, .slice (some ⟨g, 0, none⟩) m.slots.length sc, .slice (some ⟨w.heap.size + 1 + 1, 0, none⟩) m.slots.length m.slots.length, .slice na nn nc] 26)) (.cells #[.int .i64 0, .slice none 0 0, .slice none 0 0, .slice none 0 0, .slice none 0 0] 26); simpa using this) _
  have hfarO : ∀ a, LiveX m a → (val a).ownBlock ≠ some w.heap.size ∧ (val a).ownBlock ≠ some (w.heap.size + 1) := fun a ha => ⟨hO.lt (Nat.le_refl _) a ha, hO.lt (by omega) a ha⟩
  have hBV : Below B w (((w.alloc (.cells #[.int .i64 m.guest, .slice ra rn rc, .slice (some ⟨g, 0, none⟩) m.slots.length sc, .slice (some ⟨w.heap.size + 1 + 1, 0, none⟩) m.slots.length m.slots.length, .slice na nn nc] 26)).alloc (.cells #[.int .i64 0, .slice none 0 0, .slice none 0 0, .slice none 0 0, .slice none 0 0] 26)).alloc (.cells (Array.replicate m.slots.length (.int .i64 0)) 3)) := (((Below.refl B w).alloc hB _).alloc (by simp <;> omega) _).alloc (by simp <;> omega) _
  have hAV : OX (((w.alloc (.cells #[.int .i64 m.guest, .slice ra rn rc, .slice (some ⟨g, 0, none⟩) m.slots.length sc, .slice (some ⟨w.heap.size + 1 + 1, 0, none⟩) m.slots.length m.slots.length, .slice na nn nc] 26)).alloc (.cells #[.int .i64 0, .slice none 0 0, .slice none 0 0, .slice none 0 0, .slice none 0 0] 26)).alloc (.cells (Array.replicate m.slots.length (.int .i64 0)) 3)) B val m := hA0.alloc _
  have hlc : (cntL m).length = m.slots.length := cntL_length m
  clear hI hZ hrow hAr
  go_wp2_with (go_at_call 90; refine hcall.mono ?_; rintro e w3 ⟨⟨rfl, hL⟩, hb3⟩; have q0 := cells_below p0 hb3.out (by omega); have q1 := cells_below p1 hb3.out (by omega); obtain ⟨d0, d1, d2, d3, d4⟩ := five q0; have fz := cells_frozen q0 3)
  have hb3' : Below (((w.alloc (.cells #[.int .i64 m.guest, .slice ra rn rc, .slice (some ⟨g, 0, none⟩) m.slots.length sc, .slice (some ⟨w.heap.size + 1 + 1, 0, none⟩) m.slots.length m.slots.length, .slice na nn nc] 26)).alloc (.cells #[.int .i64 0, .slice none 0 0, .slice none 0 0, .slice none 0 0, .slice none 0 0] 26)).alloc (.cells (Array.replicate m.slots.length (.int .i64 0)) 3)).heap.size (((w.alloc (.cells #[.int .i64 m.guest, .slice ra rn rc, .slice (some ⟨g, 0, none⟩) m.slots.length sc, .slice (some ⟨w.heap.size + 1 + 1, 0, none⟩) m.slots.length m.slots.length, .slice na nn nc] 26)).alloc (.cells #[.int .i64 0, .slice none 0 0, .slice none 0 0, .slice none 0 0, .slice none 0 0] 26)).alloc (.cells (Array.replicate m.slots.length (.int .i64 0)) 3)) w3 := by rw [hz1]; exact hb3.out
  have hO3 : OX w3 B val m := hAV.below hb3'
  have hrc : w3.ownsRow B 3 1 (.slice (some ⟨w.heap.size + 4, 0, none⟩) m.slots.length m.slots.length) (cntL m).length (ints (cntL m)) := by
    have := row_LAt hL.out (B := B) (by omega) (by rw [hlc]; omega)
    rw [hlc] at this ⊢
    exact this
  have hS3 := hO3.swapRefs hrc (farX_new hAV .refs (fun q e => by cases e; rw [hz1]; show w.heap.size + 3 ≤ w.heap.size + 4; omega))
  have hfa : ∀ a, LiveX m a → a ≠ .refs → ∀ q, q < w.heap.size + 2 → (∀ b, LiveX m b → (val b).ownBlock ≠ some q) → (upd val .refs (.slice (some ⟨w.heap.size + 4, 0, none⟩) m.slots.length m.slots.length) a).ownBlock ≠ some q := fun a ha hne q _ hm => by rw [upd_other _ _ hne]; exact hm a ha
  have HFO : Hid (∀ b, LiveX m b → (val b).ownBlock ≠ some (w.heap.size + 1)) := fun b hb => (hfarO b hb).2
  have HS : Hid (CtX w (w3.setCell ⟨w.heap.size, 3, none⟩ (.slice (some ⟨w.heap.size + 4, 0, none⟩) m.slots.length m.slots.length)) B m val 0) := by
    refine ⟨⟨upd val .refs (.slice (some ⟨w.heap.size + 4, 0, none⟩) m.slots.length m.slots.length), ?_, upd_other _ _ (by intro x; cases x), upd_other _ _ (by intro x; cases x), upd_same _ _ _, upd_other _ _ (by intro x; cases x), hfa⟩, ?_, cells_other q1 (by omega) _ _, (hBV.trans (hb3'.mono (by rw [hz1]; omega))).setCell hB _, (KeepX.below ((((KeepX.refl w m val).alloc (Nat.le_refl _) _).alloc (by simp) _).alloc (by simp <;> omega) _) (n := w.heap.size + 3) (by omega) hb3.out).new (Nat.le_refl _)⟩
    · rw [frT_zero]
      refine hS3.far (fun a ha => ?_)
      by_cases e : a = .refs
      · subst e; rw [upd_same]; intro x; have x : w.heap.size + 4 = w.heap.size := Option.some.inj x; omega
      · exact hfa a ha e w.heap.size (by omega) (fun b hb => (hfarO b hb).1)
    · have := cells_set q0 3 (.slice (some ⟨w.heap.size + 4, 0, none⟩) m.slots.length m.slots.length)
      rw [e0, e1, e3]
      exact this
  have HV : Hid (val .root = .slice ra rn rc ∧ val .slots = .slice (some ⟨g, 0, none⟩) m.slots.length sc ∧ val .snaps = .slice na nn nc) := ⟨e0, e1, e3⟩
  have HG : Hid (B ≤ g ∧ g < w.heap.size) := by
    have := hO.row .slots (LiveX.slots m)
    rw [e1] at this
    exact this.lt g rfl
  clear hb3' hO3 hrc hS3 hfa hfarO hBV hAV hA0 hO hE hz0 hz1 hlz hcall hL hb3 q0 q1 d0 d1 d2 d3 d4 fz p0 p1 m0 m2 c0 c1 c2 c3 c4 f3 e0 e1 e3 hmk eI
  go_loopw [3] (fun i wr => ∃ k : Nat, k ≤ m.slots.length ∧ i = .int .i64 k ∧ Hid (CtX w wr B m val k)) (fun i _ => m.slots.length - (intOf i).toNat)
  case atStart => exact ⟨0, Nat.zero_le _, rfl, HS⟩
  case round =>
    obtain ⟨k, hk, rfl, HC⟩ := hrel
    obtain ⟨⟨vk, hOk, v0, v1, v2, v3, hfk⟩, hbox, hres, hbel, hkep⟩ := HC.out
    obtain ⟨e0, e1, e3⟩ := HV.out
    rw [e0] at v0
    rw [e1] at v1
    rw [e3] at v3
    rw [e0, e1, e3] at hbox
    obtain ⟨d0, d1, d2, d3, d4⟩ := five hbox
    have hgl := HG.out
    have g1 : ¬ g = w.heap.size := by omega
    have g2 : ¬ w.heap.size = g := by omega
    have g3 : ¬ g = w.heap.size + 1 := by omega
    have g4 : ¬ w.heap.size + 1 = g := by omega
    by_cases hlk : k < m.slots.length
    · have hki : (k : Int) < (m.slots.length : Int) := by omega
      obtain ⟨x, hx⟩ : ∃ x, x = (cntL m).getD k 0 := ⟨_, rfl⟩
      have cx : wr.cell? ⟨w.heap.size + 4, k, none⟩ = some (.int .i64 x) := by
        have hr := hOk.row .refs (LiveX.refs _)
        rw [v2] at hr
        have hr : wr.ownsRow B 3 1 (.slice (some ⟨w.heap.size + 4, 0, none⟩) m.slots.length m.slots.length) (cntL m).length (ints (cntL m)) := hr
        rw [hlc] at hr
        rw [hx]
        refine (hr.cellAt k (by omega)).trans ?_
        unfold ints
        rw [List.getElem?_map, List.getElem?_eq_getElem (by rw [hlc]; exact hlk)]
        simp [List.getD, hlc, hlk]
      have HX : Hid (x = (cntL m).getD k 0) := hx
      clear hx
      by_cases h0 : x = 0
      · have h0' : (x == 0) = true := by simp [h0]
        have H0 : Hid ((cntL m).getD k 0 = 0) := HX.out.symm.trans h0
        clear h0
        have hls := frT_length m k
        have hr := hOk.row .slots (LiveX.slots _)
        rw [v1] at hr
        obtain ⟨s0, s1, s2⟩ := flatS_get (L := (frT m k).slots) (tv := fun j => vk (.tab j)) (j := k) (by rw [hls]; exact hlk)
        have hr : wr.ownsRow B 52 3 (.slice (some ⟨g, 0, none⟩) m.slots.length sc) m.slots.length (flatS (frT m k).slots (fun j => vk (.tab j))) := by rw [← hls]; rw [← hls] at hr; exact hr
        have t0 : wr.cell? ⟨g, k * 3, none⟩ = some _ := (hr.cellAt (k * 3) (by omega)).trans s0
        have t1 : wr.cell? ⟨g, k * 3 + 1, none⟩ = some _ := (hr.cellAt (k * 3 + 1) (by omega)).trans s1
        have t2 : wr.cell? ⟨g, k * 3 + 2, none⟩ = some _ := (hr.cellAt (k * 3 + 2) (by omega)).trans s2
        have u0 := hr.frozenAt (k * 3)
        have u1 := hr.frozenAt (k * 3 + 1)
        have u2 := hr.frozenAt (k * 3 + 2)
        have HN : Hid (CtX w (((wr.setCell ⟨g, k * 3, none⟩ (.int .i64 0)).setCell ⟨g, k * 3 + 1, none⟩ (.string ⟨#[]⟩)).setCell ⟨g, k * 3 + 2, none⟩ (.slice none 0 0)) B m val (k + 1)) := by
          have hN := hOk.setSlot (t := k) (by rw [hls]; exact hlk) v1 0 ⟨#[]⟩ [] (ev := .slice none 0 0) (World.ownsRow_nil _ _ _ _) (farX_nil _ _ _ _ _)
          refine ⟨⟨upd vk (.tab k) (.slice none 0 0), ?_, (upd_other _ _ (by intro x; cases x)).trans (v0.trans e0.symm), (upd_other _ _ (by intro x; cases x)).trans (v1.trans e1.symm), (upd_other _ _ (by intro x; cases x)).trans v2, (upd_other _ _ (by intro x; cases x)).trans (v3.trans e3.symm), fun a ha hne q hq hm => ?_⟩, ?_, ?_, ((hbel.setCell hgl.1 _).setCell hgl.1 _).setCell hgl.1 _, ((hkep.own (LiveX.slots m) e1).own (LiveX.slots m) e1).own (LiveX.slots m) e1⟩
          · rw [frT_gone m H0.out]; exact hN
          · by_cases e : a = .tab k
            · subst e; rw [upd_same]; intro x; cases x
            · rw [upd_other _ _ e]; exact hfk a ha hne q hq hm
          · rw [e0, e1, e3]
            exact cells_other (cells_other (cells_other hbox g2 _ _) g2 _ _) g2 _ _
          · exact cells_other (cells_other (cells_other hres g4 _ _) g4 _ _) g4 _ _
        clear hkep hOk hbox hres hbel hr s0 s1 s2 e0 e1 e3 v0 v1 v2 v3 hfk HC HX H0 hls
        go_wp2_with fail
        go_roundw
        case rel => exact ⟨k + 1, by omega, by go_num, HN⟩
        case measure => simp [intOf]; omega
      · have h0' : (x == 0) = false := by simp [h0]
        have HN : Hid (CtX w wr B m val (k + 1)) := by
          refine ⟨⟨vk, ?_, v0.trans e0.symm, v1.trans e1.symm, v2, v3.trans e3.symm, hfk⟩, HC.out.box, HC.out.res, HC.out.bel, HC.out.kep⟩
          rw [frT_kept m (fun e => h0 (HX.out.trans e))]
          exact hOk
        clear hkep hOk hbox hres hbel e0 e1 e3 v0 v1 v2 v3 hfk HC HX
        go_wp2_with fail
        go_roundw
        case rel => exact ⟨k + 1, by omega, by go_num, HN⟩
        case measure => simp [intOf]; omega
    · have ek : k = m.slots.length := by omega
      subst ek
      obtain ⟨z0, z1, z2, z3, z4⟩ := five hres
      have y0 := cells_frozen hres 0
      have y1 := cells_frozen hres 1
      have y2 := cells_frozen hres 2
      have y3 := cells_frozen hres 3
      have y4 := cells_frozen hres 4
      have hfr : ∀ a, LiveX (frT m m.slots.length) a → (vk a).ownBlock ≠ some (w.heap.size + 1) := fun a ha => by
        by_cases e : a = .refs
        · subst e; rw [v2]; intro x; have x : w.heap.size + 4 = w.heap.size + 1 := Option.some.inj x; omega
        · exact (hfk a (liveX_frT ha) e _ (by omega) HFO.out)
      have hF : OX wr B vk (frT m m.slots.length) := hOk
      rw [frT_end] at hF hfr
      have HF : Hid (OX wr B vk (countedD m)) := hF
      have hsrc : SrcX w m val (.slice none 0 0) (countedD m) vk := fun q hq _ hm a ha => by
        by_cases e : a = .refs
        · subst e; rw [v2]; intro x; have x : w.heap.size + 4 = q := Option.some.inj x; omega
        · exact hfk a (liveX_counted ha) e q (by omega) hm
      clear hF hOk HC
      go_wp2_with fail
      have hB1 : B ≤ w.heap.size + 1 := by omega
      refine bodyPost_ret (v := .agg #[.int .i64 m.guest, .slice ra rn rc, .slice (some ⟨g, 0, none⟩) m.slots.length sc, .slice (some ⟨w.heap.size + 4, 0, none⟩) m.slots.length m.slots.length, .slice na nn nc]) (by simp [results, Try.results63, go_sem, z0, z1, z2, z3, z4]) rfl ⟨vk, ?_, ((((HF.out.far hfr).far hfr).far hfr).far hfr).far hfr, ((((hbel.setCell hB1 _).setCell hB1 _).setCell hB1 _).setCell hB1 _).setCell hB1 _, ((((hkep.new (by omega)).new (by omega)).new (by omega)).new (by omega)).new (by omega), hsrc⟩
      unfold imgV
      rw [v0, v1, v2, v3]

theorem countedX_is {m : ImgD} {B : Nat} {val : Nm → Value} {w : World} (hO : OX w B val m) (hB : B ≤ w.heap.size) (hE : shapeE { m with refs := rfZ m.slots } = 0) :
    Calls Try.prog 63 #[imgV m.guest val] w fun r w' => ∃ val', r = .returned (imgV m.guest val') ∧ OX w' B val' (countedD m) ∧ Below B w w' ∧ KeepX w w' m val ∧ SrcX w m val (.slice none 0 0) (countedD m) val' := by
  obtain ⟨ra, rc, e0, _⟩ := hO.forms .root (LiveX.root m)
  obtain ⟨sa, sc, e1, hs⟩ := hO.forms .slots (LiveX.slots m)
  obtain ⟨fa, fc, e2, _⟩ := hO.forms .refs (LiveX.refs m)
  obtain ⟨na, nc, e3, _⟩ := hO.forms .snaps (LiveX.snaps m)
  have h1s : 1 ≤ m.slots.length := (slotsE_parts (shapeE_zero hE).2.1).1
  obtain ⟨g, rfl⟩ := hs (by show 0 < m.slots.length; omega)
  have e1 : val .slots = .slice (some ⟨g, 0, none⟩) m.slots.length sc := e1
  unfold imgV
  rw [e0, e1, e2, e3]
  exact countedX_at m ra _ rc g sc fa _ fc na _ nc B val w hO e0 e1 e3 hB hE
end Go.Proofs.Ytehleeibgkpjmad
/- Contracts of the document's GrabOf, UsedOf. -/
namespace Go.Proofs.Ytehleeibgkpjmad
open Go.RowKit
end Go.Proofs.Ytehleeibgkpjmad
/- Contract of the document's tabled: a table is stored. -/
namespace Go.Proofs.Ytehleeibgkpjmad
open Go.RowKit Go.Shelf
end Go.Proofs.Ytehleeibgkpjmad
/- tabled, its ways joined. -/
namespace Go.Proofs.Ytehleeibgkpjmad
open Go.RowKit Go.Shelf
end Go.Proofs.Ytehleeibgkpjmad
/- Contract of the document's tabled, of an image as the document makes it. -/
namespace Go.Proofs.Ytehleeibgkpjmad
open Go.RowKit Go.Shelf
end Go.Proofs.Ytehleeibgkpjmad
/- Slices of strings: what it means that a slice value holds them in a world. -/
namespace Go.Proofs.Ytehleeibgkpjmad
open Go.RowKit
set_option maxRecDepth 20000

def Ss (w : World) (v : Value) (xs : List ByteArray) : Prop :=
  ∃ ao cap, v = .slice ao xs.length cap ∧ xs.length ≤ maxLen ∧ xs.length ≤ cap ∧ (xs ≠ [] → ∃ b off, ao = some ⟨b, off, none⟩ ∧ b < w.heap.size ∧ ∀ j, j < xs.length → w.cell? ⟨b, off + j, none⟩ = some (.string (xs.getD j ByteArray.empty)))

theorem Ss.below {w w1 : World} {v : Value} {xs : List ByteArray} (h : Ss w v xs) (hb : Below w.heap.size w w1) : Ss w1 v xs := by
  obtain ⟨ao, cap, hv, hm, hcp, hc⟩ := h
  refine ⟨ao, cap, hv, hm, hcp, fun hne => ?_⟩
  obtain ⟨b, off, ha, hlt, hcell⟩ := hc hne
  exact ⟨b, off, ha, Nat.lt_of_lt_of_le hlt hb.size, fun j hj => (hb.cell (p := ⟨b, off + j, none⟩) hlt).trans (hcell j hj)⟩

theorem Ss.nil (w : World) : Ss w (.slice none 0 0) [] := ⟨none, 0, rfl, Nat.zero_le _, Nat.zero_le _, fun h => absurd rfl h⟩

theorem Ss.cells {w : World} {ao : Option Addr} {n cap : Nat} {xs : List ByteArray} (h : Ss w (.slice ao n cap) xs) :
    xs.length = n ∧ n ≤ 9223372036854775807 ∧ n ≤ cap ∧ ∀ j, j < n → ∃ b off, ao = some ⟨b, off, none⟩ ∧ b < w.heap.size ∧ w.cell? ⟨b, off + j, none⟩ = some (.string (xs.getD j ByteArray.empty)) := by
  obtain ⟨ao', cap', hv, hm, hcp, hc⟩ := h
  simp only [Value.slice.injEq] at hv
  obtain ⟨rfl, rfl, rfl⟩ := hv
  unfold maxLen at hm
  refine ⟨rfl, by omega, hcp, fun j hj => ?_⟩
  obtain ⟨b, off, rfl, hlt, hcell⟩ := hc (by intro e; rw [e] at hj; simp at hj)
  exact ⟨b, off, rfl, hlt, hcell j hj⟩

theorem Ss.form {w : World} {v : Value} {xs : List ByteArray} (h : Ss w v xs) : ∃ ao cap, v = .slice ao xs.length cap := by
  obtain ⟨ao, cap, hv, _⟩ := h; exact ⟨ao, cap, hv⟩

theorem Ss.at {w : World} {ao : Option Addr} {n cap : Nat} {xs : List ByteArray} (h : Ss w (.slice ao n cap) xs) (hpos : 0 < n) :
    ∃ b off, ao = some ⟨b, off, none⟩ ∧ b < w.heap.size ∧ ∀ j, j < n → w.cell? ⟨b, off + j, none⟩ = some (.string (xs.getD j ByteArray.empty)) := by
  obtain ⟨ao', cap', hv, hm, hcp, hc⟩ := h
  simp only [Value.slice.injEq] at hv
  obtain ⟨rfl, rfl, rfl⟩ := hv
  exact hc (by intro e; rw [e] at hpos; simp at hpos)

theorem Ss.past {w : World} {v : Value} {xs : List ByteArray} (h : Ss w v xs) (o : Obj) : Ss (w.alloc o) v xs := h.below ((Below.refl _ _).alloc (Nat.le_refl _) o)


end Go.Proofs.Ytehleeibgkpjmad
/- Flat images, plainly: what Read, Write and Resize answer, over lists of pages. -/
namespace Go.Proofs.Ytehleeibgkpjmad
open Go.RowKit
end Go.Proofs.Ytehleeibgkpjmad
/- Resizing: what comes is right, and how it is read; the answers of Write, Wipe, Punch, Resize. Plain lists. -/
namespace Go.Proofs.Ytehleeibgkpjmad
open Go.RowKit Go.Shelf
end Go.Proofs.Ytehleeibgkpjmad
/- What Write, Wipe, Punch and Resize answer, plain: it is right, how much greater it is, and how it is read. -/
namespace Go.Proofs.Ytehleeibgkpjmad
open Go.RowKit Go.Shelf
set_option maxRecDepth 20000


end Go.Proofs.Ytehleeibgkpjmad
/- Contract of settled: the counts are told, and what nothing tells is free. -/
namespace Go.Proofs.Ytehleeibgkpjmad
open Go.RowKit Go.Shelf
set_option maxRecDepth 20000

def SetR (v wr : World) (B D : Nat) (m : ImgD) (val : Nm → Value) (q k : Nat) : Prop :=
  ∃ vk, DTo v wr B D m val nilV (frT m k) vk ∧ vk .root = val .root ∧ vk .slots = val .slots ∧ vk .refs = .slice (some ⟨q, 0, none⟩) m.slots.length m.slots.length ∧ vk .snaps = val .snaps

set_option maxHeartbeats 4000000 in
theorem settled_at (m : ImgD) (ra : Option Addr) (rn rc : Nat) (g sc : Nat) (fa : Option Addr) (fn fc : Nat) (na : Option Addr) (nn nc : Nat) (B D : Nat) (val : Nm → Value) (w : World) (hK : DK w B D val m) (e0 : val .root = .slice ra rn rc) (e1 : val .slots = .slice (some ⟨g, 0, none⟩) m.slots.length sc) (e2 : val .refs = .slice fa fn fc) (e3 : val .snaps = .slice na nn nc) (hB : B ≤ w.heap.size) (hE : shapeE m = 0) :
    Calls Try.prog 68 #[.pointer (some ⟨D, 0, none⟩)] w fun r w' => ∃ val', r = .returned (.tuple #[imgV m.guest val', .int .i64 0]) ∧ DTo w w' B D m val nilV (countedD m) val' := by
  have h40 : m.slots.length ≤ 40 := (slotsE_parts (shapeE_zero hE).2.1).2
  have h1s : 1 ≤ m.slots.length := (slotsE_parts (shapeE_zero hE).2.1).1
  have hlc : (cntL m).length = m.slots.length := cntL_length m
  have hDlt := hK.lt
  have hgr := hK.own.row .slots (Live.slots m)
  rw [e1] at hgr
  have hgl := hgr.lt g rfl
  have hDg : g ≠ D := fun e => hK.far .slots (Live.slots m) (by rw [e1, e]; rfl)
  clear hgr
  have hK1 : DK (w.alloc (.cells #[.int .i64 0, .slice none 0 0, .slice none 0 0, .slice none 0 0, .slice none 0 0] 26)) B D val m := hK.alloc _
  obtain ⟨d0, d1, d2, d3, d4⟩ := hK1.five
  have f3 := hK1.frozen 3
  rw [e0] at d1
  rw [e1] at d2
  rw [e2] at d3
  rw [e3] at d4
  have hcall := counts_own hK1.own.img hE
  unfold imgV at hcall
  rw [e0, e1, e2, e3] at hcall
  have hz1 : (w.alloc (.cells #[.int .i64 0, .slice none 0 0, .slice none 0 0, .slice none 0 0, .slice none 0 0] 26)).heap.size = w.heap.size + 1 := by simp
  have mR : (w.alloc (.cells #[.int .i64 0, .slice none 0 0, .slice none 0 0, .slice none 0 0, .slice none 0 0] 26)).heap[w.heap.size]? = some (.cells #[.int .i64 0, .slice none 0 0, .slice none 0 0, .slice none 0 0, .slice none 0 0] 26) := World.alloc_heap_new _ _
  have D1 : ¬ D = w.heap.size := by omega
  have D2 : ¬ w.heap.size = D := by omega
  go_enter Try.func68, Try.ntmps68
  go_wp2_with (go_at_call 40; refine hcall.mono ?_; rintro e w2 ⟨⟨q, hq, rfl, hL⟩, hb2⟩; have hK2 := hK1.below hb2; obtain ⟨c0, c1, c2, c3, c4⟩ := hK2.five; have f2 := hK2.frozen 3; rw [e0] at c1; rw [e1] at c2; rw [e2] at c3; rw [e3] at c4)
  have hb2' : Below (w.alloc (.cells #[.int .i64 0, .slice none 0 0, .slice none 0 0, .slice none 0 0, .slice none 0 0] 26)).heap.size (w.alloc (.cells #[.int .i64 0, .slice none 0 0, .slice none 0 0, .slice none 0 0, .slice none 0 0] 26)) w2 := hb2
  have hq0 := hq
  have hq : w.heap.size + 1 ≤ q := by rw [hz1] at hq; exact hq
  have hrow : w2.ownsRow B 3 1 (.slice (some ⟨q, 0, none⟩) m.slots.length m.slots.length) (cntL m).length (ints (cntL m)) := by
    have := row_LAt hL (B := B) (by omega) (by rw [hlc]; omega)
    rw [hlc] at this ⊢
    exact this
  have hS := (DTo.refl hK1 nilV).below (by rw [hz1]; omega) hb2'
  have hS := hS.swapRefs hrow (far_new hK1.own .refs (fun p e => by cases e; rw [hz1]; exact hq)) (fun e => by have e : q = D := Option.some.inj e; omega) (fun p e => by cases e; rw [hz1]; exact .inr hq)
  have HS : Hid (SetR (w.alloc (.cells #[.int .i64 0, .slice none 0 0, .slice none 0 0, .slice none 0 0, .slice none 0 0] 26)) (w2.setCell ⟨D, 3, none⟩ (.slice (some ⟨q, 0, none⟩) m.slots.length m.slots.length)) B D m val q 0) := by
    refine ⟨upd val .refs (.slice (some ⟨q, 0, none⟩) m.slots.length m.slots.length), ?_, upd_other _ _ (by intro x; cases x), upd_other _ _ (by intro x; cases x), upd_same _ _ _, upd_other _ _ (by intro x; cases x)⟩
    rw [frT_zero]
    exact hS
  have HV : Hid (val .root = .slice ra rn rc ∧ val .slots = .slice (some ⟨g, 0, none⟩) m.slots.length sc ∧ val .snaps = .slice na nn nc) := ⟨e0, e1, e3⟩
  have HK : Hid (DK w B D val m) := hK
  clear hb2' hb2 hrow hS hL hq0 hK1 hK2 c0 c1 c2 c3 c4 d0 d1 d2 d3 d4 f2 f3 hcall hE e0 e1 e2 e3 hK mR hz1
  go_loopw [27] (fun i wr => ∃ k : Nat, k ≤ m.slots.length ∧ i = .int .i64 k ∧ Hid (SetR (w.alloc (.cells #[.int .i64 0, .slice none 0 0, .slice none 0 0, .slice none 0 0, .slice none 0 0] 26)) wr B D m val q k)) (fun i _ => m.slots.length - (intOf i).toNat)
  case atStart => exact ⟨0, Nat.zero_le _, rfl, HS⟩
  case round =>
    obtain ⟨k, hk, rfl, HC⟩ := hrel
    obtain ⟨vk, hT, v0, v1, v2, v3⟩ := HC.out
    obtain ⟨e0, e1, e3⟩ := HV.out
    rw [e0] at v0
    rw [e1] at v1
    rw [e3] at v3
    obtain ⟨d0, d1, d2, d3, d4⟩ := hT.dk.five
    have d0 : wr.cell? ⟨D, 0, none⟩ = some (.int .i64 m.guest) := d0
    rw [v0] at d1
    rw [v1] at d2
    rw [v2] at d3
    rw [v3] at d4
    have hls := frT_length m k
    by_cases hlk : k < m.slots.length
    · have hki : (k : Int) < (m.slots.length : Int) := by omega
      obtain ⟨x, hx⟩ : ∃ x, x = (cntL m).getD k 0 := ⟨_, rfl⟩
      have cx : wr.cell? ⟨q, k, none⟩ = some (.int .i64 x) := by
        have hr := hT.dk.own.row .refs (Live.refs _)
        rw [v2] at hr
        have hr : wr.ownsRow B 3 1 (.slice (some ⟨q, 0, none⟩) m.slots.length m.slots.length) (cntL m).length (ints (cntL m)) := hr
        rw [hlc] at hr
        rw [hx]
        refine (hr.cellAt k (by omega)).trans ?_
        unfold ints
        rw [List.getElem?_map, List.getElem?_eq_getElem (by rw [hlc]; exact hlk)]
        simp [List.getD, hlc, hlk]
      have HX : Hid (x = (cntL m).getD k 0) := hx
      clear hx
      by_cases h0 : x = 0
      · have h0' : (x == 0) = true := by simp [h0]
        have H0 : Hid ((cntL m).getD k 0 = 0) := HX.out.symm.trans h0
        clear h0
        have hr := hT.dk.own.row .slots (Live.slots _)
        rw [v1] at hr
        obtain ⟨s0, s1, s2⟩ := flatS_get (L := (frT m k).slots) (tv := fun j => vk (.tab j)) (j := k) (by rw [hls]; exact hlk)
        have hr : wr.ownsRow B 52 3 (.slice (some ⟨g, 0, none⟩) m.slots.length sc) m.slots.length (flatS (frT m k).slots (fun j => vk (.tab j))) := by rw [← hls]; rw [← hls] at hr; exact hr
        have t0 : wr.cell? ⟨g, k * 3, none⟩ = some _ := (hr.cellAt (k * 3) (by omega)).trans s0
        have t1 : wr.cell? ⟨g, k * 3 + 1, none⟩ = some _ := (hr.cellAt (k * 3 + 1) (by omega)).trans s1
        have t2 : wr.cell? ⟨g, k * 3 + 2, none⟩ = some _ := (hr.cellAt (k * 3 + 2) (by omega)).trans s2
        have u0 := hr.frozenAt (k * 3)
        have u1 := hr.frozenAt (k * 3 + 1)
        have u2 := hr.frozenAt (k * 3 + 2)
        have HN : Hid (SetR (w.alloc (.cells #[.int .i64 0, .slice none 0 0, .slice none 0 0, .slice none 0 0, .slice none 0 0] 26)) (((wr.setCell ⟨g, k * 3, none⟩ (.int .i64 0)).setCell ⟨g, k * 3 + 1, none⟩ (.string ⟨#[]⟩)).setCell ⟨g, k * 3 + 2, none⟩ (.slice none 0 0)) B D m val q (k + 1)) := by
          have hN := hT.setSlot (t := k) (by rw [hls]; exact hlk) v1 0 ⟨#[]⟩ [] (e2 := .slice none 0 0) (World.ownsRow_nil _ _ _ _) (far_nil _ _ _ _ _) (nilV_own _) (fun p e => by cases e)
          refine ⟨upd vk (.tab k) (.slice none 0 0), ?_, (upd_other _ _ (by intro x; cases x)).trans (v0.trans e0.symm), (upd_other _ _ (by intro x; cases x)).trans (v1.trans e1.symm), (upd_other _ _ (by intro x; cases x)).trans v2, (upd_other _ _ (by intro x; cases x)).trans (v3.trans e3.symm)⟩
          rw [frT_gone m H0.out]; exact hN
        clear hT hr s0 s1 s2 e0 e1 e3 v0 v1 v2 v3 HC HX H0 hls
        go_wp2_with fail
        go_roundw
        case rel => exact ⟨k + 1, by omega, by go_num, HN⟩
        case measure => simp [intOf]; omega
      · have h0' : (x == 0) = false := by simp [h0]
        have HN : Hid (SetR (w.alloc (.cells #[.int .i64 0, .slice none 0 0, .slice none 0 0, .slice none 0 0, .slice none 0 0] 26)) wr B D m val q (k + 1)) := by
          refine ⟨vk, ?_, v0.trans e0.symm, v1.trans e1.symm, v2, v3.trans e3.symm⟩
          rw [frT_kept m (fun e => h0 (HX.out.trans e))]
          exact hT
        clear hT e0 e1 e3 v0 v1 v2 v3 HC HX hls
        go_wp2_with fail
        go_roundw
        case rel => exact ⟨k + 1, by omega, by go_num, HN⟩
        case measure => simp [intOf]; omega
    · have ek : k = m.slots.length := by omega
      subst ek
      have hR : wr.heap[w.heap.size]? = some (.cells #[.int .i64 0, .slice none 0 0, .slice none 0 0, .slice none 0 0, .slice none 0 0] 26) := hT.cells (World.alloc_heap_new _ _) (by omega) (nilV_own _) (HK.out.own.lt (Nat.le_refl _))
      obtain ⟨z0, z1, z2, z3, z4⟩ := five hR
      have y0 := cells_frozen hR 0
      have y1 := cells_frozen hR 1
      have y2 := cells_frozen hR 2
      have y3 := cells_frozen hR 3
      have y4 := cells_frozen hR 4
      rw [frT_end] at hT
      have hfr : ∀ a, Live (countedD m) a → (vk a).ownBlock ≠ some w.heap.size := hT.src w.heap.size (by simp) (nilV_own _) (HK.out.own.lt (Nat.le_refl _))
      have HF : Hid (DTo w wr B D m val nilV (countedD m) vk) := DTo.first ((Below.refl _ _).alloc (Nat.le_refl _) _) hB hT (fun p e => by cases e)
      clear hT HC hls
      go_wp2_with fail
      have hn : w.heap.size ≤ w.heap.size := Nat.le_refl _
      refine bodyPost_ret (v := .tuple #[.agg #[.int .i64 m.guest, .slice ra rn rc, .slice (some ⟨g, 0, none⟩) m.slots.length sc, .slice (some ⟨q, 0, none⟩) m.slots.length m.slots.length, .slice na nn nc], .int .i64 0]) (by simp [results, Try.results68, go_sem, z0, z1, z2, z3, z4]) rfl ⟨vk, ?_, ((((HF.out.setNew hB hn D1 hfr).setNew hB hn D1 hfr).setNew hB hn D1 hfr).setNew hB hn D1 hfr).setNew hB hn D1 hfr⟩
      unfold imgV
      rw [v0, v1, v2, v3]

set_option maxHeartbeats 4000000 in
theorem settled_err (m : ImgD) (E : Int) (ra : Option Addr) (rn rc : Nat) (sa : Option Addr) (sn sc : Nat) (fa : Option Addr) (fn fc : Nat) (na : Option Addr) (nn nc : Nat) (B D : Nat) (val : Nm → Value) (w : World) (hK : DK w B D val m) (e0 : val .root = .slice ra rn rc) (e1 : val .slots = .slice sa sn sc) (e2 : val .refs = .slice fa fn fc) (e3 : val .snaps = .slice na nn nc) (hE : shapeE m = E) (hne : (E != 0) = true) :
    Calls Try.prog 68 #[.pointer (some ⟨D, 0, none⟩)] w fun r w' => r = .returned (.tuple #[.agg #[.int .i64 0, nilV, nilV, nilV, nilV], .int .i64 E]) ∧ Below w.heap.size w w' := by
  have hDlt := hK.lt
  have hK1 : DK (w.alloc (.cells #[.int .i64 0, .slice none 0 0, .slice none 0 0, .slice none 0 0, .slice none 0 0] 26)) B D val m := hK.alloc _
  obtain ⟨d0, d1, d2, d3, d4⟩ := hK1.five
  rw [e0] at d1
  rw [e1] at d2
  rw [e2] at d3
  rw [e3] at d4
  have hcall := counts_err hK1.own.img hE hne
  unfold imgV at hcall
  rw [e0, e1, e2, e3] at hcall
  have mR : (w.alloc (.cells #[.int .i64 0, .slice none 0 0, .slice none 0 0, .slice none 0 0, .slice none 0 0] 26)).heap[w.heap.size]? = some (.cells #[.int .i64 0, .slice none 0 0, .slice none 0 0, .slice none 0 0, .slice none 0 0] 26) := World.alloc_heap_new _ _
  have b0 : Below w.heap.size w (w.alloc (.cells #[.int .i64 0, .slice none 0 0, .slice none 0 0, .slice none 0 0, .slice none 0 0] 26)) := (Below.refl _ _).alloc (Nat.le_refl _) _
  clear hE
  go_enter Try.func68, Try.ntmps68
  go_wp2_with (go_at_call 40; refine hcall.mono ?_; rintro e w2 ⟨rfl, hb2⟩; have hR := cells_below mR hb2 (by simp); obtain ⟨z0, z1, z2, z3, z4⟩ := five hR; have y0 := cells_frozen hR 0; have y1 := cells_frozen hR 1; have y2 := cells_frozen hR 2; have y3 := cells_frozen hR 3; have y4 := cells_frozen hR 4)
  have hb := Below.on b0 hb2
  have hn : w.heap.size ≤ w.heap.size := Nat.le_refl _
  refine bodyPost_ret (v := .tuple #[.agg #[.int .i64 0, nilV, nilV, nilV, nilV], .int .i64 E]) (by simp [results, Try.results68, go_sem, z0, z1, z2, z3, z4]) rfl ⟨rfl, ((((hb.setCell hn _).setCell hn _).setCell hn _).setCell hn _).setCell hn _⟩
theorem settled_bad {m : ImgD} {E : Int} {B D : Nat} {val : Nm → Value} {w : World} (hK : DK w B D val m) (hE : shapeE m = E) (hne : E ≠ 0) :
    Calls Try.prog 68 #[.pointer (some ⟨D, 0, none⟩)] w fun r w' => r = .returned (.tuple #[.agg #[.int .i64 0, nilV, nilV, nilV, nilV], .int .i64 E]) ∧ Below w.heap.size w w' := by
  obtain ⟨ra, rc, e0, _⟩ := hK.own.forms .root (Live.root m)
  obtain ⟨sa, sc, e1, _⟩ := hK.own.forms .slots (Live.slots m)
  obtain ⟨fa, fc, e2, _⟩ := hK.own.forms .refs (Live.refs m)
  obtain ⟨na, nc, e3, _⟩ := hK.own.forms .snaps (Live.snaps m)
  exact settled_err m E ra _ rc sa _ sc fa _ fc na _ nc B D val w hK e0 e1 e2 e3 hE (by simpa using hne)
theorem settled_ok {m : ImgD} {B D : Nat} {val : Nm → Value} {w : World} (hK : DK w B D val m) (hB : B ≤ w.heap.size) (hE : shapeE m = 0) :
    Calls Try.prog 68 #[.pointer (some ⟨D, 0, none⟩)] w fun r w' => ∃ val', r = .returned (.tuple #[imgV m.guest val', .int .i64 0]) ∧ DTo w w' B D m val nilV (countedD m) val' := by
  have h1s : 1 ≤ m.slots.length := (slotsE_parts (shapeE_zero hE).2.1).1
  obtain ⟨ra, rc, e0, _⟩ := hK.own.forms .root (Live.root m)
  obtain ⟨sa, sc, e1, hs⟩ := hK.own.forms .slots (Live.slots m)
  obtain ⟨fa, fc, e2, _⟩ := hK.own.forms .refs (Live.refs m)
  obtain ⟨na, nc, e3, _⟩ := hK.own.forms .snaps (Live.snaps m)
  obtain ⟨g, rfl⟩ := hs (by show 0 < m.slots.length; omega)
  exact settled_at m ra _ rc g sc fa _ fc na _ nc B D val w hK e0 e1 e2 e3 hB hE
end Go.Proofs.Ytehleeibgkpjmad
/- Contract of copied: an image of one's own. -/
namespace Go.Proofs.Ytehleeibgkpjmad
open Go.RowKit Go.Shelf
set_option maxRecDepth 20000

def liveH (k l : Nat) (a : Nm) : Prop := (a.kind < 4 ∧ a.ix = 0) ∨ (a.kind = 4 ∧ a.ix < k) ∨ (a.kind = 5 ∧ a.ix < l)
def rowH (m : ImgD) (val : Nm → Value) (tv qv : Nat → Value) (k l : Nat) (a : Nm) : List Value := match a.kind with
  | 0 => ints m.root
  | 1 => flatS m.slots (fun j => if j < k then val (.tab j) else tv j)
  | 2 => ints m.refs
  | 3 => flatN m.snaps (fun j => if j < l then val (.sr j) else qv j)
  | 4 => ints (m.slots.getD a.ix default).2.2
  | _ => ints (m.snaps.getD a.ix default).2.2
structure HC (W : World) (B : Nat) (val : Nm → Value) (m : ImgD) (tv qv : Nat → Value) (k l : Nat) : Prop where
  row : ∀ a, liveH k l a → W.ownsRow B (rowT a) (rowS a) (val a) (rowN m a) (rowH m val tv qv k l a)
  apart : ∀ a b, liveH k l a → liveH k l b → a ≠ b → ∀ g, (val a).ownBlock = some g → (val b).ownBlock ≠ some g
theorem liveH.cases {k l : Nat} {a : Nm} (h : liveH k l a) : a = .root ∨ a = .slots ∨ a = .refs ∨ a = .snaps ∨ (∃ j, a = .tab j ∧ j < k) ∨ ∃ j, a = .sr j ∧ j < l := by
  obtain ⟨x, j⟩ := a
  rcases h with ⟨h1, h2⟩ | ⟨h1, h2⟩ | ⟨h1, h2⟩
  · dsimp only at h1 h2
    subst h2
    match x, h1 with
    | 0, _ => exact .inl rfl
    | 1, _ => exact .inr (.inl rfl)
    | 2, _ => exact .inr (.inr (.inl rfl))
    | 3, _ => exact .inr (.inr (.inr (.inl rfl)))
  · dsimp only at h1 h2; subst h1; exact .inr (.inr (.inr (.inr (.inl ⟨j, rfl, h2⟩))))
  · dsimp only at h1 h2; subst h1; exact .inr (.inr (.inr (.inr (.inr ⟨j, rfl, h2⟩))))
theorem liveH.old {k l : Nat} {a : Nm} (h : liveH (k + 1) l a) (hne : a ≠ .tab k) : liveH k l a := by
  rcases h.cases with rfl | rfl | rfl | rfl | ⟨j, rfl, hj⟩ | ⟨j, rfl, hj⟩
  · exact .inl ⟨by decide, rfl⟩
  · exact .inl ⟨by decide, rfl⟩
  · exact .inl ⟨by decide, rfl⟩
  · exact .inl ⟨by decide, rfl⟩
  · refine .inr (.inl ⟨rfl, ?_⟩)
    rcases Nat.lt_or_ge j k with h | h
    · exact h
    · exact absurd (by rw [show j = k by omega]) hne
  · exact .inr (.inr ⟨rfl, hj⟩)
theorem liveH.old' {k l : Nat} {a : Nm} (h : liveH k (l + 1) a) (hne : a ≠ .sr l) : liveH k l a := by
  rcases h.cases with rfl | rfl | rfl | rfl | ⟨j, rfl, hj⟩ | ⟨j, rfl, hj⟩
  · exact .inl ⟨by decide, rfl⟩
  · exact .inl ⟨by decide, rfl⟩
  · exact .inl ⟨by decide, rfl⟩
  · exact .inl ⟨by decide, rfl⟩
  · exact .inr (.inl ⟨rfl, hj⟩)
  · refine .inr (.inr ⟨rfl, ?_⟩)
    rcases Nat.lt_or_ge j l with h | h
    · exact h
    · exact absurd (by rw [show j = l by omega]) hne
theorem HC.below {W W' : World} {B : Nat} {val : Nm → Value} {m : ImgD} {tv qv : Nat → Value} {k l : Nat} (h : HC W B val m tv qv k l) (hb : Below W.heap.size W W') : HC W' B val m tv qv k l := by
  refine ⟨fun a ha => ?_, h.apart⟩
  have hr := h.row a ha
  refine ⟨hr.1, ?_⟩
  rcases hr.2 with hn | ⟨g, cap, cur, hv, hb', hg, rest⟩
  · exact .inl hn
  · exact .inr ⟨g, cap, cur, hv, hb', (hb.block g (Array.getElem?_eq_some_iff.1 hg).1).trans hg, rest⟩
theorem HC.far {W : World} {B : Nat} {val : Nm → Value} {m : ImgD} {tv qv : Nat → Value} {k l : Nat} (h : HC W B val m tv qv k l) {g i : Nat} {u : Value} (hg : g < B) : HC (W.setCell ⟨g, i, none⟩ u) B val m tv qv k l :=
  ⟨fun a ha => ownsRow_setCell_other (h.row a ha) (fun e => by have := ((h.row a ha).lt g e).1; omega) u, h.apart⟩
theorem HC.done {W : World} {B : Nat} {val : Nm → Value} {m : ImgD} {tv qv : Nat → Value} (h : HC W B val m tv qv m.slots.length m.snaps.length) : OI W B val m := by
  refine ⟨fun a ha => ?_, fun a b ha hb => h.apart a b ha hb⟩
  have e : rowH m val tv qv m.slots.length m.snaps.length a = rowV m val a := by
    rcases ha.cases with rfl | rfl | rfl | rfl | ⟨j, rfl, hj⟩ | ⟨j, rfl, hj⟩ <;> first | rfl | skip
    · show flatS _ _ = flatS _ _
      unfold flatS
      refine congrArg List.flatten (List.map_congr_left fun j hj => ?_)
      dsimp only
      rw [if_pos (List.mem_range.1 hj)]
    · show flatN _ _ = flatN _ _
      unfold flatN
      refine congrArg List.flatten (List.map_congr_left fun j hj => ?_)
      dsimp only
      rw [if_pos (List.mem_range.1 hj)]
  rw [← e]
  exact h.row a ha
theorem flatS_put {L : List SlotD} {tv tv' : Nat → Value} {t : Nat} (htv : ∀ j, j ≠ t → tv' j = tv j) : flatS L tv' = (flatS L tv).set (t * 3 + 2) (tv' t) := by
  apply List.ext_getElem?
  intro i
  have hlen := flatS_length L tv
  rcases Nat.lt_or_ge i (L.length * 3) with hi | hi
  · obtain ⟨j, r, hj, hr, rfl⟩ : ∃ j r, j < L.length ∧ r < 3 ∧ i = j * 3 + r := ⟨i / 3, i % 3, by omega, Nat.mod_lt _ (by decide), by omega⟩
    obtain ⟨a0, a1, a2⟩ := flatS_get (L := L) (tv := tv') hj
    obtain ⟨b0, b1, b2⟩ := flatS_get (L := L) (tv := tv) hj
    by_cases e : t = j
    · subst e
      match r, hr with
      | 0, _ => rw [Nat.add_zero, a0, List.getElem?_set_ne (by omega), b0]
      | 1, _ => rw [a1, List.getElem?_set_ne (by omega), b1]
      | 2, _ => rw [a2, List.getElem?_set_self (by rw [hlen]; omega)]
    · rw [htv j (fun x => e x.symm)] at a2
      rw [List.getElem?_set_ne (by omega)]
      match r, hr with
      | 0, _ => rw [Nat.add_zero, a0, b0]
      | 1, _ => rw [a1, b1]
      | 2, _ => rw [a2, b2]
  · rw [List.getElem?_eq_none (by rw [flatS_length]; exact hi), List.getElem?_eq_none (by rw [List.length_set, flatS_length]; exact hi)]
theorem flatN_put {L : List SnapD} {tv tv' : Nat → Value} {t : Nat} (htv : ∀ j, j ≠ t → tv' j = tv j) : flatN L tv' = (flatN L tv).set (t * 3 + 2) (tv' t) := by
  apply List.ext_getElem?
  intro i
  have hlen := flatN_length L tv
  rcases Nat.lt_or_ge i (L.length * 3) with hi | hi
  · obtain ⟨j, r, hj, hr, rfl⟩ : ∃ j r, j < L.length ∧ r < 3 ∧ i = j * 3 + r := ⟨i / 3, i % 3, by omega, Nat.mod_lt _ (by decide), by omega⟩
    obtain ⟨a0, a1, a2⟩ := flatN_get (S := L) (qv := tv') hj
    obtain ⟨b0, b1, b2⟩ := flatN_get (S := L) (qv := tv) hj
    by_cases e : t = j
    · subst e
      match r, hr with
      | 0, _ => rw [Nat.add_zero, a0, List.getElem?_set_ne (by omega), b0]
      | 1, _ => rw [a1, List.getElem?_set_ne (by omega), b1]
      | 2, _ => rw [a2, List.getElem?_set_self (by rw [hlen]; omega)]
    · rw [htv j (fun x => e x.symm)] at a2
      rw [List.getElem?_set_ne (by omega)]
      match r, hr with
      | 0, _ => rw [Nat.add_zero, a0, b0]
      | 1, _ => rw [a1, b1]
      | 2, _ => rw [a2, b2]
  · rw [List.getElem?_eq_none (by rw [flatN_length]; exact hi), List.getElem?_eq_none (by rw [List.length_set, flatN_length]; exact hi)]
theorem HC.tab {W : World} {B : Nat} {val : Nm → Value} {m : ImgD} {tv qv : Nat → Value} {k l : Nat} (h : HC W B val m tv qv k l) {g n cap : Nat} (hv : val .slots = .slice (some ⟨g, 0, none⟩) n cap) {v : Value} (hr : W.ownsRow B 3 1 v (m.slots.getD k default).2.2.length (ints (m.slots.getD k default).2.2)) (hf : ∀ a, liveH k l a → ∀ q, v.ownBlock = some q → (val a).ownBlock ≠ some q) :
    HC (W.setCell ⟨g, k * 3 + 2, none⟩ v) B (upd val (.tab k) v) m tv qv (k + 1) l := by
  have hsl : liveH k l .slots := .inl ⟨by decide, rfl⟩
  have hvg : v.ownBlock ≠ some g := fun e => hf .slots hsl g e (by rw [hv]; rfl)
  have hnn : n = m.slots.length := by
    rcases row_form (h.row .slots hsl) with ⟨e, _⟩ | ⟨g', cap', e, _⟩
    · rw [hv] at e; simp at e
    · rw [hv] at e; simp at e; exact e.2.1
  refine ⟨fun a ha => ?_, fun a b ha hb hne q hq => ?_⟩
  · by_cases e : a = .tab k
    · subst e
      rw [upd_same]
      exact ownsRow_setCell_other hr hvg v
    · have ha' := ha.old e
      rw [upd_other _ _ e]
      by_cases es : a = .slots
      · subst es
        have hrs := h.row .slots hsl
        have e1 : rowH m (upd val (.tab k) v) tv qv (k + 1) l .slots = (rowH m val tv qv k l .slots).set (k * 3 + 2) v := by
          have := flatS_put (L := m.slots) (tv := fun j => if j < k then val (.tab j) else tv j) (tv' := fun j => if j < k + 1 then upd val (.tab k) v (.tab j) else tv j) (t := k) (fun j hj => by
            by_cases h1 : j < k
            · rw [if_pos (by omega), if_pos h1, upd_other _ _ (by intro x; injection x with _ x; omega)]
            · rw [if_neg (by omega), if_neg h1])
          rw [if_pos (by omega), upd_same] at this
          exact this
        rw [e1]
        have hN : rowN m .slots = n := hnn.symm
        rw [hN, hv] at hrs ⊢
        exact (hrs.stored (k * 3 + 2) v).1
      · have e1 : rowH m (upd val (.tab k) v) tv qv (k + 1) l a = rowH m val tv qv k l a := by
          rcases ha'.cases with rfl | rfl | rfl | rfl | ⟨j, rfl, hj⟩ | ⟨j, rfl, hj⟩ <;> first | rfl | exact absurd rfl es
        rw [e1]
        exact ownsRow_setCell_other (h.row a ha') (h.apart .slots a hsl ha' (fun x => es x.symm) g (by rw [hv]; rfl)) v
  · by_cases e : a = .tab k
    · subst e
      rw [upd_same] at hq
      rw [upd_other _ _ (fun x => hne x.symm)]
      exact hf b (hb.old (fun x => hne x.symm)) q hq
    · rw [upd_other _ _ e] at hq
      by_cases e2 : b = .tab k
      · subst e2; rw [upd_same]; exact fun x => hf a (ha.old e) q x hq
      · rw [upd_other _ _ e2]; exact h.apart a b (ha.old e) (hb.old e2) hne q hq
theorem HC.sr {W : World} {B : Nat} {val : Nm → Value} {m : ImgD} {tv qv : Nat → Value} {k l : Nat} (h : HC W B val m tv qv k l) {g n cap : Nat} (hv : val .snaps = .slice (some ⟨g, 0, none⟩) n cap) {v : Value} (hr : W.ownsRow B 3 1 v (m.snaps.getD l default).2.2.length (ints (m.snaps.getD l default).2.2)) (hf : ∀ a, liveH k l a → ∀ q, v.ownBlock = some q → (val a).ownBlock ≠ some q) :
    HC (W.setCell ⟨g, l * 3 + 2, none⟩ v) B (upd val (.sr l) v) m tv qv k (l + 1) := by
  have hsl : liveH k l .snaps := .inl ⟨by decide, rfl⟩
  have hvg : v.ownBlock ≠ some g := fun e => hf .snaps hsl g e (by rw [hv]; rfl)
  have hnn : n = m.snaps.length := by
    rcases row_form (h.row .snaps hsl) with ⟨e, _⟩ | ⟨g', cap', e, _⟩
    · rw [hv] at e; simp at e
    · rw [hv] at e; simp at e; exact e.2.1
  refine ⟨fun a ha => ?_, fun a b ha hb hne q hq => ?_⟩
  · by_cases e : a = .sr l
    · subst e
      rw [upd_same]
      exact ownsRow_setCell_other hr hvg v
    · have ha' := ha.old' e
      rw [upd_other _ _ e]
      by_cases es : a = .snaps
      · subst es
        have hrs := h.row .snaps hsl
        have e1 : rowH m (upd val (.sr l) v) tv qv k (l + 1) .snaps = (rowH m val tv qv k l .snaps).set (l * 3 + 2) v := by
          have := flatN_put (L := m.snaps) (tv := fun j => if j < l then val (.sr j) else qv j) (tv' := fun j => if j < l + 1 then upd val (.sr l) v (.sr j) else qv j) (t := l) (fun j hj => by
            by_cases h1 : j < l
            · rw [if_pos (by omega), if_pos h1, upd_other _ _ (by intro x; injection x with _ x; omega)]
            · rw [if_neg (by omega), if_neg h1])
          rw [if_pos (by omega), upd_same] at this
          exact this
        rw [e1]
        have hN : rowN m .snaps = n := hnn.symm
        rw [hN, hv] at hrs ⊢
        exact (hrs.stored (l * 3 + 2) v).1
      · have e1 : rowH m (upd val (.sr l) v) tv qv k (l + 1) a = rowH m val tv qv k l a := by
          rcases ha'.cases with rfl | rfl | rfl | rfl | ⟨j, rfl, hj⟩ | ⟨j, rfl, hj⟩ <;> first | rfl | exact absurd rfl es
        rw [e1]
        exact ownsRow_setCell_other (h.row a ha') (h.apart .snaps a hsl ha' (fun x => es x.symm) g (by rw [hv]; rfl)) v
  · by_cases e : a = .sr l
    · subst e
      rw [upd_same] at hq
      rw [upd_other _ _ (fun x => hne x.symm)]
      exact hf b (hb.old' (fun x => hne x.symm)) q hq
    · rw [upd_other _ _ e] at hq
      by_cases e2 : b = .sr l
      · subst e2; rw [upd_same]; exact fun x => hf a (ha.old' e) q x hq
      · rw [upd_other _ _ e2]; exact h.apart a b (ha.old' e) (hb.old' e2) hne q hq
structure Fits (m : ImgD) : Prop where
  root : m.root.length * 8 ≤ room
  slots : m.slots.length * 48 ≤ room
  refs : m.refs.length * 8 ≤ room
  snaps : m.snaps.length * 48 ≤ room
  tab : ∀ j, j < m.slots.length → (m.slots.getD j default).2.2.length * 8 ≤ room
  sr : ∀ j, j < m.snaps.length → (m.snaps.getD j default).2.2.length * 8 ≤ room
def val4 (vr vs vf vn : Value) : Nm → Value := fun a => if a.kind = 0 then vr else if a.kind = 1 then vs else if a.kind = 2 then vf else vn
theorem HC.start {W : World} {B : Nat} {m : ImgD} {tv qv : Nat → Value} {vr vs vf vn : Value} (h0 : W.ownsRow B 3 1 vr m.root.length (ints m.root)) (h1 : W.ownsRow B 52 3 vs m.slots.length (flatS m.slots tv)) (h2 : W.ownsRow B 3 1 vf m.refs.length (ints m.refs)) (h3 : W.ownsRow B 72 3 vn m.snaps.length (flatN m.snaps qv))
    (a01 : ∀ q, vs.ownBlock = some q → vr.ownBlock ≠ some q) (a02 : ∀ q, vf.ownBlock = some q → vr.ownBlock ≠ some q) (a03 : ∀ q, vn.ownBlock = some q → vr.ownBlock ≠ some q) (a12 : ∀ q, vs.ownBlock = some q → vf.ownBlock ≠ some q) (a13 : ∀ q, vn.ownBlock = some q → vs.ownBlock ≠ some q) (a23 : ∀ q, vn.ownBlock = some q → vf.ownBlock ≠ some q) : HC W B (val4 vr vs vf vn) m tv qv 0 0 := by
  refine ⟨fun a ha => ?_, fun a b ha hb hne q hq => ?_⟩
  · rcases ha.cases with rfl | rfl | rfl | rfl | ⟨j, rfl, hj⟩ | ⟨j, rfl, hj⟩
    · exact h0
    · exact h1
    · exact h2
    · exact h3
    · exact absurd hj (Nat.not_lt_zero _)
    · exact absurd hj (Nat.not_lt_zero _)
  · rcases ha.cases with rfl | rfl | rfl | rfl | ⟨j, rfl, hj⟩ | ⟨j, rfl, hj⟩
    · rcases hb.cases with rfl | rfl | rfl | rfl | ⟨j, rfl, hj⟩ | ⟨j, rfl, hj⟩
      · exact absurd rfl hne
      · exact fun x => a01 q x hq
      · exact fun x => a02 q x hq
      · exact fun x => a03 q x hq
      · exact absurd hj (Nat.not_lt_zero _)
      · exact absurd hj (Nat.not_lt_zero _)
    · rcases hb.cases with rfl | rfl | rfl | rfl | ⟨j, rfl, hj⟩ | ⟨j, rfl, hj⟩
      · exact a01 q hq
      · exact absurd rfl hne
      · exact a12 q hq
      · exact fun x => a13 q x hq
      · exact absurd hj (Nat.not_lt_zero _)
      · exact absurd hj (Nat.not_lt_zero _)
    · rcases hb.cases with rfl | rfl | rfl | rfl | ⟨j, rfl, hj⟩ | ⟨j, rfl, hj⟩
      · exact a02 q hq
      · exact fun x => a12 q x hq
      · exact absurd rfl hne
      · exact fun x => a23 q x hq
      · exact absurd hj (Nat.not_lt_zero _)
      · exact absurd hj (Nat.not_lt_zero _)
    · rcases hb.cases with rfl | rfl | rfl | rfl | ⟨j, rfl, hj⟩ | ⟨j, rfl, hj⟩
      · exact a03 q hq
      · exact a13 q hq
      · exact a23 q hq
      · exact absurd rfl hne
      · exact absurd hj (Nat.not_lt_zero _)
      · exact absurd hj (Nat.not_lt_zero _)
    · exact absurd hj (Nat.not_lt_zero _)
    · exact absurd hj (Nat.not_lt_zero _)
end Go.Proofs.Ytehleeibgkpjmad
/- Contract of copied: the walk. -/
namespace Go.Proofs.Ytehleeibgkpjmad
open Go.RowKit Go.Shelf
set_option maxRecDepth 20000

def Cp1 (w : World) (m : ImgD) (sa : Option Addr) (sn sc : Nat) (na : Option Addr) (nn nc : Nat) (wx : World) : Prop := ∃ qa qc ka kc, wx.heap[w.heap.size]? = some (.cells #[.int .i64 m.guest, .slice qa m.root.length qc, .slice sa sn sc, .slice ka m.refs.length kc, .slice na nn nc] 26) ∧ wx.heap[w.heap.size + 1]? = some (.cells #[.int .i64 0, .slice none 0 0, .slice none 0 0, .slice none 0 0, .slice none 0 0] 26) ∧ Below w.heap.size w wx ∧ wx.ownsRow (w.heap.size + 2) 3 1 (.slice qa m.root.length qc) m.root.length (ints m.root) ∧ wx.ownsRow (w.heap.size + 2) 3 1 (.slice ka m.refs.length kc) m.refs.length (ints m.refs) ∧ ∀ q, (Value.slice ka m.refs.length kc).ownBlock = some q → (Value.slice qa m.root.length qc).ownBlock ≠ some q
def Cp2 (w : World) (m : ImgD) (tv qv : Nat → Value) (wx : World) : Prop := ∃ qa qc pa pc ka kc ja jc, wx.heap[w.heap.size]? = some (.cells #[.int .i64 m.guest, .slice qa m.root.length qc, .slice pa m.slots.length pc, .slice ka m.refs.length kc, .slice ja m.snaps.length jc] 26) ∧ wx.heap[w.heap.size + 1]? = some (.cells #[.int .i64 0, .slice none 0 0, .slice none 0 0, .slice none 0 0, .slice none 0 0] 26) ∧ Below w.heap.size w wx ∧ HC wx (w.heap.size + 2) (val4 (.slice qa m.root.length qc) (.slice pa m.slots.length pc) (.slice ka m.refs.length kc) (.slice ja m.snaps.length jc)) m tv qv 0 0
theorem row_apart {W W' : World} {B B' n n' size size' : Nat} {e e' : TypeId} {v v' : Value} {xs xs' : List Value} (h : W.ownsRow B e size v n xs) (h' : W'.ownsRow B' e' size' v' n' xs') (hB : W.heap.size ≤ B') : ∀ q, v'.ownBlock = some q → v.ownBlock ≠ some q := fun q e x => by
  have h1 := (h.lt q x).2
  have h2 := (h'.lt q e).1
  omega
theorem row_keep {W W' : World} {B n size : Nat} {e : TypeId} {v : Value} {xs : List Value} (h : W.ownsRow B e size v n xs) (hb : Below W.heap.size W W') : W'.ownsRow B e size v n xs := by
  refine ⟨h.1, ?_⟩
  rcases h.2 with hn | ⟨g, cap, cur, hv, hb', hg, rest⟩
  · exact .inl hn
  · exact .inr ⟨g, cap, cur, hv, hb', (hb.block g (Array.getElem?_eq_some_iff.1 hg).1).trans hg, rest⟩
theorem row_mono {W : World} {B B' n size : Nat} {e : TypeId} {v : Value} {xs : List Value} (h : W.ownsRow B e size v n xs) (hB : B' ≤ B) : W.ownsRow B' e size v n xs := by
  refine ⟨h.1, ?_⟩
  rcases h.2 with hn | ⟨g, cap, cur, hv, hb', rest⟩
  · exact .inl hn
  · exact .inr ⟨g, cap, cur, hv, Nat.le_trans hB hb', rest⟩

theorem OI.mono {W : World} {B B' : Nat} {val : Nm → Value} {m : ImgD} (h : OI W B val m) (hB : B' ≤ B) : OI W B' val m := ⟨fun a ha => row_mono (h.row a ha) hB, h.apart⟩
structure CpR (w wr : World) (m : ImgD) (tv qv : Nat → Value) (va vb vc vd : Value) (k l : Nat) : Prop where
  own : ∃ val, HC wr (w.heap.size + 2) val m tv qv k l ∧ val .root = va ∧ val .slots = vb ∧ val .refs = vc ∧ val .snaps = vd
  box : wr.heap[w.heap.size]? = some (.cells #[.int .i64 m.guest, va, vb, vc, vd] 26)
  res : wr.heap[w.heap.size + 1]? = some (.cells #[.int .i64 0, .slice none 0 0, .slice none 0 0, .slice none 0 0, .slice none 0 0] 26)
  bel : Below w.heap.size w wr
theorem CpR.below {w wr wr' : World} {m : ImgD} {tv qv : Nat → Value} {va vb vc vd : Value} {k l : Nat} (h : CpR w wr m tv qv va vb vc vd k l) (hb : Below wr.heap.size wr wr') : CpR w wr' m tv qv va vb vc vd k l := by
  obtain ⟨⟨val, hH, e⟩, h1, h2, h3⟩ := h
  exact ⟨⟨val, hH.below hb, e⟩, cells_below h1 hb (Array.getElem?_eq_some_iff.1 h1).1, cells_below h2 hb (Array.getElem?_eq_some_iff.1 h2).1, Below.on h3 hb⟩
theorem CpR.tab {w wr wr' : World} {m : ImgD} {tv qv : Nat → Value} {va vc vd v : Value} {k l g n cap : Nat} (h : CpR w wr m tv qv va (.slice (some ⟨g, 0, none⟩) n cap) vc vd k l) (hb : Below wr.heap.size wr wr') (hr : wr'.ownsRow wr.heap.size 3 1 v (m.slots.getD k default).2.2.length (ints (m.slots.getD k default).2.2)) : CpR w (wr'.setCell ⟨g, k * 3 + 2, none⟩ v) m tv qv va (.slice (some ⟨g, 0, none⟩) n cap) vc vd (k + 1) l := by
  have hk := h.below hb
  obtain ⟨⟨val, hH, e0, e1, e2, e3⟩, h1, h2, h3⟩ := h
  obtain ⟨_, k1, k2, k3⟩ := hk
  have hg := (hH.row .slots (.inl ⟨by decide, rfl⟩)).lt g (by rw [e1]; rfl)
  have hsz : w.heap.size + 2 ≤ wr.heap.size := (Array.getElem?_eq_some_iff.1 h2).1
  refine ⟨⟨upd val (.tab k) v, (hH.below hb).tab e1 (row_mono hr hsz) (fun a ha q hq x => ?_), (upd_other _ _ (by intro x; cases x)).trans e0, (upd_other _ _ (by intro x; cases x)).trans e1, (upd_other _ _ (by intro x; cases x)).trans e2, (upd_other _ _ (by intro x; cases x)).trans e3⟩, cells_other k1 (by omega) _ _, cells_other k2 (by omega) _ _, k3.setCell (by show _ ≤ g; omega) _⟩
  have x1 := ((hH.row a ha).lt q x).2
  have x2 := (hr.lt q hq).1
  omega
theorem CpR.sr {w wr wr' : World} {m : ImgD} {tv qv : Nat → Value} {va vb vc v : Value} {k l g n cap : Nat} (h : CpR w wr m tv qv va vb vc (.slice (some ⟨g, 0, none⟩) n cap) k l) (hb : Below wr.heap.size wr wr') (hr : wr'.ownsRow wr.heap.size 3 1 v (m.snaps.getD l default).2.2.length (ints (m.snaps.getD l default).2.2)) : CpR w (wr'.setCell ⟨g, l * 3 + 2, none⟩ v) m tv qv va vb vc (.slice (some ⟨g, 0, none⟩) n cap) k (l + 1) := by
  have hk := h.below hb
  obtain ⟨⟨val, hH, e0, e1, e2, e3⟩, h1, h2, h3⟩ := h
  obtain ⟨_, k1, k2, k3⟩ := hk
  have hg := (hH.row .snaps (.inl ⟨by decide, rfl⟩)).lt g (by rw [e3]; rfl)
  have hsz : w.heap.size + 2 ≤ wr.heap.size := (Array.getElem?_eq_some_iff.1 h2).1
  refine ⟨⟨upd val (.sr l) v, (hH.below hb).sr e3 (row_mono hr hsz) (fun a ha q hq x => ?_), (upd_other _ _ (by intro x; cases x)).trans e0, (upd_other _ _ (by intro x; cases x)).trans e1, (upd_other _ _ (by intro x; cases x)).trans e2, (upd_other _ _ (by intro x; cases x)).trans e3⟩, cells_other k1 (by omega) _ _, cells_other k2 (by omega) _ _, k3.setCell (by show _ ≤ g; omega) _⟩
  have x1 := ((hH.row a ha).lt q x).2
  have x2 := (hr.lt q hq).1
  omega

set_option maxHeartbeats 4000000 in
theorem copied_at (m : ImgD) (ra : Option Addr) (rn rc : Nat) (sa : Option Addr) (sn sc : Nat) (fa : Option Addr) (fn fc : Nat) (na : Option Addr) (nn nc : Nat) (w : World) (h0 : Sl w (.slice ra rn rc) m.root) (h1 : Slots w (.slice sa sn sc) m.slots) (h2 : Sl w (.slice fa fn fc) m.refs) (h3 : Snaps w (.slice na nn nc) m.snaps) (hF : Fits m) :
    Calls Try.prog 67 #[.agg #[.int .i64 m.guest, .slice ra rn rc, .slice sa sn sc, .slice fa fn fc, .slice na nn nc]] w fun r w' => ∃ val, r = .returned (imgV m.guest val) ∧ OI w' w.heap.size val m ∧ Below w.heap.size w w' := by
  have m0 : ((w.alloc (.cells #[.int .i64 m.guest, .slice ra rn rc, .slice sa sn sc, .slice fa fn fc, .slice na nn nc] 26)).alloc (.cells #[.int .i64 0, .slice none 0 0, .slice none 0 0, .slice none 0 0, .slice none 0 0] 26)).heap[w.heap.size]? = some (.cells #[.int .i64 m.guest, .slice ra rn rc, .slice sa sn sc, .slice fa fn fc, .slice na nn nc] 26) := cells_alloc (World.alloc_heap_new _ _) _
  have mz : ((w.alloc (.cells #[.int .i64 m.guest, .slice ra rn rc, .slice sa sn sc, .slice fa fn fc, .slice na nn nc] 26)).alloc (.cells #[.int .i64 0, .slice none 0 0, .slice none 0 0, .slice none 0 0, .slice none 0 0] 26)).heap[w.heap.size + 1]? = some (.cells #[.int .i64 0, .slice none 0 0, .slice none 0 0, .slice none 0 0, .slice none 0 0] 26) := by have := World.alloc_heap_new (w.alloc (.cells #[.int .i64 m.guest, .slice ra rn rc, .slice sa sn sc, .slice fa fn fc, .slice na nn nc] 26)) (.cells #[.int .i64 0, .slice none 0 0, .slice none 0 0, .slice none 0 0, .slice none 0 0] 26); simpa using this
  obtain ⟨c0, c1, c2, c3, c4⟩ := five m0
  have b0 : Below w.heap.size w ((w.alloc (.cells #[.int .i64 m.guest, .slice ra rn rc, .slice sa sn sc, .slice fa fn fc, .slice na nn nc] 26)).alloc (.cells #[.int .i64 0, .slice none 0 0, .slice none 0 0, .slice none 0 0, .slice none 0 0] 26)) := ((Below.refl _ _).alloc (Nat.le_refl _) _).alloc (by simp) _
  obtain ⟨W0, hW0⟩ : ∃ W0, ((w.alloc (.cells #[.int .i64 m.guest, .slice ra rn rc, .slice sa sn sc, .slice fa fn fc, .slice na nn nc] 26)).alloc (.cells #[.int .i64 0, .slice none 0 0, .slice none 0 0, .slice none 0 0, .slice none 0 0] 26)) = W0 := ⟨_, rfl⟩
  go_enter Try.func67, Try.ntmps67
  go_upto_region 1 with fail
  rw [hW0] at m0 mz c0 c1 c2 c3 c4 b0
  have hz0 : w.heap.size + 2 ≤ W0.heap.size := by rw [← hW0]; simp
  clear hW0
  go_cut [] from 7 (fun wx => Cp1 w m sa sn sc na nn nc wx)
  case first =>
    go_region_with
      (first
        | (go_at_call 53; refine (clone_ints (h0.below (to_drew b0)) hF.root).mono ?_; rintro e w1 ⟨vr, rfl, hr0, bb1⟩; have bb1 := below_drew bb1; have m1 := cells_below m0 bb1 (by omega); have mz1 := cells_below mz bb1 (by omega); obtain ⟨d0, d1, d2, d3, d4⟩ := five m1; obtain ⟨qa, qc, rfl⟩ := row_slice hr0)
        | (go_at_call 53; refine (clone_ints ((h2.below b0).below bb1) hF.refs).mono ?_; rintro e w2 ⟨vf, rfl, hr2, bb2⟩; have m2 := cells_below m1 bb2 (Array.getElem?_eq_some_iff.1 m1).1; have mz2 := cells_below mz1 bb2 (Array.getElem?_eq_some_iff.1 mz1).1; obtain ⟨g0, g1, g2, g3, g4⟩ := five m2; have f1 := cells_frozen m2 1; have f3 := cells_frozen m2 3; obtain ⟨ka, kc, rfl⟩ := row_slice hr2))
    all_goals
      go_wp2_with fail
      go_meet
      have hz1 : w.heap.size + 2 ≤ w1.heap.size := Nat.le_trans hz0 bb1.size
      have hr0' : W0.heap.size = W0.drew.heap.size := rfl
      have hr0a := hr0
      have hr0 := row_mono (row_keep hr0 bb2) (B' := w.heap.size + 2) (by rw [← hr0']; exact hz0)
      have hr2' := row_mono hr2 (B' := w.heap.size + 2) hz1
      refine ⟨qa, qc, ka, kc, ?_, cells_other (cells_other mz2 (by omega) _ _) (by omega) _ _, ((Below.on b0 (Below.on bb1 bb2)).setCell (Nat.le_refl _) _).setCell (Nat.le_refl _) _, ownsRow_setCell_below (ownsRow_setCell_below hr0 (show w.heap.size < w.heap.size + 2 by omega) _) (show w.heap.size < w.heap.size + 2 by omega) _, ownsRow_setCell_below (ownsRow_setCell_below hr2' (show w.heap.size < w.heap.size + 2 by omega) _) (show w.heap.size < w.heap.size + 2 by omega) _, ?_⟩
      · exact cells_set (cells_set m2 1 _) 3 _
      · exact row_apart hr0a hr2 (Nat.le_refl _)
  case rest =>
  obtain ⟨qa, qc, ka, kc, m1, mz1, b1, hr0, hr2, ap⟩ := hcut
  obtain ⟨d0, d1, d2, d3, d4⟩ := five m1
  have hN1 : w.heap.size + 2 ≤ wc.heap.size := (Array.getElem?_eq_some_iff.1 mz1).1
  obtain ⟨tv, htv, hcs⟩ := clone_slots h1 hF.slots
  obtain ⟨qv, hqv, hcn⟩ := clone_snaps h3 hF.snaps
  clear h0 h2 m0 mz c0 c1 c2 c3 c4 b0 hz0
  go_upto_region 2 with fail
  go_cut [] from 15 (fun wx => Cp2 w m tv qv wx)
  case first =>
    go_region_with
      (first
        | (go_at_call 96; refine (hcs _ (to_drew b1)).mono ?_; rintro e w1 ⟨vr, rfl, hr1, bb1⟩; have bb1 := below_drew bb1; have m2 := cells_below m1 bb1 (by omega); have mz2 := cells_below mz1 bb1 (by omega); obtain ⟨g0, g1, g2, g3, g4⟩ := five m2; obtain ⟨pa, pc, rfl⟩ := row_slice hr1)
        | (go_at_call 97; refine (hcn _ (Below.on b1 bb1)).mono ?_; rintro e w2 ⟨vf, rfl, hr3, bb2⟩; have m3 := cells_below m2 bb2 (Array.getElem?_eq_some_iff.1 m2).1; have mz3 := cells_below mz2 bb2 (Array.getElem?_eq_some_iff.1 mz2).1; obtain ⟨i0, i1, i2, i3, i4⟩ := five m3; have f2 := cells_frozen m3 2; have f4 := cells_frozen m3 4; obtain ⟨ja, jc, rfl⟩ := row_slice hr3))
    all_goals
      go_wp2_with fail
      go_meet
      have hz1 : w.heap.size + 2 ≤ w1.heap.size := Nat.le_trans hN1 bb1.size
      have hdz : wc.heap.size = wc.drew.heap.size := rfl
      have bb12 := Below.on bb1 bb2
      have r1' := row_mono (row_keep hr1 bb2) (B' := w.heap.size + 2) (by rw [← hdz]; exact hN1)
      have r3' := row_mono hr3 (B' := w.heap.size + 2) hz1
      have r0' := row_keep hr0 bb12
      have r2' := row_keep hr2 bb12
      have hset : ∀ {B n size : Nat} {e : TypeId} {v : Value} {xs : List Value} {u u' : Value}, w2.ownsRow B e size v n xs → w.heap.size < B → ((w2.setCell ⟨w.heap.size, 2, none⟩ u).setCell ⟨w.heap.size, 4, none⟩ u').ownsRow B e size v n xs := fun h hB => ownsRow_setCell_below (ownsRow_setCell_below h hB _) hB _
      have hbz : Below w.heap.size w ((w2.setCell ⟨w.heap.size, 2, none⟩ (.slice pa m.slots.length pc)).setCell ⟨w.heap.size, 4, none⟩ (.slice ja m.snaps.length jc)) := ((Below.on b1 bb12).setCell (Nat.le_refl _) _).setCell (Nat.le_refl _) _
      have hlt : w.heap.size < w.heap.size + 2 := by omega
      have r0a := row_keep hr0 bb1
      have r2a := row_keep hr2 bb1
      refine ⟨qa, qc, pa, pc, ka, kc, ja, jc, ?_, cells_other (cells_other mz3 (by omega) _ _) (by omega) _ _, hbz, HC.start (hset r0' hlt) (hset r1' hlt) (hset r2' hlt) (hset r3' hlt) (row_apart hr0 hr1 (Nat.le_refl _)) ap (row_apart r0a hr3 (Nat.le_refl _)) (row_apart hr2 hr1 (Nat.le_refl _)) (row_apart hr1 hr3 (Nat.le_refl _)) (row_apart r2a hr3 (Nat.le_refl _))⟩
      exact cells_set (cells_set m3 2 _) 4 _
  case rest =>
  obtain ⟨qa, qc, pa, pc, ka, kc, ja, jc, m2, mz2, b2, hH⟩ := hcut
  have HS : Hid (CpR w wc m tv qv (.slice qa m.root.length qc) (.slice pa m.slots.length pc) (.slice ka m.refs.length kc) (.slice ja m.snaps.length jc) 0 0) := ⟨⟨_, hH, rfl, rfl, rfl, rfl⟩, m2, mz2, b2⟩
  have HT : Hid (∀ j, j < m.slots.length → Sl w (tv j) (m.slots.getD j default).2.2) := htv
  have HQ : Hid (∀ j, j < m.snaps.length → Sl w (qv j) (m.snaps.getD j default).2.2) := hqv
  have HL : Hid (m.slots.length ≤ 9223372036854775807 ∧ m.snaps.length ≤ 9223372036854775807) := ⟨h1.small, h3.small⟩
  obtain ⟨e0, e1, e2, e3, e4⟩ := five m2
  clear hH m2 mz2 b2 htv hqv hcs hcn h1 h3 d0 d1 d2 d3 d4 m1 mz1 b1 hr0 hr2 ap hN1
  go_wp2_with fail
  clear e0 e1 e2 e3 e4
  go_loopw [26] (fun i wr => ∃ k : Nat, k ≤ m.slots.length ∧ i = .int .i64 k ∧ Hid (CpR w wr m tv qv (.slice qa m.root.length qc) (.slice pa m.slots.length pc) (.slice ka m.refs.length kc) (.slice ja m.snaps.length jc) k 0)) (fun i _ => m.slots.length - (intOf i).toNat)
  case atStart => exact ⟨0, Nat.zero_le _, rfl, HS⟩
  case round =>
    obtain ⟨k, hk, rfl, HC⟩ := hrel
    by_cases hlk : k < m.slots.length
    · obtain ⟨g, rfl⟩ : ∃ g, pa = some ⟨g, 0, none⟩ := by
        obtain ⟨⟨val, hH, _, e1, _⟩, _⟩ := HC.out
        have hr := hH.row .slots (.inl ⟨by decide, rfl⟩)
        rw [e1] at hr
        rcases row_form hr with ⟨e, hn⟩ | ⟨g, cap, e, _⟩
        · have hn : m.slots.length = 0 := hn
          omega
        · simp at e; exact ⟨g, e.1⟩
      obtain ⟨s, hs⟩ : ∃ s, s = m.slots.getD k default := ⟨_, rfl⟩
      obtain ⟨kk, dd, tt⟩ := s
      have hSl := HT.out k hlk
      obtain ⟨ta, tc, htv⟩ := hSl.form
      have HSl : Hid (Sl w (.slice ta tt.length tc) tt ∧ tv k = .slice ta tt.length tc) := by rw [← hs] at hSl htv; exact ⟨htv ▸ hSl, htv⟩
      have HK : Hid ((kk, dd, tt) = m.slots.getD k default) := hs
      clear hs hSl htv
      have hki : (k : Int) < (m.slots.length : Int) := by omega
      have hL := HL.out.1
      have hL1 : (k : Int) + 1 ≤ 9223372036854775807 := by omega
      obtain ⟨⟨val, hH, _, e1, _⟩, hbox, hres, hbel⟩ := HC.out
      have hr := hH.row .slots (.inl ⟨by decide, rfl⟩)
      rw [e1] at hr
      have hr : wr.ownsRow (w.heap.size + 2) 52 3 (.slice (some ⟨g, 0, none⟩) m.slots.length pc) m.slots.length (flatS m.slots (fun j => if j < k then val (.tab j) else tv j)) := hr
      have hgl := hr.lt g rfl
      obtain ⟨s0, s1, s2⟩ := flatS_get (L := m.slots) (tv := fun j => if j < k then val (.tab j) else tv j) (j := k) hlk
      rw [← HK.out] at s0 s1
      rw [if_neg (Nat.lt_irrefl k), HSl.out.2] at s2
      have t0 : wr.cell? ⟨g, k * 3, none⟩ = some (.int .i64 kk) := (hr.cellAt (k * 3) (by omega)).trans s0
      have t1 : wr.cell? ⟨g, k * 3 + 1, none⟩ = some (.string dd) := (hr.cellAt (k * 3 + 1) (by omega)).trans s1
      have t2 : wr.cell? ⟨g, k * 3 + 2, none⟩ = some (.slice ta tt.length tc) := (hr.cellAt (k * 3 + 2) (by omega)).trans s2
      have hA := Below.heap_alloc wr (.cells #[.int .i64 kk, .string dd, .slice ta tt.length tc] 52)
      have ba : Below wr.heap.size wr (wr.alloc (.cells #[.int .i64 kk, .string dd, .slice ta tt.length tc] 52)) := (Below.refl _ _).alloc (Nat.le_refl _) _
      have hNr : w.heap.size + 2 ≤ wr.heap.size := (Array.getElem?_eq_some_iff.1 hres).1
      obtain ⟨x0, x1, x2, x3, x4⟩ := five (cells_below hbox ba (by omega))
      have ms : (wr.alloc (.cells #[.int .i64 kk, .string dd, .slice ta tt.length tc] 52)).heap[wr.heap.size]? = some (.cells #[.int .i64 kk, .string dd, .slice ta tt.length tc] 52) := World.alloc_heap_new _ _
      obtain ⟨y0, y1, y2⟩ := three ms
      have hcl := clone_ints (w := (wr.alloc (.cells #[.int .i64 kk, .string dd, .slice ta tt.length tc] 52)).drew) ((HSl.out.1.below hbel).below (to_drew ba)) (by have := hF.tab k hlk; rw [← HK.out] at this; exact this)
      clear hA hH e1 hbox hres hbel hr s0 s1 s2
      go_wp2_with fail
      go_region_with (first | (go_at_call 53; refine hcl.mono ?_; rintro e w1 ⟨vt, rfl, hrt, bt⟩; have bt := below_drew bt; have bw := Below.on ba bt; have hN := HC.out.below bw; obtain ⟨z0, z1, z2, z3, z4⟩ := five hN.box; have HRT : Hid (w1.ownsRow wr.heap.size 3 1 vt tt.length (ints tt)) := row_mono hrt (by show _ ≤ (wr.alloc _).heap.size; simp); obtain ⟨oa, oc, rfl⟩ := row_slice hrt; have q2 := (bw.cell (p := ⟨g, k * 3 + 2, none⟩) hgl.2).trans t2; have qf : w1.frozen? ⟨g, k * 3 + 2, none⟩ = false := by (obtain ⟨⟨val, hH, _, e1, _⟩, _⟩ := hN; have hr := hH.row .slots (.inl ⟨by decide, rfl⟩); rw [e1] at hr; exact hr.frozenAt _)))
      all_goals
        have HN : Hid (CpR w (w1.setCell ⟨g, k * 3 + 2, none⟩ (.slice oa tt.length oc)) m tv qv (.slice qa m.root.length qc) (.slice (some ⟨g, 0, none⟩) m.slots.length pc) (.slice ka m.refs.length kc) (.slice ja m.snaps.length jc) (k + 1) 0) := HC.out.tab bw (by rw [← HK.out]; exact HRT.out)
        go_wp2_with fail
        go_roundw
        case rel => exact ⟨k + 1, by omega, by go_num, HN⟩
        case measure => simp [intOf]; omega
    · have ek : k = m.slots.length := by omega
      subst ek
      obtain ⟨x, hrn⟩ : ∃ X, X = wr := ⟨_, rfl⟩
      subst hrn
      obtain ⟨y0, y1, y2, y3, y4⟩ := five HC.out.box
      go_wp2_with fail
      clear y0 y1 y2 y3 y4
      go_loopw [43] (fun i wr => ∃ l : Nat, l ≤ m.snaps.length ∧ i = .int .i64 l ∧ Hid (CpR w wr m tv qv (.slice qa m.root.length qc) (.slice pa m.slots.length pc) (.slice ka m.refs.length kc) (.slice ja m.snaps.length jc) m.slots.length l)) (fun i _ => m.snaps.length - (intOf i).toNat)
      case atStart => exact ⟨0, Nat.zero_le _, rfl, HC⟩
      case round =>
        obtain ⟨l, hl, rfl, HD⟩ := hrel
        by_cases hll : l < m.snaps.length
        · obtain ⟨g, rfl⟩ : ∃ g, ja = some ⟨g, 0, none⟩ := by
            obtain ⟨⟨val, hH, _, _, _, e3⟩, _⟩ := HD.out
            have hr := hH.row .snaps (.inl ⟨by decide, rfl⟩)
            rw [e3] at hr
            rcases row_form hr with ⟨e, hn⟩ | ⟨g, cap, e, _⟩
            · have hn : m.snaps.length = 0 := hn
              omega
            · simp at e; exact ⟨g, e.1⟩
          obtain ⟨s, hs⟩ : ∃ s, s = m.snaps.getD l default := ⟨_, rfl⟩
          obtain ⟨nm, sg, tt⟩ := s
          have hSl := HQ.out l hll
          obtain ⟨ta, tc, htv⟩ := hSl.form
          have HSl : Hid (Sl w (.slice ta tt.length tc) tt ∧ qv l = .slice ta tt.length tc) := by rw [← hs] at hSl htv; exact ⟨htv ▸ hSl, htv⟩
          have HK : Hid ((nm, sg, tt) = m.snaps.getD l default) := hs
          clear hs hSl htv
          have hki : (l : Int) < (m.snaps.length : Int) := by omega
          have hL := HL.out.2
          have hL1 : (l : Int) + 1 ≤ 9223372036854775807 := by omega
          obtain ⟨⟨val, hH, _, _, _, e3⟩, hbox, hres, hbel⟩ := HD.out
          have hr := hH.row .snaps (.inl ⟨by decide, rfl⟩)
          rw [e3] at hr
          have hr : wr.ownsRow (w.heap.size + 2) 72 3 (.slice (some ⟨g, 0, none⟩) m.snaps.length jc) m.snaps.length (flatN m.snaps (fun j => if j < l then val (.sr j) else qv j)) := hr
          have hgl := hr.lt g rfl
          obtain ⟨s0, s1, s2⟩ := flatN_get (S := m.snaps) (qv := fun j => if j < l then val (.sr j) else qv j) (j := l) hll
          rw [← HK.out] at s0 s1
          rw [if_neg (Nat.lt_irrefl l), HSl.out.2] at s2
          have t0 : wr.cell? ⟨g, l * 3, none⟩ = some (.string nm) := (hr.cellAt (l * 3) (by omega)).trans s0
          have t1 : wr.cell? ⟨g, l * 3 + 1, none⟩ = some (.int .i64 sg) := (hr.cellAt (l * 3 + 1) (by omega)).trans s1
          have t2 : wr.cell? ⟨g, l * 3 + 2, none⟩ = some (.slice ta tt.length tc) := (hr.cellAt (l * 3 + 2) (by omega)).trans s2
          have ba : Below wr.heap.size wr (wr.alloc (.cells #[.string nm, .int .i64 sg, .slice ta tt.length tc] 72)) := (Below.refl _ _).alloc (Nat.le_refl _) _
          have hNr : w.heap.size + 2 ≤ wr.heap.size := (Array.getElem?_eq_some_iff.1 hres).1
          obtain ⟨x0, x1, x2, x3, x4⟩ := five (cells_below hbox ba (by omega))
          have ms : (wr.alloc (.cells #[.string nm, .int .i64 sg, .slice ta tt.length tc] 72)).heap[wr.heap.size]? = some (.cells #[.string nm, .int .i64 sg, .slice ta tt.length tc] 72) := World.alloc_heap_new _ _
          obtain ⟨y0, y1, y2⟩ := three ms
          have hcl := clone_ints (w := (wr.alloc (.cells #[.string nm, .int .i64 sg, .slice ta tt.length tc] 72)).drew) ((HSl.out.1.below hbel).below (to_drew ba)) (by have := hF.sr l hll; rw [← HK.out] at this; exact this)
          clear hH e3 hbox hres hbel hr s0 s1 s2
          go_wp2_with fail
          go_region_with (first | (go_at_call 53; refine hcl.mono ?_; rintro e w1 ⟨vt, rfl, hrt, bt⟩; have bt := below_drew bt; have bw := Below.on ba bt; have hN := HD.out.below bw; obtain ⟨z0, z1, z2, z3, z4⟩ := five hN.box; have HRT : Hid (w1.ownsRow wr.heap.size 3 1 vt tt.length (ints tt)) := row_mono hrt (by show _ ≤ (wr.alloc _).heap.size; simp); obtain ⟨oa, oc, rfl⟩ := row_slice hrt; have q2 := (bw.cell (p := ⟨g, l * 3 + 2, none⟩) hgl.2).trans t2; have qf : w1.frozen? ⟨g, l * 3 + 2, none⟩ = false := by (obtain ⟨⟨val, hH, _, _, _, e3⟩, _⟩ := hN; have hr := hH.row .snaps (.inl ⟨by decide, rfl⟩); rw [e3] at hr; exact hr.frozenAt _)))
          all_goals
            have HN : Hid (CpR w (w1.setCell ⟨g, l * 3 + 2, none⟩ (.slice oa tt.length oc)) m tv qv (.slice qa m.root.length qc) (.slice pa m.slots.length pc) (.slice ka m.refs.length kc) (.slice (some ⟨g, 0, none⟩) m.snaps.length jc) m.slots.length (l + 1)) := HD.out.sr bw (by rw [← HK.out]; exact HRT.out)
            go_wp2_with fail
            go_roundw
            case rel => exact ⟨l + 1, by omega, by go_num, HN⟩
            case measure => simp [intOf]; omega
        · have el : l = m.snaps.length := by omega
          subst el
          obtain ⟨⟨val, hH, e0, e1, e2, e3⟩, hbox, hres, hbel⟩ := HD.out
          obtain ⟨x0, x1, x2, x3, x4⟩ := five hbox
          obtain ⟨z0, z1, z2, z3, z4⟩ := five hres
          have y0 := cells_frozen hres 0
          have y1 := cells_frozen hres 1
          have y2 := cells_frozen hres 2
          have y3 := cells_frozen hres 3
          have y4 := cells_frozen hres 4
          have HF : Hid (OI wr (w.heap.size + 2) val m) := hH.done
          clear hH
          go_wp2_with fail
          have hf : ∀ a, Live m a → (val a).ownBlock ≠ some (w.heap.size + 1) := fun a ha e => by have := ((HF.out.row a ha).lt _ e).1; omega
          have hB1 : w.heap.size ≤ w.heap.size + 1 := Nat.le_succ _
          refine bodyPost_ret (v := .agg #[.int .i64 m.guest, .slice qa m.root.length qc, .slice pa m.slots.length pc, .slice ka m.refs.length kc, .slice ja m.snaps.length jc]) (by simp [results, Try.results67, go_sem, z0, z1, z2, z3, z4]) rfl ⟨val, ?_, OI.mono (((((HF.out.far hf).far hf).far hf).far hf).far hf) (by omega), ((((hbel.setCell hB1 _).setCell hB1 _).setCell hB1 _).setCell hB1 _).setCell hB1 _⟩
          unfold imgV
          rw [e0, e1, e2, e3]
theorem copied_is {w : World} {v : Value} {m : ImgD} (h : Img w v m) (hF : Fits m) :
    Calls Try.prog 67 #[v] w fun r w' => ∃ val, r = .returned (imgV m.guest val) ∧ OI w' w.heap.size val m ∧ Below w.heap.size w w' := by
  obtain ⟨ra, rc, sa, sc, fa, fc, na, nc, rfl, h1, h2, h3, h4⟩ := h.parts
  exact copied_at m ra _ rc sa _ sc fa _ fc na _ nc w h1 h2 h3 h4 hF
end Go.Proofs.Ytehleeibgkpjmad
