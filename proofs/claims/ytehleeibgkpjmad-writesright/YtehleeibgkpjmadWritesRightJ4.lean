/- Texts joined: WrP, WrQ, Strs, FlPlain, WrR, WrA, OwnI, OwnJ, CopyI, LayI, TabI, CtdI. -/
import Derived.Test.YtehleeibgkpjmadWritesRightJ3
import Derived.Test.YtehleeibgkpjmadWritesRightJ1
import Derived.OneCell
import Derived.Laws.OwnMore
import Derived.Maps.AppendAt
import Derived.Deep.AppendLies
/- Writing, wiping, punching: what the document's answer is, and that it has the form. Plain lists. -/
namespace Go.Proofs.Ytehleeibgkpjmad
open Go.RowKit Go.Shelf
set_option maxRecDepth 20000


def grabF (L : List SlotD) : Nat → Nat → Nat
  | 0, j => j
  | f + 1, j => if j < L.length ∧ kd L j ≠ 0 then grabF L f (j + 1) else j
def grabN (L : List SlotD) : Nat := grabF L L.length 1
theorem grabF_spec (L : List SlotD) : ∀ (f j : Nat), L.length ≤ j + f → j ≤ L.length → j ≤ grabF L f j ∧ grabF L f j ≤ L.length ∧ (∀ i, j ≤ i → i < grabF L f j → kd L i ≠ 0) ∧ (grabF L f j < L.length → kd L (grabF L f j) = 0)
  | 0, j, h, hj => ⟨Nat.le_refl _, hj, fun i h1 h2 => by simp [grabF] at h2; omega, fun h2 => by simp [grabF] at h2; omega⟩
  | f + 1, j, h, hj => by
    unfold grabF
    by_cases c : j < L.length ∧ kd L j ≠ 0
    · rw [if_pos c]
      obtain ⟨a, b, d, e⟩ := grabF_spec L f (j + 1) (by omega) (by omega)
      refine ⟨by omega, b, fun i h1 h2 => ?_, e⟩
      by_cases ei : i = j
      · subst ei; exact c.2
      · exact d i (by omega) h2
    · rw [if_neg c]
      refine ⟨Nat.le_refl _, hj, fun i h1 h2 => by omega, fun h2 => ?_⟩
      exact Classical.byContradiction fun x => c ⟨h2, x⟩
theorem kd_getElem {L : List SlotD} {j : Nat} (h : j < L.length) : L[j].1 = kd L j := by unfold kd; simp [List.getD, h]
theorem grabN_spec {L : List SlotD} (h1 : 1 ≤ L.length) : 1 ≤ grabN L ∧ grabN L ≤ L.length ∧ (∀ i, 1 ≤ i → i < grabN L → kd L i ≠ 0) ∧ kd L (grabN L) = 0 := by
  obtain ⟨a, b, c, d⟩ := grabF_spec L L.length 1 (by omega) h1
  refine ⟨a, b, c, ?_⟩
  rcases Nat.lt_or_ge (grabN L) L.length with h | h
  · exact d h
  · exact Classical.byContradiction fun x => by have := kd_lt x; omega
theorem grabN_at {L : List SlotD} (h1 : 1 ≤ L.length) : GrabAt L (grabN L) := by
  obtain ⟨a, b, c, d⟩ := grabN_spec h1
  exact ⟨a, b, fun j hj h1 h2 => by rw [kd_getElem hj]; exact c j h1 h2, fun h => by rw [kd_getElem h]; exact d⟩
theorem grabN_le40 {L : List SlotD} (h : slotsE L = 0) : grabN L ≤ 40 := by
  have := slotsE_parts h; have := grabN_spec this.1; omega


def layS (L : List SlotD) (n : Nat) (s : SlotD) : List SlotD := if n = L.length then L ++ [s] else L.set n s
theorem layS_length {L : List SlotD} {n : Nat} {s : SlotD} : (layS L n s).length = if n = L.length then L.length + 1 else L.length := by
  unfold layS; split <;> simp
theorem layS_get {L : List SlotD} {n : Nat} {s : SlotD} (hn : n ≤ L.length) (j : Nat) : (layS L n s).getD j default = if j = n then s else L.getD j default := by
  unfold layS
  by_cases e : n = L.length
  · rw [if_pos e]
    subst e
    by_cases ej : j = L.length
    · subst ej; rw [if_pos rfl]; simp [List.getD]
    · rw [if_neg ej]
      by_cases hj : j < L.length
      · simp [List.getD, List.getElem?_append, hj]
      · have a : L.getD j default = default := by simp [List.getD, hj]
        have b : (L ++ [s]).getD j default = default := by
          have : ¬ j < (L ++ [s]).length := by simp; omega
          unfold List.getD
          rw [List.getElem?_eq_none (by omega)]; rfl
        rw [a, b]
  · rw [if_neg e]
    by_cases ej : j = n
    · subst ej; rw [if_pos rfl]; simp [List.getD, show j < L.length by omega]
    · rw [if_neg ej]; simp [List.getD, Ne.symm ej]
theorem layS_kd {L : List SlotD} {n : Nat} {s : SlotD} (hn : n ≤ L.length) (j : Nat) : kd (layS L n s) j = if j = n then s.1 else kd L j := by
  unfold kd; rw [layS_get hn]; split <;> rfl
theorem layS_le {L : List SlotD} {n : Nat} {s : SlotD} (hn : n ≤ L.length) (h40 : L.length ≤ 40) (hn40 : n < 40) : (layS L n s).length ≤ 40 ∧ L.length ≤ (layS L n s).length ∧ n < (layS L n s).length := by
  rw [layS_length]; split <;> omega

theorem ok_tab {es : List Int} (hes : ckE es = 0) (hb : bareL es = false) : okD (2, ⟨#[]⟩, es) = true := by
  have : bareE es = false := by unfold bareE; rw [if_pos hes, hb]
  show slotOK 2 ⟨#[]⟩ es = true
  rw [slotOK_2]
  exact decide_eq_true ⟨hes, this, rfl⟩
theorem ok_page {page : ByteArray} (h : page.size = 4) : okD (1, page, []) = true := by
  show slotOK 1 page [] = true
  unfold slotOK
  rw [if_neg (by decide), if_pos rfl]
  exact decide_eq_true ⟨h, rfl⟩
theorem ext_lay {L : List SlotD} {t : Nat} {es : List Int} (h0 : slotsE L = 0) (ht : t ≤ L.length) (t1 : 1 ≤ t) (t40 : t < 40) (hk : kd L t = 0 ∨ kd L t = 2) (hes : ckE es = 0) (hb : bareL es = false) (hents : ∀ e ∈ es, tabE L e = true) : Ext L (layS L t (2, ⟨#[]⟩, es)) t es := by
  have hp := slotsE_parts h0
  have hle := layS_le (s := (2, ⟨#[]⟩, es)) ht hp.2 t40
  have hpg : kd L t ≠ 1 := by rcases hk with e | e <;> rw [e] <;> decide
  refine ⟨hle.1, fun j hj _ => by rw [layS_get ht, if_neg hj], by rw [layS_get ht, if_pos rfl], hpg, fun j hj => ?_, ?_, fun j hj hk2 => ?_, fun e he => ?_⟩
  · rw [layS_get ht]
    by_cases ej : j = t
    · rw [if_pos ej]; exact ok_tab hes hb
    · rw [if_neg ej]
      have hjl : j < L.length := by rw [layS_length] at hj; split at hj <;> omega
      rw [← getElem_getD hjl]; exact slotsE_all h0 hjl
  · rw [layS_kd ht, if_neg (by omega)]; exact slot0 h0
  · rw [layS_kd ht, if_neg hj] at hk2; exact hk2
  · rcases tabE_cases (hents e he) with e0 | e1 | ⟨j, rfl, hj, hkj⟩
    · rw [e0]; rfl
    · rw [e1]; rfl
    · have j1 : 1 ≤ j := by
        rcases Nat.eq_zero_or_pos j with e | e
        · subst e; rw [slot0 h0] at hkj; simp at hkj
        · exact e
      have hjt : j ≠ t := fun e => hpg (by rw [← e]; exact hkj)
      rw [tabE_x (by omega) (by omega)]
      exact isKd_of (by omega) (by rw [layS_kd ht, if_neg hjt]; exact hkj)
theorem ext_write {L : List SlotD} {t d : Nat} {es : List Int} {page : ByteArray} (h0 : slotsE L = 0) (ht : t ≤ L.length) (t1 : 1 ≤ t) (t40 : t < 40) (hk : kd L t = 0 ∨ kd L t = 2) (hes : ckE es = 0) (hb : bareL es = false)
    (hd : d ≤ (layS L t (2, ⟨#[]⟩, es)).length) (d1 : 1 ≤ d) (d40 : d < 40) (hdt : d ≠ t) (hkd : kd L d = 0) (hp4 : page.size = 4) (hents : ∀ e ∈ es, tabE L e = true ∨ e = (d : Int)) : Ext L (layS (layS L t (2, ⟨#[]⟩, es)) d (1, page, [])) t es := by
  have hp := slotsE_parts h0
  have hle := layS_le (s := (2, ⟨#[]⟩, es)) ht hp.2 t40
  have hle2 := layS_le (s := ((1, page, []) : SlotD)) hd hle.1 d40
  have hpg : kd L t ≠ 1 := by rcases hk with e | e <;> rw [e] <;> decide
  refine ⟨hle2.1, fun j hj hkj => ?_, ?_, hpg, fun j hj => ?_, ?_, fun j hj hk2 => ?_, fun e he => ?_⟩
  · have hjd : j ≠ d := fun e => hkj (by rw [e]; exact hkd)
    rw [layS_get hd, if_neg hjd, layS_get ht, if_neg hj]
  · rw [layS_get hd, if_neg (fun e => hdt e.symm), layS_get ht, if_pos rfl]
  · rw [layS_get hd]
    by_cases ed : j = d
    · rw [if_pos ed]; exact ok_page hp4
    · rw [if_neg ed, layS_get ht]
      by_cases ej : j = t
      · rw [if_pos ej]; exact ok_tab hes hb
      · rw [if_neg ej]
        have hjl : j < L.length := by
          rw [layS_length] at hj
          rw [layS_length] at hj hd
          split at hj <;> split at hj <;> split at hd <;> omega
        rw [← getElem_getD hjl]; exact slotsE_all h0 hjl
  · rw [layS_kd hd, if_neg (by omega), layS_kd ht, if_neg (by omega)]; exact slot0 h0
  · rw [layS_kd hd] at hk2
    by_cases ed : j = d
    · rw [if_pos ed] at hk2; simp at hk2
    · rw [if_neg ed, layS_kd ht, if_neg hj] at hk2; exact hk2
  · rcases hents e he with hE | hE
    · rcases tabE_cases hE with e0 | e1 | ⟨j, rfl, hj, hkj⟩
      · rw [e0]; rfl
      · rw [e1]; rfl
      · have j1 : 1 ≤ j := by
          rcases Nat.eq_zero_or_pos j with e | e
          · subst e; rw [slot0 h0] at hkj; simp at hkj
          · exact e
        have hjt : j ≠ t := fun e => hpg (by rw [← e]; exact hkj)
        have hjd : j ≠ d := fun e => by rw [e, hkd] at hkj; simp at hkj
        rw [tabE_x (by omega) (by omega)]
        exact isKd_of (by omega) (by rw [layS_kd hd, if_neg hjd, layS_kd ht, if_neg hjt]; exact hkj)
    · rw [hE, tabE_x (by omega) (by omega)]
      exact isKd_of hle2.2.2 (by rw [layS_kd hd, if_pos rfl])


theorem count_two {t : Int} : ∀ (l : List Int) (i k : Nat), i < k → k < l.length → l.getD i 0 = t → l.getD k 0 = t → 2 ≤ l.count t
  | [], i, k, _, hk, _, _ => absurd hk (by simp)
  | a :: l, 0, k + 1, _, hk, h1, h2 => by
    have h1 : a = t := by simpa using h1
    have h2 : l.getD k 0 = t := by simpa using h2
    have hk : k < l.length := by simpa using hk
    have : t ∈ l := by rw [← h2, getD_at hk]; exact List.getElem_mem hk
    have := List.count_pos_iff.2 this
    rw [List.count_cons, h1]; simp; omega
  | a :: l, i + 1, k + 1, hik, hk, h1, h2 => by
    have := count_two l i k (by omega) (by simpa using hk) (by simpa using h1) (by simpa using h2)
    rw [List.count_cons]; omega
theorem flatR_app (m : ImgD) : flatR m = m.root ++ m.snaps.flatMap (fun s => s.2.2) := rfl
theorem lone_one {m : ImgD} {k t : Nat} (hk : k < m.root.length) (ht : m.root.getD k 0 = (t : Int)) (hc : (flatR m).count (t : Int) = 1) : Lone m k t := by
  rw [flatR_app, List.count_append] at hc
  have hmem : (t : Int) ∈ m.root := by rw [← ht, getD_at hk]; exact List.getElem_mem hk
  have h1 := List.count_pos_iff.2 hmem
  refine ⟨fun i hi hne e => ?_, fun s hs hm => ?_⟩
  · have : 2 ≤ m.root.count (t : Int) := by
      rcases Nat.lt_or_ge i k with h | h
      · exact count_two m.root i k h hk e ht
      · exact count_two m.root k i (by omega) hi ht e
    omega
  · have : (t : Int) ∈ m.snaps.flatMap (fun s => s.2.2) := by rw [List.mem_flatMap]; exact ⟨s, hs, hm⟩
    have := List.count_pos_iff.2 this
    omega
theorem lone_free {m : ImgD} {k t : Nat} (h : shapeE m = 0) (t1 : 1 ≤ t) (ht : kd m.slots t = 0) : Lone m k t := by
  have hno : (t : Int) ∉ flatR m := fun hm => by have := (told_root h hm t1).2.1; rw [ht] at this; simp at this
  rw [flatR_app] at hno
  refine ⟨fun i hi _ e => hno (List.mem_append_left _ (by rw [← e, getD_at hi]; exact List.getElem_mem hi)), fun s hs hm => hno (List.mem_append_right _ (by rw [List.mem_flatMap]; exact ⟨s, hs, hm⟩))⟩


def tableO (m : ImgD) (k : Nat) : List Int := if m.root.getD k 0 = 0 then [0, 0, 0, 0] else tabOf m.slots (m.root.getD k 0)
def inPl (m : ImgD) (k : Nat) : Bool := m.root.getD k 0 != 0 && m.refs.getD (m.root.getD k 0).toNat 0 == 1
def tabN (m : ImgD) (k : Nat) : Nat := if inPl m k = true then (m.root.getD k 0).toNat else grabN m.slots
theorem tableO_ok {m : ImgD} (h : shapeE m = 0) {k : Nat} (hk : k < m.root.length) : ckE (tableO m k) = 0 ∧ ∀ e ∈ tableO m k, tabE m.slots e = true := by
  have hr := root_ok h
  unfold tableO
  by_cases hz : m.root.getD k 0 = 0
  · rw [if_pos hz]
    refine ⟨by decide, fun e he => ?_⟩
    have : e = 0 := by simpa using he
    rw [this]; rfl
  · rw [if_neg hz]
    have hE := all_at hr.2 hk
    rw [rootE_x hz] at hE
    obtain ⟨j, e, hj, hk2⟩ := isKd_yes hE
    rw [e]
    refine ⟨?_, fun x hx => List.all_eq_true.1 (tab_all (shapeE_zero h).2.2.2.2.2.1 _) x hx⟩
    have := okD_tab (slotsE_all (shapeE_zero h).2.1 hj) hk2
    unfold tabOf
    simpa [List.getD, hj] using this.2
theorem tabN_spec {m : ImgD} (hC : checkE m = 0) {k : Nat} (hk : k < m.root.length) (h40 : tabN m k ≠ 40) : 1 ≤ tabN m k ∧ tabN m k ≤ m.slots.length ∧ tabN m k < 40 ∧ (kd m.slots (tabN m k) = 0 ∨ kd m.slots (tabN m k) = 2) ∧ Lone m k (tabN m k) := by
  obtain ⟨h, hcnt, _⟩ := checkE_zero hC
  obtain ⟨z1, z2, z3, z4, z5, z6, z7⟩ := shapeE_zero h
  have hp := slotsE_parts z2
  unfold tabN at h40 ⊢
  by_cases hi : inPl m k = true
  · rw [if_pos hi] at h40 ⊢
    unfold inPl at hi
    simp at hi
    obtain ⟨hz, hrf⟩ := hi
    have hz : m.root.getD k 0 ≠ 0 := hz
    have hrf : m.refs.getD (m.root.getD k 0).toNat 0 = 1 := hrf
    have hE := all_at (root_ok h).2 hk
    rcases rootE_cases hE with e | ⟨j, e, hj, hkj⟩
    · exact absurd e hz
    · have hmem : (j : Int) ∈ flatR m := by rw [flatR_app]; exact List.mem_append_left _ (by rw [← e, getD_at hk]; exact List.getElem_mem hk)
      rw [e, Int.toNat_natCast] at hrf ⊢
      have j1 : 1 ≤ j := by omega
      have hc1 : (flatR m).count (j : Int) = 1 := by
        rw [← hcnt, cntL_get h j hj] at hrf
        unfold cntI at hrf
        rw [if_neg (by omega), sumT_no z6 _ j1 (by rw [hkj]; decide)] at hrf
        omega
      exact ⟨j1, by omega, by omega, .inr hkj, lone_one hk e hc1⟩
  · rw [if_neg hi] at h40 ⊢
    obtain ⟨a, b, c, d⟩ := grabN_spec hp.1
    exact ⟨a, b, by omega, .inl d, lone_free h a d⟩

def TailZ (m : ImgD) (k : Nat) (es : List Int) : Prop := k = m.root.length - 1 → m.guest % 4 ≠ 0 → (es.drop (m.guest % 4).toNat).all (fun e => e == 0) = true
theorem tableO_tail {m : ImgD} (h : shapeE m = 0) (k : Nat) : TailZ m k (tableO m k) := by
  intro hk hg
  have hf := List.all_eq_true.1 (shapeE_zero h).2.2.2.2.2.2 (⟨#[]⟩, m.guest, m.root) List.mem_cons_self
  unfold rootFit lastFit at hf
  dsimp only at hf
  simp only [Bool.and_eq_true] at hf
  have hl := hf.2.2
  have hg' : (m.guest % 4 == 0) = false := by simpa using hg
  rw [hg', Bool.false_or, ← hk] at hl
  unfold tableO
  by_cases hz : m.root.getD k 0 = 0
  · rw [if_pos hz]
    have : ∀ j, ([0, 0, 0, 0] : List Int).drop j = List.replicate (4 - j) 0 := fun j => by
      have : ([0, 0, 0, 0] : List Int) = List.replicate 4 0 := rfl
      rw [this, List.drop_replicate]
    rw [this]; simp
  · rw [if_neg hz]
    have hz' : (m.root.getD k 0 == 0) = false := by simpa using hz
    rw [hz', Bool.false_or] at hl
    exact hl
theorem tail_set {m : ImgD} {k : Nat} {es : List Int} (h : TailZ m k es) {n : Nat} (hn : (n : Int) < m.guest) (hk : n / 4 = k) (hr : (m.root.length : Int) = (m.guest + 3) / 4) (e : Int) : TailZ m k (es.set (n % 4) e) := by
  intro h1 h2
  have := h h1 h2
  rw [List.drop_set_of_lt (by omega)]
  exact this
theorem set_ck {es : List Int} (h : ckE es = 0) {i : Nat} {e : Int} (he : isE e = true) : ckE (es.set i e) = 0 := by
  refine ckE_yes (by rw [List.length_set]; exact ckE_len h) ?_
  rw [List.all_eq_true]
  intro x hx
  rcases List.mem_or_eq_of_mem_set hx with hm | hm
  · exact List.all_eq_true.1 (ckE_all h) x hm
  · rw [hm]; exact he
theorem bare_get {es : List Int} {i : Nat} (hi : i < es.length) (h : es.getD i 0 ≠ 0) : bareL es = false := by
  unfold bareL
  exact not_all_of hi (by simpa using h)
theorem set_get {es : List Int} {i : Nat} (hi : i < es.length) (e : Int) : (es.set i e).getD i 0 = e := by rw [getD_setI, if_pos ⟨rfl, hi⟩]
theorem mem_set {es : List Int} {i : Nat} {e x : Int} (h : x ∈ es.set i e) : x ∈ es ∨ x = e := List.mem_or_eq_of_mem_set h


def rfZ (L : List SlotD) : List Int := List.replicate L.length 0
def tabL (m : ImgD) (k : Nat) (es : List Int) : List SlotD := layS m.slots (tabN m k) (2, ⟨#[]⟩, es)
def tabledD (m : ImgD) (k : Nat) (es : List Int) : Option ImgD :=
  if bareL es = true then some { m with root := m.root.set k 0 } else if tabN m k = 40 then none else some (tabSet m k (tabN m k) (tabL m k es) (rfZ (tabL m k es)))
def putD (m : ImgD) (n : Nat) (e : Int) : Option ImgD := if (tableO m (n / 4)).getD (n % 4) 0 = e then some m else (tabledD m (n / 4) ((tableO m (n / 4)).set (n % 4) e)).map countedD
def wInPl (m : ImgD) (n : Nat) : Bool := decide (0 < lookV m m.root n) && (inPl m (n / 4) && m.refs.getD (lookV m m.root n).toNat 0 == 1)
def wD (m : ImgD) (n : Nat) : Nat := grabN (tabL m (n / 4) (tableO m (n / 4)))
def wEs (m : ImgD) (n : Nat) : List Int := (tableO m (n / 4)).set (n % 4) (wD m n : Int)
def wL (m : ImgD) (n : Nat) (page : ByteArray) : List SlotD := layS (tabL m (n / 4) (wEs m n)) (wD m n) (1, page, [])
def writeD (m : ImgD) (n : Nat) (page : ByteArray) : Option ImgD :=
  if wInPl m n = true then some { m with slots := m.slots.set (lookV m m.root n).toNat (1, page, []) }
  else if tabN m (n / 4) = 40 then none else if wD m n = 40 then none else some (countedD (tabSet m (n / 4) (tabN m (n / 4)) (wL m n page) (rfZ (wL m n page))))

theorem lookV_tableO (m : ImgD) (n : Nat) : lookV m m.root n = (tableO m (n / 4)).getD (n % 4) 0 := by
  unfold lookV tableO
  split
  · have h4 : n % 4 < 4 := Nat.mod_lt _ (by decide)
    have : ∀ i, i < 4 → ([0, 0, 0, 0] : List Int).getD i 0 = 0 := by decide
    rw [this _ h4]
  · rfl

theorem write_ext {m : ImgD} (hC : checkE m = 0) {n : Nat} (hn : (n : Int) < m.guest) (h40 : tabN m (n / 4) ≠ 40) (hd40 : wD m n ≠ 40) {page : ByteArray} (hp : page.size = 4) :
    Ext m.slots (wL m n page) (tabN m (n / 4)) (wEs m n) ∧ Lone m (n / 4) (tabN m (n / 4)) ∧ TailZ m (n / 4) (wEs m n) ∧ n / 4 < m.root.length ∧ 1 ≤ wD m n ∧ wD m n < 40 ∧ kd m.slots (wD m n) = 0 ∧ wD m n ≠ tabN m (n / 4) := by
  obtain ⟨h, _, _⟩ := checkE_zero hC
  have hr := root_ok h
  have hg := guest_ok h
  have hk : n / 4 < m.root.length := by omega
  obtain ⟨t1, tl, t40, tk, hl⟩ := tabN_spec hC hk h40
  obtain ⟨ock, oent⟩ := tableO_ok h hk
  have hs := (shapeE_zero h).2.1
  have hp40 := slotsE_parts hs
  have hle := layS_le (s := ((2, ⟨#[]⟩, tableO m (n / 4)) : SlotD)) tl hp40.2 t40
  obtain ⟨d1, dl, dne, dfree⟩ := grabN_spec (L := tabL m (n / 4) (tableO m (n / 4))) (by unfold tabL; omega)
  have hdt : wD m n ≠ tabN m (n / 4) := fun e => by
    have : kd (tabL m (n / 4) (tableO m (n / 4))) (wD m n) = 0 := dfree
    unfold tabL at this
    rw [layS_kd tl, if_pos e] at this
    simp at this
  have hkd : kd m.slots (wD m n) = 0 := by
    have : kd (tabL m (n / 4) (tableO m (n / 4))) (wD m n) = 0 := dfree
    unfold tabL at this
    rw [layS_kd tl, if_neg hdt] at this
    exact this
  have hdl : wD m n ≤ (layS m.slots (tabN m (n / 4)) (2, ⟨#[]⟩, wEs m n)).length := by
    have : wD m n ≤ (tabL m (n / 4) (tableO m (n / 4))).length := dl
    unfold tabL at this
    rw [layS_length] at this ⊢; exact this
  have hd40' : wD m n < 40 := by
    have : wD m n ≤ (tabL m (n / 4) (tableO m (n / 4))).length := dl
    unfold tabL at this; omega
  have hd1 : 1 ≤ wD m n := d1
  have h4 : n % 4 < (tableO m (n / 4)).length := by rw [ckE_len ock]; omega
  have hEd : isE (wD m n : Int) = true := by rw [isE_iff]; omega
  refine ⟨?_, hl, ?_, hk, hd1, hd40', hkd, hdt⟩
  · refine ext_write hs tl t1 t40 tk (set_ck ock hEd) (bare_get (i := n % 4) (by unfold wEs; rw [List.length_set]; exact h4) (by unfold wEs; rw [set_get h4]; omega)) hdl hd1 hd40' hdt hkd hp (fun e he => ?_)
    rcases mem_set he with hm | hm
    · exact .inl (oent e hm)
    · exact .inr hm
  · exact tail_set (tableO_tail h _) hn rfl hr.1 _
end Go.Proofs.Ytehleeibgkpjmad
/- Writing, wiping, punching: what comes is right, and how it is read. Plain lists. -/
namespace Go.Proofs.Ytehleeibgkpjmad
open Go.RowKit Go.Shelf
set_option maxRecDepth 20000

def EntOK (L : List SlotD) (e : Int) : Prop := e = 0 ∨ e = -1 ∨ ∃ j : Nat, e = j ∧ 1 ≤ j ∧ j < L.length ∧ kd L j = 1
structure Laid (m M : ImgD) (k : Nat) (es : List Int) : Prop where
  shape : shapeE M = 0
  guest : M.guest = m.guest
  snaps : M.snaps = m.snaps
  rlen : M.root.length = m.root.length
  look : ∀ q, q / 4 < m.root.length → lookV M M.root q = if q / 4 = k then es.getD (q % 4) 0 else lookV m m.root q
  past : ∀ s ∈ m.snaps, ∀ q, q / 4 < s.2.2.length → lookV M s.2.2 q = lookV m s.2.2 q
  page : ∀ e, EntOK m.slots e → pageV M.slots e = pageV m.slots e

theorem laid_ext {m : ImgD} {k t : Nat} {L' : List SlotD} {es rf : List Int} (h : shapeE m = 0) (hk : k < m.root.length) (hx : Ext m.slots L' t es) (hl : Lone m k t) (hrf : rf.length = L'.length) (hz : TailZ m k es) : Laid m (tabSet m k t L' rf) k es := by
  have hs := (shapeE_zero h).2.1
  have hr := root_ok h
  refine ⟨tabSet_shape h hk hx hl hrf hz, rfl, rfl, by show (m.root.set k _).length = _; rw [List.length_set], fun q hq => look_tabSet hx hs hl hr.2 q hq, fun s hsm q hq => ?_, fun e he => page_ext hx he⟩
  have hf := List.all_eq_true.1 (shapeE_zero h).2.2.2.2.2.2 s (List.mem_cons_of_mem _ hsm)
  unfold rootFit at hf
  simp only [Bool.and_eq_true] at hf
  exact look_snap hx hs hf.2.1 (hl.snap s hsm) q hq

theorem reroot_shape {m : ImgD} (h : shapeE m = 0) {g : Int} {r : List Int} (hg : guestOK g = true) (hf : rootFit m.slots g r = true) : shapeE { m with guest := g, root := r } = 0 := by
  obtain ⟨z1, z2, z3, z4, z5, z6, z7⟩ := shapeE_zero h
  unfold rootsOf at z5 z7
  rw [List.all_cons] at z5 z7
  simp only [Bool.and_eq_true] at z5 z7
  have hgall : (rootsOf { m with guest := g, root := r }).all (fun s => guestOK s.2.1) = true := by
    show (((⟨#[]⟩, g, r) : SnapD) :: m.snaps).all _ = true
    rw [List.all_cons, z5.2, Bool.and_true]; exact hg
  have hall : (rootsOf { m with guest := g, root := r }).all (fun s => rootFit m.slots s.2.1 s.2.2) = true := by
    show (((⟨#[]⟩, g, r) : SnapD) :: m.snaps).all _ = true
    rw [List.all_cons, z7.2, Bool.and_true]; exact hf
  unfold shapeE
  rw [if_neg (by show ¬ 3 < m.snaps.length; omega), if_neg (by show ¬ slotsE m.slots ≠ 0; simpa using z2), if_neg, if_neg (by rw [hgall]; decide), if_neg (by show ¬ tabFit m.slots = false; rw [z6]; decide), if_neg (by show ¬ ((rootsOf { m with guest := g, root := r }).all fun s => rootFit m.slots s.2.1 s.2.2) = false; rw [hall]; decide)]
  rintro (e | e)
  · exact e z3
  · have : namesOK m.snaps = false := e
    rw [z4] at this; cases this
theorem rootFit_root {m : ImgD} (h : shapeE m = 0) : rootFit m.slots m.guest m.root = true := List.all_eq_true.1 (shapeE_zero h).2.2.2.2.2.2 (⟨#[]⟩, m.guest, m.root) List.mem_cons_self
theorem guestOK_guest {m : ImgD} (h : shapeE m = 0) : guestOK m.guest = true := List.all_eq_true.1 (shapeE_zero h).2.2.2.2.1 (⟨#[]⟩, m.guest, m.root) List.mem_cons_self
theorem rootFit_zero {L : List SlotD} {g : Int} {r : List Int} (h : rootFit L g r = true) (k : Nat) : rootFit L g (r.set k 0) = true := by
  unfold rootFit at h ⊢
  simp only [Bool.and_eq_true, decide_eq_true_eq] at h ⊢
  refine ⟨by rw [List.length_set]; exact h.1, ?_, ?_⟩
  · rw [List.all_eq_true]
    intro x hx
    rcases mem_set hx with hm | hm
    · exact List.all_eq_true.1 h.2.1 x hm
    · rw [hm]; rfl
  · have hl := h.2.2
    unfold lastFit at hl ⊢
    rw [List.length_set, getD_setI]
    by_cases e : k = r.length - 1 ∧ r.length - 1 < r.length
    · rw [if_pos e]; simp
    · rw [if_neg e]; exact hl
theorem laid_bare {m : ImgD} {k : Nat} {es : List Int} (h : shapeE m = 0) (hb : bareL es = true) : Laid m { m with root := m.root.set k 0 } k es := by
  refine ⟨reroot_shape h (guestOK_guest h) (rootFit_zero (rootFit_root h) k), rfl, rfl, List.length_set, fun q hq => ?_, fun _ _ _ _ => rfl, fun _ _ => rfl⟩
  have hg := getD_setI m.root k (q / 4) 0
  by_cases e : q / 4 = k
  · rw [if_pos (⟨e.symm, hq⟩ : k = q / 4 ∧ q / 4 < m.root.length)] at hg
    rw [if_pos e]
    unfold lookV
    show (if (m.root.set k 0).getD (q / 4) 0 = 0 then 0 else _) = _
    rw [hg, if_pos rfl]
    unfold bareL at hb
    by_cases hi : q % 4 < es.length
    · have := List.all_eq_true.1 hb _ (List.getElem_mem hi)
      have e0 : es[q % 4] = 0 := by simpa using this
      rw [getD_at hi, e0]
    · simp [List.getD, hi]
  · rw [if_neg (fun x => e x.1.symm)] at hg
    rw [if_neg e]
    unfold lookV
    show (if (m.root.set k 0).getD (q / 4) 0 = 0 then 0 else (tabOf m.slots ((m.root.set k 0).getD (q / 4) 0)).getD (q % 4) 0) = _
    rw [hg]

theorem tabled_laid {m : ImgD} (hC : checkE m = 0) {k : Nat} (hk : k < m.root.length) {es : List Int} (hes : ckE es = 0) (hents : ∀ e ∈ es, tabE m.slots e = true) (hz : TailZ m k es) {M : ImgD} (hM : tabledD m k es = some M) : Laid m M k es ∧ M.slots.length ≤ m.slots.length + 1 := by
  obtain ⟨h, _, _⟩ := checkE_zero hC
  unfold tabledD at hM
  split at hM
  · rename_i hb
    simp at hM
    subst hM
    exact ⟨laid_bare h hb, Nat.le_succ _⟩
  · rename_i hb
    have hb : bareL es = false := by simpa using hb
    split at hM
    · cases hM
    · rename_i h40
      simp at hM
      subst hM
      obtain ⟨t1, tl, t40, tk, hl⟩ := tabN_spec hC hk h40
      refine ⟨laid_ext h hk (ext_lay (shapeE_zero h).2.1 tl t1 t40 tk hes hb hents) hl (by simp [rfZ, tabL]) hz, ?_⟩
      show (layS _ _ _).length ≤ _
      rw [layS_length]; split <;> omega


theorem snap_fit {m : ImgD} (h : shapeE m = 0) {s : SnapD} (hs : s ∈ rootsOf m) : 0 ≤ s.2.1 ∧ s.2.1 ≤ 16 ∧ (s.2.2.length : Int) = (s.2.1 + 3) / 4 ∧ s.2.2.all (rootE m.slots) = true := by
  have hf := List.all_eq_true.1 (shapeE_zero h).2.2.2.2.2.2 s hs
  have hg := List.all_eq_true.1 (shapeE_zero h).2.2.2.2.1 s hs
  unfold rootFit at hf
  unfold guestOK at hg
  simp only [Bool.and_eq_true, decide_eq_true_eq] at hf hg
  exact ⟨hg.1, hg.2, hf.1, hf.2.1⟩
theorem Laid.past_all {m M : ImgD} {k : Nat} {es : List Int} (hL : Laid m M k es) (h : shapeE m = 0) {s : SnapD} (hs : s ∈ m.snaps) : allP (countedD M) s.2.2 s.2.1.toNat = allP m s.2.2 s.2.1.toNat := by
  have hsM : s ∈ rootsOf M := List.mem_cons_of_mem _ (by rw [hL.snaps]; exact hs)
  rw [allP_counted hL.shape hsM]
  obtain ⟨a, b, c, d⟩ := snap_fit h (List.mem_cons_of_mem _ hs : s ∈ rootsOf m)
  unfold allP
  refine List.map_congr_left fun q hq => ?_
  have hq := List.mem_range.1 hq
  rw [hL.past s hs q (by omega)]
  exact hL.page _ (lookV_ent h d q (by omega))
theorem snapIx_get {S : List SnapD} {nm : ByteArray} {j : Nat} (h : snapIx S nm = some j) : S.getD j default ∈ S := by
  have hj := snapIx_some h
  have : S.getD j default = S[j] := by simp [List.getD, hj]
  rw [this]; exact List.getElem_mem hj
theorem Laid.pastV {m M : ImgD} {k : Nat} {es : List Int} (hL : Laid m M k es) (hC : checkE m = 0) (nm : ByteArray) : Go.Proofs.Ytehleeibgkpjmad.pastV (countedD M) nm = Go.Proofs.Ytehleeibgkpjmad.pastV m nm ∧ pastE (countedD M) nm = pastE m nm := by
  have h := checkE_shape hC
  have hsn : (countedD M).snaps = m.snaps := hL.snaps
  unfold Go.Proofs.Ytehleeibgkpjmad.pastV pastE
  rw [if_neg (by rw [counted_right hL.shape]; simp), if_neg (by rw [hC]; simp), if_neg (by rw [counted_right hL.shape]; simp), if_neg (by rw [hC]; simp), hsn]
  cases hsi : snapIx m.snaps nm with
  | none => exact ⟨rfl, rfl⟩
  | some j => exact ⟨hL.past_all h (snapIx_get hsi), rfl⟩
theorem Laid.allV {m M : ImgD} {k : Nat} {es : List Int} (hL : Laid m M k es) : Go.Proofs.Ytehleeibgkpjmad.allV (countedD M) = allP M M.root m.guest.toNat := by
  unfold Go.Proofs.Ytehleeibgkpjmad.allV
  rw [if_pos (counted_right hL.shape)]
  have := allP_counted hL.shape (s := (⟨#[]⟩, M.guest, M.root)) List.mem_cons_self
  show allP (countedD M) M.root M.guest.toNat = _
  rw [this, hL.guest]
theorem Laid.put {m M : ImgD} {n : Nat} {x : Int} (hC : checkE m = 0) (hn : (n : Int) < m.guest) (hL : Laid m M (n / 4) ((tableO m (n / 4)).set (n % 4) x)) : Go.Proofs.Ytehleeibgkpjmad.allV (countedD M) = (Go.Proofs.Ytehleeibgkpjmad.allV m).set n (pageV M.slots x) := by
  have h := checkE_shape hC
  have hr := root_ok h
  have hg := guest_ok h
  rw [hL.allV]
  unfold Go.Proofs.Ytehleeibgkpjmad.allV
  rw [if_pos hC]
  unfold allP
  apply List.ext_getElem
  · simp
  · intro q h1 h2
    have hq : q < m.guest.toNat := by simpa using h1
    rw [List.getElem_set, List.getElem_map, List.getElem_range]
    rw [hL.look q (by omega)]
    have hlen : (tableO m (n / 4)).length = 4 := ckE_len (tableO_ok h (by omega)).1
    by_cases e : n = q
    · subst e
      rw [if_pos rfl, if_pos rfl, set_get (by rw [hlen]; omega)]
    · rw [if_neg e]
      simp only [List.getElem_map, List.getElem_range]
      by_cases e4 : q / 4 = n / 4
      · rw [if_pos e4, getD_setI, if_neg (fun z => e (by omega)), ← e4, ← lookV_tableO]
        exact hL.page _ (lookV_ent h hr.2 q (by omega))
      · rw [if_neg e4]
        exact hL.page _ (lookV_ent h hr.2 q (by omega))


theorem write_laid {m : ImgD} (hC : checkE m = 0) {n : Nat} (hn : (n : Int) < m.guest) (h40 : tabN m (n / 4) ≠ 40) (hd40 : wD m n ≠ 40) {page : ByteArray} (hp : page.size = 4) :
    Laid m (tabSet m (n / 4) (tabN m (n / 4)) (wL m n page) (rfZ (wL m n page))) (n / 4) (wEs m n) ∧ pageV (wL m n page) (wD m n) = page ∧ (wL m n page).length ≤ m.slots.length + 2 := by
  obtain ⟨hx, hl, hz, hk, d1, d40, hkd, hdt⟩ := write_ext hC hn h40 hd40 hp
  refine ⟨laid_ext (checkE_shape hC) hk hx hl (by simp [rfZ]) hz, ?_, ?_⟩
  · unfold pageV
    rw [if_neg (by omega), Int.toNat_natCast]
    have hdl : wD m n ≤ (tabL m (n / 4) (wEs m n)).length := by
      obtain ⟨t1, tl, t40, tk, _⟩ := tabN_spec hC hk h40
      have hle := layS_le (s := ((2, ⟨#[]⟩, tableO m (n / 4)) : SlotD)) tl (slotsE_parts (shapeE_zero (checkE_shape hC)).2.1).2 t40
      have := (grabN_spec (L := tabL m (n / 4) (tableO m (n / 4))) (by unfold tabL; omega)).2.1
      unfold tabL at this ⊢
      rw [layS_length] at this ⊢
      exact this
    unfold wL
    rw [layS_get hdl, if_pos rfl]
  · unfold wL tabL
    rw [layS_length, layS_length]
    split <;> split <;> omega


theorem kd_setP {L : List SlotD} {e : Nat} {page : ByteArray} (hk : kd L e = 1) (j : Nat) : kd (L.set e (1, page, [])) j = kd L j := by
  by_cases h : e = j
  · subst h
    have := kd_lt (L := L) (j := e) (by rw [hk]; decide)
    rw [hk]; unfold kd; simp [List.getD, this]
  · unfold kd; simp [List.getD, h]
theorem tab_page {L : List SlotD} (hs : slotsE L = 0) {e : Nat} (hk : kd L e = 1) : (L.getD e default).2.2 = [] := by
  have he := kd_lt (L := L) (j := e) (by rw [hk]; decide)
  have ok := slotsE_all hs he
  rw [getElem_getD he] at ok
  unfold kd at hk
  unfold okD at ok
  rw [hk, slotOK_1] at ok
  simpa using (of_decide_eq_true ok).2
theorem tab_setP {L : List SlotD} (hs : slotsE L = 0) {e : Nat} {page : ByteArray} (hk : kd L e = 1) (x : Int) : tabOf (L.set e (1, page, [])) x = tabOf L x := by
  unfold tabOf
  by_cases h : e = x.toNat
  · have := kd_lt (L := L) (j := e) (by rw [hk]; decide)
    rw [← h, tab_page hs hk]; simp [List.getD, this]
  · simp [List.getD, h]
theorem setP_same {m : ImgD} {e : Nat} {page : ByteArray} (hC : checkE m = 0) (hk : kd m.slots e = 1) (hp : page.size = 4) : checkE { m with slots := m.slots.set e (1, page, []) } = 0 ∧ ∀ r q, lookV { m with slots := m.slots.set e (1, page, []) } r q = lookV m r q := by
  obtain ⟨h, hcnt, hfree⟩ := checkE_zero hC
  obtain ⟨z1, z2, z3, z4, z5, z6, z7⟩ := shapeE_zero h
  have he := kd_lt (L := m.slots) (j := e) (by rw [hk]; decide)
  have hkd := fun j => kd_setP (page := page) hk j
  have htab := fun x => tab_setP (page := page) z2 hk x
  have hisKd : ∀ x kind, isKd (m.slots.set e (1, page, [])) x kind = isKd m.slots x kind := fun x kind => by
    have := hkd x.toNat
    unfold kd at this
    unfold isKd
    rw [List.length_set, this]
  have htE : ∀ x, tabE (m.slots.set e (1, page, [])) x = tabE m.slots x := fun x => by unfold tabE; rw [hisKd]
  have hrE : ∀ x, rootE (m.slots.set e (1, page, [])) x = rootE m.slots x := fun x => by unfold rootE; rw [hisKd]
  have hs : slotsE (m.slots.set e (1, page, [])) = 0 := by
    refine slotsE_ok (by rw [List.length_set]; exact (slotsE_parts z2).1) (by rw [List.length_set]; exact (slotsE_parts z2).2) (fun j hj => ?_) ?_
    · rw [List.length_set] at hj
      rw [List.getElem_set]
      split
      · exact ok_page hp
      · exact slotsE_all z2 hj
    · rw [kd_getElem (by rw [List.length_set]; exact (slotsE_parts z2).1), hkd]; exact slot0 z2
  have hfit : tabFit (m.slots.set e (1, page, [])) = true := by
    unfold tabFit
    rw [List.all_eq_true]
    intro s hsm
    obtain ⟨j, hj, rfl⟩ := List.getElem_of_mem hsm
    rw [List.length_set] at hj
    rw [List.all_eq_true]
    intro x hx
    rw [htE]
    have e1 := htab (j : Int)
    unfold tabOf at e1
    rw [Int.toNat_natCast] at e1
    rw [getElem_getD (by rw [List.length_set]; exact hj), e1] at hx
    exact List.all_eq_true.1 (tab_all z6 (j : Int)) x (by unfold tabOf; rw [Int.toNat_natCast]; exact hx)
  have hrf : ∀ g r, rootFit (m.slots.set e (1, page, [])) g r = rootFit m.slots g r := fun g r => by
    unfold rootFit lastFit
    rw [show rootE (m.slots.set e (1, page, [])) = rootE m.slots from funext hrE]
    simp only [htab]
  have hsh : shapeE { m with slots := m.slots.set e (1, page, []) } = 0 := by
    unfold shapeE
    rw [if_neg (by show ¬ 3 < m.snaps.length; omega), if_neg (by show ¬ slotsE _ ≠ 0; simpa using hs), if_neg, if_neg (by show ¬ (rootsOf m).all _ = false; rw [z5]; decide), if_neg (by show ¬ tabFit _ = false; rw [hfit]; decide), if_neg]
    · show ¬ ((rootsOf m).all fun s => rootFit (m.slots.set e (1, page, [])) s.2.1 s.2.2) = false
      simp only [hrf]
      rw [z7]; decide
    · rintro (x | x)
      · apply x; show m.refs.length = (m.slots.set e _).length; rw [List.length_set]; exact z3
      · have : namesOK m.snaps = false := x
        rw [z4] at this; cases this
  have hcl : cntL { m with slots := m.slots.set e (1, page, []) } = cntL m := by
    rw [rl_of (cntL_length _), rl_of (cntL_length m)]
    show rl (m.slots.set e _).length _ = _
    rw [List.length_set]
    refine rl_congr fun j hj => ?_
    rw [cntL_get hsh j (by show j < (m.slots.set e _).length; rw [List.length_set]; exact hj), cntL_get h j hj]
    show cntI (m.slots.set e (1, page, [])) (flatR m) j = cntI m.slots (flatR m) j
    unfold cntI
    have : sumT (m.slots.set e (1, page, [])) (flatR m) j = sumT m.slots (flatR m) j := by
      unfold sumT
      rw [List.length_set]
      refine sum_same _ fun q _ => ?_
      unfold toldT
      rw [hkd, htab]
    rw [this]
  refine ⟨?_, fun r q => ?_⟩
  · unfold checkE
    rw [if_neg (by simpa using hsh), hcl]
    show (if cntL m ≠ m.refs then (9 : Int) else _) = 0
    rw [if_neg (by rw [hcnt]; simp), if_pos]
    rw [List.all_eq_true]
    intro j hj
    have hj : j < m.slots.length := by
      have : j < (m.slots.set e (1, page, [])).length := by simpa using hj
      rwa [List.length_set] at this
    have := hfree j hj
    unfold freeAt at this ⊢
    rw [hcl]
    have e1 := hkd j
    unfold kd at e1
    show (((m.slots.set e (1, page, [])).getD j default).1 == 0) == _
    rw [e1]; exact this
  · unfold lookV
    show (if r.getD (q / 4) 0 = 0 then (0 : Int) else (tabOf (m.slots.set e (1, page, [])) (r.getD (q / 4) 0)).getD (q % 4) 0) = _
    rw [htab]
end Go.Proofs.Ytehleeibgkpjmad
/- Slices of strings: what it means that a slice value holds them in a world. -/
namespace Go.Proofs.Ytehleeibgkpjmad
open Go.RowKit
set_option maxRecDepth 20000

def Ss (w : World) (v : Value) (xs : List ByteArray) : Prop :=
  ∃ ao cap, v = .slice ao xs.length cap ∧ xs.length ≤ maxLen ∧ xs.length ≤ cap ∧ (xs ≠ [] → ∃ b off, ao = some ⟨b, off, none⟩ ∧ b < w.heap.size ∧ ∀ j, j < xs.length → w.cell? ⟨b, off + j, none⟩ = some (.string (xs.getD j ByteArray.empty)))

theorem Ss.below {w w1 : World} {v : Value} {xs : List ByteArray} (h : Ss w v xs) (hb : Below w.heap.size w w1) : Ss w1 v xs := by
  obtain ⟨ao, cap, hv, hm, hcp, hc⟩ := h
  refine ⟨ao, cap, hv, hm, hcp, fun hne => ?_⟩
  obtain ⟨b, off, ha, hlt, hcell⟩ := hc hne
  exact ⟨b, off, ha, Nat.lt_of_lt_of_le hlt hb.size, fun j hj => (hb.cell (p := ⟨b, off + j, none⟩) hlt).trans (hcell j hj)⟩

theorem Ss.nil (w : World) : Ss w (.slice none 0 0) [] := ⟨none, 0, rfl, Nat.zero_le _, Nat.zero_le _, fun h => absurd rfl h⟩

theorem Ss.cells {w : World} {ao : Option Addr} {n cap : Nat} {xs : List ByteArray} (h : Ss w (.slice ao n cap) xs) :
    xs.length = n ∧ n ≤ 9223372036854775807 ∧ n ≤ cap ∧ ∀ j, j < n → ∃ b off, ao = some ⟨b, off, none⟩ ∧ b < w.heap.size ∧ w.cell? ⟨b, off + j, none⟩ = some (.string (xs.getD j ByteArray.empty)) := by
  obtain ⟨ao', cap', hv, hm, hcp, hc⟩ := h
  simp only [Value.slice.injEq] at hv
  obtain ⟨rfl, rfl, rfl⟩ := hv
  unfold maxLen at hm
  refine ⟨rfl, by omega, hcp, fun j hj => ?_⟩
  obtain ⟨b, off, rfl, hlt, hcell⟩ := hc (by intro e; rw [e] at hj; simp at hj)
  exact ⟨b, off, rfl, hlt, hcell j hj⟩

theorem Ss.form {w : World} {v : Value} {xs : List ByteArray} (h : Ss w v xs) : ∃ ao cap, v = .slice ao xs.length cap := by
  obtain ⟨ao, cap, hv, _⟩ := h; exact ⟨ao, cap, hv⟩

theorem Ss.past {w : World} {v : Value} {xs : List ByteArray} (h : Ss w v xs) (o : Obj) : Ss (w.alloc o) v xs := h.below ((Below.refl _ _).alloc (Nat.le_refl _) o)


end Go.Proofs.Ytehleeibgkpjmad
/- Flat images, plainly: what Read, Write and Resize answer, over lists of pages. -/
namespace Go.Proofs.Ytehleeibgkpjmad
open Go.RowKit
def frR (xs : List ByteArray) (g : Nat) : List ByteArray := xs.take g ++ List.replicate (g - xs.length) Z4
end Go.Proofs.Ytehleeibgkpjmad
/- Resizing: what comes is right, and how it is read; the answers of Write, Wipe, Punch, Resize. Plain lists. -/
namespace Go.Proofs.Ytehleeibgkpjmad
open Go.RowKit Go.Shelf
set_option maxRecDepth 20000

def rerootD (M : ImgD) (g : Nat) : ImgD := { M with guest := (g : Int), root := (M.root ++ List.replicate ((g + 3) / 4 - M.root.length) 0).take ((g + 3) / 4) }
def cutD (m : ImgD) (g : Nat) : Option ImgD :=
  if g % 4 ≠ 0 ∧ g / 4 < m.root.length ∧ cutR (tableO m (g / 4)) (g % 4) ≠ tableO m (g / 4) then tabledD m (g / 4) (cutR (tableO m (g / 4)) (g % 4)) else some m
def resizeD (m : ImgD) (g : Nat) : Option ImgD := (cutD m g).map (fun M => countedD (rerootD M g))

theorem reroot_get (M : ImgD) (g j : Nat) (hj : j < (g + 3) / 4) : (rerootD M g).root.getD j 0 = M.root.getD j 0 := by
  show ((M.root ++ List.replicate ((g + 3) / 4 - M.root.length) 0).take ((g + 3) / 4)).getD j 0 = _
  simp only [List.getD, List.getElem?_take, hj, if_true]
  rw [List.getElem?_append]
  split
  · rfl
  · rename_i h
    rw [List.getElem?_eq_none (l := M.root) (by omega), List.getElem?_replicate]
    split <;> rfl
theorem reroot_length (M : ImgD) (g : Nat) : (rerootD M g).root.length = (g + 3) / 4 := by
  show ((M.root ++ List.replicate ((g + 3) / 4 - M.root.length) 0).take ((g + 3) / 4)).length = _
  simp; omega
theorem reroot_mem {M : ImgD} {g : Nat} {x : Int} (h : x ∈ (rerootD M g).root) : x = 0 ∨ x ∈ M.root := by
  have h : x ∈ M.root ++ List.replicate ((g + 3) / 4 - M.root.length) 0 := List.mem_of_mem_take h
  rcases List.mem_append.1 h with h | h
  · exact .inr h
  · exact .inl (List.mem_replicate.1 h).2

theorem cutR_get {es : List Int} (h4 : es.length = 4) {n : Nat} (hn : n ≤ 4) (i : Nat) : (cutR es n).getD i 0 = if i < n then es.getD i 0 else 0 := by
  unfold cutR
  simp only [List.getD]
  rw [List.getElem?_append, List.length_take]
  by_cases h : i < n
  · rw [if_pos (by omega), if_pos h, List.getElem?_take, if_pos h]
  · rw [if_neg (by omega), if_neg h, List.getElem?_replicate]
    split <;> rfl
theorem cutR_mem {es : List Int} {n : Nat} {x : Int} (h : x ∈ cutR es n) : x ∈ es ∨ x = 0 := by
  unfold cutR at h
  rcases List.mem_append.1 h with h | h
  · exact .inl (List.mem_of_mem_take h)
  · exact .inr (List.mem_replicate.1 h).2
theorem cutR_ck' {es : List Int} (h : ckE es = 0) {n : Nat} (hn : n ≤ 4) : ckE (cutR es n) = 0 := by
  refine ckE_yes (by unfold cutR; simp; have := ckE_len h; omega) ?_
  rw [List.all_eq_true]
  intro x hx
  rcases cutR_mem hx with hm | hm
  · exact List.all_eq_true.1 (ckE_all h) x hm
  · rw [hm]; rfl
theorem drop_zero {es : List Int} {i : Nat} (h : ∀ j, i ≤ j → j < es.length → es.getD j 0 = 0) : (es.drop i).all (fun e => e == 0) = true := by
  rw [List.all_eq_true]
  intro x hx
  obtain ⟨j, hj, rfl⟩ := List.getElem_of_mem hx
  rw [List.getElem_drop]
  simp at hj
  have := h (i + j) (by omega) (by omega)
  rw [getD_at (by omega)] at this
  simpa using this
theorem of_drop_zero {es : List Int} {i : Nat} (h : (es.drop i).all (fun e => e == 0) = true) {j : Nat} (h1 : i ≤ j) : es.getD j 0 = 0 := by
  rcases Nat.lt_or_ge j es.length with hj | hj
  · have hm : es[j] ∈ es.drop i := by
      rw [List.mem_iff_getElem]
      refine ⟨j - i, by simp; omega, ?_⟩
      rw [List.getElem_drop]; congr 1; omega
    have := List.all_eq_true.1 h _ hm
    rw [getD_at hj]; simpa using this
  · simp [List.getD, Nat.not_lt.2 hj]
theorem cut_tail {m : ImgD} {k : Nat} {es : List Int} (h : TailZ m k es) (h4 : es.length = 4) {n : Nat} (hn : n ≤ 4) : TailZ m k (cutR es n) := by
  intro h1 h2
  have := h h1 h2
  refine drop_zero fun j hj hl => ?_
  rw [cutR_get h4 hn]
  split
  · exact of_drop_zero this hj
  · rfl

theorem cut_laid {m : ImgD} (hC : checkE m = 0) {g : Nat} {M : ImgD} (hM : cutD m g = some M) : (∃ es, Laid m M (g / 4) es ∧ (g / 4 < m.root.length → ∀ i, es.getD i 0 = if g % 4 = 0 ∨ i < g % 4 then (tableO m (g / 4)).getD i 0 else 0)) ∧ M.slots.length ≤ m.slots.length + 1 := by
  have h := checkE_shape hC
  unfold cutD at hM
  split at hM
  · rename_i hc
    obtain ⟨h1, h2, h3⟩ := hc
    obtain ⟨ock, oent⟩ := tableO_ok h h2
    have h4 := ckE_len ock
    obtain ⟨hL, hlen⟩ := tabled_laid hC h2 (cutR_ck' ock (by omega)) (fun e he => (cutR_mem he).elim (fun hm => oent e hm) (fun hm => by rw [hm]; rfl)) (cut_tail (tableO_tail h _) h4 (by omega)) hM
    refine ⟨⟨_, hL, fun _ i => ?_⟩, hlen⟩
    rw [cutR_get h4 (by omega)]
    by_cases hi : i < g % 4
    · rw [if_pos hi, if_pos (.inr hi)]
    · rw [if_neg hi, if_neg (fun x => x.elim h1 hi)]
  · rename_i hc
    simp at hM
    subst hM
    refine ⟨⟨tableO m (g / 4), ⟨h, rfl, rfl, rfl, fun q hq => ?_, fun _ _ _ _ => rfl, fun _ _ => rfl⟩, fun hk i => ?_⟩, Nat.le_succ _⟩
    · by_cases e : q / 4 = g / 4
      · rw [if_pos e, ← e, ← lookV_tableO]
      · rw [if_neg e]
    · by_cases hg : g % 4 = 0
      · rw [if_pos (.inl hg)]
      · have hce : cutR (tableO m (g / 4)) (g % 4) = tableO m (g / 4) := Classical.byContradiction fun x => hc ⟨hg, hk, x⟩
        have h4 := ckE_len (tableO_ok h hk).1
        have e := cutR_get h4 (n := g % 4) (by omega) i
        rw [hce] at e
        by_cases hi : i < g % 4
        · rw [if_pos (.inr hi)]
        · rw [if_neg (fun x => x.elim hg hi), e, if_neg hi]

theorem tab_look {M : ImgD} {k i : Nat} (hz : M.root.getD k 0 ≠ 0) (hi : i < 4) : (tabOf M.slots (M.root.getD k 0)).getD i 0 = lookV M M.root (4 * k + i) := by
  unfold lookV
  have e1 : (4 * k + i) / 4 = k := by omega
  have e2 : (4 * k + i) % 4 = i := by omega
  rw [e1, e2, if_neg hz]

theorem resize_shape {m : ImgD} (hC : checkE m = 0) {g : Nat} (hg : g ≤ 16) {M : ImgD} (hM : cutD m g = some M) : shapeE (rerootD M g) = 0 := by
  have h := checkE_shape hC
  obtain ⟨⟨es, hL, hes⟩, _⟩ := cut_laid hC hM
  have hrM := root_ok hL.shape
  refine reroot_shape hL.shape (by unfold guestOK; exact decide_eq_true (by omega)) ?_
  show rootFit M.slots (g : Int) (rerootD M g).root = true
  unfold rootFit
  simp only [Bool.and_eq_true, decide_eq_true_eq]
  refine ⟨by rw [reroot_length]; omega, ?_, ?_⟩
  · rw [List.all_eq_true]
    intro x hx
    rcases reroot_mem hx with e | e
    · rw [e]; rfl
    · exact List.all_eq_true.1 hrM.2 x e
  · unfold lastFit
    by_cases hg4 : g % 4 = 0
    · have : ((g : Int) % 4 == 0) = true := by simp; omega
      rw [this]; rfl
    · have hw : (g + 3) / 4 - 1 = g / 4 := by omega
      rw [reroot_length, hw, reroot_get M g _ (by omega)]
      have hgm : ((g : Int) % 4).toNat = g % 4 := by omega
      rw [hgm]
      by_cases hz : M.root.getD (g / 4) 0 = 0
      · rw [hz]; simp
      · have hk : g / 4 < M.root.length := by
          rcases Nat.lt_or_ge (g / 4) M.root.length with h' | h'
          · exact h'
          · exact absurd (by simp [List.getD, Nat.not_lt.2 h']) hz
        have hkm : g / 4 < m.root.length := by rw [← hL.rlen]; exact hk
        have hE := all_at hrM.2 hk
        rw [rootE_x hz] at hE
        have h4 := tab_len (shapeE_zero hL.shape).2.1 hE
        have : ((tabOf M.slots (M.root.getD (g / 4) 0)).drop (g % 4)).all (fun e => e == 0) = true := by
          refine drop_zero fun j hj hl => ?_
          rw [h4] at hl
          rw [tab_look hz hl, hL.look _ (by omega), if_pos (by omega), show (4 * (g / 4) + j) % 4 = j by omega, hes hkm, if_neg (by omega)]
        rw [this]; simp
theorem look_behind {m : ImgD} (h : shapeE m = 0) {q : Nat} (hq : m.guest ≤ (q : Int)) (hl : q / 4 < m.root.length) : lookV m m.root q = 0 := by
  have hr := root_ok h
  have hg := guest_ok h
  have hk : q / 4 = m.root.length - 1 := by omega
  have := tableO_tail h (q / 4) hk (by omega)
  rw [lookV_tableO]
  exact of_drop_zero this (by omega)
theorem reroot_look {M : ImgD} {g q : Nat} (hq : q < g) : lookV (rerootD M g) (rerootD M g).root q = lookV M M.root q := by
  unfold lookV
  rw [reroot_get M g _ (by omega)]
  rfl
theorem resize_all {m : ImgD} (hC : checkE m = 0) {g : Nat} (hg : g ≤ 16) {M : ImgD} (hM : cutD m g = some M) : allV (countedD (rerootD M g)) = frR (allV m) g := by
  have h := checkE_shape hC
  have hsh := resize_shape hC hg hM
  obtain ⟨⟨es, hL, hes⟩, _⟩ := cut_laid hC hM
  have hr := root_ok h
  have hgm := guest_ok h
  have e1 : allV (countedD (rerootD M g)) = allP (rerootD M g) (rerootD M g).root g := by
    unfold allV
    rw [if_pos (counted_right hsh)]
    exact allP_counted hsh (s := (⟨#[]⟩, (rerootD M g).guest, (rerootD M g).root)) List.mem_cons_self
  have e2 : allV m = allP m m.root m.guest.toNat := by unfold allV; rw [if_pos hC]
  rw [e1, e2]
  unfold frR allP
  apply List.ext_getElem
  · simp; omega
  · intro q h1 h2
    have hq : q < g := by simpa using h1
    rw [List.getElem_map, List.getElem_range, reroot_look hq]
    show pageV M.slots _ = _
    have hlook : lookV M M.root q = lookV m m.root q := by
      rcases Nat.lt_or_ge (q / 4) m.root.length with hl | hl
      · rw [hL.look q hl]
        by_cases e : q / 4 = g / 4
        · rw [if_pos e, hes (by omega), if_pos (by omega), ← e, ← lookV_tableO]
        · rw [if_neg e]
      · unfold lookV
        have a : m.root.getD (q / 4) 0 = 0 := by simp [List.getD, Nat.not_lt.2 hl]
        have b : M.root.getD (q / 4) 0 = 0 := by rw [← hL.rlen] at hl; simp [List.getD, Nat.not_lt.2 hl]
        rw [a, b, if_pos rfl, if_pos rfl]
    rw [hlook]
    rcases Nat.lt_or_ge q m.guest.toNat with hlt | hge
    · rw [List.getElem_append_left (by simp; omega)]
      simp only [List.getElem_take, List.getElem_map, List.getElem_range]
      exact hL.page _ (lookV_ent h hr.2 q (by omega))
    · rw [List.getElem_append_right (by simp; omega)]
      simp only [List.getElem_replicate]
      have hz : lookV m m.root q = 0 := by
        rcases Nat.lt_or_ge (q / 4) m.root.length with hl | hl
        · exact look_behind h (by omega) hl
        · unfold lookV
          have a : m.root.getD (q / 4) 0 = 0 := by simp [List.getD, Nat.not_lt.2 hl]
          rw [a, if_pos rfl]
      rw [hz]; rfl
end Go.Proofs.Ytehleeibgkpjmad
/- What Write, Wipe, Punch and Resize answer, plain: it is right, how much greater it is, and how it is read. -/
namespace Go.Proofs.Ytehleeibgkpjmad
open Go.RowKit Go.Shelf
set_option maxRecDepth 20000


theorem le_two {f : Nat → Nat} {a b : Nat} : ∀ {n : Nat}, a < n → b < n → a ≠ b → f a + f b ≤ ((List.range n).map f).sum
  | 0, h, _, _ => absurd h (by omega)
  | n + 1, ha, hb, hne => by
    rw [List.range_succ, List.map_append, List.sum_append]
    by_cases ea : a = n
    · have := le_sum (f := f) (n := n) (k := b) (by omega); subst ea; simp; omega
    · by_cases eb : b = n
      · have := le_sum (f := f) (n := n) (k := a) (by omega); subst eb; simp; omega
      · have := le_two (f := f) (a := a) (b := b) (n := n) (by omega) (by omega) hne; simp; omega
theorem look_by {m : ImgD} (h : shapeE m = 0) {root : List Int} (hall : root.all (rootE m.slots) = true) {q : Nat} (hl : q / 4 < root.length) {e : Nat} (e1 : 1 ≤ e) (hq : lookV m root q = (e : Int)) :
    ∃ j : Nat, root.getD (q / 4) 0 = (j : Int) ∧ (j : Int) ∈ root ∧ j < m.slots.length ∧ kd m.slots j = 2 ∧ q % 4 < (tabOf m.slots j).length ∧ (tabOf m.slots j).getD (q % 4) 0 = (e : Int) := by
  unfold lookV at hq
  by_cases hz : root.getD (q / 4) 0 = 0
  · rw [if_pos hz] at hq; omega
  rw [if_neg hz] at hq
  have hE := all_at hall hl
  have hE2 := hE
  rw [rootE_x hz] at hE2
  have h4 := tab_len (shapeE_zero h).2.1 hE2
  rcases rootE_cases hE with e0 | ⟨j, ej, hj, hk⟩
  · exact absurd e0 hz
  · refine ⟨j, ej, ?_, hj, hk, ?_, ?_⟩
    · rw [← ej, getD_at hl]; exact List.getElem_mem hl
    · rw [← ej]; omega
    · rw [← ej]; exact hq
theorem told_twice {m : ImgD} {e : Nat} (e1 : 1 ≤ e) (hc : cntI m.slots (flatR m) e = 1) {j i j' i' : Nat} (hj : j < m.slots.length) (hk : kd m.slots j = 2) (hm : (j : Int) ∈ flatR m) (hi : i < (tabOf m.slots j).length) (ht : (tabOf m.slots j).getD i 0 = (e : Int))
    (hj' : j' < m.slots.length) (hk' : kd m.slots j' = 2) (hm' : (j' : Int) ∈ flatR m) (hi' : i' < (tabOf m.slots j').length) (ht' : (tabOf m.slots j').getD i' 0 = (e : Int)) : j = j' ∧ i = i' := by
  unfold cntI at hc
  rw [if_neg (by omega)] at hc
  have hs : sumT m.slots (flatR m) (e : Int) ≤ 1 := by omega
  have t1 : toldT m.slots (flatR m) e j = (tabOf m.slots j).count (e : Int) := by unfold toldT; rw [if_pos ⟨hk, hm⟩]
  have t2 : toldT m.slots (flatR m) e j' = (tabOf m.slots j').count (e : Int) := by unfold toldT; rw [if_pos ⟨hk', hm'⟩]
  have c1 : 1 ≤ (tabOf m.slots j).count (e : Int) := List.count_pos_iff.2 (by rw [← ht, getD_at hi]; exact List.getElem_mem hi)
  have c2 : 1 ≤ (tabOf m.slots j').count (e : Int) := List.count_pos_iff.2 (by rw [← ht', getD_at hi']; exact List.getElem_mem hi')
  have ej : j = j' := Classical.byContradiction fun hne => by
    have := le_two (f := toldT m.slots (flatR m) e) hj hj' hne
    unfold sumT at hs
    omega
  subst ej
  refine ⟨rfl, Classical.byContradiction fun hne => ?_⟩
  have h2 : 2 ≤ (tabOf m.slots j).count (e : Int) := by
    rcases Nat.lt_or_ge i i' with hl | hl
    · exact count_two _ i i' hl hi' ht ht'
    · exact count_two _ i' i (by omega) hi ht' ht
  have := le_sum (f := toldT m.slots (flatR m) e) (n := m.slots.length) (k := j) hj
  unfold sumT at hs
  omega
theorem inplace_only {m : ImgD} (hC : checkE m = 0) {n : Nat} (hn : (n : Int) < m.guest) (hi : wInPl m n = true) :
    ∃ e : Nat, lookV m m.root n = (e : Int) ∧ 1 ≤ e ∧ e < m.slots.length ∧ kd m.slots e = 1 ∧ (∀ q, q / 4 < m.root.length → q ≠ n → lookV m m.root q ≠ (e : Int)) ∧ ∀ s ∈ m.snaps, ∀ q, q / 4 < s.2.2.length → lookV m s.2.2 q ≠ (e : Int) := by
  obtain ⟨h, hcnt, _⟩ := checkE_zero hC
  have hr := root_ok h
  have hg := guest_ok h
  have hk : n / 4 < m.root.length := by omega
  unfold wInPl at hi
  simp only [Bool.and_eq_true, decide_eq_true_eq, beq_iff_eq] at hi
  obtain ⟨hpos, hin, hrf⟩ := hi
  rcases lookV_ent h hr.2 n hk with e0 | e0 | ⟨e, he, e1, el, ek⟩
  · omega
  · omega
  rw [he, Int.toNat_natCast, ← hcnt, cntL_get h e el] at hrf
  obtain ⟨j, ej, jm, hj, hjk, hjl, hjt⟩ := look_by h hr.2 hk e1 he
  have hin2 := hin
  unfold inPl at hin2
  simp only [Bool.and_eq_true, bne_iff_ne, beq_iff_eq] at hin2
  have hlone : Lone m (n / 4) j := by
    have hrf2 := hin2.2
    have j1 : 1 ≤ j := by have := hin2.1; omega
    rw [ej, Int.toNat_natCast, ← hcnt, cntL_get h j hj] at hrf2
    unfold cntI at hrf2
    rw [if_neg (by omega), sumT_no (shapeE_zero h).2.2.2.2.2.1 _ j1 (by rw [hjk]; decide)] at hrf2
    exact lone_one hk ej (by omega)
  have hjf : (j : Int) ∈ flatR m := by rw [flatR_app]; exact List.mem_append_left _ jm
  refine ⟨e, he, e1, el, ek, fun q hq hne hl => ?_, fun s hs q hq hl => ?_⟩
  · obtain ⟨j', ej', jm', hj', hjk', hjl', hjt'⟩ := look_by h hr.2 hq e1 hl
    obtain ⟨e2, e3⟩ := told_twice e1 hrf hj hjk hjf hjl hjt hj' hjk' (by rw [flatR_app]; exact List.mem_append_left _ jm') hjl' hjt'
    subst e2
    by_cases e4 : q / 4 = n / 4
    · exact hne (by omega)
    · exact hlone.root (q / 4) hq e4 ej'
  · have hfit := snap_fit h (List.mem_cons_of_mem _ hs)
    obtain ⟨j', ej', jm', hj', hjk', hjl', hjt'⟩ := look_by h hfit.2.2.2 hq e1 hl
    obtain ⟨e2, e3⟩ := told_twice e1 hrf hj hjk hjf hjl hjt hj' hjk' (by rw [flatR_app]; exact List.mem_append_right _ (by rw [List.mem_flatMap]; exact ⟨s, hs, jm'⟩)) hjl' hjt'
    subst e2
    exact hlone.snap s hs jm'
theorem page_setP {L : List SlotD} {e : Nat} {page : ByteArray} {x : Int} (hx : x ≠ (e : Int)) (hx0 : 0 ≤ x ∨ x ≤ 0) : pageV (L.set e (1, page, [])) x = pageV L x := by
  unfold pageV
  by_cases h : x ≤ 0
  · rw [if_pos h, if_pos h]
  · rw [if_neg h, if_neg h]
    have : e ≠ x.toNat := by omega
    simp [List.getD, this]
theorem page_at {L : List SlotD} {e : Nat} {page : ByteArray} (e1 : 1 ≤ e) (el : e < L.length) : pageV (L.set e (1, page, [])) (e : Int) = page := by
  unfold pageV
  rw [if_neg (by omega), Int.toNat_natCast]
  simp [List.getD, el]

structure Wrote (m M : ImgD) (n : Nat) (page : ByteArray) (d : Nat) : Prop where
  right : checkE M = 0
  len : M.slots.length ≤ m.slots.length + d
  all : allV M = (allV m).set n page
  pastV : ∀ nm, pastV M nm = pastV m nm
  pastE : ∀ nm, pastE M nm = pastE m nm
  guest : M.guest = m.guest

theorem allP_congr {m M : ImgD} {r r' : List Int} {g : Nat} (h : ∀ q, q < g → pageV M.slots (lookV M r' q) = pageV m.slots (lookV m r q)) : allP M r' g = allP m r g := by
  unfold allP
  exact List.map_congr_left fun q hq => h q (List.mem_range.1 hq)
theorem past_of {m M : ImgD} (hC : checkE m = 0) (hM : checkE M = 0) (hs : M.snaps = m.snaps) (h : ∀ s ∈ m.snaps, allP M s.2.2 s.2.1.toNat = allP m s.2.2 s.2.1.toNat) (nm : ByteArray) : pastV M nm = pastV m nm ∧ pastE M nm = pastE m nm := by
  unfold pastV pastE
  rw [if_neg (by rw [hM]; simp), if_neg (by rw [hC]; simp), if_neg (by rw [hM]; simp), if_neg (by rw [hC]; simp), hs]
  cases hsi : snapIx m.snaps nm with
  | none => exact ⟨rfl, rfl⟩
  | some j => exact ⟨h _ (snapIx_get hsi), rfl⟩
theorem wrote_in {m : ImgD} (hC : checkE m = 0) {n : Nat} (hn : (n : Int) < m.guest) (hi : wInPl m n = true) {page : ByteArray} (hp : page.size = 4) : Wrote m { m with slots := m.slots.set (lookV m m.root n).toNat (1, page, []) } n page 0 := by
  obtain ⟨e, he, e1, el, ek, hown, hsnap⟩ := inplace_only hC hn hi
  have h := checkE_shape hC
  have hr := root_ok h
  have hg := guest_ok h
  rw [he, Int.toNat_natCast]
  obtain ⟨hck, hlk⟩ := setP_same (page := page) hC ek hp
  have hp2 : ∀ nm, pastV { m with slots := m.slots.set e (1, page, []) } nm = pastV m nm ∧ pastE { m with slots := m.slots.set e (1, page, []) } nm = pastE m nm := past_of hC hck rfl fun s hs => allP_congr fun q hq => by
    have hfit := snap_fit h (List.mem_cons_of_mem _ hs)
    rw [hlk]
    exact page_setP (hsnap s hs q (by omega)) (by omega)
  refine ⟨hck, by show (m.slots.set _ _).length ≤ _; rw [List.length_set]; omega, ?_, fun nm => (hp2 nm).1, fun nm => (hp2 nm).2, rfl⟩
  unfold allV
  rw [if_pos hck, if_pos hC]
  unfold allP
  apply List.ext_getElem
  · simp
  · intro q h1 h2
    have hq : q < m.guest.toNat := by simpa using h1
    rw [List.getElem_set, List.getElem_map, List.getElem_range, hlk]
    show pageV (m.slots.set e (1, page, [])) (lookV m m.root q) = _
    by_cases e4 : n = q
    · subst e4
      rw [if_pos rfl, he, page_at e1 el]
    · rw [if_neg e4, List.getElem_map, List.getElem_range]
      exact page_setP (hown q (by omega) (fun x => e4 x.symm)) (by omega)
theorem Laid.wrote {m M : ImgD} {n d : Nat} {x : Int} (hC : checkE m = 0) (hn : (n : Int) < m.guest) (hL : Laid m M (n / 4) ((tableO m (n / 4)).set (n % 4) x)) (hl : M.slots.length ≤ m.slots.length + d) {page : ByteArray} (hp : pageV M.slots x = page) : Wrote m (countedD M) n page d := by
  refine ⟨counted_right hL.shape, ?_, ?_, fun nm => (hL.pastV hC nm).1, fun nm => (hL.pastV hC nm).2, hL.guest⟩
  · have : (countedD M).slots.length = M.slots.length := freeUn_length _ _
    omega
  · rw [← hp]; exact hL.put hC hn
theorem wrote_write {m : ImgD} (hC : checkE m = 0) {n : Nat} (hn : (n : Int) < m.guest) {page : ByteArray} (hp : page.size = 4) {M : ImgD} (hM : writeD m n page = some M) : Wrote m M n page 2 := by
  unfold writeD at hM
  by_cases hi : wInPl m n = true
  · rw [if_pos hi] at hM
    simp only [Option.some.injEq] at hM
    subst hM
    have := wrote_in hC hn hi hp
    exact ⟨this.right, Nat.le_trans this.len (by omega), this.all, this.pastV, this.pastE, this.guest⟩
  · rw [if_neg hi] at hM
    by_cases h1 : tabN m (n / 4) = 40
    · rw [if_pos h1] at hM; cases hM
    · rw [if_neg h1] at hM
      by_cases h2 : wD m n = 40
      · rw [if_pos h2] at hM; cases hM
      · rw [if_neg h2] at hM
        simp only [Option.some.injEq] at hM
        subst hM
        obtain ⟨a, b, c⟩ := write_laid hC hn h1 h2 hp
        exact a.wrote hC hn c b
theorem set_page_same {l : List ByteArray} {n : Nat} {x : ByteArray} (h : l[n]? = some x) : l.set n x = l := by
  apply List.ext_getElem?
  intro i
  rw [List.getElem?_set]
  by_cases e : n = i
  · subst e
    have := (List.getElem?_eq_some_iff.1 h).1
    rw [if_pos rfl, if_pos this, h]
  · rw [if_neg e]
theorem wrote_put {m : ImgD} (hC : checkE m = 0) {n : Nat} (hn : (n : Int) < m.guest) {e : Int} (he : e = 0 ∨ e = -1) {M : ImgD} (hM : putD m n e = some M) : Wrote m M n Z4 1 := by
  have h := checkE_shape hC
  have hr := root_ok h
  have hg := guest_ok h
  have hk : n / 4 < m.root.length := by omega
  have hpe : ∀ L, pageV L e = Z4 := fun L => by unfold pageV; rw [if_pos (by omega)]
  unfold putD at hM
  by_cases hi : (tableO m (n / 4)).getD (n % 4) 0 = e
  · rw [if_pos hi] at hM
    simp only [Option.some.injEq] at hM
    subst hM
    refine ⟨hC, Nat.le_succ _, ?_, fun _ => rfl, fun _ => rfl, rfl⟩
    refine (set_page_same ?_).symm
    unfold allV allP
    rw [if_pos hC, List.getElem?_map, List.getElem?_range (by omega)]
    show some (pageV m.slots (lookV m m.root n)) = _
    rw [lookV_tableO, hi, hpe]
  · rw [if_neg hi] at hM
    cases ht : tabledD m (n / 4) ((tableO m (n / 4)).set (n % 4) e) with
    | none => rw [ht] at hM; cases hM
    | some T =>
      rw [ht] at hM
      simp only [Option.map_some, Option.some.injEq] at hM
      subst hM
      obtain ⟨ock, oent⟩ := tableO_ok h hk
      obtain ⟨a, b⟩ := tabled_laid hC hk (set_ck ock (by rcases he with rfl | rfl <;> rfl)) (fun x hx => by
        rcases mem_set hx with hx | rfl
        · exact oent x hx
        · rcases he with rfl | rfl <;> rfl) (tail_set (tableO_tail h _) hn rfl hr.1 e) ht
      exact a.wrote hC hn b (hpe _)
structure Resized (m M : ImgD) (g : Nat) : Prop where
  right : checkE M = 0
  len : M.slots.length ≤ m.slots.length + 1
  all : allV M = frR (allV m) g
  pastV : ∀ nm, pastV M nm = pastV m nm
  pastE : ∀ nm, pastE M nm = pastE m nm
  guest : M.guest = (g : Int)
theorem resized_is {m : ImgD} (hC : checkE m = 0) {g : Nat} (hg : g ≤ 16) {M : ImgD} (hM : resizeD m g = some M) : Resized m M g := by
  have h := checkE_shape hC
  unfold resizeD at hM
  cases ht : cutD m g with
  | none => rw [ht] at hM; cases hM
  | some T =>
    rw [ht] at hM
    simp only [Option.map_some, Option.some.injEq] at hM
    subst hM
    have hsh := resize_shape hC hg ht
    obtain ⟨⟨es, hL, hes⟩, hlen⟩ := cut_laid hC ht
    have hps := past_of hC (counted_right hsh) (show (countedD (rerootD T g)).snaps = m.snaps from hL.snaps) (fun s hs => by
      have hsT : s ∈ (rerootD T g).snaps := by show s ∈ T.snaps; rw [hL.snaps]; exact hs
      have e1 := allP_counted hsh (s := s) (List.mem_cons_of_mem _ hsT)
      rw [e1]
      have hfit := snap_fit h (List.mem_cons_of_mem _ hs)
      refine allP_congr fun q hq => ?_
      have e2 : lookV (rerootD T g) s.2.2 q = lookV T s.2.2 q := rfl
      rw [e2, hL.past s hs q (by omega)]
      exact hL.page _ (lookV_ent h hfit.2.2.2 q (by omega)))
    refine ⟨counted_right hsh, ?_, resize_all hC hg ht, fun nm => (hps nm).1, fun nm => (hps nm).2, rfl⟩
    have : (countedD (rerootD T g)).slots.length = T.slots.length := freeUn_length _ _
    omega
end Go.Proofs.Ytehleeibgkpjmad
/- An image of one's own: each of its lists, each table and each snapshot's Root lies in a row of its own, in memory that came since B. What stays, and what turns, when something is stored. -/
namespace Go.Proofs.Ytehleeibgkpjmad
open Go.RowKit
set_option maxRecDepth 20000

structure Nm where
  kind : Nat
  ix : Nat
abbrev Nm.root : Nm := ⟨0, 0⟩
abbrev Nm.slots : Nm := ⟨1, 0⟩
abbrev Nm.refs : Nm := ⟨2, 0⟩
abbrev Nm.snaps : Nm := ⟨3, 0⟩
abbrev Nm.tab (j : Nat) : Nm := ⟨4, j⟩
abbrev Nm.sr (j : Nat) : Nm := ⟨5, j⟩
def Live (m : ImgD) (a : Nm) : Prop := (a.kind < 4 ∧ a.ix = 0) ∨ (a.kind = 4 ∧ a.ix < m.slots.length) ∨ (a.kind = 5 ∧ a.ix < m.snaps.length)
theorem Live.cases {m : ImgD} {a : Nm} (h : Live m a) : a = .root ∨ a = .slots ∨ a = .refs ∨ a = .snaps ∨ (∃ j, a = .tab j ∧ j < m.slots.length) ∨ ∃ j, a = .sr j ∧ j < m.snaps.length := by
  obtain ⟨k, j⟩ := a
  rcases h with ⟨h1, h2⟩ | ⟨h1, h2⟩ | ⟨h1, h2⟩
  · dsimp only at h1 h2
    subst h2
    match k, h1 with
    | 0, _ => exact .inl rfl
    | 1, _ => exact .inr (.inl rfl)
    | 2, _ => exact .inr (.inr (.inl rfl))
    | 3, _ => exact .inr (.inr (.inr (.inl rfl)))
  · dsimp only at h1 h2; subst h1; exact .inr (.inr (.inr (.inr (.inl ⟨j, rfl, h2⟩))))
  · dsimp only at h1 h2; subst h1; exact .inr (.inr (.inr (.inr (.inr ⟨j, rfl, h2⟩))))
theorem Live.root (m : ImgD) : Live m .root := .inl ⟨by decide, rfl⟩
theorem Live.slots (m : ImgD) : Live m .slots := .inl ⟨by decide, rfl⟩
theorem Live.refs (m : ImgD) : Live m .refs := .inl ⟨by decide, rfl⟩
theorem Live.snaps (m : ImgD) : Live m .snaps := .inl ⟨by decide, rfl⟩
theorem Live.tab {m : ImgD} {j : Nat} (h : j < m.slots.length) : Live m (.tab j) := .inr (.inl ⟨rfl, h⟩)
theorem Live.sr {m : ImgD} {j : Nat} (h : j < m.snaps.length) : Live m (.sr j) := .inr (.inr ⟨rfl, h⟩)
theorem live_iff {m m' : ImgD} (h1 : m'.slots.length = m.slots.length) (h2 : m'.snaps.length = m.snaps.length) (b : Nm) : Live m' b ↔ Live m b := by unfold Live; rw [h1, h2]
def flatS (L : List SlotD) (tv : Nat → Value) : List Value := (List.range L.length).flatMap (fun j => [.int .i64 (L.getD j default).1, .string (L.getD j default).2.1, tv j])
def flatN (S : List SnapD) (qv : Nat → Value) : List Value := (List.range S.length).flatMap (fun j => [.string (S.getD j default).1, .int .i64 (S.getD j default).2.1, qv j])
def ints (l : List Int) : List Value := l.map (Value.int .i64)
def rowT (a : Nm) : TypeId := match a.kind with | 1 => 52 | 3 => 72 | _ => 3
def rowS (a : Nm) : Nat := match a.kind with | 1 => 3 | 3 => 3 | _ => 1
def rowN (m : ImgD) (a : Nm) : Nat := match a.kind with
  | 0 => m.root.length
  | 1 => m.slots.length
  | 2 => m.refs.length
  | 3 => m.snaps.length
  | 4 => (m.slots.getD a.ix default).2.2.length
  | _ => (m.snaps.getD a.ix default).2.2.length
def rowV (m : ImgD) (val : Nm → Value) (a : Nm) : List Value := match a.kind with
  | 0 => ints m.root
  | 1 => flatS m.slots (fun j => val (.tab j))
  | 2 => ints m.refs
  | 3 => flatN m.snaps (fun j => val (.sr j))
  | 4 => ints (m.slots.getD a.ix default).2.2
  | _ => ints (m.snaps.getD a.ix default).2.2
def imgV (g : Int) (val : Nm → Value) : Value := .agg #[.int .i64 g, val .root, val .slots, val .refs, val .snaps]

structure OI (W : World) (B : Nat) (val : Nm → Value) (m : ImgD) : Prop where
  row : ∀ a, Live m a → W.ownsRow B (rowT a) (rowS a) (val a) (rowN m a) (rowV m val a)
  apart : ∀ a b, Live m a → Live m b → a ≠ b → ∀ g, (val a).ownBlock = some g → (val b).ownBlock ≠ some g

theorem OI.keep {W W' : World} {B : Nat} {val : Nm → Value} {m : ImgD} (h : OI W B val m) (hk : ∀ g, B ≤ g → g < W.heap.size → W'.heap[g]? = W.heap[g]?) : OI W' B val m := by
  refine ⟨fun a ha => ?_, h.apart⟩
  have hr := h.row a ha
  refine ⟨hr.1, ?_⟩
  rcases hr.2 with hn | ⟨g, cap, cur, hv, hb, hg, rest⟩
  · exact .inl hn
  · exact .inr ⟨g, cap, cur, hv, hb, (hk g hb (Array.getElem?_eq_some_iff.1 hg).1).trans hg, rest⟩
theorem OI.below {W W' : World} {B : Nat} {val : Nm → Value} {m : ImgD} (h : OI W B val m) (hb : Below W.heap.size W W') : OI W' B val m := h.keep fun g _ hg => hb.block g hg
theorem OI.alloc {W : World} {B : Nat} {val : Nm → Value} {m : ImgD} (h : OI W B val m) (o : Obj) : OI (W.alloc o) B val m := h.below ((Below.refl _ _).alloc (Nat.le_refl _) o)
theorem OI.drew {W : World} {B : Nat} {val : Nm → Value} {m : ImgD} (h : OI W B val m) : OI W.drew B val m := ⟨fun a ha => (h.row a ha).drew, h.apart⟩


theorem ints_length (l : List Int) : (ints l).length = l.length := by simp [ints]
theorem row_sl {W : World} {B : Nat} {v : Value} {l : List Int} (h : W.ownsRow B 3 1 v l.length (ints l)) : Sl W v l := by
  rcases h.2 with ⟨rfl, hn⟩ | ⟨g, cap, cur, rfl, _⟩
  · have : l = [] := List.eq_nil_of_length_eq_zero hn
    subst this; exact Sl.nil W
  · exact Sl_of_own h
theorem flat3_get (f : Nat → Value × Value × Value) : ∀ (n j i : Nat), j < n → i < 3 → ((List.range n).flatMap (fun j => [(f j).1, (f j).2.1, (f j).2.2]))[j * 3 + i]? = some (if i = 0 then (f j).1 else if i = 1 then (f j).2.1 else (f j).2.2)
  | 0, j, i, hj, _ => absurd hj (by omega)
  | n + 1, j, i, hj, hi => by
    have hl : ∀ n, ((List.range n).flatMap (fun j => [(f j).1, (f j).2.1, (f j).2.2])).length = n * 3 := fun n => by
      induction n with
      | zero => rfl
      | succ n ih => rw [List.range_succ, List.flatMap_append, List.length_append, ih]; simp; omega
    rw [List.range_succ, List.flatMap_append]
    by_cases e : j < n
    · rw [List.getElem?_append_left (by rw [hl]; omega)]
      exact flat3_get f n j i e hi
    · have : j = n := by omega
      subst this
      rw [List.getElem?_append_right (by rw [hl]; omega), hl]
      match i, hi with
      | 0, _ => simp
      | 1, _ => simp
      | 2, _ => simp
theorem flatS_get {L : List SlotD} {tv : Nat → Value} {j : Nat} (hj : j < L.length) : (flatS L tv)[j * 3]? = some (.int .i64 (L.getD j default).1) ∧ (flatS L tv)[j * 3 + 1]? = some (.string (L.getD j default).2.1) ∧ (flatS L tv)[j * 3 + 2]? = some (tv j) := by
  have h := fun i hi => flat3_get (fun j => (.int .i64 (L.getD j default).1, .string (L.getD j default).2.1, tv j)) L.length j i hj hi
  exact ⟨h 0 (by omega), h 1 (by omega), h 2 (by omega)⟩
theorem flatN_get {S : List SnapD} {qv : Nat → Value} {j : Nat} (hj : j < S.length) : (flatN S qv)[j * 3]? = some (.string (S.getD j default).1) ∧ (flatN S qv)[j * 3 + 1]? = some (.int .i64 (S.getD j default).2.1) ∧ (flatN S qv)[j * 3 + 2]? = some (qv j) := by
  have h := fun i hi => flat3_get (fun j => (.string (S.getD j default).1, .int .i64 (S.getD j default).2.1, qv j)) S.length j i hj hi
  exact ⟨h 0 (by omega), h 1 (by omega), h 2 (by omega)⟩
theorem row_lt {W : World} {B : Nat} {e : TypeId} {size g n cap : Nat} {xs : List Value} (h : W.ownsRow B e size (.slice (some ⟨g, 0, none⟩) n cap) n xs) : B ≤ g ∧ g < W.heap.size ∧ n ≤ cap ∧ cap ≤ maxLen := by
  rcases h.2 with ⟨h', _⟩ | ⟨g', cap', cur, h', hb, hg, hnc, hcm, _⟩
  · simp at h'
  · simp only [Value.slice.injEq, Option.some.injEq, Addr.mk.injEq, and_true, true_and] at h'
    obtain ⟨rfl, rfl⟩ := h'
    exact ⟨hb, (Array.getElem?_eq_some_iff.1 hg).1, hnc, hcm⟩
theorem row_form {W : World} {B : Nat} {e : TypeId} {size n : Nat} {v : Value} {xs : List Value} (h : W.ownsRow B e size v n xs) : (v = .slice none 0 0 ∧ n = 0) ∨ ∃ g cap, v = .slice (some ⟨g, 0, none⟩) n cap ∧ B ≤ g ∧ g < W.heap.size ∧ n ≤ cap ∧ cap ≤ maxLen := by
  have h' := h
  rcases h.2 with hn | ⟨g, cap, cur, rfl, _⟩
  · exact .inl hn
  · exact .inr ⟨g, cap, rfl, row_lt h'⟩
theorem row_slots {W : World} {B : Nat} {v : Value} {L : List SlotD} {tv : Nat → Value} (h : W.ownsRow B 52 3 v L.length (flatS L tv)) (ht : ∀ j, j < L.length → Sl W (tv j) (L.getD j default).2.2) : Slots W v L := by
  have h' := h
  rcases row_form h with ⟨rfl, hn⟩ | ⟨g, cap, rfl, hb, hg, hnc, hcm⟩
  · have : L = [] := List.eq_nil_of_length_eq_zero hn
    subst this; exact ⟨none, 0, rfl, Nat.zero_le _, Nat.zero_le _, fun h => absurd rfl h⟩
  · refine ⟨_, cap, rfl, Nat.le_trans hnc hcm, hnc, fun _ => ⟨g, 0, rfl, hg, fun j hj => ?_⟩⟩
    have hc := fun i (hi : i < 3) => h'.cellAt (j * 3 + i) (by omega)
    obtain ⟨g0, g1, g2⟩ := flatS_get (tv := tv) hj
    have e : L[j] = L.getD j default := by simp [List.getD, hj]
    rw [e, Nat.zero_add]
    exact ⟨tv j, (hc 0 (by omega)).trans g0, (hc 1 (by omega)).trans g1, (hc 2 (by omega)).trans g2, ht j hj⟩
theorem row_snaps {W : World} {B : Nat} {v : Value} {S : List SnapD} {qv : Nat → Value} (h : W.ownsRow B 72 3 v S.length (flatN S qv)) (ht : ∀ j, j < S.length → Sl W (qv j) (S.getD j default).2.2) : Snaps W v S := by
  have h' := h
  rcases row_form h with ⟨rfl, hn⟩ | ⟨g, cap, rfl, hb, hg, hnc, hcm⟩
  · have : S = [] := List.eq_nil_of_length_eq_zero hn
    subst this; exact ⟨none, 0, rfl, Nat.zero_le _, Nat.zero_le _, fun h => absurd rfl h⟩
  · refine ⟨_, cap, rfl, Nat.le_trans hnc hcm, hnc, fun _ => ⟨g, 0, rfl, hg, fun j hj => ?_⟩⟩
    have hc := fun i (hi : i < 3) => h'.cellAt (j * 3 + i) (by omega)
    obtain ⟨g0, g1, g2⟩ := flatN_get (qv := qv) hj
    have e : S[j] = S.getD j default := by simp [List.getD, hj]
    rw [e, Nat.zero_add]
    exact ⟨qv j, (hc 0 (by omega)).trans g0, (hc 1 (by omega)).trans g1, (hc 2 (by omega)).trans g2, ht j hj⟩
theorem OI.img {W : World} {B : Nat} {val : Nm → Value} {m : ImgD} (h : OI W B val m) : Img W (imgV m.guest val) m :=
  ⟨_, _, _, _, rfl, row_sl (h.row .root (Live.root m)), row_slots (h.row .slots (Live.slots m)) (fun j hj => row_sl (h.row (.tab j) (Live.tab hj))), row_sl (h.row .refs (Live.refs m)), row_snaps (h.row .snaps (Live.snaps m)) (fun j hj => row_sl (h.row (.sr j) (Live.sr hj)))⟩


theorem OI.store {W : World} {B : Nat} {val : Nm → Value} {m m' : ImgD} (h : OI W B val m) {a : Nm} (ha : Live m a) {g n cap : Nat} (hv : val a = .slice (some ⟨g, 0, none⟩) n cap) (i : Nat) (u : Value)
    (hlive : ∀ b, Live m' b ↔ Live m b) (hn : ∀ b, Live m b → rowN m' b = rowN m b) (hsame : ∀ b, Live m b → b ≠ a → rowV m' val b = rowV m val b) (hset : rowV m' val a = (rowV m val a).set i u) : OI (W.setCell ⟨g, i, none⟩ u) B val m' := by
  refine ⟨fun b hb => ?_, fun b c hb hc => h.apart b c ((hlive b).1 hb) ((hlive c).1 hc)⟩
  have hb := (hlive b).1 hb
  rw [hn b hb]
  by_cases e : b = a
  · subst e
    have hr := h.row b hb
    rw [hset]
    have hnn : n = rowN m b := by
      rcases row_form hr with ⟨e, _⟩ | ⟨g', cap', e, _⟩
      · rw [hv] at e; simp at e
      · rw [hv] at e; simp at e; exact e.2.1
    subst hnn
    rw [hv] at hr ⊢
    exact (hr.stored i u).1
  · rw [hsame b hb e]
    exact ownsRow_setCell_other (h.row b hb) (h.apart a b ha hb (fun x => e x.symm) g (by rw [hv]; rfl)) u
theorem getD_setR (l : List SlotD) (i j : Nat) (s : SlotD) : (l.set i s).getD j default = if i = j ∧ j < l.length then s else l.getD j default := by
  by_cases hj : j < l.length
  · by_cases e : i = j
    · subst e; simp [List.getD, hj]
    · simp [List.getD, e]
  · simp [List.getD, hj]
theorem ints_set (l : List Int) (i : Nat) (x : Int) : ints (l.set i x) = (ints l).set i (.int .i64 x) := by unfold ints; rw [List.map_set]
theorem OI.setRoot {W : World} {B : Nat} {val : Nm → Value} {m : ImgD} (h : OI W B val m) {g n cap : Nat} (hv : val .root = .slice (some ⟨g, 0, none⟩) n cap) (i : Nat) (x : Int) : OI (W.setCell ⟨g, i, none⟩ (.int .i64 x)) B val { m with root := m.root.set i x } := by
  refine h.store (a := .root) (Live.root m) hv i _ (live_iff rfl rfl) (fun b hb => ?_) (fun b hb hne => ?_) (ints_set _ _ _)
  · rcases hb.cases with rfl | rfl | rfl | rfl | ⟨j, rfl, hj⟩ | ⟨j, rfl, hj⟩ <;> first | rfl | exact List.length_set
  · rcases hb.cases with rfl | rfl | rfl | rfl | ⟨j, rfl, hj⟩ | ⟨j, rfl, hj⟩ <;> first | rfl | exact absurd rfl hne
theorem OI.setRefs {W : World} {B : Nat} {val : Nm → Value} {m : ImgD} (h : OI W B val m) {g n cap : Nat} (hv : val .refs = .slice (some ⟨g, 0, none⟩) n cap) (i : Nat) (x : Int) : OI (W.setCell ⟨g, i, none⟩ (.int .i64 x)) B val { m with refs := m.refs.set i x } := by
  refine h.store (a := .refs) (Live.refs m) hv i _ (live_iff rfl rfl) (fun b hb => ?_) (fun b hb hne => ?_) (ints_set _ _ _)
  · rcases hb.cases with rfl | rfl | rfl | rfl | ⟨j, rfl, hj⟩ | ⟨j, rfl, hj⟩ <;> first | rfl | exact List.length_set
  · rcases hb.cases with rfl | rfl | rfl | rfl | ⟨j, rfl, hj⟩ | ⟨j, rfl, hj⟩ <;> first | rfl | exact absurd rfl hne
end Go.Proofs.Ytehleeibgkpjmad
/- An image of one's own: whole slots that are stored, slots that are put behind, lists that are exchanged. -/
namespace Go.Proofs.Ytehleeibgkpjmad
open Go.RowKit
set_option maxRecDepth 20000

def upd (val : Nm → Value) (a : Nm) (v : Value) : Nm → Value := fun b => if b.kind = a.kind ∧ b.ix = a.ix then v else val b
theorem upd_same (val : Nm → Value) (a : Nm) (v : Value) : upd val a v a = v := by unfold upd; rw [if_pos ⟨rfl, rfl⟩]
theorem upd_other (val : Nm → Value) {a b : Nm} (v : Value) (h : b ≠ a) : upd val a v b = val b := by
  unfold upd
  rw [if_neg]
  intro e
  apply h
  obtain ⟨k, i⟩ := a
  obtain ⟨k', i'⟩ := b
  obtain ⟨e1, e2⟩ := e
  dsimp only at e1 e2
  rw [e1, e2]
def Far (m : ImgD) (val : Nm → Value) (a : Nm) (v : Value) : Prop := ∀ b, Live m b → b ≠ a → ∀ g, v.ownBlock = some g → (val b).ownBlock ≠ some g
theorem far_new {W : World} {B : Nat} {val : Nm → Value} {m : ImgD} (h : OI W B val m) (a : Nm) {v : Value} (hv : ∀ g, v.ownBlock = some g → W.heap.size ≤ g) : Far m val a v := fun b hb _ g hg e => by
  have := ((h.row b hb).lt g e).2
  have := hv g hg
  omega
theorem far_nil (m : ImgD) (val : Nm → Value) (a : Nm) (n cap : Nat) : Far m val a (.slice none n cap) := fun _ _ _ g hg => by cases hg

theorem OI.swap {W : World} {B : Nat} {val : Nm → Value} {m m' : ImgD} (h : OI W B val m) {a : Nm} (ha : Live m a) {v : Value} (hv : W.ownsRow B (rowT a) (rowS a) v (rowN m' a) (rowV m' (upd val a v) a)) (hfar : Far m val a v)
    (hlive : ∀ b, Live m' b ↔ Live m b) (hsame : ∀ b, Live m b → b ≠ a → rowN m' b = rowN m b ∧ rowV m' (upd val a v) b = rowV m val b) : OI W B (upd val a v) m' := by
  refine ⟨fun b hb => ?_, fun b c hb hc hne g hg => ?_⟩
  · have hb := (hlive b).1 hb
    by_cases e : b = a
    · subst e; rw [upd_same]; exact hv
    · rw [upd_other val v e, (hsame b hb e).1, (hsame b hb e).2]; exact h.row b hb
  · have hb := (hlive b).1 hb
    have hc := (hlive c).1 hc
    by_cases e : b = a
    · subst e
      rw [upd_same] at hg
      rw [upd_other val v (fun x => hne x.symm)]
      exact hfar c hc (fun x => hne x.symm) g hg
    · rw [upd_other val v e] at hg
      by_cases e2 : c = a
      · subst e2
        rw [upd_same]
        exact fun x => hfar b hb e g x hg
      · rw [upd_other val v e2]; exact h.apart b c hb hc hne g hg
theorem OI.swapRoot {W : World} {B : Nat} {val : Nm → Value} {m : ImgD} (h : OI W B val m) {v : Value} {r : List Int} (hv : W.ownsRow B 3 1 v r.length (ints r)) (hfar : Far m val .root v) (g : Int) : OI W B (upd val .root v) { m with guest := g, root := r } := by
  refine h.swap (a := .root) (Live.root m) hv hfar (live_iff rfl rfl) (fun b hb hne => ?_)
  rcases hb.cases with rfl | rfl | rfl | rfl | ⟨j, rfl, hj⟩ | ⟨j, rfl, hj⟩ <;> first | exact ⟨rfl, rfl⟩ | exact absurd rfl hne
theorem OI.swapRefs {W : World} {B : Nat} {val : Nm → Value} {m : ImgD} (h : OI W B val m) {v : Value} {r : List Int} (hv : W.ownsRow B 3 1 v r.length (ints r)) (hfar : Far m val .refs v) : OI W B (upd val .refs v) { m with refs := r } := by
  refine h.swap (a := .refs) (Live.refs m) hv hfar (live_iff rfl rfl) (fun b hb hne => ?_)
  rcases hb.cases with rfl | rfl | rfl | rfl | ⟨j, rfl, hj⟩ | ⟨j, rfl, hj⟩ <;> first | exact ⟨rfl, rfl⟩ | exact absurd rfl hne


theorem flat3_length (f : Nat → Value × Value × Value) (n : Nat) : ((List.range n).flatMap (fun j => [(f j).1, (f j).2.1, (f j).2.2])).length = n * 3 := by
  induction n with
  | zero => rfl
  | succ n ih => rw [List.range_succ, List.flatMap_append, List.length_append, ih]; simp; omega
theorem flatS_length (L : List SlotD) (tv : Nat → Value) : (flatS L tv).length = L.length * 3 := flat3_length (fun j => (.int .i64 (L.getD j default).1, .string (L.getD j default).2.1, tv j)) L.length
theorem flatN_length (S : List SnapD) (qv : Nat → Value) : (flatN S qv).length = S.length * 3 := flat3_length (fun j => (.string (S.getD j default).1, .int .i64 (S.getD j default).2.1, qv j)) S.length
theorem flatS_set {L : List SlotD} {tv tv' : Nat → Value} {t : Nat} (k : Int) (d : ByteArray) (es : List Int) (htv : ∀ j, j ≠ t → tv' j = tv j) :
    flatS (L.set t (k, d, es)) tv' = (((flatS L tv).set (t * 3) (.int .i64 k)).set (t * 3 + 1) (.string d)).set (t * 3 + 2) (tv' t) := by
  apply List.ext_getElem?
  intro i
  rcases Nat.lt_or_ge i (L.length * 3) with hi | hi
  · obtain ⟨j, r, hj, hr, rfl⟩ : ∃ j r, j < L.length ∧ r < 3 ∧ i = j * 3 + r := ⟨i / 3, i % 3, by omega, Nat.mod_lt _ (by decide), by omega⟩
    obtain ⟨a0, a1, a2⟩ := flatS_get (L := L.set t (k, d, es)) (tv := tv') (j := j) (by rw [List.length_set]; exact hj)
    obtain ⟨b0, b1, b2⟩ := flatS_get (L := L) (tv := tv) hj
    rw [getD_setR] at a0 a1
    have hlen := flatS_length L tv
    by_cases e : t = j
    · subst e
      rw [if_pos ⟨rfl, hj⟩] at a0 a1
      match r, hr with
      | 0, _ => rw [Nat.add_zero, a0, List.getElem?_set_ne (by omega), List.getElem?_set_ne (by omega), List.getElem?_set_self (by rw [hlen]; omega)]
      | 1, _ => rw [a1, List.getElem?_set_ne (by omega), List.getElem?_set_self (by rw [List.length_set, hlen]; omega)]
      | 2, _ => rw [a2, List.getElem?_set_self (by rw [List.length_set, List.length_set, hlen]; omega)]
    · rw [if_neg (fun x => e x.1)] at a0 a1
      rw [htv j (fun x => e x.symm)] at a2
      rw [List.getElem?_set_ne (by omega), List.getElem?_set_ne (by omega), List.getElem?_set_ne (by omega)]
      match r, hr with
      | 0, _ => rw [Nat.add_zero, a0, b0]
      | 1, _ => rw [a1, b1]
      | 2, _ => rw [a2, b2]
  · rw [List.getElem?_eq_none (by rw [flatS_length, List.length_set]; exact hi), List.getElem?_eq_none (by rw [List.length_set, List.length_set, List.length_set, flatS_length]; exact hi)]
theorem OI.setSlot {W : World} {B : Nat} {val : Nm → Value} {m : ImgD} (h : OI W B val m) {t : Nat} (ht : t < m.slots.length) {g n cap : Nat} (hv : val .slots = .slice (some ⟨g, 0, none⟩) n cap) (k : Int) (d : ByteArray) (es : List Int) {ev : Value}
    (hev : W.ownsRow B 3 1 ev es.length (ints es)) (hfar : Far m val (.tab t) ev) :
    OI (((W.setCell ⟨g, t * 3, none⟩ (.int .i64 k)).setCell ⟨g, t * 3 + 1, none⟩ (.string d)).setCell ⟨g, t * 3 + 2, none⟩ ev) B (upd val (.tab t) ev) { m with slots := m.slots.set t (k, d, es) } := by
  have hgd := fun j => getD_setR m.slots t j (k, d, es)
  have hnn : n = m.slots.length := by
    rcases row_form (h.row .slots (Live.slots m)) with ⟨e, _⟩ | ⟨g', cap', e, _⟩
    · rw [hv] at e; simp at e
    · rw [hv] at e; simp at e; exact e.2.1
  have hoth : ∀ {e : TypeId} {size : Nat} {v : Value} {q : Nat} {xs : List Value}, W.ownsRow B e size v q xs → v.ownBlock ≠ some g →
      (((W.setCell ⟨g, t * 3, none⟩ (.int .i64 k)).setCell ⟨g, t * 3 + 1, none⟩ (.string d)).setCell ⟨g, t * 3 + 2, none⟩ ev).ownsRow B e size v q xs := fun hr hne =>
    ownsRow_setCell_other (ownsRow_setCell_other (ownsRow_setCell_other hr hne _) hne _) hne _
  refine ⟨fun b hb => ?_, fun b c hb hc hne q hq => ?_⟩
  · have hb' : Live m b := (live_iff (m := m) (m' := { m with slots := m.slots.set t (k, d, es) }) List.length_set rfl b).1 hb
    by_cases es0 : b = .slots
    · subst es0
      rw [upd_other val ev (by intro x; cases x)]
      have hr := h.row .slots hb'
      have e1 : rowV { m with slots := m.slots.set t (k, d, es) } (upd val (.tab t) ev) .slots = (((rowV m val .slots).set (t * 3) (.int .i64 k)).set (t * 3 + 1) (.string d)).set (t * 3 + 2) ev := by
        have := flatS_set (L := m.slots) (tv := fun j => val (.tab j)) (tv' := fun j => upd val (.tab t) ev (.tab j)) (t := t) k d es (fun j hj => upd_other val ev (by intro x; apply hj; injection x))
        rw [upd_same] at this
        exact this
      have e2 : rowN { m with slots := m.slots.set t (k, d, es) } .slots = rowN m .slots := List.length_set
      rw [e1, e2]
      have hN : rowN m .slots = n := hnn.symm
      rw [hN] at hr ⊢
      rw [hv] at hr ⊢
      exact ((((hr.stored (t * 3) (.int .i64 k)).1).stored (t * 3 + 1) (.string d)).1.stored (t * 3 + 2) ev).1
    · have hbg : (val b).ownBlock ≠ some g := h.apart .slots b (Live.slots m) hb' (fun x => es0 x.symm) g (by rw [hv]; rfl)
      by_cases et : b = .tab t
      · subst et
        rw [upd_same]
        have e1 : rowV { m with slots := m.slots.set t (k, d, es) } (upd val (.tab t) ev) (.tab t) = ints es := by
          show ints ((m.slots.set t (k, d, es)).getD t default).2.2 = _
          rw [hgd, if_pos ⟨rfl, ht⟩]
        have e2 : rowN { m with slots := m.slots.set t (k, d, es) } (.tab t) = es.length := by
          show ((m.slots.set t (k, d, es)).getD t default).2.2.length = _
          rw [hgd, if_pos ⟨rfl, ht⟩]
        rw [e1, e2]
        exact hoth hev (fun x => hfar .slots (Live.slots m) (by intro y; cases y) g x (by rw [hv]; rfl))
      · rw [upd_other val ev et]
        have e1 : rowV { m with slots := m.slots.set t (k, d, es) } (upd val (.tab t) ev) b = rowV m val b ∧ rowN { m with slots := m.slots.set t (k, d, es) } b = rowN m b := by
          rcases hb'.cases with rfl | rfl | rfl | rfl | ⟨j, rfl, hj⟩ | ⟨j, rfl, hj⟩
          · exact ⟨rfl, rfl⟩
          · exact absurd rfl es0
          · exact ⟨rfl, rfl⟩
          · exact ⟨rfl, rfl⟩
          · have hjt : t ≠ j := fun x => et (by rw [x])
            constructor
            · show ints ((m.slots.set t (k, d, es)).getD j default).2.2 = ints (m.slots.getD j default).2.2
              rw [hgd, if_neg (fun x => hjt x.1)]
            · show ((m.slots.set t (k, d, es)).getD j default).2.2.length = (m.slots.getD j default).2.2.length
              rw [hgd, if_neg (fun x => hjt x.1)]
          · exact ⟨rfl, rfl⟩
        rw [e1.1, e1.2]
        exact hoth (h.row b hb') hbg
  · have hb' : Live m b := (live_iff (m := m) (m' := { m with slots := m.slots.set t (k, d, es) }) List.length_set rfl b).1 hb
    have hc' : Live m c := (live_iff (m := m) (m' := { m with slots := m.slots.set t (k, d, es) }) List.length_set rfl c).1 hc
    by_cases e : b = .tab t
    · subst e
      rw [upd_same] at hq
      rw [upd_other val ev (fun x => hne x.symm)]
      exact hfar c hc' (fun x => hne x.symm) q hq
    · rw [upd_other val ev e] at hq
      by_cases e2 : c = .tab t
      · subst e2; rw [upd_same]; exact fun x => hfar b hb' e q x hq
      · rw [upd_other val ev e2]; exact h.apart b c hb' hc' hne q hq


theorem flatS_snoc (L : List SlotD) (tv tv' : Nat → Value) (s : SlotD) (htv : ∀ j, j < L.length → tv' j = tv j) : flatS (L ++ [s]) tv' = flatS L tv ++ [.int .i64 s.1, .string s.2.1, tv' L.length] := by
  unfold flatS
  rw [List.length_append, List.length_singleton, List.range_succ, List.flatMap_append]
  have e1 : (List.range L.length).flatMap (fun j => [Value.int .i64 ((L ++ [s]).getD j default).1, .string ((L ++ [s]).getD j default).2.1, tv' j]) = (List.range L.length).flatMap (fun j => [Value.int .i64 (L.getD j default).1, .string (L.getD j default).2.1, tv j]) := by
    refine congrArg List.flatten (List.map_congr_left fun j hj => ?_)
    have hj := List.mem_range.1 hj
    have e : (L ++ [s]).getD j default = L.getD j default := by simp [List.getD, List.getElem?_append, hj]
    rw [e, htv j hj]
  rw [e1]
  simp
end Go.Proofs.Ytehleeibgkpjmad
/- A list of integers is put behind a new empty one: a copy of one's own. A slot, a snapshot, is put behind. -/
namespace Go.Proofs.Ytehleeibgkpjmad
open Go.RowKit

theorem infoSlot : (Try.prog.info? 52).map (fun i => (i.zero, i.size, i.bytes)) = some (some (.agg #[.int .i64 0, .string ByteArray.empty, .slice none 0 0]), 3, 48) := by kernel_rfl
theorem infoSnap : (Try.prog.info? 72).map (fun i => (i.zero, i.size, i.bytes)) = some (some (.agg #[.string ByteArray.empty, .int .i64 0, .slice none 0 0]), 3, 48) := by kernel_rfl
end Go.Proofs.Ytehleeibgkpjmad
/- Contract of the document's lay: a slot is stored, or put behind. -/
namespace Go.Proofs.Ytehleeibgkpjmad
open Go.RowKit Go.Shelf
set_option maxRecDepth 20000

theorem OI.far {W : World} {B : Nat} {val : Nm → Value} {m : ImgD} (h : OI W B val m) {g i : Nat} {u : Value} (hg : ∀ a, Live m a → (val a).ownBlock ≠ some g) : OI (W.setCell ⟨g, i, none⟩ u) B val m :=
  ⟨fun a ha => ownsRow_setCell_other (h.row a ha) (hg a ha) u, h.apart⟩
theorem OI.lt {W : World} {B : Nat} {val : Nm → Value} {m : ImgD} (h : OI W B val m) {g : Nat} (hg : W.heap.size ≤ g) : ∀ a, Live m a → (val a).ownBlock ≠ some g := fun a ha e => by
  have := ((h.row a ha).lt g e).2
  omega

theorem row_some {W : World} {B : Nat} {e : TypeId} {size n : Nat} {v : Value} {xs : List Value} (h : W.ownsRow B e size v (n + 1) xs) : ∃ g cap, v = .slice (some ⟨g, 0, none⟩) (n + 1) cap := by
  rcases row_form h with ⟨_, e⟩ | ⟨g, cap, e, _⟩
  · cases e
  · exact ⟨g, cap, e⟩
theorem cells_frozen {W : World} {b : Nat} {A : Array Value} {t : TypeId} (h : W.heap[b]? = some (.cells A t)) (i : Nat) : W.frozen? ⟨b, i, none⟩ = false := by simp [World.frozen?, h]
def OKeep (w w' : World) (m : ImgD) (val : Nm → Value) : Prop := ∀ q, q < w.heap.size → (∀ a, Live m a → (val a).ownBlock ≠ some q) → w'.heap[q]? = w.heap[q]?
theorem OKeep.refl (w : World) (m : ImgD) (val : Nm → Value) : OKeep w w m val := fun _ _ _ => rfl
theorem OKeep.alloc {w W : World} {m : ImgD} {val : Nm → Value} (h : OKeep w W m val) (hs : w.heap.size ≤ W.heap.size) (o : Obj) : OKeep w (W.alloc o) m val := fun q hq hn => (Below.heap_alloc W o q (by omega)).trans (h q hq hn)
theorem OKeep.own {w W : World} {m : ImgD} {val : Nm → Value} (h : OKeep w W m val) {a : Nm} (ha : Live m a) {g n c : Nat} (hg : val a = .slice (some ⟨g, 0, none⟩) n c) {i : Nat} {v : Value} : OKeep w (W.setCell ⟨g, i, none⟩ v) m val := fun q hq hn =>
  (Below.heap_setCell W ⟨g, i, none⟩ v q (fun e => hn a ha (by rw [hg]; exact congrArg some e.symm))).trans (h q hq hn)
theorem OKeep.new {w W : World} {m : ImgD} {val : Nm → Value} (h : OKeep w W m val) {g i : Nat} (hg : w.heap.size ≤ g) {v : Value} : OKeep w (W.setCell ⟨g, i, none⟩ v) m val := fun q hq hn =>
  (Below.heap_setCell W ⟨g, i, none⟩ v q (fun e => by have e : q = g := e; omega)).trans (h q hq hn)
theorem OKeep.grown {w W W' : World} {m : ImgD} {val : Nm → Value} (h : OKeep w W m val) (hs : w.heap.size ≤ W.heap.size) {a : Nm} (ha : Live m a) {v : Value} (hv : val a = v) (hg : W.grownBy W' v.ownBlock) : OKeep w W' m val := fun q hq hn =>
  (hg.block q (by omega) (fun e => hn a ha (by rw [hv]; exact e.symm))).trans (h q hq hn)
theorem OKeep.below {w W W' : World} {m : ImgD} {val : Nm → Value} (h : OKeep w W m val) {n : Nat} (hs : w.heap.size ≤ n) (hg : Below n W W') : OKeep w W' m val := fun q hq hn => (hg.block q (by omega)).trans (h q hq hn)

theorem OI.forms {W : World} {B : Nat} {val : Nm → Value} {m : ImgD} (h : OI W B val m) (a : Nm) (ha : Live m a) : ∃ ao cap, val a = .slice ao (rowN m a) cap ∧ (0 < rowN m a → ∃ g, ao = some ⟨g, 0, none⟩) := by
  rcases row_form (h.row a ha) with ⟨e, hn⟩ | ⟨g, cap, e, _⟩
  · exact ⟨none, 0, by rw [e, hn], fun hp => absurd hp (by omega)⟩
  · exact ⟨_, cap, e, fun _ => ⟨g, rfl⟩⟩
end Go.Proofs.Ytehleeibgkpjmad
/- Contract of the document's tableOf: a table of one's own. -/
namespace Go.Proofs.Ytehleeibgkpjmad
open Go.RowKit Go.Shelf
end Go.Proofs.Ytehleeibgkpjmad
/- Contract of the document's counted. -/
namespace Go.Proofs.Ytehleeibgkpjmad
open Go.RowKit Go.Shelf
set_option maxRecDepth 20000

def frT (m : ImgD) (k : Nat) : ImgD := { m with refs := cntL m, slots := (List.range m.slots.length).map (fun j => if j < k ∧ (cntL m).getD j 0 = 0 then slotZ else m.slots.getD j default) }
theorem frT_length (m : ImgD) (k : Nat) : (frT m k).slots.length = m.slots.length := by simp [frT]
theorem frT_get (m : ImgD) (k : Nat) {j : Nat} (hj : j < m.slots.length) : (frT m k).slots.getD j default = if j < k ∧ (cntL m).getD j 0 = 0 then slotZ else m.slots.getD j default := by
  unfold frT
  simp only [List.getD, List.getElem?_map, List.getElem?_range hj, Option.map_some, Option.getD_some]
theorem slots_ext {L M : List SlotD} (hl : L.length = M.length) (h : ∀ j, j < L.length → L.getD j default = M.getD j default) : L = M := by
  apply List.ext_getElem hl
  intro j h1 h2
  have := h j h1
  simpa [List.getD, h1, h2] using this
theorem frT_zero (m : ImgD) : frT m 0 = { m with refs := cntL m } := by
  have e : (frT m 0).slots = m.slots := slots_ext (frT_length m 0) (fun j hj => by
    rw [frT_length] at hj
    rw [frT_get m 0 hj, if_neg (by omega)])
  show ImgD.mk _ _ (frT m 0).slots _ _ = _
  rw [e]
theorem frT_end (m : ImgD) : frT m m.slots.length = countedD m := by
  have e : (frT m m.slots.length).slots = freeUn m.slots (cntL m) := slots_ext (by rw [frT_length, freeUn_length]) (fun j hj => by
    rw [frT_length] at hj
    rw [frT_get m _ hj, freeUn_get hj]
    by_cases c : (cntL m).getD j 0 = 0
    · rw [if_pos ⟨hj, c⟩, if_pos c]
    · rw [if_neg (fun x => c x.2), if_neg c])
  show ImgD.mk _ _ (frT m m.slots.length).slots _ _ = _
  rw [e]; rfl
theorem frT_gone (m : ImgD) {k : Nat} (hc : (cntL m).getD k 0 = 0) : frT m (k + 1) = { frT m k with slots := (frT m k).slots.set k slotZ } := by
  have e : (frT m (k + 1)).slots = (frT m k).slots.set k slotZ := slots_ext (by rw [List.length_set, frT_length, frT_length]) (fun j hj => by
    rw [frT_length] at hj
    rw [getD_setR, frT_get m _ hj, frT_length]
    by_cases e : k = j
    · subst e; rw [if_pos ⟨by omega, hc⟩, if_pos ⟨rfl, hj⟩]
    · rw [show (if k = j ∧ j < m.slots.length then slotZ else (frT m k).slots.getD j default) = (frT m k).slots.getD j default from if_neg (fun x => e x.1), frT_get m k hj]
      by_cases c : (cntL m).getD j 0 = 0
      · by_cases l : j < k
        · rw [if_pos ⟨by omega, c⟩, if_pos ⟨l, c⟩]
        · rw [if_neg (by omega), if_neg (fun x => l x.1)]
      · rw [if_neg (fun x => c x.2), if_neg (fun x => c x.2)])
  show ImgD.mk _ _ (frT m (k + 1)).slots _ _ = _
  rw [e]; rfl
theorem frT_kept (m : ImgD) {k : Nat} (hc : (cntL m).getD k 0 ≠ 0) : frT m (k + 1) = frT m k := by
  have e : (frT m (k + 1)).slots = (frT m k).slots := slots_ext (by rw [frT_length, frT_length]) (fun j hj => by
    rw [frT_length] at hj
    rw [frT_get m _ hj, frT_get m _ hj]
    by_cases c : (cntL m).getD j 0 = 0
    · have : j ≠ k := fun x => hc (by rw [← x]; exact c)
      by_cases l : j < k
      · rw [if_pos ⟨by omega, c⟩, if_pos ⟨l, c⟩]
      · rw [if_neg (by omega), if_neg (fun x => l x.1)]
    · rw [if_neg (fun x => c x.2), if_neg (fun x => c x.2)])
  show ImgD.mk _ _ (frT m (k + 1)).slots _ _ = _
  rw [e]; rfl
theorem cells_set {W : World} {b : Nat} {A : Array Value} {t : TypeId} (h : W.heap[b]? = some (.cells A t)) (i : Nat) (v : Value) : (W.setCell ⟨b, i, none⟩ v).heap[b]? = some (.cells (A.setIfInBounds i v) t) := by
  obtain ⟨hlt, hk⟩ := Array.getElem?_eq_some_iff.1 h
  show (W.heap.modify b _)[b]? = _
  rw [Array.getElem?_eq_getElem (by rw [Array.size_modify]; exact hlt), Array.getElem_modify_self, hk]
  simp
theorem cells_other {W : World} {b : Nat} {o : Option Obj} (h : W.heap[b]? = o) {g : Nat} (hg : b ≠ g) (i : Nat) (v : Value) : (W.setCell ⟨g, i, none⟩ v).heap[b]? = o := (Below.heap_setCell W ⟨g, i, none⟩ v b hg).trans h
theorem row_LAt {W : World} {g : Nat} {l : List Int} (h : LAt W g l) {B : Nat} (hB : B ≤ g) (hl : l.length ≤ 1000) : W.ownsRow B 3 1 (.slice (some ⟨g, 0, none⟩) l.length l.length) l.length (ints l) :=
  ⟨by simp [ints_length], .inr ⟨g, l.length, (ints l).toArray, rfl, hB, h, Nat.le_refl _, by unfold maxLen; omega, by simp [ints_length], by rw [Nat.mul_one]; exact List.take_of_length_le (by simp [ints_length])⟩⟩
end Go.Proofs.Ytehleeibgkpjmad
