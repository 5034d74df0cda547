/- Texts joined: WrP, LayI, TabI, CtdI, DeskI, WrQ, SnP, SnT, SnI. -/
import Derived.Test.YtehleeibgkpjmaeSnapsBackJ3
import Derived.Lib.AppendZerosOnto
import Derived.Lib.Overlaps
import Derived.Shelf.Spec.SlicesInsert
/- Writing, wiping, punching: what the document's answer is, and that it has the form. Plain lists. -/
namespace Go.Proofs.Ytehleeibgkpjmae
open Go.RowKit Go.Shelf
set_option maxRecDepth 20000


def grabF (L : List SlotD) : Nat → Nat → Nat
  | 0, j => j
  | f + 1, j => if j < L.length ∧ kd L j ≠ 0 then grabF L f (j + 1) else j
def grabN (L : List SlotD) : Nat := grabF L L.length 1
theorem grabF_spec (L : List SlotD) : ∀ (f j : Nat), L.length ≤ j + f → j ≤ L.length → j ≤ grabF L f j ∧ grabF L f j ≤ L.length ∧ (∀ i, j ≤ i → i < grabF L f j → kd L i ≠ 0) ∧ (grabF L f j < L.length → kd L (grabF L f j) = 0)
  | 0, j, h, hj => ⟨Nat.le_refl _, hj, fun i h1 h2 => by simp [grabF] at h2; omega, fun h2 => by simp [grabF] at h2; omega⟩
  | f + 1, j, h, hj => by
    unfold grabF
    by_cases c : j < L.length ∧ kd L j ≠ 0
    · rw [if_pos c]
      obtain ⟨a, b, d, e⟩ := grabF_spec L f (j + 1) (by omega) (by omega)
      refine ⟨by omega, b, fun i h1 h2 => ?_, e⟩
      by_cases ei : i = j
      · subst ei; exact c.2
      · exact d i (by omega) h2
    · rw [if_neg c]
      refine ⟨Nat.le_refl _, hj, fun i h1 h2 => by omega, fun h2 => ?_⟩
      exact Classical.byContradiction fun x => c ⟨h2, x⟩
theorem kd_getElem {L : List SlotD} {j : Nat} (h : j < L.length) : L[j].1 = kd L j := by unfold kd; simp [List.getD, h]
theorem grabN_spec {L : List SlotD} (h1 : 1 ≤ L.length) : 1 ≤ grabN L ∧ grabN L ≤ L.length ∧ (∀ i, 1 ≤ i → i < grabN L → kd L i ≠ 0) ∧ kd L (grabN L) = 0 := by
  obtain ⟨a, b, c, d⟩ := grabF_spec L L.length 1 (by omega) h1
  refine ⟨a, b, c, ?_⟩
  rcases Nat.lt_or_ge (grabN L) L.length with h | h
  · exact d h
  · exact Classical.byContradiction fun x => by have := kd_lt x; omega
theorem grabN_at {L : List SlotD} (h1 : 1 ≤ L.length) : GrabAt L (grabN L) := by
  obtain ⟨a, b, c, d⟩ := grabN_spec h1
  exact ⟨a, b, fun j hj h1 h2 => by rw [kd_getElem hj]; exact c j h1 h2, fun h => by rw [kd_getElem h]; exact d⟩
theorem grabN_le40 {L : List SlotD} (h : slotsE L = 0) : grabN L ≤ 40 := by
  have := slotsE_parts h; have := grabN_spec this.1; omega


def layS (L : List SlotD) (n : Nat) (s : SlotD) : List SlotD := if n = L.length then L ++ [s] else L.set n s
theorem layS_length {L : List SlotD} {n : Nat} {s : SlotD} : (layS L n s).length = if n = L.length then L.length + 1 else L.length := by
  unfold layS; split <;> simp
theorem layS_get {L : List SlotD} {n : Nat} {s : SlotD} (hn : n ≤ L.length) (j : Nat) : (layS L n s).getD j default = if j = n then s else L.getD j default := by
  unfold layS
  by_cases e : n = L.length
  · rw [if_pos e]
    subst e
    by_cases ej : j = L.length
    · subst ej; rw [if_pos rfl]; simp [List.getD]
    · rw [if_neg ej]
      by_cases hj : j < L.length
      · simp [List.getD, List.getElem?_append, hj]
      · have a : L.getD j default = default := by simp [List.getD, hj]
        have b : (L ++ [s]).getD j default = default := by
          have : ¬ j < (L ++ [s]).length := by simp; omega
          unfold List.getD
          rw [List.getElem?_eq_none (by omega)]; rfl
        rw [a, b]
  · rw [if_neg e]
    by_cases ej : j = n
    · subst ej; rw [if_pos rfl]; simp [List.getD, show j < L.length by omega]
    · rw [if_neg ej]; simp [List.getD, Ne.symm ej]
theorem layS_kd {L : List SlotD} {n : Nat} {s : SlotD} (hn : n ≤ L.length) (j : Nat) : kd (layS L n s) j = if j = n then s.1 else kd L j := by
  unfold kd; rw [layS_get hn]; split <;> rfl
theorem layS_le {L : List SlotD} {n : Nat} {s : SlotD} (hn : n ≤ L.length) (h40 : L.length ≤ 40) (hn40 : n < 40) : (layS L n s).length ≤ 40 ∧ L.length ≤ (layS L n s).length ∧ n < (layS L n s).length := by
  rw [layS_length]; split <;> omega

theorem ok_tab {es : List Int} (hes : ckE es = 0) (hb : bareL es = false) : okD (2, ⟨#[]⟩, es) = true := by
  have : bareE es = false := by unfold bareE; rw [if_pos hes, hb]
  show slotOK 2 ⟨#[]⟩ es = true
  rw [slotOK_2]
  exact decide_eq_true ⟨hes, this, rfl⟩
theorem ok_page {page : ByteArray} (h : page.size = 4) : okD (1, page, []) = true := by
  show slotOK 1 page [] = true
  unfold slotOK
  rw [if_neg (by decide), if_pos rfl]
  exact decide_eq_true ⟨h, rfl⟩
theorem ext_lay {L : List SlotD} {t : Nat} {es : List Int} (h0 : slotsE L = 0) (ht : t ≤ L.length) (t1 : 1 ≤ t) (t40 : t < 40) (hk : kd L t = 0 ∨ kd L t = 2) (hes : ckE es = 0) (hb : bareL es = false) (hents : ∀ e ∈ es, tabE L e = true) : Ext L (layS L t (2, ⟨#[]⟩, es)) t es := by
  have hp := slotsE_parts h0
  have hle := layS_le (s := (2, ⟨#[]⟩, es)) ht hp.2 t40
  have hpg : kd L t ≠ 1 := by rcases hk with e | e <;> rw [e] <;> decide
  refine ⟨hle.1, fun j hj _ => by rw [layS_get ht, if_neg hj], by rw [layS_get ht, if_pos rfl], hpg, fun j hj => ?_, ?_, fun j hj hk2 => ?_, fun e he => ?_⟩
  · rw [layS_get ht]
    by_cases ej : j = t
    · rw [if_pos ej]; exact ok_tab hes hb
    · rw [if_neg ej]
      have hjl : j < L.length := by rw [layS_length] at hj; split at hj <;> omega
      rw [← getElem_getD hjl]; exact slotsE_all h0 hjl
  · rw [layS_kd ht, if_neg (by omega)]; exact slot0 h0
  · rw [layS_kd ht, if_neg hj] at hk2; exact hk2
  · rcases tabE_cases (hents e he) with e0 | e1 | ⟨j, rfl, hj, hkj⟩
    · rw [e0]; rfl
    · rw [e1]; rfl
    · have j1 : 1 ≤ j := by
        rcases Nat.eq_zero_or_pos j with e | e
        · subst e; rw [slot0 h0] at hkj; simp at hkj
        · exact e
      have hjt : j ≠ t := fun e => hpg (by rw [← e]; exact hkj)
      rw [tabE_x (by omega) (by omega)]
      exact isKd_of (by omega) (by rw [layS_kd ht, if_neg hjt]; exact hkj)
theorem ext_write {L : List SlotD} {t d : Nat} {es : List Int} {page : ByteArray} (h0 : slotsE L = 0) (ht : t ≤ L.length) (t1 : 1 ≤ t) (t40 : t < 40) (hk : kd L t = 0 ∨ kd L t = 2) (hes : ckE es = 0) (hb : bareL es = false)
    (hd : d ≤ (layS L t (2, ⟨#[]⟩, es)).length) (d1 : 1 ≤ d) (d40 : d < 40) (hdt : d ≠ t) (hkd : kd L d = 0) (hp4 : page.size = 4) (hents : ∀ e ∈ es, tabE L e = true ∨ e = (d : Int)) : Ext L (layS (layS L t (2, ⟨#[]⟩, es)) d (1, page, [])) t es := by
  have hp := slotsE_parts h0
  have hle := layS_le (s := (2, ⟨#[]⟩, es)) ht hp.2 t40
  have hle2 := layS_le (s := ((1, page, []) : SlotD)) hd hle.1 d40
  have hpg : kd L t ≠ 1 := by rcases hk with e | e <;> rw [e] <;> decide
  refine ⟨hle2.1, fun j hj hkj => ?_, ?_, hpg, fun j hj => ?_, ?_, fun j hj hk2 => ?_, fun e he => ?_⟩
  · have hjd : j ≠ d := fun e => hkj (by rw [e]; exact hkd)
    rw [layS_get hd, if_neg hjd, layS_get ht, if_neg hj]
  · rw [layS_get hd, if_neg (fun e => hdt e.symm), layS_get ht, if_pos rfl]
  · rw [layS_get hd]
    by_cases ed : j = d
    · rw [if_pos ed]; exact ok_page hp4
    · rw [if_neg ed, layS_get ht]
      by_cases ej : j = t
      · rw [if_pos ej]; exact ok_tab hes hb
      · rw [if_neg ej]
        have hjl : j < L.length := by
          rw [layS_length] at hj
          rw [layS_length] at hj hd
          split at hj <;> split at hj <;> split at hd <;> omega
        rw [← getElem_getD hjl]; exact slotsE_all h0 hjl
  · rw [layS_kd hd, if_neg (by omega), layS_kd ht, if_neg (by omega)]; exact slot0 h0
  · rw [layS_kd hd] at hk2
    by_cases ed : j = d
    · rw [if_pos ed] at hk2; simp at hk2
    · rw [if_neg ed, layS_kd ht, if_neg hj] at hk2; exact hk2
  · rcases hents e he with hE | hE
    · rcases tabE_cases hE with e0 | e1 | ⟨j, rfl, hj, hkj⟩
      · rw [e0]; rfl
      · rw [e1]; rfl
      · have j1 : 1 ≤ j := by
          rcases Nat.eq_zero_or_pos j with e | e
          · subst e; rw [slot0 h0] at hkj; simp at hkj
          · exact e
        have hjt : j ≠ t := fun e => hpg (by rw [← e]; exact hkj)
        have hjd : j ≠ d := fun e => by rw [e, hkd] at hkj; simp at hkj
        rw [tabE_x (by omega) (by omega)]
        exact isKd_of (by omega) (by rw [layS_kd hd, if_neg hjd, layS_kd ht, if_neg hjt]; exact hkj)
    · rw [hE, tabE_x (by omega) (by omega)]
      exact isKd_of hle2.2.2 (by rw [layS_kd hd, if_pos rfl])


theorem count_two {t : Int} : ∀ (l : List Int) (i k : Nat), i < k → k < l.length → l.getD i 0 = t → l.getD k 0 = t → 2 ≤ l.count t
  | [], i, k, _, hk, _, _ => absurd hk (by simp)
  | a :: l, 0, k + 1, _, hk, h1, h2 => by
    have h1 : a = t := by simpa using h1
    have h2 : l.getD k 0 = t := by simpa using h2
    have hk : k < l.length := by simpa using hk
    have : t ∈ l := by rw [← h2, getD_at hk]; exact List.getElem_mem hk
    have := List.count_pos_iff.2 this
    rw [List.count_cons, h1]; simp; omega
  | a :: l, i + 1, k + 1, hik, hk, h1, h2 => by
    have := count_two l i k (by omega) (by simpa using hk) (by simpa using h1) (by simpa using h2)
    rw [List.count_cons]; omega
theorem flatR_app (m : ImgD) : flatR m = m.root ++ m.snaps.flatMap (fun s => s.2.2) := rfl
theorem lone_one {m : ImgD} {k t : Nat} (hk : k < m.root.length) (ht : m.root.getD k 0 = (t : Int)) (hc : (flatR m).count (t : Int) = 1) : Lone m k t := by
  rw [flatR_app, List.count_append] at hc
  have hmem : (t : Int) ∈ m.root := by rw [← ht, getD_at hk]; exact List.getElem_mem hk
  have h1 := List.count_pos_iff.2 hmem
  refine ⟨fun i hi hne e => ?_, fun s hs hm => ?_⟩
  · have : 2 ≤ m.root.count (t : Int) := by
      rcases Nat.lt_or_ge i k with h | h
      · exact count_two m.root i k h hk e ht
      · exact count_two m.root k i (by omega) hi ht e
    omega
  · have : (t : Int) ∈ m.snaps.flatMap (fun s => s.2.2) := by rw [List.mem_flatMap]; exact ⟨s, hs, hm⟩
    have := List.count_pos_iff.2 this
    omega
theorem lone_free {m : ImgD} {k t : Nat} (h : shapeE m = 0) (t1 : 1 ≤ t) (ht : kd m.slots t = 0) : Lone m k t := by
  have hno : (t : Int) ∉ flatR m := fun hm => by have := (told_root h hm t1).2.1; rw [ht] at this; simp at this
  rw [flatR_app] at hno
  refine ⟨fun i hi _ e => hno (List.mem_append_left _ (by rw [← e, getD_at hi]; exact List.getElem_mem hi)), fun s hs hm => hno (List.mem_append_right _ (by rw [List.mem_flatMap]; exact ⟨s, hs, hm⟩))⟩


def tableO (m : ImgD) (k : Nat) : List Int := if m.root.getD k 0 = 0 then [0, 0, 0, 0] else tabOf m.slots (m.root.getD k 0)
def inPl (m : ImgD) (k : Nat) : Bool := m.root.getD k 0 != 0 && m.refs.getD (m.root.getD k 0).toNat 0 == 1
def tabN (m : ImgD) (k : Nat) : Nat := if inPl m k = true then (m.root.getD k 0).toNat else grabN m.slots
theorem tableO_ok {m : ImgD} (h : shapeE m = 0) {k : Nat} (hk : k < m.root.length) : ckE (tableO m k) = 0 ∧ ∀ e ∈ tableO m k, tabE m.slots e = true := by
  have hr := root_ok h
  unfold tableO
  by_cases hz : m.root.getD k 0 = 0
  · rw [if_pos hz]
    refine ⟨by decide, fun e he => ?_⟩
    have : e = 0 := by simpa using he
    rw [this]; rfl
  · rw [if_neg hz]
    have hE := all_at hr.2 hk
    rw [rootE_x hz] at hE
    obtain ⟨j, e, hj, hk2⟩ := isKd_yes hE
    rw [e]
    refine ⟨?_, fun x hx => List.all_eq_true.1 (tab_all (shapeE_zero h).2.2.2.2.2.1 _) x hx⟩
    have := okD_tab (slotsE_all (shapeE_zero h).2.1 hj) hk2
    unfold tabOf
    simpa [List.getD, hj] using this.2
theorem tabN_spec {m : ImgD} (hC : checkE m = 0) {k : Nat} (hk : k < m.root.length) (h40 : tabN m k ≠ 40) : 1 ≤ tabN m k ∧ tabN m k ≤ m.slots.length ∧ tabN m k < 40 ∧ (kd m.slots (tabN m k) = 0 ∨ kd m.slots (tabN m k) = 2) ∧ Lone m k (tabN m k) := by
  obtain ⟨h, hcnt, _⟩ := checkE_zero hC
  obtain ⟨z1, z2, z3, z4, z5, z6, z7⟩ := shapeE_zero h
  have hp := slotsE_parts z2
  unfold tabN at h40 ⊢
  by_cases hi : inPl m k = true
  · rw [if_pos hi] at h40 ⊢
    unfold inPl at hi
    simp at hi
    obtain ⟨hz, hrf⟩ := hi
    have hz : m.root.getD k 0 ≠ 0 := hz
    have hrf : m.refs.getD (m.root.getD k 0).toNat 0 = 1 := hrf
    have hE := all_at (root_ok h).2 hk
    rcases rootE_cases hE with e | ⟨j, e, hj, hkj⟩
    · exact absurd e hz
    · have hmem : (j : Int) ∈ flatR m := by rw [flatR_app]; exact List.mem_append_left _ (by rw [← e, getD_at hk]; exact List.getElem_mem hk)
      rw [e, Int.toNat_natCast] at hrf ⊢
      have j1 : 1 ≤ j := by omega
      have hc1 : (flatR m).count (j : Int) = 1 := by
        rw [← hcnt, cntL_get h j hj] at hrf
        unfold cntI at hrf
        rw [if_neg (by omega), sumT_no z6 _ j1 (by rw [hkj]; decide)] at hrf
        omega
      exact ⟨j1, by omega, by omega, .inr hkj, lone_one hk e hc1⟩
  · rw [if_neg hi] at h40 ⊢
    obtain ⟨a, b, c, d⟩ := grabN_spec hp.1
    exact ⟨a, b, by omega, .inl d, lone_free h a d⟩

def TailZ (m : ImgD) (k : Nat) (es : List Int) : Prop := k = m.root.length - 1 → m.guest % 4 ≠ 0 → (es.drop (m.guest % 4).toNat).all (fun e => e == 0) = true
theorem tableO_tail {m : ImgD} (h : shapeE m = 0) (k : Nat) : TailZ m k (tableO m k) := by
  intro hk hg
  have hf := List.all_eq_true.1 (shapeE_zero h).2.2.2.2.2.2 (⟨#[]⟩, m.guest, m.root) List.mem_cons_self
  unfold rootFit lastFit at hf
  dsimp only at hf
  simp only [Bool.and_eq_true] at hf
  have hl := hf.2.2
  have hg' : (m.guest % 4 == 0) = false := by simpa using hg
  rw [hg', Bool.false_or, ← hk] at hl
  unfold tableO
  by_cases hz : m.root.getD k 0 = 0
  · rw [if_pos hz]
    have : ∀ j, ([0, 0, 0, 0] : List Int).drop j = List.replicate (4 - j) 0 := fun j => by
      have : ([0, 0, 0, 0] : List Int) = List.replicate 4 0 := rfl
      rw [this, List.drop_replicate]
    rw [this]; simp
  · rw [if_neg hz]
    have hz' : (m.root.getD k 0 == 0) = false := by simpa using hz
    rw [hz', Bool.false_or] at hl
    exact hl
theorem tail_set {m : ImgD} {k : Nat} {es : List Int} (h : TailZ m k es) {n : Nat} (hn : (n : Int) < m.guest) (hk : n / 4 = k) (hr : (m.root.length : Int) = (m.guest + 3) / 4) (e : Int) : TailZ m k (es.set (n % 4) e) := by
  intro h1 h2
  have := h h1 h2
  rw [List.drop_set_of_lt (by omega)]
  exact this
theorem set_ck {es : List Int} (h : ckE es = 0) {i : Nat} {e : Int} (he : isE e = true) : ckE (es.set i e) = 0 := by
  refine ckE_yes (by rw [List.length_set]; exact ckE_len h) ?_
  rw [List.all_eq_true]
  intro x hx
  rcases List.mem_or_eq_of_mem_set hx with hm | hm
  · exact List.all_eq_true.1 (ckE_all h) x hm
  · rw [hm]; exact he
theorem bare_get {es : List Int} {i : Nat} (hi : i < es.length) (h : es.getD i 0 ≠ 0) : bareL es = false := by
  unfold bareL
  exact not_all_of hi (by simpa using h)
theorem set_get {es : List Int} {i : Nat} (hi : i < es.length) (e : Int) : (es.set i e).getD i 0 = e := by rw [getD_setI, if_pos ⟨rfl, hi⟩]
theorem mem_set {es : List Int} {i : Nat} {e x : Int} (h : x ∈ es.set i e) : x ∈ es ∨ x = e := List.mem_or_eq_of_mem_set h


def rfZ (L : List SlotD) : List Int := List.replicate L.length 0
def tabL (m : ImgD) (k : Nat) (es : List Int) : List SlotD := layS m.slots (tabN m k) (2, ⟨#[]⟩, es)
def tabledD (m : ImgD) (k : Nat) (es : List Int) : Option ImgD :=
  if bareL es = true then some { m with root := m.root.set k 0 } else if tabN m k = 40 then none else some (tabSet m k (tabN m k) (tabL m k es) (rfZ (tabL m k es)))
def wInPl (m : ImgD) (n : Nat) : Bool := decide (0 < lookV m m.root n) && (inPl m (n / 4) && m.refs.getD (lookV m m.root n).toNat 0 == 1)
def wD (m : ImgD) (n : Nat) : Nat := grabN (tabL m (n / 4) (tableO m (n / 4)))
def wEs (m : ImgD) (n : Nat) : List Int := (tableO m (n / 4)).set (n % 4) (wD m n : Int)
def wL (m : ImgD) (n : Nat) (page : ByteArray) : List SlotD := layS (tabL m (n / 4) (wEs m n)) (wD m n) (1, page, [])
def writeD (m : ImgD) (n : Nat) (page : ByteArray) : Option ImgD :=
  if wInPl m n = true then some { m with slots := m.slots.set (lookV m m.root n).toNat (1, page, []) }
  else if tabN m (n / 4) = 40 then none else if wD m n = 40 then none else some (countedD (tabSet m (n / 4) (tabN m (n / 4)) (wL m n page) (rfZ (wL m n page))))

theorem lookV_tableO (m : ImgD) (n : Nat) : lookV m m.root n = (tableO m (n / 4)).getD (n % 4) 0 := by
  unfold lookV tableO
  split
  · have h4 : n % 4 < 4 := Nat.mod_lt _ (by decide)
    have : ∀ i, i < 4 → ([0, 0, 0, 0] : List Int).getD i 0 = 0 := by decide
    rw [this _ h4]
  · rfl

theorem write_ext {m : ImgD} (hC : checkE m = 0) {n : Nat} (hn : (n : Int) < m.guest) (h40 : tabN m (n / 4) ≠ 40) (hd40 : wD m n ≠ 40) {page : ByteArray} (hp : page.size = 4) :
    Ext m.slots (wL m n page) (tabN m (n / 4)) (wEs m n) ∧ Lone m (n / 4) (tabN m (n / 4)) ∧ TailZ m (n / 4) (wEs m n) ∧ n / 4 < m.root.length ∧ 1 ≤ wD m n ∧ wD m n < 40 ∧ kd m.slots (wD m n) = 0 ∧ wD m n ≠ tabN m (n / 4) := by
  obtain ⟨h, _, _⟩ := checkE_zero hC
  have hr := root_ok h
  have hg := guest_ok h
  have hk : n / 4 < m.root.length := by omega
  obtain ⟨t1, tl, t40, tk, hl⟩ := tabN_spec hC hk h40
  obtain ⟨ock, oent⟩ := tableO_ok h hk
  have hs := (shapeE_zero h).2.1
  have hp40 := slotsE_parts hs
  have hle := layS_le (s := ((2, ⟨#[]⟩, tableO m (n / 4)) : SlotD)) tl hp40.2 t40
  obtain ⟨d1, dl, dne, dfree⟩ := grabN_spec (L := tabL m (n / 4) (tableO m (n / 4))) (by unfold tabL; omega)
  have hdt : wD m n ≠ tabN m (n / 4) := fun e => by
    have : kd (tabL m (n / 4) (tableO m (n / 4))) (wD m n) = 0 := dfree
    unfold tabL at this
    rw [layS_kd tl, if_pos e] at this
    simp at this
  have hkd : kd m.slots (wD m n) = 0 := by
    have : kd (tabL m (n / 4) (tableO m (n / 4))) (wD m n) = 0 := dfree
    unfold tabL at this
    rw [layS_kd tl, if_neg hdt] at this
    exact this
  have hdl : wD m n ≤ (layS m.slots (tabN m (n / 4)) (2, ⟨#[]⟩, wEs m n)).length := by
    have : wD m n ≤ (tabL m (n / 4) (tableO m (n / 4))).length := dl
    unfold tabL at this
    rw [layS_length] at this ⊢; exact this
  have hd40' : wD m n < 40 := by
    have : wD m n ≤ (tabL m (n / 4) (tableO m (n / 4))).length := dl
    unfold tabL at this; omega
  have hd1 : 1 ≤ wD m n := d1
  have h4 : n % 4 < (tableO m (n / 4)).length := by rw [ckE_len ock]; omega
  have hEd : isE (wD m n : Int) = true := by rw [isE_iff]; omega
  refine ⟨?_, hl, ?_, hk, hd1, hd40', hkd, hdt⟩
  · refine ext_write hs tl t1 t40 tk (set_ck ock hEd) (bare_get (i := n % 4) (by unfold wEs; rw [List.length_set]; exact h4) (by unfold wEs; rw [set_get h4]; omega)) hdl hd1 hd40' hdt hkd hp (fun e he => ?_)
    rcases mem_set he with hm | hm
    · exact .inl (oent e hm)
    · exact .inr hm
  · exact tail_set (tableO_tail h _) hn rfl hr.1 _
end Go.Proofs.Ytehleeibgkpjmae
/- Contract of the document's lay: a slot is stored, or put behind. -/
namespace Go.Proofs.Ytehleeibgkpjmae
open Go.RowKit Go.Shelf
set_option maxRecDepth 20000

theorem OI.far {W : World} {B : Nat} {val : Nm → Value} {m : ImgD} (h : OI W B val m) {g i : Nat} {u : Value} (hg : ∀ a, Live m a → (val a).ownBlock ≠ some g) : OI (W.setCell ⟨g, i, none⟩ u) B val m :=
  ⟨fun a ha => ownsRow_setCell_other (h.row a ha) (hg a ha) u, h.apart⟩
theorem OI.lt {W : World} {B : Nat} {val : Nm → Value} {m : ImgD} (h : OI W B val m) {g : Nat} (hg : W.heap.size ≤ g) : ∀ a, Live m a → (val a).ownBlock ≠ some g := fun a ha e => by
  have := ((h.row a ha).lt g e).2
  omega

theorem row_some {W : World} {B : Nat} {e : TypeId} {size n : Nat} {v : Value} {xs : List Value} (h : W.ownsRow B e size v (n + 1) xs) : ∃ g cap, v = .slice (some ⟨g, 0, none⟩) (n + 1) cap := by
  rcases row_form h with ⟨_, e⟩ | ⟨g, cap, e, _⟩
  · cases e
  · exact ⟨g, cap, e⟩
theorem cells_frozen {W : World} {b : Nat} {A : Array Value} {t : TypeId} (h : W.heap[b]? = some (.cells A t)) (i : Nat) : W.frozen? ⟨b, i, none⟩ = false := by simp [World.frozen?, h]
def OKeep (w w' : World) (m : ImgD) (val : Nm → Value) : Prop := ∀ q, q < w.heap.size → (∀ a, Live m a → (val a).ownBlock ≠ some q) → w'.heap[q]? = w.heap[q]?
theorem OKeep.refl (w : World) (m : ImgD) (val : Nm → Value) : OKeep w w m val := fun _ _ _ => rfl
theorem OKeep.alloc {w W : World} {m : ImgD} {val : Nm → Value} (h : OKeep w W m val) (hs : w.heap.size ≤ W.heap.size) (o : Obj) : OKeep w (W.alloc o) m val := fun q hq hn => (Below.heap_alloc W o q (by omega)).trans (h q hq hn)
theorem OKeep.own {w W : World} {m : ImgD} {val : Nm → Value} (h : OKeep w W m val) {a : Nm} (ha : Live m a) {g n c : Nat} (hg : val a = .slice (some ⟨g, 0, none⟩) n c) {i : Nat} {v : Value} : OKeep w (W.setCell ⟨g, i, none⟩ v) m val := fun q hq hn =>
  (Below.heap_setCell W ⟨g, i, none⟩ v q (fun e => hn a ha (by rw [hg]; exact congrArg some e.symm))).trans (h q hq hn)
theorem OKeep.new {w W : World} {m : ImgD} {val : Nm → Value} (h : OKeep w W m val) {g i : Nat} (hg : w.heap.size ≤ g) {v : Value} : OKeep w (W.setCell ⟨g, i, none⟩ v) m val := fun q hq hn =>
  (Below.heap_setCell W ⟨g, i, none⟩ v q (fun e => by have e : q = g := e; omega)).trans (h q hq hn)
theorem OKeep.grown {w W W' : World} {m : ImgD} {val : Nm → Value} (h : OKeep w W m val) (hs : w.heap.size ≤ W.heap.size) {a : Nm} (ha : Live m a) {v : Value} (hv : val a = v) (hg : W.grownBy W' v.ownBlock) : OKeep w W' m val := fun q hq hn =>
  (hg.block q (by omega) (fun e => hn a ha (by rw [hv]; exact e.symm))).trans (h q hq hn)
theorem OKeep.below {w W W' : World} {m : ImgD} {val : Nm → Value} (h : OKeep w W m val) {n : Nat} (hs : w.heap.size ≤ n) (hg : Below n W W') : OKeep w W' m val := fun q hq hn => (hg.block q (by omega)).trans (h q hq hn)

theorem OI.forms {W : World} {B : Nat} {val : Nm → Value} {m : ImgD} (h : OI W B val m) (a : Nm) (ha : Live m a) : ∃ ao cap, val a = .slice ao (rowN m a) cap ∧ (0 < rowN m a → ∃ g, ao = some ⟨g, 0, none⟩) := by
  rcases row_form (h.row a ha) with ⟨e, hn⟩ | ⟨g, cap, e, _⟩
  · exact ⟨none, 0, by rw [e, hn], fun hp => absurd hp (by omega)⟩
  · exact ⟨_, cap, e, fun _ => ⟨g, rfl⟩⟩
end Go.Proofs.Ytehleeibgkpjmae
/- Contract of the document's tableOf: a table of one's own. -/
namespace Go.Proofs.Ytehleeibgkpjmae
open Go.RowKit Go.Shelf
end Go.Proofs.Ytehleeibgkpjmae
/- Contract of the document's counted. -/
namespace Go.Proofs.Ytehleeibgkpjmae
open Go.RowKit Go.Shelf
set_option maxRecDepth 20000

def frT (m : ImgD) (k : Nat) : ImgD := { m with refs := cntL m, slots := (List.range m.slots.length).map (fun j => if j < k ∧ (cntL m).getD j 0 = 0 then slotZ else m.slots.getD j default) }
theorem frT_length (m : ImgD) (k : Nat) : (frT m k).slots.length = m.slots.length := by simp [frT]
theorem frT_get (m : ImgD) (k : Nat) {j : Nat} (hj : j < m.slots.length) : (frT m k).slots.getD j default = if j < k ∧ (cntL m).getD j 0 = 0 then slotZ else m.slots.getD j default := by
  unfold frT
  simp only [List.getD, List.getElem?_map, List.getElem?_range hj, Option.map_some, Option.getD_some]
theorem slots_ext {L M : List SlotD} (hl : L.length = M.length) (h : ∀ j, j < L.length → L.getD j default = M.getD j default) : L = M := by
  apply List.ext_getElem hl
  intro j h1 h2
  have := h j h1
  simpa [List.getD, h1, h2] using this
theorem frT_zero (m : ImgD) : frT m 0 = { m with refs := cntL m } := by
  have e : (frT m 0).slots = m.slots := slots_ext (frT_length m 0) (fun j hj => by
    rw [frT_length] at hj
    rw [frT_get m 0 hj, if_neg (by omega)])
  show ImgD.mk _ _ (frT m 0).slots _ _ = _
  rw [e]
theorem frT_end (m : ImgD) : frT m m.slots.length = countedD m := by
  have e : (frT m m.slots.length).slots = freeUn m.slots (cntL m) := slots_ext (by rw [frT_length, freeUn_length]) (fun j hj => by
    rw [frT_length] at hj
    rw [frT_get m _ hj, freeUn_get hj]
    by_cases c : (cntL m).getD j 0 = 0
    · rw [if_pos ⟨hj, c⟩, if_pos c]
    · rw [if_neg (fun x => c x.2), if_neg c])
  show ImgD.mk _ _ (frT m m.slots.length).slots _ _ = _
  rw [e]; rfl
theorem frT_gone (m : ImgD) {k : Nat} (hc : (cntL m).getD k 0 = 0) : frT m (k + 1) = { frT m k with slots := (frT m k).slots.set k slotZ } := by
  have e : (frT m (k + 1)).slots = (frT m k).slots.set k slotZ := slots_ext (by rw [List.length_set, frT_length, frT_length]) (fun j hj => by
    rw [frT_length] at hj
    rw [getD_setR, frT_get m _ hj, frT_length]
    by_cases e : k = j
    · subst e; rw [if_pos ⟨by omega, hc⟩, if_pos ⟨rfl, hj⟩]
    · rw [show (if k = j ∧ j < m.slots.length then slotZ else (frT m k).slots.getD j default) = (frT m k).slots.getD j default from if_neg (fun x => e x.1), frT_get m k hj]
      by_cases c : (cntL m).getD j 0 = 0
      · by_cases l : j < k
        · rw [if_pos ⟨by omega, c⟩, if_pos ⟨l, c⟩]
        · rw [if_neg (by omega), if_neg (fun x => l x.1)]
      · rw [if_neg (fun x => c x.2), if_neg (fun x => c x.2)])
  show ImgD.mk _ _ (frT m (k + 1)).slots _ _ = _
  rw [e]; rfl
theorem frT_kept (m : ImgD) {k : Nat} (hc : (cntL m).getD k 0 ≠ 0) : frT m (k + 1) = frT m k := by
  have e : (frT m (k + 1)).slots = (frT m k).slots := slots_ext (by rw [frT_length, frT_length]) (fun j hj => by
    rw [frT_length] at hj
    rw [frT_get m _ hj, frT_get m _ hj]
    by_cases c : (cntL m).getD j 0 = 0
    · have : j ≠ k := fun x => hc (by rw [← x]; exact c)
      by_cases l : j < k
      · rw [if_pos ⟨by omega, c⟩, if_pos ⟨l, c⟩]
      · rw [if_neg (by omega), if_neg (fun x => l x.1)]
    · rw [if_neg (fun x => c x.2), if_neg (fun x => c x.2)])
  show ImgD.mk _ _ (frT m (k + 1)).slots _ _ = _
  rw [e]; rfl
theorem cells_set {W : World} {b : Nat} {A : Array Value} {t : TypeId} (h : W.heap[b]? = some (.cells A t)) (i : Nat) (v : Value) : (W.setCell ⟨b, i, none⟩ v).heap[b]? = some (.cells (A.setIfInBounds i v) t) := by
  obtain ⟨hlt, hk⟩ := Array.getElem?_eq_some_iff.1 h
  show (W.heap.modify b _)[b]? = _
  rw [Array.getElem?_eq_getElem (by rw [Array.size_modify]; exact hlt), Array.getElem_modify_self, hk]
  simp
theorem cells_other {W : World} {b : Nat} {o : Option Obj} (h : W.heap[b]? = o) {g : Nat} (hg : b ≠ g) (i : Nat) (v : Value) : (W.setCell ⟨g, i, none⟩ v).heap[b]? = o := (Below.heap_setCell W ⟨g, i, none⟩ v b hg).trans h
theorem row_LAt {W : World} {g : Nat} {l : List Int} (h : LAt W g l) {B : Nat} (hB : B ≤ g) (hl : l.length ≤ 1000) : W.ownsRow B 3 1 (.slice (some ⟨g, 0, none⟩) l.length l.length) l.length (ints l) :=
  ⟨by simp [ints_length], .inr ⟨g, l.length, (ints l).toArray, rfl, hB, h, Nat.le_refl _, by unfold maxLen; omega, by simp [ints_length], by rw [Nat.mul_one]; exact List.take_of_length_le (by simp [ints_length])⟩⟩
end Go.Proofs.Ytehleeibgkpjmae
/- The desk: five cells, and an image's own rows. What stays, and what turns. -/
namespace Go.Proofs.Ytehleeibgkpjmae
open Go.RowKit Go.Shelf
set_option maxRecDepth 20000

theorem Img.four {w : World} {m : ImgD} {a b c d e : Value} (h : Img w (.agg #[a, b, c, d, e]) m) : Sl w b m.root ∧ Slots w c m.slots ∧ Sl w d m.refs ∧ Snaps w e m.snaps := by
  obtain ⟨_, _, _, _, e, h1, h2, h3, h4⟩ := h
  simp only [Value.agg.injEq, Array.mk.injEq, List.cons.injEq, and_true] at e
  obtain ⟨_, rfl, rfl, rfl, rfl⟩ := e
  exact ⟨h1, h2, h3, h4⟩
structure DK (W : World) (B D : Nat) (val : Nm → Value) (m : ImgD) : Prop where
  own : OI W B val m
  box : W.heap[D]? = some (.cells #[.int .i64 m.guest, val .root, val .slots, val .refs, val .snaps] 61)
  ge : B ≤ D
  far : ∀ a, Live m a → (val a).ownBlock ≠ some D
theorem DK.lt {W : World} {B D : Nat} {val : Nm → Value} {m : ImgD} (h : DK W B D val m) : D < W.heap.size := (Array.getElem?_eq_some_iff.1 h.box).1
theorem DK.below {W W' : World} {B D : Nat} {val : Nm → Value} {m : ImgD} (h : DK W B D val m) (hb : Below W.heap.size W W') : DK W' B D val m := ⟨h.own.below hb, (hb.block D h.lt).trans h.box, h.ge, h.far⟩
theorem DK.drew {W : World} {B D : Nat} {val : Nm → Value} {m : ImgD} (h : DK W B D val m) : DK W.drew B D val m := ⟨h.own.drew, h.box, h.ge, h.far⟩
theorem DK.alloc {W : World} {B D : Nat} {val : Nm → Value} {m : ImgD} (h : DK W B D val m) (o : Obj) : DK (W.alloc o) B D val m := h.below ((Below.refl _ _).alloc (Nat.le_refl _) o)

structure DTo (w w' : World) (B D : Nat) (m : ImgD) (val : Nm → Value) (ev : Value) (m' : ImgD) (val' : Nm → Value) : Prop where
  dk : DK w' B D val' m'
  bel : Below B w w'
  keep : ∀ q, q < w.heap.size → q ≠ D → ev.ownBlock ≠ some q → (∀ a, Live m a → (val a).ownBlock ≠ some q) → w'.heap[q]? = w.heap[q]?
  src : ∀ q, q < w.heap.size → ev.ownBlock ≠ some q → (∀ b, Live m b → (val b).ownBlock ≠ some q) → ∀ a, Live m' a → (val' a).ownBlock ≠ some q
abbrev nilV : Value := .slice none 0 0
theorem nilV_own (q : Nat) : nilV.ownBlock ≠ some q := by intro e; cases e

theorem DTo.refl {w : World} {B D : Nat} {m : ImgD} {val : Nm → Value} (h : DK w B D val m) (ev : Value) : DTo w w B D m val ev m val := ⟨h, Below.refl _ _, fun _ _ _ _ _ => rfl, fun _ _ _ hm => hm⟩
theorem DTo.trans {w w1 w2 : World} {B D : Nat} {m m1 m2 : ImgD} {val val1 val2 : Nm → Value} {ev ev' : Value} (h : DTo w w1 B D m val ev m1 val1) (k : DTo w1 w2 B D m1 val1 ev' m2 val2) (he : ∀ q, ev'.ownBlock = some q → ev.ownBlock = some q ∨ w.heap.size ≤ q ∨ ∃ a, Live m a ∧ (val a).ownBlock = some q) : DTo w w2 B D m val ev m2 val2 := by
  have hx : ∀ q, q < w.heap.size → ev.ownBlock ≠ some q → (∀ b, Live m b → (val b).ownBlock ≠ some q) → ev'.ownBlock ≠ some q := fun q hq hev hm e => by
    rcases he q e with x | x | ⟨a, ha, x⟩
    · exact hev x
    · omega
    · exact hm a ha x
  refine ⟨k.dk, h.bel.trans k.bel, fun q hq hD hev hm => ?_, fun q hq hev hm => ?_⟩
  · exact (k.keep q (Nat.lt_of_lt_of_le hq h.bel.size) hD (hx q hq hev hm) (h.src q hq hev hm)).trans (h.keep q hq hD hev hm)
  · exact k.src q (Nat.lt_of_lt_of_le hq h.bel.size) (hx q hq hev hm) (h.src q hq hev hm)
theorem DTo.andThen {w w1 w2 : World} {B D : Nat} {m m1 m2 : ImgD} {val val1 val2 : Nm → Value} (h : DTo w w1 B D m val nilV m1 val1) (k : DTo w1 w2 B D m1 val1 nilV m2 val2) : DTo w w2 B D m val nilV m2 val2 :=
  h.trans k (fun q e => by cases e)
theorem DTo.first {w w1 w2 : World} {B D : Nat} {m m1 : ImgD} {val val1 : Nm → Value} {ev : Value} (hb : Below w.heap.size w w1) (hB : B ≤ w.heap.size) (h : DTo w1 w2 B D m val ev m1 val1) (he : ∀ q, ev.ownBlock = some q → w.heap.size ≤ q) : DTo w w2 B D m val nilV m1 val1 :=
  ⟨h.dk, (hb.mono hB).trans h.bel, fun q hq hD _ hm => (h.keep q (Nat.lt_of_lt_of_le hq hb.size) hD (fun e => by have := he q e; omega) hm).trans (hb.block q hq), fun q hq _ hm => h.src q (Nat.lt_of_lt_of_le hq hb.size) (fun e => by have := he q e; omega) hm⟩
theorem DTo.below {w w1 w2 : World} {B D : Nat} {m m1 : ImgD} {val val1 : Nm → Value} {ev : Value} (h : DTo w w1 B D m val ev m1 val1) (hB : B ≤ w.heap.size) (hb : Below w1.heap.size w1 w2) : DTo w w2 B D m val ev m1 val1 :=
  ⟨h.dk.below hb, h.bel.trans (hb.mono (Nat.le_trans hB h.bel.size)), fun q hq hD hev hm => (hb.block q (Nat.lt_of_lt_of_le hq h.bel.size)).trans (h.keep q hq hD hev hm), h.src⟩
theorem DTo.drew {w w1 : World} {B D : Nat} {m m1 : ImgD} {val val1 : Nm → Value} {ev : Value} (h : DTo w w1 B D m val ev m1 val1) : DTo w w1.drew B D m val ev m1 val1 := ⟨h.dk.drew, h.bel.drew, h.keep, h.src⟩
theorem DTo.alloc {w w1 : World} {B D : Nat} {m m1 : ImgD} {val val1 : Nm → Value} {ev : Value} (h : DTo w w1 B D m val ev m1 val1) (hB : B ≤ w.heap.size) (o : Obj) : DTo w (w1.alloc o) B D m val ev m1 val1 := h.below hB ((Below.refl _ _).alloc (Nat.le_refl _) o)
theorem DK.setFar {W : World} {B D : Nat} {val : Nm → Value} {m : ImgD} (h : DK W B D val m) {g i : Nat} {u : Value} (hD : D ≠ g) (hg : ∀ a, Live m a → (val a).ownBlock ≠ some g) : DK (W.setCell ⟨g, i, none⟩ u) B D val m := ⟨h.own.far hg, cells_other h.box hD _ _, h.ge, h.far⟩
theorem DTo.setNew {w w1 : World} {B D : Nat} {m m1 : ImgD} {val val1 : Nm → Value} {ev : Value} (h : DTo w w1 B D m val ev m1 val1) (hB : B ≤ w.heap.size) {g i : Nat} {u : Value} (hg : w.heap.size ≤ g) (hD : D ≠ g) (hf : ∀ a, Live m1 a → (val1 a).ownBlock ≠ some g) : DTo w (w1.setCell ⟨g, i, none⟩ u) B D m val ev m1 val1 :=
  ⟨h.dk.setFar hD hf, h.bel.setCell (Nat.le_trans hB hg) _, fun q hq hqD hev hm => (Below.heap_setCell w1 ⟨g, i, none⟩ u q (fun e => by have e : q = g := e; omega)).trans (h.keep q hq hqD hev hm), h.src⟩
theorem DTo.cells {w w1 : World} {B D : Nat} {m m1 : ImgD} {val val1 : Nm → Value} {ev : Value} (h : DTo w w1 B D m val ev m1 val1) {q : Nat} {A : Array Value} {t : TypeId} (hq : w.heap[q]? = some (.cells A t)) (hD : q ≠ D) (hev : ev.ownBlock ≠ some q) (hm : ∀ a, Live m a → (val a).ownBlock ≠ some q) : w1.heap[q]? = some (.cells A t) :=
  (h.keep q (Array.getElem?_eq_some_iff.1 hq).1 hD hev hm).trans hq


theorem DK.five {W : World} {B D : Nat} {val : Nm → Value} {m : ImgD} (h : DK W B D val m) : W.cell? ⟨D, 0, none⟩ = some (.int .i64 m.guest) ∧ W.cell? ⟨D, 1, none⟩ = some (val .root) ∧ W.cell? ⟨D, 2, none⟩ = some (val .slots) ∧ W.cell? ⟨D, 3, none⟩ = some (val .refs) ∧ W.cell? ⟨D, 4, none⟩ = some (val .snaps) := Go.Proofs.Ytehleeibgkpjmae.five h.box
theorem DK.frozen {W : World} {B D : Nat} {val : Nm → Value} {m : ImgD} (h : DK W B D val m) (i : Nat) : W.frozen? ⟨D, i, none⟩ = false := cells_frozen h.box i
theorem DK.swapRefs {W : World} {B D : Nat} {val : Nm → Value} {m : ImgD} (h : DK W B D val m) {v : Value} {r : List Int} (hv : W.ownsRow B 3 1 v r.length (ints r)) (hfar : Far m val .refs v) (hD : v.ownBlock ≠ some D) : DK (W.setCell ⟨D, 3, none⟩ v) B D (upd val .refs v) { m with refs := r } := by
  have hf : ∀ a, Live m a → (upd val .refs v a).ownBlock ≠ some D := fun a ha => by
    by_cases e : a = .refs
    · subst e; rw [upd_same]; exact hD
    · rw [upd_other _ _ e]; exact h.far a ha
  refine ⟨(h.own.swapRefs hv hfar).far hf, ?_, h.ge, hf⟩
  have := cells_set h.box 3 v
  rw [upd_same, upd_other _ _ (by intro x; cases x), upd_other _ _ (by intro x; cases x), upd_other _ _ (by intro x; cases x)]
  exact this
theorem DK.swapRoot {W : World} {B D : Nat} {val : Nm → Value} {m : ImgD} (h : DK W B D val m) {v : Value} {r : List Int} (hv : W.ownsRow B 3 1 v r.length (ints r)) (hfar : Far m val .root v) (hD : v.ownBlock ≠ some D) : DK (W.setCell ⟨D, 1, none⟩ v) B D (upd val .root v) { m with root := r } := by
  have hf : ∀ a, Live m a → (upd val .root v a).ownBlock ≠ some D := fun a ha => by
    by_cases e : a = .root
    · subst e; rw [upd_same]; exact hD
    · rw [upd_other _ _ e]; exact h.far a ha
  refine ⟨(h.own.swapRoot hv hfar m.guest).far hf, ?_, h.ge, hf⟩
  have := cells_set h.box 1 v
  rw [upd_same, upd_other _ _ (by intro x; cases x), upd_other _ _ (by intro x; cases x), upd_other _ _ (by intro x; cases x)]
  exact this
theorem OI.reguest {W : World} {B : Nat} {val : Nm → Value} {m : ImgD} (h : OI W B val m) (g : Int) : OI W B val { m with guest := g } := ⟨fun a ha => h.row a ha, fun a b ha hb => h.apart a b ha hb⟩
theorem DK.setGuest {W : World} {B D : Nat} {val : Nm → Value} {m : ImgD} (h : DK W B D val m) (g : Int) : DK (W.setCell ⟨D, 0, none⟩ (.int .i64 g)) B D val { m with guest := g } :=
  ⟨(h.own.reguest g).far h.far, cells_set h.box 0 _, h.ge, h.far⟩

theorem DTo.setOwn {w w1 : World} {B D : Nat} {m m1 m2 : ImgD} {val val1 val2 : Nm → Value} {ev : Value} (h : DTo w w1 B D m val ev m1 val1) {a : Nm} (ha : Live m1 a) {g n cap : Nat} (hv : val1 a = .slice (some ⟨g, 0, none⟩) n cap) {i : Nat} {u : Value} (hdk : DK (w1.setCell ⟨g, i, none⟩ u) B D val2 m2) (hs : ∀ q, ev.ownBlock ≠ some q → (∀ b, Live m1 b → (val1 b).ownBlock ≠ some q) → q < w.heap.size → ∀ b, Live m2 b → (val2 b).ownBlock ≠ some q) : DTo w (w1.setCell ⟨g, i, none⟩ u) B D m val ev m2 val2 := by
  have hg := ((h.dk.own.row a ha).lt g (by rw [hv]; rfl)).1
  refine ⟨hdk, h.bel.setCell hg _, fun q hq hD hev hm => ?_, fun q hq hev hm => hs q hev (h.src q hq hev hm) hq⟩
  exact (Below.heap_setCell w1 ⟨g, i, none⟩ u q (fun e => h.src q hq hev hm a ha (by rw [hv]; exact congrArg some e.symm))).trans (h.keep q hq hD hev hm)
theorem DTo.setDesk {w w1 : World} {B D : Nat} {m m1 m2 : ImgD} {val val1 val2 : Nm → Value} {ev : Value} (h : DTo w w1 B D m val ev m1 val1) {i : Nat} {u : Value} (hdk : DK (w1.setCell ⟨D, i, none⟩ u) B D val2 m2) (hs : ∀ q, ev.ownBlock ≠ some q → (∀ b, Live m1 b → (val1 b).ownBlock ≠ some q) → q < w.heap.size → ∀ b, Live m2 b → (val2 b).ownBlock ≠ some q) : DTo w (w1.setCell ⟨D, i, none⟩ u) B D m val ev m2 val2 :=
  ⟨hdk, h.bel.setCell h.dk.ge _, fun q hq hD hev hm => (Below.heap_setCell w1 ⟨D, i, none⟩ u q hD).trans (h.keep q hq hD hev hm), fun q hq hev hm => hs q hev (h.src q hq hev hm) hq⟩
theorem DK.setRoot {W : World} {B D : Nat} {val : Nm → Value} {m : ImgD} (h : DK W B D val m) {g n cap : Nat} (hv : val .root = .slice (some ⟨g, 0, none⟩) n cap) (i : Nat) (x : Int) : DK (W.setCell ⟨g, i, none⟩ (.int .i64 x)) B D val { m with root := m.root.set i x } :=
  ⟨h.own.setRoot hv i x, cells_other h.box (fun e => h.far .root (Live.root m) (by rw [hv, e]; rfl)) _ _, h.ge, h.far⟩
theorem DK.setRefs {W : World} {B D : Nat} {val : Nm → Value} {m : ImgD} (h : DK W B D val m) {g n cap : Nat} (hv : val .refs = .slice (some ⟨g, 0, none⟩) n cap) (i : Nat) (x : Int) : DK (W.setCell ⟨g, i, none⟩ (.int .i64 x)) B D val { m with refs := m.refs.set i x } :=
  ⟨h.own.setRefs hv i x, cells_other h.box (fun e => h.far .refs (Live.refs m) (by rw [hv, e]; rfl)) _ _, h.ge, h.far⟩
theorem DTo.setRoot {w w1 : World} {B D : Nat} {m m1 : ImgD} {val val1 : Nm → Value} {ev : Value} (h : DTo w w1 B D m val ev m1 val1) {g n cap : Nat} (hv : val1 .root = .slice (some ⟨g, 0, none⟩) n cap) (i : Nat) (x : Int) : DTo w (w1.setCell ⟨g, i, none⟩ (.int .i64 x)) B D m val ev { m1 with root := m1.root.set i x } val1 :=
  h.setOwn (Live.root m1) hv (h.dk.setRoot hv i x) (fun _ _ hm _ => hm)
theorem DTo.setRefs {w w1 : World} {B D : Nat} {m m1 : ImgD} {val val1 : Nm → Value} {ev : Value} (h : DTo w w1 B D m val ev m1 val1) {g n cap : Nat} (hv : val1 .refs = .slice (some ⟨g, 0, none⟩) n cap) (i : Nat) (x : Int) : DTo w (w1.setCell ⟨g, i, none⟩ (.int .i64 x)) B D m val ev { m1 with refs := m1.refs.set i x } val1 :=
  h.setOwn (Live.refs m1) hv (h.dk.setRefs hv i x) (fun _ _ hm _ => hm)
theorem DTo.setGuest {w w1 : World} {B D : Nat} {m m1 : ImgD} {val val1 : Nm → Value} {ev : Value} (h : DTo w w1 B D m val ev m1 val1) (x : Int) : DTo w (w1.setCell ⟨D, 0, none⟩ (.int .i64 x)) B D m val ev { m1 with guest := x } val1 :=
  h.setDesk (h.dk.setGuest x) (fun _ _ hm _ => hm)
theorem upd_src {m1 m2 : ImgD} {val1 : Nm → Value} {ev v : Value} {a : Nm} {n : Nat} (hl : ∀ b, Live m2 b → b ≠ a → Live m1 b) (hv : ∀ q, v.ownBlock = some q → ev.ownBlock = some q ∨ n ≤ q) : ∀ q, ev.ownBlock ≠ some q → (∀ b, Live m1 b → (val1 b).ownBlock ≠ some q) → q < n → ∀ b, Live m2 b → (upd val1 a v b).ownBlock ≠ some q := fun q hev hm hq b hb => by
  by_cases e : b = a
  · subst e
    rw [upd_same]
    intro x
    rcases hv q x with y | y
    · exact hev y
    · omega
  · rw [upd_other _ _ e]; exact hm b (hl b hb e)
theorem DTo.swapRoot {w w1 : World} {B D : Nat} {m m1 : ImgD} {val val1 : Nm → Value} {ev : Value} (h : DTo w w1 B D m val ev m1 val1) {v : Value} {r : List Int} (hv : w1.ownsRow B 3 1 v r.length (ints r)) (hfar : Far m1 val1 .root v) (hD : v.ownBlock ≠ some D) (hs : ∀ q, v.ownBlock = some q → ev.ownBlock = some q ∨ w.heap.size ≤ q) : DTo w (w1.setCell ⟨D, 1, none⟩ v) B D m val ev { m1 with root := r } (upd val1 .root v) :=
  h.setDesk (h.dk.swapRoot hv hfar hD) (upd_src (fun _ hb _ => hb) hs)
theorem DTo.swapRefs {w w1 : World} {B D : Nat} {m m1 : ImgD} {val val1 : Nm → Value} {ev : Value} (h : DTo w w1 B D m val ev m1 val1) {v : Value} {r : List Int} (hv : w1.ownsRow B 3 1 v r.length (ints r)) (hfar : Far m1 val1 .refs v) (hD : v.ownBlock ≠ some D) (hs : ∀ q, v.ownBlock = some q → ev.ownBlock = some q ∨ w.heap.size ≤ q) : DTo w (w1.setCell ⟨D, 3, none⟩ v) B D m val ev { m1 with refs := r } (upd val1 .refs v) :=
  h.setDesk (h.dk.swapRefs hv hfar hD) (upd_src (fun _ hb _ => hb) hs)
theorem DTo.setSlot {w w1 : World} {B D : Nat} {m m1 : ImgD} {val val1 : Nm → Value} {ev : Value} (h : DTo w w1 B D m val ev m1 val1) {t : Nat} (ht : t < m1.slots.length) {g n cap : Nat} (hv : val1 .slots = .slice (some ⟨g, 0, none⟩) n cap) (k : Int) (d : ByteArray) (es : List Int) {e2 : Value}
    (hev : w1.ownsRow B 3 1 e2 es.length (ints es)) (hfar : Far m1 val1 (.tab t) e2) (hD : e2.ownBlock ≠ some D) (hs : ∀ q, e2.ownBlock = some q → ev.ownBlock = some q ∨ w.heap.size ≤ q) :
    DTo w (((w1.setCell ⟨g, t * 3, none⟩ (.int .i64 k)).setCell ⟨g, t * 3 + 1, none⟩ (.string d)).setCell ⟨g, t * 3 + 2, none⟩ e2) B D m val ev { m1 with slots := m1.slots.set t (k, d, es) } (upd val1 (.tab t) e2) := by
  have hDg : D ≠ g := fun e => h.dk.far .slots (Live.slots m1) (by rw [hv, e]; rfl)
  have hg := ((h.dk.own.row .slots (Live.slots m1)).lt g (by rw [hv]; rfl)).1
  have hl : ∀ b, Live { m1 with slots := m1.slots.set t (k, d, es) } b → Live m1 b := fun b hb => (live_iff (m := m1) (m' := { m1 with slots := m1.slots.set t (k, d, es) }) List.length_set rfl b).1 hb
  have hu : ∀ q, ev.ownBlock ≠ some q → (∀ b, Live m1 b → (val1 b).ownBlock ≠ some q) → q < w.heap.size → ∀ b, Live { m1 with slots := m1.slots.set t (k, d, es) } b → (upd val1 (.tab t) e2 b).ownBlock ≠ some q := upd_src (fun b hb _ => hl b hb) hs
  refine ⟨⟨h.dk.own.setSlot ht hv k d es hev hfar, ?_, h.dk.ge, fun a ha => ?_⟩, ((h.bel.setCell hg _).setCell hg _).setCell hg _, fun q hq hqD hev' hm => ?_, fun q hq hev' hm => hu q hev' (h.src q hq hev' hm) hq⟩
  · rw [upd_other _ _ (by intro x; cases x), upd_other _ _ (by intro x; cases x), upd_other _ _ (by intro x; cases x), upd_other _ _ (by intro x; cases x)]
    exact cells_other (cells_other (cells_other h.dk.box hDg _ _) hDg _ _) hDg _ _
  · by_cases e : a = .tab t
    · subst e; rw [upd_same]; exact hD
    · rw [upd_other _ _ e]; exact h.dk.far a (hl a ha)
  · have hqg : q ≠ g := fun e => h.src q hq hev' hm .slots (Live.slots m1) (by rw [hv]; exact congrArg some e.symm)
    exact (cells_other (cells_other (cells_other rfl hqg _ _) hqg _ _) hqg _ _).trans (h.keep q hq hqD hev' hm)
def AnsI (w : World) (B : Nat) (m : ImgD) (err : Int) (r : Ending) (w' : World) : Prop := ∃ val, r = .returned (.tuple #[imgV m.guest val, .int .i64 err]) ∧ OI w' B val m ∧ Below B w w'
def imgZ : ImgD := ⟨0, [], [], [], []⟩
def valZ : Nm → Value := fun _ => nilV
theorem OI.zero (W : World) (B : Nat) : OI W B valZ imgZ := ⟨fun a ha => by
  rcases ha.cases with rfl | rfl | rfl | rfl | ⟨j, rfl, hj⟩ | ⟨j, rfl, hj⟩
  · exact World.ownsRow_nil _ _ _ _
  · exact World.ownsRow_nil _ _ _ _
  · exact World.ownsRow_nil _ _ _ _
  · exact World.ownsRow_nil _ _ _ _
  · exact absurd hj (Nat.not_lt_zero _)
  · exact absurd hj (Nat.not_lt_zero _), fun _ _ _ _ _ g hg => by cases hg⟩
theorem AnsI.bad {w w' : World} {B : Nat} (err : Int) (hb : Below B w w') : AnsI w B imgZ err (.returned (.tuple #[.agg #[.int .i64 0, nilV, nilV, nilV, nilV], .int .i64 err])) w' := ⟨valZ, rfl, OI.zero _ _, hb⟩
end Go.Proofs.Ytehleeibgkpjmae
/- Writing, wiping, punching: what comes is right, and how it is read. Plain lists. -/
namespace Go.Proofs.Ytehleeibgkpjmae
open Go.RowKit Go.Shelf
set_option maxRecDepth 20000

def EntOK (L : List SlotD) (e : Int) : Prop := e = 0 ∨ e = -1 ∨ ∃ j : Nat, e = j ∧ 1 ≤ j ∧ j < L.length ∧ kd L j = 1
structure Laid (m M : ImgD) (k : Nat) (es : List Int) : Prop where
  shape : shapeE M = 0
  guest : M.guest = m.guest
  snaps : M.snaps = m.snaps
  rlen : M.root.length = m.root.length
  look : ∀ q, q / 4 < m.root.length → lookV M M.root q = if q / 4 = k then es.getD (q % 4) 0 else lookV m m.root q
  past : ∀ s ∈ m.snaps, ∀ q, q / 4 < s.2.2.length → lookV M s.2.2 q = lookV m s.2.2 q
  page : ∀ e, EntOK m.slots e → pageV M.slots e = pageV m.slots e

theorem laid_ext {m : ImgD} {k t : Nat} {L' : List SlotD} {es rf : List Int} (h : shapeE m = 0) (hk : k < m.root.length) (hx : Ext m.slots L' t es) (hl : Lone m k t) (hrf : rf.length = L'.length) (hz : TailZ m k es) : Laid m (tabSet m k t L' rf) k es := by
  have hs := (shapeE_zero h).2.1
  have hr := root_ok h
  refine ⟨tabSet_shape h hk hx hl hrf hz, rfl, rfl, by show (m.root.set k _).length = _; rw [List.length_set], fun q hq => look_tabSet hx hs hl hr.2 q hq, fun s hsm q hq => ?_, fun e he => page_ext hx he⟩
  have hf := List.all_eq_true.1 (shapeE_zero h).2.2.2.2.2.2 s (List.mem_cons_of_mem _ hsm)
  unfold rootFit at hf
  simp only [Bool.and_eq_true] at hf
  exact look_snap hx hs hf.2.1 (hl.snap s hsm) q hq

theorem reroot_shape {m : ImgD} (h : shapeE m = 0) {g : Int} {r : List Int} (hg : guestOK g = true) (hf : rootFit m.slots g r = true) : shapeE { m with guest := g, root := r } = 0 := by
  obtain ⟨z1, z2, z3, z4, z5, z6, z7⟩ := shapeE_zero h
  unfold rootsOf at z5 z7
  rw [List.all_cons] at z5 z7
  simp only [Bool.and_eq_true] at z5 z7
  have hgall : (rootsOf { m with guest := g, root := r }).all (fun s => guestOK s.2.1) = true := by
    show (((⟨#[]⟩, g, r) : SnapD) :: m.snaps).all _ = true
    rw [List.all_cons, z5.2, Bool.and_true]; exact hg
  have hall : (rootsOf { m with guest := g, root := r }).all (fun s => rootFit m.slots s.2.1 s.2.2) = true := by
    show (((⟨#[]⟩, g, r) : SnapD) :: m.snaps).all _ = true
    rw [List.all_cons, z7.2, Bool.and_true]; exact hf
  unfold shapeE
  rw [if_neg (by show ¬ 3 < m.snaps.length; omega), if_neg (by show ¬ slotsE m.slots ≠ 0; simpa using z2), if_neg, if_neg (by rw [hgall]; decide), if_neg (by show ¬ tabFit m.slots = false; rw [z6]; decide), if_neg (by show ¬ ((rootsOf { m with guest := g, root := r }).all fun s => rootFit m.slots s.2.1 s.2.2) = false; rw [hall]; decide)]
  rintro (e | e)
  · exact e z3
  · have : namesOK m.snaps = false := e
    rw [z4] at this; cases this
theorem rootFit_root {m : ImgD} (h : shapeE m = 0) : rootFit m.slots m.guest m.root = true := List.all_eq_true.1 (shapeE_zero h).2.2.2.2.2.2 (⟨#[]⟩, m.guest, m.root) List.mem_cons_self
theorem guestOK_guest {m : ImgD} (h : shapeE m = 0) : guestOK m.guest = true := List.all_eq_true.1 (shapeE_zero h).2.2.2.2.1 (⟨#[]⟩, m.guest, m.root) List.mem_cons_self
theorem rootFit_zero {L : List SlotD} {g : Int} {r : List Int} (h : rootFit L g r = true) (k : Nat) : rootFit L g (r.set k 0) = true := by
  unfold rootFit at h ⊢
  simp only [Bool.and_eq_true, decide_eq_true_eq] at h ⊢
  refine ⟨by rw [List.length_set]; exact h.1, ?_, ?_⟩
  · rw [List.all_eq_true]
    intro x hx
    rcases mem_set hx with hm | hm
    · exact List.all_eq_true.1 h.2.1 x hm
    · rw [hm]; rfl
  · have hl := h.2.2
    unfold lastFit at hl ⊢
    rw [List.length_set, getD_setI]
    by_cases e : k = r.length - 1 ∧ r.length - 1 < r.length
    · rw [if_pos e]; simp
    · rw [if_neg e]; exact hl
theorem laid_bare {m : ImgD} {k : Nat} {es : List Int} (h : shapeE m = 0) (hb : bareL es = true) : Laid m { m with root := m.root.set k 0 } k es := by
  refine ⟨reroot_shape h (guestOK_guest h) (rootFit_zero (rootFit_root h) k), rfl, rfl, List.length_set, fun q hq => ?_, fun _ _ _ _ => rfl, fun _ _ => rfl⟩
  have hg := getD_setI m.root k (q / 4) 0
  by_cases e : q / 4 = k
  · rw [if_pos (⟨e.symm, hq⟩ : k = q / 4 ∧ q / 4 < m.root.length)] at hg
    rw [if_pos e]
    unfold lookV
    show (if (m.root.set k 0).getD (q / 4) 0 = 0 then 0 else _) = _
    rw [hg, if_pos rfl]
    unfold bareL at hb
    by_cases hi : q % 4 < es.length
    · have := List.all_eq_true.1 hb _ (List.getElem_mem hi)
      have e0 : es[q % 4] = 0 := by simpa using this
      rw [getD_at hi, e0]
    · simp [List.getD, hi]
  · rw [if_neg (fun x => e x.1.symm)] at hg
    rw [if_neg e]
    unfold lookV
    show (if (m.root.set k 0).getD (q / 4) 0 = 0 then 0 else (tabOf m.slots ((m.root.set k 0).getD (q / 4) 0)).getD (q % 4) 0) = _
    rw [hg]

theorem tabled_laid {m : ImgD} (hC : checkE m = 0) {k : Nat} (hk : k < m.root.length) {es : List Int} (hes : ckE es = 0) (hents : ∀ e ∈ es, tabE m.slots e = true) (hz : TailZ m k es) {M : ImgD} (hM : tabledD m k es = some M) : Laid m M k es ∧ M.slots.length ≤ m.slots.length + 1 := by
  obtain ⟨h, _, _⟩ := checkE_zero hC
  unfold tabledD at hM
  split at hM
  · rename_i hb
    simp at hM
    subst hM
    exact ⟨laid_bare h hb, Nat.le_succ _⟩
  · rename_i hb
    have hb : bareL es = false := by simpa using hb
    split at hM
    · cases hM
    · rename_i h40
      simp at hM
      subst hM
      obtain ⟨t1, tl, t40, tk, hl⟩ := tabN_spec hC hk h40
      refine ⟨laid_ext h hk (ext_lay (shapeE_zero h).2.1 tl t1 t40 tk hes hb hents) hl (by simp [rfZ, tabL]) hz, ?_⟩
      show (layS _ _ _).length ≤ _
      rw [layS_length]; split <;> omega


theorem snap_fit {m : ImgD} (h : shapeE m = 0) {s : SnapD} (hs : s ∈ rootsOf m) : 0 ≤ s.2.1 ∧ s.2.1 ≤ 16 ∧ (s.2.2.length : Int) = (s.2.1 + 3) / 4 ∧ s.2.2.all (rootE m.slots) = true := by
  have hf := List.all_eq_true.1 (shapeE_zero h).2.2.2.2.2.2 s hs
  have hg := List.all_eq_true.1 (shapeE_zero h).2.2.2.2.1 s hs
  unfold rootFit at hf
  unfold guestOK at hg
  simp only [Bool.and_eq_true, decide_eq_true_eq] at hf hg
  exact ⟨hg.1, hg.2, hf.1, hf.2.1⟩
theorem Laid.past_all {m M : ImgD} {k : Nat} {es : List Int} (hL : Laid m M k es) (h : shapeE m = 0) {s : SnapD} (hs : s ∈ m.snaps) : allP (countedD M) s.2.2 s.2.1.toNat = allP m s.2.2 s.2.1.toNat := by
  have hsM : s ∈ rootsOf M := List.mem_cons_of_mem _ (by rw [hL.snaps]; exact hs)
  rw [allP_counted hL.shape hsM]
  obtain ⟨a, b, c, d⟩ := snap_fit h (List.mem_cons_of_mem _ hs : s ∈ rootsOf m)
  unfold allP
  refine List.map_congr_left fun q hq => ?_
  have hq := List.mem_range.1 hq
  rw [hL.past s hs q (by omega)]
  exact hL.page _ (lookV_ent h d q (by omega))
theorem snapIx_get {S : List SnapD} {nm : ByteArray} {j : Nat} (h : snapIx S nm = some j) : S.getD j default ∈ S := by
  have hj := snapIx_some h
  have : S.getD j default = S[j] := by simp [List.getD, hj]
  rw [this]; exact List.getElem_mem hj
theorem Laid.pastV {m M : ImgD} {k : Nat} {es : List Int} (hL : Laid m M k es) (hC : checkE m = 0) (nm : ByteArray) : Go.Proofs.Ytehleeibgkpjmae.pastV (countedD M) nm = Go.Proofs.Ytehleeibgkpjmae.pastV m nm ∧ pastE (countedD M) nm = pastE m nm := by
  have h := checkE_shape hC
  have hsn : (countedD M).snaps = m.snaps := hL.snaps
  unfold Go.Proofs.Ytehleeibgkpjmae.pastV pastE
  rw [if_neg (by rw [counted_right hL.shape]; simp), if_neg (by rw [hC]; simp), if_neg (by rw [counted_right hL.shape]; simp), if_neg (by rw [hC]; simp), hsn]
  cases hsi : snapIx m.snaps nm with
  | none => exact ⟨rfl, rfl⟩
  | some j => exact ⟨hL.past_all h (snapIx_get hsi), rfl⟩
theorem Laid.allV {m M : ImgD} {k : Nat} {es : List Int} (hL : Laid m M k es) : Go.Proofs.Ytehleeibgkpjmae.allV (countedD M) = allP M M.root m.guest.toNat := by
  unfold Go.Proofs.Ytehleeibgkpjmae.allV
  rw [if_pos (counted_right hL.shape)]
  have := allP_counted hL.shape (s := (⟨#[]⟩, M.guest, M.root)) List.mem_cons_self
  show allP (countedD M) M.root M.guest.toNat = _
  rw [this, hL.guest]
theorem Laid.put {m M : ImgD} {n : Nat} {x : Int} (hC : checkE m = 0) (hn : (n : Int) < m.guest) (hL : Laid m M (n / 4) ((tableO m (n / 4)).set (n % 4) x)) : Go.Proofs.Ytehleeibgkpjmae.allV (countedD M) = (Go.Proofs.Ytehleeibgkpjmae.allV m).set n (pageV M.slots x) := by
  have h := checkE_shape hC
  have hr := root_ok h
  have hg := guest_ok h
  rw [hL.allV]
  unfold Go.Proofs.Ytehleeibgkpjmae.allV
  rw [if_pos hC]
  unfold allP
  apply List.ext_getElem
  · simp
  · intro q h1 h2
    have hq : q < m.guest.toNat := by simpa using h1
    rw [List.getElem_set, List.getElem_map, List.getElem_range]
    rw [hL.look q (by omega)]
    have hlen : (tableO m (n / 4)).length = 4 := ckE_len (tableO_ok h (by omega)).1
    by_cases e : n = q
    · subst e
      rw [if_pos rfl, if_pos rfl, set_get (by rw [hlen]; omega)]
    · rw [if_neg e]
      simp only [List.getElem_map, List.getElem_range]
      by_cases e4 : q / 4 = n / 4
      · rw [if_pos e4, getD_setI, if_neg (fun z => e (by omega)), ← e4, ← lookV_tableO]
        exact hL.page _ (lookV_ent h hr.2 q (by omega))
      · rw [if_neg e4]
        exact hL.page _ (lookV_ent h hr.2 q (by omega))


theorem write_laid {m : ImgD} (hC : checkE m = 0) {n : Nat} (hn : (n : Int) < m.guest) (h40 : tabN m (n / 4) ≠ 40) (hd40 : wD m n ≠ 40) {page : ByteArray} (hp : page.size = 4) :
    Laid m (tabSet m (n / 4) (tabN m (n / 4)) (wL m n page) (rfZ (wL m n page))) (n / 4) (wEs m n) ∧ pageV (wL m n page) (wD m n) = page ∧ (wL m n page).length ≤ m.slots.length + 2 := by
  obtain ⟨hx, hl, hz, hk, d1, d40, hkd, hdt⟩ := write_ext hC hn h40 hd40 hp
  refine ⟨laid_ext (checkE_shape hC) hk hx hl (by simp [rfZ]) hz, ?_, ?_⟩
  · unfold pageV
    rw [if_neg (by omega), Int.toNat_natCast]
    have hdl : wD m n ≤ (tabL m (n / 4) (wEs m n)).length := by
      obtain ⟨t1, tl, t40, tk, _⟩ := tabN_spec hC hk h40
      have hle := layS_le (s := ((2, ⟨#[]⟩, tableO m (n / 4)) : SlotD)) tl (slotsE_parts (shapeE_zero (checkE_shape hC)).2.1).2 t40
      have := (grabN_spec (L := tabL m (n / 4) (tableO m (n / 4))) (by unfold tabL; omega)).2.1
      unfold tabL at this ⊢
      rw [layS_length] at this ⊢
      exact this
    unfold wL
    rw [layS_get hdl, if_pos rfl]
  · unfold wL tabL
    rw [layS_length, layS_length]
    split <;> split <;> omega


theorem kd_setP {L : List SlotD} {e : Nat} {page : ByteArray} (hk : kd L e = 1) (j : Nat) : kd (L.set e (1, page, [])) j = kd L j := by
  by_cases h : e = j
  · subst h
    have := kd_lt (L := L) (j := e) (by rw [hk]; decide)
    rw [hk]; unfold kd; simp [List.getD, this]
  · unfold kd; simp [List.getD, h]
theorem tab_page {L : List SlotD} (hs : slotsE L = 0) {e : Nat} (hk : kd L e = 1) : (L.getD e default).2.2 = [] := by
  have he := kd_lt (L := L) (j := e) (by rw [hk]; decide)
  have ok := slotsE_all hs he
  rw [getElem_getD he] at ok
  unfold kd at hk
  unfold okD at ok
  rw [hk, slotOK_1] at ok
  simpa using (of_decide_eq_true ok).2
theorem tab_setP {L : List SlotD} (hs : slotsE L = 0) {e : Nat} {page : ByteArray} (hk : kd L e = 1) (x : Int) : tabOf (L.set e (1, page, [])) x = tabOf L x := by
  unfold tabOf
  by_cases h : e = x.toNat
  · have := kd_lt (L := L) (j := e) (by rw [hk]; decide)
    rw [← h, tab_page hs hk]; simp [List.getD, this]
  · simp [List.getD, h]
theorem setP_same {m : ImgD} {e : Nat} {page : ByteArray} (hC : checkE m = 0) (hk : kd m.slots e = 1) (hp : page.size = 4) : checkE { m with slots := m.slots.set e (1, page, []) } = 0 ∧ ∀ r q, lookV { m with slots := m.slots.set e (1, page, []) } r q = lookV m r q := by
  obtain ⟨h, hcnt, hfree⟩ := checkE_zero hC
  obtain ⟨z1, z2, z3, z4, z5, z6, z7⟩ := shapeE_zero h
  have he := kd_lt (L := m.slots) (j := e) (by rw [hk]; decide)
  have hkd := fun j => kd_setP (page := page) hk j
  have htab := fun x => tab_setP (page := page) z2 hk x
  have hisKd : ∀ x kind, isKd (m.slots.set e (1, page, [])) x kind = isKd m.slots x kind := fun x kind => by
    have := hkd x.toNat
    unfold kd at this
    unfold isKd
    rw [List.length_set, this]
  have htE : ∀ x, tabE (m.slots.set e (1, page, [])) x = tabE m.slots x := fun x => by unfold tabE; rw [hisKd]
  have hrE : ∀ x, rootE (m.slots.set e (1, page, [])) x = rootE m.slots x := fun x => by unfold rootE; rw [hisKd]
  have hs : slotsE (m.slots.set e (1, page, [])) = 0 := by
    refine slotsE_ok (by rw [List.length_set]; exact (slotsE_parts z2).1) (by rw [List.length_set]; exact (slotsE_parts z2).2) (fun j hj => ?_) ?_
    · rw [List.length_set] at hj
      rw [List.getElem_set]
      split
      · exact ok_page hp
      · exact slotsE_all z2 hj
    · rw [kd_getElem (by rw [List.length_set]; exact (slotsE_parts z2).1), hkd]; exact slot0 z2
  have hfit : tabFit (m.slots.set e (1, page, [])) = true := by
    unfold tabFit
    rw [List.all_eq_true]
    intro s hsm
    obtain ⟨j, hj, rfl⟩ := List.getElem_of_mem hsm
    rw [List.length_set] at hj
    rw [List.all_eq_true]
    intro x hx
    rw [htE]
    have e1 := htab (j : Int)
    unfold tabOf at e1
    rw [Int.toNat_natCast] at e1
    rw [getElem_getD (by rw [List.length_set]; exact hj), e1] at hx
    exact List.all_eq_true.1 (tab_all z6 (j : Int)) x (by unfold tabOf; rw [Int.toNat_natCast]; exact hx)
  have hrf : ∀ g r, rootFit (m.slots.set e (1, page, [])) g r = rootFit m.slots g r := fun g r => by
    unfold rootFit lastFit
    rw [show rootE (m.slots.set e (1, page, [])) = rootE m.slots from funext hrE]
    simp only [htab]
  have hsh : shapeE { m with slots := m.slots.set e (1, page, []) } = 0 := by
    unfold shapeE
    rw [if_neg (by show ¬ 3 < m.snaps.length; omega), if_neg (by show ¬ slotsE _ ≠ 0; simpa using hs), if_neg, if_neg (by show ¬ (rootsOf m).all _ = false; rw [z5]; decide), if_neg (by show ¬ tabFit _ = false; rw [hfit]; decide), if_neg]
    · show ¬ ((rootsOf m).all fun s => rootFit (m.slots.set e (1, page, [])) s.2.1 s.2.2) = false
      simp only [hrf]
      rw [z7]; decide
    · rintro (x | x)
      · apply x; show m.refs.length = (m.slots.set e _).length; rw [List.length_set]; exact z3
      · have : namesOK m.snaps = false := x
        rw [z4] at this; cases this
  have hcl : cntL { m with slots := m.slots.set e (1, page, []) } = cntL m := by
    rw [rl_of (cntL_length _), rl_of (cntL_length m)]
    show rl (m.slots.set e _).length _ = _
    rw [List.length_set]
    refine rl_congr fun j hj => ?_
    rw [cntL_get hsh j (by show j < (m.slots.set e _).length; rw [List.length_set]; exact hj), cntL_get h j hj]
    show cntI (m.slots.set e (1, page, [])) (flatR m) j = cntI m.slots (flatR m) j
    unfold cntI
    have : sumT (m.slots.set e (1, page, [])) (flatR m) j = sumT m.slots (flatR m) j := by
      unfold sumT
      rw [List.length_set]
      refine sum_same _ fun q _ => ?_
      unfold toldT
      rw [hkd, htab]
    rw [this]
  refine ⟨?_, fun r q => ?_⟩
  · unfold checkE
    rw [if_neg (by simpa using hsh), hcl]
    show (if cntL m ≠ m.refs then (9 : Int) else _) = 0
    rw [if_neg (by rw [hcnt]; simp), if_pos]
    rw [List.all_eq_true]
    intro j hj
    have hj : j < m.slots.length := by
      have : j < (m.slots.set e (1, page, [])).length := by simpa using hj
      rwa [List.length_set] at this
    have := hfree j hj
    unfold freeAt at this ⊢
    rw [hcl]
    have e1 := hkd j
    unfold kd at e1
    show (((m.slots.set e (1, page, [])).getD j default).1 == 0) == _
    rw [e1]; exact this
  · unfold lookV
    show (if r.getD (q / 4) 0 = 0 then (0 : Int) else (tabOf (m.slots.set e (1, page, [])) (r.getD (q / 4) 0)).getD (q % 4) 0) = _
    rw [htab]
end Go.Proofs.Ytehleeibgkpjmae
/- Snapshots: what comes is right, and how it is read. Plain lists. -/
namespace Go.Proofs.Ytehleeibgkpjmae
open Go.RowKit Go.Shelf
set_option maxRecDepth 20000

abbrev lessN (a b : ByteArray) : Bool := Op.bytesLess a.toList b.toList
theorem less_trans : ∀ {x y z : List UInt8}, Op.bytesLess x y = true → Op.bytesLess y z = true → Op.bytesLess x z = true
  | _, _, [], _, h => by simp [Op.bytesLess] at h
  | _, [], _ :: _, h, _ => by simp [Op.bytesLess] at h
  | [], _ :: _, _ :: _, _, _ => rfl
  | a :: x, b :: y, c :: z, h, k => by
    simp only [Op.bytesLess, Bool.or_eq_true, Bool.and_eq_true, decide_eq_true_eq, beq_iff_eq] at h k ⊢
    rcases h with h | ⟨rfl, h⟩
    · rcases k with k | ⟨rfl, _⟩
      · exact .inl (by rw [UInt8.lt_iff_toNat_lt] at h k ⊢; omega)
      · exact .inl h
    · rcases k with k | ⟨rfl, k⟩
      · exact .inl k
      · exact .inr ⟨rfl, less_trans h k⟩
theorem less_total {x y : List UInt8} (h : Op.bytesLess x y = false) (hne : x ≠ y) : Op.bytesLess y x = true := by
  have := bytesLeq x y
  rw [h, Bool.false_or] at this
  have e : (x == y) = false := by simpa using hne
  rw [e] at this
  simpa using this.symm
theorem less_irr (x : List UInt8) : Op.bytesLess x x = false := by
  have := bytesLeq x x
  simp at this
  cases e : Op.bytesLess x x with
  | false => rfl
  | true => rw [e] at this; simp at this

def NamesP (S : List SnapD) : Prop := (∀ s ∈ S, isNm s.1 = true) ∧ S.Pairwise (fun a b => lessN a.1 b.1 = true)
theorem namesOK_iff (S : List SnapD) : namesOK S = true ↔ NamesP S := by
  unfold namesOK NamesP
  rw [List.all_eq_true]
  constructor
  · intro h
    have hk : ∀ k, k < S.length → nmAt S k = true := fun k hk => h k (by simpa using hk)
    refine ⟨fun s hs => ?_, ?_⟩
    · obtain ⟨j, hj, rfl⟩ := List.getElem_of_mem hs
      have := hk j hj
      unfold nmAt at this
      simp only [Bool.and_eq_true] at this
      have h1 := this.1
      rwa [show S.getD j default = S[j] by simp [List.getD, hj]] at h1
    · rw [List.pairwise_iff_getElem]
      have adj : ∀ i, (hi : i + 1 < S.length) → lessN S[i].1 S[i + 1].1 = true := fun i hi => by
        have := hk (i + 1) hi
        rw [nmAt_at hi (by omega)] at this
        simp only [Bool.and_eq_true] at this
        exact this.2
      have far : ∀ d i, (hd : i + d + 1 < S.length) → lessN (S[i]'(by omega)).1 (S[i + d + 1]).1 = true := by
        intro d
        induction d with
        | zero => intro i hd; exact adj i hd
        | succ d ih => intro i hd; exact less_trans (ih i (by omega)) (adj (i + d + 1) (by omega))
      intro i j hi hj hij
      obtain ⟨d, rfl⟩ : ∃ d, j = i + d + 1 := ⟨j - i - 1, by omega⟩
      exact far d i hj
  · rintro ⟨h1, h2⟩ k hk
    have hk : k < S.length := by simpa using hk
    rw [List.pairwise_iff_getElem] at h2
    rcases Nat.eq_zero_or_pos k with e | e
    · subst e
      rw [nmAt_0 hk]; exact h1 _ (List.getElem_mem hk)
    · rw [nmAt_at hk e, h1 _ (List.getElem_mem hk), Bool.true_and]
      exact h2 (k - 1) k (by omega) hk (by omega)

def insS (S : List SnapD) (s : SnapD) : List SnapD := S.takeWhile (fun x => lessN x.1 s.1) ++ s :: S.dropWhile (fun x => lessN x.1 s.1)
theorem insS_length (S : List SnapD) (s : SnapD) : (insS S s).length = S.length + 1 := by
  unfold insS
  have := congrArg List.length (List.takeWhile_append_dropWhile (p := fun x : SnapD => lessN x.1 s.1) (l := S))
  rw [List.length_append] at this
  rw [List.length_append, List.length_cons]; omega
theorem mem_insS {S : List SnapD} {s x : SnapD} : x ∈ insS S s ↔ x = s ∨ x ∈ S := by
  unfold insS
  have e := List.takeWhile_append_dropWhile (p := fun x : SnapD => lessN x.1 s.1) (l := S)
  constructor
  · intro h
    rcases List.mem_append.1 h with h | h
    · exact .inr (e ▸ List.mem_append_left _ h)
    · rcases List.mem_cons.1 h with h | h
      · exact .inl h
      · exact .inr (e ▸ List.mem_append_right _ h)
  · rintro (rfl | h)
    · exact List.mem_append_right _ List.mem_cons_self
    · rw [← e] at h
      rcases List.mem_append.1 h with h | h
      · exact List.mem_append_left _ h
      · exact List.mem_append_right _ (List.mem_cons_of_mem _ h)
theorem mem_tw {p : SnapD → Bool} : ∀ {l : List SnapD} {x : SnapD}, x ∈ l.takeWhile p → p x = true
  | [], x, h => by cases h
  | a :: l, x, h => by
    rw [List.takeWhile_cons] at h
    split at h
    · rename_i hp
      rcases List.mem_cons.1 h with rfl | h
      · exact hp
      · exact mem_tw h
    · cases h
theorem insS_names {S : List SnapD} {s : SnapD} (h : NamesP S) (hs : isNm s.1 = true) (hne : ∀ x ∈ S, x.1.toList ≠ s.1.toList) : NamesP (insS S s) := by
  refine ⟨fun x hx => ?_, ?_⟩
  · rcases mem_insS.1 hx with rfl | hm
    · exact hs
    · exact h.1 x hm
  · have e := List.takeWhile_append_dropWhile (p := fun x : SnapD => lessN x.1 s.1) (l := S)
    have hp := h.2
    rw [← e, List.pairwise_append] at hp
    have hright : ∀ y ∈ S.dropWhile (fun x => lessN x.1 s.1), lessN s.1 y.1 = true := by
      cases hd : S.dropWhile (fun x => lessN x.1 s.1) with
      | nil => intro y hy; cases hy
      | cons x r =>
        have hx : lessN x.1 s.1 = false := by
          have := List.head?_dropWhile_not (fun x : SnapD => lessN x.1 s.1) S
          rw [hd] at this
          simpa using this
        have hxm : x ∈ S := e ▸ List.mem_append_right _ (by rw [hd]; exact List.mem_cons_self)
        have hsx : lessN s.1 x.1 = true := less_total hx (hne x hxm)
        rw [hd] at hp
        intro y hy
        rcases List.mem_cons.1 hy with rfl | hy
        · exact hsx
        · exact less_trans hsx (List.rel_of_pairwise_cons hp.2.1 hy)
    unfold insS
    rw [List.pairwise_append, List.pairwise_cons]
    refine ⟨hp.1, ⟨hright, hp.2.1⟩, fun a ha b hb => ?_⟩
    rcases List.mem_cons.1 hb with rfl | hb
    · exact mem_tw (p := fun x : SnapD => lessN x.1 b.1) ha
    · exact hp.2.2 a ha b hb

theorem resnap_shape {m : ImgD} (h : shapeE m = 0) {S : List SnapD} (h3 : S.length ≤ 3) (hn : namesOK S = true) (hf : ∀ s ∈ S, guestOK s.2.1 = true ∧ rootFit m.slots s.2.1 s.2.2 = true) : shapeE { m with snaps := S } = 0 := by
  obtain ⟨z1, z2, z3, z4, z5, z6, z7⟩ := shapeE_zero h
  have hgall : (rootsOf { m with snaps := S }).all (fun s => guestOK s.2.1) = true := by
    show (((⟨#[]⟩, m.guest, m.root) : SnapD) :: S).all _ = true
    rw [List.all_cons, List.all_eq_true.2 (fun s hs => (hf s hs).1), Bool.and_true]; exact guestOK_guest h
  have hall : (rootsOf { m with snaps := S }).all (fun s => rootFit m.slots s.2.1 s.2.2) = true := by
    show (((⟨#[]⟩, m.guest, m.root) : SnapD) :: S).all _ = true
    rw [List.all_cons, List.all_eq_true.2 (fun s hs => (hf s hs).2), Bool.and_true]; exact rootFit_root h
  unfold shapeE
  rw [if_neg (by show ¬ 3 < S.length; omega), if_neg (by show ¬ slotsE m.slots ≠ 0; simpa using z2), if_neg, if_neg (by rw [hgall]; decide), if_neg (by show ¬ tabFit m.slots = false; rw [z6]; decide), if_neg (by show ¬ ((rootsOf { m with snaps := S }).all fun s => rootFit m.slots s.2.1 s.2.2) = false; rw [hall]; decide)]
  rintro (e | e)
  · exact e z3
  · have : namesOK S = false := e
    rw [hn] at this; cases this
theorem snap_ok {m : ImgD} (h : shapeE m = 0) {s : SnapD} (hs : s ∈ m.snaps) : guestOK s.2.1 = true ∧ rootFit m.slots s.2.1 s.2.2 = true :=
  ⟨List.all_eq_true.1 (shapeE_zero h).2.2.2.2.1 s (List.mem_cons_of_mem _ hs), List.all_eq_true.1 (shapeE_zero h).2.2.2.2.2.2 s (List.mem_cons_of_mem _ hs)⟩

def createM (m : ImgD) (nm : ByteArray) : ImgD := { m with snaps := insS m.snaps (nm, m.guest, m.root) }
def revertM (m : ImgD) (k : Nat) : ImgD := { m with guest := (m.snaps.getD k default).2.1, root := (m.snaps.getD k default).2.2 }
def deleteM (m : ImgD) (k : Nat) : ImgD := { m with snaps := m.snaps.eraseIdx k }
theorem snapIx_none {S : List SnapD} {nm : ByteArray} (h : snapIx S nm = none) : ∀ x ∈ S, x.1.toList ≠ nm.toList := fun x hx e => by
  unfold snapIx at h
  rw [List.findIdx?_eq_none_iff] at h
  have := h x hx
  simp [e] at this
theorem create_shape {m : ImgD} (h : shapeE m = 0) {nm : ByteArray} (hn : isNm nm = true) (hx : snapIx m.snaps nm = none) (h3 : m.snaps.length < 3) : shapeE (createM m nm) = 0 := by
  refine resnap_shape h (by rw [insS_length]; omega) ((namesOK_iff _).2 (insS_names ((namesOK_iff _).1 (shapeE_zero h).2.2.2.1) hn (snapIx_none hx))) (fun s hs => ?_)
  rcases mem_insS.1 hs with rfl | hs
  · exact ⟨guestOK_guest h, rootFit_root h⟩
  · exact snap_ok h hs
theorem revert_shape {m : ImgD} (h : shapeE m = 0) {k : Nat} (hk : k < m.snaps.length) : shapeE (revertM m k) = 0 := by
  have hm : m.snaps.getD k default ∈ m.snaps := by rw [show m.snaps.getD k default = m.snaps[k] by simp [List.getD, hk]]; exact List.getElem_mem hk
  exact reroot_shape h (snap_ok h hm).1 (snap_ok h hm).2
theorem delete_shape {m : ImgD} (h : shapeE m = 0) (k : Nat) : shapeE (deleteM m k) = 0 := by
  have hsub := List.eraseIdx_sublist m.snaps k
  obtain ⟨n1, n2⟩ := (namesOK_iff _).1 (shapeE_zero h).2.2.2.1
  refine resnap_shape h (Nat.le_trans hsub.length_le (shapeE_zero h).1) ((namesOK_iff _).2 ⟨fun s hs => n1 s (hsub.subset hs), n2.sublist hsub⟩) (fun s hs => snap_ok h (hsub.subset hs))


theorem told_more {m M : ImgD} (h : shapeE m = 0) (hM : shapeE M = 0) (hs : M.slots = m.slots) (hsub : ∀ x ∈ flatR m, x ∈ flatR M) {j : Nat} (hj : j < m.slots.length) (hc : (cntL m).getD j 0 ≠ 0) : (cntL M).getD j 0 ≠ 0 := by
  obtain ⟨j1, hcase⟩ := cnt_told h hj hc
  rcases hcase with ⟨hk, hm⟩ | ⟨hk, k, k1, hkm, hk2, hjm⟩
  · exact (told_root hM (hsub _ hm) j1).2.2
  · exact (told_ent hM (hsub _ hkm) k1 (by rw [hs]; exact hjm) j1).2.2
theorem slots_more {m M : ImgD} (hC : checkE m = 0) (hM : shapeE M = 0) (hs : M.slots = m.slots) (hsub : ∀ x ∈ flatR m, x ∈ flatR M) : (countedD M).slots = m.slots := by
  have h := checkE_shape hC
  have e0 := congrArg ImgD.slots (counted_same hC)
  have e0 : freeUn m.slots (cntL m) = m.slots := e0
  show freeUn M.slots (cntL M) = m.slots
  rw [hs]
  apply List.ext_getElem
  · exact freeUn_length _ _
  · intro j h1 h2
    rw [getElem_getD h1, getElem_getD h2, freeUn_get h2]
    split
    · rename_i hz
      have hz0 : (cntL m).getD j 0 = 0 := Classical.byContradiction fun x => told_more h hM hs hsub h2 x hz
      have := freeUn_gone (L := m.slots) h2 hz0
      rw [e0] at this; exact this.symm
    · rfl
theorem used_fewer (L : List SlotD) (c : List Int) : usedN (freeUn L c) ≤ usedN L := by
  unfold usedN
  have hl : L = (List.range L.length).map (fun j => L.getD j default) := by
    apply List.ext_getElem
    · simp
    · intro j h1 h2; simp [List.getD, h1]
  rw [hl]
  unfold freeUn
  rw [List.length_map, List.length_range, List.countP_map, List.countP_map]
  refine List.countP_mono_left fun j hj => ?_
  have hj := List.mem_range.1 hj
  intro hx
  simp only [Function.comp_apply] at hx ⊢
  split at hx
  · simp [slotZ] at hx
  · simp [List.getD, hj] at hx ⊢; exact hx
theorem flat_create (m : ImgD) (nm : ByteArray) : ∀ x ∈ flatR m, x ∈ flatR (createM m nm) := fun x hx => by
  unfold flatR at hx ⊢
  rw [List.mem_flatMap] at hx ⊢
  obtain ⟨s, hs, hm⟩ := hx
  rcases List.mem_cons.1 hs with rfl | hs
  · exact ⟨_, List.mem_cons_self, hm⟩
  · exact ⟨s, List.mem_cons_of_mem _ (mem_insS.2 (.inr hs)), hm⟩
end Go.Proofs.Ytehleeibgkpjmae
/- The desk with a snapshot less, a snapshot more. -/
namespace Go.Proofs.Ytehleeibgkpjmae
open Go.RowKit Go.Shelf
set_option maxRecDepth 20000
set_option linter.unusedVariables false
set_option linter.unusedSimpArgs false

theorem ext3 {L1 L2 : List Value} {n : Nat} (h1 : L1.length = n * 3) (h2 : L2.length = n * 3) (h : ∀ q, q < n → L1[q * 3]? = L2[q * 3]? ∧ L1[q * 3 + 1]? = L2[q * 3 + 1]? ∧ L1[q * 3 + 2]? = L2[q * 3 + 2]?) : L1 = L2 := by
  apply List.ext_getElem?
  intro p
  by_cases hp : p < n * 3
  · obtain ⟨a, b, c⟩ := h (p / 3) (by omega)
    have : p = p / 3 * 3 ∨ p = p / 3 * 3 + 1 ∨ p = p / 3 * 3 + 2 := by omega
    rcases this with e | e | e <;> rw [e] <;> assumption
  · rw [List.getElem?_eq_none (by omega), List.getElem?_eq_none (by omega)]
def skip (k j : Nat) : Nat := if j < k then j else j + 1
theorem getD_erase (S : List SnapD) (k j : Nat) : (S.eraseIdx k).getD j default = S.getD (skip k j) default := by
  unfold skip
  simp only [List.getD_eq_getElem?_getD, List.getElem?_eraseIdx]
  split <;> rfl
theorem flatN_erase {S : List SnapD} {k : Nat} (hk : k < S.length) (qv : Nat → Value) : flatN (S.eraseIdx k) (fun j => qv (skip k j)) = (flatN S qv).take (k * 3) ++ (flatN S qv).drop ((k + 1) * 3) := by
  have hl := flatN_length S qv
  have he : (S.eraseIdx k).length = S.length - 1 := by rw [List.length_eraseIdx, if_pos hk]
  have ht : ((flatN S qv).take (k * 3)).length = k * 3 := by rw [List.length_take, hl]; omega
  refine ext3 (n := S.length - 1) (by rw [flatN_length, he]) (by rw [List.length_append, List.length_drop, ht, hl]; omega) fun q hq => ?_
  obtain ⟨a, b, c⟩ := flatN_get (S := S.eraseIdx k) (qv := fun j => qv (skip k j)) (j := q) (by omega)
  obtain ⟨a', b', c'⟩ := flatN_get (S := S) (qv := qv) (j := skip k q) (by unfold skip; split <;> omega)
  rw [a, b, c, getD_erase, ← a', ← b', ← c']
  unfold skip
  simp only [List.getElem?_append, List.getElem?_take, List.getElem?_drop, ht]
  by_cases h : q < k
  · rw [if_pos h, if_pos (by omega), if_pos (by omega), if_pos (by omega), if_pos (by omega), if_pos (by omega), if_pos (by omega)]; exact ⟨rfl, rfl, rfl⟩
  · rw [if_neg h, if_neg (by omega), if_neg (by omega), if_neg (by omega)]
    exact ⟨by congr 1; omega, by congr 1; omega, by congr 1; omega⟩
def delVal (val : Nm → Value) (v : Value) (k : Nat) : Nm → Value := fun a => if a.kind = 5 then val (.sr (skip k a.ix)) else if a.kind = 3 then v else val a
def delNm (k : Nat) (a : Nm) : Nm := if a.kind = 5 then .sr (skip k a.ix) else a
theorem delVal_eq {val : Nm → Value} {v : Value} {k : Nat} {a : Nm} (h : a.kind ≠ 3) : delVal val v k a = val (delNm k a) := by
  unfold delVal delNm
  by_cases e : a.kind = 5
  · rw [if_pos e, if_pos e]
  · rw [if_neg e, if_neg e, if_neg h]
theorem delNm_kind (k : Nat) (a : Nm) : (delNm k a).kind = a.kind := by
  unfold delNm
  split
  · rename_i e; rw [e]
  · rfl
theorem delNm_live {m : ImgD} {k : Nat} (hk : k < m.snaps.length) {a : Nm} (h : Live (deleteM m k) a) : Live m (delNm k a) := by
  have he : (m.snaps.eraseIdx k).length = m.snaps.length - 1 := by rw [List.length_eraseIdx, if_pos hk]
  rcases h with ⟨h1, h2⟩ | ⟨h1, h2⟩ | ⟨h1, h2⟩
  · have : a.kind ≠ 5 := by omega
    unfold delNm; rw [if_neg this]; exact .inl ⟨h1, h2⟩
  · have : a.kind ≠ 5 := by omega
    unfold delNm; rw [if_neg this]; exact .inr (.inl ⟨h1, h2⟩)
  · unfold delNm; rw [if_pos h1]
    have h2 : a.ix < (m.snaps.eraseIdx k).length := h2
    exact Live.sr (by unfold skip; split <;> omega)
theorem delNm_inj {k : Nat} {a b : Nm} (h : a ≠ b) : delNm k a ≠ delNm k b := fun e => by
  have hk := congrArg Nm.kind e
  rw [delNm_kind, delNm_kind] at hk
  apply h
  unfold delNm at e
  by_cases h5 : a.kind = 5
  · rw [if_pos h5, if_pos (hk ▸ h5)] at e
    have e := congrArg Nm.ix e
    have e : skip k a.ix = skip k b.ix := e
    have : a.ix = b.ix := by unfold skip at e; split at e <;> split at e <;> omega
    cases a; cases b; simp_all
  · rw [if_neg h5, if_neg (hk ▸ h5)] at e
    exact e

theorem live3 {m : ImgD} {a : Nm} (h : Live m a) (e : a.kind = 3) : a = .snaps := by
  rcases h with ⟨h1, h2⟩ | ⟨h1, h2⟩ | ⟨h1, h2⟩
  · cases a; simp_all
  · omega
  · omega
theorem OI.del {W W' : World} {B k : Nat} {val : Nm → Value} {m : ImgD} {v : Value} (h : OI W B val m) (hk : k < m.snaps.length) (hv : W'.ownsRow B 64 3 v (m.snaps.length - 1) ((flatN m.snaps (fun j => val (.sr j))).take (k * 3) ++ (flatN m.snaps (fun j => val (.sr j))).drop ((k + 1) * 3)))
    (hg : W.grownBy W' (val .snaps).ownBlock) (hb : v.ownBlock = (val .snaps).ownBlock) : OI W' B (delVal val v k) (deleteM m k) := by
  refine ⟨fun a ha => ?_, fun a b ha hb2 hab g hga => ?_⟩
  · by_cases e : a.kind = 3
    · have ea := live3 ha e
      subst ea
      rw [← flatN_erase hk] at hv
      have hl : (deleteM m k).snaps.length = m.snaps.length - 1 := by show (m.snaps.eraseIdx k).length = _; rw [List.length_eraseIdx, if_pos hk]
      show W'.ownsRow B 64 3 v (deleteM m k).snaps.length (flatN (m.snaps.eraseIdx k) (fun j => val (.sr (skip k j))))
      rw [hl]; exact hv
    · have hr := h.row (delNm k a) (delNm_live hk ha)
      have hne : (val (delNm k a)).ownBlock = none ∨ (val (delNm k a)).ownBlock ≠ (val .snaps).ownBlock := by
        cases eq : (val (delNm k a)).ownBlock with
        | none => exact .inl rfl
        | some g => exact .inr (fun x => h.apart (delNm k a) .snaps (delNm_live hk ha) (Live.snaps m) (fun y => e (by rw [← delNm_kind k a, y])) g eq x.symm)
      have hr := hr.kept hg hne
      rw [delVal_eq e]
      have e1 : rowT (delNm k a) = rowT a := by unfold rowT; rw [delNm_kind]
      have e2 : rowS (delNm k a) = rowS a := by unfold rowS; rw [delNm_kind]
      rw [e1, e2] at hr
      rcases ha.cases with rfl | rfl | rfl | rfl | ⟨j, rfl, hj⟩ | ⟨j, rfl, hj⟩
      · exact hr
      · exact hr
      · exact hr
      · exact absurd rfl e
      · exact hr
      · have e3 : rowN (deleteM m k) (.sr j) = rowN m (delNm k (.sr j)) := by
          show ((m.snaps.eraseIdx k).getD j default).2.2.length = (m.snaps.getD (skip k j) default).2.2.length
          rw [getD_erase]
        have e4 : rowV (deleteM m k) (delVal val v k) (.sr j) = rowV m val (delNm k (.sr j)) := by
          show ints ((m.snaps.eraseIdx k).getD j default).2.2 = ints (m.snaps.getD (skip k j) default).2.2
          rw [getD_erase]
        rw [e3, e4]; exact hr
  · by_cases ea : a.kind = 3
    · have ea' := live3 ha ea
      have eb : b.kind ≠ 3 := fun x => hab (ea'.trans (live3 hb2 x).symm)
      subst ea'
      rw [delVal_eq eb]
      exact h.apart .snaps (delNm k b) (Live.snaps m) (delNm_live hk hb2) (fun y => eb (by rw [← delNm_kind k b, ← y])) g (hb.symm.trans hga)
    · rw [delVal_eq ea] at hga
      by_cases eb : b.kind = 3
      · have eb' := live3 hb2 eb
        subst eb'
        intro x
        exact h.apart (delNm k a) .snaps (delNm_live hk ha) (Live.snaps m) (fun y => ea (by rw [← delNm_kind k a, y])) g hga (hb.symm.trans x)
      · rw [delVal_eq eb]
        exact h.apart _ _ (delNm_live hk ha) (delNm_live hk hb2) (delNm_inj hab) g hga

theorem DTo.del {W W' : World} {B D k : Nat} {val : Nm → Value} {m : ImgD} {v : Value} (h : DK W B D val m) (hB : B ≤ W.heap.size) (hk : k < m.snaps.length) (hv : W'.ownsRow B 64 3 v (m.snaps.length - 1) ((flatN m.snaps (fun j => val (.sr j))).take (k * 3) ++ (flatN m.snaps (fun j => val (.sr j))).drop ((k + 1) * 3)))
    (hg : W.grownBy W' (val .snaps).ownBlock) (hb : v.ownBlock = (val .snaps).ownBlock) : DTo W (W'.setCell ⟨D, 4, none⟩ v) B D m val nilV (deleteM m k) (delVal val v k) := by
  have hval : ∀ q, (∀ b, Live m b → (val b).ownBlock ≠ some q) → ∀ a, Live (deleteM m k) a → (delVal val v k a).ownBlock ≠ some q := fun q hq a ha => by
    by_cases e : a.kind = 3
    · have ea := live3 ha e
      subst ea
      show v.ownBlock ≠ some q
      rw [hb]; exact hq .snaps (Live.snaps m)
    · rw [delVal_eq e]; exact hq _ (delNm_live hk ha)
  have hf := hval D h.far
  have hbel : Below B W W' := Below.grown (Below.refl _ _) hg hB (fun q e => ((h.own.row .snaps (Live.snaps m)).lt q e).1)
  refine ⟨⟨(h.own.del hk hv hg hb).far hf, ?_, h.ge, hf⟩, hbel.setCell h.ge _, fun q hq hD _ hm => (Below.heap_setCell W' ⟨D, 4, none⟩ v q hD).trans (hg.block q hq (fun e => hm .snaps (Live.snaps m) e.symm)), fun q _ _ hm => hval q hm⟩
  have hbox := (hg.block D h.lt (fun e => h.far .snaps (Live.snaps m) e.symm)).trans h.box
  exact cells_set hbox 4 v
end Go.Proofs.Ytehleeibgkpjmae
/- slices.Insert of one snapshot into a row of snapshots that is one's own. -/
namespace Go.Proofs.Ytehleeibgkpjmae
open Go.RowKit Go.Shelf Go.Lib
set_option maxRecDepth 20000
set_option linter.unusedVariables false
set_option linter.unusedSimpArgs false

theorem run_copy3 (w : World) (dT sT ty elem : TypeId) (g o dLen dCap : Nat) (a : Addr) (sLen sCap : Nat) (cur : Array Value) (t : TypeId) (cs : List Value)
    (hu : Try.prog.underlying dT = some (.slice elem)) (hs : (Try.prog.info? elem).map (·.size) = some 3)
    (hg : w.heap[g]? = some (.cells cur t (0, 0))) (hn : cs.length = Nat.min sLen dLen * 3)
    (hsrc : ∀ j v, cs[j]? = some v → w.cell? (a.add j) = some v) (hfit : o + cs.length ≤ cur.size) (h1 : ∀ v ∈ cs, v.oneCell' = true) :
    (Builtin.copy_ #[dT, sT] ty #[.slice (some ⟨g, o, none⟩) dLen dCap, .slice (some a) sLen sCap]).run Try.prog w =
      .ok (goInt (Nat.min sLen dLen)) (w.setRow g (cur.toList.take o ++ cs ++ cur.toList.drop (o + cs.length)).toArray) := by
  have hl := run_loadCells_list (P := Try.prog) w a cs hsrc
  have hst := run_storeCells_at Try.prog g o t cs 0 cur w hg (by simpa using hfit) h1
  cases hq : Try.prog.info? elem with
  | none => simp [hq] at hs
  | some i =>
    have hi : i.size = 3 := by simpa [hq] using hs
    simp [Builtin.copy_, run_underlying hu, Builtin.lenOf, Builtin.firstCells, sizeOf, typeInfo, hq, hi, ← hn, hl, hst]

theorem infoSnap3 : (Try.prog.info? 64).map (·.size) = some 3 := by kernel_rfl

def shL (cur : List Value) (n i : Nat) : List Value := cur.take ((i + 1) * 3) ++ (cur.take (n * 3)).drop (i * 3) ++ cur.drop ((i + 1) * 3 + ((cur.take (n * 3)).drop (i * 3)).length)
def inL (L : List Value) (i : Nat) (x : List Value) : List Value := L.take (i * 3) ++ x ++ L.drop (i * 3 + x.length)
theorem shL_length {cur : List Value} {n i c : Nat} (hi : i < n) (hc : n + 1 ≤ c) (h : cur.length = c * 3) : (shL cur n i).length = c * 3 := by
  unfold shL; simp only [List.length_append, List.length_take, List.length_drop, h]; omega
theorem inL_length {L x : List Value} {i c : Nat} (hi : i < c) (h : L.length = c * 3) (hx : x.length = 3) : (inL L i x).length = c * 3 := by
  unfold inL; simp only [List.length_append, List.length_take, List.length_drop, h, hx]; omega
theorem in_sh {cur x : List Value} {n i c : Nat} (hi : i < n) (hc : n + 1 ≤ c) (h : cur.length = c * 3) (hx : x.length = 3) : (inL (shL cur n i) i x).take ((n + 1) * 3) = (cur.take (n * 3)).take (i * 3) ++ x ++ (cur.take (n * 3)).drop (i * 3) := by
  have hl : ((cur.take (n * 3)).drop (i * 3)).length = (n - i) * 3 := by simp only [List.length_take, List.length_drop, h]; omega
  apply List.ext_getElem?
  intro j
  unfold inL shL
  rw [hl]
  simp only [List.getElem?_take, List.getElem?_append, List.getElem?_drop, List.length_append, List.length_take, List.length_drop, h, hx]
  repeat' split
  all_goals first | rfl | omega | (congr 1; omega) | (exfalso; omega) | (rw [List.getElem?_eq_none (by omega)])
set_option maxHeartbeats 4000000 in
theorem ins_shift (g n c i N : Nat) (cur : Array Value) (x0 x1 x2 : Value) (w : World) (hi : i < n) (hroom : n + 1 ≤ c) (hc : c ≤ 9223372036854775807) (hNg : N ≠ g)
    (hg : w.heap[g]? = some (.cells cur 64)) (hsz : cur.size = c * 3) (hN : w.heap[N]? = some (.cells #[x0, x1, x2] 64)) (h1 : ∀ u ∈ cur.toList.take (n * 3), u.oneCell' = true) (h1x : ∀ u ∈ [x0, x1, x2], u.oneCell' = true) :
    Calls Try.prog 34 #[.slice (some ⟨g, 0, none⟩) n c, .int .i64 i, .slice (some ⟨N, 0, none⟩) 1 1] w fun r w' => r = .returned (.slice (some ⟨g, 0, none⟩) (n + 1) c) ∧ w'.heap[g]? = some (.cells (inL (shL cur.toList n i) i [x0, x1, x2]).toArray 64) ∧ w.grownBy w' (some g) := by
  have hz2 : ¬ ((i : Int) = (n : Int)) := by omega
  have hw1 : IntKind.i64.wrap ((i : Int) + 1) = (i : Int) + 1 := by rw [IntKind.wrap_i64]; omega
  have hb1 : (0 : Int) ≤ (i : Int) + 1 := by omega
  have hin : i ≤ n := by omega
  have htn : ((i : Int) + 1).toNat = i + 1 := by omega
  have hb2 : ¬ (c = i + 1) := by omega
  have hb3 : (i : Int) ≤ (n : Int) + 1 := by omega
  have hb4 : ¬ (c = i) := by omega
  have hz3 : ¬ ((c : Int) < (n : Int) + 1) := by omega
  have hov : ∀ lb cb, (callFunc 71 #[.slice (some ⟨N, 0, none⟩) 1 1, .slice (some ⟨g, (i + 1) * 3, none⟩) lb cb]).run Try.prog w = .ok (.value (.bool false)) w := fun lb cb => by
    rw [run_callFunc_extern Try.func71 (by kernel_rfl) (by kernel_rfl) (by kernel_rfl) (e := Extern.SlicesOverlaps.overlaps #[24, 24] #[4]) (by kernel_rfl),
      Lib.run_overlaps_apart w 24 4 64 (by kernel_rfl) 3 (fun w => by kernel_rfl) ⟨N, 0, none⟩ ⟨g, (i + 1) * 3, none⟩ 1 1 lb cb hNg 64 64 3 (c * 3) (by simp [World.shape?, hN]) (by simp [World.shape?, hg, hsz]) (by omega) (by simp [World.frozen?, hN]) (by simp [World.frozen?, hN])]
    rfl
  have hcp1 : ∀ ty dc sc, (Builtin.copy_ #[24, 24] ty #[.slice (some ⟨g, (i + 1) * 3, none⟩) (n - i) dc, .slice (some ⟨g, i * 3, none⟩) (n + 1 - i) sc]).run Try.prog w.drew = .ok (goInt (Nat.min (n + 1 - i) (n - i))) (w.drew.setRow g (shL cur.toList n i).toArray) := fun ty dc sc =>
    run_copy3 w.drew 24 24 ty 64 g ((i + 1) * 3) (n - i) dc ⟨g, i * 3, none⟩ (n + 1 - i) sc cur 64 ((cur.toList.take (n * 3)).drop (i * 3)) (by kernel_rfl) infoSnap3 hg (by simp only [List.length_take, List.length_drop, Array.length_toList, hsz]; simp only [Nat.min_def]; split <;> split <;> omega)
      (fun j v hj => by
        rw [Addr.add_lit]
        rw [List.getElem?_drop, List.getElem?_take] at hj
        split at hj
        · simp only [World.cell?, World.drew]
          rw [hg]
          simpa using hj
        · cases hj)
      (by simp only [List.length_take, List.length_drop, Array.length_toList, hsz]; omega) (fun u hu => h1 u (List.mem_of_mem_drop hu))
  have hW1 : (w.drew.setRow g (shL cur.toList n i).toArray).heap[g]? = some (.cells (shL cur.toList n i).toArray 64) := setRow_heap w.drew g cur _ 64 (0, 0) hg
  have hN1 : (w.drew.setRow g (shL cur.toList n i).toArray).heap[N]? = some (.cells #[x0, x1, x2] 64) := (setRow_other w.drew g N _ hNg).trans hN
  obtain ⟨W1, eW1⟩ : ∃ W1, w.drew.setRow g (shL cur.toList n i).toArray = W1 := ⟨_, rfl⟩
  rw [eW1] at hcp1 hW1 hN1
  have hcp2 : ∀ ty dc, (Builtin.copy_ #[24, 24] ty #[.slice (some ⟨g, i * 3, none⟩) (n + 1 - i) dc, .slice (some ⟨N, 0, none⟩) 1 1]).run Try.prog W1 = .ok (goInt (Nat.min 1 (n + 1 - i))) (W1.setRow g (inL (shL cur.toList n i) i [x0, x1, x2]).toArray) := fun ty dc => by
    have := run_copy3 W1 24 24 ty 64 g (i * 3) (n + 1 - i) dc ⟨N, 0, none⟩ 1 1 (shL cur.toList n i).toArray 64 [x0, x1, x2] (by kernel_rfl) infoSnap3 hW1 (by simp only [List.length_cons, List.length_nil, Nat.min_def]; split <;> omega)
      (fun j v hj => by
        rw [Addr.add_lit]
        simp only [World.cell?]
        rw [hN1]
        simpa using hj)
      (by simp only [List.size_toArray, shL_length hi hroom (show cur.toList.length = c * 3 by rw [Array.length_toList]; exact hsz), List.length_cons, List.length_nil]; omega) h1x
    simpa [inL] using this
  have HH : Hid (w.heap[g]? = some (.cells cur 64) ∧ w.heap[N]? = some (.cells #[x0, x1, x2] 64)) := ⟨hg, hN⟩
  clear hg hN
  have mixed : Try.prog.follows Departure.mixedOrders = true := by kernel_rfl
  go_enter Try.func34, Try.ntmps34
  go_wp2_with (simp only [hov])
  go_region_law_o (refine step_copy_runI rfl _ _ 24 24 rfl _ _ (by simp [Act.eval, Act.put]) (by simp [Act.eval, Act.put]) (hcp1 _ _ _) ?_)
  go_wp2_with (at_builtin; refine wpList_copy_runI _ rfl _ _ 24 24 rfl _ _ rfl rfl (hcp2 _ _) ?_)
  go_ret
  refine ⟨rfl, ?_, ?_⟩
  · exact setRow_heap W1 g _ _ 64 (0, 0) hW1
  · subst eW1
    exact ⟨rfl, rfl, rfl, by simp, fun k _ hk => (setRow_other _ g k _ (fun e => hk (by rw [e]))).trans (setRow_other _ g k _ (fun e => hk (by rw [e])))⟩

def zSnap : Value := .agg #[.string ByteArray.empty, .int .i64 0, .slice none 0 0]
def grL (L xs : List Value) (i : Nat) : List Value := L.take ((i + 1) * 3) ++ xs.drop (i * 3) ++ L.drop ((i + 1) * 3 + (xs.drop (i * 3)).length)
theorem grL_length {L xs : List Value} {n i c : Nat} (hi : i < n) (hc : n + 1 ≤ c) (h : L.length = c * 3) (hx : xs.length = n * 3) : (grL L xs i).length = c * 3 := by
  unfold grL; simp only [List.length_append, List.length_take, List.length_drop, h, hx]; omega
theorem in_gr {xs x Z : List Value} {n i c : Nat} (hi : i < n) (hc : n + 1 ≤ c) (h : xs.length = n * 3) (hZ : i * 3 + Z.length = c * 3) (hx : x.length = 3) : (grL (inL (xs.take (i * 3) ++ Z) i x) xs i).take ((n + 1) * 3) = xs.take (i * 3) ++ x ++ xs.drop (i * 3) := by
  have hl : (xs.drop (i * 3)).length = (n - i) * 3 := by simp only [List.length_drop, h]; omega
  apply List.ext_getElem?
  intro j
  unfold grL inL
  rw [hl]
  simp only [List.getElem?_take, List.getElem?_append, List.getElem?_drop, List.length_append, List.length_take, List.length_drop, h, hx]
  repeat' split
  all_goals first | rfl | omega | (congr 1; omega) | (exfalso; omega) | (rw [List.getElem?_eq_none (by omega)])
set_option maxHeartbeats 4000000 in
theorem ins_grow (g n i N : Nat) (cur : Array Value) (x0 x1 x2 : Value) (w : World) (hi : i < n) (hn2 : n ≤ 1000)
    (hg : w.heap[g]? = some (.cells cur 64)) (hsz : cur.size = n * 3) (hN : w.heap[N]? = some (.cells #[x0, x1, x2] 64)) (h1 : ∀ u ∈ cur.toList, u.oneCell' = true) (h1x : ∀ u ∈ [x0, x1, x2], u.oneCell' = true) :
    Calls Try.prog 34 #[.slice (some ⟨g, 0, none⟩) n n, .int .i64 i, .slice (some ⟨N, 0, none⟩) 1 1] w fun r w' => ∃ G Z, n + 1 ≤ G ∧ G ≤ maxLen ∧ i * 3 + Z.length = G * 3 ∧ r = .returned (.slice (some ⟨w.heap.size, 0, none⟩) (n + 1) G) ∧ w'.heap[w.heap.size]? = some (.cells (grL (inL (cur.toList.take (i * 3) ++ Z) i [x0, x1, x2]) cur.toList i).toArray 64) ∧ w.grownBy w' none := by
  have hz2 : ¬ ((i : Int) = (n : Int)) := by omega
  have hw1 : IntKind.i64.wrap ((i : Int) + 1) = (i : Int) + 1 := by rw [IntKind.wrap_i64]; omega
  have hb1 : (0 : Int) ≤ (i : Int) + 1 := by omega
  have hin : i ≤ n := by omega
  have htn : ((i : Int) + 1).toNat = i + 1 := by omega
  have hb3 : (i : Int) ≤ (n : Int) := by omega
  have hb5 : (i : Int) ≤ (n : Int) + 1 := by omega
  have hb4 : ¬ (n = i) := by omega
  have hz3 : (n : Int) < (n : Int) + 1 := by omega
  have hgw : g < w.heap.size := (Array.getElem?_eq_some_iff.1 hg).1
  have hNw : N < w.heap.size := (Array.getElem?_eq_some_iff.1 hN).1
  obtain ⟨i0, hi0, hz0, hzs, hzb⟩ := info_parts infoSnap
  have hkk : (n : Int) + 1 - (i : Int) = ((n + 1 - i : Nat) : Int) := by omega
  have hik : i + (n + 1 - i) = n + 1 := by omega
  have hold : (Builtin.firstCells i0.size i (.slice (some ⟨g, 0, none⟩) i n)).run Try.prog w.drew = .ok (cur.toList.take (i * 3)).toArray w.drew := by
    rw [hzs]
    exact run_firstCells_some w.drew 3 i ⟨g, 0, none⟩ i n (cur.toList.take (i * 3)) (by rw [List.length_take, Array.length_toList]; omega) (fun j v hj => by
      rw [Addr.add_lit]
      rw [List.getElem?_take] at hj
      split at hj
      · simp only [World.cell?, World.drew]
        rw [hg]
        simpa using hj
      · cases hj)
  have hrz : ∀ ty, (Builtin.append_ #[24, 3] ty #[.slice (some ⟨g, 0, none⟩) i n, .int .i64 ((n : Int) + 1 - (i : Int))]).run Try.prog w =
      .ok (.slice (some ⟨w.heap.size, 0, none⟩) (n + 1) (grownCap w (n + 1) n 64)) (w.drew.alloc (.cells ((cur.toList.take (i * 3)).toArray ++ Builtin.zeroCells zSnap.cells (n + 1 - i) ++ Builtin.zeroCells zSnap.cells (grownCap w (n + 1) n 64 - (n + 1))) 64)) := fun ty => by
    have h := Lib.run_append_grow_zeros w 24 3 ty 64 i0 zSnap .i64 .i64 (by kernel_rfl) (by kernel_rfl) hi0 hz0 (some ⟨g, 0, none⟩) i n (cur.toList.take (i * 3)) hold (n + 1 - i) (by omega) (by omega) (by omega) (by omega) (by rw [hzb]; omega) (by rw [hzb, hik]; exact growslice_fits (by omega) (by omega))
    rw [hik] at h
    rw [hkk]
    exact h
  have hGn : n + 1 ≤ grownCap w (n + 1) n 64 := grownCap_ge w _ _ _
  have hGm : grownCap w (n + 1) n 64 ≤ maxLen := grownCap_le_maxLen w _ _ _ (by unfold maxLen; omega)
  obtain ⟨G, hG⟩ : ∃ G, grownCap w (n + 1) n 64 = G := ⟨_, rfl⟩
  rw [hG] at hrz hGn hGm
  have hG63 : G ≤ 9223372036854775807 := by unfold maxLen at hGm; omega
  obtain ⟨Z, hZ⟩ : ∃ Z : List Value, (Builtin.zeroCells zSnap.cells (n + 1 - i) ++ Builtin.zeroCells zSnap.cells (G - (n + 1))).toList = Z := ⟨_, rfl⟩
  have hZl : i * 3 + Z.length = G * 3 := by
    rw [← hZ, Array.length_toList, Array.size_append, size_zeroCells, size_zeroCells, show zSnap.cells.size = 3 by rfl]; omega
  have hR : (cur.toList.take (i * 3)).toArray ++ Builtin.zeroCells zSnap.cells (n + 1 - i) ++ Builtin.zeroCells zSnap.cells (G - (n + 1)) = (cur.toList.take (i * 3) ++ Z).toArray := by
    rw [← hZ]; apply Array.toList_inj.1; simp
  rw [hR] at hrz
  have hLl : (cur.toList.take (i * 3) ++ Z).length = G * 3 := by rw [List.length_append, List.length_take, Array.length_toList]; omega
  obtain ⟨L0, hL0⟩ : ∃ L0, cur.toList.take (i * 3) ++ Z = L0 := ⟨_, rfl⟩
  rw [hL0] at hrz hLl
  obtain ⟨W1, eW1⟩ : ∃ W1, w.drew.alloc (.cells L0.toArray 64) = W1 := ⟨_, rfl⟩
  have hW1 : W1.heap[w.heap.size]? = some (.cells L0.toArray 64) := by rw [← eW1]; exact World.alloc_heap_new w.drew _
  have hold1 : ∀ k, k < w.heap.size → W1.heap[k]? = w.heap[k]? := fun k hk => by
    rw [← eW1]; exact ((Below.refl w.drew.heap.size w.drew).alloc (Nat.le_refl _) (.cells L0.toArray 64)).block k hk
  rw [eW1] at hrz
  have hN1 := (hold1 N hNw).trans hN
  have hcp2 : ∀ ty dc, (Builtin.copy_ #[24, 24] ty #[.slice (some ⟨w.heap.size, i * 3, none⟩) (n + 1 - i) dc, .slice (some ⟨N, 0, none⟩) 1 1]).run Try.prog W1 = .ok (goInt (Nat.min 1 (n + 1 - i))) (W1.setRow w.heap.size (inL L0 i [x0, x1, x2]).toArray) := fun ty dc => by
    have := run_copy3 W1 24 24 ty 64 w.heap.size (i * 3) (n + 1 - i) dc ⟨N, 0, none⟩ 1 1 L0.toArray 64 [x0, x1, x2] (by kernel_rfl) infoSnap3 hW1 (by simp only [List.length_cons, List.length_nil, Nat.min_def]; split <;> omega)
      (fun j v hj => by
        rw [Addr.add_lit]
        simp only [World.cell?]
        rw [hN1]
        simpa using hj)
      (by simp only [List.size_toArray, hLl, List.length_cons, List.length_nil]; omega) h1x
    simpa [inL] using this
  obtain ⟨W2, eW2⟩ : ∃ W2, W1.setRow w.heap.size (inL L0 i [x0, x1, x2]).toArray = W2 := ⟨_, rfl⟩
  have hW2 : W2.heap[w.heap.size]? = some (.cells (inL L0 i [x0, x1, x2]).toArray 64) := by rw [← eW2]; exact setRow_heap W1 _ _ _ 64 (0, 0) hW1
  have hold2 : ∀ k, k < w.heap.size → W2.heap[k]? = w.heap[k]? := fun k hk => by
    rw [← eW2]; exact (setRow_other W1 _ k _ (by omega)).trans (hold1 k hk)
  rw [eW2] at hcp2
  have hg2 := (hold2 g hgw).trans hg
  have hil : (inL L0 i [x0, x1, x2]).length = G * 3 := inL_length (by omega) hLl rfl
  have hcp1 : ∀ ty dc sc, (Builtin.copy_ #[24, 24] ty #[.slice (some ⟨w.heap.size, (i + 1) * 3, none⟩) (n - i) dc, .slice (some ⟨g, i * 3, none⟩) (n - i) sc]).run Try.prog W2.drew = .ok (goInt (Nat.min (n - i) (n - i))) (W2.drew.setRow w.heap.size (grL (inL L0 i [x0, x1, x2]) cur.toList i).toArray) := fun ty dc sc =>
    run_copy3 W2.drew 24 24 ty 64 w.heap.size ((i + 1) * 3) (n - i) dc ⟨g, i * 3, none⟩ (n - i) sc (inL L0 i [x0, x1, x2]).toArray 64 (cur.toList.drop (i * 3)) (by kernel_rfl) infoSnap3 hW2 (by simp only [List.length_drop, Array.length_toList, hsz]; simp only [Nat.min_def]; split <;> omega)
      (fun j v hj => by
        rw [Addr.add_lit]
        rw [List.getElem?_drop] at hj
        simp only [World.cell?, World.drew]
        rw [hg2]
        simpa using hj)
      (by simp only [List.length_drop, Array.length_toList, hsz, List.size_toArray, hil]; omega) (fun u hu => h1 u (List.mem_of_mem_drop hu))
  have hend : W2.drew.heap[w.heap.size]? = some (.cells (inL L0 i [x0, x1, x2]).toArray 64) := hW2
  have hGi : ¬ (G = i) := by omega
  have hGim : ¬ (G = i + 1) := by omega
  have HE : Hid (i * 3 + Z.length = G * 3 ∧ cur.toList.take (i * 3) ++ Z = L0 ∧ n + 1 ≤ G ∧ G ≤ maxLen) := ⟨hZl, hL0, hGn, hGm⟩
  have HG : Hid (w.grownBy W2 none) := by
    refine ⟨?_, ?_, ?_, ?_, fun k hk _ => hold2 k hk⟩ <;> rw [← eW2, ← eW1]
    · rfl
    · rfl
    · rfl
    · simp
  clear hg hN hkk hik hold hG hR hZ hZl hL0 hGm hW1 hold1 hN1 hW2 hold2 hg2 hil hLl h1 h1x hsz hi0 hz0 hzs hzb eW1 eW2
  have mixed : Try.prog.follows Departure.mixedOrders = true := by kernel_rfl
  go_enter Try.func34, Try.ntmps34
  go_wp2_with (first
    | (at_builtin; refine Lib.wpList_append_run _ rfl _ _ _ _ rfl _ _ rfl rfl _ _ (hrz _) ?_)
    | (at_builtin; refine wpList_copy_runI _ rfl _ _ 24 24 rfl _ _ rfl rfl (hcp2 _ _) ?_))
  go_region_law_o (refine step_copy_runI rfl _ _ 24 24 rfl _ _ (by simp [Act.eval, Act.put]) (by simp [Act.eval, Act.put]) (hcp1 _ _ _) ?_)
  go_wp2
  go_ret
  refine ⟨G, Z, HE.out.2.2.1, HE.out.2.2.2, HE.out.1, rfl, ?_, ?_⟩
  · rw [HE.out.2.1]; exact setRow_heap W2.drew _ _ _ 64 (0, 0) hend
  · exact ⟨HG.out.os, HG.out.tape, HG.out.output, by simpa using HG.out.size, fun k hk _ => (setRow_other W2.drew _ k _ (by omega)).trans (HG.out.block k hk (by simp))⟩

set_option maxHeartbeats 4000000 in
theorem ins_end (B n N : Nat) (v : Value) (xs : List Value) (x0 x1 x2 : Value) (w : World) (hB : B ≤ w.heap.size) (hn2 : n ≤ 1000)
    (h : w.ownsRow B 64 3 v n xs) (hN : w.heap[N]? = some (.cells #[x0, x1, x2] 64)) (hNv : v.ownBlock ≠ some N) (h1x : ∀ u ∈ [x0, x1, x2], u.oneCell' = true) :
    Calls Try.prog 34 #[v, .int .i64 n, .slice (some ⟨N, 0, none⟩) 1 1] w fun r w' => ∃ v', r = .returned v' ∧ w'.ownsRow B 64 3 v' (n + 1) (xs ++ [x0, x1, x2]) ∧ w.grownBy w' v.ownBlock ∧ (v'.ownBlock = v.ownBlock ∨ v'.ownBlock = some w.heap.size) := by
  obtain ⟨i0, hi0, hz0, hzs, hzb⟩ := info_parts infoSnap
  have hrun : ∀ ty, ∃ v' w', (Builtin.append_ #[24, 24] ty #[v, .slice (some ⟨N, 0, none⟩) 1 1]).run Try.prog w = .ok v' w' ∧ w'.ownsRow B 64 3 v' (n + 1) (xs ++ [x0, x1, x2]) ∧ w.grownBy w' v.ownBlock ∧ (v'.ownBlock = v.ownBlock ∨ v'.ownBlock = some w.heap.size) := fun ty => by
    obtain ⟨v', w', hr, g2, g3, _, g5⟩ := run_append_own_at (P := Try.prog) w B 24 ty 64 i0 _ 3 48 (by kernel_rfl) hi0 hz0 hzs hzb (by rfl) (by decide) v n xs h ⟨N, 0, none⟩ 1 1 [x0, x1, x2] rfl (fun j u hj => by
      rw [Addr.add_lit]
      simp only [World.cell?]
      rw [hN]
      simpa using hj) h1x (by unfold maxLen; omega) (by omega) hB
    exact ⟨v', w', hr, g2, g3, g5⟩
  obtain ⟨v', w', hr, k1, k2, k3⟩ := hrun 24
  have HK : Hid (w'.ownsRow B 64 3 v' (n + 1) (xs ++ [x0, x1, x2]) ∧ w.grownBy w' v.ownBlock ∧ (v'.ownBlock = v.ownBlock ∨ v'.ownBlock = some w.heap.size)) := ⟨k1, k2, k3⟩
  rcases row_form h with ⟨e1, e2⟩ | ⟨g, c, e1, hgB, e2⟩
  · subst e1 e2
    clear h hN h1x hrun k1 k2 k3
    go_enter Try.func34, Try.ntmps34
    go_wp2_with (at_builtin; refine Lib.wpList_append_run _ rfl _ _ _ _ rfl _ _ rfl rfl _ _ hr ?_)
    go_ret
    exact ⟨v', rfl, HK.out⟩
  · have hnc : n ≤ c := by
      rcases h.2 with ⟨rfl, _⟩ | ⟨g', c', cur, e, _, _, hh, _⟩
      · cases e1
      · rw [e1] at e; cases e; exact hh
    subst e1
    clear h hN h1x hrun k1 k2 k3
    go_enter Try.func34, Try.ntmps34
    go_wp2_with (at_builtin; refine Lib.wpList_append_run _ rfl _ _ _ _ rfl _ _ rfl rfl _ _ hr ?_)
    all_goals (go_ret; exact ⟨v', rfl, HK.out⟩)

theorem insert_is (B n i N : Nat) (v : Value) (xs : List Value) (x0 x1 x2 : Value) (w : World) (hB : B ≤ w.heap.size) (hn2 : n ≤ 1000) (hi : i ≤ n)
    (h : w.ownsRow B 64 3 v n xs) (h1 : ∀ u ∈ xs, u.oneCell' = true) (hN : w.heap[N]? = some (.cells #[x0, x1, x2] 64)) (hNv : v.ownBlock ≠ some N) (h1x : ∀ u ∈ [x0, x1, x2], u.oneCell' = true) :
    Calls Try.prog 34 #[v, .int .i64 i, .slice (some ⟨N, 0, none⟩) 1 1] w fun r w' => ∃ v', r = .returned v' ∧ w'.ownsRow B 64 3 v' (n + 1) (xs.take (i * 3) ++ [x0, x1, x2] ++ xs.drop (i * 3)) ∧ w.grownBy w' v.ownBlock ∧ (v'.ownBlock = v.ownBlock ∨ v'.ownBlock = some w.heap.size) := by
  have hl := h.1
  rcases Nat.lt_or_ge i n with hin | hin
  · rcases h.2 with ⟨_, e⟩ | ⟨g, c, cur, rfl, hgB, hg, hnc, hcm, hsz, htk⟩
    · omega
    · have hNg : N ≠ g := fun e => hNv (by rw [e]; rfl)
      have hcl : cur.toList.length = c * 3 := by rw [Array.length_toList]; exact hsz
      rcases Nat.lt_or_ge c (n + 1) with hc | hc
      · have e : c = n := by omega
        subst e
        have hxs : cur.toList = xs := by rw [← htk, List.take_of_length_le (by omega)]
        refine (ins_grow g c i N cur x0 x1 x2 w hin hn2 hg hsz hN (by rw [hxs]; exact h1) h1x).mono ?_
        rintro r w' ⟨G, Z, g1, g2, g3, rfl, g4, g5⟩
        rw [hxs] at g4
        refine ⟨_, rfl, ⟨?_, .inr ⟨w.heap.size, G, _, rfl, hB, g4, g1, g2, ?_, ?_⟩⟩, ⟨g5.os, g5.tape, g5.output, g5.size, fun k hk _ => g5.block k hk (by simp)⟩, .inr rfl⟩
        · simp only [List.length_append, List.length_take, List.length_drop, List.length_cons, List.length_nil, hl]; omega
        · rw [List.size_toArray]
          exact grL_length hin g1 (inL_length (by omega) (by rw [List.length_append, List.length_take, hl]; omega) rfl) hl
        · rw [List.toList_toArray]
          exact in_gr hin g1 hl g3 rfl
      · refine (ins_shift g n c i N cur x0 x1 x2 w hin hc (by unfold maxLen at hcm; omega) hNg hg hsz hN (by rw [htk]; exact h1) h1x).mono ?_
        rintro r w' ⟨rfl, g4, g5⟩
        refine ⟨_, rfl, ⟨?_, .inr ⟨g, c, _, rfl, hgB, g4, hc, hcm, ?_, ?_⟩⟩, g5, .inl rfl⟩
        · simp only [List.length_append, List.length_take, List.length_drop, List.length_cons, List.length_nil, hl]; omega
        · rw [List.size_toArray]
          exact inL_length (by omega) (shL_length hin hc hcl) rfl
        · rw [List.toList_toArray, ← htk]
          exact in_sh hin hc hcl rfl
  · have e : i = n := by omega
    subst e
    rw [List.take_of_length_le (by omega), List.drop_of_length_le (by omega), List.append_nil]
    exact ins_end B i N v xs x0 x1 x2 w hB hn2 h hN hNv h1x
end Go.Proofs.Ytehleeibgkpjmae
