/- Texts joined: WrP, WrQ, Strs, FlPlain, WrR, WrA, WrC0, WrG, WrH. -/
import Derived.Test.YtehleeibgkpjmadWritesOrderJ3
import Derived.Test.YtehleeibgkpjmadWritesOrderJ1
/- Writing, wiping, punching: what the document's answer is, and that it has the form. Plain lists. -/
namespace Go.Proofs.Ytehleeibgkpjmad
open Go.RowKit Go.Shelf
set_option maxRecDepth 20000

/-! ### The slot that is grabbed -/
def grabF (L : List SlotD) : Nat → Nat → Nat
  | 0, j => j
  | f + 1, j => if j < L.length ∧ kd L j ≠ 0 then grabF L f (j + 1) else j
def grabN (L : List SlotD) : Nat := grabF L L.length 1
theorem grabF_spec (L : List SlotD) : ∀ (f j : Nat), L.length ≤ j + f → j ≤ L.length → j ≤ grabF L f j ∧ grabF L f j ≤ L.length ∧ (∀ i, j ≤ i → i < grabF L f j → kd L i ≠ 0) ∧ (grabF L f j < L.length → kd L (grabF L f j) = 0)
  | 0, j, h, hj => ⟨Nat.le_refl _, hj, fun i h1 h2 => by simp [grabF] at h2; omega, fun h2 => by simp [grabF] at h2; omega⟩
  | f + 1, j, h, hj => by
    unfold grabF
    by_cases c : j < L.length ∧ kd L j ≠ 0
    · rw [if_pos c]
      obtain ⟨a, b, d, e⟩ := grabF_spec L f (j + 1) (by omega) (by omega)
      refine ⟨by omega, b, fun i h1 h2 => ?_, e⟩
      by_cases ei : i = j
      · subst ei; exact c.2
      · exact d i (by omega) h2
    · rw [if_neg c]
      refine ⟨Nat.le_refl _, hj, fun i h1 h2 => by omega, fun h2 => ?_⟩
      exact Classical.byContradiction fun x => c ⟨h2, x⟩
theorem kd_getElem {L : List SlotD} {j : Nat} (h : j < L.length) : L[j].1 = kd L j := by unfold kd; simp [List.getD, h]
theorem grabN_spec {L : List SlotD} (h1 : 1 ≤ L.length) : 1 ≤ grabN L ∧ grabN L ≤ L.length ∧ (∀ i, 1 ≤ i → i < grabN L → kd L i ≠ 0) ∧ kd L (grabN L) = 0 := by
  obtain ⟨a, b, c, d⟩ := grabF_spec L L.length 1 (by omega) h1
  refine ⟨a, b, c, ?_⟩
  rcases Nat.lt_or_ge (grabN L) L.length with h | h
  · exact d h
  · exact Classical.byContradiction fun x => by have := kd_lt x; omega
theorem grabN_at {L : List SlotD} (h1 : 1 ≤ L.length) : GrabAt L (grabN L) := by
  obtain ⟨a, b, c, d⟩ := grabN_spec h1
  exact ⟨a, b, fun j hj h1 h2 => by rw [kd_getElem hj]; exact c j h1 h2, fun h => by rw [kd_getElem h]; exact d⟩
theorem grabN_le40 {L : List SlotD} (h : slotsE L = 0) : grabN L ≤ 40 := by
  have := slotsE_parts h; have := grabN_spec this.1; omega

/-! ### A slot that is laid -/
def layS (L : List SlotD) (n : Nat) (s : SlotD) : List SlotD := if n = L.length then L ++ [s] else L.set n s
theorem layS_length {L : List SlotD} {n : Nat} {s : SlotD} : (layS L n s).length = if n = L.length then L.length + 1 else L.length := by
  unfold layS; split <;> simp
theorem layS_get {L : List SlotD} {n : Nat} {s : SlotD} (hn : n ≤ L.length) (j : Nat) : (layS L n s).getD j default = if j = n then s else L.getD j default := by
  unfold layS
  by_cases e : n = L.length
  · rw [if_pos e]
    subst e
    by_cases ej : j = L.length
    · subst ej; rw [if_pos rfl]; simp [List.getD]
    · rw [if_neg ej]
      by_cases hj : j < L.length
      · simp [List.getD, List.getElem?_append, hj]
      · have a : L.getD j default = default := by simp [List.getD, hj]
        have b : (L ++ [s]).getD j default = default := by
          have : ¬ j < (L ++ [s]).length := by simp; omega
          unfold List.getD
          rw [List.getElem?_eq_none (by omega)]; rfl
        rw [a, b]
  · rw [if_neg e]
    by_cases ej : j = n
    · subst ej; rw [if_pos rfl]; simp [List.getD, show j < L.length by omega]
    · rw [if_neg ej]; simp [List.getD, Ne.symm ej]
theorem layS_kd {L : List SlotD} {n : Nat} {s : SlotD} (hn : n ≤ L.length) (j : Nat) : kd (layS L n s) j = if j = n then s.1 else kd L j := by
  unfold kd; rw [layS_get hn]; split <;> rfl
theorem layS_le {L : List SlotD} {n : Nat} {s : SlotD} (hn : n ≤ L.length) (h40 : L.length ≤ 40) (hn40 : n < 40) : (layS L n s).length ≤ 40 ∧ L.length ≤ (layS L n s).length ∧ n < (layS L n s).length := by
  rw [layS_length]; split <;> omega

theorem ok_tab {es : List Int} (hes : ckE es = 0) (hb : bareL es = false) : okD (2, ⟨#[]⟩, es) = true := by
  have : bareE es = false := by unfold bareE; rw [if_pos hes, hb]
  show slotOK 2 ⟨#[]⟩ es = true
  rw [slotOK_2]
  exact decide_eq_true ⟨hes, this, rfl⟩
theorem ok_page {page : ByteArray} (h : page.size = 4) : okD (1, page, []) = true := by
  show slotOK 1 page [] = true
  unfold slotOK
  rw [if_neg (by decide), if_pos rfl]
  exact decide_eq_true ⟨h, rfl⟩
/-- A table laid at t. -/
theorem ext_lay {L : List SlotD} {t : Nat} {es : List Int} (h0 : slotsE L = 0) (ht : t ≤ L.length) (t1 : 1 ≤ t) (t40 : t < 40) (hk : kd L t = 0 ∨ kd L t = 2) (hes : ckE es = 0) (hb : bareL es = false) (hents : ∀ e ∈ es, tabE L e = true) : Ext L (layS L t (2, ⟨#[]⟩, es)) t es := by
  have hp := slotsE_parts h0
  have hle := layS_le (s := (2, ⟨#[]⟩, es)) ht hp.2 t40
  have hpg : kd L t ≠ 1 := by rcases hk with e | e <;> rw [e] <;> decide
  refine ⟨hle.1, fun j hj _ => by rw [layS_get ht, if_neg hj], by rw [layS_get ht, if_pos rfl], hpg, fun j hj => ?_, ?_, fun j hj hk2 => ?_, fun e he => ?_⟩
  · rw [layS_get ht]
    by_cases ej : j = t
    · rw [if_pos ej]; exact ok_tab hes hb
    · rw [if_neg ej]
      have hjl : j < L.length := by rw [layS_length] at hj; split at hj <;> omega
      rw [← getElem_getD hjl]; exact slotsE_all h0 hjl
  · rw [layS_kd ht, if_neg (by omega)]; exact slot0 h0
  · rw [layS_kd ht, if_neg hj] at hk2; exact hk2
  · rcases tabE_cases (hents e he) with e0 | e1 | ⟨j, rfl, hj, hkj⟩
    · rw [e0]; rfl
    · rw [e1]; rfl
    · have j1 : 1 ≤ j := by
        rcases Nat.eq_zero_or_pos j with e | e
        · subst e; rw [slot0 h0] at hkj; simp at hkj
        · exact e
      have hjt : j ≠ t := fun e => hpg (by rw [← e]; exact hkj)
      rw [tabE_x (by omega) (by omega)]
      exact isKd_of (by omega) (by rw [layS_kd ht, if_neg hjt]; exact hkj)
/-- A table laid at t, a page at d. -/
theorem ext_write {L : List SlotD} {t d : Nat} {es : List Int} {page : ByteArray} (h0 : slotsE L = 0) (ht : t ≤ L.length) (t1 : 1 ≤ t) (t40 : t < 40) (hk : kd L t = 0 ∨ kd L t = 2) (hes : ckE es = 0) (hb : bareL es = false)
    (hd : d ≤ (layS L t (2, ⟨#[]⟩, es)).length) (d1 : 1 ≤ d) (d40 : d < 40) (hdt : d ≠ t) (hkd : kd L d = 0) (hp4 : page.size = 4) (hents : ∀ e ∈ es, tabE L e = true ∨ e = (d : Int)) : Ext L (layS (layS L t (2, ⟨#[]⟩, es)) d (1, page, [])) t es := by
  have hp := slotsE_parts h0
  have hle := layS_le (s := (2, ⟨#[]⟩, es)) ht hp.2 t40
  have hle2 := layS_le (s := ((1, page, []) : SlotD)) hd hle.1 d40
  have hpg : kd L t ≠ 1 := by rcases hk with e | e <;> rw [e] <;> decide
  refine ⟨hle2.1, fun j hj hkj => ?_, ?_, hpg, fun j hj => ?_, ?_, fun j hj hk2 => ?_, fun e he => ?_⟩
  · have hjd : j ≠ d := fun e => hkj (by rw [e]; exact hkd)
    rw [layS_get hd, if_neg hjd, layS_get ht, if_neg hj]
  · rw [layS_get hd, if_neg (fun e => hdt e.symm), layS_get ht, if_pos rfl]
  · rw [layS_get hd]
    by_cases ed : j = d
    · rw [if_pos ed]; exact ok_page hp4
    · rw [if_neg ed, layS_get ht]
      by_cases ej : j = t
      · rw [if_pos ej]; exact ok_tab hes hb
      · rw [if_neg ej]
        have hjl : j < L.length := by
          rw [layS_length] at hj
          rw [layS_length] at hj hd
          split at hj <;> split at hj <;> split at hd <;> omega
        rw [← getElem_getD hjl]; exact slotsE_all h0 hjl
  · rw [layS_kd hd, if_neg (by omega), layS_kd ht, if_neg (by omega)]; exact slot0 h0
  · rw [layS_kd hd] at hk2
    by_cases ed : j = d
    · rw [if_pos ed] at hk2; simp at hk2
    · rw [if_neg ed, layS_kd ht, if_neg hj] at hk2; exact hk2
  · rcases hents e he with hE | hE
    · rcases tabE_cases hE with e0 | e1 | ⟨j, rfl, hj, hkj⟩
      · rw [e0]; rfl
      · rw [e1]; rfl
      · have j1 : 1 ≤ j := by
          rcases Nat.eq_zero_or_pos j with e | e
          · subst e; rw [slot0 h0] at hkj; simp at hkj
          · exact e
        have hjt : j ≠ t := fun e => hpg (by rw [← e]; exact hkj)
        have hjd : j ≠ d := fun e => by rw [e, hkd] at hkj; simp at hkj
        rw [tabE_x (by omega) (by omega)]
        exact isKd_of (by omega) (by rw [layS_kd hd, if_neg hjd, layS_kd ht, if_neg hjt]; exact hkj)
    · rw [hE, tabE_x (by omega) (by omega)]
      exact isKd_of hle2.2.2 (by rw [layS_kd hd, if_pos rfl])

/-! ### What is told once -/
theorem count_two {t : Int} : ∀ (l : List Int) (i k : Nat), i < k → k < l.length → l.getD i 0 = t → l.getD k 0 = t → 2 ≤ l.count t
  | [], i, k, _, hk, _, _ => absurd hk (by simp)
  | a :: l, 0, k + 1, _, hk, h1, h2 => by
    have h1 : a = t := by simpa using h1
    have h2 : l.getD k 0 = t := by simpa using h2
    have hk : k < l.length := by simpa using hk
    have : t ∈ l := by rw [← h2, getD_at hk]; exact List.getElem_mem hk
    have := List.count_pos_iff.2 this
    rw [List.count_cons, h1]; simp; omega
  | a :: l, i + 1, k + 1, hik, hk, h1, h2 => by
    have := count_two l i k (by omega) (by simpa using hk) (by simpa using h1) (by simpa using h2)
    rw [List.count_cons]; omega
theorem flatR_app (m : ImgD) : flatR m = m.root ++ m.snaps.flatMap (fun s => s.2.2) := rfl
theorem lone_one {m : ImgD} {k t : Nat} (hk : k < m.root.length) (ht : m.root.getD k 0 = (t : Int)) (hc : (flatR m).count (t : Int) = 1) : Lone m k t := by
  rw [flatR_app, List.count_append] at hc
  have hmem : (t : Int) ∈ m.root := by rw [← ht, getD_at hk]; exact List.getElem_mem hk
  have h1 := List.count_pos_iff.2 hmem
  refine ⟨fun i hi hne e => ?_, fun s hs hm => ?_⟩
  · have : 2 ≤ m.root.count (t : Int) := by
      rcases Nat.lt_or_ge i k with h | h
      · exact count_two m.root i k h hk e ht
      · exact count_two m.root k i (by omega) hi ht e
    omega
  · have : (t : Int) ∈ m.snaps.flatMap (fun s => s.2.2) := by rw [List.mem_flatMap]; exact ⟨s, hs, hm⟩
    have := List.count_pos_iff.2 this
    omega
theorem lone_free {m : ImgD} {k t : Nat} (h : shapeE m = 0) (t1 : 1 ≤ t) (ht : kd m.slots t = 0) : Lone m k t := by
  have hno : (t : Int) ∉ flatR m := fun hm => by have := (told_root h hm t1).2.1; rw [ht] at this; simp at this
  rw [flatR_app] at hno
  refine ⟨fun i hi _ e => hno (List.mem_append_left _ (by rw [← e, getD_at hi]; exact List.getElem_mem hi)), fun s hs hm => hno (List.mem_append_right _ (by rw [List.mem_flatMap]; exact ⟨s, hs, hm⟩))⟩

/-! ### The table of an entry of Root, and where it is laid -/
def tableO (m : ImgD) (k : Nat) : List Int := if m.root.getD k 0 = 0 then [0, 0, 0, 0] else tabOf m.slots (m.root.getD k 0)
def inPl (m : ImgD) (k : Nat) : Bool := m.root.getD k 0 != 0 && m.refs.getD (m.root.getD k 0).toNat 0 == 1
def tabN (m : ImgD) (k : Nat) : Nat := if inPl m k = true then (m.root.getD k 0).toNat else grabN m.slots
theorem tableO_ok {m : ImgD} (h : shapeE m = 0) {k : Nat} (hk : k < m.root.length) : ckE (tableO m k) = 0 ∧ ∀ e ∈ tableO m k, tabE m.slots e = true := by
  have hr := root_ok h
  unfold tableO
  by_cases hz : m.root.getD k 0 = 0
  · rw [if_pos hz]
    refine ⟨by decide, fun e he => ?_⟩
    have : e = 0 := by simpa using he
    rw [this]; rfl
  · rw [if_neg hz]
    have hE := all_at hr.2 hk
    rw [rootE_x hz] at hE
    obtain ⟨j, e, hj, hk2⟩ := isKd_yes hE
    rw [e]
    refine ⟨?_, fun x hx => List.all_eq_true.1 (tab_all (shapeE_zero h).2.2.2.2.2.1 _) x hx⟩
    have := okD_tab (slotsE_all (shapeE_zero h).2.1 hj) hk2
    unfold tabOf
    simpa [List.getD, hj] using this.2
theorem tabN_spec {m : ImgD} (hC : checkE m = 0) {k : Nat} (hk : k < m.root.length) (h40 : tabN m k ≠ 40) : 1 ≤ tabN m k ∧ tabN m k ≤ m.slots.length ∧ tabN m k < 40 ∧ (kd m.slots (tabN m k) = 0 ∨ kd m.slots (tabN m k) = 2) ∧ Lone m k (tabN m k) := by
  obtain ⟨h, hcnt, _⟩ := checkE_zero hC
  obtain ⟨z1, z2, z3, z4, z5, z6, z7⟩ := shapeE_zero h
  have hp := slotsE_parts z2
  unfold tabN at h40 ⊢
  by_cases hi : inPl m k = true
  · rw [if_pos hi] at h40 ⊢
    unfold inPl at hi
    simp at hi
    obtain ⟨hz, hrf⟩ := hi
    have hz : m.root.getD k 0 ≠ 0 := hz
    have hrf : m.refs.getD (m.root.getD k 0).toNat 0 = 1 := hrf
    have hE := all_at (root_ok h).2 hk
    rcases rootE_cases hE with e | ⟨j, e, hj, hkj⟩
    · exact absurd e hz
    · have hmem : (j : Int) ∈ flatR m := by rw [flatR_app]; exact List.mem_append_left _ (by rw [← e, getD_at hk]; exact List.getElem_mem hk)
      rw [e, Int.toNat_natCast] at hrf ⊢
      have j1 : 1 ≤ j := by omega
      have hc1 : (flatR m).count (j : Int) = 1 := by
        rw [← hcnt, cntL_get h j hj] at hrf
        unfold cntI at hrf
        rw [if_neg (by omega), sumT_no z6 _ j1 (by rw [hkj]; decide)] at hrf
        omega
      exact ⟨j1, by omega, by omega, .inr hkj, lone_one hk e hc1⟩
  · rw [if_neg hi] at h40 ⊢
    obtain ⟨a, b, c, d⟩ := grabN_spec hp.1
    exact ⟨a, b, by omega, .inl d, lone_free h a d⟩

/-- Entries behind the last page are Hole. -/
def TailZ (m : ImgD) (k : Nat) (es : List Int) : Prop := k = m.root.length - 1 → m.guest % 4 ≠ 0 → (es.drop (m.guest % 4).toNat).all (fun e => e == 0) = true
theorem tableO_tail {m : ImgD} (h : shapeE m = 0) (k : Nat) : TailZ m k (tableO m k) := by
  intro hk hg
  have hf := List.all_eq_true.1 (shapeE_zero h).2.2.2.2.2.2 (⟨#[]⟩, m.guest, m.root) List.mem_cons_self
  unfold rootFit lastFit at hf
  dsimp only at hf
  simp only [Bool.and_eq_true] at hf
  have hl := hf.2.2
  have hg' : (m.guest % 4 == 0) = false := by simpa using hg
  rw [hg', Bool.false_or, ← hk] at hl
  unfold tableO
  by_cases hz : m.root.getD k 0 = 0
  · rw [if_pos hz]
    have : ∀ j, ([0, 0, 0, 0] : List Int).drop j = List.replicate (4 - j) 0 := fun j => by
      have : ([0, 0, 0, 0] : List Int) = List.replicate 4 0 := rfl
      rw [this, List.drop_replicate]
    rw [this]; simp
  · rw [if_neg hz]
    have hz' : (m.root.getD k 0 == 0) = false := by simpa using hz
    rw [hz', Bool.false_or] at hl
    exact hl
theorem tail_set {m : ImgD} {k : Nat} {es : List Int} (h : TailZ m k es) {n : Nat} (hn : (n : Int) < m.guest) (hk : n / 4 = k) (hr : (m.root.length : Int) = (m.guest + 3) / 4) (e : Int) : TailZ m k (es.set (n % 4) e) := by
  intro h1 h2
  have := h h1 h2
  rw [List.drop_set_of_lt (by omega)]
  exact this
theorem set_ck {es : List Int} (h : ckE es = 0) {i : Nat} {e : Int} (he : isE e = true) : ckE (es.set i e) = 0 := by
  refine ckE_yes (by rw [List.length_set]; exact ckE_len h) ?_
  rw [List.all_eq_true]
  intro x hx
  rcases List.mem_or_eq_of_mem_set hx with hm | hm
  · exact List.all_eq_true.1 (ckE_all h) x hm
  · rw [hm]; exact he
theorem bare_get {es : List Int} {i : Nat} (hi : i < es.length) (h : es.getD i 0 ≠ 0) : bareL es = false := by
  unfold bareL
  exact not_all_of hi (by simpa using h)
theorem set_get {es : List Int} {i : Nat} (hi : i < es.length) (e : Int) : (es.set i e).getD i 0 = e := by rw [getD_setI, if_pos ⟨rfl, hi⟩]
theorem mem_set {es : List Int} {i : Nat} {e x : Int} (h : x ∈ es.set i e) : x ∈ es ∨ x = e := List.mem_or_eq_of_mem_set h

/-! ### The answers -/
def rfZ (L : List SlotD) : List Int := List.replicate L.length 0
def tabL (m : ImgD) (k : Nat) (es : List Int) : List SlotD := layS m.slots (tabN m k) (2, ⟨#[]⟩, es)
def tabledD (m : ImgD) (k : Nat) (es : List Int) : Option ImgD :=
  if bareL es = true then some { m with root := m.root.set k 0 } else if tabN m k = 40 then none else some (tabSet m k (tabN m k) (tabL m k es) (rfZ (tabL m k es)))
def putD (m : ImgD) (n : Nat) (e : Int) : Option ImgD := if (tableO m (n / 4)).getD (n % 4) 0 = e then some m else (tabledD m (n / 4) ((tableO m (n / 4)).set (n % 4) e)).map countedD
def wInPl (m : ImgD) (n : Nat) : Bool := decide (0 < lookV m m.root n) && (inPl m (n / 4) && m.refs.getD (lookV m m.root n).toNat 0 == 1)
def wD (m : ImgD) (n : Nat) : Nat := grabN (tabL m (n / 4) (tableO m (n / 4)))
def wEs (m : ImgD) (n : Nat) : List Int := (tableO m (n / 4)).set (n % 4) (wD m n : Int)
def wL (m : ImgD) (n : Nat) (page : ByteArray) : List SlotD := layS (tabL m (n / 4) (wEs m n)) (wD m n) (1, page, [])
def writeD (m : ImgD) (n : Nat) (page : ByteArray) : Option ImgD :=
  if wInPl m n = true then some { m with slots := m.slots.set (lookV m m.root n).toNat (1, page, []) }
  else if tabN m (n / 4) = 40 then none else if wD m n = 40 then none else some (countedD (tabSet m (n / 4) (tabN m (n / 4)) (wL m n page) (rfZ (wL m n page))))

theorem lookV_tableO (m : ImgD) (n : Nat) : lookV m m.root n = (tableO m (n / 4)).getD (n % 4) 0 := by
  unfold lookV tableO
  split
  · have h4 : n % 4 < 4 := Nat.mod_lt _ (by decide)
    have : ∀ i, i < 4 → ([0, 0, 0, 0] : List Int).getD i 0 = 0 := by decide
    rw [this _ h4]
  · rfl

/-- Writing elsewhere: the slots that come. -/
theorem write_ext {m : ImgD} (hC : checkE m = 0) {n : Nat} (hn : (n : Int) < m.guest) (h40 : tabN m (n / 4) ≠ 40) (hd40 : wD m n ≠ 40) {page : ByteArray} (hp : page.size = 4) :
    Ext m.slots (wL m n page) (tabN m (n / 4)) (wEs m n) ∧ Lone m (n / 4) (tabN m (n / 4)) ∧ TailZ m (n / 4) (wEs m n) ∧ n / 4 < m.root.length ∧ 1 ≤ wD m n ∧ wD m n < 40 ∧ kd m.slots (wD m n) = 0 ∧ wD m n ≠ tabN m (n / 4) := by
  obtain ⟨h, _, _⟩ := checkE_zero hC
  have hr := root_ok h
  have hg := guest_ok h
  have hk : n / 4 < m.root.length := by omega
  obtain ⟨t1, tl, t40, tk, hl⟩ := tabN_spec hC hk h40
  obtain ⟨ock, oent⟩ := tableO_ok h hk
  have hs := (shapeE_zero h).2.1
  have hp40 := slotsE_parts hs
  have hle := layS_le (s := ((2, ⟨#[]⟩, tableO m (n / 4)) : SlotD)) tl hp40.2 t40
  obtain ⟨d1, dl, dne, dfree⟩ := grabN_spec (L := tabL m (n / 4) (tableO m (n / 4))) (by unfold tabL; omega)
  have hdt : wD m n ≠ tabN m (n / 4) := fun e => by
    have : kd (tabL m (n / 4) (tableO m (n / 4))) (wD m n) = 0 := dfree
    unfold tabL at this
    rw [layS_kd tl, if_pos e] at this
    simp at this
  have hkd : kd m.slots (wD m n) = 0 := by
    have : kd (tabL m (n / 4) (tableO m (n / 4))) (wD m n) = 0 := dfree
    unfold tabL at this
    rw [layS_kd tl, if_neg hdt] at this
    exact this
  have hdl : wD m n ≤ (layS m.slots (tabN m (n / 4)) (2, ⟨#[]⟩, wEs m n)).length := by
    have : wD m n ≤ (tabL m (n / 4) (tableO m (n / 4))).length := dl
    unfold tabL at this
    rw [layS_length] at this ⊢; exact this
  have hd40' : wD m n < 40 := by
    have : wD m n ≤ (tabL m (n / 4) (tableO m (n / 4))).length := dl
    unfold tabL at this; omega
  have hd1 : 1 ≤ wD m n := d1
  have h4 : n % 4 < (tableO m (n / 4)).length := by rw [ckE_len ock]; omega
  have hEd : isE (wD m n : Int) = true := by rw [isE_iff]; omega
  refine ⟨?_, hl, ?_, hk, hd1, hd40', hkd, hdt⟩
  · refine ext_write hs tl t1 t40 tk (set_ck ock hEd) (bare_get (i := n % 4) (by unfold wEs; rw [List.length_set]; exact h4) (by unfold wEs; rw [set_get h4]; omega)) hdl hd1 hd40' hdt hkd hp (fun e he => ?_)
    rcases mem_set he with hm | hm
    · exact .inl (oent e hm)
    · exact .inr hm
  · exact tail_set (tableO_tail h _) hn rfl hr.1 _
end Go.Proofs.Ytehleeibgkpjmad
/- Writing, wiping, punching: what comes is right, and how it is read. Plain lists. -/
namespace Go.Proofs.Ytehleeibgkpjmad
open Go.RowKit Go.Shelf
set_option maxRecDepth 20000

def EntOK (L : List SlotD) (e : Int) : Prop := e = 0 ∨ e = -1 ∨ ∃ j : Nat, e = j ∧ 1 ≤ j ∧ j < L.length ∧ kd L j = 1
/-- The image M is m with the entries es in its k-th table. -/
structure Laid (m M : ImgD) (k : Nat) (es : List Int) : Prop where
  shape : shapeE M = 0
  guest : M.guest = m.guest
  snaps : M.snaps = m.snaps
  rlen : M.root.length = m.root.length
  look : ∀ q, q / 4 < m.root.length → lookV M M.root q = if q / 4 = k then es.getD (q % 4) 0 else lookV m m.root q
  past : ∀ s ∈ m.snaps, ∀ q, q / 4 < s.2.2.length → lookV M s.2.2 q = lookV m s.2.2 q
  page : ∀ e, EntOK m.slots e → pageV M.slots e = pageV m.slots e

theorem laid_ext {m : ImgD} {k t : Nat} {L' : List SlotD} {es rf : List Int} (h : shapeE m = 0) (hk : k < m.root.length) (hx : Ext m.slots L' t es) (hl : Lone m k t) (hrf : rf.length = L'.length) (hz : TailZ m k es) : Laid m (tabSet m k t L' rf) k es := by
  have hs := (shapeE_zero h).2.1
  have hr := root_ok h
  refine ⟨tabSet_shape h hk hx hl hrf hz, rfl, rfl, by show (m.root.set k _).length = _; rw [List.length_set], fun q hq => look_tabSet hx hs hl hr.2 q hq, fun s hsm q hq => ?_, fun e he => page_ext hx he⟩
  have hf := List.all_eq_true.1 (shapeE_zero h).2.2.2.2.2.2 s (List.mem_cons_of_mem _ hsm)
  unfold rootFit at hf
  simp only [Bool.and_eq_true] at hf
  exact look_snap hx hs hf.2.1 (hl.snap s hsm) q hq

/-- Another Guest, another Root. -/
theorem reroot_shape {m : ImgD} (h : shapeE m = 0) {g : Int} {r : List Int} (hg : guestOK g = true) (hf : rootFit m.slots g r = true) : shapeE { m with guest := g, root := r } = 0 := by
  obtain ⟨z1, z2, z3, z4, z5, z6, z7⟩ := shapeE_zero h
  unfold rootsOf at z5 z7
  rw [List.all_cons] at z5 z7
  simp only [Bool.and_eq_true] at z5 z7
  have hgall : (rootsOf { m with guest := g, root := r }).all (fun s => guestOK s.2.1) = true := by
    show (((⟨#[]⟩, g, r) : SnapD) :: m.snaps).all _ = true
    rw [List.all_cons, z5.2, Bool.and_true]; exact hg
  have hall : (rootsOf { m with guest := g, root := r }).all (fun s => rootFit m.slots s.2.1 s.2.2) = true := by
    show (((⟨#[]⟩, g, r) : SnapD) :: m.snaps).all _ = true
    rw [List.all_cons, z7.2, Bool.and_true]; exact hf
  unfold shapeE
  rw [if_neg (by show ¬ 3 < m.snaps.length; omega), if_neg (by show ¬ slotsE m.slots ≠ 0; simpa using z2), if_neg, if_neg (by rw [hgall]; decide), if_neg (by show ¬ tabFit m.slots = false; rw [z6]; decide), if_neg (by show ¬ ((rootsOf { m with guest := g, root := r }).all fun s => rootFit m.slots s.2.1 s.2.2) = false; rw [hall]; decide)]
  rintro (e | e)
  · exact e z3
  · have : namesOK m.snaps = false := e
    rw [z4] at this; cases this
theorem rootFit_root {m : ImgD} (h : shapeE m = 0) : rootFit m.slots m.guest m.root = true := List.all_eq_true.1 (shapeE_zero h).2.2.2.2.2.2 (⟨#[]⟩, m.guest, m.root) List.mem_cons_self
theorem guestOK_guest {m : ImgD} (h : shapeE m = 0) : guestOK m.guest = true := List.all_eq_true.1 (shapeE_zero h).2.2.2.2.1 (⟨#[]⟩, m.guest, m.root) List.mem_cons_self
theorem rootFit_zero {L : List SlotD} {g : Int} {r : List Int} (h : rootFit L g r = true) (k : Nat) : rootFit L g (r.set k 0) = true := by
  unfold rootFit at h ⊢
  simp only [Bool.and_eq_true, decide_eq_true_eq] at h ⊢
  refine ⟨by rw [List.length_set]; exact h.1, ?_, ?_⟩
  · rw [List.all_eq_true]
    intro x hx
    rcases mem_set hx with hm | hm
    · exact List.all_eq_true.1 h.2.1 x hm
    · rw [hm]; rfl
  · have hl := h.2.2
    unfold lastFit at hl ⊢
    rw [List.length_set, getD_setI]
    by_cases e : k = r.length - 1 ∧ r.length - 1 < r.length
    · rw [if_pos e]; simp
    · rw [if_neg e]; exact hl
theorem laid_bare {m : ImgD} {k : Nat} {es : List Int} (h : shapeE m = 0) (hb : bareL es = true) : Laid m { m with root := m.root.set k 0 } k es := by
  refine ⟨reroot_shape h (guestOK_guest h) (rootFit_zero (rootFit_root h) k), rfl, rfl, List.length_set, fun q hq => ?_, fun _ _ _ _ => rfl, fun _ _ => rfl⟩
  have hg := getD_setI m.root k (q / 4) 0
  by_cases e : q / 4 = k
  · rw [if_pos (⟨e.symm, hq⟩ : k = q / 4 ∧ q / 4 < m.root.length)] at hg
    rw [if_pos e]
    unfold lookV
    show (if (m.root.set k 0).getD (q / 4) 0 = 0 then 0 else _) = _
    rw [hg, if_pos rfl]
    unfold bareL at hb
    by_cases hi : q % 4 < es.length
    · have := List.all_eq_true.1 hb _ (List.getElem_mem hi)
      have e0 : es[q % 4] = 0 := by simpa using this
      rw [getD_at hi, e0]
    · simp [List.getD, hi]
  · rw [if_neg (fun x => e x.1.symm)] at hg
    rw [if_neg e]
    unfold lookV
    show (if (m.root.set k 0).getD (q / 4) 0 = 0 then 0 else (tabOf m.slots ((m.root.set k 0).getD (q / 4) 0)).getD (q % 4) 0) = _
    rw [hg]

/-- tabled. -/
theorem tabled_laid {m : ImgD} (hC : checkE m = 0) {k : Nat} (hk : k < m.root.length) {es : List Int} (hes : ckE es = 0) (hents : ∀ e ∈ es, tabE m.slots e = true) (hz : TailZ m k es) {M : ImgD} (hM : tabledD m k es = some M) : Laid m M k es ∧ M.slots.length ≤ m.slots.length + 1 := by
  obtain ⟨h, _, _⟩ := checkE_zero hC
  unfold tabledD at hM
  split at hM
  · rename_i hb
    simp at hM
    subst hM
    exact ⟨laid_bare h hb, Nat.le_succ _⟩
  · rename_i hb
    have hb : bareL es = false := by simpa using hb
    split at hM
    · cases hM
    · rename_i h40
      simp at hM
      subst hM
      obtain ⟨t1, tl, t40, tk, hl⟩ := tabN_spec hC hk h40
      refine ⟨laid_ext h hk (ext_lay (shapeE_zero h).2.1 tl t1 t40 tk hes hb hents) hl (by simp [rfZ, tabL]) hz, ?_⟩
      show (layS _ _ _).length ≤ _
      rw [layS_length]; split <;> omega

/-! ### How it is read -/
theorem snap_fit {m : ImgD} (h : shapeE m = 0) {s : SnapD} (hs : s ∈ rootsOf m) : 0 ≤ s.2.1 ∧ s.2.1 ≤ 16 ∧ (s.2.2.length : Int) = (s.2.1 + 3) / 4 ∧ s.2.2.all (rootE m.slots) = true := by
  have hf := List.all_eq_true.1 (shapeE_zero h).2.2.2.2.2.2 s hs
  have hg := List.all_eq_true.1 (shapeE_zero h).2.2.2.2.1 s hs
  unfold rootFit at hf
  unfold guestOK at hg
  simp only [Bool.and_eq_true, decide_eq_true_eq] at hf hg
  exact ⟨hg.1, hg.2, hf.1, hf.2.1⟩
theorem Laid.past_all {m M : ImgD} {k : Nat} {es : List Int} (hL : Laid m M k es) (h : shapeE m = 0) {s : SnapD} (hs : s ∈ m.snaps) : allP (countedD M) s.2.2 s.2.1.toNat = allP m s.2.2 s.2.1.toNat := by
  have hsM : s ∈ rootsOf M := List.mem_cons_of_mem _ (by rw [hL.snaps]; exact hs)
  rw [allP_counted hL.shape hsM]
  obtain ⟨a, b, c, d⟩ := snap_fit h (List.mem_cons_of_mem _ hs : s ∈ rootsOf m)
  unfold allP
  refine List.map_congr_left fun q hq => ?_
  have hq := List.mem_range.1 hq
  rw [hL.past s hs q (by omega)]
  exact hL.page _ (lookV_ent h d q (by omega))
theorem snapIx_get {S : List SnapD} {nm : ByteArray} {j : Nat} (h : snapIx S nm = some j) : S.getD j default ∈ S := by
  have hj := snapIx_some h
  have : S.getD j default = S[j] := by simp [List.getD, hj]
  rw [this]; exact List.getElem_mem hj
/-- All snapshots are as they were. -/
theorem Laid.pastV {m M : ImgD} {k : Nat} {es : List Int} (hL : Laid m M k es) (hC : checkE m = 0) (nm : ByteArray) : Go.Proofs.Ytehleeibgkpjmad.pastV (countedD M) nm = Go.Proofs.Ytehleeibgkpjmad.pastV m nm ∧ pastE (countedD M) nm = pastE m nm := by
  have h := checkE_shape hC
  have hsn : (countedD M).snaps = m.snaps := hL.snaps
  unfold Go.Proofs.Ytehleeibgkpjmad.pastV pastE
  rw [if_neg (by rw [counted_right hL.shape]; simp), if_neg (by rw [hC]; simp), if_neg (by rw [counted_right hL.shape]; simp), if_neg (by rw [hC]; simp), hsn]
  cases hsi : snapIx m.snaps nm with
  | none => exact ⟨rfl, rfl⟩
  | some j => exact ⟨hL.past_all h (snapIx_get hsi), rfl⟩
theorem Laid.allV {m M : ImgD} {k : Nat} {es : List Int} (hL : Laid m M k es) : Go.Proofs.Ytehleeibgkpjmad.allV (countedD M) = allP M M.root m.guest.toNat := by
  unfold Go.Proofs.Ytehleeibgkpjmad.allV
  rw [if_pos (counted_right hL.shape)]
  have := allP_counted hL.shape (s := (⟨#[]⟩, M.guest, M.root)) List.mem_cons_self
  show allP (countedD M) M.root M.guest.toNat = _
  rw [this, hL.guest]
/-- One entry is put: one page is another, all others are as they were. -/
theorem Laid.put {m M : ImgD} {n : Nat} {x : Int} (hC : checkE m = 0) (hn : (n : Int) < m.guest) (hL : Laid m M (n / 4) ((tableO m (n / 4)).set (n % 4) x)) : Go.Proofs.Ytehleeibgkpjmad.allV (countedD M) = (Go.Proofs.Ytehleeibgkpjmad.allV m).set n (pageV M.slots x) := by
  have h := checkE_shape hC
  have hr := root_ok h
  have hg := guest_ok h
  rw [hL.allV]
  unfold Go.Proofs.Ytehleeibgkpjmad.allV
  rw [if_pos hC]
  unfold allP
  apply List.ext_getElem
  · simp
  · intro q h1 h2
    have hq : q < m.guest.toNat := by simpa using h1
    rw [List.getElem_set, List.getElem_map, List.getElem_range]
    rw [hL.look q (by omega)]
    have hlen : (tableO m (n / 4)).length = 4 := ckE_len (tableO_ok h (by omega)).1
    by_cases e : n = q
    · subst e
      rw [if_pos rfl, if_pos rfl, set_get (by rw [hlen]; omega)]
    · rw [if_neg e]
      simp only [List.getElem_map, List.getElem_range]
      by_cases e4 : q / 4 = n / 4
      · rw [if_pos e4, getD_setI, if_neg (fun z => e (by omega)), ← e4, ← lookV_tableO]
        exact hL.page _ (lookV_ent h hr.2 q (by omega))
      · rw [if_neg e4]
        exact hL.page _ (lookV_ent h hr.2 q (by omega))

/-! ### Write -/
theorem write_laid {m : ImgD} (hC : checkE m = 0) {n : Nat} (hn : (n : Int) < m.guest) (h40 : tabN m (n / 4) ≠ 40) (hd40 : wD m n ≠ 40) {page : ByteArray} (hp : page.size = 4) :
    Laid m (tabSet m (n / 4) (tabN m (n / 4)) (wL m n page) (rfZ (wL m n page))) (n / 4) (wEs m n) ∧ pageV (wL m n page) (wD m n) = page ∧ (wL m n page).length ≤ m.slots.length + 2 := by
  obtain ⟨hx, hl, hz, hk, d1, d40, hkd, hdt⟩ := write_ext hC hn h40 hd40 hp
  refine ⟨laid_ext (checkE_shape hC) hk hx hl (by simp [rfZ]) hz, ?_, ?_⟩
  · unfold pageV
    rw [if_neg (by omega), Int.toNat_natCast]
    have hdl : wD m n ≤ (tabL m (n / 4) (wEs m n)).length := by
      obtain ⟨t1, tl, t40, tk, _⟩ := tabN_spec hC hk h40
      have hle := layS_le (s := ((2, ⟨#[]⟩, tableO m (n / 4)) : SlotD)) tl (slotsE_parts (shapeE_zero (checkE_shape hC)).2.1).2 t40
      have := (grabN_spec (L := tabL m (n / 4) (tableO m (n / 4))) (by unfold tabL; omega)).2.1
      unfold tabL at this ⊢
      rw [layS_length] at this ⊢
      exact this
    unfold wL
    rw [layS_get hdl, if_pos rfl]
  · unfold wL tabL
    rw [layS_length, layS_length]
    split <;> split <;> omega

/-! ### In place -/
theorem kd_setP {L : List SlotD} {e : Nat} {page : ByteArray} (hk : kd L e = 1) (j : Nat) : kd (L.set e (1, page, [])) j = kd L j := by
  by_cases h : e = j
  · subst h
    have := kd_lt (L := L) (j := e) (by rw [hk]; decide)
    rw [hk]; unfold kd; simp [List.getD, this]
  · unfold kd; simp [List.getD, h]
theorem tab_page {L : List SlotD} (hs : slotsE L = 0) {e : Nat} (hk : kd L e = 1) : (L.getD e default).2.2 = [] := by
  have he := kd_lt (L := L) (j := e) (by rw [hk]; decide)
  have ok := slotsE_all hs he
  rw [getElem_getD he] at ok
  unfold kd at hk
  unfold okD at ok
  rw [hk, slotOK_1] at ok
  simpa using (of_decide_eq_true ok).2
theorem tab_setP {L : List SlotD} (hs : slotsE L = 0) {e : Nat} {page : ByteArray} (hk : kd L e = 1) (x : Int) : tabOf (L.set e (1, page, [])) x = tabOf L x := by
  unfold tabOf
  by_cases h : e = x.toNat
  · have := kd_lt (L := L) (j := e) (by rw [hk]; decide)
    rw [← h, tab_page hs hk]; simp [List.getD, this]
  · simp [List.getD, h]
/-- Images that part in pages alone. -/
theorem setP_same {m : ImgD} {e : Nat} {page : ByteArray} (hC : checkE m = 0) (hk : kd m.slots e = 1) (hp : page.size = 4) : checkE { m with slots := m.slots.set e (1, page, []) } = 0 ∧ ∀ r q, lookV { m with slots := m.slots.set e (1, page, []) } r q = lookV m r q := by
  obtain ⟨h, hcnt, hfree⟩ := checkE_zero hC
  obtain ⟨z1, z2, z3, z4, z5, z6, z7⟩ := shapeE_zero h
  have he := kd_lt (L := m.slots) (j := e) (by rw [hk]; decide)
  have hkd := fun j => kd_setP (page := page) hk j
  have htab := fun x => tab_setP (page := page) z2 hk x
  have hisKd : ∀ x kind, isKd (m.slots.set e (1, page, [])) x kind = isKd m.slots x kind := fun x kind => by
    have := hkd x.toNat
    unfold kd at this
    unfold isKd
    rw [List.length_set, this]
  have htE : ∀ x, tabE (m.slots.set e (1, page, [])) x = tabE m.slots x := fun x => by unfold tabE; rw [hisKd]
  have hrE : ∀ x, rootE (m.slots.set e (1, page, [])) x = rootE m.slots x := fun x => by unfold rootE; rw [hisKd]
  have hs : slotsE (m.slots.set e (1, page, [])) = 0 := by
    refine slotsE_ok (by rw [List.length_set]; exact (slotsE_parts z2).1) (by rw [List.length_set]; exact (slotsE_parts z2).2) (fun j hj => ?_) ?_
    · rw [List.length_set] at hj
      rw [List.getElem_set]
      split
      · exact ok_page hp
      · exact slotsE_all z2 hj
    · rw [kd_getElem (by rw [List.length_set]; exact (slotsE_parts z2).1), hkd]; exact slot0 z2
  have hfit : tabFit (m.slots.set e (1, page, [])) = true := by
    unfold tabFit
    rw [List.all_eq_true]
    intro s hsm
    obtain ⟨j, hj, rfl⟩ := List.getElem_of_mem hsm
    rw [List.length_set] at hj
    rw [List.all_eq_true]
    intro x hx
    rw [htE]
    have e1 := htab (j : Int)
    unfold tabOf at e1
    rw [Int.toNat_natCast] at e1
    rw [getElem_getD (by rw [List.length_set]; exact hj), e1] at hx
    exact List.all_eq_true.1 (tab_all z6 (j : Int)) x (by unfold tabOf; rw [Int.toNat_natCast]; exact hx)
  have hrf : ∀ g r, rootFit (m.slots.set e (1, page, [])) g r = rootFit m.slots g r := fun g r => by
    unfold rootFit lastFit
    rw [show rootE (m.slots.set e (1, page, [])) = rootE m.slots from funext hrE]
    simp only [htab]
  have hsh : shapeE { m with slots := m.slots.set e (1, page, []) } = 0 := by
    unfold shapeE
    rw [if_neg (by show ¬ 3 < m.snaps.length; omega), if_neg (by show ¬ slotsE _ ≠ 0; simpa using hs), if_neg, if_neg (by show ¬ (rootsOf m).all _ = false; rw [z5]; decide), if_neg (by show ¬ tabFit _ = false; rw [hfit]; decide), if_neg]
    · show ¬ ((rootsOf m).all fun s => rootFit (m.slots.set e (1, page, [])) s.2.1 s.2.2) = false
      simp only [hrf]
      rw [z7]; decide
    · rintro (x | x)
      · apply x; show m.refs.length = (m.slots.set e _).length; rw [List.length_set]; exact z3
      · have : namesOK m.snaps = false := x
        rw [z4] at this; cases this
  have hcl : cntL { m with slots := m.slots.set e (1, page, []) } = cntL m := by
    rw [rl_of (cntL_length _), rl_of (cntL_length m)]
    show rl (m.slots.set e _).length _ = _
    rw [List.length_set]
    refine rl_congr fun j hj => ?_
    rw [cntL_get hsh j (by show j < (m.slots.set e _).length; rw [List.length_set]; exact hj), cntL_get h j hj]
    show cntI (m.slots.set e (1, page, [])) (flatR m) j = cntI m.slots (flatR m) j
    unfold cntI
    have : sumT (m.slots.set e (1, page, [])) (flatR m) j = sumT m.slots (flatR m) j := by
      unfold sumT
      rw [List.length_set]
      refine sum_same _ fun q _ => ?_
      unfold toldT
      rw [hkd, htab]
    rw [this]
  refine ⟨?_, fun r q => ?_⟩
  · unfold checkE
    rw [if_neg (by simpa using hsh), hcl]
    show (if cntL m ≠ m.refs then (9 : Int) else _) = 0
    rw [if_neg (by rw [hcnt]; simp), if_pos]
    rw [List.all_eq_true]
    intro j hj
    have hj : j < m.slots.length := by
      have : j < (m.slots.set e (1, page, [])).length := by simpa using hj
      rwa [List.length_set] at this
    have := hfree j hj
    unfold freeAt at this ⊢
    rw [hcl]
    have e1 := hkd j
    unfold kd at e1
    show (((m.slots.set e (1, page, [])).getD j default).1 == 0) == _
    rw [e1]; exact this
  · unfold lookV
    show (if r.getD (q / 4) 0 = 0 then (0 : Int) else (tabOf (m.slots.set e (1, page, [])) (r.getD (q / 4) 0)).getD (q % 4) 0) = _
    rw [htab]
end Go.Proofs.Ytehleeibgkpjmad
/- Slices of strings: what it means that a slice value holds them in a world. -/
namespace Go.Proofs.Ytehleeibgkpjmad
open Go.RowKit
set_option maxRecDepth 20000

/-- The slice value v holds the strings xs in the world w. -/
def Ss (w : World) (v : Value) (xs : List ByteArray) : Prop :=
  ∃ ao cap, v = .slice ao xs.length cap ∧ xs.length ≤ maxLen ∧ xs.length ≤ cap ∧ (xs ≠ [] → ∃ b off, ao = some ⟨b, off, none⟩ ∧ b < w.heap.size ∧ ∀ j, j < xs.length → w.cell? ⟨b, off + j, none⟩ = some (.string (xs.getD j ByteArray.empty)))

theorem Ss.below {w w1 : World} {v : Value} {xs : List ByteArray} (h : Ss w v xs) (hb : Below w.heap.size w w1) : Ss w1 v xs := by
  obtain ⟨ao, cap, hv, hm, hcp, hc⟩ := h
  refine ⟨ao, cap, hv, hm, hcp, fun hne => ?_⟩
  obtain ⟨b, off, ha, hlt, hcell⟩ := hc hne
  exact ⟨b, off, ha, Nat.lt_of_lt_of_le hlt hb.size, fun j hj => (hb.cell (p := ⟨b, off + j, none⟩) hlt).trans (hcell j hj)⟩

theorem Ss.nil (w : World) : Ss w (.slice none 0 0) [] := ⟨none, 0, rfl, Nat.zero_le _, Nat.zero_le _, fun h => absurd rfl h⟩

theorem Ss.cells {w : World} {ao : Option Addr} {n cap : Nat} {xs : List ByteArray} (h : Ss w (.slice ao n cap) xs) :
    xs.length = n ∧ n ≤ 9223372036854775807 ∧ n ≤ cap ∧ ∀ j, j < n → ∃ b off, ao = some ⟨b, off, none⟩ ∧ b < w.heap.size ∧ w.cell? ⟨b, off + j, none⟩ = some (.string (xs.getD j ByteArray.empty)) := by
  obtain ⟨ao', cap', hv, hm, hcp, hc⟩ := h
  simp only [Value.slice.injEq] at hv
  obtain ⟨rfl, rfl, rfl⟩ := hv
  unfold maxLen at hm
  refine ⟨rfl, by omega, hcp, fun j hj => ?_⟩
  obtain ⟨b, off, rfl, hlt, hcell⟩ := hc (by intro e; rw [e] at hj; simp at hj)
  exact ⟨b, off, rfl, hlt, hcell j hj⟩

theorem Ss.form {w : World} {v : Value} {xs : List ByteArray} (h : Ss w v xs) : ∃ ao cap, v = .slice ao xs.length cap := by
  obtain ⟨ao, cap, hv, _⟩ := h; exact ⟨ao, cap, hv⟩

theorem Ss.at {w : World} {ao : Option Addr} {n cap : Nat} {xs : List ByteArray} (h : Ss w (.slice ao n cap) xs) (hpos : 0 < n) :
    ∃ b off, ao = some ⟨b, off, none⟩ ∧ b < w.heap.size ∧ ∀ j, j < n → w.cell? ⟨b, off + j, none⟩ = some (.string (xs.getD j ByteArray.empty)) := by
  obtain ⟨ao', cap', hv, hm, hcp, hc⟩ := h
  simp only [Value.slice.injEq] at hv
  obtain ⟨rfl, rfl, rfl⟩ := hv
  exact hc (by intro e; rw [e] at hpos; simp at hpos)

theorem Ss.past {w : World} {v : Value} {xs : List ByteArray} (h : Ss w v xs) (o : Obj) : Ss (w.alloc o) v xs := h.below ((Below.refl _ _).alloc (Nat.le_refl _) o)


end Go.Proofs.Ytehleeibgkpjmad
/- Flat images, plainly: what Read, Write and Resize answer, over lists of pages. -/
namespace Go.Proofs.Ytehleeibgkpjmad
open Go.RowKit
end Go.Proofs.Ytehleeibgkpjmad
/- Resizing: what comes is right, and how it is read; the answers of Write, Wipe, Punch, Resize. Plain lists. -/
namespace Go.Proofs.Ytehleeibgkpjmad
open Go.RowKit Go.Shelf
set_option maxRecDepth 20000

def rerootD (M : ImgD) (g : Nat) : ImgD := { M with guest := (g : Int), root := (M.root ++ List.replicate ((g + 3) / 4 - M.root.length) 0).take ((g + 3) / 4) }
def cutD (m : ImgD) (g : Nat) : Option ImgD :=
  if g % 4 ≠ 0 ∧ g / 4 < m.root.length ∧ cutR (tableO m (g / 4)) (g % 4) ≠ tableO m (g / 4) then tabledD m (g / 4) (cutR (tableO m (g / 4)) (g % 4)) else some m
def resizeD (m : ImgD) (g : Nat) : Option ImgD := (cutD m g).map (fun M => countedD (rerootD M g))

theorem reroot_get (M : ImgD) (g j : Nat) (hj : j < (g + 3) / 4) : (rerootD M g).root.getD j 0 = M.root.getD j 0 := by
  show ((M.root ++ List.replicate ((g + 3) / 4 - M.root.length) 0).take ((g + 3) / 4)).getD j 0 = _
  simp only [List.getD, List.getElem?_take, hj, if_true]
  rw [List.getElem?_append]
  split
  · rfl
  · rename_i h
    rw [List.getElem?_eq_none (l := M.root) (by omega), List.getElem?_replicate]
    split <;> rfl
theorem reroot_length (M : ImgD) (g : Nat) : (rerootD M g).root.length = (g + 3) / 4 := by
  show ((M.root ++ List.replicate ((g + 3) / 4 - M.root.length) 0).take ((g + 3) / 4)).length = _
  simp; omega
theorem reroot_mem {M : ImgD} {g : Nat} {x : Int} (h : x ∈ (rerootD M g).root) : x = 0 ∨ x ∈ M.root := by
  have h : x ∈ M.root ++ List.replicate ((g + 3) / 4 - M.root.length) 0 := List.mem_of_mem_take h
  rcases List.mem_append.1 h with h | h
  · exact .inr h
  · exact .inl (List.mem_replicate.1 h).2

theorem cutR_get {es : List Int} (h4 : es.length = 4) {n : Nat} (hn : n ≤ 4) (i : Nat) : (cutR es n).getD i 0 = if i < n then es.getD i 0 else 0 := by
  unfold cutR
  simp only [List.getD]
  rw [List.getElem?_append, List.length_take]
  by_cases h : i < n
  · rw [if_pos (by omega), if_pos h, List.getElem?_take, if_pos h]
  · rw [if_neg (by omega), if_neg h, List.getElem?_replicate]
    split <;> rfl
theorem cutR_mem {es : List Int} {n : Nat} {x : Int} (h : x ∈ cutR es n) : x ∈ es ∨ x = 0 := by
  unfold cutR at h
  rcases List.mem_append.1 h with h | h
  · exact .inl (List.mem_of_mem_take h)
  · exact .inr (List.mem_replicate.1 h).2
theorem cutR_ck' {es : List Int} (h : ckE es = 0) {n : Nat} (hn : n ≤ 4) : ckE (cutR es n) = 0 := by
  refine ckE_yes (by unfold cutR; simp; have := ckE_len h; omega) ?_
  rw [List.all_eq_true]
  intro x hx
  rcases cutR_mem hx with hm | hm
  · exact List.all_eq_true.1 (ckE_all h) x hm
  · rw [hm]; rfl
theorem drop_zero {es : List Int} {i : Nat} (h : ∀ j, i ≤ j → j < es.length → es.getD j 0 = 0) : (es.drop i).all (fun e => e == 0) = true := by
  rw [List.all_eq_true]
  intro x hx
  obtain ⟨j, hj, rfl⟩ := List.getElem_of_mem hx
  rw [List.getElem_drop]
  simp at hj
  have := h (i + j) (by omega) (by omega)
  rw [getD_at (by omega)] at this
  simpa using this
theorem of_drop_zero {es : List Int} {i : Nat} (h : (es.drop i).all (fun e => e == 0) = true) {j : Nat} (h1 : i ≤ j) : es.getD j 0 = 0 := by
  rcases Nat.lt_or_ge j es.length with hj | hj
  · have hm : es[j] ∈ es.drop i := by
      rw [List.mem_iff_getElem]
      refine ⟨j - i, by simp; omega, ?_⟩
      rw [List.getElem_drop]; congr 1; omega
    have := List.all_eq_true.1 h _ hm
    rw [getD_at hj]; simpa using this
  · simp [List.getD, Nat.not_lt.2 hj]
theorem cut_tail {m : ImgD} {k : Nat} {es : List Int} (h : TailZ m k es) (h4 : es.length = 4) {n : Nat} (hn : n ≤ 4) : TailZ m k (cutR es n) := by
  intro h1 h2
  have := h h1 h2
  refine drop_zero fun j hj hl => ?_
  rw [cutR_get h4 hn]
  split
  · exact of_drop_zero this hj
  · rfl

/-- The table is cut. -/
theorem cut_laid {m : ImgD} (hC : checkE m = 0) {g : Nat} {M : ImgD} (hM : cutD m g = some M) : (∃ es, Laid m M (g / 4) es ∧ (g / 4 < m.root.length → ∀ i, es.getD i 0 = if g % 4 = 0 ∨ i < g % 4 then (tableO m (g / 4)).getD i 0 else 0)) ∧ M.slots.length ≤ m.slots.length + 1 := by
  have h := checkE_shape hC
  unfold cutD at hM
  split at hM
  · rename_i hc
    obtain ⟨h1, h2, h3⟩ := hc
    obtain ⟨ock, oent⟩ := tableO_ok h h2
    have h4 := ckE_len ock
    obtain ⟨hL, hlen⟩ := tabled_laid hC h2 (cutR_ck' ock (by omega)) (fun e he => (cutR_mem he).elim (fun hm => oent e hm) (fun hm => by rw [hm]; rfl)) (cut_tail (tableO_tail h _) h4 (by omega)) hM
    refine ⟨⟨_, hL, fun _ i => ?_⟩, hlen⟩
    rw [cutR_get h4 (by omega)]
    by_cases hi : i < g % 4
    · rw [if_pos hi, if_pos (.inr hi)]
    · rw [if_neg hi, if_neg (fun x => x.elim h1 hi)]
  · rename_i hc
    simp at hM
    subst hM
    refine ⟨⟨tableO m (g / 4), ⟨h, rfl, rfl, rfl, fun q hq => ?_, fun _ _ _ _ => rfl, fun _ _ => rfl⟩, fun hk i => ?_⟩, Nat.le_succ _⟩
    · by_cases e : q / 4 = g / 4
      · rw [if_pos e, ← e, ← lookV_tableO]
      · rw [if_neg e]
    · by_cases hg : g % 4 = 0
      · rw [if_pos (.inl hg)]
      · have hce : cutR (tableO m (g / 4)) (g % 4) = tableO m (g / 4) := Classical.byContradiction fun x => hc ⟨hg, hk, x⟩
        have h4 := ckE_len (tableO_ok h hk).1
        have e := cutR_get h4 (n := g % 4) (by omega) i
        rw [hce] at e
        by_cases hi : i < g % 4
        · rw [if_pos (.inr hi)]
        · rw [if_neg (fun x => x.elim hg hi), e, if_neg hi]

theorem tab_look {M : ImgD} {k i : Nat} (hz : M.root.getD k 0 ≠ 0) (hi : i < 4) : (tabOf M.slots (M.root.getD k 0)).getD i 0 = lookV M M.root (4 * k + i) := by
  unfold lookV
  have e1 : (4 * k + i) / 4 = k := by omega
  have e2 : (4 * k + i) % 4 = i := by omega
  rw [e1, e2, if_neg hz]

/-- Resize: what comes has the form. -/
theorem resize_shape {m : ImgD} (hC : checkE m = 0) {g : Nat} (hg : g ≤ 16) {M : ImgD} (hM : cutD m g = some M) : shapeE (rerootD M g) = 0 := by
  have h := checkE_shape hC
  obtain ⟨⟨es, hL, hes⟩, _⟩ := cut_laid hC hM
  have hrM := root_ok hL.shape
  refine reroot_shape hL.shape (by unfold guestOK; exact decide_eq_true (by omega)) ?_
  show rootFit M.slots (g : Int) (rerootD M g).root = true
  unfold rootFit
  simp only [Bool.and_eq_true, decide_eq_true_eq]
  refine ⟨by rw [reroot_length]; omega, ?_, ?_⟩
  · rw [List.all_eq_true]
    intro x hx
    rcases reroot_mem hx with e | e
    · rw [e]; rfl
    · exact List.all_eq_true.1 hrM.2 x e
  · unfold lastFit
    by_cases hg4 : g % 4 = 0
    · have : ((g : Int) % 4 == 0) = true := by simp; omega
      rw [this]; rfl
    · have hw : (g + 3) / 4 - 1 = g / 4 := by omega
      rw [reroot_length, hw, reroot_get M g _ (by omega)]
      have hgm : ((g : Int) % 4).toNat = g % 4 := by omega
      rw [hgm]
      by_cases hz : M.root.getD (g / 4) 0 = 0
      · rw [hz]; simp
      · have hk : g / 4 < M.root.length := by
          rcases Nat.lt_or_ge (g / 4) M.root.length with h' | h'
          · exact h'
          · exact absurd (by simp [List.getD, Nat.not_lt.2 h']) hz
        have hkm : g / 4 < m.root.length := by rw [← hL.rlen]; exact hk
        have hE := all_at hrM.2 hk
        rw [rootE_x hz] at hE
        have h4 := tab_len (shapeE_zero hL.shape).2.1 hE
        have : ((tabOf M.slots (M.root.getD (g / 4) 0)).drop (g % 4)).all (fun e => e == 0) = true := by
          refine drop_zero fun j hj hl => ?_
          rw [h4] at hl
          rw [tab_look hz hl, hL.look _ (by omega), if_pos (by omega), show (4 * (g / 4) + j) % 4 = j by omega, hes hkm, if_neg (by omega)]
        rw [this]; simp
end Go.Proofs.Ytehleeibgkpjmad
/- What Write, Wipe, Punch and Resize answer, plain: it is right, how much greater it is, and how it is read. -/
namespace Go.Proofs.Ytehleeibgkpjmad
open Go.RowKit Go.Shelf
set_option maxRecDepth 20000

/-! ### In place: nobody else sees the page -/
theorem le_two {f : Nat → Nat} {a b : Nat} : ∀ {n : Nat}, a < n → b < n → a ≠ b → f a + f b ≤ ((List.range n).map f).sum
  | 0, h, _, _ => absurd h (by omega)
  | n + 1, ha, hb, hne => by
    rw [List.range_succ, List.map_append, List.sum_append]
    by_cases ea : a = n
    · have := le_sum (f := f) (n := n) (k := b) (by omega); subst ea; simp; omega
    · by_cases eb : b = n
      · have := le_sum (f := f) (n := n) (k := a) (by omega); subst eb; simp; omega
      · have := le_two (f := f) (a := a) (b := b) (n := n) (by omega) (by omega) hne; simp; omega
/-- Which table tells an entry that is looked at. -/
theorem look_by {m : ImgD} (h : shapeE m = 0) {root : List Int} (hall : root.all (rootE m.slots) = true) {q : Nat} (hl : q / 4 < root.length) {e : Nat} (e1 : 1 ≤ e) (hq : lookV m root q = (e : Int)) :
    ∃ j : Nat, root.getD (q / 4) 0 = (j : Int) ∧ (j : Int) ∈ root ∧ j < m.slots.length ∧ kd m.slots j = 2 ∧ q % 4 < (tabOf m.slots j).length ∧ (tabOf m.slots j).getD (q % 4) 0 = (e : Int) := by
  unfold lookV at hq
  by_cases hz : root.getD (q / 4) 0 = 0
  · rw [if_pos hz] at hq; omega
  rw [if_neg hz] at hq
  have hE := all_at hall hl
  have hE2 := hE
  rw [rootE_x hz] at hE2
  have h4 := tab_len (shapeE_zero h).2.1 hE2
  rcases rootE_cases hE with e0 | ⟨j, ej, hj, hk⟩
  · exact absurd e0 hz
  · refine ⟨j, ej, ?_, hj, hk, ?_, ?_⟩
    · rw [← ej, getD_at hl]; exact List.getElem_mem hl
    · rw [← ej]; omega
    · rw [← ej]; exact hq
theorem told_twice {m : ImgD} {e : Nat} (e1 : 1 ≤ e) (hc : cntI m.slots (flatR m) e = 1) {j i j' i' : Nat} (hj : j < m.slots.length) (hk : kd m.slots j = 2) (hm : (j : Int) ∈ flatR m) (hi : i < (tabOf m.slots j).length) (ht : (tabOf m.slots j).getD i 0 = (e : Int))
    (hj' : j' < m.slots.length) (hk' : kd m.slots j' = 2) (hm' : (j' : Int) ∈ flatR m) (hi' : i' < (tabOf m.slots j').length) (ht' : (tabOf m.slots j').getD i' 0 = (e : Int)) : j = j' ∧ i = i' := by
  unfold cntI at hc
  rw [if_neg (by omega)] at hc
  have hs : sumT m.slots (flatR m) (e : Int) ≤ 1 := by omega
  have t1 : toldT m.slots (flatR m) e j = (tabOf m.slots j).count (e : Int) := by unfold toldT; rw [if_pos ⟨hk, hm⟩]
  have t2 : toldT m.slots (flatR m) e j' = (tabOf m.slots j').count (e : Int) := by unfold toldT; rw [if_pos ⟨hk', hm'⟩]
  have c1 : 1 ≤ (tabOf m.slots j).count (e : Int) := List.count_pos_iff.2 (by rw [← ht, getD_at hi]; exact List.getElem_mem hi)
  have c2 : 1 ≤ (tabOf m.slots j').count (e : Int) := List.count_pos_iff.2 (by rw [← ht', getD_at hi']; exact List.getElem_mem hi')
  have ej : j = j' := Classical.byContradiction fun hne => by
    have := le_two (f := toldT m.slots (flatR m) e) hj hj' hne
    unfold sumT at hs
    omega
  subst ej
  refine ⟨rfl, Classical.byContradiction fun hne => ?_⟩
  have h2 : 2 ≤ (tabOf m.slots j).count (e : Int) := by
    rcases Nat.lt_or_ge i i' with hl | hl
    · exact count_two _ i i' hl hi' ht ht'
    · exact count_two _ i' i (by omega) hi ht' ht
  have := le_sum (f := toldT m.slots (flatR m) e) (n := m.slots.length) (k := j) hj
  unfold sumT at hs
  omega
/-- A page that is told once, by a table that is told once: nothing else is read there. -/
theorem inplace_only {m : ImgD} (hC : checkE m = 0) {n : Nat} (hn : (n : Int) < m.guest) (hi : wInPl m n = true) :
    ∃ e : Nat, lookV m m.root n = (e : Int) ∧ 1 ≤ e ∧ e < m.slots.length ∧ kd m.slots e = 1 ∧ (∀ q, q / 4 < m.root.length → q ≠ n → lookV m m.root q ≠ (e : Int)) ∧ ∀ s ∈ m.snaps, ∀ q, q / 4 < s.2.2.length → lookV m s.2.2 q ≠ (e : Int) := by
  obtain ⟨h, hcnt, _⟩ := checkE_zero hC
  have hr := root_ok h
  have hg := guest_ok h
  have hk : n / 4 < m.root.length := by omega
  unfold wInPl at hi
  simp only [Bool.and_eq_true, decide_eq_true_eq, beq_iff_eq] at hi
  obtain ⟨hpos, hin, hrf⟩ := hi
  rcases lookV_ent h hr.2 n hk with e0 | e0 | ⟨e, he, e1, el, ek⟩
  · omega
  · omega
  rw [he, Int.toNat_natCast, ← hcnt, cntL_get h e el] at hrf
  obtain ⟨j, ej, jm, hj, hjk, hjl, hjt⟩ := look_by h hr.2 hk e1 he
  have hin2 := hin
  unfold inPl at hin2
  simp only [Bool.and_eq_true, bne_iff_ne, beq_iff_eq] at hin2
  have hlone : Lone m (n / 4) j := by
    have hrf2 := hin2.2
    have j1 : 1 ≤ j := by have := hin2.1; omega
    rw [ej, Int.toNat_natCast, ← hcnt, cntL_get h j hj] at hrf2
    unfold cntI at hrf2
    rw [if_neg (by omega), sumT_no (shapeE_zero h).2.2.2.2.2.1 _ j1 (by rw [hjk]; decide)] at hrf2
    exact lone_one hk ej (by omega)
  have hjf : (j : Int) ∈ flatR m := by rw [flatR_app]; exact List.mem_append_left _ jm
  refine ⟨e, he, e1, el, ek, fun q hq hne hl => ?_, fun s hs q hq hl => ?_⟩
  · obtain ⟨j', ej', jm', hj', hjk', hjl', hjt'⟩ := look_by h hr.2 hq e1 hl
    obtain ⟨e2, e3⟩ := told_twice e1 hrf hj hjk hjf hjl hjt hj' hjk' (by rw [flatR_app]; exact List.mem_append_left _ jm') hjl' hjt'
    subst e2
    by_cases e4 : q / 4 = n / 4
    · exact hne (by omega)
    · exact hlone.root (q / 4) hq e4 ej'
  · have hfit := snap_fit h (List.mem_cons_of_mem _ hs)
    obtain ⟨j', ej', jm', hj', hjk', hjl', hjt'⟩ := look_by h hfit.2.2.2 hq e1 hl
    obtain ⟨e2, e3⟩ := told_twice e1 hrf hj hjk hjf hjl hjt hj' hjk' (by rw [flatR_app]; exact List.mem_append_right _ (by rw [List.mem_flatMap]; exact ⟨s, hs, jm'⟩)) hjl' hjt'
    subst e2
    exact hlone.snap s hs jm'
theorem page_setP {L : List SlotD} {e : Nat} {page : ByteArray} {x : Int} (hx : x ≠ (e : Int)) (hx0 : 0 ≤ x ∨ x ≤ 0) : pageV (L.set e (1, page, [])) x = pageV L x := by
  unfold pageV
  by_cases h : x ≤ 0
  · rw [if_pos h, if_pos h]
  · rw [if_neg h, if_neg h]
    have : e ≠ x.toNat := by omega
    simp [List.getD, this]
theorem page_at {L : List SlotD} {e : Nat} {page : ByteArray} (e1 : 1 ≤ e) (el : e < L.length) : pageV (L.set e (1, page, [])) (e : Int) = page := by
  unfold pageV
  rw [if_neg (by omega), Int.toNat_natCast]
  simp [List.getD, el]

/-- What an image that came of a write, wipe, punch is to the one ahead of it. -/
structure Wrote (m M : ImgD) (n : Nat) (page : ByteArray) (d : Nat) : Prop where
  right : checkE M = 0
  len : M.slots.length ≤ m.slots.length + d
  all : allV M = (allV m).set n page
  pastV : ∀ nm, pastV M nm = pastV m nm
  pastE : ∀ nm, pastE M nm = pastE m nm
  guest : M.guest = m.guest

theorem allP_congr {m M : ImgD} {r r' : List Int} {g : Nat} (h : ∀ q, q < g → pageV M.slots (lookV M r' q) = pageV m.slots (lookV m r q)) : allP M r' g = allP m r g := by
  unfold allP
  exact List.map_congr_left fun q hq => h q (List.mem_range.1 hq)
theorem past_of {m M : ImgD} (hC : checkE m = 0) (hM : checkE M = 0) (hs : M.snaps = m.snaps) (h : ∀ s ∈ m.snaps, allP M s.2.2 s.2.1.toNat = allP m s.2.2 s.2.1.toNat) (nm : ByteArray) : pastV M nm = pastV m nm ∧ pastE M nm = pastE m nm := by
  unfold pastV pastE
  rw [if_neg (by rw [hM]; simp), if_neg (by rw [hC]; simp), if_neg (by rw [hM]; simp), if_neg (by rw [hC]; simp), hs]
  cases hsi : snapIx m.snaps nm with
  | none => exact ⟨rfl, rfl⟩
  | some j => exact ⟨h _ (snapIx_get hsi), rfl⟩
theorem wrote_in {m : ImgD} (hC : checkE m = 0) {n : Nat} (hn : (n : Int) < m.guest) (hi : wInPl m n = true) {page : ByteArray} (hp : page.size = 4) : Wrote m { m with slots := m.slots.set (lookV m m.root n).toNat (1, page, []) } n page 0 := by
  obtain ⟨e, he, e1, el, ek, hown, hsnap⟩ := inplace_only hC hn hi
  have h := checkE_shape hC
  have hr := root_ok h
  have hg := guest_ok h
  rw [he, Int.toNat_natCast]
  obtain ⟨hck, hlk⟩ := setP_same (page := page) hC ek hp
  have hp2 : ∀ nm, pastV { m with slots := m.slots.set e (1, page, []) } nm = pastV m nm ∧ pastE { m with slots := m.slots.set e (1, page, []) } nm = pastE m nm := past_of hC hck rfl fun s hs => allP_congr fun q hq => by
    have hfit := snap_fit h (List.mem_cons_of_mem _ hs)
    rw [hlk]
    exact page_setP (hsnap s hs q (by omega)) (by omega)
  refine ⟨hck, by show (m.slots.set _ _).length ≤ _; rw [List.length_set]; omega, ?_, fun nm => (hp2 nm).1, fun nm => (hp2 nm).2, rfl⟩
  unfold allV
  rw [if_pos hck, if_pos hC]
  unfold allP
  apply List.ext_getElem
  · simp
  · intro q h1 h2
    have hq : q < m.guest.toNat := by simpa using h1
    rw [List.getElem_set, List.getElem_map, List.getElem_range, hlk]
    show pageV (m.slots.set e (1, page, [])) (lookV m m.root q) = _
    by_cases e4 : n = q
    · subst e4
      rw [if_pos rfl, he, page_at e1 el]
    · rw [if_neg e4, List.getElem_map, List.getElem_range]
      exact page_setP (hown q (by omega) (fun x => e4 x.symm)) (by omega)
theorem Laid.wrote {m M : ImgD} {n d : Nat} {x : Int} (hC : checkE m = 0) (hn : (n : Int) < m.guest) (hL : Laid m M (n / 4) ((tableO m (n / 4)).set (n % 4) x)) (hl : M.slots.length ≤ m.slots.length + d) {page : ByteArray} (hp : pageV M.slots x = page) : Wrote m (countedD M) n page d := by
  refine ⟨counted_right hL.shape, ?_, ?_, fun nm => (hL.pastV hC nm).1, fun nm => (hL.pastV hC nm).2, hL.guest⟩
  · have : (countedD M).slots.length = M.slots.length := freeUn_length _ _
    omega
  · rw [← hp]; exact hL.put hC hn
theorem wrote_write {m : ImgD} (hC : checkE m = 0) {n : Nat} (hn : (n : Int) < m.guest) {page : ByteArray} (hp : page.size = 4) {M : ImgD} (hM : writeD m n page = some M) : Wrote m M n page 2 := by
  unfold writeD at hM
  by_cases hi : wInPl m n = true
  · rw [if_pos hi] at hM
    simp only [Option.some.injEq] at hM
    subst hM
    have := wrote_in hC hn hi hp
    exact ⟨this.right, Nat.le_trans this.len (by omega), this.all, this.pastV, this.pastE, this.guest⟩
  · rw [if_neg hi] at hM
    by_cases h1 : tabN m (n / 4) = 40
    · rw [if_pos h1] at hM; cases hM
    · rw [if_neg h1] at hM
      by_cases h2 : wD m n = 40
      · rw [if_pos h2] at hM; cases hM
      · rw [if_neg h2] at hM
        simp only [Option.some.injEq] at hM
        subst hM
        obtain ⟨a, b, c⟩ := write_laid hC hn h1 h2 hp
        exact a.wrote hC hn c b
end Go.Proofs.Ytehleeibgkpjmad
/- Counting slots. Plain lists. -/
namespace Go.Proofs.Ytehleeibgkpjmad
open Go.RowKit Go.Shelf
set_option maxRecDepth 20000
theorem count_but {f : Nat → Bool} {t : Nat} : ∀ n, (∀ j, 1 ≤ j → j < n → j ≠ t → f j = true) → n ≤ (List.range n).countP f + (if 0 < n then 1 else 0) + (if t < n then 1 else 0)
  | 0, _ => by simp
  | n + 1, h => by
    have ih := count_but (f := f) (t := t) n (fun j h1 h2 h3 => h j h1 (by omega) h3)
    rw [List.range_succ, List.countP_append]
    by_cases e : n = t
    · subst e
      rw [if_neg (Nat.lt_irrefl _)] at ih
      rw [if_pos (by omega), if_pos (by omega)]
      split at ih <;> omega
    · by_cases e0 : n = 0
      · subst e0
        rw [if_pos (by omega)]
        omega
      · have hf : f n = true := h n (by omega) (by omega) e
        have e1 : [n].countP f = 1 := by simp [hf]
        rw [e1, if_pos (by omega)]
        rw [if_pos (by omega)] at ih
        split at ih
        · rw [if_pos (by omega)]; omega
        · rename_i hlt
          rw [if_neg (by omega)]; omega
theorem used_kd (L : List SlotD) : usedN L = (List.range L.length).countP (fun j => kd L j != 0) := by
  unfold usedN
  have hl : L = (List.range L.length).map (fun j => L.getD j default) := by
    apply List.ext_getElem
    · simp
    · intro j h1 h2; simp [List.getD, h1]
  conv => lhs; rw [hl]
  rw [List.countP_map]
  rfl
theorem count_none {l : List Int} {t : Int} (h : t ∉ l) : l.count t = 0 := List.count_eq_zero.2 h
theorem used_setP {L : List SlotD} {e : Nat} {page : ByteArray} (hk : kd L e = 1) : usedN (L.set e (1, page, [])) = usedN L := by
  rw [used_kd, used_kd, List.length_set]
  refine List.countP_congr fun j _ => ?_
  rw [kd_setP hk]
end Go.Proofs.Ytehleeibgkpjmad
/- Writing, in numbers: how the counts change, and how many slots a write takes. Plain lists. -/
namespace Go.Proofs.Ytehleeibgkpjmad
open Go.RowKit Go.Shelf
set_option maxRecDepth 20000
set_option linter.unusedVariables false

theorem inPl_specG {m : ImgD} (hC : checkE m = 0) {r : Nat} (hr : r < m.root.length) (hp : inPl m r = true) : ∃ t : Nat, m.root.getD r 0 = (t : Int) ∧ 1 ≤ t ∧ t < m.slots.length ∧ m.refs.getD t 0 = 1 := by
  have hs := checkE_shape hC
  have hro := root_ok hs
  unfold inPl at hp
  simp only [Bool.and_eq_true, bne_iff_ne, ne_eq, beq_iff_eq] at hp
  have hm : m.root.getD r 0 ∈ m.root := by simp [List.getD, hr]
  have hE := List.all_eq_true.1 hro.2 _ hm
  unfold rootE at hE
  have hk : isKd m.slots (m.root.getD r 0) 2 = true := by
    cases hx : isKd m.slots (m.root.getD r 0) 2 with
    | true => rfl
    | false => rw [hx] at hE; simp at hE; exact absurd hE hp.1
  obtain ⟨j, hj, hjl, _⟩ := isKd_yes hk
  refine ⟨j, hj, by omega, hjl, ?_⟩
  rw [hj, Int.toNat_natCast] at hp
  exact hp.2
theorem root_natG {m : ImgD} (hs : shapeE m = 0) {r : Nat} (hr : r < m.root.length) : ∃ t : Nat, m.root.getD r 0 = (t : Int) ∧ t < m.slots.length := by
  have hro := root_ok hs
  have hm : m.root.getD r 0 ∈ m.root := by simp [List.getD, hr]
  have hE := List.all_eq_true.1 hro.2 _ hm
  have hp := slotsE_parts (shapeE_zero hs).2.1
  by_cases h0 : m.root.getD r 0 = 0
  · exact ⟨0, h0, by omega⟩
  · unfold rootE at hE
    have hk : isKd m.slots (m.root.getD r 0) 2 = true := by
      cases hx : isKd m.slots (m.root.getD r 0) 2 with
      | true => rfl
      | false => rw [hx] at hE; simp at hE; exact absurd hE h0
    obtain ⟨j, hj, hjl, _⟩ := isKd_yes hk
    exact ⟨j, hj, hjl⟩
theorem sum_at {f g : Nat → Nat} {k : Nat} : ∀ n, k < n → (∀ j, j ≠ k → g j = f j) → ((List.range n).map g).sum + f k = ((List.range n).map f).sum + g k
  | 0, h, _ => absurd h (by omega)
  | n + 1, h, ho => by
    rw [List.range_succ, List.map_append, List.map_append, List.sum_append, List.sum_append]
    by_cases e : k = n
    · subst e
      have : (List.range k).map g = (List.range k).map f := List.map_congr_left fun j hj => ho j (by have := List.mem_range.1 hj; omega)
      rw [this]; simp; omega
    · have := sum_at n (by omega) ho
      simp [ho n (fun x => e x.symm)]; omega
theorem sum_pad {f : Nat → Nat} {n : Nat} : ∀ d, (∀ j, n ≤ j → f j = 0) → ((List.range (n + d)).map f).sum = ((List.range n).map f).sum
  | 0, _ => rfl
  | d + 1, h => by rw [← Nat.add_assoc, List.range_succ, List.map_append, List.sum_append, sum_pad d h]; simp [h (n + d) (by omega)]
def tC (m : ImgD) (x : Nat) : Nat := (flatR m).count (x : Int)
def pC (m : ImgD) (x : Nat) : Nat := sumT m.slots (flatR m) (x : Int)
theorem pC_40 {m : ImgD} (hl : m.slots.length ≤ 40) (x : Nat) : pC m x = ((List.range 40).map (toldT m.slots (flatR m) (x : Int))).sum := by
  have := sum_pad (f := toldT m.slots (flatR m) (x : Int)) (n := m.slots.length) (40 - m.slots.length) (fun j hj => by
    unfold toldT
    rw [if_neg]
    rintro ⟨h, _⟩
    have := kd_lt (L := m.slots) (j := j) (by rw [h]; decide)
    omega)
  rw [Nat.add_sub_cancel' hl] at this
  exact this.symm
theorem kd_one {m : ImgD} (h : shapeE m = 0) {x : Nat} (hk : kd m.slots x ≠ 0) : 1 ≤ x ∧ x < m.slots.length := by
  refine ⟨?_, kd_lt hk⟩
  rcases Nat.eq_zero_or_pos x with e | e
  · rw [e] at hk; exact absurd (slot0 (shapeE_zero h).2.1) hk
  · exact e
theorem kd_cases {L : List SlotD} (h : slotsE L = 0) {j : Nat} (hj : j < L.length) : kd L j = 0 ∨ kd L j = 1 ∨ kd L j = 2 := by
  have := slotsE_all h hj
  rw [← kd_getElem hj]
  unfold okD slotOK at this
  split at this
  · left; assumption
  · split at this
    · right; left; assumption
    · split at this
      · right; right; assumption
      · cases this
theorem cnt_tab {m : ImgD} (h : shapeE m = 0) {x : Nat} (hk : kd m.slots x = 2) : (cntL m).getD x 0 = (tC m x : Int) := by
  obtain ⟨h1, hx⟩ := kd_one h (x := x) (by rw [hk]; decide)
  rw [cntL_get h x hx]
  unfold cntI tC
  rw [if_neg (by omega), sumT_no (shapeE_zero h).2.2.2.2.2.1 _ h1 (by rw [hk]; decide), Nat.add_zero]
theorem tC_none {m : ImgD} (h : shapeE m = 0) {x : Nat} (h1 : 1 ≤ x) (hk : kd m.slots x ≠ 2) : tC m x = 0 :=
  count_none (fun hm => hk (told_root h hm h1).2.1)
theorem pC_none {m : ImgD} (h : shapeE m = 0) {x : Nat} (h1 : 1 ≤ x) (hk : kd m.slots x ≠ 1) : pC m x = 0 :=
  sumT_no (shapeE_zero h).2.2.2.2.2.1 _ h1 hk
theorem cnt_page {m : ImgD} (h : shapeE m = 0) {x : Nat} (hk : kd m.slots x = 1) : (cntL m).getD x 0 = (pC m x : Int) := by
  obtain ⟨h1, hx⟩ := kd_one h (x := x) (by rw [hk]; decide)
  rw [cntL_get h x hx]
  have h0 := tC_none h h1 (by rw [hk]; decide)
  unfold tC at h0
  unfold cntI pC
  rw [if_neg (by omega), h0, Nat.zero_add]
theorem count_setI (a x : Int) : ∀ (l : List Int) (i : Nat), i < l.length → (l.set i a).count x + (if l.getD i 0 = x then 1 else 0) = l.count x + (if a = x then 1 else 0)
  | [], i, h => absurd h (by simp)
  | b :: l, 0, _ => by
    simp only [List.set_cons_zero, List.count_cons, beq_iff_eq, List.getD_cons_zero]
    omega
  | b :: l, i + 1, h => by
    have := count_setI a x l i (by simpa using h)
    simp only [List.set_cons_succ, List.count_cons, beq_iff_eq, List.getD_cons_succ]
    omega
theorem flatR_cd (m : ImgD) : flatR (countedD m) = flatR m := rfl
theorem pC_counted {m : ImgD} (h : shapeE m = 0) {x : Nat} (h1 : 1 ≤ x) (hx : x < m.slots.length) : pC (countedD m) x = pC m x := by
  have e1 := cntL_get (counted_shape h) x (by show x < (freeUn _ _).length; rw [freeUn_length]; exact hx)
  have e2 := cntL_get h x hx
  rw [counted_cnt h, e2] at e1
  unfold cntI at e1
  rw [if_neg (by omega), if_neg (by omega), flatR_cd] at e1
  unfold pC
  rw [flatR_cd]
  omega

/-! ### What a write takes -/
def lo (m : ImgD) (n : Nat) : Bool := m.root.getD (n / 4) 0 != 0 && tC m (m.root.getD (n / 4) 0).toNat == 1
def so (m : ImgD) (n : Nat) : Bool := decide (0 < lookV m m.root n) && pC m (lookV m m.root n).toNat == 1
def need (m : ImgD) (n : Nat) : Nat := if lo m n = true then (if so m n = true then 0 else 1) else 2

theorem root_facts {m : ImgD} (hC : checkE m = 0) {k : Nat} (hk : k < m.root.length) : ∃ t : Nat, m.root.getD k 0 = (t : Int) ∧ (t = 0 ∨ (1 ≤ t ∧ kd m.slots t = 2 ∧ 1 ≤ tC m t ∧ m.refs.getD t 0 = (tC m t : Int))) := by
  obtain ⟨hs, hr, _⟩ := checkE_zero hC
  obtain ⟨t, ht, _⟩ := root_natG hs hk
  refine ⟨t, ht, ?_⟩
  rcases Nat.eq_zero_or_pos t with e | e
  · exact .inl e
  · have hm : (t : Int) ∈ flatR m := by
      rw [flatR_app, ← ht, getD_at hk]
      exact List.mem_append_left _ (List.getElem_mem hk)
    have h2 := (told_root hs hm e).2.1
    refine .inr ⟨e, h2, List.count_pos_iff.2 hm, ?_⟩
    rw [← hr]; exact cnt_tab hs h2
theorem look_facts {m : ImgD} (hC : checkE m = 0) {n : Nat} (hk : n / 4 < m.root.length) : lookV m m.root n ≤ 0 ∨ ∃ e : Nat, lookV m m.root n = (e : Int) ∧ 1 ≤ e ∧ kd m.slots e = 1 ∧ m.refs.getD e 0 = (pC m e : Int) := by
  obtain ⟨hs, hr, _⟩ := checkE_zero hC
  obtain ⟨ock, oent⟩ := tableO_ok hs hk
  rw [lookV_tableO]
  have h4 : n % 4 < (tableO m (n / 4)).length := by rw [ckE_len ock]; omega
  have hmem : (tableO m (n / 4)).getD (n % 4) 0 ∈ tableO m (n / 4) := by rw [getD_at h4]; exact List.getElem_mem h4
  rcases tabE_cases (oent _ hmem) with e | e | ⟨j, e, _, hkj⟩
  · left; omega
  · left; omega
  · right
    refine ⟨j, e, (kd_one hs (by rw [hkj]; decide)).1, hkj, ?_⟩
    rw [← hr]; exact cnt_page hs hkj
theorem lo_inPl {m : ImgD} (hC : checkE m = 0) {n : Nat} (hk : n / 4 < m.root.length) : lo m n = inPl m (n / 4) := by
  obtain ⟨t, ht, h⟩ := root_facts hC hk
  unfold lo inPl
  rw [ht, Int.toNat_natCast]
  rcases h with h | ⟨_, _, _, h⟩
  · subst h; rfl
  · rw [h]
    congr 1
    rw [Bool.eq_iff_iff]; simp only [beq_iff_eq]; omega
theorem so_wInPl {m : ImgD} (hC : checkE m = 0) {n : Nat} (hk : n / 4 < m.root.length) : wInPl m n = (lo m n && so m n) := by
  rw [lo_inPl hC hk]
  unfold wInPl so
  rcases look_facts hC hk with h | ⟨e, he, h1, _, h2⟩
  · rw [show decide (0 < lookV m m.root n) = false by simp; omega]; simp
  · rw [he, Int.toNat_natCast, h2, show decide (0 < (e : Int)) = true by simp; omega, Bool.true_and, Bool.true_and]
    congr 1
    rw [Bool.eq_iff_iff]; simp only [beq_iff_eq]; omega
/-! ### Used slots -/
theorem used_lay {L : List SlotD} {n : Nat} {s : SlotD} (hn : n ≤ L.length) (hs : s.1 ≠ 0) : usedN (layS L n s) = usedN L + (if kd L n = 0 then 1 else 0) := by
  unfold layS
  by_cases e : n = L.length
  · rw [if_pos e]
    have : kd L n = 0 := by unfold kd; rw [e]; simp [List.getD]; rfl
    rw [if_pos this]
    unfold usedN
    rw [List.countP_append, List.countP_cons]
    simp [hs]
  · rw [if_neg e]
    have hl : n < L.length := by omega
    unfold usedN
    rw [List.countP_set hl]
    have hle : (if (L[n].1 != 0) = true then 1 else 0) ≤ L.countP (fun s => s.1 != 0) := List.boole_getElem_le_countP (p := fun s : SlotD => s.1 != 0) hl
    rw [kd_getElem hl] at hle ⊢
    simp only [hs, bne_iff_ne, ne_eq, not_false_eq_true, if_true]
    by_cases hk : kd L n = 0
    · simp [hk]
    · rw [if_neg hk]
      simp only [bne_iff_ne, ne_eq, hk, not_false_eq_true, if_true] at hle ⊢
      omega
theorem used_le {L : List SlotD} (h0 : kd L 0 = 0) (h1 : 1 ≤ L.length) : usedN L + 1 ≤ L.length := by
  have e := used_lay (L := L) (n := 0) (s := ((1, ⟨#[]⟩, []) : SlotD)) (by omega) (by decide)
  rw [if_pos h0] at e
  have : usedN (layS L 0 (1, ⟨#[]⟩, [])) ≤ (layS L 0 (1, ⟨#[]⟩, [])).length := List.countP_le_length
  rw [layS_length, if_neg (by omega)] at this
  omega
theorem used_le2 {L : List SlotD} (h0 : kd L 0 = 0) {j : Nat} (j1 : 1 ≤ j) (hj : j < L.length) (hk : kd L j = 0) : usedN L + 2 ≤ L.length := by
  have e := used_lay (L := L) (n := j) (s := ((1, ⟨#[]⟩, []) : SlotD)) (by omega) (by decide)
  rw [if_pos hk] at e
  have := used_le (L := layS L j (1, ⟨#[]⟩, [])) (by rw [layS_kd (by omega), if_neg (by omega)]; exact h0) (by rw [layS_length, if_neg (by omega)]; omega)
  rw [layS_length, if_neg (by omega)] at this
  omega
theorem grab40 {L : List SlotD} (h0 : kd L 0 = 0) (h1 : 1 ≤ L.length) (h40 : L.length ≤ 40) : grabN L = 40 ↔ usedN L = 39 := by
  obtain ⟨g1, gl, gu, gf⟩ := grabN_spec h1
  constructor
  · intro e
    have hl : L.length = 40 := by omega
    have hb := count_but (f := fun j => kd L j != 0) (t := 40) 40 (fun j j1 j2 _ => by have := gu j j1 (by omega); simpa using this)
    have hu := used_le h0 h1
    rw [used_kd, hl] at hu ⊢
    simp at hb
    omega
  · intro e
    have hu := used_le h0 h1
    have hl : L.length = 40 := by omega
    by_cases g : grabN L < L.length
    · have := used_le2 h0 g1 g gf
      omega
    · omega
theorem write_none {m : ImgD} (hC : checkE m = 0) {n : Nat} (hn : (n : Int) < m.guest) (page : ByteArray) : writeD m n page = none ↔ 39 < usedN m.slots + need m n := by
  have hs := checkE_shape hC
  have hr := root_ok hs
  have hg := guest_ok hs
  have hk : n / 4 < m.root.length := by omega
  have hsl := (shapeE_zero hs).2.1
  have h0 := slot0 hsl
  have hp := slotsE_parts hsl
  have hu := used_le h0 hp.1
  have hw := so_wInPl hC hk
  unfold writeD
  by_cases hi : wInPl m n = true
  · rw [if_pos hi]
    rw [hi] at hw
    have hw' : lo m n = true ∧ so m n = true := by simpa using hw.symm
    have hnd : need m n = 0 := by unfold need; rw [if_pos hw'.1, if_pos hw'.2]
    rw [hnd]
    simp; omega
  · rw [if_neg hi]
    have hlo := lo_inPl hC hk
    by_cases hl : lo m n = true
    · have hso : so m n = false := by
        cases e : so m n with
        | false => rfl
        | true => rw [hl, e] at hw; exact absurd hw hi
      have hnd : need m n = 1 := by unfold need; rw [if_pos hl, hso, if_neg (by decide)]
      rw [hnd]
      have hin : inPl m (n / 4) = true := by rw [← hlo]; exact hl
      obtain ⟨t, ht, t1, tl, _⟩ := inPl_specG hC hk hin
      have htn : tabN m (n / 4) = t := by unfold tabN; rw [if_pos hin, ht]; simp
      rw [if_neg (by rw [htn]; omega)]
      have hkt : kd m.slots t = 2 := by
        obtain ⟨t', ht', h⟩ := root_facts hC hk
        have : t' = t := by omega
        rcases h with h | h
        · omega
        · rw [← this]; exact h.2.1
      have e1 : usedN (tabL m (n / 4) (tableO m (n / 4))) = usedN m.slots := by
        unfold tabL; rw [htn, used_lay (by omega) (by show (2 : Int) ≠ 0; decide), if_neg (by rw [hkt]; decide)]; rfl
      have e2 : (tabL m (n / 4) (tableO m (n / 4))).length = m.slots.length := by unfold tabL; rw [htn, layS_length, if_neg (by omega)]
      have e3 : kd (tabL m (n / 4) (tableO m (n / 4))) 0 = 0 := by unfold tabL; rw [htn, layS_kd (by omega), if_neg (by omega)]; exact h0
      have e4 := grab40 e3 (by omega) (by omega)
      rw [e1] at e4
      have e5 : wD m n = 40 ↔ usedN m.slots = 39 := e4
      by_cases h : wD m n = 40
      · rw [if_pos h]; have := e5.1 h; simp; omega
      · rw [if_neg h]; have : ¬ usedN m.slots = 39 := fun x => h (e5.2 x)
        simp; omega
    · have hnd : need m n = 2 := by unfold need; rw [if_neg hl]
      rw [hnd]
      have hin : ¬ inPl m (n / 4) = true := by rw [← hlo]; exact hl
      have htn : tabN m (n / 4) = grabN m.slots := by unfold tabN; rw [if_neg hin]
      have e0 := grab40 h0 hp.1 hp.2
      obtain ⟨g1, gl, gu, gf⟩ := grabN_spec hp.1
      by_cases h : tabN m (n / 4) = 40
      · rw [if_pos h]
        have := e0.1 (by rw [← htn]; exact h)
        simp; omega
      · rw [if_neg h]
        have hne : ¬ usedN m.slots = 39 := fun x => h (by rw [htn]; exact e0.2 x)
        have e1 : usedN (tabL m (n / 4) (tableO m (n / 4))) = usedN m.slots + 1 := by
          unfold tabL; rw [htn, used_lay gl (by show (2 : Int) ≠ 0; decide), if_pos gf]
        have hle := layS_le (s := ((2, ⟨#[]⟩, tableO m (n / 4)) : SlotD)) gl hp.2 (by rw [htn] at h; omega)
        have e3 : kd (tabL m (n / 4) (tableO m (n / 4))) 0 = 0 := by unfold tabL; rw [htn, layS_kd gl, if_neg (by omega)]; exact h0
        have e4 := grab40 e3 (by unfold tabL; rw [htn]; omega) (by unfold tabL; rw [htn]; omega)
        rw [e1] at e4
        have e5 : wD m n = 40 ↔ usedN m.slots + 1 = 39 := e4
        by_cases h' : wD m n = 40
        · rw [if_pos h']; have := e5.1 h'; simp; omega
        · rw [if_neg h']; have : ¬ usedN m.slots + 1 = 39 := fun x => h' (e5.2 x)
          simp; omega
end Go.Proofs.Ytehleeibgkpjmad
/- Writing, in numbers, on: what a write turns; two writes, whichever comes first. Plain lists. -/
namespace Go.Proofs.Ytehleeibgkpjmad
open Go.RowKit Go.Shelf
set_option maxRecDepth 20000
set_option linter.unusedVariables false

theorem ite_cast (a b : Nat) : (if a = b then 1 else 0 : Nat) = (if (a : Int) = (b : Int) then 1 else 0) := by
  by_cases e : a = b
  · rw [if_pos e, if_pos (by omega)]
  · rw [if_neg e, if_neg (by omega)]
/-- What a write turns, in numbers: t the table that the page's entry lies in then, d the page's slot. -/
structure Step (m A : ImgD) (n t d : Nat) : Prop where
  right : checkE A = 0
  guest : A.guest = m.guest
  rlen : A.root.length = m.root.length
  root : ∀ j, j < m.root.length → A.root.getD j 0 = if j = n / 4 then (t : Int) else m.root.getD j 0
  look : ∀ q, q / 4 < m.root.length → q ≠ n → lookV A A.root q = lookV m m.root q
  t1 : 1 ≤ t
  tlone : lo m n = true → m.root.getD (n / 4) 0 = (t : Int)
  tfresh : lo m n = false → tC m t = 0
  dsame : lo m n = true → so m n = true → lookV m m.root n = (d : Int)
  dfresh : ¬ (lo m n = true ∧ so m n = true) → pC m d = 0
  tc : ∀ x : Nat, 1 ≤ x → tC A x + (if m.root.getD (n / 4) 0 = (x : Int) then 1 else 0) = tC m x + (if t = x then 1 else 0)
  pc : ∀ x : Nat, 1 ≤ x → x < m.slots.length → pC A x + (if lookV m m.root n = (x : Int) then 1 else 0) = pC m x + (if lo m n = true then 0 else (tableO m (n / 4)).count (x : Int)) + (if d = x then 1 else 0)
  used : usedN A.slots = usedN m.slots + need m n

theorem step_in {m : ImgD} (hC : checkE m = 0) {n : Nat} (hn : (n : Int) < m.guest) {page : ByteArray} (hp : page.size = 4) (hi : wInPl m n = true) :
    ∃ t d, Step m { m with slots := m.slots.set (lookV m m.root n).toNat (1, page, []) } n t d := by
  have hs := checkE_shape hC
  have hr := root_ok hs
  have hg := guest_ok hs
  have hk : n / 4 < m.root.length := by omega
  have hw := so_wInPl hC hk
  rw [hi] at hw
  have hw' : lo m n = true ∧ so m n = true := by simpa using hw.symm
  obtain ⟨t, ht, hT⟩ := root_facts hC hk
  have hpos : 0 < lookV m m.root n := by have := hw'.2; unfold so at this; simp at this; exact this.1
  rcases look_facts hC hk with h | ⟨e, he, e1, hke, _⟩
  · omega
  have t1 : 1 ≤ t := by
    have := hw'.1
    unfold lo at this
    rw [ht] at this
    simp at this
    omega
  rw [he, Int.toNat_natCast]
  obtain ⟨hright, hlook⟩ := setP_same (page := page) hC hke hp
  have hrf : cntL { m with slots := m.slots.set e (1, page, []) } = m.refs := (checkE_zero hright).2.1
  have hpc : ∀ x : Nat, 1 ≤ x → x < m.slots.length → pC { m with slots := m.slots.set e (1, page, []) } x = pC m x := fun x x1 xl => by
    have a1 := cntL_get (checkE_shape hright) x (by show x < (m.slots.set e _).length; rw [List.length_set]; exact xl)
    have a2 := cntL_get hs x xl
    rw [hrf] at a1
    rw [(checkE_zero hC).2.1, a1] at a2
    unfold cntI at a2
    rw [if_neg (by omega), if_neg (by omega)] at a2
    have hfl : flatR { m with slots := m.slots.set e (1, page, []) } = flatR m := rfl
    rw [hfl] at a2
    unfold pC
    rw [hfl]
    omega
  refine ⟨t, e, ⟨hright, rfl, rfl, fun j _ => ?_, fun q hq _ => hlook _ _, t1, fun _ => ht, fun x => ?_, fun _ _ => he, fun x => absurd hw' x, fun x x1 => ?_, fun x x1 xl => ?_, ?_⟩⟩
  · by_cases ej : j = n / 4
    · rw [if_pos ej, ej]; exact ht
    · rw [if_neg ej]
  · rw [hw'.1] at x; cases x
  · show tC m x + _ = _
    rw [ht]
    congr 1
    by_cases ex : t = x
    · rw [if_pos ex, if_pos (by omega)]
    · rw [if_neg ex, if_neg (by omega)]
  · rw [hpc x x1 xl, if_pos hw'.1, he]
    by_cases ex : e = x
    · rw [if_pos ex, if_pos (by omega)]
    · rw [if_neg ex, if_neg (by omega)]
  · show usedN (m.slots.set e (1, page, [])) = _
    rw [used_setP hke]
    unfold need
    rw [if_pos hw'.1, if_pos hw'.2]; rfl

theorem step_else {m : ImgD} (hC : checkE m = 0) {n : Nat} (hn : (n : Int) < m.guest) {page : ByteArray} (hp : page.size = 4) (hi : ¬ wInPl m n = true) (h40 : tabN m (n / 4) ≠ 40) (hd40 : wD m n ≠ 40) :
    Step m (countedD (tabSet m (n / 4) (tabN m (n / 4)) (wL m n page) (rfZ (wL m n page)))) n (tabN m (n / 4)) (wD m n) := by
  obtain ⟨hx, hl, hz, hk, d1, d40, hkd, hdt⟩ := write_ext hC hn h40 hd40 hp
  obtain ⟨hL, hpg, _⟩ := write_laid hC hn h40 hd40 hp
  obtain ⟨t1, tl, t40, tk, _⟩ := tabN_spec hC hk h40
  have hs := checkE_shape hC
  have hsl := (shapeE_zero hs).2.1
  have h40m := (slotsE_parts hsl).2
  obtain ⟨ock, oent⟩ := tableO_ok hs hk
  have hlen := ckE_len ock
  have hlo := lo_inPl hC hk
  have hw := so_wInPl hC hk
  have hlkO := lookV_tableO m n
  obtain ⟨r, hr, hR⟩ := root_facts hC hk
  -- the table: told once, it stays; else it is fresh
  have htl1 : lo m n = true → r = tabN m (n / 4) ∧ kd m.slots (tabN m (n / 4)) = 2 := fun x => by
    rw [hlo] at x
    have e : tabN m (n / 4) = r := by unfold tabN; rw [if_pos x, hr]; simp
    refine ⟨e.symm, ?_⟩
    rw [e]
    rcases hR with h | h
    · omega
    · exact h.2.1
  have htl0 : lo m n = false → kd m.slots (tabN m (n / 4)) = 0 := fun x => by
    rw [hlo] at x
    have e : tabN m (n / 4) = grabN m.slots := by unfold tabN; rw [if_neg (by rw [x]; decide)]
    rw [e]; exact (grabN_spec (slotsE_parts hsl).1).2.2.2
  have hmany : lo m n = false → 1 ≤ r → 2 ≤ tC m r := fun x r1 => by
    rcases hR with h | ⟨_, _, h1, _⟩
    · omega
    · unfold lo at x
      rw [hr, Int.toNat_natCast] at x
      have : ((r : Int) != 0) = true := by simp; omega
      rw [this, Bool.true_and] at x
      have : ¬ tC m r = 1 := by simpa using x
      omega
  obtain ⟨t, ht⟩ : ∃ t, tabN m (n / 4) = t := ⟨_, rfl⟩
  obtain ⟨d, hd⟩ : ∃ d, wD m n = d := ⟨_, rfl⟩
  have es_eq : wEs m n = (tableO m (n / 4)).set (n % 4) (d : Int) := by unfold wEs; rw [hd]
  have hused : usedN (wL m n page) = usedN m.slots + (if lo m n = true then 1 else 2) := by
    unfold wL tabL
    rw [used_lay (by
      have := (grabN_spec (L := tabL m (n / 4) (tableO m (n / 4))) (by unfold tabL; rw [layS_length]; split <;> omega)).2.1
      unfold tabL at this
      rw [layS_length] at this ⊢
      exact this) (by show (1 : Int) ≠ 0; decide), used_lay tl (by show (2 : Int) ≠ 0; decide), layS_kd tl, if_neg hdt, if_pos hkd]
    cases hb : lo m n with
    | true => rw [if_neg (by rw [(htl1 hb).2]; decide), if_pos rfl]
    | false => rw [if_pos (htl0 hb), if_neg (by decide)]
  obtain ⟨T, hT⟩ : ∃ T, tabSet m (n / 4) (tabN m (n / 4)) (wL m n page) (rfZ (wL m n page)) = T := ⟨_, rfl⟩
  have hTs : T.slots = wL m n page := by rw [← hT]; rfl
  have hTr : T.root = m.root.set (n / 4) (t : Int) := by rw [← hT, ← ht]; rfl
  have hTn : T.snaps = m.snaps := by rw [← hT]; rfl
  rw [hT] at hL ⊢
  rw [ht] at hx hl t1 tl t40 hdt htl1 htl0 ⊢
  rw [hd] at d1 d40 hkd hdt ⊢
  have hsh := hL.shape
  obtain ⟨z1, z2, z3, z4, z5, z6, z7⟩ := shapeE_zero hsh
  have h40T := (slotsE_parts z2).2
  have kdt : kd T.slots t = 2 := by rw [hTs]; unfold kd; rw [hx.tab]
  have hfl : flatR T = m.root.set (n / 4) (t : Int) ++ m.snaps.flatMap (fun s => s.2.2) := by rw [flatR_app, hTr, hTn]
  have tc : ∀ x : Nat, 1 ≤ x → tC T x + (if m.root.getD (n / 4) 0 = (x : Int) then 1 else 0) = tC m x + (if t = x then 1 else 0) := fun x x1 => by
    unfold tC
    rw [hfl, flatR_app, List.count_append, List.count_append]
    have := count_setI (t : Int) (x : Int) m.root (n / 4) hk
    rw [ite_cast t x]
    omega
  have tmem : (t : Int) ∈ flatR T := by rw [hfl]; exact List.mem_append_left _ (List.mem_iff_getElem.2 ⟨n / 4, by rw [List.length_set]; exact hk, by simp⟩)
  -- another slot is told by T just if it is told by m
  have told : ∀ j : Nat, j ≠ t → 1 ≤ j → ((j : Int) ∈ flatR T ↔ (j : Int) ∈ flatR m) := fun j hj j1 => by
    have := tc j j1
    have e0 : (if t = j then 1 else 0 : Nat) = 0 := if_neg (fun x => hj x.symm)
    rw [hr, e0] at this
    rw [← List.count_pos_iff, ← List.count_pos_iff]
    show 0 < tC T j ↔ 0 < tC m j
    by_cases e : r = j
    · subst e
      rw [if_pos rfl] at this
      have hb : lo m n = false := by
        cases hb : lo m n with
        | false => rfl
        | true => exact absurd (htl1 hb).1 hj
      have := hmany hb j1
      omega
    · rw [if_neg (by omega)] at this
      omega
  have hoth : ∀ (x j : Nat), j ≠ t → toldT T.slots (flatR T) (x : Int) j = toldT m.slots (flatR m) (x : Int) j := fun x j hj => by
    unfold toldT
    have hkk : kd T.slots j = 2 ↔ kd m.slots j = 2 := by
      rw [hTs]
      refine ⟨hx.tabs j hj, fun h2 => ?_⟩
      have := hx.keep j hj (by rw [h2]; decide)
      unfold kd at h2 ⊢
      rw [this]; exact h2
    by_cases h2 : kd m.slots j = 2
    · have j1 := (kd_one hs (x := j) (by rw [h2]; decide)).1
      have etab : tabOf T.slots j = tabOf m.slots j := by unfold tabOf; rw [Int.toNat_natCast, hTs, hx.keep j hj (by rw [h2]; decide)]
      rw [etab]
      by_cases hm : (j : Int) ∈ flatR m
      · rw [if_pos ⟨hkk.2 h2, (told j hj j1).2 hm⟩, if_pos ⟨h2, hm⟩]
      · rw [if_neg (fun h => hm ((told j hj j1).1 h.2)), if_neg (fun h => hm h.2)]
    · rw [if_neg (fun h => h2 (hkk.1 h.1)), if_neg (fun h => h2 h.1)]
  have pcT : ∀ x : Nat, 1 ≤ x → pC T x + (if lookV m m.root n = (x : Int) then 1 else 0) = pC m x + (if lo m n = true then 0 else (tableO m (n / 4)).count (x : Int)) + (if d = x then 1 else 0) := fun x x1 => by
    have hsum := sum_at (f := toldT m.slots (flatR m) (x : Int)) (g := toldT T.slots (flatR T) (x : Int)) (k := t) 40 t40 (hoth x)
    rw [← pC_40 h40T, ← pC_40 h40m] at hsum
    have e1 : toldT T.slots (flatR T) (x : Int) t = ((tableO m (n / 4)).set (n % 4) (d : Int)).count (x : Int) := by
      unfold toldT
      rw [if_pos ⟨kdt, tmem⟩]
      congr 1
      rw [← es_eq]
      unfold tabOf; rw [Int.toNat_natCast, hTs, hx.tab]
    have e2 := count_setI (d : Int) (x : Int) (tableO m (n / 4)) (n % 4) (by omega)
    rw [← hlkO] at e2
    rw [ite_cast d x]
    cases hb : lo m n with
    | true =>
      obtain ⟨er, ek⟩ := htl1 hb
      have e3 : toldT m.slots (flatR m) (x : Int) t = (tableO m (n / 4)).count (x : Int) := by
        unfold toldT
        have r1 : 1 ≤ r := by omega
        have hm : (t : Int) ∈ flatR m := by
          rw [← er, ← List.count_pos_iff]
          rcases hR with h | h
          · omega
          · exact h.2.2.1
        rw [if_pos ⟨ek, hm⟩]
        congr 1
        unfold tableO
        rw [hr, if_neg (by omega), er]
      rw [if_pos (show true = true from rfl)]
      omega
    | false =>
      have e3 : toldT m.slots (flatR m) (x : Int) t = 0 := by
        unfold toldT
        rw [if_neg (fun h => by rw [htl0 hb] at h; exact absurd h.1 (by decide))]
      rw [if_neg (show ¬ false = true by decide)]
      omega
  have hnso : ¬ (lo m n = true ∧ so m n = true) := fun ⟨a, b⟩ => hi (by rw [hw, a, b]; rfl)
  -- nothing becomes free
  have hfree : ∀ j, kd T.slots j ≠ 0 → (cntL T).getD j 0 ≠ 0 := fun j hj => by
    obtain ⟨j1, jl⟩ := kd_one hsh hj
    have hok := kd_cases z2 jl
    rcases hok with h0 | h1 | h2
    · exact absurd h0 hj
    · rw [cnt_page hsh h1]
      have hp := pcT j j1
      by_cases ed : d = j
      · rw [if_pos ed] at hp
        have : 1 ≤ (tableO m (n / 4)).count (lookV m m.root n) := List.count_pos_iff.2 (by rw [hlkO, getD_at (by omega)]; exact List.getElem_mem (by omega))
        by_cases el : lookV m m.root n = (j : Int)
        · exfalso
          have hkj : kd m.slots j ≠ 0 := by
            rcases look_facts hC hk with h | ⟨e, he, e1, hke, _⟩
            · omega
            · have : e = j := by omega
              rw [← this, hke]; decide
          rw [← ed] at hkj
          exact hkj hkd
        · rw [if_neg el] at hp; omega
      · have hkm : kd m.slots j = 1 := by
          have hjt : j ≠ t := fun e => by rw [e, kdt] at h1; cases h1
          by_cases hz0 : kd m.slots j = 0
          · exfalso
            rw [hTs] at h1
            unfold wL tabL at h1
            rw [ht, hd] at h1
            rw [layS_kd (by
              have := (grabN_spec (L := tabL m (n / 4) (tableO m (n / 4))) (by unfold tabL; rw [layS_length]; split <;> omega)).2.1
              unfold tabL at this
              rw [layS_length] at this ⊢
              rw [← hd, ← ht]; exact this), if_neg (fun e => ed e.symm), layS_kd tl, if_neg hjt, hz0] at h1
            cases h1
          · have := hx.keep j hjt hz0
            rw [hTs] at h1
            unfold kd at h1 ⊢
            rw [← this]; exact h1
        have hm1 : 1 ≤ pC m j := by
          have h3 := (checkE_zero hC).2.2 j (kd_one hs (by rw [hkm]; decide)).2
          unfold freeAt at h3
          have h4 := cnt_page hs hkm
          rw [h4] at h3
          unfold kd at hkm
          rw [hkm] at h3
          simp at h3
          omega
        rw [if_neg ed] at hp
        by_cases el : lookV m m.root n = (j : Int)
        · rw [if_pos el] at hp
          cases hb : lo m n with
          | true =>
            rw [hb, if_pos (show true = true from rfl)] at hp
            have : so m n = false := by
              cases hc : so m n with
              | false => rfl
              | true => exact absurd ⟨hb, hc⟩ hnso
            unfold so at this
            rw [el, Int.toNat_natCast] at this
            have hpos : decide (0 < (j : Int)) = true := by simp; omega
            rw [hpos, Bool.true_and] at this
            have : ¬ pC m j = 1 := by simpa using this
            omega
          | false =>
            rw [hb, if_neg (show ¬ false = true by decide)] at hp
            have : 1 ≤ (tableO m (n / 4)).count (j : Int) := List.count_pos_iff.2 (by rw [← el, hlkO, getD_at (by omega)]; exact List.getElem_mem (by omega))
            omega
        · rw [if_neg el] at hp; omega
    · rw [cnt_tab hsh h2]
      by_cases ej : j = t
      · subst ej
        have : 0 < tC T j := List.count_pos_iff.2 tmem
        omega
      · have hkm : kd m.slots j = 2 := hx.tabs j ej (by rw [← hTs]; exact h2)
        have hm1 : 1 ≤ tC m j := by
          have h3 := (checkE_zero hC).2.2 j (kd_one hs (by rw [hkm]; decide)).2
          unfold freeAt at h3
          have h4 := cnt_tab hs hkm
          rw [h4] at h3
          unfold kd at hkm
          rw [hkm] at h3
          simp at h3
          omega
        have : 0 < tC T j := List.count_pos_iff.2 ((told j ej j1).2 (List.count_pos_iff.1 hm1))
        omega
  have hlT : m.slots.length ≤ T.slots.length := by
    rw [hTs]; unfold wL tabL; rw [layS_length, layS_length]; split <;> split <;> omega
  refine ⟨counted_right hsh, hL.guest, hL.rlen, fun j hj => ?_, fun q hq hqn => ?_, t1, fun x => ?_, fun x => tC_none hs t1 (by rw [htl0 x]; decide), fun a b => absurd ⟨a, b⟩ hnso, fun _ => pC_none hs d1 (by rw [hkd]; decide), tc, fun x x1 xl => ?_, ?_⟩
  · show T.root.getD j 0 = _
    rw [hTr, getD_setI]
    by_cases ej : j = n / 4
    · rw [if_pos ⟨ej.symm, hj⟩, if_pos ej]
    · rw [if_neg (fun h => ej h.1.symm), if_neg ej]
  · have e1 : lookV (countedD T) (countedD T).root q = lookV T T.root q := lookV_counted hsh (s := (⟨#[]⟩, T.guest, T.root)) List.mem_cons_self (n := q) (by show q / 4 < T.root.length; rw [hL.rlen]; exact hq)
    rw [e1, hL.look q hq]
    by_cases eq : q / 4 = n / 4
    · rw [if_pos eq, es_eq, lookV_tableO m q, eq]
      rw [getD_setI, if_neg (fun h => by omega)]
    · rw [if_neg eq]
  · rw [hr, (htl1 x).1]
  · rw [pC_counted hsh x1 (by omega)]
    exact pcT x x1
  · have : usedN (countedD T).slots = usedN T.slots := by
      rw [used_kd, used_kd]
      show (List.range (freeUn T.slots (cntL T)).length).countP _ = _
      rw [freeUn_length]
      refine List.countP_congr (fun j hj => ?_)
      have hj := List.mem_range.1 hj
      have e : kd (countedD T).slots j = if (cntL T).getD j 0 = 0 then 0 else kd T.slots j := by
        show ((freeUn T.slots (cntL T)).getD j default).1 = _
        rw [freeUn_get hj]
        split
        · rfl
        · rfl
      rw [e]
      by_cases hc : (cntL T).getD j 0 = 0
      · rw [if_pos hc]
        have : kd T.slots j = 0 := by
          by_cases h : kd T.slots j = 0
          · exact h
          · exact absurd hc (hfree j h)
        rw [this]
      · rw [if_neg hc]
    rw [this, hTs, hused]
    unfold need
    cases hb : lo m n with
    | true =>
      have : so m n = false := by
        cases hc : so m n with
        | false => rfl
        | true => exact absurd ⟨hb, hc⟩ hnso
      rw [if_pos rfl, if_pos rfl, this, if_neg (by decide)]
    | false => rw [if_neg (by decide), if_neg (by decide)]
theorem step_write {m : ImgD} (hC : checkE m = 0) {n : Nat} (hn : (n : Int) < m.guest) {page : ByteArray} (hp : page.size = 4) {A : ImgD} (hA : writeD m n page = some A) : ∃ t d, Step m A n t d := by
  unfold writeD at hA
  by_cases hi : wInPl m n = true
  · rw [if_pos hi] at hA
    cases hA
    exact step_in hC hn hp hi
  · rw [if_neg hi] at hA
    by_cases h40 : tabN m (n / 4) = 40
    · rw [if_pos h40] at hA; cases hA
    · rw [if_neg h40] at hA
      by_cases hd : wD m n = 40
      · rw [if_pos hd] at hA; cases hA
      · rw [if_neg hd] at hA
        cases hA
        exact ⟨_, _, step_else hC hn hp hi h40 hd⟩
end Go.Proofs.Ytehleeibgkpjmad
