/- Texts joined: ExtP, Grab, WrP, LayI, TabI, CtdI, DeskI, SetI. -/
import Derived.Test.YtehleeibgkpjmaeMendTrueJ4
import Derived.Test.YtehleeibgkpjmaeMendTrueJ1
import Derived.Test.YtehleeibgkpjmaeMendTrueJ3
set_option linter.unusedVariables false
set_option linter.unusedSimpArgs false
/- A table is laid for one entry of Root: what the image is then. Plain lists. -/
namespace Go.Proofs.Ytehleeibgkpjmae
open Go.RowKit Go.Shelf
set_option maxRecDepth 20000

theorem kd_lt {L : List SlotD} {j : Nat} (h : kd L j ≠ 0) : j < L.length := by
  rcases Nat.lt_or_ge j L.length with h' | h'
  · exact h'
  · exfalso; apply h; unfold kd; rw [show L.getD j default = default by simp [List.getD, Nat.not_lt.2 h']]; rfl
theorem tabOf_eq {L L' : List SlotD} {j : Nat} (h : L'.getD j default = L.getD j default) : tabOf L' j = tabOf L j := by
  unfold tabOf; rw [Int.toNat_natCast, h]
theorem kd_eq {L L' : List SlotD} {j : Nat} (h : L'.getD j default = L.getD j default) : kd L' j = kd L j := by
  unfold kd; rw [h]

/-- From the slots L come the slots L': the slot t has the table es, all that was used is as it was, new are pages alone. -/
structure Ext (L L' : List SlotD) (t : Nat) (es : List Int) : Prop where
  len : L'.length ≤ 40
  keep : ∀ j, j ≠ t → kd L j ≠ 0 → L'.getD j default = L.getD j default
  tab : L'.getD t default = (2, ⟨#[]⟩, es)
  page : kd L t ≠ 1
  ok : ∀ j, j < L'.length → okD (L'.getD j default) = true
  head : kd L' 0 = 0
  tabs : ∀ j, j ≠ t → kd L' j = 2 → kd L j = 2
  ents : ∀ e ∈ es, tabE L' e = true

theorem Ext.kdt {L L' : List SlotD} {t : Nat} {es : List Int} (h : Ext L L' t es) : kd L' t = 2 := by unfold kd; rw [h.tab]
theorem Ext.tlt {L L' : List SlotD} {t : Nat} {es : List Int} (h : Ext L L' t es) : t < L'.length := kd_lt (by rw [h.kdt]; decide)
theorem Ext.t1 {L L' : List SlotD} {t : Nat} {es : List Int} (h : Ext L L' t es) : 1 ≤ t := by
  rcases Nat.eq_zero_or_pos t with e | e
  · have := h.kdt; rw [e, h.head] at this; simp at this
  · exact e
theorem Ext.tabt {L L' : List SlotD} {t : Nat} {es : List Int} (h : Ext L L' t es) : tabOf L' t = es := by unfold tabOf; rw [Int.toNat_natCast, h.tab]
theorem Ext.data {L L' : List SlotD} {t : Nat} {es : List Int} (h : Ext L L' t es) {j : Nat} (hj : kd L j = 1) : L'.getD j default = L.getD j default :=
  h.keep j (fun e => h.page (by rw [← e]; exact hj)) (by rw [hj]; decide)
theorem Ext.slots {L L' : List SlotD} {t : Nat} {es : List Int} (h : Ext L L' t es) : slotsE L' = 0 := by
  refine slotsE_ok (by have := h.tlt; omega) h.len (fun j hj => ?_) ?_
  · rw [getElem_getD hj]; exact h.ok j hj
  · rw [getElem_getD]; exact h.head
theorem Ext.tabE {L L' : List SlotD} {t : Nat} {es : List Int} (h : Ext L L' t es) (h0 : slotsE L = 0) {e : Int} (he : tabE L e = true) : Go.Proofs.Ytehleeibgkpjmae.tabE L' e = true := by
  rcases tabE_cases he with e0 | e1 | ⟨j, rfl, hj, hk⟩
  · rw [e0]; rfl
  · rw [e1]; rfl
  · have j1 : 1 ≤ j := by
      rcases Nat.eq_zero_or_pos j with e | e
      · subst e; rw [slot0 h0] at hk; simp at hk
      · exact e
    rw [tabE_x (by omega) (by omega)]
    have hd := h.data hk
    have hk' : kd L' j = 1 := by rw [kd_eq hd]; exact hk
    exact isKd_of (kd_lt (by rw [hk']; decide)) hk'
theorem Ext.fit {L L' : List SlotD} {t : Nat} {es : List Int} (h : Ext L L' t es) (h0 : slotsE L = 0) (hf : tabFit L = true) : tabFit L' = true := by
  unfold tabFit
  rw [List.all_eq_true]
  intro s hs
  obtain ⟨j, hj, rfl⟩ := List.getElem_of_mem hs
  rw [getElem_getD hj, List.all_eq_true]
  intro e he
  by_cases hjt : j = t
  · subst hjt; rw [h.tab] at he; exact h.ents e he
  · by_cases hk : kd L' j = 2
    · have hk0 := h.tabs j hjt hk
      have hkeep := h.keep j hjt (by rw [hk0]; decide)
      rw [hkeep] at he
      have he' : e ∈ tabOf L (j : Int) := by unfold tabOf; rw [Int.toNat_natCast]; exact he
      exact h.tabE h0 (List.all_eq_true.1 (tab_all hf j) e he')
    · exfalso
      have ok := h.ok j hj
      unfold kd at hk
      unfold okD slotOK at ok
      generalize L'.getD j default = s at ok hk he
      rw [if_neg (c := s.1 = 2) hk] at ok
      split at ok
      · simp at ok; rw [ok.2] at he; cases he
      split at ok
      · simp at ok; rw [ok.2] at he; cases he
      · cases ok

/-- Nothing tells t but Root's entry k. -/
structure Lone (m : ImgD) (k t : Nat) : Prop where
  root : ∀ i, i < m.root.length → i ≠ k → m.root.getD i 0 ≠ (t : Int)
  snap : ∀ s ∈ m.snaps, (t : Int) ∉ s.2.2

def tabSet (m : ImgD) (k t : Nat) (L' : List SlotD) (rf : List Int) : ImgD := { m with root := m.root.set k (t : Int), slots := L', refs := rf }

theorem getD_setI (l : List Int) (i j : Nat) (x : Int) : (l.set i x).getD j 0 = if i = j ∧ j < l.length then x else l.getD j 0 := getD_set l i j x

theorem rootE_ext {L L' : List SlotD} {t : Nat} {es : List Int} (h : Ext L L' t es) (h0 : slotsE L = 0) {x : Int} (hx : rootE L x = true) (hne : x ≠ (t : Int)) : rootE L' x = true ∧ tabOf L' x = tabOf L x := by
  rcases rootE_cases hx with e | ⟨j, rfl, hj, hk⟩
  · subst e
    refine ⟨rfl, ?_⟩
    have a : tabOf L 0 = [] := by
      have ok := slotsE_all h0 (slotsE_parts h0).1
      rw [getElem_getD (slotsE_parts h0).1] at ok
      have hk := slot0 h0
      unfold kd at hk
      unfold okD slotOK at ok
      rw [if_pos hk] at ok
      simp at ok
      unfold tabOf
      simpa using ok.2
    have hs := h.slots
    have b : tabOf L' 0 = [] := by
      have ok := slotsE_all hs (slotsE_parts hs).1
      rw [getElem_getD (slotsE_parts hs).1] at ok
      have hk := h.head
      unfold kd at hk
      unfold okD slotOK at ok
      rw [if_pos hk] at ok
      simp at ok
      unfold tabOf
      simpa using ok.2
    rw [a, b]
  · have hjt : j ≠ t := fun e => hne (by rw [e])
    have hkeep := h.keep j hjt (by rw [hk]; decide)
    have hk' : kd L' j = 2 := by rw [kd_eq hkeep]; exact hk
    have j1 : 1 ≤ j := by
      rcases Nat.eq_zero_or_pos j with e | e
      · subst e; rw [slot0 h0] at hk; simp at hk
      · exact e
    refine ⟨?_, tabOf_eq hkeep⟩
    rw [rootE_x (by omega)]
    exact isKd_of (kd_lt (by rw [hk']; decide)) hk'

theorem rootFit_ext {L L' : List SlotD} {t : Nat} {es : List Int} (h : Ext L L' t es) (h0 : slotsE L = 0) {g : Int} {r : List Int} (hf : rootFit L g r = true) (hne : (t : Int) ∉ r) : rootFit L' g r = true := by
  unfold rootFit at hf ⊢
  simp only [Bool.and_eq_true, decide_eq_true_eq] at hf ⊢
  refine ⟨hf.1, ?_, ?_⟩
  · rw [List.all_eq_true]
    intro x hx
    exact (rootE_ext h h0 (List.all_eq_true.1 hf.2.1 x hx) (fun e => hne (e ▸ hx))).1
  · have hl := hf.2.2
    unfold lastFit at hl ⊢
    by_cases hr : r.length = 0
    · rw [List.length_eq_zero_iff.1 hr]; simp
    · have hlt : r.length - 1 < r.length := by omega
      have hmem : r.getD (r.length - 1) 0 ∈ r := by rw [getD_at hlt]; exact List.getElem_mem hlt
      rw [(rootE_ext h h0 (all_at hf.2.1 hlt) (fun e => hne (e ▸ hmem))).2]
      exact hl

/-- The image with the table laid has the form. -/
theorem tabSet_shape {m : ImgD} {k t : Nat} {L' : List SlotD} {es rf : List Int} (h : shapeE m = 0) (hk : k < m.root.length) (hx : Ext m.slots L' t es) (hl : Lone m k t) (hrf : rf.length = L'.length)
    (hlast : k = m.root.length - 1 → m.guest % 4 ≠ 0 → (es.drop (m.guest % 4).toNat).all (fun e => e == 0) = true) : shapeE (tabSet m k t L' rf) = 0 := by
  obtain ⟨z1, z2, z3, z4, z5, z6, z7⟩ := shapeE_zero h
  have hs := hx.slots
  have ht := hx.fit z2 z6
  have hroot := List.all_eq_true.1 z7 (⟨#[]⟩, m.guest, m.root) List.mem_cons_self
  dsimp only at hroot
  have hr : rootFit L' m.guest (m.root.set k (t : Int)) = true := by
    unfold rootFit at hroot ⊢
    simp only [Bool.and_eq_true, decide_eq_true_eq] at hroot ⊢
    refine ⟨by rw [List.length_set]; exact hroot.1, ?_, ?_⟩
    · rw [List.all_eq_true]
      intro x hx'
      obtain ⟨j, hj, rfl⟩ := List.getElem_of_mem hx'
      rw [List.length_set] at hj
      rw [List.getElem_set]
      by_cases e : k = j
      · rw [if_pos e, rootE_x (by have := hx.t1; omega)]
        exact isKd_of hx.tlt hx.kdt
      · rw [if_neg e]
        have hE := all_at hroot.2.1 hj
        have hn := hl.root j hj (fun x => e x.symm)
        rw [getD_at hj] at hE hn
        exact (rootE_ext hx z2 hE hn).1
    · unfold lastFit
      rw [List.length_set, getD_setI]
      by_cases hg : m.guest % 4 = 0
      · simp [hg]
      have hg' : (m.guest % 4 == 0) = false := by simpa using hg
      rw [hg', Bool.false_or]
      have hlt : m.root.length - 1 < m.root.length := by omega
      by_cases e : k = m.root.length - 1
      · rw [if_pos ⟨e, hlt⟩, hx.tabt]
        have := hlast e hg
        rw [this]; simp
      · rw [if_neg (fun x => e x.1)]
        have hold := hroot.2.2
        unfold lastFit at hold
        rw [hg', Bool.false_or] at hold
        rw [(rootE_ext hx z2 (all_at hroot.2.1 hlt) (hl.root _ hlt (fun x => e x.symm))).2]
        exact hold
  have hall : (rootsOf (tabSet m k t L' rf)).all (fun s => rootFit L' s.2.1 s.2.2) = true := by
    show (((⟨#[]⟩, m.guest, m.root.set k (t : Int)) : SnapD) :: m.snaps).all _ = true
    rw [List.all_cons, hr, Bool.true_and, List.all_eq_true]
    intro s hsm
    exact rootFit_ext hx z2 (List.all_eq_true.1 z7 s (List.mem_cons_of_mem _ hsm)) (hl.snap s hsm)
  have hgall : (rootsOf (tabSet m k t L' rf)).all (fun s => guestOK s.2.1) = true := by
    show (((⟨#[]⟩, m.guest, m.root.set k (t : Int)) : SnapD) :: m.snaps).all _ = true
    have := z5
    unfold rootsOf at this
    rw [List.all_cons] at this ⊢
    exact this
  unfold shapeE
  rw [if_neg (by show ¬ 3 < m.snaps.length; omega), if_neg (by show ¬ slotsE L' ≠ 0; simpa using hs), if_neg, if_neg (by rw [hgall]; decide), if_neg (by show ¬ tabFit L' = false; rw [ht]; decide), if_neg (by have e := hall; show ¬ ((rootsOf (tabSet m k t L' rf)).all fun s => rootFit L' s.2.1 s.2.2) = false; rw [e]; decide)]
  rintro (e | e)
  · exact e hrf
  · have : namesOK m.snaps = false := e
    rw [z4] at this; cases this

/-- What is looked at then. -/
theorem look_tabSet {m : ImgD} {k t : Nat} {L' : List SlotD} {es rf : List Int} (hx : Ext m.slots L' t es) (h0 : slotsE m.slots = 0) (hl : Lone m k t) (hall : m.root.all (rootE m.slots) = true) (n : Nat) (hn : n / 4 < m.root.length) :
    lookV (tabSet m k t L' rf) (m.root.set k (t : Int)) n = if n / 4 = k then es.getD (n % 4) 0 else lookV m m.root n := by
  have hg := getD_setI m.root k (n / 4) (t : Int)
  by_cases e : n / 4 = k
  · rw [if_pos (⟨e.symm, hn⟩ : k = n / 4 ∧ n / 4 < m.root.length)] at hg
    unfold lookV
    rw [hg, if_pos e, if_neg (by have := hx.t1; omega)]
    show (tabOf L' (t : Int)).getD (n % 4) 0 = _
    rw [hx.tabt]
  · rw [if_neg (fun x => e x.1.symm)] at hg
    rw [if_neg e]
    unfold lookV
    rw [hg]
    by_cases hz : m.root.getD (n / 4) 0 = 0
    · rw [if_pos hz, if_pos hz]
    · rw [if_neg hz, if_neg hz]
      show (tabOf L' _).getD (n % 4) 0 = _
      rw [(rootE_ext hx h0 (all_at hall hn) (hl.root _ hn e)).2]
theorem look_snap {m : ImgD} {k t : Nat} {L' : List SlotD} {es rf : List Int} (hx : Ext m.slots L' t es) (h0 : slotsE m.slots = 0) {r : List Int} (hall : r.all (rootE m.slots) = true) (hne : (t : Int) ∉ r) (n : Nat) (hn : n / 4 < r.length) :
    lookV (tabSet m k t L' rf) r n = lookV m r n := by
  unfold lookV
  by_cases hz : r.getD (n / 4) 0 = 0
  · rw [if_pos hz, if_pos hz]
  · rw [if_neg hz, if_neg hz]
    show (tabOf L' _).getD (n % 4) 0 = _
    rw [(rootE_ext hx h0 (all_at hall hn) (fun e => hne (by rw [← e, getD_at hn]; exact List.getElem_mem hn))).2]
theorem page_ext {L L' : List SlotD} {t : Nat} {es : List Int} (hx : Ext L L' t es) {e : Int} (he : e = 0 ∨ e = -1 ∨ ∃ j : Nat, e = j ∧ 1 ≤ j ∧ j < L.length ∧ kd L j = 1) : pageV L' e = pageV L e := by
  unfold pageV
  rcases he with rfl | rfl | ⟨j, rfl, j1, hj, hk⟩
  · rfl
  · rfl
  · rw [if_neg (by omega), if_neg (by omega), Int.toNat_natCast, hx.data hk]
end Go.Proofs.Ytehleeibgkpjmae
/- Contract of Grab. -/
namespace Go.Proofs.Ytehleeibgkpjmae
open Go.RowKit
set_option maxRecDepth 20000

/-- The number that Grab comes to: the least one from 1 on of a slot that is free, or how many there are. -/
def GrabAt (L : List SlotD) (g : Nat) : Prop := 1 ≤ g ∧ g ≤ L.length ∧ (∀ j, (h : j < L.length) → 1 ≤ j → j < g → (L[j]).1 ≠ 0) ∧ ∀ h : g < L.length, (L[g]).1 = 0
theorem GrabAt.unique {L : List SlotD} {g g' : Nat} (h : GrabAt L g) (k : GrabAt L g') : g = g' := by
  obtain ⟨h1, h2, h3, h4⟩ := h
  obtain ⟨k1, k2, k3, k4⟩ := k
  rcases Nat.lt_trichotomy g g' with e | e | e
  · exact absurd (h4 (by omega)) (k3 g (by omega) h1 e)
  · exact e
  · exact absurd (k4 (by omega)) (h3 g' (by omega) k1 e)

theorem grab_bad (v : Value) (L : List SlotD) (E : Int) (w : World) (h : Slots w v L) (hE : slotsE L = E) (hne : (E != 0) = true) :
    Calls Try.prog 82 #[v] w fun r w' => r = .returned (.tuple #[.int .i64 0, .int .i64 E]) ∧ Below w.heap.size w w' := by
  have HE : Hid (slotsE L = E) := hE
  clear hE
  go_enter Try.func82, Try.ntmps82
  go_wp2_with (go_at_call 39; refine (checkAll_any _ L _ h).mono ?_; rintro e w1 ⟨he, b1⟩; rw [HE.out] at he; subst he)
  go_ret2
  exact ⟨rfl, b1⟩

set_option maxHeartbeats 1000000 in
theorem grab_at (b off cap n : Nat) (L : List SlotD) (w : World) (hn : L.length = n) (h1 : 1 ≤ n) (h40 : n ≤ 40) (hlt : b < w.heap.size) (hc : ∀ j, (h : j < L.length) → SlAt w b (off + j * 3) L[j]) (hs : Slots w (.slice (some ⟨b, off, none⟩) n cap) L) (hE : slotsE L = 0) :
    Calls Try.prog 82 #[.slice (some ⟨b, off, none⟩) n cap] w fun r w' => ((GrabAt L 40 ∧ r = .returned (.tuple #[.int .i64 0, .int .i64 7])) ∨ ∃ g : Nat, g < 40 ∧ GrabAt L g ∧ r = .returned (.tuple #[.int .i64 g, .int .i64 0])) ∧ Below w.heap.size w w' := by
  have HC : Hid (∀ j, (h : j < L.length) → SlAt w b (off + j * 3) L[j]) := hc
  have HN : Hid (L.length = n) := hn
  have HE : Hid (slotsE L = 0) := hE
  clear hc hn hE
  go_enter Try.func82, Try.ntmps82
  go_wp2_with (go_at_call 39; refine (checkAll_any _ L _ hs).mono ?_; rintro e w1 ⟨he, b1⟩; rw [HE.out] at he; subst he)
  go_loop [5] (fun i => ∃ k : Nat, 1 ≤ k ∧ k ≤ n ∧ i = .int .i64 k ∧ ∀ j, (h : j < L.length) → 1 ≤ j → j < k → (L[j]).1 ≠ 0) (fun i => n - (intOf i).toNat)
  case atStart => exact ⟨1, Nat.le_refl _, h1, rfl, fun j h hj hj' => absurd hj' (by omega)⟩
  case round =>
    obtain ⟨k, hk1, hk, rfl, hall⟩ := hrel
    have HA : Hid (∀ j, (h : j < L.length) → 1 ≤ j → j < k → (L[j]).1 ≠ 0) := hall
    clear hall
    have fin : ∀ g : Nat, GrabAt L g → g = k → ((GrabAt L 40 ∧ (k : Int) = 40) ∨ (k : Int) ≠ 40) := fun g hg e => by
      subst e
      by_cases e : (g : Int) = 40
      · have : g = 40 := by omega
        subst this; exact .inl ⟨hg, rfl⟩
      · exact .inr e
    have HF : Hid (∀ g : Nat, GrabAt L g → g = k → ((GrabAt L 40 ∧ (k : Int) = 40) ∨ (k : Int) ≠ 40)) := fin
    clear fin
    by_cases hlk : k < n
    · obtain ⟨s, hs'⟩ : ∃ s, s = L[k]'(by rw [HN.out]; exact hlk) := ⟨_, rfl⟩
      obtain ⟨kk, dd, tt⟩ := s
      have hS : SlAt w b (off + k * 3) (kk, dd, tt) := by rw [hs']; exact HC.out k _
      obtain ⟨tv, c1, _, _, _⟩ := hS
      have c1 : w1.cell? ⟨b, off + k * 3, none⟩ = some (.int .i64 kk) := (b1.cell (p := ⟨b, off + k * 3, none⟩) hlt).trans c1
      have HS : Hid ((kk, dd, tt) = L[k]'(by rw [HN.out]; exact hlk)) := hs'
      clear hs'
      have hki : (k : Int) < (n : Int) := by omega
      by_cases h0 : kk = 0
      · have h0' : (kk != 0) = false := by simp [h0]
        have H0 : Hid (kk = 0) := h0
        clear h0
        have hne : ((k : Int) == 40) = false := by simp; omega
        have HG : Hid (GrabAt L k) := ⟨hk1, by rw [HN.out]; exact hk, HA.out, fun h => by rw [← HS.out]; exact H0.out⟩
        go_wp2
        go_ret2
        exact ⟨.inr ⟨k, by omega, HG.out, rfl⟩, b1⟩
      · have h0' : (kk != 0) = true := by simp [h0]
        go_wp2
        go_round
        case rel => exact ⟨k + 1, by omega, by omega, by go_num, fun j h hj hj' => by
          by_cases e : j = k
          · subst e; rw [← HS.out]; exact h0
          · exact HA.out j h hj (by omega)⟩
        case measure => simp [intOf]; omega
    · have e4 : k = n := by omega
      subst e4
      have HG : Hid (GrabAt L k) := ⟨hk1, by rw [HN.out]; exact hk, HA.out, fun h => absurd h (by rw [HN.out]; omega)⟩
      by_cases e40 : k = 40
      · subst e40
        go_wp2
        go_ret2
        exact ⟨.inl ⟨HG.out, rfl⟩, b1⟩
      · have hne : ((k : Int) == 40) = false := by simp; omega
        go_wp2
        go_ret2
        exact ⟨.inr ⟨k, by omega, HG.out, rfl⟩, b1⟩

theorem grab_ok (v : Value) (L : List SlotD) (w : World) (h : Slots w v L) (hE : slotsE L = 0) :
    Calls Try.prog 82 #[v] w fun r w' => ((GrabAt L 40 ∧ r = .returned (.tuple #[.int .i64 0, .int .i64 7])) ∨ ∃ g : Nat, g < 40 ∧ GrabAt L g ∧ r = .returned (.tuple #[.int .i64 g, .int .i64 0])) ∧ Below w.heap.size w w' := by
  have hs := h
  obtain ⟨b, off, cap, rfl, hcp, hlt, hcell⟩ := h.open (slotsE_parts hE).1
  exact grab_at b off cap _ L w rfl (slotsE_parts hE).1 (slotsE_parts hE).2 hlt hcell hs hE

/-- There always is such a number. -/
theorem grab_ex (L : List SlotD) (h1 : 1 ≤ L.length) : ∃ g, GrabAt L g := by
  have : ∀ m k : Nat, k + m = L.length → 1 ≤ k → (∀ j, (h : j < L.length) → 1 ≤ j → j < k → (L[j]).1 ≠ 0) → ∃ g, GrabAt L g := by
    intro m
    induction m with
    | zero => intro k hk h1 ha; exact ⟨k, h1, by omega, ha, fun h => absurd h (by omega)⟩
    | succ m ih =>
      intro k hk h1 ha
      have hl : k < L.length := by omega
      by_cases h0 : (L[k]).1 = 0
      · exact ⟨k, h1, by omega, ha, fun _ => h0⟩
      · refine ih (k + 1) (by omega) (by omega) fun j h hj hj' => ?_
        by_cases e : j = k
        · subst e; exact h0
        · exact ha j h hj (by omega)
  exact this (L.length - 1) 1 (by omega) (Nat.le_refl _) fun j h hj hj' => absurd hj' (by omega)

end Go.Proofs.Ytehleeibgkpjmae
/- Writing, wiping, punching: what the document's answer is, and that it has the form. Plain lists. -/
namespace Go.Proofs.Ytehleeibgkpjmae
open Go.RowKit Go.Shelf
set_option maxRecDepth 20000

/-! ### The slot that is grabbed -/
def grabF (L : List SlotD) : Nat → Nat → Nat
  | 0, j => j
  | f + 1, j => if j < L.length ∧ kd L j ≠ 0 then grabF L f (j + 1) else j
def grabN (L : List SlotD) : Nat := grabF L L.length 1
theorem grabF_spec (L : List SlotD) : ∀ (f j : Nat), L.length ≤ j + f → j ≤ L.length → j ≤ grabF L f j ∧ grabF L f j ≤ L.length ∧ (∀ i, j ≤ i → i < grabF L f j → kd L i ≠ 0) ∧ (grabF L f j < L.length → kd L (grabF L f j) = 0)
  | 0, j, h, hj => ⟨Nat.le_refl _, hj, fun i h1 h2 => by simp [grabF] at h2; omega, fun h2 => by simp [grabF] at h2; omega⟩
  | f + 1, j, h, hj => by
    unfold grabF
    by_cases c : j < L.length ∧ kd L j ≠ 0
    · rw [if_pos c]
      obtain ⟨a, b, d, e⟩ := grabF_spec L f (j + 1) (by omega) (by omega)
      refine ⟨by omega, b, fun i h1 h2 => ?_, e⟩
      by_cases ei : i = j
      · subst ei; exact c.2
      · exact d i (by omega) h2
    · rw [if_neg c]
      refine ⟨Nat.le_refl _, hj, fun i h1 h2 => by omega, fun h2 => ?_⟩
      exact Classical.byContradiction fun x => c ⟨h2, x⟩
theorem kd_getElem {L : List SlotD} {j : Nat} (h : j < L.length) : L[j].1 = kd L j := by unfold kd; simp [List.getD, h]
theorem grabN_spec {L : List SlotD} (h1 : 1 ≤ L.length) : 1 ≤ grabN L ∧ grabN L ≤ L.length ∧ (∀ i, 1 ≤ i → i < grabN L → kd L i ≠ 0) ∧ kd L (grabN L) = 0 := by
  obtain ⟨a, b, c, d⟩ := grabF_spec L L.length 1 (by omega) h1
  refine ⟨a, b, c, ?_⟩
  rcases Nat.lt_or_ge (grabN L) L.length with h | h
  · exact d h
  · exact Classical.byContradiction fun x => by have := kd_lt x; omega
theorem grabN_at {L : List SlotD} (h1 : 1 ≤ L.length) : GrabAt L (grabN L) := by
  obtain ⟨a, b, c, d⟩ := grabN_spec h1
  exact ⟨a, b, fun j hj h1 h2 => by rw [kd_getElem hj]; exact c j h1 h2, fun h => by rw [kd_getElem h]; exact d⟩
theorem grabN_le40 {L : List SlotD} (h : slotsE L = 0) : grabN L ≤ 40 := by
  have := slotsE_parts h; have := grabN_spec this.1; omega

/-! ### A slot that is laid -/
def layS (L : List SlotD) (n : Nat) (s : SlotD) : List SlotD := if n = L.length then L ++ [s] else L.set n s
theorem layS_length {L : List SlotD} {n : Nat} {s : SlotD} : (layS L n s).length = if n = L.length then L.length + 1 else L.length := by
  unfold layS; split <;> simp
theorem layS_get {L : List SlotD} {n : Nat} {s : SlotD} (hn : n ≤ L.length) (j : Nat) : (layS L n s).getD j default = if j = n then s else L.getD j default := by
  unfold layS
  by_cases e : n = L.length
  · rw [if_pos e]
    subst e
    by_cases ej : j = L.length
    · subst ej; rw [if_pos rfl]; simp [List.getD]
    · rw [if_neg ej]
      by_cases hj : j < L.length
      · simp [List.getD, List.getElem?_append, hj]
      · have a : L.getD j default = default := by simp [List.getD, hj]
        have b : (L ++ [s]).getD j default = default := by
          have : ¬ j < (L ++ [s]).length := by simp; omega
          unfold List.getD
          rw [List.getElem?_eq_none (by omega)]; rfl
        rw [a, b]
  · rw [if_neg e]
    by_cases ej : j = n
    · subst ej; rw [if_pos rfl]; simp [List.getD, show j < L.length by omega]
    · rw [if_neg ej]; simp [List.getD, Ne.symm ej]
theorem layS_kd {L : List SlotD} {n : Nat} {s : SlotD} (hn : n ≤ L.length) (j : Nat) : kd (layS L n s) j = if j = n then s.1 else kd L j := by
  unfold kd; rw [layS_get hn]; split <;> rfl
theorem layS_le {L : List SlotD} {n : Nat} {s : SlotD} (hn : n ≤ L.length) (h40 : L.length ≤ 40) (hn40 : n < 40) : (layS L n s).length ≤ 40 ∧ L.length ≤ (layS L n s).length ∧ n < (layS L n s).length := by
  rw [layS_length]; split <;> omega

theorem ok_tab {es : List Int} (hes : ckE es = 0) (hb : bareL es = false) : okD (2, ⟨#[]⟩, es) = true := by
  have : bareE es = false := by unfold bareE; rw [if_pos hes, hb]
  show slotOK 2 ⟨#[]⟩ es = true
  rw [slotOK_2]
  exact decide_eq_true ⟨hes, this, rfl⟩
theorem ok_page {page : ByteArray} (h : page.size = 4) : okD (1, page, []) = true := by
  show slotOK 1 page [] = true
  unfold slotOK
  rw [if_neg (by decide), if_pos rfl]
  exact decide_eq_true ⟨h, rfl⟩
/-- A table laid at t. -/
theorem ext_lay {L : List SlotD} {t : Nat} {es : List Int} (h0 : slotsE L = 0) (ht : t ≤ L.length) (t1 : 1 ≤ t) (t40 : t < 40) (hk : kd L t = 0 ∨ kd L t = 2) (hes : ckE es = 0) (hb : bareL es = false) (hents : ∀ e ∈ es, tabE L e = true) : Ext L (layS L t (2, ⟨#[]⟩, es)) t es := by
  have hp := slotsE_parts h0
  have hle := layS_le (s := (2, ⟨#[]⟩, es)) ht hp.2 t40
  have hpg : kd L t ≠ 1 := by rcases hk with e | e <;> rw [e] <;> decide
  refine ⟨hle.1, fun j hj _ => by rw [layS_get ht, if_neg hj], by rw [layS_get ht, if_pos rfl], hpg, fun j hj => ?_, ?_, fun j hj hk2 => ?_, fun e he => ?_⟩
  · rw [layS_get ht]
    by_cases ej : j = t
    · rw [if_pos ej]; exact ok_tab hes hb
    · rw [if_neg ej]
      have hjl : j < L.length := by rw [layS_length] at hj; split at hj <;> omega
      rw [← getElem_getD hjl]; exact slotsE_all h0 hjl
  · rw [layS_kd ht, if_neg (by omega)]; exact slot0 h0
  · rw [layS_kd ht, if_neg hj] at hk2; exact hk2
  · rcases tabE_cases (hents e he) with e0 | e1 | ⟨j, rfl, hj, hkj⟩
    · rw [e0]; rfl
    · rw [e1]; rfl
    · have j1 : 1 ≤ j := by
        rcases Nat.eq_zero_or_pos j with e | e
        · subst e; rw [slot0 h0] at hkj; simp at hkj
        · exact e
      have hjt : j ≠ t := fun e => hpg (by rw [← e]; exact hkj)
      rw [tabE_x (by omega) (by omega)]
      exact isKd_of (by omega) (by rw [layS_kd ht, if_neg hjt]; exact hkj)
/-- A table laid at t, a page at d. -/
theorem ext_write {L : List SlotD} {t d : Nat} {es : List Int} {page : ByteArray} (h0 : slotsE L = 0) (ht : t ≤ L.length) (t1 : 1 ≤ t) (t40 : t < 40) (hk : kd L t = 0 ∨ kd L t = 2) (hes : ckE es = 0) (hb : bareL es = false)
    (hd : d ≤ (layS L t (2, ⟨#[]⟩, es)).length) (d1 : 1 ≤ d) (d40 : d < 40) (hdt : d ≠ t) (hkd : kd L d = 0) (hp4 : page.size = 4) (hents : ∀ e ∈ es, tabE L e = true ∨ e = (d : Int)) : Ext L (layS (layS L t (2, ⟨#[]⟩, es)) d (1, page, [])) t es := by
  have hp := slotsE_parts h0
  have hle := layS_le (s := (2, ⟨#[]⟩, es)) ht hp.2 t40
  have hle2 := layS_le (s := ((1, page, []) : SlotD)) hd hle.1 d40
  have hpg : kd L t ≠ 1 := by rcases hk with e | e <;> rw [e] <;> decide
  refine ⟨hle2.1, fun j hj hkj => ?_, ?_, hpg, fun j hj => ?_, ?_, fun j hj hk2 => ?_, fun e he => ?_⟩
  · have hjd : j ≠ d := fun e => hkj (by rw [e]; exact hkd)
    rw [layS_get hd, if_neg hjd, layS_get ht, if_neg hj]
  · rw [layS_get hd, if_neg (fun e => hdt e.symm), layS_get ht, if_pos rfl]
  · rw [layS_get hd]
    by_cases ed : j = d
    · rw [if_pos ed]; exact ok_page hp4
    · rw [if_neg ed, layS_get ht]
      by_cases ej : j = t
      · rw [if_pos ej]; exact ok_tab hes hb
      · rw [if_neg ej]
        have hjl : j < L.length := by
          rw [layS_length] at hj
          rw [layS_length] at hj hd
          split at hj <;> split at hj <;> split at hd <;> omega
        rw [← getElem_getD hjl]; exact slotsE_all h0 hjl
  · rw [layS_kd hd, if_neg (by omega), layS_kd ht, if_neg (by omega)]; exact slot0 h0
  · rw [layS_kd hd] at hk2
    by_cases ed : j = d
    · rw [if_pos ed] at hk2; simp at hk2
    · rw [if_neg ed, layS_kd ht, if_neg hj] at hk2; exact hk2
  · rcases hents e he with hE | hE
    · rcases tabE_cases hE with e0 | e1 | ⟨j, rfl, hj, hkj⟩
      · rw [e0]; rfl
      · rw [e1]; rfl
      · have j1 : 1 ≤ j := by
          rcases Nat.eq_zero_or_pos j with e | e
          · subst e; rw [slot0 h0] at hkj; simp at hkj
          · exact e
        have hjt : j ≠ t := fun e => hpg (by rw [← e]; exact hkj)
        have hjd : j ≠ d := fun e => by rw [e, hkd] at hkj; simp at hkj
        rw [tabE_x (by omega) (by omega)]
        exact isKd_of (by omega) (by rw [layS_kd hd, if_neg hjd, layS_kd ht, if_neg hjt]; exact hkj)
    · rw [hE, tabE_x (by omega) (by omega)]
      exact isKd_of hle2.2.2 (by rw [layS_kd hd, if_pos rfl])

/-! ### What is told once -/
theorem count_two {t : Int} : ∀ (l : List Int) (i k : Nat), i < k → k < l.length → l.getD i 0 = t → l.getD k 0 = t → 2 ≤ l.count t
  | [], i, k, _, hk, _, _ => absurd hk (by simp)
  | a :: l, 0, k + 1, _, hk, h1, h2 => by
    have h1 : a = t := by simpa using h1
    have h2 : l.getD k 0 = t := by simpa using h2
    have hk : k < l.length := by simpa using hk
    have : t ∈ l := by rw [← h2, getD_at hk]; exact List.getElem_mem hk
    have := List.count_pos_iff.2 this
    rw [List.count_cons, h1]; simp; omega
  | a :: l, i + 1, k + 1, hik, hk, h1, h2 => by
    have := count_two l i k (by omega) (by simpa using hk) (by simpa using h1) (by simpa using h2)
    rw [List.count_cons]; omega
theorem flatR_app (m : ImgD) : flatR m = m.root ++ m.snaps.flatMap (fun s => s.2.2) := rfl
theorem lone_one {m : ImgD} {k t : Nat} (hk : k < m.root.length) (ht : m.root.getD k 0 = (t : Int)) (hc : (flatR m).count (t : Int) = 1) : Lone m k t := by
  rw [flatR_app, List.count_append] at hc
  have hmem : (t : Int) ∈ m.root := by rw [← ht, getD_at hk]; exact List.getElem_mem hk
  have h1 := List.count_pos_iff.2 hmem
  refine ⟨fun i hi hne e => ?_, fun s hs hm => ?_⟩
  · have : 2 ≤ m.root.count (t : Int) := by
      rcases Nat.lt_or_ge i k with h | h
      · exact count_two m.root i k h hk e ht
      · exact count_two m.root k i (by omega) hi ht e
    omega
  · have : (t : Int) ∈ m.snaps.flatMap (fun s => s.2.2) := by rw [List.mem_flatMap]; exact ⟨s, hs, hm⟩
    have := List.count_pos_iff.2 this
    omega
theorem lone_free {m : ImgD} {k t : Nat} (h : shapeE m = 0) (t1 : 1 ≤ t) (ht : kd m.slots t = 0) : Lone m k t := by
  have hno : (t : Int) ∉ flatR m := fun hm => by have := (told_root h hm t1).2.1; rw [ht] at this; simp at this
  rw [flatR_app] at hno
  refine ⟨fun i hi _ e => hno (List.mem_append_left _ (by rw [← e, getD_at hi]; exact List.getElem_mem hi)), fun s hs hm => hno (List.mem_append_right _ (by rw [List.mem_flatMap]; exact ⟨s, hs, hm⟩))⟩

/-! ### The table of an entry of Root, and where it is laid -/
def tableO (m : ImgD) (k : Nat) : List Int := if m.root.getD k 0 = 0 then [0, 0, 0, 0] else tabOf m.slots (m.root.getD k 0)
def inPl (m : ImgD) (k : Nat) : Bool := m.root.getD k 0 != 0 && m.refs.getD (m.root.getD k 0).toNat 0 == 1
def tabN (m : ImgD) (k : Nat) : Nat := if inPl m k = true then (m.root.getD k 0).toNat else grabN m.slots
theorem tableO_ok {m : ImgD} (h : shapeE m = 0) {k : Nat} (hk : k < m.root.length) : ckE (tableO m k) = 0 ∧ ∀ e ∈ tableO m k, tabE m.slots e = true := by
  have hr := root_ok h
  unfold tableO
  by_cases hz : m.root.getD k 0 = 0
  · rw [if_pos hz]
    refine ⟨by decide, fun e he => ?_⟩
    have : e = 0 := by simpa using he
    rw [this]; rfl
  · rw [if_neg hz]
    have hE := all_at hr.2 hk
    rw [rootE_x hz] at hE
    obtain ⟨j, e, hj, hk2⟩ := isKd_yes hE
    rw [e]
    refine ⟨?_, fun x hx => List.all_eq_true.1 (tab_all (shapeE_zero h).2.2.2.2.2.1 _) x hx⟩
    have := okD_tab (slotsE_all (shapeE_zero h).2.1 hj) hk2
    unfold tabOf
    simpa [List.getD, hj] using this.2
theorem tabN_spec {m : ImgD} (hC : checkE m = 0) {k : Nat} (hk : k < m.root.length) (h40 : tabN m k ≠ 40) : 1 ≤ tabN m k ∧ tabN m k ≤ m.slots.length ∧ tabN m k < 40 ∧ (kd m.slots (tabN m k) = 0 ∨ kd m.slots (tabN m k) = 2) ∧ Lone m k (tabN m k) := by
  obtain ⟨h, hcnt, _⟩ := checkE_zero hC
  obtain ⟨z1, z2, z3, z4, z5, z6, z7⟩ := shapeE_zero h
  have hp := slotsE_parts z2
  unfold tabN at h40 ⊢
  by_cases hi : inPl m k = true
  · rw [if_pos hi] at h40 ⊢
    unfold inPl at hi
    simp at hi
    obtain ⟨hz, hrf⟩ := hi
    have hz : m.root.getD k 0 ≠ 0 := hz
    have hrf : m.refs.getD (m.root.getD k 0).toNat 0 = 1 := hrf
    have hE := all_at (root_ok h).2 hk
    rcases rootE_cases hE with e | ⟨j, e, hj, hkj⟩
    · exact absurd e hz
    · have hmem : (j : Int) ∈ flatR m := by rw [flatR_app]; exact List.mem_append_left _ (by rw [← e, getD_at hk]; exact List.getElem_mem hk)
      rw [e, Int.toNat_natCast] at hrf ⊢
      have j1 : 1 ≤ j := by omega
      have hc1 : (flatR m).count (j : Int) = 1 := by
        rw [← hcnt, cntL_get h j hj] at hrf
        unfold cntI at hrf
        rw [if_neg (by omega), sumT_no z6 _ j1 (by rw [hkj]; decide)] at hrf
        omega
      exact ⟨j1, by omega, by omega, .inr hkj, lone_one hk e hc1⟩
  · rw [if_neg hi] at h40 ⊢
    obtain ⟨a, b, c, d⟩ := grabN_spec hp.1
    exact ⟨a, b, by omega, .inl d, lone_free h a d⟩

/-- Entries behind the last page are Hole. -/
def TailZ (m : ImgD) (k : Nat) (es : List Int) : Prop := k = m.root.length - 1 → m.guest % 4 ≠ 0 → (es.drop (m.guest % 4).toNat).all (fun e => e == 0) = true
theorem tableO_tail {m : ImgD} (h : shapeE m = 0) (k : Nat) : TailZ m k (tableO m k) := by
  intro hk hg
  have hf := List.all_eq_true.1 (shapeE_zero h).2.2.2.2.2.2 (⟨#[]⟩, m.guest, m.root) List.mem_cons_self
  unfold rootFit lastFit at hf
  dsimp only at hf
  simp only [Bool.and_eq_true] at hf
  have hl := hf.2.2
  have hg' : (m.guest % 4 == 0) = false := by simpa using hg
  rw [hg', Bool.false_or, ← hk] at hl
  unfold tableO
  by_cases hz : m.root.getD k 0 = 0
  · rw [if_pos hz]
    have : ∀ j, ([0, 0, 0, 0] : List Int).drop j = List.replicate (4 - j) 0 := fun j => by
      have : ([0, 0, 0, 0] : List Int) = List.replicate 4 0 := rfl
      rw [this, List.drop_replicate]
    rw [this]; simp
  · rw [if_neg hz]
    have hz' : (m.root.getD k 0 == 0) = false := by simpa using hz
    rw [hz', Bool.false_or] at hl
    exact hl
theorem tail_set {m : ImgD} {k : Nat} {es : List Int} (h : TailZ m k es) {n : Nat} (hn : (n : Int) < m.guest) (hk : n / 4 = k) (hr : (m.root.length : Int) = (m.guest + 3) / 4) (e : Int) : TailZ m k (es.set (n % 4) e) := by
  intro h1 h2
  have := h h1 h2
  rw [List.drop_set_of_lt (by omega)]
  exact this
theorem set_ck {es : List Int} (h : ckE es = 0) {i : Nat} {e : Int} (he : isE e = true) : ckE (es.set i e) = 0 := by
  refine ckE_yes (by rw [List.length_set]; exact ckE_len h) ?_
  rw [List.all_eq_true]
  intro x hx
  rcases List.mem_or_eq_of_mem_set hx with hm | hm
  · exact List.all_eq_true.1 (ckE_all h) x hm
  · rw [hm]; exact he
theorem bare_get {es : List Int} {i : Nat} (hi : i < es.length) (h : es.getD i 0 ≠ 0) : bareL es = false := by
  unfold bareL
  exact not_all_of hi (by simpa using h)
theorem set_get {es : List Int} {i : Nat} (hi : i < es.length) (e : Int) : (es.set i e).getD i 0 = e := by rw [getD_setI, if_pos ⟨rfl, hi⟩]
theorem mem_set {es : List Int} {i : Nat} {e x : Int} (h : x ∈ es.set i e) : x ∈ es ∨ x = e := List.mem_or_eq_of_mem_set h

/-! ### The answers -/
def rfZ (L : List SlotD) : List Int := List.replicate L.length 0
def tabL (m : ImgD) (k : Nat) (es : List Int) : List SlotD := layS m.slots (tabN m k) (2, ⟨#[]⟩, es)
def tabledD (m : ImgD) (k : Nat) (es : List Int) : Option ImgD :=
  if bareL es = true then some { m with root := m.root.set k 0 } else if tabN m k = 40 then none else some (tabSet m k (tabN m k) (tabL m k es) (rfZ (tabL m k es)))
def putD (m : ImgD) (n : Nat) (e : Int) : Option ImgD := if (tableO m (n / 4)).getD (n % 4) 0 = e then some m else (tabledD m (n / 4) ((tableO m (n / 4)).set (n % 4) e)).map countedD
def wInPl (m : ImgD) (n : Nat) : Bool := decide (0 < lookV m m.root n) && (inPl m (n / 4) && m.refs.getD (lookV m m.root n).toNat 0 == 1)
def wD (m : ImgD) (n : Nat) : Nat := grabN (tabL m (n / 4) (tableO m (n / 4)))
def wEs (m : ImgD) (n : Nat) : List Int := (tableO m (n / 4)).set (n % 4) (wD m n : Int)
def wL (m : ImgD) (n : Nat) (page : ByteArray) : List SlotD := layS (tabL m (n / 4) (wEs m n)) (wD m n) (1, page, [])
def writeD (m : ImgD) (n : Nat) (page : ByteArray) : Option ImgD :=
  if wInPl m n = true then some { m with slots := m.slots.set (lookV m m.root n).toNat (1, page, []) }
  else if tabN m (n / 4) = 40 then none else if wD m n = 40 then none else some (countedD (tabSet m (n / 4) (tabN m (n / 4)) (wL m n page) (rfZ (wL m n page))))

theorem lookV_tableO (m : ImgD) (n : Nat) : lookV m m.root n = (tableO m (n / 4)).getD (n % 4) 0 := by
  unfold lookV tableO
  split
  · have h4 : n % 4 < 4 := Nat.mod_lt _ (by decide)
    have : ∀ i, i < 4 → ([0, 0, 0, 0] : List Int).getD i 0 = 0 := by decide
    rw [this _ h4]
  · rfl

/-- Writing elsewhere: the slots that come. -/
theorem write_ext {m : ImgD} (hC : checkE m = 0) {n : Nat} (hn : (n : Int) < m.guest) (h40 : tabN m (n / 4) ≠ 40) (hd40 : wD m n ≠ 40) {page : ByteArray} (hp : page.size = 4) :
    Ext m.slots (wL m n page) (tabN m (n / 4)) (wEs m n) ∧ Lone m (n / 4) (tabN m (n / 4)) ∧ TailZ m (n / 4) (wEs m n) ∧ n / 4 < m.root.length ∧ 1 ≤ wD m n ∧ wD m n < 40 ∧ kd m.slots (wD m n) = 0 ∧ wD m n ≠ tabN m (n / 4) := by
  obtain ⟨h, _, _⟩ := checkE_zero hC
  have hr := root_ok h
  have hg := guest_ok h
  have hk : n / 4 < m.root.length := by omega
  obtain ⟨t1, tl, t40, tk, hl⟩ := tabN_spec hC hk h40
  obtain ⟨ock, oent⟩ := tableO_ok h hk
  have hs := (shapeE_zero h).2.1
  have hp40 := slotsE_parts hs
  have hle := layS_le (s := ((2, ⟨#[]⟩, tableO m (n / 4)) : SlotD)) tl hp40.2 t40
  obtain ⟨d1, dl, dne, dfree⟩ := grabN_spec (L := tabL m (n / 4) (tableO m (n / 4))) (by unfold tabL; omega)
  have hdt : wD m n ≠ tabN m (n / 4) := fun e => by
    have : kd (tabL m (n / 4) (tableO m (n / 4))) (wD m n) = 0 := dfree
    unfold tabL at this
    rw [layS_kd tl, if_pos e] at this
    simp at this
  have hkd : kd m.slots (wD m n) = 0 := by
    have : kd (tabL m (n / 4) (tableO m (n / 4))) (wD m n) = 0 := dfree
    unfold tabL at this
    rw [layS_kd tl, if_neg hdt] at this
    exact this
  have hdl : wD m n ≤ (layS m.slots (tabN m (n / 4)) (2, ⟨#[]⟩, wEs m n)).length := by
    have : wD m n ≤ (tabL m (n / 4) (tableO m (n / 4))).length := dl
    unfold tabL at this
    rw [layS_length] at this ⊢; exact this
  have hd40' : wD m n < 40 := by
    have : wD m n ≤ (tabL m (n / 4) (tableO m (n / 4))).length := dl
    unfold tabL at this; omega
  have hd1 : 1 ≤ wD m n := d1
  have h4 : n % 4 < (tableO m (n / 4)).length := by rw [ckE_len ock]; omega
  have hEd : isE (wD m n : Int) = true := by rw [isE_iff]; omega
  refine ⟨?_, hl, ?_, hk, hd1, hd40', hkd, hdt⟩
  · refine ext_write hs tl t1 t40 tk (set_ck ock hEd) (bare_get (i := n % 4) (by unfold wEs; rw [List.length_set]; exact h4) (by unfold wEs; rw [set_get h4]; omega)) hdl hd1 hd40' hdt hkd hp (fun e he => ?_)
    rcases mem_set he with hm | hm
    · exact .inl (oent e hm)
    · exact .inr hm
  · exact tail_set (tableO_tail h _) hn rfl hr.1 _
end Go.Proofs.Ytehleeibgkpjmae
/- Contract of the document's lay: a slot is stored, or put behind. -/
namespace Go.Proofs.Ytehleeibgkpjmae
open Go.RowKit Go.Shelf
set_option maxRecDepth 20000

/-- A cell of nobody's row is stored. -/
theorem OI.far {W : World} {B : Nat} {val : Nm → Value} {m : ImgD} (h : OI W B val m) {g i : Nat} {u : Value} (hg : ∀ a, Live m a → (val a).ownBlock ≠ some g) : OI (W.setCell ⟨g, i, none⟩ u) B val m :=
  ⟨fun a ha => ownsRow_setCell_other (h.row a ha) (hg a ha) u, h.apart⟩
theorem OI.lt {W : World} {B : Nat} {val : Nm → Value} {m : ImgD} (h : OI W B val m) {g : Nat} (hg : W.heap.size ≤ g) : ∀ a, Live m a → (val a).ownBlock ≠ some g := fun a ha e => by
  have := ((h.row a ha).lt g e).2
  omega

theorem add_far {m : ImgD} {val : Nm → Value} {ev sv : Value} {s : SlotD} {g : Nat} (h1 : ∀ a, Live m a → (val a).ownBlock ≠ some g) (h2 : ev.ownBlock ≠ some g) (h3 : sv.ownBlock ≠ some g) :
    ∀ a, Live { m with slots := m.slots ++ [s] } a → (upd (upd val (.tab m.slots.length) ev) .slots sv a).ownBlock ≠ some g := fun a ha => by
  by_cases e1 : a = .slots
  · subst e1; rw [upd_same]; exact h3
  rw [upd_other _ _ e1]
  by_cases e2 : a = .tab m.slots.length
  · subst e2; rw [upd_same]; exact h2
  rw [upd_other _ _ e2]
  apply h1
  rcases ha.cases with rfl | rfl | rfl | rfl | ⟨j, rfl, hj⟩ | ⟨j, rfl, hj⟩
  · exact Live.root m
  · exact Live.slots m
  · exact Live.refs m
  · exact Live.snaps m
  · refine Live.tab ?_
    have hj : j < (m.slots ++ [s]).length := hj
    rw [List.length_append, List.length_singleton] at hj
    rcases Nat.lt_or_ge j m.slots.length with h | h
    · exact h
    · exact absurd (by rw [show j = m.slots.length by omega]) e2
  · exact Live.sr hj
theorem set_far {m : ImgD} {val : Nm → Value} {ev : Value} {s : SlotD} {g i : Nat} (h1 : ∀ a, Live m a → (val a).ownBlock ≠ some g) (h2 : ev.ownBlock ≠ some g) :
    ∀ a, Live { m with slots := m.slots.set i s } a → (upd val (.tab i) ev a).ownBlock ≠ some g := fun a ha => by
  by_cases e2 : a = .tab i
  · subst e2; rw [upd_same]; exact h2
  rw [upd_other _ _ e2]
  exact h1 a ((live_iff (m := m) (m' := { m with slots := m.slots.set i s }) List.length_set rfl a).1 ha)
theorem row_some {W : World} {B : Nat} {e : TypeId} {size n : Nat} {v : Value} {xs : List Value} (h : W.ownsRow B e size v (n + 1) xs) : ∃ g cap, v = .slice (some ⟨g, 0, none⟩) (n + 1) cap := by
  rcases row_form h with ⟨_, e⟩ | ⟨g, cap, e, _⟩
  · cases e
  · exact ⟨g, cap, e⟩
theorem cells_frozen {W : World} {b : Nat} {A : Array Value} {t : TypeId} (h : W.heap[b]? = some (.cells A t)) (i : Nat) : W.frozen? ⟨b, i, none⟩ = false := by simp [World.frozen?, h]
theorem own_old {W : World} {B : Nat} {val : Nm → Value} {m : ImgD} (h : OI W B val m) {a : Nm} (ha : Live m a) {v : Value} (hv : val a = v) {g : Nat} (hg : W.heap.size ≤ g) : some g ≠ v.ownBlock := by
  subst hv; exact fun e => h.lt hg a ha e.symm
/-- Where the new image's rows lie: in the old one's, in what was handed in, or in what is new. -/
def Src (w : World) (m : ImgD) (val : Nm → Value) (ev : Value) (m' : ImgD) (val' : Nm → Value) : Prop := ∀ g, g < w.heap.size → ev.ownBlock ≠ some g → (∀ b, Live m b → (val b).ownBlock ≠ some g) → ∀ a, Live m' a → (val' a).ownBlock ≠ some g
/-- Nothing but the image's own rows has turned. -/
def OKeep (w w' : World) (m : ImgD) (val : Nm → Value) : Prop := ∀ q, q < w.heap.size → (∀ a, Live m a → (val a).ownBlock ≠ some q) → w'.heap[q]? = w.heap[q]?
theorem OKeep.refl (w : World) (m : ImgD) (val : Nm → Value) : OKeep w w m val := fun _ _ _ => rfl
theorem OKeep.alloc {w W : World} {m : ImgD} {val : Nm → Value} (h : OKeep w W m val) (hs : w.heap.size ≤ W.heap.size) (o : Obj) : OKeep w (W.alloc o) m val := fun q hq hn => (Below.heap_alloc W o q (by omega)).trans (h q hq hn)
theorem OKeep.own {w W : World} {m : ImgD} {val : Nm → Value} (h : OKeep w W m val) {a : Nm} (ha : Live m a) {g n c : Nat} (hg : val a = .slice (some ⟨g, 0, none⟩) n c) {i : Nat} {v : Value} : OKeep w (W.setCell ⟨g, i, none⟩ v) m val := fun q hq hn =>
  (Below.heap_setCell W ⟨g, i, none⟩ v q (fun e => hn a ha (by rw [hg]; exact congrArg some e.symm))).trans (h q hq hn)
theorem OKeep.new {w W : World} {m : ImgD} {val : Nm → Value} (h : OKeep w W m val) {g i : Nat} (hg : w.heap.size ≤ g) {v : Value} : OKeep w (W.setCell ⟨g, i, none⟩ v) m val := fun q hq hn =>
  (Below.heap_setCell W ⟨g, i, none⟩ v q (fun e => by have e : q = g := e; omega)).trans (h q hq hn)
theorem OKeep.grown {w W W' : World} {m : ImgD} {val : Nm → Value} (h : OKeep w W m val) (hs : w.heap.size ≤ W.heap.size) {a : Nm} (ha : Live m a) {v : Value} (hv : val a = v) (hg : W.grownBy W' v.ownBlock) : OKeep w W' m val := fun q hq hn =>
  (hg.block q (by omega) (fun e => hn a ha (by rw [hv]; exact e.symm))).trans (h q hq hn)
theorem OKeep.below {w W W' : World} {m : ImgD} {val : Nm → Value} (h : OKeep w W m val) {n : Nat} (hs : w.heap.size ≤ n) (hg : Below n W W') : OKeep w W' m val := fun q hq hn => (hg.block q (by omega)).trans (h q hq hn)

theorem OI.forms {W : World} {B : Nat} {val : Nm → Value} {m : ImgD} (h : OI W B val m) (a : Nm) (ha : Live m a) : ∃ ao cap, val a = .slice ao (rowN m a) cap ∧ (0 < rowN m a → ∃ g, ao = some ⟨g, 0, none⟩) := by
  rcases row_form (h.row a ha) with ⟨e, hn⟩ | ⟨g, cap, e, _⟩
  · exact ⟨none, 0, by rw [e, hn], fun hp => absurd hp (by omega)⟩
  · exact ⟨_, cap, e, fun _ => ⟨g, rfl⟩⟩
end Go.Proofs.Ytehleeibgkpjmae
/- Contract of the document's tableOf: a table of one's own. -/
namespace Go.Proofs.Ytehleeibgkpjmae
open Go.RowKit Go.Shelf
set_option maxRecDepth 20000

theorem new_row (W : World) (l : List Int) (hl : l.length ≤ 1000) {B : Nat} (hB : B ≤ W.heap.size) : (W.alloc (.cells (ints l).toArray 3)).ownsRow B 3 1 (.slice (some ⟨W.heap.size, 0, none⟩) l.length l.length) l.length (ints l) :=
  ⟨by simp [ints_length], .inr ⟨W.heap.size, l.length, (ints l).toArray, rfl, hB, World.alloc_heap_new _ _, Nat.le_refl _, by unfold maxLen; omega, by simp [ints_length], by rw [Nat.mul_one]; exact List.take_of_length_le (by simp [ints_length])⟩⟩
def Fresh (w : World) (v : Value) : Prop := ∀ g, v.ownBlock = some g → w.heap.size ≤ g

def tabAt (L : List SlotD) (t : Nat) : List Int := if t = 0 then [0, 0, 0, 0] else (L.getD t default).2.2
end Go.Proofs.Ytehleeibgkpjmae
/- Contract of the document's counted. -/
namespace Go.Proofs.Ytehleeibgkpjmae
open Go.RowKit Go.Shelf
set_option maxRecDepth 20000

def frT (m : ImgD) (k : Nat) : ImgD := { m with refs := cntL m, slots := (List.range m.slots.length).map (fun j => if j < k ∧ (cntL m).getD j 0 = 0 then slotZ else m.slots.getD j default) }
theorem frT_length (m : ImgD) (k : Nat) : (frT m k).slots.length = m.slots.length := by simp [frT]
theorem frT_get (m : ImgD) (k : Nat) {j : Nat} (hj : j < m.slots.length) : (frT m k).slots.getD j default = if j < k ∧ (cntL m).getD j 0 = 0 then slotZ else m.slots.getD j default := by
  unfold frT
  simp only [List.getD, List.getElem?_map, List.getElem?_range hj, Option.map_some, Option.getD_some]
theorem slots_ext {L M : List SlotD} (hl : L.length = M.length) (h : ∀ j, j < L.length → L.getD j default = M.getD j default) : L = M := by
  apply List.ext_getElem hl
  intro j h1 h2
  have := h j h1
  simpa [List.getD, h1, h2] using this
theorem frT_zero (m : ImgD) : frT m 0 = { m with refs := cntL m } := by
  have e : (frT m 0).slots = m.slots := slots_ext (frT_length m 0) (fun j hj => by
    rw [frT_length] at hj
    rw [frT_get m 0 hj, if_neg (by omega)])
  show ImgD.mk _ _ (frT m 0).slots _ _ = _
  rw [e]
theorem frT_end (m : ImgD) : frT m m.slots.length = countedD m := by
  have e : (frT m m.slots.length).slots = freeUn m.slots (cntL m) := slots_ext (by rw [frT_length, freeUn_length]) (fun j hj => by
    rw [frT_length] at hj
    rw [frT_get m _ hj, freeUn_get hj]
    by_cases c : (cntL m).getD j 0 = 0
    · rw [if_pos ⟨hj, c⟩, if_pos c]
    · rw [if_neg (fun x => c x.2), if_neg c])
  show ImgD.mk _ _ (frT m m.slots.length).slots _ _ = _
  rw [e]; rfl
theorem frT_gone (m : ImgD) {k : Nat} (hc : (cntL m).getD k 0 = 0) : frT m (k + 1) = { frT m k with slots := (frT m k).slots.set k slotZ } := by
  have e : (frT m (k + 1)).slots = (frT m k).slots.set k slotZ := slots_ext (by rw [List.length_set, frT_length, frT_length]) (fun j hj => by
    rw [frT_length] at hj
    rw [getD_setR, frT_get m _ hj, frT_length]
    by_cases e : k = j
    · subst e; rw [if_pos ⟨by omega, hc⟩, if_pos ⟨rfl, hj⟩]
    · rw [show (if k = j ∧ j < m.slots.length then slotZ else (frT m k).slots.getD j default) = (frT m k).slots.getD j default from if_neg (fun x => e x.1), frT_get m k hj]
      by_cases c : (cntL m).getD j 0 = 0
      · by_cases l : j < k
        · rw [if_pos ⟨by omega, c⟩, if_pos ⟨l, c⟩]
        · rw [if_neg (by omega), if_neg (fun x => l x.1)]
      · rw [if_neg (fun x => c x.2), if_neg (fun x => c x.2)])
  show ImgD.mk _ _ (frT m (k + 1)).slots _ _ = _
  rw [e]; rfl
theorem frT_kept (m : ImgD) {k : Nat} (hc : (cntL m).getD k 0 ≠ 0) : frT m (k + 1) = frT m k := by
  have e : (frT m (k + 1)).slots = (frT m k).slots := slots_ext (by rw [frT_length, frT_length]) (fun j hj => by
    rw [frT_length] at hj
    rw [frT_get m _ hj, frT_get m _ hj]
    by_cases c : (cntL m).getD j 0 = 0
    · have : j ≠ k := fun x => hc (by rw [← x]; exact c)
      by_cases l : j < k
      · rw [if_pos ⟨by omega, c⟩, if_pos ⟨l, c⟩]
      · rw [if_neg (by omega), if_neg (fun x => l x.1)]
    · rw [if_neg (fun x => c x.2), if_neg (fun x => c x.2)])
  show ImgD.mk _ _ (frT m (k + 1)).slots _ _ = _
  rw [e]; rfl
theorem cells_set {W : World} {b : Nat} {A : Array Value} {t : TypeId} (h : W.heap[b]? = some (.cells A t)) (i : Nat) (v : Value) : (W.setCell ⟨b, i, none⟩ v).heap[b]? = some (.cells (A.setIfInBounds i v) t) := by
  obtain ⟨hlt, hk⟩ := Array.getElem?_eq_some_iff.1 h
  show (W.heap.modify b _)[b]? = _
  rw [Array.getElem?_eq_getElem (by rw [Array.size_modify]; exact hlt), Array.getElem_modify_self, hk]
  simp
theorem cells_other {W : World} {b : Nat} {o : Option Obj} (h : W.heap[b]? = o) {g : Nat} (hg : b ≠ g) (i : Nat) (v : Value) : (W.setCell ⟨g, i, none⟩ v).heap[b]? = o := (Below.heap_setCell W ⟨g, i, none⟩ v b hg).trans h
theorem row_LAt {W : World} {g : Nat} {l : List Int} (h : LAt W g l) {B : Nat} (hB : B ≤ g) (hl : l.length ≤ 1000) : W.ownsRow B 3 1 (.slice (some ⟨g, 0, none⟩) l.length l.length) l.length (ints l) :=
  ⟨by simp [ints_length], .inr ⟨g, l.length, (ints l).toArray, rfl, hB, h, Nat.le_refl _, by unfold maxLen; omega, by simp [ints_length], by rw [Nat.mul_one]; exact List.take_of_length_le (by simp [ints_length])⟩⟩
/-- What holds in the loop. -/
structure CtR (w wr : World) (B : Nat) (m : ImgD) (val : Nm → Value) (k : Nat) : Prop where
  own : ∃ vk, OI wr B vk (frT m k) ∧ vk .root = val .root ∧ vk .slots = val .slots ∧ vk .refs = .slice (some ⟨w.heap.size + 4, 0, none⟩) m.slots.length m.slots.length ∧ vk .snaps = val .snaps ∧ (∀ a, Live m a → a ≠ .refs → ∀ q, q < w.heap.size + 2 → (∀ b, Live m b → (val b).ownBlock ≠ some q) → (vk a).ownBlock ≠ some q)
  box : wr.heap[w.heap.size]? = some (.cells #[.int .i64 m.guest, val .root, val .slots, .slice (some ⟨w.heap.size + 4, 0, none⟩) m.slots.length m.slots.length, val .snaps] 26)
  res : wr.heap[w.heap.size + 1]? = some (.cells #[.int .i64 0, .slice none 0 0, .slice none 0 0, .slice none 0 0, .slice none 0 0] 26)
  bel : Below B w wr
  kep : OKeep w wr m val

set_option maxHeartbeats 4000000 in
theorem counted_at (m : ImgD) (ra : Option Addr) (rn rc : Nat) (g sc : Nat) (fa : Option Addr) (fn fc : Nat) (na : Option Addr) (nn nc : Nat) (B : Nat) (val : Nm → Value) (w : World) (hO : OI w B val m) (e0 : val .root = .slice ra rn rc) (e1 : val .slots = .slice (some ⟨g, 0, none⟩) m.slots.length sc) (e3 : val .snaps = .slice na nn nc) (hB : B ≤ w.heap.size) (hE : shapeE { m with refs := rfZ m.slots } = 0) :
    Calls Try.prog 58 #[.agg #[.int .i64 m.guest, .slice ra rn rc, .slice (some ⟨g, 0, none⟩) m.slots.length sc, .slice fa fn fc, .slice na nn nc]] w fun r w' => ∃ val', r = .returned (imgV m.guest val') ∧ OI w' B val' (countedD m) ∧ Below B w w' ∧ OKeep w w' m val ∧ Src w m val (.slice none 0 0) (countedD m) val' := by
  have m0 : ((w.alloc (.cells #[.int .i64 m.guest, .slice ra rn rc, .slice (some ⟨g, 0, none⟩) m.slots.length sc, .slice fa fn fc, .slice na nn nc] 26)).alloc (.cells #[.int .i64 0, .slice none 0 0, .slice none 0 0, .slice none 0 0, .slice none 0 0] 26)).heap[w.heap.size]? = some (.cells #[.int .i64 m.guest, .slice ra rn rc, .slice (some ⟨g, 0, none⟩) m.slots.length sc, .slice fa fn fc, .slice na nn nc] 26) := cells_alloc (World.alloc_heap_new _ _) _
  have m2 : ((w.alloc (.cells #[.int .i64 m.guest, .slice ra rn rc, .slice (some ⟨g, 0, none⟩) m.slots.length sc, .slice fa fn fc, .slice na nn nc] 26)).alloc (.cells #[.int .i64 0, .slice none 0 0, .slice none 0 0, .slice none 0 0, .slice none 0 0] 26)).heap[w.heap.size + 1]? = some (.cells #[.int .i64 0, .slice none 0 0, .slice none 0 0, .slice none 0 0, .slice none 0 0] 26) := by have := World.alloc_heap_new (w.alloc (.cells #[.int .i64 m.guest, .slice ra rn rc, .slice (some ⟨g, 0, none⟩) m.slots.length sc, .slice fa fn fc, .slice na nn nc] 26)) (.cells #[.int .i64 0, .slice none 0 0, .slice none 0 0, .slice none 0 0, .slice none 0 0] 26); simpa using this
  obtain ⟨c0, c1, c2, c3, c4⟩ := five m0
  have f3 := cells_frozen m0 3
  have h40 : m.slots.length ≤ 40 := (slotsE_parts (shapeE_zero hE).2.1).2
  have h1s : 1 ≤ m.slots.length := (slotsE_parts (shapeE_zero hE).2.1).1
  have hmk := mk_ints m.slots.length h40
  go_enter Try.func58, Try.ntmps58
  have hz0 : ((w.alloc (.cells #[.int .i64 m.guest, .slice ra rn rc, .slice (some ⟨g, 0, none⟩) m.slots.length sc, .slice (some ⟨w.heap.size + 1 + 1, 0, none⟩) m.slots.length m.slots.length, .slice na nn nc] 26)).alloc (.cells #[.int .i64 0, .slice none 0 0, .slice none 0 0, .slice none 0 0, .slice none 0 0] 26)).heap.size = w.heap.size + 1 + 1 := by simp
  have hz1 : (((w.alloc (.cells #[.int .i64 m.guest, .slice ra rn rc, .slice (some ⟨g, 0, none⟩) m.slots.length sc, .slice (some ⟨w.heap.size + 1 + 1, 0, none⟩) m.slots.length m.slots.length, .slice na nn nc] 26)).alloc (.cells #[.int .i64 0, .slice none 0 0, .slice none 0 0, .slice none 0 0, .slice none 0 0] 26)).alloc (.cells (Array.replicate m.slots.length (.int .i64 0)) 3)).heap.size = w.heap.size + 3 := by simp
  have hlz : (rfZ m.slots).length = m.slots.length := by simp [rfZ]
  have hAr : Array.replicate m.slots.length (Value.int .i64 0) = (ints (rfZ m.slots)).toArray := by simp [ints, rfZ]
  have hrow : (((w.alloc (.cells #[.int .i64 m.guest, .slice ra rn rc, .slice (some ⟨g, 0, none⟩) m.slots.length sc, .slice (some ⟨w.heap.size + 1 + 1, 0, none⟩) m.slots.length m.slots.length, .slice na nn nc] 26)).alloc (.cells #[.int .i64 0, .slice none 0 0, .slice none 0 0, .slice none 0 0, .slice none 0 0] 26)).alloc (.cells (Array.replicate m.slots.length (.int .i64 0)) 3)).ownsRow B 3 1 (.slice (some ⟨w.heap.size + 1 + 1, 0, none⟩) m.slots.length m.slots.length) (rfZ m.slots).length (ints (rfZ m.slots)) := by
    have := new_row ((w.alloc (.cells #[.int .i64 m.guest, .slice ra rn rc, .slice (some ⟨g, 0, none⟩) m.slots.length sc, .slice (some ⟨w.heap.size + 1 + 1, 0, none⟩) m.slots.length m.slots.length, .slice na nn nc] 26)).alloc (.cells #[.int .i64 0, .slice none 0 0, .slice none 0 0, .slice none 0 0, .slice none 0 0] 26)) (rfZ m.slots) (by rw [hlz]; omega) (B := B) (by rw [hz0]; omega)
    rw [hz0, hlz] at this
    rw [hAr, hlz]
    exact this
  have hA0 : OI ((w.alloc (.cells #[.int .i64 m.guest, .slice ra rn rc, .slice (some ⟨g, 0, none⟩) m.slots.length sc, .slice (some ⟨w.heap.size + 1 + 1, 0, none⟩) m.slots.length m.slots.length, .slice na nn nc] 26)).alloc (.cells #[.int .i64 0, .slice none 0 0, .slice none 0 0, .slice none 0 0, .slice none 0 0] 26)) B val m := (hO.alloc _).alloc _
  have hZ := (hA0.alloc (.cells (Array.replicate m.slots.length (.int .i64 0)) 3)).swapRefs hrow (far_new hA0 .refs (fun q e => by cases e; rw [hz0]; exact Nat.le_refl _))
  have hI := hZ.img
  have hcall := countsOf_is hI hE
  have eI : imgV m.guest (upd val .refs (.slice (some ⟨w.heap.size + 1 + 1, 0, none⟩) m.slots.length m.slots.length)) = .agg #[.int .i64 m.guest, .slice ra rn rc, .slice (some ⟨g, 0, none⟩) m.slots.length sc, .slice (some ⟨w.heap.size + 1 + 1, 0, none⟩) m.slots.length m.slots.length, .slice na nn nc] := by
    unfold imgV
    rw [upd_same, upd_other _ _ (by intro x; cases x), upd_other _ _ (by intro x; cases x), upd_other _ _ (by intro x; cases x), e0, e1, e3]
  have hcall : Calls Try.prog 57 #[.agg #[.int .i64 m.guest, .slice ra rn rc, .slice (some ⟨g, 0, none⟩) m.slots.length sc, .slice (some ⟨w.heap.size + 1 + 1, 0, none⟩) m.slots.length m.slots.length, .slice na nn nc]] (((w.alloc (.cells #[.int .i64 m.guest, .slice ra rn rc, .slice (some ⟨g, 0, none⟩) m.slots.length sc, .slice (some ⟨w.heap.size + 1 + 1, 0, none⟩) m.slots.length m.slots.length, .slice na nn nc] 26)).alloc (.cells #[.int .i64 0, .slice none 0 0, .slice none 0 0, .slice none 0 0, .slice none 0 0] 26)).alloc (.cells (Array.replicate m.slots.length (.int .i64 0)) 3)) fun r w' => (r = .returned (.slice (some ⟨w.heap.size + 4, 0, none⟩) m.slots.length m.slots.length) ∧ Hid (LAt w' (w.heap.size + 4) (cntL m))) ∧ Hid (Below (w.heap.size + 3) (((w.alloc (.cells #[.int .i64 m.guest, .slice ra rn rc, .slice (some ⟨g, 0, none⟩) m.slots.length sc, .slice (some ⟨w.heap.size + 1 + 1, 0, none⟩) m.slots.length m.slots.length, .slice na nn nc] 26)).alloc (.cells #[.int .i64 0, .slice none 0 0, .slice none 0 0, .slice none 0 0, .slice none 0 0] 26)).alloc (.cells (Array.replicate m.slots.length (.int .i64 0)) 3)) w') := by
    have h := hcall
    rw [hz1, show imgV ({ m with refs := rfZ m.slots } : ImgD).guest (upd val .refs (.slice (some ⟨w.heap.size + 1 + 1, 0, none⟩) m.slots.length m.slots.length)) = .agg #[.int .i64 m.guest, .slice ra rn rc, .slice (some ⟨g, 0, none⟩) m.slots.length sc, .slice (some ⟨w.heap.size + 1 + 1, 0, none⟩) m.slots.length m.slots.length, .slice na nn nc] from eI] at h
    exact h
  have p0 : (((w.alloc (.cells #[.int .i64 m.guest, .slice ra rn rc, .slice (some ⟨g, 0, none⟩) m.slots.length sc, .slice (some ⟨w.heap.size + 1 + 1, 0, none⟩) m.slots.length m.slots.length, .slice na nn nc] 26)).alloc (.cells #[.int .i64 0, .slice none 0 0, .slice none 0 0, .slice none 0 0, .slice none 0 0] 26)).alloc (.cells (Array.replicate m.slots.length (.int .i64 0)) 3)).heap[w.heap.size]? = some (.cells #[.int .i64 m.guest, .slice ra rn rc, .slice (some ⟨g, 0, none⟩) m.slots.length sc, .slice (some ⟨w.heap.size + 1 + 1, 0, none⟩) m.slots.length m.slots.length, .slice na nn nc] 26) := cells_alloc (cells_alloc (World.alloc_heap_new _ _) _) _
  have p1 : (((w.alloc (.cells #[.int .i64 m.guest, .slice ra rn rc, .slice (some ⟨g, 0, none⟩) m.slots.length sc, .slice (some ⟨w.heap.size + 1 + 1, 0, none⟩) m.slots.length m.slots.length, .slice na nn nc] 26)).alloc (.cells #[.int .i64 0, .slice none 0 0, .slice none 0 0, .slice none 0 0, .slice none 0 0] 26)).alloc (.cells (Array.replicate m.slots.length (.int .i64 0)) 3)).heap[w.heap.size + 1]? = some (.cells #[.int .i64 0, .slice none 0 0, .slice none 0 0, .slice none 0 0, .slice none 0 0] 26) := cells_alloc (by have := World.alloc_heap_new (w.alloc (.cells #[.int .i64 m.guest, .slice ra rn rc, .slice (some ⟨g, 0, none⟩) m.slots.length sc, .slice (some ⟨w.heap.size + 1 + 1, 0, none⟩) m.slots.length m.slots.length, .slice na nn nc] 26)) (.cells #[.int .i64 0, .slice none 0 0, .slice none 0 0, .slice none 0 0, .slice none 0 0] 26); simpa using this) _
  have hfarO : ∀ a, Live m a → (val a).ownBlock ≠ some w.heap.size ∧ (val a).ownBlock ≠ some (w.heap.size + 1) := fun a ha => ⟨hO.lt (Nat.le_refl _) a ha, hO.lt (by omega) a ha⟩
  have hBV : Below B w (((w.alloc (.cells #[.int .i64 m.guest, .slice ra rn rc, .slice (some ⟨g, 0, none⟩) m.slots.length sc, .slice (some ⟨w.heap.size + 1 + 1, 0, none⟩) m.slots.length m.slots.length, .slice na nn nc] 26)).alloc (.cells #[.int .i64 0, .slice none 0 0, .slice none 0 0, .slice none 0 0, .slice none 0 0] 26)).alloc (.cells (Array.replicate m.slots.length (.int .i64 0)) 3)) := (((Below.refl B w).alloc hB _).alloc (by simp <;> omega) _).alloc (by simp <;> omega) _
  have hAV : OI (((w.alloc (.cells #[.int .i64 m.guest, .slice ra rn rc, .slice (some ⟨g, 0, none⟩) m.slots.length sc, .slice (some ⟨w.heap.size + 1 + 1, 0, none⟩) m.slots.length m.slots.length, .slice na nn nc] 26)).alloc (.cells #[.int .i64 0, .slice none 0 0, .slice none 0 0, .slice none 0 0, .slice none 0 0] 26)).alloc (.cells (Array.replicate m.slots.length (.int .i64 0)) 3)) B val m := hA0.alloc _
  have hlc : (cntL m).length = m.slots.length := cntL_length m
  clear hI hZ hrow hAr
  go_wp2_with (go_at_call 57; refine hcall.mono ?_; rintro e w3 ⟨⟨rfl, hL⟩, hb3⟩; have q0 := cells_below p0 hb3.out (by omega); have q1 := cells_below p1 hb3.out (by omega); obtain ⟨d0, d1, d2, d3, d4⟩ := five q0; have fz := cells_frozen q0 3)
  have hb3' : Below (((w.alloc (.cells #[.int .i64 m.guest, .slice ra rn rc, .slice (some ⟨g, 0, none⟩) m.slots.length sc, .slice (some ⟨w.heap.size + 1 + 1, 0, none⟩) m.slots.length m.slots.length, .slice na nn nc] 26)).alloc (.cells #[.int .i64 0, .slice none 0 0, .slice none 0 0, .slice none 0 0, .slice none 0 0] 26)).alloc (.cells (Array.replicate m.slots.length (.int .i64 0)) 3)).heap.size (((w.alloc (.cells #[.int .i64 m.guest, .slice ra rn rc, .slice (some ⟨g, 0, none⟩) m.slots.length sc, .slice (some ⟨w.heap.size + 1 + 1, 0, none⟩) m.slots.length m.slots.length, .slice na nn nc] 26)).alloc (.cells #[.int .i64 0, .slice none 0 0, .slice none 0 0, .slice none 0 0, .slice none 0 0] 26)).alloc (.cells (Array.replicate m.slots.length (.int .i64 0)) 3)) w3 := by rw [hz1]; exact hb3.out
  have hO3 : OI w3 B val m := hAV.below hb3'
  have hrc : w3.ownsRow B 3 1 (.slice (some ⟨w.heap.size + 4, 0, none⟩) m.slots.length m.slots.length) (cntL m).length (ints (cntL m)) := by
    have := row_LAt hL.out (B := B) (by omega) (by rw [hlc]; omega)
    rw [hlc] at this ⊢
    exact this
  have hS3 := hO3.swapRefs hrc (far_new hAV .refs (fun q e => by cases e; rw [hz1]; show w.heap.size + 3 ≤ w.heap.size + 4; omega))
  have hfa : ∀ a, Live m a → a ≠ .refs → ∀ q, q < w.heap.size + 2 → (∀ b, Live m b → (val b).ownBlock ≠ some q) → (upd val .refs (.slice (some ⟨w.heap.size + 4, 0, none⟩) m.slots.length m.slots.length) a).ownBlock ≠ some q := fun a ha hne q _ hm => by rw [upd_other _ _ hne]; exact hm a ha
  have HFO : Hid (∀ b, Live m b → (val b).ownBlock ≠ some (w.heap.size + 1)) := fun b hb => (hfarO b hb).2
  have HS : Hid (CtR w (w3.setCell ⟨w.heap.size, 3, none⟩ (.slice (some ⟨w.heap.size + 4, 0, none⟩) m.slots.length m.slots.length)) B m val 0) := by
    refine ⟨⟨upd val .refs (.slice (some ⟨w.heap.size + 4, 0, none⟩) m.slots.length m.slots.length), ?_, upd_other _ _ (by intro x; cases x), upd_other _ _ (by intro x; cases x), upd_same _ _ _, upd_other _ _ (by intro x; cases x), hfa⟩, ?_, cells_other q1 (by omega) _ _, (hBV.trans (hb3'.mono (by rw [hz1]; omega))).setCell hB _, (OKeep.below ((((OKeep.refl w m val).alloc (Nat.le_refl _) _).alloc (by simp) _).alloc (by simp <;> omega) _) (n := w.heap.size + 3) (by omega) hb3.out).new (Nat.le_refl _)⟩
    · rw [frT_zero]
      refine hS3.far (fun a ha => ?_)
      by_cases e : a = .refs
      · subst e; rw [upd_same]; intro x; have x : w.heap.size + 4 = w.heap.size := Option.some.inj x; omega
      · exact hfa a ha e w.heap.size (by omega) (fun b hb => (hfarO b hb).1)
    · have := cells_set q0 3 (.slice (some ⟨w.heap.size + 4, 0, none⟩) m.slots.length m.slots.length)
      rw [e0, e1, e3]
      exact this
  have HV : Hid (val .root = .slice ra rn rc ∧ val .slots = .slice (some ⟨g, 0, none⟩) m.slots.length sc ∧ val .snaps = .slice na nn nc) := ⟨e0, e1, e3⟩
  have HG : Hid (B ≤ g ∧ g < w.heap.size) := by
    have := hO.row .slots (Live.slots m)
    rw [e1] at this
    exact this.lt g rfl
  clear hb3' hO3 hrc hS3 hfa hfarO hBV hAV hA0 hO hE hz0 hz1 hlz hcall hL hb3 q0 q1 d0 d1 d2 d3 d4 fz p0 p1 m0 m2 c0 c1 c2 c3 c4 f3 e0 e1 e3 hmk eI
  go_loopw [3] (fun i wr => ∃ k : Nat, k ≤ m.slots.length ∧ i = .int .i64 k ∧ Hid (CtR w wr B m val k)) (fun i _ => m.slots.length - (intOf i).toNat)
  case atStart => exact ⟨0, Nat.zero_le _, rfl, HS⟩
  case round =>
    obtain ⟨k, hk, rfl, HC⟩ := hrel
    obtain ⟨⟨vk, hOk, v0, v1, v2, v3, hfk⟩, hbox, hres, hbel, hkep⟩ := HC.out
    obtain ⟨e0, e1, e3⟩ := HV.out
    rw [e0] at v0
    rw [e1] at v1
    rw [e3] at v3
    rw [e0, e1, e3] at hbox
    obtain ⟨d0, d1, d2, d3, d4⟩ := five hbox
    have hgl := HG.out
    have g1 : ¬ g = w.heap.size := by omega
    have g2 : ¬ w.heap.size = g := by omega
    have g3 : ¬ g = w.heap.size + 1 := by omega
    have g4 : ¬ w.heap.size + 1 = g := by omega
    by_cases hlk : k < m.slots.length
    · have hki : (k : Int) < (m.slots.length : Int) := by omega
      obtain ⟨x, hx⟩ : ∃ x, x = (cntL m).getD k 0 := ⟨_, rfl⟩
      have cx : wr.cell? ⟨w.heap.size + 4, k, none⟩ = some (.int .i64 x) := by
        have hr := hOk.row .refs (Live.refs _)
        rw [v2] at hr
        have hr : wr.ownsRow B 3 1 (.slice (some ⟨w.heap.size + 4, 0, none⟩) m.slots.length m.slots.length) (cntL m).length (ints (cntL m)) := hr
        rw [hlc] at hr
        rw [hx]
        refine (hr.cellAt k (by omega)).trans ?_
        unfold ints
        rw [List.getElem?_map, List.getElem?_eq_getElem (by rw [hlc]; exact hlk)]
        simp [List.getD, hlc, hlk]
      have HX : Hid (x = (cntL m).getD k 0) := hx
      clear hx
      by_cases h0 : x = 0
      · have h0' : (x == 0) = true := by simp [h0]
        have H0 : Hid ((cntL m).getD k 0 = 0) := HX.out.symm.trans h0
        clear h0
        have hls := frT_length m k
        have hr := hOk.row .slots (Live.slots _)
        rw [v1] at hr
        obtain ⟨s0, s1, s2⟩ := flatS_get (L := (frT m k).slots) (tv := fun j => vk (.tab j)) (j := k) (by rw [hls]; exact hlk)
        have hr : wr.ownsRow B 72 3 (.slice (some ⟨g, 0, none⟩) m.slots.length sc) m.slots.length (flatS (frT m k).slots (fun j => vk (.tab j))) := by rw [← hls]; rw [← hls] at hr; exact hr
        have t0 : wr.cell? ⟨g, k * 3, none⟩ = some _ := (hr.cellAt (k * 3) (by omega)).trans s0
        have t1 : wr.cell? ⟨g, k * 3 + 1, none⟩ = some _ := (hr.cellAt (k * 3 + 1) (by omega)).trans s1
        have t2 : wr.cell? ⟨g, k * 3 + 2, none⟩ = some _ := (hr.cellAt (k * 3 + 2) (by omega)).trans s2
        have u0 := hr.frozenAt (k * 3)
        have u1 := hr.frozenAt (k * 3 + 1)
        have u2 := hr.frozenAt (k * 3 + 2)
        have HN : Hid (CtR w (((wr.setCell ⟨g, k * 3, none⟩ (.int .i64 0)).setCell ⟨g, k * 3 + 1, none⟩ (.string ⟨#[]⟩)).setCell ⟨g, k * 3 + 2, none⟩ (.slice none 0 0)) B m val (k + 1)) := by
          have hN := hOk.setSlot (t := k) (by rw [hls]; exact hlk) v1 0 ⟨#[]⟩ [] (ev := .slice none 0 0) (World.ownsRow_nil _ _ _ _) (far_nil _ _ _ _ _)
          refine ⟨⟨upd vk (.tab k) (.slice none 0 0), ?_, (upd_other _ _ (by intro x; cases x)).trans (v0.trans e0.symm), (upd_other _ _ (by intro x; cases x)).trans (v1.trans e1.symm), (upd_other _ _ (by intro x; cases x)).trans v2, (upd_other _ _ (by intro x; cases x)).trans (v3.trans e3.symm), fun a ha hne q hq hm => ?_⟩, ?_, ?_, ((hbel.setCell hgl.1 _).setCell hgl.1 _).setCell hgl.1 _, ((hkep.own (Live.slots m) e1).own (Live.slots m) e1).own (Live.slots m) e1⟩
          · rw [frT_gone m H0.out]; exact hN
          · by_cases e : a = .tab k
            · subst e; rw [upd_same]; intro x; cases x
            · rw [upd_other _ _ e]; exact hfk a ha hne q hq hm
          · rw [e0, e1, e3]
            exact cells_other (cells_other (cells_other hbox g2 _ _) g2 _ _) g2 _ _
          · exact cells_other (cells_other (cells_other hres g4 _ _) g4 _ _) g4 _ _
        clear hkep hOk hbox hres hbel hr s0 s1 s2 e0 e1 e3 v0 v1 v2 v3 hfk HC HX H0 hls
        go_wp2_with fail
        go_roundw
        case rel => exact ⟨k + 1, by omega, by go_num, HN⟩
        case measure => simp [intOf]; omega
      · have h0' : (x == 0) = false := by simp [h0]
        have HN : Hid (CtR w wr B m val (k + 1)) := by
          refine ⟨⟨vk, ?_, v0.trans e0.symm, v1.trans e1.symm, v2, v3.trans e3.symm, hfk⟩, HC.out.box, HC.out.res, HC.out.bel, HC.out.kep⟩
          rw [frT_kept m (fun e => h0 (HX.out.trans e))]
          exact hOk
        clear hkep hOk hbox hres hbel e0 e1 e3 v0 v1 v2 v3 hfk HC HX
        go_wp2_with fail
        go_roundw
        case rel => exact ⟨k + 1, by omega, by go_num, HN⟩
        case measure => simp [intOf]; omega
    · have ek : k = m.slots.length := by omega
      subst ek
      obtain ⟨z0, z1, z2, z3, z4⟩ := five hres
      have y0 := cells_frozen hres 0
      have y1 := cells_frozen hres 1
      have y2 := cells_frozen hres 2
      have y3 := cells_frozen hres 3
      have y4 := cells_frozen hres 4
      have hfr : ∀ a, Live (frT m m.slots.length) a → (vk a).ownBlock ≠ some (w.heap.size + 1) := fun a ha => by
        by_cases e : a = .refs
        · subst e; rw [v2]; intro x; have x : w.heap.size + 4 = w.heap.size + 1 := Option.some.inj x; omega
        · exact (hfk a ((live_iff (m := m) (m' := frT m m.slots.length) (frT_length m _) rfl a).1 ha) e _ (by omega) HFO.out)
      have hF : OI wr B vk (frT m m.slots.length) := hOk
      rw [frT_end] at hF hfr
      have HF : Hid (OI wr B vk (countedD m)) := hF
      have hsrc : Src w m val (.slice none 0 0) (countedD m) vk := fun q hq _ hm a ha => by
        by_cases e : a = .refs
        · subst e; rw [v2]; intro x; have x : w.heap.size + 4 = q := Option.some.inj x; omega
        · exact hfk a ((live_iff (m := m) (m' := countedD m) (freeUn_length _ _) rfl a).1 ha) e q (by omega) hm
      clear hF hOk HC
      go_wp2_with fail
      have hB1 : B ≤ w.heap.size + 1 := by omega
      refine bodyPost_ret (v := .agg #[.int .i64 m.guest, .slice ra rn rc, .slice (some ⟨g, 0, none⟩) m.slots.length sc, .slice (some ⟨w.heap.size + 4, 0, none⟩) m.slots.length m.slots.length, .slice na nn nc]) (by simp [results, Try.results58, go_sem, z0, z1, z2, z3, z4]) rfl ⟨vk, ?_, ((((HF.out.far hfr).far hfr).far hfr).far hfr).far hfr, ((((hbel.setCell hB1 _).setCell hB1 _).setCell hB1 _).setCell hB1 _).setCell hB1 _, ((((hkep.new (by omega)).new (by omega)).new (by omega)).new (by omega)).new (by omega), hsrc⟩
      unfold imgV
      rw [v0, v1, v2, v3]

theorem counted_is {m : ImgD} {B : Nat} {val : Nm → Value} {w : World} (hO : OI w B val m) (hB : B ≤ w.heap.size) (hE : shapeE { m with refs := rfZ m.slots } = 0) :
    Calls Try.prog 58 #[imgV m.guest val] w fun r w' => ∃ val', r = .returned (imgV m.guest val') ∧ OI w' B val' (countedD m) ∧ Below B w w' ∧ OKeep w w' m val ∧ Src w m val (.slice none 0 0) (countedD m) val' := by
  obtain ⟨ra, rc, e0, _⟩ := hO.forms .root (Live.root m)
  obtain ⟨sa, sc, e1, hs⟩ := hO.forms .slots (Live.slots m)
  obtain ⟨fa, fc, e2, _⟩ := hO.forms .refs (Live.refs m)
  obtain ⟨na, nc, e3, _⟩ := hO.forms .snaps (Live.snaps m)
  have h1s : 1 ≤ m.slots.length := (slotsE_parts (shapeE_zero hE).2.1).1
  obtain ⟨g, rfl⟩ := hs (by show 0 < m.slots.length; omega)
  have e1 : val .slots = .slice (some ⟨g, 0, none⟩) m.slots.length sc := e1
  unfold imgV
  rw [e0, e1, e2, e3]
  exact counted_at m ra _ rc g sc fa _ fc na _ nc B val w hO e0 e1 e3 hB hE
end Go.Proofs.Ytehleeibgkpjmae
/- The desk: five cells, and an image's own rows. What stays, and what turns. -/
namespace Go.Proofs.Ytehleeibgkpjmae
open Go.RowKit Go.Shelf
set_option maxRecDepth 20000

theorem Img.four {w : World} {m : ImgD} {a b c d e : Value} (h : Img w (.agg #[a, b, c, d, e]) m) : Sl w b m.root ∧ Slots w c m.slots ∧ Sl w d m.refs ∧ Snaps w e m.snaps := by
  obtain ⟨_, _, _, _, e, h1, h2, h3, h4⟩ := h
  simp only [Value.agg.injEq, Array.mk.injEq, List.cons.injEq, and_true] at e
  obtain ⟨_, rfl, rfl, rfl, rfl⟩ := e
  exact ⟨h1, h2, h3, h4⟩
/-- The desk lies in block D: an image of one's own, and where its lists are. -/
structure DK (W : World) (B D : Nat) (val : Nm → Value) (m : ImgD) : Prop where
  own : OI W B val m
  box : W.heap[D]? = some (.cells #[.int .i64 m.guest, val .root, val .slots, val .refs, val .snaps] 61)
  ge : B ≤ D
  far : ∀ a, Live m a → (val a).ownBlock ≠ some D
theorem DK.lt {W : World} {B D : Nat} {val : Nm → Value} {m : ImgD} (h : DK W B D val m) : D < W.heap.size := (Array.getElem?_eq_some_iff.1 h.box).1
theorem DK.below {W W' : World} {B D : Nat} {val : Nm → Value} {m : ImgD} (h : DK W B D val m) (hb : Below W.heap.size W W') : DK W' B D val m := ⟨h.own.below hb, (hb.block D h.lt).trans h.box, h.ge, h.far⟩
theorem DK.drew {W : World} {B D : Nat} {val : Nm → Value} {m : ImgD} (h : DK W B D val m) : DK W.drew B D val m := ⟨h.own.drew, h.box, h.ge, h.far⟩
theorem DK.alloc {W : World} {B D : Nat} {val : Nm → Value} {m : ImgD} (h : DK W B D val m) (o : Obj) : DK (W.alloc o) B D val m := h.below ((Below.refl _ _).alloc (Nat.le_refl _) o)

/-- From one world to another the image on the desk has become m': nothing but the desk and its rows has turned, and its rows are old ones of its own, what was handed in, or new. -/
structure DTo (w w' : World) (B D : Nat) (m : ImgD) (val : Nm → Value) (ev : Value) (m' : ImgD) (val' : Nm → Value) : Prop where
  dk : DK w' B D val' m'
  bel : Below B w w'
  keep : ∀ q, q < w.heap.size → q ≠ D → ev.ownBlock ≠ some q → (∀ a, Live m a → (val a).ownBlock ≠ some q) → w'.heap[q]? = w.heap[q]?
  src : ∀ q, q < w.heap.size → ev.ownBlock ≠ some q → (∀ b, Live m b → (val b).ownBlock ≠ some q) → ∀ a, Live m' a → (val' a).ownBlock ≠ some q
abbrev nilV : Value := .slice none 0 0
theorem nilV_own (q : Nat) : nilV.ownBlock ≠ some q := by intro e; cases e

theorem DTo.refl {w : World} {B D : Nat} {m : ImgD} {val : Nm → Value} (h : DK w B D val m) (ev : Value) : DTo w w B D m val ev m val := ⟨h, Below.refl _ _, fun _ _ _ _ _ => rfl, fun _ _ _ hm => hm⟩
theorem DTo.trans {w w1 w2 : World} {B D : Nat} {m m1 m2 : ImgD} {val val1 val2 : Nm → Value} {ev ev' : Value} (h : DTo w w1 B D m val ev m1 val1) (k : DTo w1 w2 B D m1 val1 ev' m2 val2) (he : ∀ q, ev'.ownBlock = some q → ev.ownBlock = some q ∨ w.heap.size ≤ q ∨ ∃ a, Live m a ∧ (val a).ownBlock = some q) : DTo w w2 B D m val ev m2 val2 := by
  have hx : ∀ q, q < w.heap.size → ev.ownBlock ≠ some q → (∀ b, Live m b → (val b).ownBlock ≠ some q) → ev'.ownBlock ≠ some q := fun q hq hev hm e => by
    rcases he q e with x | x | ⟨a, ha, x⟩
    · exact hev x
    · omega
    · exact hm a ha x
  refine ⟨k.dk, h.bel.trans k.bel, fun q hq hD hev hm => ?_, fun q hq hev hm => ?_⟩
  · exact (k.keep q (Nat.lt_of_lt_of_le hq h.bel.size) hD (hx q hq hev hm) (h.src q hq hev hm)).trans (h.keep q hq hD hev hm)
  · exact k.src q (Nat.lt_of_lt_of_le hq h.bel.size) (hx q hq hev hm) (h.src q hq hev hm)
/-- One step behind another, with nothing handed in. -/
theorem DTo.andThen {w w1 w2 : World} {B D : Nat} {m m1 m2 : ImgD} {val val1 val2 : Nm → Value} (h : DTo w w1 B D m val nilV m1 val1) (k : DTo w1 w2 B D m1 val1 nilV m2 val2) : DTo w w2 B D m val nilV m2 val2 :=
  h.trans k (fun q e => by cases e)
/-- Ahead of it only new things came; what is handed in is one of them. -/
theorem DTo.first {w w1 w2 : World} {B D : Nat} {m m1 : ImgD} {val val1 : Nm → Value} {ev : Value} (hb : Below w.heap.size w w1) (hB : B ≤ w.heap.size) (h : DTo w1 w2 B D m val ev m1 val1) (he : ∀ q, ev.ownBlock = some q → w.heap.size ≤ q) : DTo w w2 B D m val nilV m1 val1 :=
  ⟨h.dk, (hb.mono hB).trans h.bel, fun q hq hD _ hm => (h.keep q (Nat.lt_of_lt_of_le hq hb.size) hD (fun e => by have := he q e; omega) hm).trans (hb.block q hq), fun q hq _ hm => h.src q (Nat.lt_of_lt_of_le hq hb.size) (fun e => by have := he q e; omega) hm⟩
theorem DTo.below {w w1 w2 : World} {B D : Nat} {m m1 : ImgD} {val val1 : Nm → Value} {ev : Value} (h : DTo w w1 B D m val ev m1 val1) (hB : B ≤ w.heap.size) (hb : Below w1.heap.size w1 w2) : DTo w w2 B D m val ev m1 val1 :=
  ⟨h.dk.below hb, h.bel.trans (hb.mono (Nat.le_trans hB h.bel.size)), fun q hq hD hev hm => (hb.block q (Nat.lt_of_lt_of_le hq h.bel.size)).trans (h.keep q hq hD hev hm), h.src⟩
theorem DTo.drew {w w1 : World} {B D : Nat} {m m1 : ImgD} {val val1 : Nm → Value} {ev : Value} (h : DTo w w1 B D m val ev m1 val1) : DTo w w1.drew B D m val ev m1 val1 := ⟨h.dk.drew, h.bel.drew, h.keep, h.src⟩
theorem DTo.alloc {w w1 : World} {B D : Nat} {m m1 : ImgD} {val val1 : Nm → Value} {ev : Value} (h : DTo w w1 B D m val ev m1 val1) (hB : B ≤ w.heap.size) (o : Obj) : DTo w (w1.alloc o) B D m val ev m1 val1 := h.below hB ((Below.refl _ _).alloc (Nat.le_refl _) o)
/-- A block of one's own, which is none of the desk's, is stored to. -/
theorem DK.setFar {W : World} {B D : Nat} {val : Nm → Value} {m : ImgD} (h : DK W B D val m) {g i : Nat} {u : Value} (hD : D ≠ g) (hg : ∀ a, Live m a → (val a).ownBlock ≠ some g) : DK (W.setCell ⟨g, i, none⟩ u) B D val m := ⟨h.own.far hg, cells_other h.box hD _ _, h.ge, h.far⟩
theorem DTo.setNew {w w1 : World} {B D : Nat} {m m1 : ImgD} {val val1 : Nm → Value} {ev : Value} (h : DTo w w1 B D m val ev m1 val1) (hB : B ≤ w.heap.size) {g i : Nat} {u : Value} (hg : w.heap.size ≤ g) (hD : D ≠ g) (hf : ∀ a, Live m1 a → (val1 a).ownBlock ≠ some g) : DTo w (w1.setCell ⟨g, i, none⟩ u) B D m val ev m1 val1 :=
  ⟨h.dk.setFar hD hf, h.bel.setCell (Nat.le_trans hB hg) _, fun q hq hqD hev hm => (Below.heap_setCell w1 ⟨g, i, none⟩ u q (fun e => by have e : q = g := e; omega)).trans (h.keep q hq hqD hev hm), h.src⟩
/-- What lies elsewhere, and is no row, is where it was. -/
theorem DTo.cells {w w1 : World} {B D : Nat} {m m1 : ImgD} {val val1 : Nm → Value} {ev : Value} (h : DTo w w1 B D m val ev m1 val1) {q : Nat} {A : Array Value} {t : TypeId} (hq : w.heap[q]? = some (.cells A t)) (hD : q ≠ D) (hev : ev.ownBlock ≠ some q) (hm : ∀ a, Live m a → (val a).ownBlock ≠ some q) : w1.heap[q]? = some (.cells A t) :=
  (h.keep q (Array.getElem?_eq_some_iff.1 hq).1 hD hev hm).trans hq

/-! ### The desk's own cells -/
theorem DK.five {W : World} {B D : Nat} {val : Nm → Value} {m : ImgD} (h : DK W B D val m) : W.cell? ⟨D, 0, none⟩ = some (.int .i64 m.guest) ∧ W.cell? ⟨D, 1, none⟩ = some (val .root) ∧ W.cell? ⟨D, 2, none⟩ = some (val .slots) ∧ W.cell? ⟨D, 3, none⟩ = some (val .refs) ∧ W.cell? ⟨D, 4, none⟩ = some (val .snaps) := Go.Proofs.Ytehleeibgkpjmae.five h.box
theorem DK.frozen {W : World} {B D : Nat} {val : Nm → Value} {m : ImgD} (h : DK W B D val m) (i : Nat) : W.frozen? ⟨D, i, none⟩ = false := cells_frozen h.box i
theorem DK.swapRefs {W : World} {B D : Nat} {val : Nm → Value} {m : ImgD} (h : DK W B D val m) {v : Value} {r : List Int} (hv : W.ownsRow B 3 1 v r.length (ints r)) (hfar : Far m val .refs v) (hD : v.ownBlock ≠ some D) : DK (W.setCell ⟨D, 3, none⟩ v) B D (upd val .refs v) { m with refs := r } := by
  have hf : ∀ a, Live m a → (upd val .refs v a).ownBlock ≠ some D := fun a ha => by
    by_cases e : a = .refs
    · subst e; rw [upd_same]; exact hD
    · rw [upd_other _ _ e]; exact h.far a ha
  refine ⟨(h.own.swapRefs hv hfar).far hf, ?_, h.ge, hf⟩
  have := cells_set h.box 3 v
  rw [upd_same, upd_other _ _ (by intro x; cases x), upd_other _ _ (by intro x; cases x), upd_other _ _ (by intro x; cases x)]
  exact this
theorem DK.swapRoot {W : World} {B D : Nat} {val : Nm → Value} {m : ImgD} (h : DK W B D val m) {v : Value} {r : List Int} (hv : W.ownsRow B 3 1 v r.length (ints r)) (hfar : Far m val .root v) (hD : v.ownBlock ≠ some D) : DK (W.setCell ⟨D, 1, none⟩ v) B D (upd val .root v) { m with root := r } := by
  have hf : ∀ a, Live m a → (upd val .root v a).ownBlock ≠ some D := fun a ha => by
    by_cases e : a = .root
    · subst e; rw [upd_same]; exact hD
    · rw [upd_other _ _ e]; exact h.far a ha
  refine ⟨(h.own.swapRoot hv hfar m.guest).far hf, ?_, h.ge, hf⟩
  have := cells_set h.box 1 v
  rw [upd_same, upd_other _ _ (by intro x; cases x), upd_other _ _ (by intro x; cases x), upd_other _ _ (by intro x; cases x)]
  exact this
theorem OI.reguest {W : World} {B : Nat} {val : Nm → Value} {m : ImgD} (h : OI W B val m) (g : Int) : OI W B val { m with guest := g } := ⟨fun a ha => h.row a ha, fun a b ha hb => h.apart a b ha hb⟩
theorem DK.setGuest {W : World} {B D : Nat} {val : Nm → Value} {m : ImgD} (h : DK W B D val m) (g : Int) : DK (W.setCell ⟨D, 0, none⟩ (.int .i64 g)) B D val { m with guest := g } :=
  ⟨(h.own.reguest g).far h.far, cells_set h.box 0 _, h.ge, h.far⟩
/-! ### Steps -/
/-- A cell of the desk, or of one of its rows, is stored. -/
theorem DTo.setOwn {w w1 : World} {B D : Nat} {m m1 m2 : ImgD} {val val1 val2 : Nm → Value} {ev : Value} (h : DTo w w1 B D m val ev m1 val1) {a : Nm} (ha : Live m1 a) {g n cap : Nat} (hv : val1 a = .slice (some ⟨g, 0, none⟩) n cap) {i : Nat} {u : Value} (hdk : DK (w1.setCell ⟨g, i, none⟩ u) B D val2 m2) (hs : ∀ q, ev.ownBlock ≠ some q → (∀ b, Live m1 b → (val1 b).ownBlock ≠ some q) → q < w.heap.size → ∀ b, Live m2 b → (val2 b).ownBlock ≠ some q) : DTo w (w1.setCell ⟨g, i, none⟩ u) B D m val ev m2 val2 := by
  have hg := ((h.dk.own.row a ha).lt g (by rw [hv]; rfl)).1
  refine ⟨hdk, h.bel.setCell hg _, fun q hq hD hev hm => ?_, fun q hq hev hm => hs q hev (h.src q hq hev hm) hq⟩
  exact (Below.heap_setCell w1 ⟨g, i, none⟩ u q (fun e => h.src q hq hev hm a ha (by rw [hv]; exact congrArg some e.symm))).trans (h.keep q hq hD hev hm)
theorem DTo.setDesk {w w1 : World} {B D : Nat} {m m1 m2 : ImgD} {val val1 val2 : Nm → Value} {ev : Value} (h : DTo w w1 B D m val ev m1 val1) {i : Nat} {u : Value} (hdk : DK (w1.setCell ⟨D, i, none⟩ u) B D val2 m2) (hs : ∀ q, ev.ownBlock ≠ some q → (∀ b, Live m1 b → (val1 b).ownBlock ≠ some q) → q < w.heap.size → ∀ b, Live m2 b → (val2 b).ownBlock ≠ some q) : DTo w (w1.setCell ⟨D, i, none⟩ u) B D m val ev m2 val2 :=
  ⟨hdk, h.bel.setCell h.dk.ge _, fun q hq hD hev hm => (Below.heap_setCell w1 ⟨D, i, none⟩ u q hD).trans (h.keep q hq hD hev hm), fun q hq hev hm => hs q hev (h.src q hq hev hm) hq⟩
theorem DK.setRoot {W : World} {B D : Nat} {val : Nm → Value} {m : ImgD} (h : DK W B D val m) {g n cap : Nat} (hv : val .root = .slice (some ⟨g, 0, none⟩) n cap) (i : Nat) (x : Int) : DK (W.setCell ⟨g, i, none⟩ (.int .i64 x)) B D val { m with root := m.root.set i x } :=
  ⟨h.own.setRoot hv i x, cells_other h.box (fun e => h.far .root (Live.root m) (by rw [hv, e]; rfl)) _ _, h.ge, h.far⟩
theorem DK.setRefs {W : World} {B D : Nat} {val : Nm → Value} {m : ImgD} (h : DK W B D val m) {g n cap : Nat} (hv : val .refs = .slice (some ⟨g, 0, none⟩) n cap) (i : Nat) (x : Int) : DK (W.setCell ⟨g, i, none⟩ (.int .i64 x)) B D val { m with refs := m.refs.set i x } :=
  ⟨h.own.setRefs hv i x, cells_other h.box (fun e => h.far .refs (Live.refs m) (by rw [hv, e]; rfl)) _ _, h.ge, h.far⟩
theorem DTo.setRoot {w w1 : World} {B D : Nat} {m m1 : ImgD} {val val1 : Nm → Value} {ev : Value} (h : DTo w w1 B D m val ev m1 val1) {g n cap : Nat} (hv : val1 .root = .slice (some ⟨g, 0, none⟩) n cap) (i : Nat) (x : Int) : DTo w (w1.setCell ⟨g, i, none⟩ (.int .i64 x)) B D m val ev { m1 with root := m1.root.set i x } val1 :=
  h.setOwn (Live.root m1) hv (h.dk.setRoot hv i x) (fun _ _ hm _ => hm)
theorem DTo.setRefs {w w1 : World} {B D : Nat} {m m1 : ImgD} {val val1 : Nm → Value} {ev : Value} (h : DTo w w1 B D m val ev m1 val1) {g n cap : Nat} (hv : val1 .refs = .slice (some ⟨g, 0, none⟩) n cap) (i : Nat) (x : Int) : DTo w (w1.setCell ⟨g, i, none⟩ (.int .i64 x)) B D m val ev { m1 with refs := m1.refs.set i x } val1 :=
  h.setOwn (Live.refs m1) hv (h.dk.setRefs hv i x) (fun _ _ hm _ => hm)
theorem DTo.setGuest {w w1 : World} {B D : Nat} {m m1 : ImgD} {val val1 : Nm → Value} {ev : Value} (h : DTo w w1 B D m val ev m1 val1) (x : Int) : DTo w (w1.setCell ⟨D, 0, none⟩ (.int .i64 x)) B D m val ev { m1 with guest := x } val1 :=
  h.setDesk (h.dk.setGuest x) (fun _ _ hm _ => hm)
theorem upd_src {m1 m2 : ImgD} {val1 : Nm → Value} {ev v : Value} {a : Nm} {n : Nat} (hl : ∀ b, Live m2 b → b ≠ a → Live m1 b) (hv : ∀ q, v.ownBlock = some q → ev.ownBlock = some q ∨ n ≤ q) : ∀ q, ev.ownBlock ≠ some q → (∀ b, Live m1 b → (val1 b).ownBlock ≠ some q) → q < n → ∀ b, Live m2 b → (upd val1 a v b).ownBlock ≠ some q := fun q hev hm hq b hb => by
  by_cases e : b = a
  · subst e
    rw [upd_same]
    intro x
    rcases hv q x with y | y
    · exact hev y
    · omega
  · rw [upd_other _ _ e]; exact hm b (hl b hb e)
theorem DTo.swapRoot {w w1 : World} {B D : Nat} {m m1 : ImgD} {val val1 : Nm → Value} {ev : Value} (h : DTo w w1 B D m val ev m1 val1) {v : Value} {r : List Int} (hv : w1.ownsRow B 3 1 v r.length (ints r)) (hfar : Far m1 val1 .root v) (hD : v.ownBlock ≠ some D) (hs : ∀ q, v.ownBlock = some q → ev.ownBlock = some q ∨ w.heap.size ≤ q) : DTo w (w1.setCell ⟨D, 1, none⟩ v) B D m val ev { m1 with root := r } (upd val1 .root v) :=
  h.setDesk (h.dk.swapRoot hv hfar hD) (upd_src (fun _ hb _ => hb) hs)
theorem DTo.swapRefs {w w1 : World} {B D : Nat} {m m1 : ImgD} {val val1 : Nm → Value} {ev : Value} (h : DTo w w1 B D m val ev m1 val1) {v : Value} {r : List Int} (hv : w1.ownsRow B 3 1 v r.length (ints r)) (hfar : Far m1 val1 .refs v) (hD : v.ownBlock ≠ some D) (hs : ∀ q, v.ownBlock = some q → ev.ownBlock = some q ∨ w.heap.size ≤ q) : DTo w (w1.setCell ⟨D, 3, none⟩ v) B D m val ev { m1 with refs := r } (upd val1 .refs v) :=
  h.setDesk (h.dk.swapRefs hv hfar hD) (upd_src (fun _ hb _ => hb) hs)
theorem DTo.setSlot {w w1 : World} {B D : Nat} {m m1 : ImgD} {val val1 : Nm → Value} {ev : Value} (h : DTo w w1 B D m val ev m1 val1) {t : Nat} (ht : t < m1.slots.length) {g n cap : Nat} (hv : val1 .slots = .slice (some ⟨g, 0, none⟩) n cap) (k : Int) (d : ByteArray) (es : List Int) {e2 : Value}
    (hev : w1.ownsRow B 3 1 e2 es.length (ints es)) (hfar : Far m1 val1 (.tab t) e2) (hD : e2.ownBlock ≠ some D) (hs : ∀ q, e2.ownBlock = some q → ev.ownBlock = some q ∨ w.heap.size ≤ q) :
    DTo w (((w1.setCell ⟨g, t * 3, none⟩ (.int .i64 k)).setCell ⟨g, t * 3 + 1, none⟩ (.string d)).setCell ⟨g, t * 3 + 2, none⟩ e2) B D m val ev { m1 with slots := m1.slots.set t (k, d, es) } (upd val1 (.tab t) e2) := by
  have hDg : D ≠ g := fun e => h.dk.far .slots (Live.slots m1) (by rw [hv, e]; rfl)
  have hg := ((h.dk.own.row .slots (Live.slots m1)).lt g (by rw [hv]; rfl)).1
  have hl : ∀ b, Live { m1 with slots := m1.slots.set t (k, d, es) } b → Live m1 b := fun b hb => (live_iff (m := m1) (m' := { m1 with slots := m1.slots.set t (k, d, es) }) List.length_set rfl b).1 hb
  have hu : ∀ q, ev.ownBlock ≠ some q → (∀ b, Live m1 b → (val1 b).ownBlock ≠ some q) → q < w.heap.size → ∀ b, Live { m1 with slots := m1.slots.set t (k, d, es) } b → (upd val1 (.tab t) e2 b).ownBlock ≠ some q := upd_src (fun b hb _ => hl b hb) hs
  refine ⟨⟨h.dk.own.setSlot ht hv k d es hev hfar, ?_, h.dk.ge, fun a ha => ?_⟩, ((h.bel.setCell hg _).setCell hg _).setCell hg _, fun q hq hqD hev' hm => ?_, fun q hq hev' hm => hu q hev' (h.src q hq hev' hm) hq⟩
  · rw [upd_other _ _ (by intro x; cases x), upd_other _ _ (by intro x; cases x), upd_other _ _ (by intro x; cases x), upd_other _ _ (by intro x; cases x)]
    exact cells_other (cells_other (cells_other h.dk.box hDg _ _) hDg _ _) hDg _ _
  · by_cases e : a = .tab t
    · subst e; rw [upd_same]; exact hD
    · rw [upd_other _ _ e]; exact h.dk.far a (hl a ha)
  · have hqg : q ≠ g := fun e => h.src q hq hev' hm .slots (Live.slots m1) (by rw [hv]; exact congrArg some e.symm)
    exact (cells_other (cells_other (cells_other rfl hqg _ _) hqg _ _) hqg _ _).trans (h.keep q hq hqD hev' hm)
/-- An image of one's own, as it is answered. -/
def AnsI (w : World) (B : Nat) (m : ImgD) (err : Int) (r : Ending) (w' : World) : Prop := ∃ val, r = .returned (.tuple #[imgV m.guest val, .int .i64 err]) ∧ OI w' B val m ∧ Below B w w'
def imgZ : ImgD := ⟨0, [], [], [], []⟩
def valZ : Nm → Value := fun _ => nilV
theorem OI.zero (W : World) (B : Nat) : OI W B valZ imgZ := ⟨fun a ha => by
  rcases ha.cases with rfl | rfl | rfl | rfl | ⟨j, rfl, hj⟩ | ⟨j, rfl, hj⟩
  · exact World.ownsRow_nil _ _ _ _
  · exact World.ownsRow_nil _ _ _ _
  · exact World.ownsRow_nil _ _ _ _
  · exact World.ownsRow_nil _ _ _ _
  · exact absurd hj (Nat.not_lt_zero _)
  · exact absurd hj (Nat.not_lt_zero _), fun _ _ _ _ _ g hg => by cases hg⟩
theorem imgV_zero : imgV imgZ.guest valZ = .agg #[.int .i64 0, nilV, nilV, nilV, nilV] := rfl
theorem AnsI.bad {w w' : World} {B : Nat} (err : Int) (hb : Below B w w') : AnsI w B imgZ err (.returned (.tuple #[.agg #[.int .i64 0, nilV, nilV, nilV, nilV], .int .i64 err])) w' := ⟨valZ, rfl, OI.zero _ _, hb⟩
end Go.Proofs.Ytehleeibgkpjmae
/- Contract of settled: the counts are told, and what nothing tells is free. -/
namespace Go.Proofs.Ytehleeibgkpjmae
open Go.RowKit Go.Shelf
set_option maxRecDepth 20000

/-- What holds in the loop: from world v on. -/
def SetR (v wr : World) (B D : Nat) (m : ImgD) (val : Nm → Value) (q k : Nat) : Prop :=
  ∃ vk, DTo v wr B D m val nilV (frT m k) vk ∧ vk .root = val .root ∧ vk .slots = val .slots ∧ vk .refs = .slice (some ⟨q, 0, none⟩) m.slots.length m.slots.length ∧ vk .snaps = val .snaps

set_option maxHeartbeats 4000000 in
theorem settled_at (m : ImgD) (ra : Option Addr) (rn rc : Nat) (g sc : Nat) (fa : Option Addr) (fn fc : Nat) (na : Option Addr) (nn nc : Nat) (B D : Nat) (val : Nm → Value) (w : World) (hK : DK w B D val m) (e0 : val .root = .slice ra rn rc) (e1 : val .slots = .slice (some ⟨g, 0, none⟩) m.slots.length sc) (e2 : val .refs = .slice fa fn fc) (e3 : val .snaps = .slice na nn nc) (hB : B ≤ w.heap.size) (hE : shapeE m = 0) :
    Calls Try.prog 70 #[.pointer (some ⟨D, 0, none⟩)] w fun r w' => ∃ val', r = .returned (.tuple #[imgV m.guest val', .int .i64 0]) ∧ DTo w w' B D m val nilV (countedD m) val' := by
  have h40 : m.slots.length ≤ 40 := (slotsE_parts (shapeE_zero hE).2.1).2
  have h1s : 1 ≤ m.slots.length := (slotsE_parts (shapeE_zero hE).2.1).1
  have hlc : (cntL m).length = m.slots.length := cntL_length m
  have hDlt := hK.lt
  have hgr := hK.own.row .slots (Live.slots m)
  rw [e1] at hgr
  have hgl := hgr.lt g rfl
  have hDg : g ≠ D := fun e => hK.far .slots (Live.slots m) (by rw [e1, e]; rfl)
  clear hgr
  have hK1 : DK (w.alloc (.cells #[.int .i64 0, .slice none 0 0, .slice none 0 0, .slice none 0 0, .slice none 0 0] 26)) B D val m := hK.alloc _
  obtain ⟨d0, d1, d2, d3, d4⟩ := hK1.five
  have f3 := hK1.frozen 3
  rw [e0] at d1
  rw [e1] at d2
  rw [e2] at d3
  rw [e3] at d4
  have hcall := counts_own hK1.own.img hE
  unfold imgV at hcall
  rw [e0, e1, e2, e3] at hcall
  have hz1 : (w.alloc (.cells #[.int .i64 0, .slice none 0 0, .slice none 0 0, .slice none 0 0, .slice none 0 0] 26)).heap.size = w.heap.size + 1 := by simp
  have mR : (w.alloc (.cells #[.int .i64 0, .slice none 0 0, .slice none 0 0, .slice none 0 0, .slice none 0 0] 26)).heap[w.heap.size]? = some (.cells #[.int .i64 0, .slice none 0 0, .slice none 0 0, .slice none 0 0, .slice none 0 0] 26) := World.alloc_heap_new _ _
  have D1 : ¬ D = w.heap.size := by omega
  have D2 : ¬ w.heap.size = D := by omega
  go_enter Try.func70, Try.ntmps70
  go_wp2_with (go_at_call 40; refine hcall.mono ?_; rintro e w2 ⟨⟨q, hq, rfl, hL⟩, hb2⟩; have hK2 := hK1.below hb2; obtain ⟨c0, c1, c2, c3, c4⟩ := hK2.five; have f2 := hK2.frozen 3; rw [e0] at c1; rw [e1] at c2; rw [e2] at c3; rw [e3] at c4)
  have hb2' : Below (w.alloc (.cells #[.int .i64 0, .slice none 0 0, .slice none 0 0, .slice none 0 0, .slice none 0 0] 26)).heap.size (w.alloc (.cells #[.int .i64 0, .slice none 0 0, .slice none 0 0, .slice none 0 0, .slice none 0 0] 26)) w2 := hb2
  have hq0 := hq
  have hq : w.heap.size + 1 ≤ q := by rw [hz1] at hq; exact hq
  have hrow : w2.ownsRow B 3 1 (.slice (some ⟨q, 0, none⟩) m.slots.length m.slots.length) (cntL m).length (ints (cntL m)) := by
    have := row_LAt hL (B := B) (by omega) (by rw [hlc]; omega)
    rw [hlc] at this ⊢
    exact this
  have hS := (DTo.refl hK1 nilV).below (by rw [hz1]; omega) hb2'
  have hS := hS.swapRefs hrow (far_new hK1.own .refs (fun p e => by cases e; rw [hz1]; exact hq)) (fun e => by have e : q = D := Option.some.inj e; omega) (fun p e => by cases e; rw [hz1]; exact .inr hq)
  have HS : Hid (SetR (w.alloc (.cells #[.int .i64 0, .slice none 0 0, .slice none 0 0, .slice none 0 0, .slice none 0 0] 26)) (w2.setCell ⟨D, 3, none⟩ (.slice (some ⟨q, 0, none⟩) m.slots.length m.slots.length)) B D m val q 0) := by
    refine ⟨upd val .refs (.slice (some ⟨q, 0, none⟩) m.slots.length m.slots.length), ?_, upd_other _ _ (by intro x; cases x), upd_other _ _ (by intro x; cases x), upd_same _ _ _, upd_other _ _ (by intro x; cases x)⟩
    rw [frT_zero]
    exact hS
  have HV : Hid (val .root = .slice ra rn rc ∧ val .slots = .slice (some ⟨g, 0, none⟩) m.slots.length sc ∧ val .snaps = .slice na nn nc) := ⟨e0, e1, e3⟩
  have HK : Hid (DK w B D val m) := hK
  clear hb2' hb2 hrow hS hL hq0 hK1 hK2 c0 c1 c2 c3 c4 d0 d1 d2 d3 d4 f2 f3 hcall hE e0 e1 e2 e3 hK mR hz1
  go_loopw [27] (fun i wr => ∃ k : Nat, k ≤ m.slots.length ∧ i = .int .i64 k ∧ Hid (SetR (w.alloc (.cells #[.int .i64 0, .slice none 0 0, .slice none 0 0, .slice none 0 0, .slice none 0 0] 26)) wr B D m val q k)) (fun i _ => m.slots.length - (intOf i).toNat)
  case atStart => exact ⟨0, Nat.zero_le _, rfl, HS⟩
  case round =>
    obtain ⟨k, hk, rfl, HC⟩ := hrel
    obtain ⟨vk, hT, v0, v1, v2, v3⟩ := HC.out
    obtain ⟨e0, e1, e3⟩ := HV.out
    rw [e0] at v0
    rw [e1] at v1
    rw [e3] at v3
    obtain ⟨d0, d1, d2, d3, d4⟩ := hT.dk.five
    have d0 : wr.cell? ⟨D, 0, none⟩ = some (.int .i64 m.guest) := d0
    rw [v0] at d1
    rw [v1] at d2
    rw [v2] at d3
    rw [v3] at d4
    have hls := frT_length m k
    by_cases hlk : k < m.slots.length
    · have hki : (k : Int) < (m.slots.length : Int) := by omega
      obtain ⟨x, hx⟩ : ∃ x, x = (cntL m).getD k 0 := ⟨_, rfl⟩
      have cx : wr.cell? ⟨q, k, none⟩ = some (.int .i64 x) := by
        have hr := hT.dk.own.row .refs (Live.refs _)
        rw [v2] at hr
        have hr : wr.ownsRow B 3 1 (.slice (some ⟨q, 0, none⟩) m.slots.length m.slots.length) (cntL m).length (ints (cntL m)) := hr
        rw [hlc] at hr
        rw [hx]
        refine (hr.cellAt k (by omega)).trans ?_
        unfold ints
        rw [List.getElem?_map, List.getElem?_eq_getElem (by rw [hlc]; exact hlk)]
        simp [List.getD, hlc, hlk]
      have HX : Hid (x = (cntL m).getD k 0) := hx
      clear hx
      by_cases h0 : x = 0
      · have h0' : (x == 0) = true := by simp [h0]
        have H0 : Hid ((cntL m).getD k 0 = 0) := HX.out.symm.trans h0
        clear h0
        have hr := hT.dk.own.row .slots (Live.slots _)
        rw [v1] at hr
        obtain ⟨s0, s1, s2⟩ := flatS_get (L := (frT m k).slots) (tv := fun j => vk (.tab j)) (j := k) (by rw [hls]; exact hlk)
        have hr : wr.ownsRow B 72 3 (.slice (some ⟨g, 0, none⟩) m.slots.length sc) m.slots.length (flatS (frT m k).slots (fun j => vk (.tab j))) := by rw [← hls]; rw [← hls] at hr; exact hr
        have t0 : wr.cell? ⟨g, k * 3, none⟩ = some _ := (hr.cellAt (k * 3) (by omega)).trans s0
        have t1 : wr.cell? ⟨g, k * 3 + 1, none⟩ = some _ := (hr.cellAt (k * 3 + 1) (by omega)).trans s1
        have t2 : wr.cell? ⟨g, k * 3 + 2, none⟩ = some _ := (hr.cellAt (k * 3 + 2) (by omega)).trans s2
        have u0 := hr.frozenAt (k * 3)
        have u1 := hr.frozenAt (k * 3 + 1)
        have u2 := hr.frozenAt (k * 3 + 2)
        have HN : Hid (SetR (w.alloc (.cells #[.int .i64 0, .slice none 0 0, .slice none 0 0, .slice none 0 0, .slice none 0 0] 26)) (((wr.setCell ⟨g, k * 3, none⟩ (.int .i64 0)).setCell ⟨g, k * 3 + 1, none⟩ (.string ⟨#[]⟩)).setCell ⟨g, k * 3 + 2, none⟩ (.slice none 0 0)) B D m val q (k + 1)) := by
          have hN := hT.setSlot (t := k) (by rw [hls]; exact hlk) v1 0 ⟨#[]⟩ [] (e2 := .slice none 0 0) (World.ownsRow_nil _ _ _ _) (far_nil _ _ _ _ _) (nilV_own _) (fun p e => by cases e)
          refine ⟨upd vk (.tab k) (.slice none 0 0), ?_, (upd_other _ _ (by intro x; cases x)).trans (v0.trans e0.symm), (upd_other _ _ (by intro x; cases x)).trans (v1.trans e1.symm), (upd_other _ _ (by intro x; cases x)).trans v2, (upd_other _ _ (by intro x; cases x)).trans (v3.trans e3.symm)⟩
          rw [frT_gone m H0.out]; exact hN
        clear hT hr s0 s1 s2 e0 e1 e3 v0 v1 v2 v3 HC HX H0 hls
        go_wp2_with fail
        go_roundw
        case rel => exact ⟨k + 1, by omega, by go_num, HN⟩
        case measure => simp [intOf]; omega
      · have h0' : (x == 0) = false := by simp [h0]
        have HN : Hid (SetR (w.alloc (.cells #[.int .i64 0, .slice none 0 0, .slice none 0 0, .slice none 0 0, .slice none 0 0] 26)) wr B D m val q (k + 1)) := by
          refine ⟨vk, ?_, v0.trans e0.symm, v1.trans e1.symm, v2, v3.trans e3.symm⟩
          rw [frT_kept m (fun e => h0 (HX.out.trans e))]
          exact hT
        clear hT e0 e1 e3 v0 v1 v2 v3 HC HX hls
        go_wp2_with fail
        go_roundw
        case rel => exact ⟨k + 1, by omega, by go_num, HN⟩
        case measure => simp [intOf]; omega
    · have ek : k = m.slots.length := by omega
      subst ek
      have hR : wr.heap[w.heap.size]? = some (.cells #[.int .i64 0, .slice none 0 0, .slice none 0 0, .slice none 0 0, .slice none 0 0] 26) := hT.cells (World.alloc_heap_new _ _) (by omega) (nilV_own _) (HK.out.own.lt (Nat.le_refl _))
      obtain ⟨z0, z1, z2, z3, z4⟩ := five hR
      have y0 := cells_frozen hR 0
      have y1 := cells_frozen hR 1
      have y2 := cells_frozen hR 2
      have y3 := cells_frozen hR 3
      have y4 := cells_frozen hR 4
      rw [frT_end] at hT
      have hfr : ∀ a, Live (countedD m) a → (vk a).ownBlock ≠ some w.heap.size := hT.src w.heap.size (by simp) (nilV_own _) (HK.out.own.lt (Nat.le_refl _))
      have HF : Hid (DTo w wr B D m val nilV (countedD m) vk) := DTo.first ((Below.refl _ _).alloc (Nat.le_refl _) _) hB hT (fun p e => by cases e)
      clear hT HC hls
      go_wp2_with fail
      have hn : w.heap.size ≤ w.heap.size := Nat.le_refl _
      refine bodyPost_ret (v := .tuple #[.agg #[.int .i64 m.guest, .slice ra rn rc, .slice (some ⟨g, 0, none⟩) m.slots.length sc, .slice (some ⟨q, 0, none⟩) m.slots.length m.slots.length, .slice na nn nc], .int .i64 0]) (by simp [results, Try.results70, go_sem, z0, z1, z2, z3, z4]) rfl ⟨vk, ?_, ((((HF.out.setNew hB hn D1 hfr).setNew hB hn D1 hfr).setNew hB hn D1 hfr).setNew hB hn D1 hfr).setNew hB hn D1 hfr⟩
      unfold imgV
      rw [v0, v1, v2, v3]

set_option maxHeartbeats 4000000 in
theorem settled_err (m : ImgD) (E : Int) (ra : Option Addr) (rn rc : Nat) (sa : Option Addr) (sn sc : Nat) (fa : Option Addr) (fn fc : Nat) (na : Option Addr) (nn nc : Nat) (B D : Nat) (val : Nm → Value) (w : World) (hK : DK w B D val m) (e0 : val .root = .slice ra rn rc) (e1 : val .slots = .slice sa sn sc) (e2 : val .refs = .slice fa fn fc) (e3 : val .snaps = .slice na nn nc) (hE : shapeE m = E) (hne : (E != 0) = true) :
    Calls Try.prog 70 #[.pointer (some ⟨D, 0, none⟩)] w fun r w' => r = .returned (.tuple #[.agg #[.int .i64 0, nilV, nilV, nilV, nilV], .int .i64 E]) ∧ Below w.heap.size w w' := by
  have hDlt := hK.lt
  have hK1 : DK (w.alloc (.cells #[.int .i64 0, .slice none 0 0, .slice none 0 0, .slice none 0 0, .slice none 0 0] 26)) B D val m := hK.alloc _
  obtain ⟨d0, d1, d2, d3, d4⟩ := hK1.five
  rw [e0] at d1
  rw [e1] at d2
  rw [e2] at d3
  rw [e3] at d4
  have hcall := counts_err hK1.own.img hE hne
  unfold imgV at hcall
  rw [e0, e1, e2, e3] at hcall
  have mR : (w.alloc (.cells #[.int .i64 0, .slice none 0 0, .slice none 0 0, .slice none 0 0, .slice none 0 0] 26)).heap[w.heap.size]? = some (.cells #[.int .i64 0, .slice none 0 0, .slice none 0 0, .slice none 0 0, .slice none 0 0] 26) := World.alloc_heap_new _ _
  have b0 : Below w.heap.size w (w.alloc (.cells #[.int .i64 0, .slice none 0 0, .slice none 0 0, .slice none 0 0, .slice none 0 0] 26)) := (Below.refl _ _).alloc (Nat.le_refl _) _
  clear hE
  go_enter Try.func70, Try.ntmps70
  go_wp2_with (go_at_call 40; refine hcall.mono ?_; rintro e w2 ⟨rfl, hb2⟩; have hR := cells_below mR hb2 (by simp); obtain ⟨z0, z1, z2, z3, z4⟩ := five hR; have y0 := cells_frozen hR 0; have y1 := cells_frozen hR 1; have y2 := cells_frozen hR 2; have y3 := cells_frozen hR 3; have y4 := cells_frozen hR 4)
  have hb := Below.on b0 hb2
  have hn : w.heap.size ≤ w.heap.size := Nat.le_refl _
  refine bodyPost_ret (v := .tuple #[.agg #[.int .i64 0, nilV, nilV, nilV, nilV], .int .i64 E]) (by simp [results, Try.results70, go_sem, z0, z1, z2, z3, z4]) rfl ⟨rfl, ((((hb.setCell hn _).setCell hn _).setCell hn _).setCell hn _).setCell hn _⟩
theorem settled_bad {m : ImgD} {E : Int} {B D : Nat} {val : Nm → Value} {w : World} (hK : DK w B D val m) (hE : shapeE m = E) (hne : E ≠ 0) :
    Calls Try.prog 70 #[.pointer (some ⟨D, 0, none⟩)] w fun r w' => r = .returned (.tuple #[.agg #[.int .i64 0, nilV, nilV, nilV, nilV], .int .i64 E]) ∧ Below w.heap.size w w' := by
  obtain ⟨ra, rc, e0, _⟩ := hK.own.forms .root (Live.root m)
  obtain ⟨sa, sc, e1, _⟩ := hK.own.forms .slots (Live.slots m)
  obtain ⟨fa, fc, e2, _⟩ := hK.own.forms .refs (Live.refs m)
  obtain ⟨na, nc, e3, _⟩ := hK.own.forms .snaps (Live.snaps m)
  exact settled_err m E ra _ rc sa _ sc fa _ fc na _ nc B D val w hK e0 e1 e2 e3 hE (by simpa using hne)
theorem settled_ok {m : ImgD} {B D : Nat} {val : Nm → Value} {w : World} (hK : DK w B D val m) (hB : B ≤ w.heap.size) (hE : shapeE m = 0) :
    Calls Try.prog 70 #[.pointer (some ⟨D, 0, none⟩)] w fun r w' => ∃ val', r = .returned (.tuple #[imgV m.guest val', .int .i64 0]) ∧ DTo w w' B D m val nilV (countedD m) val' := by
  have h1s : 1 ≤ m.slots.length := (slotsE_parts (shapeE_zero hE).2.1).1
  obtain ⟨ra, rc, e0, _⟩ := hK.own.forms .root (Live.root m)
  obtain ⟨sa, sc, e1, hs⟩ := hK.own.forms .slots (Live.slots m)
  obtain ⟨fa, fc, e2, _⟩ := hK.own.forms .refs (Live.refs m)
  obtain ⟨na, nc, e3, _⟩ := hK.own.forms .snaps (Live.snaps m)
  obtain ⟨g, rfl⟩ := hs (by show 0 < m.slots.length; omega)
  exact settled_at m ra _ rc g sc fa _ fc na _ nc B D val w hK e0 e1 e2 e3 hB hE
end Go.Proofs.Ytehleeibgkpjmae
