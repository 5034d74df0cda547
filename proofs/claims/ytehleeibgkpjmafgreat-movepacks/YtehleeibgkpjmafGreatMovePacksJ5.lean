/- Texts joined: ExtP, Grab, WrP, WrQ, PkP, PkN, OwnI, PkT, PkQ. -/
import Derived.Test.YtehleeibgkpjmafGreatMovePacksJ4
import Derived.Test.YtehleeibgkpjmafGreatMovePacksJ1
import Derived.Test.YtehleeibgkpjmafGreatMovePacksJ3
import Derived.OneCell
import Derived.Laws.OwnMore
set_option linter.unusedVariables false
set_option linter.unusedSimpArgs false
/- A table is laid for one entry of Root: what the image is then. Plain lists. -/
namespace Go.Proofs.YtehleeibgkpjmafGreat
open Go.RowKit Go.Shelf
set_option maxRecDepth 20000

theorem kd_lt {L : List SlotD} {j : Nat} (h : kd L j ≠ 0) : j < L.length := by
  rcases Nat.lt_or_ge j L.length with h' | h'
  · exact h'
  · exfalso; apply h; unfold kd; rw [show L.getD j default = default by simp [List.getD, Nat.not_lt.2 h']]; rfl
theorem tabOf_eq {L L' : List SlotD} {j : Nat} (h : L'.getD j default = L.getD j default) : tabOf L' j = tabOf L j := by
  unfold tabOf; rw [Int.toNat_natCast, h]
theorem kd_eq {L L' : List SlotD} {j : Nat} (h : L'.getD j default = L.getD j default) : kd L' j = kd L j := by
  unfold kd; rw [h]

structure Ext (L L' : List SlotD) (t : Nat) (es : List Int) : Prop where
  len : L'.length ≤ 40
  keep : ∀ j, j ≠ t → kd L j ≠ 0 → L'.getD j default = L.getD j default
  tab : L'.getD t default = (2, ⟨#[]⟩, es)
  page : kd L t ≠ 1
  ok : ∀ j, j < L'.length → okD (L'.getD j default) = true
  head : kd L' 0 = 0
  tabs : ∀ j, j ≠ t → kd L' j = 2 → kd L j = 2
  ents : ∀ e ∈ es, tabE L' e = true

theorem Ext.kdt {L L' : List SlotD} {t : Nat} {es : List Int} (h : Ext L L' t es) : kd L' t = 2 := by unfold kd; rw [h.tab]
theorem Ext.tlt {L L' : List SlotD} {t : Nat} {es : List Int} (h : Ext L L' t es) : t < L'.length := kd_lt (by rw [h.kdt]; decide)
theorem Ext.t1 {L L' : List SlotD} {t : Nat} {es : List Int} (h : Ext L L' t es) : 1 ≤ t := by
  rcases Nat.eq_zero_or_pos t with e | e
  · have := h.kdt; rw [e, h.head] at this; simp at this
  · exact e
theorem Ext.tabt {L L' : List SlotD} {t : Nat} {es : List Int} (h : Ext L L' t es) : tabOf L' t = es := by unfold tabOf; rw [Int.toNat_natCast, h.tab]
theorem Ext.data {L L' : List SlotD} {t : Nat} {es : List Int} (h : Ext L L' t es) {j : Nat} (hj : kd L j = 1) : L'.getD j default = L.getD j default :=
  h.keep j (fun e => h.page (by rw [← e]; exact hj)) (by rw [hj]; decide)
theorem Ext.slots {L L' : List SlotD} {t : Nat} {es : List Int} (h : Ext L L' t es) : slotsE L' = 0 := by
  refine slotsE_ok (by have := h.tlt; omega) h.len (fun j hj => ?_) ?_
  · rw [getElem_getD hj]; exact h.ok j hj
  · rw [getElem_getD]; exact h.head
theorem Ext.tabE {L L' : List SlotD} {t : Nat} {es : List Int} (h : Ext L L' t es) (h0 : slotsE L = 0) {e : Int} (he : tabE L e = true) : Go.Proofs.YtehleeibgkpjmafGreat.tabE L' e = true := by
  rcases tabE_cases he with e0 | e1 | ⟨j, rfl, hj, hk⟩
  · rw [e0]; rfl
  · rw [e1]; rfl
  · have j1 : 1 ≤ j := by
      rcases Nat.eq_zero_or_pos j with e | e
      · subst e; rw [slot0 h0] at hk; simp at hk
      · exact e
    rw [tabE_x (by omega) (by omega)]
    have hd := h.data hk
    have hk' : kd L' j = 1 := by rw [kd_eq hd]; exact hk
    exact isKd_of (kd_lt (by rw [hk']; decide)) hk'
theorem Ext.fit {L L' : List SlotD} {t : Nat} {es : List Int} (h : Ext L L' t es) (h0 : slotsE L = 0) (hf : tabFit L = true) : tabFit L' = true := by
  unfold tabFit
  rw [List.all_eq_true]
  intro s hs
  obtain ⟨j, hj, rfl⟩ := List.getElem_of_mem hs
  rw [getElem_getD hj, List.all_eq_true]
  intro e he
  by_cases hjt : j = t
  · subst hjt; rw [h.tab] at he; exact h.ents e he
  · by_cases hk : kd L' j = 2
    · have hk0 := h.tabs j hjt hk
      have hkeep := h.keep j hjt (by rw [hk0]; decide)
      rw [hkeep] at he
      have he' : e ∈ tabOf L (j : Int) := by unfold tabOf; rw [Int.toNat_natCast]; exact he
      exact h.tabE h0 (List.all_eq_true.1 (tab_all hf j) e he')
    · exfalso
      have ok := h.ok j hj
      unfold kd at hk
      unfold okD slotOK at ok
      generalize L'.getD j default = s at ok hk he
      rw [if_neg (c := s.1 = 2) hk] at ok
      split at ok
      · simp at ok; rw [ok.2] at he; cases he
      split at ok
      · simp at ok; rw [ok.2] at he; cases he
      · cases ok

structure Lone (m : ImgD) (k t : Nat) : Prop where
  root : ∀ i, i < m.root.length → i ≠ k → m.root.getD i 0 ≠ (t : Int)
  snap : ∀ s ∈ m.snaps, (t : Int) ∉ s.2.2

def tabSet (m : ImgD) (k t : Nat) (L' : List SlotD) (rf : List Int) : ImgD := { m with root := m.root.set k (t : Int), slots := L', refs := rf }

theorem getD_setI (l : List Int) (i j : Nat) (x : Int) : (l.set i x).getD j 0 = if i = j ∧ j < l.length then x else l.getD j 0 := getD_set l i j x

theorem rootE_ext {L L' : List SlotD} {t : Nat} {es : List Int} (h : Ext L L' t es) (h0 : slotsE L = 0) {x : Int} (hx : rootE L x = true) (hne : x ≠ (t : Int)) : rootE L' x = true ∧ tabOf L' x = tabOf L x := by
  rcases rootE_cases hx with e | ⟨j, rfl, hj, hk⟩
  · subst e
    refine ⟨rfl, ?_⟩
    have a : tabOf L 0 = [] := by
      have ok := slotsE_all h0 (slotsE_parts h0).1
      rw [getElem_getD (slotsE_parts h0).1] at ok
      have hk := slot0 h0
      unfold kd at hk
      unfold okD slotOK at ok
      rw [if_pos hk] at ok
      simp at ok
      unfold tabOf
      simpa using ok.2
    have hs := h.slots
    have b : tabOf L' 0 = [] := by
      have ok := slotsE_all hs (slotsE_parts hs).1
      rw [getElem_getD (slotsE_parts hs).1] at ok
      have hk := h.head
      unfold kd at hk
      unfold okD slotOK at ok
      rw [if_pos hk] at ok
      simp at ok
      unfold tabOf
      simpa using ok.2
    rw [a, b]
  · have hjt : j ≠ t := fun e => hne (by rw [e])
    have hkeep := h.keep j hjt (by rw [hk]; decide)
    have hk' : kd L' j = 2 := by rw [kd_eq hkeep]; exact hk
    have j1 : 1 ≤ j := by
      rcases Nat.eq_zero_or_pos j with e | e
      · subst e; rw [slot0 h0] at hk; simp at hk
      · exact e
    refine ⟨?_, tabOf_eq hkeep⟩
    rw [rootE_x (by omega)]
    exact isKd_of (kd_lt (by rw [hk']; decide)) hk'

theorem rootFit_ext {L L' : List SlotD} {t : Nat} {es : List Int} (h : Ext L L' t es) (h0 : slotsE L = 0) {g : Int} {r : List Int} (hf : rootFit L g r = true) (hne : (t : Int) ∉ r) : rootFit L' g r = true := by
  unfold rootFit at hf ⊢
  simp only [Bool.and_eq_true, decide_eq_true_eq] at hf ⊢
  refine ⟨hf.1, ?_, ?_⟩
  · rw [List.all_eq_true]
    intro x hx
    exact (rootE_ext h h0 (List.all_eq_true.1 hf.2.1 x hx) (fun e => hne (e ▸ hx))).1
  · have hl := hf.2.2
    unfold lastFit at hl ⊢
    by_cases hr : r.length = 0
    · rw [List.length_eq_zero_iff.1 hr]; simp
    · have hlt : r.length - 1 < r.length := by omega
      have hmem : r.getD (r.length - 1) 0 ∈ r := by rw [getD_at hlt]; exact List.getElem_mem hlt
      rw [(rootE_ext h h0 (all_at hf.2.1 hlt) (fun e => hne (e ▸ hmem))).2]
      exact hl

theorem tabSet_shape {m : ImgD} {k t : Nat} {L' : List SlotD} {es rf : List Int} (h : shapeE m = 0) (hk : k < m.root.length) (hx : Ext m.slots L' t es) (hl : Lone m k t) (hrf : rf.length = L'.length)
    (hlast : k = m.root.length - 1 → m.guest % 4 ≠ 0 → (es.drop (m.guest % 4).toNat).all (fun e => e == 0) = true) : shapeE (tabSet m k t L' rf) = 0 := by
  obtain ⟨z1, z2, z3, z4, z5, z6, z7⟩ := shapeE_zero h
  have hs := hx.slots
  have ht := hx.fit z2 z6
  have hroot := List.all_eq_true.1 z7 (⟨#[]⟩, m.guest, m.root) List.mem_cons_self
  dsimp only at hroot
  have hr : rootFit L' m.guest (m.root.set k (t : Int)) = true := by
    unfold rootFit at hroot ⊢
    simp only [Bool.and_eq_true, decide_eq_true_eq] at hroot ⊢
    refine ⟨by rw [List.length_set]; exact hroot.1, ?_, ?_⟩
    · rw [List.all_eq_true]
      intro x hx'
      obtain ⟨j, hj, rfl⟩ := List.getElem_of_mem hx'
      rw [List.length_set] at hj
      rw [List.getElem_set]
      by_cases e : k = j
      · rw [if_pos e, rootE_x (by have := hx.t1; omega)]
        exact isKd_of hx.tlt hx.kdt
      · rw [if_neg e]
        have hE := all_at hroot.2.1 hj
        have hn := hl.root j hj (fun x => e x.symm)
        rw [getD_at hj] at hE hn
        exact (rootE_ext hx z2 hE hn).1
    · unfold lastFit
      rw [List.length_set, getD_setI]
      by_cases hg : m.guest % 4 = 0
      · simp [hg]
      have hg' : (m.guest % 4 == 0) = false := by simpa using hg
      rw [hg', Bool.false_or]
      have hlt : m.root.length - 1 < m.root.length := by omega
      by_cases e : k = m.root.length - 1
      · rw [if_pos ⟨e, hlt⟩, hx.tabt]
        have := hlast e hg
        rw [this]; simp
      · rw [if_neg (fun x => e x.1)]
        have hold := hroot.2.2
        unfold lastFit at hold
        rw [hg', Bool.false_or] at hold
        rw [(rootE_ext hx z2 (all_at hroot.2.1 hlt) (hl.root _ hlt (fun x => e x.symm))).2]
        exact hold
  have hall : (rootsOf (tabSet m k t L' rf)).all (fun s => rootFit L' s.2.1 s.2.2) = true := by
    show (((⟨#[]⟩, m.guest, m.root.set k (t : Int)) : SnapD) :: m.snaps).all _ = true
    rw [List.all_cons, hr, Bool.true_and, List.all_eq_true]
    intro s hsm
    exact rootFit_ext hx z2 (List.all_eq_true.1 z7 s (List.mem_cons_of_mem _ hsm)) (hl.snap s hsm)
  have hgall : (rootsOf (tabSet m k t L' rf)).all (fun s => guestOK s.2.1) = true := by
    show (((⟨#[]⟩, m.guest, m.root.set k (t : Int)) : SnapD) :: m.snaps).all _ = true
    have := z5
    unfold rootsOf at this
    rw [List.all_cons] at this ⊢
    exact this
  unfold shapeE
  rw [if_neg (by show ¬ 3 < m.snaps.length; omega), if_neg (by show ¬ slotsE L' ≠ 0; simpa using hs), if_neg, if_neg (by rw [hgall]; decide), if_neg (by show ¬ tabFit L' = false; rw [ht]; decide), if_neg (by have e := hall; show ¬ ((rootsOf (tabSet m k t L' rf)).all fun s => rootFit L' s.2.1 s.2.2) = false; rw [e]; decide)]
  rintro (e | e)
  · exact e hrf
  · have : namesOK m.snaps = false := e
    rw [z4] at this; cases this

theorem look_tabSet {m : ImgD} {k t : Nat} {L' : List SlotD} {es rf : List Int} (hx : Ext m.slots L' t es) (h0 : slotsE m.slots = 0) (hl : Lone m k t) (hall : m.root.all (rootE m.slots) = true) (n : Nat) (hn : n / 4 < m.root.length) :
    lookV (tabSet m k t L' rf) (m.root.set k (t : Int)) n = if n / 4 = k then es.getD (n % 4) 0 else lookV m m.root n := by
  have hg := getD_setI m.root k (n / 4) (t : Int)
  by_cases e : n / 4 = k
  · rw [if_pos (⟨e.symm, hn⟩ : k = n / 4 ∧ n / 4 < m.root.length)] at hg
    unfold lookV
    rw [hg, if_pos e, if_neg (by have := hx.t1; omega)]
    show (tabOf L' (t : Int)).getD (n % 4) 0 = _
    rw [hx.tabt]
  · rw [if_neg (fun x => e x.1.symm)] at hg
    rw [if_neg e]
    unfold lookV
    rw [hg]
    by_cases hz : m.root.getD (n / 4) 0 = 0
    · rw [if_pos hz, if_pos hz]
    · rw [if_neg hz, if_neg hz]
      show (tabOf L' _).getD (n % 4) 0 = _
      rw [(rootE_ext hx h0 (all_at hall hn) (hl.root _ hn e)).2]
theorem look_snap {m : ImgD} {k t : Nat} {L' : List SlotD} {es rf : List Int} (hx : Ext m.slots L' t es) (h0 : slotsE m.slots = 0) {r : List Int} (hall : r.all (rootE m.slots) = true) (hne : (t : Int) ∉ r) (n : Nat) (hn : n / 4 < r.length) :
    lookV (tabSet m k t L' rf) r n = lookV m r n := by
  unfold lookV
  by_cases hz : r.getD (n / 4) 0 = 0
  · rw [if_pos hz, if_pos hz]
  · rw [if_neg hz, if_neg hz]
    show (tabOf L' _).getD (n % 4) 0 = _
    rw [(rootE_ext hx h0 (all_at hall hn) (fun e => hne (by rw [← e, getD_at hn]; exact List.getElem_mem hn))).2]
theorem page_ext {L L' : List SlotD} {t : Nat} {es : List Int} (hx : Ext L L' t es) {e : Int} (he : e = 0 ∨ e = -1 ∨ ∃ j : Nat, e = j ∧ 1 ≤ j ∧ j < L.length ∧ kd L j = 1) : pageV L' e = pageV L e := by
  unfold pageV
  rcases he with rfl | rfl | ⟨j, rfl, j1, hj, hk⟩
  · rfl
  · rfl
  · rw [if_neg (by omega), if_neg (by omega), Int.toNat_natCast, hx.data hk]
end Go.Proofs.YtehleeibgkpjmafGreat
/- Contract of Grab. -/
namespace Go.Proofs.YtehleeibgkpjmafGreat
open Go.RowKit
set_option maxRecDepth 20000

def GrabAt (L : List SlotD) (g : Nat) : Prop := 1 ≤ g ∧ g ≤ L.length ∧ (∀ j, (h : j < L.length) → 1 ≤ j → j < g → (L[j]).1 ≠ 0) ∧ ∀ h : g < L.length, (L[g]).1 = 0
theorem GrabAt.unique {L : List SlotD} {g g' : Nat} (h : GrabAt L g) (k : GrabAt L g') : g = g' := by
  obtain ⟨h1, h2, h3, h4⟩ := h
  obtain ⟨k1, k2, k3, k4⟩ := k
  rcases Nat.lt_trichotomy g g' with e | e | e
  · exact absurd (h4 (by omega)) (k3 g (by omega) h1 e)
  · exact e
  · exact absurd (k4 (by omega)) (h3 g' (by omega) k1 e)

set_option maxHeartbeats 1000000 in
theorem grab_at (b off cap n : Nat) (L : List SlotD) (w : World) (hn : L.length = n) (h1 : 1 ≤ n) (h40 : n ≤ 40) (hlt : b < w.heap.size) (hc : ∀ j, (h : j < L.length) → SlAt w b (off + j * 3) L[j]) (hs : Slots w (.slice (some ⟨b, off, none⟩) n cap) L) (hE : slotsE L = 0) :
    Calls Tryz.prog 94 #[.slice (some ⟨b, off, none⟩) n cap] w fun r w' => ((GrabAt L 40 ∧ r = .returned (.tuple #[.int .i64 0, .int .i64 7])) ∨ ∃ g : Nat, g < 40 ∧ GrabAt L g ∧ r = .returned (.tuple #[.int .i64 g, .int .i64 0])) ∧ Below w.heap.size w w' := by
  have HC : Hid (∀ j, (h : j < L.length) → SlAt w b (off + j * 3) L[j]) := hc
  have HN : Hid (L.length = n) := hn
  have HE : Hid (slotsE L = 0) := hE
  clear hc hn hE
  go_enter Tryz.func94, Tryz.ntmps94
  go_wp2_with (go_at_call 116; refine (checkAll_any _ L _ hs).mono ?_; rintro e w1 ⟨he, b1⟩; rw [HE.out] at he; subst he)
  go_loop [5] (fun i => ∃ k : Nat, 1 ≤ k ∧ k ≤ n ∧ i = .int .i64 k ∧ ∀ j, (h : j < L.length) → 1 ≤ j → j < k → (L[j]).1 ≠ 0) (fun i => n - (intOf i).toNat)
  case atStart => exact ⟨1, Nat.le_refl _, h1, rfl, fun j h hj hj' => absurd hj' (by omega)⟩
  case round =>
    obtain ⟨k, hk1, hk, rfl, hall⟩ := hrel
    have HA : Hid (∀ j, (h : j < L.length) → 1 ≤ j → j < k → (L[j]).1 ≠ 0) := hall
    clear hall
    have fin : ∀ g : Nat, GrabAt L g → g = k → ((GrabAt L 40 ∧ (k : Int) = 40) ∨ (k : Int) ≠ 40) := fun g hg e => by
      subst e
      by_cases e : (g : Int) = 40
      · have : g = 40 := by omega
        subst this; exact .inl ⟨hg, rfl⟩
      · exact .inr e
    have HF : Hid (∀ g : Nat, GrabAt L g → g = k → ((GrabAt L 40 ∧ (k : Int) = 40) ∨ (k : Int) ≠ 40)) := fin
    clear fin
    by_cases hlk : k < n
    · obtain ⟨s, hs'⟩ : ∃ s, s = L[k]'(by rw [HN.out]; exact hlk) := ⟨_, rfl⟩
      obtain ⟨kk, dd, tt⟩ := s
      have hS : SlAt w b (off + k * 3) (kk, dd, tt) := by rw [hs']; exact HC.out k _
      obtain ⟨tv, c1, _, _, _⟩ := hS
      have c1 : w1.cell? ⟨b, off + k * 3, none⟩ = some (.int .i64 kk) := (b1.cell (p := ⟨b, off + k * 3, none⟩) hlt).trans c1
      have HS : Hid ((kk, dd, tt) = L[k]'(by rw [HN.out]; exact hlk)) := hs'
      clear hs'
      have hki : (k : Int) < (n : Int) := by omega
      by_cases h0 : kk = 0
      · have h0' : (kk != 0) = false := by simp [h0]
        have H0 : Hid (kk = 0) := h0
        clear h0
        have hne : ((k : Int) == 40) = false := by simp; omega
        have HG : Hid (GrabAt L k) := ⟨hk1, by rw [HN.out]; exact hk, HA.out, fun h => by rw [← HS.out]; exact H0.out⟩
        go_wp2
        go_ret2
        exact ⟨.inr ⟨k, by omega, HG.out, rfl⟩, b1⟩
      · have h0' : (kk != 0) = true := by simp [h0]
        go_wp2
        go_round
        case rel => exact ⟨k + 1, by omega, by omega, by go_num, fun j h hj hj' => by
          by_cases e : j = k
          · subst e; rw [← HS.out]; exact h0
          · exact HA.out j h hj (by omega)⟩
        case measure => simp [intOf]; omega
    · have e4 : k = n := by omega
      subst e4
      have HG : Hid (GrabAt L k) := ⟨hk1, by rw [HN.out]; exact hk, HA.out, fun h => absurd h (by rw [HN.out]; omega)⟩
      by_cases e40 : k = 40
      · subst e40
        go_wp2
        go_ret2
        exact ⟨.inl ⟨HG.out, rfl⟩, b1⟩
      · have hne : ((k : Int) == 40) = false := by simp; omega
        go_wp2
        go_ret2
        exact ⟨.inr ⟨k, by omega, HG.out, rfl⟩, b1⟩

theorem grab_ok (v : Value) (L : List SlotD) (w : World) (h : Slots w v L) (hE : slotsE L = 0) :
    Calls Tryz.prog 94 #[v] w fun r w' => ((GrabAt L 40 ∧ r = .returned (.tuple #[.int .i64 0, .int .i64 7])) ∨ ∃ g : Nat, g < 40 ∧ GrabAt L g ∧ r = .returned (.tuple #[.int .i64 g, .int .i64 0])) ∧ Below w.heap.size w w' := by
  have hs := h
  obtain ⟨b, off, cap, rfl, hcp, hlt, hcell⟩ := h.open (slotsE_parts hE).1
  exact grab_at b off cap _ L w rfl (slotsE_parts hE).1 (slotsE_parts hE).2 hlt hcell hs hE

end Go.Proofs.YtehleeibgkpjmafGreat
/- Writing, wiping, punching: what the document's answer is, and that it has the form. Plain lists. -/
namespace Go.Proofs.YtehleeibgkpjmafGreat
open Go.RowKit Go.Shelf
set_option maxRecDepth 20000


def grabF (L : List SlotD) : Nat → Nat → Nat
  | 0, j => j
  | f + 1, j => if j < L.length ∧ kd L j ≠ 0 then grabF L f (j + 1) else j
def grabN (L : List SlotD) : Nat := grabF L L.length 1
theorem grabF_spec (L : List SlotD) : ∀ (f j : Nat), L.length ≤ j + f → j ≤ L.length → j ≤ grabF L f j ∧ grabF L f j ≤ L.length ∧ (∀ i, j ≤ i → i < grabF L f j → kd L i ≠ 0) ∧ (grabF L f j < L.length → kd L (grabF L f j) = 0)
  | 0, j, h, hj => ⟨Nat.le_refl _, hj, fun i h1 h2 => by simp [grabF] at h2; omega, fun h2 => by simp [grabF] at h2; omega⟩
  | f + 1, j, h, hj => by
    unfold grabF
    by_cases c : j < L.length ∧ kd L j ≠ 0
    · rw [if_pos c]
      obtain ⟨a, b, d, e⟩ := grabF_spec L f (j + 1) (by omega) (by omega)
      refine ⟨by omega, b, fun i h1 h2 => ?_, e⟩
      by_cases ei : i = j
      · subst ei; exact c.2
      · exact d i (by omega) h2
    · rw [if_neg c]
      refine ⟨Nat.le_refl _, hj, fun i h1 h2 => by omega, fun h2 => ?_⟩
      exact Classical.byContradiction fun x => c ⟨h2, x⟩
theorem kd_getElem {L : List SlotD} {j : Nat} (h : j < L.length) : L[j].1 = kd L j := by unfold kd; simp [List.getD, h]
theorem grabN_spec {L : List SlotD} (h1 : 1 ≤ L.length) : 1 ≤ grabN L ∧ grabN L ≤ L.length ∧ (∀ i, 1 ≤ i → i < grabN L → kd L i ≠ 0) ∧ kd L (grabN L) = 0 := by
  obtain ⟨a, b, c, d⟩ := grabF_spec L L.length 1 (by omega) h1
  refine ⟨a, b, c, ?_⟩
  rcases Nat.lt_or_ge (grabN L) L.length with h | h
  · exact d h
  · exact Classical.byContradiction fun x => by have := kd_lt x; omega
theorem grabN_at {L : List SlotD} (h1 : 1 ≤ L.length) : GrabAt L (grabN L) := by
  obtain ⟨a, b, c, d⟩ := grabN_spec h1
  exact ⟨a, b, fun j hj h1 h2 => by rw [kd_getElem hj]; exact c j h1 h2, fun h => by rw [kd_getElem h]; exact d⟩
theorem grabN_le40 {L : List SlotD} (h : slotsE L = 0) : grabN L ≤ 40 := by
  have := slotsE_parts h; have := grabN_spec this.1; omega


def layS (L : List SlotD) (n : Nat) (s : SlotD) : List SlotD := if n = L.length then L ++ [s] else L.set n s
theorem layS_length {L : List SlotD} {n : Nat} {s : SlotD} : (layS L n s).length = if n = L.length then L.length + 1 else L.length := by
  unfold layS; split <;> simp
theorem layS_get {L : List SlotD} {n : Nat} {s : SlotD} (hn : n ≤ L.length) (j : Nat) : (layS L n s).getD j default = if j = n then s else L.getD j default := by
  unfold layS
  by_cases e : n = L.length
  · rw [if_pos e]
    subst e
    by_cases ej : j = L.length
    · subst ej; rw [if_pos rfl]; simp [List.getD]
    · rw [if_neg ej]
      by_cases hj : j < L.length
      · simp [List.getD, List.getElem?_append, hj]
      · have a : L.getD j default = default := by simp [List.getD, hj]
        have b : (L ++ [s]).getD j default = default := by
          have : ¬ j < (L ++ [s]).length := by simp; omega
          unfold List.getD
          rw [List.getElem?_eq_none (by omega)]; rfl
        rw [a, b]
  · rw [if_neg e]
    by_cases ej : j = n
    · subst ej; rw [if_pos rfl]; simp [List.getD, show j < L.length by omega]
    · rw [if_neg ej]; simp [List.getD, Ne.symm ej]
theorem layS_kd {L : List SlotD} {n : Nat} {s : SlotD} (hn : n ≤ L.length) (j : Nat) : kd (layS L n s) j = if j = n then s.1 else kd L j := by
  unfold kd; rw [layS_get hn]; split <;> rfl
theorem layS_le {L : List SlotD} {n : Nat} {s : SlotD} (hn : n ≤ L.length) (h40 : L.length ≤ 40) (hn40 : n < 40) : (layS L n s).length ≤ 40 ∧ L.length ≤ (layS L n s).length ∧ n < (layS L n s).length := by
  rw [layS_length]; split <;> omega

theorem ok_tab {es : List Int} (hes : ckE es = 0) (hb : bareL es = false) : okD (2, ⟨#[]⟩, es) = true := by
  have : bareE es = false := by unfold bareE; rw [if_pos hes, hb]
  show slotOK 2 ⟨#[]⟩ es = true
  rw [slotOK_2]
  exact decide_eq_true ⟨hes, this, rfl⟩
theorem ok_page {page : ByteArray} (h : page.size = 4) : okD (1, page, []) = true := by
  show slotOK 1 page [] = true
  unfold slotOK
  rw [if_neg (by decide), if_pos rfl]
  exact decide_eq_true ⟨h, rfl⟩
theorem ext_lay {L : List SlotD} {t : Nat} {es : List Int} (h0 : slotsE L = 0) (ht : t ≤ L.length) (t1 : 1 ≤ t) (t40 : t < 40) (hk : kd L t = 0 ∨ kd L t = 2) (hes : ckE es = 0) (hb : bareL es = false) (hents : ∀ e ∈ es, tabE L e = true) : Ext L (layS L t (2, ⟨#[]⟩, es)) t es := by
  have hp := slotsE_parts h0
  have hle := layS_le (s := (2, ⟨#[]⟩, es)) ht hp.2 t40
  have hpg : kd L t ≠ 1 := by rcases hk with e | e <;> rw [e] <;> decide
  refine ⟨hle.1, fun j hj _ => by rw [layS_get ht, if_neg hj], by rw [layS_get ht, if_pos rfl], hpg, fun j hj => ?_, ?_, fun j hj hk2 => ?_, fun e he => ?_⟩
  · rw [layS_get ht]
    by_cases ej : j = t
    · rw [if_pos ej]; exact ok_tab hes hb
    · rw [if_neg ej]
      have hjl : j < L.length := by rw [layS_length] at hj; split at hj <;> omega
      rw [← getElem_getD hjl]; exact slotsE_all h0 hjl
  · rw [layS_kd ht, if_neg (by omega)]; exact slot0 h0
  · rw [layS_kd ht, if_neg hj] at hk2; exact hk2
  · rcases tabE_cases (hents e he) with e0 | e1 | ⟨j, rfl, hj, hkj⟩
    · rw [e0]; rfl
    · rw [e1]; rfl
    · have j1 : 1 ≤ j := by
        rcases Nat.eq_zero_or_pos j with e | e
        · subst e; rw [slot0 h0] at hkj; simp at hkj
        · exact e
      have hjt : j ≠ t := fun e => hpg (by rw [← e]; exact hkj)
      rw [tabE_x (by omega) (by omega)]
      exact isKd_of (by omega) (by rw [layS_kd ht, if_neg hjt]; exact hkj)
theorem ext_write {L : List SlotD} {t d : Nat} {es : List Int} {page : ByteArray} (h0 : slotsE L = 0) (ht : t ≤ L.length) (t1 : 1 ≤ t) (t40 : t < 40) (hk : kd L t = 0 ∨ kd L t = 2) (hes : ckE es = 0) (hb : bareL es = false)
    (hd : d ≤ (layS L t (2, ⟨#[]⟩, es)).length) (d1 : 1 ≤ d) (d40 : d < 40) (hdt : d ≠ t) (hkd : kd L d = 0) (hp4 : page.size = 4) (hents : ∀ e ∈ es, tabE L e = true ∨ e = (d : Int)) : Ext L (layS (layS L t (2, ⟨#[]⟩, es)) d (1, page, [])) t es := by
  have hp := slotsE_parts h0
  have hle := layS_le (s := (2, ⟨#[]⟩, es)) ht hp.2 t40
  have hle2 := layS_le (s := ((1, page, []) : SlotD)) hd hle.1 d40
  have hpg : kd L t ≠ 1 := by rcases hk with e | e <;> rw [e] <;> decide
  refine ⟨hle2.1, fun j hj hkj => ?_, ?_, hpg, fun j hj => ?_, ?_, fun j hj hk2 => ?_, fun e he => ?_⟩
  · have hjd : j ≠ d := fun e => hkj (by rw [e]; exact hkd)
    rw [layS_get hd, if_neg hjd, layS_get ht, if_neg hj]
  · rw [layS_get hd, if_neg (fun e => hdt e.symm), layS_get ht, if_pos rfl]
  · rw [layS_get hd]
    by_cases ed : j = d
    · rw [if_pos ed]; exact ok_page hp4
    · rw [if_neg ed, layS_get ht]
      by_cases ej : j = t
      · rw [if_pos ej]; exact ok_tab hes hb
      · rw [if_neg ej]
        have hjl : j < L.length := by
          rw [layS_length] at hj
          rw [layS_length] at hj hd
          split at hj <;> split at hj <;> split at hd <;> omega
        rw [← getElem_getD hjl]; exact slotsE_all h0 hjl
  · rw [layS_kd hd, if_neg (by omega), layS_kd ht, if_neg (by omega)]; exact slot0 h0
  · rw [layS_kd hd] at hk2
    by_cases ed : j = d
    · rw [if_pos ed] at hk2; simp at hk2
    · rw [if_neg ed, layS_kd ht, if_neg hj] at hk2; exact hk2
  · rcases hents e he with hE | hE
    · rcases tabE_cases hE with e0 | e1 | ⟨j, rfl, hj, hkj⟩
      · rw [e0]; rfl
      · rw [e1]; rfl
      · have j1 : 1 ≤ j := by
          rcases Nat.eq_zero_or_pos j with e | e
          · subst e; rw [slot0 h0] at hkj; simp at hkj
          · exact e
        have hjt : j ≠ t := fun e => hpg (by rw [← e]; exact hkj)
        have hjd : j ≠ d := fun e => by rw [e, hkd] at hkj; simp at hkj
        rw [tabE_x (by omega) (by omega)]
        exact isKd_of (by omega) (by rw [layS_kd hd, if_neg hjd, layS_kd ht, if_neg hjt]; exact hkj)
    · rw [hE, tabE_x (by omega) (by omega)]
      exact isKd_of hle2.2.2 (by rw [layS_kd hd, if_pos rfl])


theorem count_two {t : Int} : ∀ (l : List Int) (i k : Nat), i < k → k < l.length → l.getD i 0 = t → l.getD k 0 = t → 2 ≤ l.count t
  | [], i, k, _, hk, _, _ => absurd hk (by simp)
  | a :: l, 0, k + 1, _, hk, h1, h2 => by
    have h1 : a = t := by simpa using h1
    have h2 : l.getD k 0 = t := by simpa using h2
    have hk : k < l.length := by simpa using hk
    have : t ∈ l := by rw [← h2, getD_at hk]; exact List.getElem_mem hk
    have := List.count_pos_iff.2 this
    rw [List.count_cons, h1]; simp; omega
  | a :: l, i + 1, k + 1, hik, hk, h1, h2 => by
    have := count_two l i k (by omega) (by simpa using hk) (by simpa using h1) (by simpa using h2)
    rw [List.count_cons]; omega
theorem flatR_app (m : ImgD) : flatR m = m.root ++ m.snaps.flatMap (fun s => s.2.2) := rfl
theorem lone_one {m : ImgD} {k t : Nat} (hk : k < m.root.length) (ht : m.root.getD k 0 = (t : Int)) (hc : (flatR m).count (t : Int) = 1) : Lone m k t := by
  rw [flatR_app, List.count_append] at hc
  have hmem : (t : Int) ∈ m.root := by rw [← ht, getD_at hk]; exact List.getElem_mem hk
  have h1 := List.count_pos_iff.2 hmem
  refine ⟨fun i hi hne e => ?_, fun s hs hm => ?_⟩
  · have : 2 ≤ m.root.count (t : Int) := by
      rcases Nat.lt_or_ge i k with h | h
      · exact count_two m.root i k h hk e ht
      · exact count_two m.root k i (by omega) hi ht e
    omega
  · have : (t : Int) ∈ m.snaps.flatMap (fun s => s.2.2) := by rw [List.mem_flatMap]; exact ⟨s, hs, hm⟩
    have := List.count_pos_iff.2 this
    omega
theorem lone_free {m : ImgD} {k t : Nat} (h : shapeE m = 0) (t1 : 1 ≤ t) (ht : kd m.slots t = 0) : Lone m k t := by
  have hno : (t : Int) ∉ flatR m := fun hm => by have := (told_root h hm t1).2.1; rw [ht] at this; simp at this
  rw [flatR_app] at hno
  refine ⟨fun i hi _ e => hno (List.mem_append_left _ (by rw [← e, getD_at hi]; exact List.getElem_mem hi)), fun s hs hm => hno (List.mem_append_right _ (by rw [List.mem_flatMap]; exact ⟨s, hs, hm⟩))⟩


def tableO (m : ImgD) (k : Nat) : List Int := if m.root.getD k 0 = 0 then [0, 0, 0, 0] else tabOf m.slots (m.root.getD k 0)
def inPl (m : ImgD) (k : Nat) : Bool := m.root.getD k 0 != 0 && m.refs.getD (m.root.getD k 0).toNat 0 == 1
def tabN (m : ImgD) (k : Nat) : Nat := if inPl m k = true then (m.root.getD k 0).toNat else grabN m.slots
theorem tableO_ok {m : ImgD} (h : shapeE m = 0) {k : Nat} (hk : k < m.root.length) : ckE (tableO m k) = 0 ∧ ∀ e ∈ tableO m k, tabE m.slots e = true := by
  have hr := root_ok h
  unfold tableO
  by_cases hz : m.root.getD k 0 = 0
  · rw [if_pos hz]
    refine ⟨by decide, fun e he => ?_⟩
    have : e = 0 := by simpa using he
    rw [this]; rfl
  · rw [if_neg hz]
    have hE := all_at hr.2 hk
    rw [rootE_x hz] at hE
    obtain ⟨j, e, hj, hk2⟩ := isKd_yes hE
    rw [e]
    refine ⟨?_, fun x hx => List.all_eq_true.1 (tab_all (shapeE_zero h).2.2.2.2.2.1 _) x hx⟩
    have := okD_tab (slotsE_all (shapeE_zero h).2.1 hj) hk2
    unfold tabOf
    simpa [List.getD, hj] using this.2
theorem tabN_spec {m : ImgD} (hC : checkE m = 0) {k : Nat} (hk : k < m.root.length) (h40 : tabN m k ≠ 40) : 1 ≤ tabN m k ∧ tabN m k ≤ m.slots.length ∧ tabN m k < 40 ∧ (kd m.slots (tabN m k) = 0 ∨ kd m.slots (tabN m k) = 2) ∧ Lone m k (tabN m k) := by
  obtain ⟨h, hcnt, _⟩ := checkE_zero hC
  obtain ⟨z1, z2, z3, z4, z5, z6, z7⟩ := shapeE_zero h
  have hp := slotsE_parts z2
  unfold tabN at h40 ⊢
  by_cases hi : inPl m k = true
  · rw [if_pos hi] at h40 ⊢
    unfold inPl at hi
    simp at hi
    obtain ⟨hz, hrf⟩ := hi
    have hz : m.root.getD k 0 ≠ 0 := hz
    have hrf : m.refs.getD (m.root.getD k 0).toNat 0 = 1 := hrf
    have hE := all_at (root_ok h).2 hk
    rcases rootE_cases hE with e | ⟨j, e, hj, hkj⟩
    · exact absurd e hz
    · have hmem : (j : Int) ∈ flatR m := by rw [flatR_app]; exact List.mem_append_left _ (by rw [← e, getD_at hk]; exact List.getElem_mem hk)
      rw [e, Int.toNat_natCast] at hrf ⊢
      have j1 : 1 ≤ j := by omega
      have hc1 : (flatR m).count (j : Int) = 1 := by
        rw [← hcnt, cntL_get h j hj] at hrf
        unfold cntI at hrf
        rw [if_neg (by omega), sumT_no z6 _ j1 (by rw [hkj]; decide)] at hrf
        omega
      exact ⟨j1, by omega, by omega, .inr hkj, lone_one hk e hc1⟩
  · rw [if_neg hi] at h40 ⊢
    obtain ⟨a, b, c, d⟩ := grabN_spec hp.1
    exact ⟨a, b, by omega, .inl d, lone_free h a d⟩

def TailZ (m : ImgD) (k : Nat) (es : List Int) : Prop := k = m.root.length - 1 → m.guest % 4 ≠ 0 → (es.drop (m.guest % 4).toNat).all (fun e => e == 0) = true
theorem tableO_tail {m : ImgD} (h : shapeE m = 0) (k : Nat) : TailZ m k (tableO m k) := by
  intro hk hg
  have hf := List.all_eq_true.1 (shapeE_zero h).2.2.2.2.2.2 (⟨#[]⟩, m.guest, m.root) List.mem_cons_self
  unfold rootFit lastFit at hf
  dsimp only at hf
  simp only [Bool.and_eq_true] at hf
  have hl := hf.2.2
  have hg' : (m.guest % 4 == 0) = false := by simpa using hg
  rw [hg', Bool.false_or, ← hk] at hl
  unfold tableO
  by_cases hz : m.root.getD k 0 = 0
  · rw [if_pos hz]
    have : ∀ j, ([0, 0, 0, 0] : List Int).drop j = List.replicate (4 - j) 0 := fun j => by
      have : ([0, 0, 0, 0] : List Int) = List.replicate 4 0 := rfl
      rw [this, List.drop_replicate]
    rw [this]; simp
  · rw [if_neg hz]
    have hz' : (m.root.getD k 0 == 0) = false := by simpa using hz
    rw [hz', Bool.false_or] at hl
    exact hl
theorem tail_set {m : ImgD} {k : Nat} {es : List Int} (h : TailZ m k es) {n : Nat} (hn : (n : Int) < m.guest) (hk : n / 4 = k) (hr : (m.root.length : Int) = (m.guest + 3) / 4) (e : Int) : TailZ m k (es.set (n % 4) e) := by
  intro h1 h2
  have := h h1 h2
  rw [List.drop_set_of_lt (by omega)]
  exact this
theorem set_ck {es : List Int} (h : ckE es = 0) {i : Nat} {e : Int} (he : isE e = true) : ckE (es.set i e) = 0 := by
  refine ckE_yes (by rw [List.length_set]; exact ckE_len h) ?_
  rw [List.all_eq_true]
  intro x hx
  rcases List.mem_or_eq_of_mem_set hx with hm | hm
  · exact List.all_eq_true.1 (ckE_all h) x hm
  · rw [hm]; exact he
theorem bare_get {es : List Int} {i : Nat} (hi : i < es.length) (h : es.getD i 0 ≠ 0) : bareL es = false := by
  unfold bareL
  exact not_all_of hi (by simpa using h)
theorem set_get {es : List Int} {i : Nat} (hi : i < es.length) (e : Int) : (es.set i e).getD i 0 = e := by rw [getD_setI, if_pos ⟨rfl, hi⟩]
theorem mem_set {es : List Int} {i : Nat} {e x : Int} (h : x ∈ es.set i e) : x ∈ es ∨ x = e := List.mem_or_eq_of_mem_set h


def rfZ (L : List SlotD) : List Int := List.replicate L.length 0
def tabL (m : ImgD) (k : Nat) (es : List Int) : List SlotD := layS m.slots (tabN m k) (2, ⟨#[]⟩, es)
def tabledD (m : ImgD) (k : Nat) (es : List Int) : Option ImgD :=
  if bareL es = true then some { m with root := m.root.set k 0 } else if tabN m k = 40 then none else some (tabSet m k (tabN m k) (tabL m k es) (rfZ (tabL m k es)))
def wInPl (m : ImgD) (n : Nat) : Bool := decide (0 < lookV m m.root n) && (inPl m (n / 4) && m.refs.getD (lookV m m.root n).toNat 0 == 1)
def wD (m : ImgD) (n : Nat) : Nat := grabN (tabL m (n / 4) (tableO m (n / 4)))
def wEs (m : ImgD) (n : Nat) : List Int := (tableO m (n / 4)).set (n % 4) (wD m n : Int)
def wL (m : ImgD) (n : Nat) (page : ByteArray) : List SlotD := layS (tabL m (n / 4) (wEs m n)) (wD m n) (1, page, [])
def writeD (m : ImgD) (n : Nat) (page : ByteArray) : Option ImgD :=
  if wInPl m n = true then some { m with slots := m.slots.set (lookV m m.root n).toNat (1, page, []) }
  else if tabN m (n / 4) = 40 then none else if wD m n = 40 then none else some (countedD (tabSet m (n / 4) (tabN m (n / 4)) (wL m n page) (rfZ (wL m n page))))

theorem lookV_tableO (m : ImgD) (n : Nat) : lookV m m.root n = (tableO m (n / 4)).getD (n % 4) 0 := by
  unfold lookV tableO
  split
  · have h4 : n % 4 < 4 := Nat.mod_lt _ (by decide)
    have : ∀ i, i < 4 → ([0, 0, 0, 0] : List Int).getD i 0 = 0 := by decide
    rw [this _ h4]
  · rfl

theorem write_ext {m : ImgD} (hC : checkE m = 0) {n : Nat} (hn : (n : Int) < m.guest) (h40 : tabN m (n / 4) ≠ 40) (hd40 : wD m n ≠ 40) {page : ByteArray} (hp : page.size = 4) :
    Ext m.slots (wL m n page) (tabN m (n / 4)) (wEs m n) ∧ Lone m (n / 4) (tabN m (n / 4)) ∧ TailZ m (n / 4) (wEs m n) ∧ n / 4 < m.root.length ∧ 1 ≤ wD m n ∧ wD m n < 40 ∧ kd m.slots (wD m n) = 0 ∧ wD m n ≠ tabN m (n / 4) := by
  obtain ⟨h, _, _⟩ := checkE_zero hC
  have hr := root_ok h
  have hg := guest_ok h
  have hk : n / 4 < m.root.length := by omega
  obtain ⟨t1, tl, t40, tk, hl⟩ := tabN_spec hC hk h40
  obtain ⟨ock, oent⟩ := tableO_ok h hk
  have hs := (shapeE_zero h).2.1
  have hp40 := slotsE_parts hs
  have hle := layS_le (s := ((2, ⟨#[]⟩, tableO m (n / 4)) : SlotD)) tl hp40.2 t40
  obtain ⟨d1, dl, dne, dfree⟩ := grabN_spec (L := tabL m (n / 4) (tableO m (n / 4))) (by unfold tabL; omega)
  have hdt : wD m n ≠ tabN m (n / 4) := fun e => by
    have : kd (tabL m (n / 4) (tableO m (n / 4))) (wD m n) = 0 := dfree
    unfold tabL at this
    rw [layS_kd tl, if_pos e] at this
    simp at this
  have hkd : kd m.slots (wD m n) = 0 := by
    have : kd (tabL m (n / 4) (tableO m (n / 4))) (wD m n) = 0 := dfree
    unfold tabL at this
    rw [layS_kd tl, if_neg hdt] at this
    exact this
  have hdl : wD m n ≤ (layS m.slots (tabN m (n / 4)) (2, ⟨#[]⟩, wEs m n)).length := by
    have : wD m n ≤ (tabL m (n / 4) (tableO m (n / 4))).length := dl
    unfold tabL at this
    rw [layS_length] at this ⊢; exact this
  have hd40' : wD m n < 40 := by
    have : wD m n ≤ (tabL m (n / 4) (tableO m (n / 4))).length := dl
    unfold tabL at this; omega
  have hd1 : 1 ≤ wD m n := d1
  have h4 : n % 4 < (tableO m (n / 4)).length := by rw [ckE_len ock]; omega
  have hEd : isE (wD m n : Int) = true := by rw [isE_iff]; omega
  refine ⟨?_, hl, ?_, hk, hd1, hd40', hkd, hdt⟩
  · refine ext_write hs tl t1 t40 tk (set_ck ock hEd) (bare_get (i := n % 4) (by unfold wEs; rw [List.length_set]; exact h4) (by unfold wEs; rw [set_get h4]; omega)) hdl hd1 hd40' hdt hkd hp (fun e he => ?_)
    rcases mem_set he with hm | hm
    · exact .inl (oent e hm)
    · exact .inr hm
  · exact tail_set (tableO_tail h _) hn rfl hr.1 _
end Go.Proofs.YtehleeibgkpjmafGreat
/- Writing, wiping, punching: what comes is right, and how it is read. Plain lists. -/
namespace Go.Proofs.YtehleeibgkpjmafGreat
open Go.RowKit Go.Shelf
set_option maxRecDepth 20000

def EntOK (L : List SlotD) (e : Int) : Prop := e = 0 ∨ e = -1 ∨ ∃ j : Nat, e = j ∧ 1 ≤ j ∧ j < L.length ∧ kd L j = 1
structure Laid (m M : ImgD) (k : Nat) (es : List Int) : Prop where
  shape : shapeE M = 0
  guest : M.guest = m.guest
  snaps : M.snaps = m.snaps
  rlen : M.root.length = m.root.length
  look : ∀ q, q / 4 < m.root.length → lookV M M.root q = if q / 4 = k then es.getD (q % 4) 0 else lookV m m.root q
  past : ∀ s ∈ m.snaps, ∀ q, q / 4 < s.2.2.length → lookV M s.2.2 q = lookV m s.2.2 q
  page : ∀ e, EntOK m.slots e → pageV M.slots e = pageV m.slots e

theorem laid_ext {m : ImgD} {k t : Nat} {L' : List SlotD} {es rf : List Int} (h : shapeE m = 0) (hk : k < m.root.length) (hx : Ext m.slots L' t es) (hl : Lone m k t) (hrf : rf.length = L'.length) (hz : TailZ m k es) : Laid m (tabSet m k t L' rf) k es := by
  have hs := (shapeE_zero h).2.1
  have hr := root_ok h
  refine ⟨tabSet_shape h hk hx hl hrf hz, rfl, rfl, by show (m.root.set k _).length = _; rw [List.length_set], fun q hq => look_tabSet hx hs hl hr.2 q hq, fun s hsm q hq => ?_, fun e he => page_ext hx he⟩
  have hf := List.all_eq_true.1 (shapeE_zero h).2.2.2.2.2.2 s (List.mem_cons_of_mem _ hsm)
  unfold rootFit at hf
  simp only [Bool.and_eq_true] at hf
  exact look_snap hx hs hf.2.1 (hl.snap s hsm) q hq

theorem reroot_shape {m : ImgD} (h : shapeE m = 0) {g : Int} {r : List Int} (hg : guestOK g = true) (hf : rootFit m.slots g r = true) : shapeE { m with guest := g, root := r } = 0 := by
  obtain ⟨z1, z2, z3, z4, z5, z6, z7⟩ := shapeE_zero h
  unfold rootsOf at z5 z7
  rw [List.all_cons] at z5 z7
  simp only [Bool.and_eq_true] at z5 z7
  have hgall : (rootsOf { m with guest := g, root := r }).all (fun s => guestOK s.2.1) = true := by
    show (((⟨#[]⟩, g, r) : SnapD) :: m.snaps).all _ = true
    rw [List.all_cons, z5.2, Bool.and_true]; exact hg
  have hall : (rootsOf { m with guest := g, root := r }).all (fun s => rootFit m.slots s.2.1 s.2.2) = true := by
    show (((⟨#[]⟩, g, r) : SnapD) :: m.snaps).all _ = true
    rw [List.all_cons, z7.2, Bool.and_true]; exact hf
  unfold shapeE
  rw [if_neg (by show ¬ 3 < m.snaps.length; omega), if_neg (by show ¬ slotsE m.slots ≠ 0; simpa using z2), if_neg, if_neg (by rw [hgall]; decide), if_neg (by show ¬ tabFit m.slots = false; rw [z6]; decide), if_neg (by show ¬ ((rootsOf { m with guest := g, root := r }).all fun s => rootFit m.slots s.2.1 s.2.2) = false; rw [hall]; decide)]
  rintro (e | e)
  · exact e z3
  · have : namesOK m.snaps = false := e
    rw [z4] at this; cases this
theorem rootFit_root {m : ImgD} (h : shapeE m = 0) : rootFit m.slots m.guest m.root = true := List.all_eq_true.1 (shapeE_zero h).2.2.2.2.2.2 (⟨#[]⟩, m.guest, m.root) List.mem_cons_self
theorem guestOK_guest {m : ImgD} (h : shapeE m = 0) : guestOK m.guest = true := List.all_eq_true.1 (shapeE_zero h).2.2.2.2.1 (⟨#[]⟩, m.guest, m.root) List.mem_cons_self
theorem rootFit_zero {L : List SlotD} {g : Int} {r : List Int} (h : rootFit L g r = true) (k : Nat) : rootFit L g (r.set k 0) = true := by
  unfold rootFit at h ⊢
  simp only [Bool.and_eq_true, decide_eq_true_eq] at h ⊢
  refine ⟨by rw [List.length_set]; exact h.1, ?_, ?_⟩
  · rw [List.all_eq_true]
    intro x hx
    rcases mem_set hx with hm | hm
    · exact List.all_eq_true.1 h.2.1 x hm
    · rw [hm]; rfl
  · have hl := h.2.2
    unfold lastFit at hl ⊢
    rw [List.length_set, getD_setI]
    by_cases e : k = r.length - 1 ∧ r.length - 1 < r.length
    · rw [if_pos e]; simp
    · rw [if_neg e]; exact hl
theorem laid_bare {m : ImgD} {k : Nat} {es : List Int} (h : shapeE m = 0) (hb : bareL es = true) : Laid m { m with root := m.root.set k 0 } k es := by
  refine ⟨reroot_shape h (guestOK_guest h) (rootFit_zero (rootFit_root h) k), rfl, rfl, List.length_set, fun q hq => ?_, fun _ _ _ _ => rfl, fun _ _ => rfl⟩
  have hg := getD_setI m.root k (q / 4) 0
  by_cases e : q / 4 = k
  · rw [if_pos (⟨e.symm, hq⟩ : k = q / 4 ∧ q / 4 < m.root.length)] at hg
    rw [if_pos e]
    unfold lookV
    show (if (m.root.set k 0).getD (q / 4) 0 = 0 then 0 else _) = _
    rw [hg, if_pos rfl]
    unfold bareL at hb
    by_cases hi : q % 4 < es.length
    · have := List.all_eq_true.1 hb _ (List.getElem_mem hi)
      have e0 : es[q % 4] = 0 := by simpa using this
      rw [getD_at hi, e0]
    · simp [List.getD, hi]
  · rw [if_neg (fun x => e x.1.symm)] at hg
    rw [if_neg e]
    unfold lookV
    show (if (m.root.set k 0).getD (q / 4) 0 = 0 then 0 else (tabOf m.slots ((m.root.set k 0).getD (q / 4) 0)).getD (q % 4) 0) = _
    rw [hg]

theorem tabled_laid {m : ImgD} (hC : checkE m = 0) {k : Nat} (hk : k < m.root.length) {es : List Int} (hes : ckE es = 0) (hents : ∀ e ∈ es, tabE m.slots e = true) (hz : TailZ m k es) {M : ImgD} (hM : tabledD m k es = some M) : Laid m M k es ∧ M.slots.length ≤ m.slots.length + 1 := by
  obtain ⟨h, _, _⟩ := checkE_zero hC
  unfold tabledD at hM
  split at hM
  · rename_i hb
    simp at hM
    subst hM
    exact ⟨laid_bare h hb, Nat.le_succ _⟩
  · rename_i hb
    have hb : bareL es = false := by simpa using hb
    split at hM
    · cases hM
    · rename_i h40
      simp at hM
      subst hM
      obtain ⟨t1, tl, t40, tk, hl⟩ := tabN_spec hC hk h40
      refine ⟨laid_ext h hk (ext_lay (shapeE_zero h).2.1 tl t1 t40 tk hes hb hents) hl (by simp [rfZ, tabL]) hz, ?_⟩
      show (layS _ _ _).length ≤ _
      rw [layS_length]; split <;> omega


theorem snap_fit {m : ImgD} (h : shapeE m = 0) {s : SnapD} (hs : s ∈ rootsOf m) : 0 ≤ s.2.1 ∧ s.2.1 ≤ 16 ∧ (s.2.2.length : Int) = (s.2.1 + 3) / 4 ∧ s.2.2.all (rootE m.slots) = true := by
  have hf := List.all_eq_true.1 (shapeE_zero h).2.2.2.2.2.2 s hs
  have hg := List.all_eq_true.1 (shapeE_zero h).2.2.2.2.1 s hs
  unfold rootFit at hf
  unfold guestOK at hg
  simp only [Bool.and_eq_true, decide_eq_true_eq] at hf hg
  exact ⟨hg.1, hg.2, hf.1, hf.2.1⟩
theorem Laid.past_all {m M : ImgD} {k : Nat} {es : List Int} (hL : Laid m M k es) (h : shapeE m = 0) {s : SnapD} (hs : s ∈ m.snaps) : allP (countedD M) s.2.2 s.2.1.toNat = allP m s.2.2 s.2.1.toNat := by
  have hsM : s ∈ rootsOf M := List.mem_cons_of_mem _ (by rw [hL.snaps]; exact hs)
  rw [allP_counted hL.shape hsM]
  obtain ⟨a, b, c, d⟩ := snap_fit h (List.mem_cons_of_mem _ hs : s ∈ rootsOf m)
  unfold allP
  refine List.map_congr_left fun q hq => ?_
  have hq := List.mem_range.1 hq
  rw [hL.past s hs q (by omega)]
  exact hL.page _ (lookV_ent h d q (by omega))
theorem snapIx_get {S : List SnapD} {nm : ByteArray} {j : Nat} (h : snapIx S nm = some j) : S.getD j default ∈ S := by
  have hj := snapIx_some h
  have : S.getD j default = S[j] := by simp [List.getD, hj]
  rw [this]; exact List.getElem_mem hj
theorem Laid.pastV {m M : ImgD} {k : Nat} {es : List Int} (hL : Laid m M k es) (hC : checkE m = 0) (nm : ByteArray) : Go.Proofs.YtehleeibgkpjmafGreat.pastV (countedD M) nm = Go.Proofs.YtehleeibgkpjmafGreat.pastV m nm ∧ pastE (countedD M) nm = pastE m nm := by
  have h := checkE_shape hC
  have hsn : (countedD M).snaps = m.snaps := hL.snaps
  unfold Go.Proofs.YtehleeibgkpjmafGreat.pastV pastE
  rw [if_neg (by rw [counted_right hL.shape]; simp), if_neg (by rw [hC]; simp), if_neg (by rw [counted_right hL.shape]; simp), if_neg (by rw [hC]; simp), hsn]
  cases hsi : snapIx m.snaps nm with
  | none => exact ⟨rfl, rfl⟩
  | some j => exact ⟨hL.past_all h (snapIx_get hsi), rfl⟩
theorem Laid.allV {m M : ImgD} {k : Nat} {es : List Int} (hL : Laid m M k es) : Go.Proofs.YtehleeibgkpjmafGreat.allV (countedD M) = allP M M.root m.guest.toNat := by
  unfold Go.Proofs.YtehleeibgkpjmafGreat.allV
  rw [if_pos (counted_right hL.shape)]
  have := allP_counted hL.shape (s := (⟨#[]⟩, M.guest, M.root)) List.mem_cons_self
  show allP (countedD M) M.root M.guest.toNat = _
  rw [this, hL.guest]
theorem Laid.put {m M : ImgD} {n : Nat} {x : Int} (hC : checkE m = 0) (hn : (n : Int) < m.guest) (hL : Laid m M (n / 4) ((tableO m (n / 4)).set (n % 4) x)) : Go.Proofs.YtehleeibgkpjmafGreat.allV (countedD M) = (Go.Proofs.YtehleeibgkpjmafGreat.allV m).set n (pageV M.slots x) := by
  have h := checkE_shape hC
  have hr := root_ok h
  have hg := guest_ok h
  rw [hL.allV]
  unfold Go.Proofs.YtehleeibgkpjmafGreat.allV
  rw [if_pos hC]
  unfold allP
  apply List.ext_getElem
  · simp
  · intro q h1 h2
    have hq : q < m.guest.toNat := by simpa using h1
    rw [List.getElem_set, List.getElem_map, List.getElem_range]
    rw [hL.look q (by omega)]
    have hlen : (tableO m (n / 4)).length = 4 := ckE_len (tableO_ok h (by omega)).1
    by_cases e : n = q
    · subst e
      rw [if_pos rfl, if_pos rfl, set_get (by rw [hlen]; omega)]
    · rw [if_neg e]
      simp only [List.getElem_map, List.getElem_range]
      by_cases e4 : q / 4 = n / 4
      · rw [if_pos e4, getD_setI, if_neg (fun z => e (by omega)), ← e4, ← lookV_tableO]
        exact hL.page _ (lookV_ent h hr.2 q (by omega))
      · rw [if_neg e4]
        exact hL.page _ (lookV_ent h hr.2 q (by omega))


theorem write_laid {m : ImgD} (hC : checkE m = 0) {n : Nat} (hn : (n : Int) < m.guest) (h40 : tabN m (n / 4) ≠ 40) (hd40 : wD m n ≠ 40) {page : ByteArray} (hp : page.size = 4) :
    Laid m (tabSet m (n / 4) (tabN m (n / 4)) (wL m n page) (rfZ (wL m n page))) (n / 4) (wEs m n) ∧ pageV (wL m n page) (wD m n) = page ∧ (wL m n page).length ≤ m.slots.length + 2 := by
  obtain ⟨hx, hl, hz, hk, d1, d40, hkd, hdt⟩ := write_ext hC hn h40 hd40 hp
  refine ⟨laid_ext (checkE_shape hC) hk hx hl (by simp [rfZ]) hz, ?_, ?_⟩
  · unfold pageV
    rw [if_neg (by omega), Int.toNat_natCast]
    have hdl : wD m n ≤ (tabL m (n / 4) (wEs m n)).length := by
      obtain ⟨t1, tl, t40, tk, _⟩ := tabN_spec hC hk h40
      have hle := layS_le (s := ((2, ⟨#[]⟩, tableO m (n / 4)) : SlotD)) tl (slotsE_parts (shapeE_zero (checkE_shape hC)).2.1).2 t40
      have := (grabN_spec (L := tabL m (n / 4) (tableO m (n / 4))) (by unfold tabL; omega)).2.1
      unfold tabL at this ⊢
      rw [layS_length] at this ⊢
      exact this
    unfold wL
    rw [layS_get hdl, if_pos rfl]
  · unfold wL tabL
    rw [layS_length, layS_length]
    split <;> split <;> omega


theorem kd_setP {L : List SlotD} {e : Nat} {page : ByteArray} (hk : kd L e = 1) (j : Nat) : kd (L.set e (1, page, [])) j = kd L j := by
  by_cases h : e = j
  · subst h
    have := kd_lt (L := L) (j := e) (by rw [hk]; decide)
    rw [hk]; unfold kd; simp [List.getD, this]
  · unfold kd; simp [List.getD, h]
theorem tab_page {L : List SlotD} (hs : slotsE L = 0) {e : Nat} (hk : kd L e = 1) : (L.getD e default).2.2 = [] := by
  have he := kd_lt (L := L) (j := e) (by rw [hk]; decide)
  have ok := slotsE_all hs he
  rw [getElem_getD he] at ok
  unfold kd at hk
  unfold okD at ok
  rw [hk, slotOK_1] at ok
  simpa using (of_decide_eq_true ok).2
theorem tab_setP {L : List SlotD} (hs : slotsE L = 0) {e : Nat} {page : ByteArray} (hk : kd L e = 1) (x : Int) : tabOf (L.set e (1, page, [])) x = tabOf L x := by
  unfold tabOf
  by_cases h : e = x.toNat
  · have := kd_lt (L := L) (j := e) (by rw [hk]; decide)
    rw [← h, tab_page hs hk]; simp [List.getD, this]
  · simp [List.getD, h]
theorem setP_same {m : ImgD} {e : Nat} {page : ByteArray} (hC : checkE m = 0) (hk : kd m.slots e = 1) (hp : page.size = 4) : checkE { m with slots := m.slots.set e (1, page, []) } = 0 ∧ ∀ r q, lookV { m with slots := m.slots.set e (1, page, []) } r q = lookV m r q := by
  obtain ⟨h, hcnt, hfree⟩ := checkE_zero hC
  obtain ⟨z1, z2, z3, z4, z5, z6, z7⟩ := shapeE_zero h
  have he := kd_lt (L := m.slots) (j := e) (by rw [hk]; decide)
  have hkd := fun j => kd_setP (page := page) hk j
  have htab := fun x => tab_setP (page := page) z2 hk x
  have hisKd : ∀ x kind, isKd (m.slots.set e (1, page, [])) x kind = isKd m.slots x kind := fun x kind => by
    have := hkd x.toNat
    unfold kd at this
    unfold isKd
    rw [List.length_set, this]
  have htE : ∀ x, tabE (m.slots.set e (1, page, [])) x = tabE m.slots x := fun x => by unfold tabE; rw [hisKd]
  have hrE : ∀ x, rootE (m.slots.set e (1, page, [])) x = rootE m.slots x := fun x => by unfold rootE; rw [hisKd]
  have hs : slotsE (m.slots.set e (1, page, [])) = 0 := by
    refine slotsE_ok (by rw [List.length_set]; exact (slotsE_parts z2).1) (by rw [List.length_set]; exact (slotsE_parts z2).2) (fun j hj => ?_) ?_
    · rw [List.length_set] at hj
      rw [List.getElem_set]
      split
      · exact ok_page hp
      · exact slotsE_all z2 hj
    · rw [kd_getElem (by rw [List.length_set]; exact (slotsE_parts z2).1), hkd]; exact slot0 z2
  have hfit : tabFit (m.slots.set e (1, page, [])) = true := by
    unfold tabFit
    rw [List.all_eq_true]
    intro s hsm
    obtain ⟨j, hj, rfl⟩ := List.getElem_of_mem hsm
    rw [List.length_set] at hj
    rw [List.all_eq_true]
    intro x hx
    rw [htE]
    have e1 := htab (j : Int)
    unfold tabOf at e1
    rw [Int.toNat_natCast] at e1
    rw [getElem_getD (by rw [List.length_set]; exact hj), e1] at hx
    exact List.all_eq_true.1 (tab_all z6 (j : Int)) x (by unfold tabOf; rw [Int.toNat_natCast]; exact hx)
  have hrf : ∀ g r, rootFit (m.slots.set e (1, page, [])) g r = rootFit m.slots g r := fun g r => by
    unfold rootFit lastFit
    rw [show rootE (m.slots.set e (1, page, [])) = rootE m.slots from funext hrE]
    simp only [htab]
  have hsh : shapeE { m with slots := m.slots.set e (1, page, []) } = 0 := by
    unfold shapeE
    rw [if_neg (by show ¬ 3 < m.snaps.length; omega), if_neg (by show ¬ slotsE _ ≠ 0; simpa using hs), if_neg, if_neg (by show ¬ (rootsOf m).all _ = false; rw [z5]; decide), if_neg (by show ¬ tabFit _ = false; rw [hfit]; decide), if_neg]
    · show ¬ ((rootsOf m).all fun s => rootFit (m.slots.set e (1, page, [])) s.2.1 s.2.2) = false
      simp only [hrf]
      rw [z7]; decide
    · rintro (x | x)
      · apply x; show m.refs.length = (m.slots.set e _).length; rw [List.length_set]; exact z3
      · have : namesOK m.snaps = false := x
        rw [z4] at this; cases this
  have hcl : cntL { m with slots := m.slots.set e (1, page, []) } = cntL m := by
    rw [rl_of (cntL_length _), rl_of (cntL_length m)]
    show rl (m.slots.set e _).length _ = _
    rw [List.length_set]
    refine rl_congr fun j hj => ?_
    rw [cntL_get hsh j (by show j < (m.slots.set e _).length; rw [List.length_set]; exact hj), cntL_get h j hj]
    show cntI (m.slots.set e (1, page, [])) (flatR m) j = cntI m.slots (flatR m) j
    unfold cntI
    have : sumT (m.slots.set e (1, page, [])) (flatR m) j = sumT m.slots (flatR m) j := by
      unfold sumT
      rw [List.length_set]
      refine sum_same _ fun q _ => ?_
      unfold toldT
      rw [hkd, htab]
    rw [this]
  refine ⟨?_, fun r q => ?_⟩
  · unfold checkE
    rw [if_neg (by simpa using hsh), hcl]
    show (if cntL m ≠ m.refs then (9 : Int) else _) = 0
    rw [if_neg (by rw [hcnt]; simp), if_pos]
    rw [List.all_eq_true]
    intro j hj
    have hj : j < m.slots.length := by
      have : j < (m.slots.set e (1, page, [])).length := by simpa using hj
      rwa [List.length_set] at this
    have := hfree j hj
    unfold freeAt at this ⊢
    rw [hcl]
    have e1 := hkd j
    unfold kd at e1
    show (((m.slots.set e (1, page, [])).getD j default).1 == 0) == _
    rw [e1]; exact this
  · unfold lookV
    show (if r.getD (q / 4) 0 = 0 then (0 : Int) else (tabOf (m.slots.set e (1, page, [])) (r.getD (q / 4) 0)).getD (q % 4) 0) = _
    rw [htab]
end Go.Proofs.YtehleeibgkpjmafGreat
/- Packed: slots that stay get new numbers. Plain lists. -/
namespace Go.Proofs.YtehleeibgkpjmafGreat
open Go.RowKit Go.Shelf
set_option maxRecDepth 20000
set_option linter.unusedVariables false
set_option linter.unusedSimpArgs false

def kept (L : List SlotD) (k : Nat) : Bool := k == 0 || kd L k != 0
def keptI (L : List SlotD) : List Nat := (List.range L.length).filter (kept L)
def rnk (L : List SlotD) (k : Nat) : Nat := ((List.range k).filter (kept L)).length
def ren (L : List SlotD) (e : Int) : Int := if 0 ≤ e ∧ e.toNat < L.length ∧ kept L e.toNat = true then (rnk L e.toNat : Int) else e
def packS (L : List SlotD) (s : SlotD) : SlotD := (s.1, s.2.1, s.2.2.map (ren L))
def packL (L : List SlotD) : List SlotD := (keptI L).map (fun k => packS L (L.getD k default))
def packN (L : List SlotD) (s : SnapD) : SnapD := (s.1, s.2.1, s.2.2.map (ren L))
def packD (m : ImgD) : ImgD := ⟨m.guest, m.root.map (ren m.slots), packL m.slots, (keptI m.slots).map (fun k => m.refs.getD k 0), m.snaps.map (packN m.slots)⟩


theorem range_parts {n k : Nat} (h : k < n) : List.range n = List.range k ++ k :: (List.range n).drop (k + 1) := by
  have e1 : (List.range n).take k = List.range k := by rw [List.take_range]; congr 1; omega
  have e2 : (List.range n)[k]'(by simpa using h) = k := by simp
  have := List.take_append_drop k (List.range n)
  rw [e1, List.drop_eq_getElem_cons (by simpa using h), e2] at this
  exact this.symm
theorem keptI_at {L : List SlotD} {k : Nat} (hk : k < L.length) (h : kept L k = true) : (keptI L)[rnk L k]? = some k := by
  unfold keptI rnk
  rw [range_parts hk, List.filter_append, List.filter_cons, if_pos h, List.getElem?_append_right (Nat.le_refl _), Nat.sub_self]
  rfl
theorem keptI_mem {L : List SlotD} {k : Nat} : k ∈ keptI L ↔ k < L.length ∧ kept L k = true := by
  unfold keptI; rw [List.mem_filter, List.mem_range]
theorem keptI_nodup (L : List SlotD) : (keptI L).Nodup := List.Pairwise.filter _ List.nodup_range
theorem rnk_lt {L : List SlotD} {k : Nat} (hk : k < L.length) (h : kept L k = true) : rnk L k < (keptI L).length := (List.getElem?_eq_some_iff.1 (keptI_at hk h)).1
theorem nodup_inj {l : List Nat} (h : l.Nodup) {i j : Nat} (hi : i < l.length) (hj : j < l.length) (e : l[i] = l[j]) : i = j := by
  have hp := List.pairwise_iff_getElem.1 h
  rcases Nat.lt_trichotomy i j with x | x | x
  · exact absurd e (hp i j hi hj x)
  · exact x
  · exact absurd e.symm (hp j i hj hi x)
theorem keptI_get {L : List SlotD} {i : Nat} (hi : i < (keptI L).length) : (keptI L)[i] < L.length ∧ kept L (keptI L)[i] = true ∧ rnk L (keptI L)[i] = i := by
  obtain ⟨h1, h2⟩ := keptI_mem.1 (List.getElem_mem hi)
  refine ⟨h1, h2, ?_⟩
  have e := keptI_at h1 h2
  have hl := rnk_lt h1 h2
  rw [List.getElem?_eq_getElem hl] at e
  exact nodup_inj (keptI_nodup L) hl hi (Option.some.inj e)
theorem rnk_inj {L : List SlotD} {k j : Nat} (hk : k < L.length) (h : kept L k = true) (hj : j < L.length) (h' : kept L j = true) (e : rnk L k = rnk L j) : k = j := by
  have a := keptI_at hk h
  rw [e, keptI_at hj h'] at a
  exact (Option.some.inj a).symm
theorem kept_0 (L : List SlotD) : kept L 0 = true := rfl
theorem rnk_0 (L : List SlotD) : rnk L 0 = 0 := rfl
theorem rnk_pos {L : List SlotD} {k : Nat} (h : 1 ≤ k) : 1 ≤ rnk L k := by
  unfold rnk
  obtain ⟨d, rfl⟩ : ∃ d, k = d + 1 := ⟨k - 1, by omega⟩
  rw [List.range_succ_eq_map, List.filter_cons, if_pos (kept_0 L)]
  simp
theorem kept_of {L : List SlotD} {k : Nat} (h : kd L k ≠ 0) : kept L k = true := by unfold kept; simp [h]
theorem kept_kd {L : List SlotD} {k : Nat} (h1 : 1 ≤ k) (h : kept L k = true) : kd L k ≠ 0 := by
  unfold kept at h
  have : (k == 0) = false := by simp; omega
  rw [this] at h
  simpa using h
theorem ren_0 {L : List SlotD} : ren L 0 = 0 := by
  unfold ren
  split
  · rw [show (0 : Int).toNat = 0 from rfl, rnk_0]; rfl
  · rfl
theorem ren_neg {L : List SlotD} : ren L (-1) = -1 := by unfold ren; rw [if_neg (by omega)]
theorem ren_at {L : List SlotD} {k : Nat} (hk : k < L.length) (h : kept L k = true) : ren L (k : Int) = (rnk L k : Int) := by
  unfold ren; rw [if_pos ⟨Int.natCast_nonneg _, by rw [Int.toNat_natCast]; exact hk, by rw [Int.toNat_natCast]; exact h⟩, Int.toNat_natCast]
theorem packL_length (L : List SlotD) : (packL L).length = (keptI L).length := by unfold packL; rw [List.length_map]
theorem keptI_le (L : List SlotD) : (keptI L).length ≤ L.length := by
  unfold keptI; have := List.length_filter_le (kept L) (List.range L.length); rwa [List.length_range] at this
theorem packL_get {L : List SlotD} {k : Nat} (hk : k < L.length) (h : kept L k = true) : (packL L).getD (rnk L k) default = packS L (L.getD k default) := by
  unfold packL
  rw [List.getD_eq_getElem?_getD, List.getElem?_map, keptI_at hk h]
  rfl
theorem packL_kd {L : List SlotD} {k : Nat} (hk : k < L.length) (h : kept L k = true) : kd (packL L) (rnk L k) = kd L k := by
  show ((packL L).getD (rnk L k) default).1 = _; rw [packL_get hk h]; rfl
theorem packL_tab {L : List SlotD} {k : Nat} (hk : k < L.length) (h : kept L k = true) : tabOf (packL L) (rnk L k : Int) = (tabOf L (k : Int)).map (ren L) := by
  unfold tabOf; rw [Int.toNat_natCast, Int.toNat_natCast, packL_get hk h]; rfl

def EntP (L : List SlotD) (e : Int) : Prop := e = 0 ∨ e = -1 ∨ ∃ j : Nat, e = j ∧ 1 ≤ j ∧ j < L.length ∧ kept L j = true
theorem ren_ent {L : List SlotD} {e : Int} (h : EntP L e) : EntP (packL L) (ren L e) := by
  rcases h with rfl | rfl | ⟨j, rfl, j1, jl, hk⟩
  · exact .inl ren_0
  · exact .inr (.inl ren_neg)
  · refine .inr (.inr ⟨rnk L j, ren_at jl hk, rnk_pos j1, by rw [packL_length]; exact rnk_lt jl hk, kept_of ?_⟩)
    rw [packL_kd jl hk]; exact kept_kd j1 hk
theorem ren_inj {L : List SlotD} (h1 : 1 ≤ L.length) {a b : Int} (ha : EntP L a) (hb : EntP L b) (e : ren L a = ren L b) : a = b := by
  rcases ha with rfl | rfl | ⟨j, rfl, j1, jl, hj⟩ <;> rcases hb with rfl | rfl | ⟨k, rfl, k1, kl, hk⟩
  · rfl
  · rw [ren_0, ren_neg] at e; omega
  · rw [ren_0, ren_at kl hk] at e; have := rnk_pos (L := L) k1; omega
  · rw [ren_0, ren_neg] at e; omega
  · rfl
  · rw [ren_neg, ren_at kl hk] at e; omega
  · rw [ren_0, ren_at jl hj] at e; have := rnk_pos (L := L) j1; omega
  · rw [ren_neg, ren_at jl hj] at e; omega
  · rw [ren_at jl hj, ren_at kl hk] at e
    rw [rnk_inj jl hj kl hk (by omega)]
theorem tabE_ent {L : List SlotD} {e : Int} (h : tabE L e = true) : e = 0 ∨ e = -1 ∨ ∃ j : Nat, e = j ∧ 1 ≤ j ∧ j < L.length ∧ kd L j = 1 := by
  unfold tabE isKd at h
  by_cases h0 : e = 0
  · exact .inl h0
  · by_cases h1 : e = -1
    · exact .inr (.inl h1)
    · simp [h0, h1] at h
      obtain ⟨⟨a, b⟩, c⟩ := h
      obtain ⟨j, rfl⟩ := Int.eq_ofNat_of_zero_le a
      rw [Int.toNat_natCast] at c
      exact .inr (.inr ⟨j, rfl, by omega, by omega, c⟩)
theorem tabE_of {L : List SlotD} {e : Int} (h : e = 0 ∨ e = -1 ∨ ∃ j : Nat, e = j ∧ 1 ≤ j ∧ j < L.length ∧ kd L j = 1) : tabE L e = true := by
  unfold tabE isKd
  rcases h with rfl | rfl | ⟨j, rfl, j1, jl, hk⟩
  · rfl
  · rfl
  · have e1 : (L.getD (Int.toNat (j : Int)) default).1 = 1 := by rw [Int.toNat_natCast]; exact hk
    have e2 : decide (0 ≤ (j : Int) ∧ (j : Int) < (L.length : Int)) = true := by rw [decide_eq_true_eq]; omega
    rw [e1, e2]; simp
theorem rootE_ent {L : List SlotD} {e : Int} (h : rootE L e = true) : e = 0 ∨ ∃ j : Nat, e = j ∧ 1 ≤ j ∧ j < L.length ∧ kd L j = 2 := by
  unfold rootE isKd at h
  by_cases h0 : e = 0
  · exact .inl h0
  · simp [h0] at h
    obtain ⟨⟨a, b⟩, c⟩ := h
    obtain ⟨j, rfl⟩ := Int.eq_ofNat_of_zero_le a
    rw [Int.toNat_natCast] at c
    exact .inr ⟨j, rfl, by omega, by omega, c⟩
theorem rootE_of {L : List SlotD} {e : Int} (h : e = 0 ∨ ∃ j : Nat, e = j ∧ 1 ≤ j ∧ j < L.length ∧ kd L j = 2) : rootE L e = true := by
  unfold rootE isKd
  rcases h with rfl | ⟨j, rfl, j1, jl, hk⟩
  · rfl
  · have e1 : (L.getD (Int.toNat (j : Int)) default).1 = 2 := by rw [Int.toNat_natCast]; exact hk
    have e2 : decide (0 ≤ (j : Int) ∧ (j : Int) < (L.length : Int)) = true := by rw [decide_eq_true_eq]; omega
    rw [e1, e2]; simp
theorem rootE_ren {L : List SlotD} {e : Int} (h : rootE L e = true) : rootE (packL L) (ren L e) = true := by
  rcases rootE_ent h with rfl | ⟨j, rfl, j1, jl, hk⟩
  · rw [ren_0]; exact rootE_of (.inl rfl)
  · have hp : kept L j = true := kept_of (by rw [hk]; decide)
    exact rootE_of (.inr ⟨rnk L j, ren_at jl hp, rnk_pos j1, by rw [packL_length]; exact rnk_lt jl hp, by rw [packL_kd jl hp]; exact hk⟩)
theorem tabE_ren {L : List SlotD} {e : Int} (h : tabE L e = true) : tabE (packL L) (ren L e) = true := by
  rcases tabE_ent h with rfl | rfl | ⟨j, rfl, j1, jl, hk⟩
  · rw [ren_0]; exact tabE_of (.inl rfl)
  · rw [ren_neg]; exact tabE_of (.inr (.inl rfl))
  · have hp : kept L j = true := kept_of (by rw [hk]; decide)
    exact tabE_of (.inr (.inr ⟨rnk L j, ren_at jl hp, rnk_pos j1, by rw [packL_length]; exact rnk_lt jl hp, by rw [packL_kd jl hp]; exact hk⟩))
theorem rootE_EntP {L : List SlotD} {e : Int} (h : rootE L e = true) : EntP L e := by
  rcases rootE_ent h with rfl | ⟨j, rfl, j1, jl, hk⟩
  · exact .inl rfl
  · exact .inr (.inr ⟨j, rfl, j1, jl, kept_of (by rw [hk]; decide)⟩)
theorem tabE_EntP {L : List SlotD} {e : Int} (h : tabE L e = true) : EntP L e := by
  rcases tabE_ent h with rfl | rfl | ⟨j, rfl, j1, jl, hk⟩
  · exact .inl rfl
  · exact .inr (.inl rfl)
  · exact .inr (.inr ⟨j, rfl, j1, jl, kept_of (by rw [hk]; decide)⟩)
end Go.Proofs.YtehleeibgkpjmafGreat
/- Contract of newNumbers: by the number of each slot that stays, the one that it gets. -/
namespace Go.Proofs.YtehleeibgkpjmafGreat
open Go.RowKit Go.Shelf
set_option maxRecDepth 20000
set_option linter.unusedVariables false
set_option linter.unusedSimpArgs false

def entK (L : List SlotD) (l : List Nat) : List MapEntry := l.map (fun (k : Nat) => { key := .int .i64 (k : Int), val := .int .i64 (rnk L k : Int), born := rnk L k })
theorem find_no {L : List SlotD} : ∀ {l : List Nat} {k : Int}, (∀ j ∈ l, (j : Int) ≠ k) → ∀ i, Instr.findNow (.int .i64) (.int .i64 k) (entK L l) i = some none
  | [], _, _, _ => rfl
  | a :: l, k, h, i => by
    have e : (k == (a : Int)) = false := by have := h a List.mem_cons_self; simp; omega
    show (match Instr.sameNow (.int .i64) (.int .i64 k) (.int .i64 (a : Int)) with | some true => _ | some false => Instr.findNow (.int .i64) (.int .i64 k) (entK L l) (i + 1) | none => none) = _
    simp only [Instr.sameNow, if_true, e]
    exact find_no (fun j hj => h j (List.mem_cons_of_mem _ hj)) (i + 1)
theorem find_at {L : List SlotD} : ∀ {l : List Nat} {k : Nat}, k ∈ l → ∀ i, ∃ p, Instr.findNow (.int .i64) (.int .i64 (k : Int)) (entK L l) i = some (some (p, .int .i64 (rnk L k : Int)))
  | [], _, h, _ => by cases h
  | a :: l, k, h, i => by
    by_cases e : k = a
    · subst e
      refine ⟨i, ?_⟩
      show (match Instr.sameNow (.int .i64) (.int .i64 (k : Int)) (.int .i64 (k : Int)) with | some true => some (some (i, Value.int .i64 (rnk L k : Int))) | some false => _ | none => none) = _
      simp [Instr.sameNow]
    · have e1 : ((k : Int) == (a : Int)) = false := by simp; omega
      rcases List.mem_cons.1 h with x | x
      · exact absurd x e
      · obtain ⟨p, hp⟩ := find_at (L := L) x (i + 1)
        refine ⟨p, ?_⟩
        show (match Instr.sameNow (.int .i64) (.int .i64 (k : Int)) (.int .i64 (a : Int)) with | some true => _ | some false => Instr.findNow (.int .i64) (.int .i64 (k : Int)) (entK L l) (i + 1) | none => none) = _
        simp only [Instr.sameNow, if_true, e1]
        exact hp
theorem entK_size {L : List SlotD} {k : Nat} : ((entK L ((List.range k).filter (kept L))).toArray).size = rnk L k := by unfold entK rnk; simp
theorem entK_succ {L : List SlotD} {k : Nat} (h : kept L k = true) : (entK L ((List.range (k + 1)).filter (kept L))).toArray = ((entK L ((List.range k).filter (kept L))).toArray).push { key := .int .i64 (k : Int), val := .int .i64 (rnk L k : Int), born := rnk L k } := by
  rw [List.range_succ, List.filter_append]
  unfold entK
  simp [h]
theorem entK_same {L : List SlotD} {k : Nat} (h : kept L k = false) : (entK L ((List.range (k + 1)).filter (kept L))).toArray = (entK L ((List.range k).filter (kept L))).toArray := by
  rw [List.range_succ, List.filter_append]
  simp [h]
theorem rnk_succ {L : List SlotD} {k : Nat} (h : kept L k = true) : rnk L (k + 1) = rnk L k + 1 := by
  unfold rnk; rw [List.range_succ, List.filter_append]; simp [h]
theorem rnk_same {L : List SlotD} {k : Nat} (h : kept L k = false) : rnk L (k + 1) = rnk L k := by
  unfold rnk; rw [List.range_succ, List.filter_append]; simp [h]
theorem map_alloc {W : World} {r c : Nat} {es : Array MapEntry} (h : W.heap[r]? = some (.map es c)) (o : Obj) : (W.alloc o).heap[r]? = some (.map es c) :=
  (Below.heap_alloc W o r (Array.getElem?_eq_some_iff.1 h).1).trans h
set_option maxHeartbeats 4000000 in
theorem numbers_at (b off cap : Nat) (L : List SlotD) (w : World) (h40 : L.length ≤ 40) (hlt : b < w.heap.size) (HC : Hid (∀ j, (h : j < L.length) → SlAt w b (off + j * 3) L[j])) :
    Calls Tryz.prog 41 #[.slice (some ⟨b, off, none⟩) L.length cap] w fun r w' => r = .returned (.map (some w.heap.size)) ∧ w'.heap[w.heap.size]? = some (.map ((entK L ((List.range L.length).filter (kept L))).toArray) (rnk L L.length)) ∧ Below w.heap.size w w' := by
  have hmm := @run_makeMap Tryz.prog
  have g0 := heap_alloc_new w (.map #[] 0)
  have HM0 : Hid ((w.alloc (.map #[] 0)).heap[w.heap.size]? = some (.map ((entK L ((List.range 0).filter (kept L))).toArray) (rnk L 0)) ∧ Below w.heap.size w (w.alloc (.map #[] 0))) := ⟨g0, (Below.refl _ _).alloc (Nat.le_refl _) _⟩
  clear g0
  go_enter Tryz.func41, Tryz.ntmps41
  go_wp2_with fail
  go_loopw [10] (fun i wr => ∃ k : Nat, k ≤ L.length ∧ i = .int .i64 k ∧ Hid (wr.heap[w.heap.size]? = some (.map ((entK L ((List.range k).filter (kept L))).toArray) (rnk L k)) ∧ Below w.heap.size w wr)) (fun i _ => L.length - (intOf i).toNat)
  case atStart => exact ⟨0, Nat.zero_le _, rfl, HM0⟩
  case round =>
    obtain ⟨k, hk, rfl, HM⟩ := hrel
    by_cases hkl : k < L.length
    · have hki : (k : Int) < (L.length : Int) := by omega
      obtain ⟨tv, q0, q1, q2, qs⟩ := HC.out k hkl
      obtain ⟨⟨kk, dd, es⟩, hsk⟩ : ∃ s, L[k] = s := ⟨_, rfl⟩
      have HS : Hid (kd L k = kk) := by show kd L k = kk; rw [← kd_getElem hkl, hsk]
      rw [hsk] at q0 q1 qs
      obtain ⟨ta, tc, rfl⟩ := qs.form
      obtain ⟨tn, htn⟩ : ∃ n, n = es.length := ⟨_, rfl⟩
      have v0 : wr.cell? ⟨b, off + k * 3, none⟩ = some (.int .i64 kk) := (HM.out.2.cell (p := ⟨b, off + k * 3, none⟩) hlt).trans q0
      have v1 : wr.cell? ⟨b, off + k * 3 + 1, none⟩ = some (.string dd) := (HM.out.2.cell (p := ⟨b, off + k * 3 + 1, none⟩) hlt).trans q1
      have v2 : wr.cell? ⟨b, off + k * 3 + 1 + 1, none⟩ = some (.slice ta tn tc) := by rw [htn]; exact (HM.out.2.cell (p := ⟨b, off + k * 3 + 1 + 1, none⟩) hlt).trans q2
      clear hsk htn q0 q1 q2 qs
      by_cases k0 : k = 0
      · have hkp : kept L k = true := by rw [k0]; rfl
        have c0 : ((k : Int) == 0) = true := by simp; omega
        clear k0
        skip
        obtain ⟨W1, u1, g1, b1, z1⟩ := upd_ex (P := Tryz.prog) (w := wr.alloc (.cells #[.int .i64 kk, .string dd, .slice ta tn tc] 61)) 67 3 3 w.heap.size (rnk L k) ((entK L ((List.range k).filter (kept L))).toArray) (k : Int) (.int .i64 (rnk L k : Int)) Tryz.underlying67 Tryz.underlying3 (map_alloc HM.out.1 _) (find_no (L := L) (l := (List.range k).filter (kept L)) (k := (k : Int)) (fun j hj => by have := List.mem_range.1 (List.mem_filter.1 hj).1; omega) 0) (Nat.le_refl _) (HM.out.2.alloc HM.out.2.size _)
        have hlen : ∀ ty, (Builtin.len_ #[67] ty #[.map (some w.heap.size)]).run Tryz.prog (wr.alloc (.cells #[.int .i64 kk, .string dd, .slice ta tn tc] 61)) = .ok (.int .i64 (rnk L k : Int)) (wr.alloc (.cells #[.int .i64 kk, .string dd, .slice ta tn tc] 61)) := fun ty => by
          have := run_len_map (P := Tryz.prog) (w := wr.alloc (.cells #[.int .i64 kk, .string dd, .slice ta tn tc] 61)) 67 ty w.heap.size ((entK L ((List.range k).filter (kept L))).toArray) (rnk L k) (by kernel_rfl) (map_alloc HM.out.1 _)
          rw [this]; unfold goInt; rw [entK_size]
        have G1 : Hid (W1.heap[w.heap.size]? = some (.map ((entK L ((List.range (k + 1)).filter (kept L))).toArray) (rnk L (k + 1))) ∧ Below w.heap.size w W1) := ⟨by rw [g1, entK_succ hkp, rnk_succ hkp], b1⟩
        clear g1 b1 z1
        go_wp2_with fail
        go_roundw
        case rel => exact ⟨k + 1, by omega, by go_num, G1⟩
        case measure => first | (simp [intOf]; done) | (simp [intOf]; omega)
      · have c0 : ((k : Int) == 0) = false := by simp; omega
        have k0i : ¬ (k : Int) = 0 := by omega
        by_cases hz : kk = 0
        · have hkp : kept L k = false := by unfold kept; rw [HS.out, hz]; simp; omega
          have c1 : (kk != 0) = false := by simp [hz]
          have GN : Hid ((wr.alloc (.cells #[.int .i64 kk, .string dd, .slice ta tn tc] 61)).heap[w.heap.size]? = some (.map ((entK L ((List.range (k + 1)).filter (kept L))).toArray) (rnk L (k + 1))) ∧ Below w.heap.size w (wr.alloc (.cells #[.int .i64 kk, .string dd, .slice ta tn tc] 61))) := ⟨by rw [entK_same hkp, rnk_same hkp]; exact map_alloc HM.out.1 _, HM.out.2.alloc HM.out.2.size _⟩
          subst hz
          skip
          go_wp2_with fail
          go_roundw
          case rel => exact ⟨k + 1, by omega, by go_num, GN⟩
          case measure => first | (simp [intOf]; done) | (simp [intOf]; omega)
        · have hkp : kept L k = true := kept_of (by rw [HS.out]; exact hz)
          have c1 : (kk != 0) = true := by simp [hz]
          skip
          obtain ⟨W1, u1, g1, b1, z1⟩ := upd_ex (P := Tryz.prog) (w := wr.alloc (.cells #[.int .i64 kk, .string dd, .slice ta tn tc] 61)) 67 3 3 w.heap.size (rnk L k) ((entK L ((List.range k).filter (kept L))).toArray) (k : Int) (.int .i64 (rnk L k : Int)) Tryz.underlying67 Tryz.underlying3 (map_alloc HM.out.1 _) (find_no (L := L) (l := (List.range k).filter (kept L)) (k := (k : Int)) (fun j hj => by have := List.mem_range.1 (List.mem_filter.1 hj).1; omega) 0) (Nat.le_refl _) (HM.out.2.alloc HM.out.2.size _)
          have hlen : ∀ ty, (Builtin.len_ #[67] ty #[.map (some w.heap.size)]).run Tryz.prog (wr.alloc (.cells #[.int .i64 kk, .string dd, .slice ta tn tc] 61)) = .ok (.int .i64 (rnk L k : Int)) (wr.alloc (.cells #[.int .i64 kk, .string dd, .slice ta tn tc] 61)) := fun ty => by
            have := run_len_map (P := Tryz.prog) (w := wr.alloc (.cells #[.int .i64 kk, .string dd, .slice ta tn tc] 61)) 67 ty w.heap.size ((entK L ((List.range k).filter (kept L))).toArray) (rnk L k) (by kernel_rfl) (map_alloc HM.out.1 _)
            rw [this]; unfold goInt; rw [entK_size]
          have G1 : Hid (W1.heap[w.heap.size]? = some (.map ((entK L ((List.range (k + 1)).filter (kept L))).toArray) (rnk L (k + 1))) ∧ Below w.heap.size w W1) := ⟨by rw [g1, entK_succ hkp, rnk_succ hkp], b1⟩
          clear g1 b1 z1
          go_wp2_with fail
          go_roundw
          case rel => exact ⟨k + 1, by omega, by go_num, G1⟩
          case measure => first | (simp [intOf]; done) | (simp [intOf]; omega)
    · have e : k = L.length := by omega
      subst e
      go_wp2_with fail
      go_ret
      exact ⟨rfl, HM.out.1, HM.out.2⟩
theorem numbers_is {w : World} {v : Value} {L : List SlotD} (h : Slots w v L) (hE : slotsE L = 0) :
    Calls Tryz.prog 41 #[v] w fun r w' => r = .returned (.map (some w.heap.size)) ∧ w'.heap[w.heap.size]? = some (.map ((entK L ((List.range L.length).filter (kept L))).toArray) (rnk L L.length)) ∧ Below w.heap.size w w' := by
  obtain ⟨b, off, cap, rfl, _, hlt, hc⟩ := h.open (slotsE_parts hE).1
  exact numbers_at b off cap L w (slotsE_parts hE).2 hlt hc
end Go.Proofs.YtehleeibgkpjmafGreat
/- An image of one's own: each of its lists, each table and each snapshot's Root lies in a row of its own, in memory that came since B. What stays, and what turns, when something is stored. -/
namespace Go.Proofs.YtehleeibgkpjmafGreat
open Go.RowKit
set_option maxRecDepth 20000

structure Nm where
  kind : Nat
  ix : Nat
abbrev Nm.root : Nm := ⟨0, 0⟩
abbrev Nm.slots : Nm := ⟨1, 0⟩
abbrev Nm.refs : Nm := ⟨2, 0⟩
abbrev Nm.snaps : Nm := ⟨3, 0⟩
abbrev Nm.tab (j : Nat) : Nm := ⟨4, j⟩
abbrev Nm.sr (j : Nat) : Nm := ⟨5, j⟩
def Live (m : ImgD) (a : Nm) : Prop := (a.kind < 4 ∧ a.ix = 0) ∨ (a.kind = 4 ∧ a.ix < m.slots.length) ∨ (a.kind = 5 ∧ a.ix < m.snaps.length)
theorem Live.cases {m : ImgD} {a : Nm} (h : Live m a) : a = .root ∨ a = .slots ∨ a = .refs ∨ a = .snaps ∨ (∃ j, a = .tab j ∧ j < m.slots.length) ∨ ∃ j, a = .sr j ∧ j < m.snaps.length := by
  obtain ⟨k, j⟩ := a
  rcases h with ⟨h1, h2⟩ | ⟨h1, h2⟩ | ⟨h1, h2⟩
  · dsimp only at h1 h2
    subst h2
    match k, h1 with
    | 0, _ => exact .inl rfl
    | 1, _ => exact .inr (.inl rfl)
    | 2, _ => exact .inr (.inr (.inl rfl))
    | 3, _ => exact .inr (.inr (.inr (.inl rfl)))
  · dsimp only at h1 h2; subst h1; exact .inr (.inr (.inr (.inr (.inl ⟨j, rfl, h2⟩))))
  · dsimp only at h1 h2; subst h1; exact .inr (.inr (.inr (.inr (.inr ⟨j, rfl, h2⟩))))
theorem Live.root (m : ImgD) : Live m .root := .inl ⟨by decide, rfl⟩
theorem Live.slots (m : ImgD) : Live m .slots := .inl ⟨by decide, rfl⟩
theorem Live.refs (m : ImgD) : Live m .refs := .inl ⟨by decide, rfl⟩
theorem Live.snaps (m : ImgD) : Live m .snaps := .inl ⟨by decide, rfl⟩
theorem Live.tab {m : ImgD} {j : Nat} (h : j < m.slots.length) : Live m (.tab j) := .inr (.inl ⟨rfl, h⟩)
theorem Live.sr {m : ImgD} {j : Nat} (h : j < m.snaps.length) : Live m (.sr j) := .inr (.inr ⟨rfl, h⟩)
theorem live_iff {m m' : ImgD} (h1 : m'.slots.length = m.slots.length) (h2 : m'.snaps.length = m.snaps.length) (b : Nm) : Live m' b ↔ Live m b := by unfold Live; rw [h1, h2]
def flatS (L : List SlotD) (tv : Nat → Value) : List Value := (List.range L.length).flatMap (fun j => [.int .i64 (L.getD j default).1, .string (L.getD j default).2.1, tv j])
def flatN (S : List SnapD) (qv : Nat → Value) : List Value := (List.range S.length).flatMap (fun j => [.string (S.getD j default).1, .int .i64 (S.getD j default).2.1, qv j])
def ints (l : List Int) : List Value := l.map (Value.int .i64)
def rowT (a : Nm) : TypeId := match a.kind with | 1 => 61 | 3 => 64 | _ => 3
def rowS (a : Nm) : Nat := match a.kind with | 1 => 3 | 3 => 3 | _ => 1
def rowN (m : ImgD) (a : Nm) : Nat := match a.kind with
  | 0 => m.root.length
  | 1 => m.slots.length
  | 2 => m.refs.length
  | 3 => m.snaps.length
  | 4 => (m.slots.getD a.ix default).2.2.length
  | _ => (m.snaps.getD a.ix default).2.2.length
def rowV (m : ImgD) (val : Nm → Value) (a : Nm) : List Value := match a.kind with
  | 0 => ints m.root
  | 1 => flatS m.slots (fun j => val (.tab j))
  | 2 => ints m.refs
  | 3 => flatN m.snaps (fun j => val (.sr j))
  | 4 => ints (m.slots.getD a.ix default).2.2
  | _ => ints (m.snaps.getD a.ix default).2.2
def imgV (g : Int) (val : Nm → Value) : Value := .agg #[.int .i64 g, val .root, val .slots, val .refs, val .snaps]

structure OI (W : World) (B : Nat) (val : Nm → Value) (m : ImgD) : Prop where
  row : ∀ a, Live m a → W.ownsRow B (rowT a) (rowS a) (val a) (rowN m a) (rowV m val a)
  apart : ∀ a b, Live m a → Live m b → a ≠ b → ∀ g, (val a).ownBlock = some g → (val b).ownBlock ≠ some g

theorem OI.keep {W W' : World} {B : Nat} {val : Nm → Value} {m : ImgD} (h : OI W B val m) (hk : ∀ g, B ≤ g → g < W.heap.size → W'.heap[g]? = W.heap[g]?) : OI W' B val m := by
  refine ⟨fun a ha => ?_, h.apart⟩
  have hr := h.row a ha
  refine ⟨hr.1, ?_⟩
  rcases hr.2 with hn | ⟨g, cap, cur, hv, hb, hg, rest⟩
  · exact .inl hn
  · exact .inr ⟨g, cap, cur, hv, hb, (hk g hb (Array.getElem?_eq_some_iff.1 hg).1).trans hg, rest⟩
theorem OI.below {W W' : World} {B : Nat} {val : Nm → Value} {m : ImgD} (h : OI W B val m) (hb : Below W.heap.size W W') : OI W' B val m := h.keep fun g _ hg => hb.block g hg
theorem OI.alloc {W : World} {B : Nat} {val : Nm → Value} {m : ImgD} (h : OI W B val m) (o : Obj) : OI (W.alloc o) B val m := h.below ((Below.refl _ _).alloc (Nat.le_refl _) o)
theorem OI.drew {W : World} {B : Nat} {val : Nm → Value} {m : ImgD} (h : OI W B val m) : OI W.drew B val m := ⟨fun a ha => (h.row a ha).drew, h.apart⟩


theorem ints_length (l : List Int) : (ints l).length = l.length := by simp [ints]
theorem row_sl {W : World} {B : Nat} {v : Value} {l : List Int} (h : W.ownsRow B 3 1 v l.length (ints l)) : Sl W v l := by
  rcases h.2 with ⟨rfl, hn⟩ | ⟨g, cap, cur, rfl, _⟩
  · have : l = [] := List.eq_nil_of_length_eq_zero hn
    subst this; exact Sl.nil W
  · exact Sl_of_own h
theorem flat3_get (f : Nat → Value × Value × Value) : ∀ (n j i : Nat), j < n → i < 3 → ((List.range n).flatMap (fun j => [(f j).1, (f j).2.1, (f j).2.2]))[j * 3 + i]? = some (if i = 0 then (f j).1 else if i = 1 then (f j).2.1 else (f j).2.2)
  | 0, j, i, hj, _ => absurd hj (by omega)
  | n + 1, j, i, hj, hi => by
    have hl : ∀ n, ((List.range n).flatMap (fun j => [(f j).1, (f j).2.1, (f j).2.2])).length = n * 3 := fun n => by
      induction n with
      | zero => rfl
      | succ n ih => rw [List.range_succ, List.flatMap_append, List.length_append, ih]; simp; omega
    rw [List.range_succ, List.flatMap_append]
    by_cases e : j < n
    · rw [List.getElem?_append_left (by rw [hl]; omega)]
      exact flat3_get f n j i e hi
    · have : j = n := by omega
      subst this
      rw [List.getElem?_append_right (by rw [hl]; omega), hl]
      match i, hi with
      | 0, _ => simp
      | 1, _ => simp
      | 2, _ => simp
theorem flatS_get {L : List SlotD} {tv : Nat → Value} {j : Nat} (hj : j < L.length) : (flatS L tv)[j * 3]? = some (.int .i64 (L.getD j default).1) ∧ (flatS L tv)[j * 3 + 1]? = some (.string (L.getD j default).2.1) ∧ (flatS L tv)[j * 3 + 2]? = some (tv j) := by
  have h := fun i hi => flat3_get (fun j => (.int .i64 (L.getD j default).1, .string (L.getD j default).2.1, tv j)) L.length j i hj hi
  exact ⟨h 0 (by omega), h 1 (by omega), h 2 (by omega)⟩
theorem flatN_get {S : List SnapD} {qv : Nat → Value} {j : Nat} (hj : j < S.length) : (flatN S qv)[j * 3]? = some (.string (S.getD j default).1) ∧ (flatN S qv)[j * 3 + 1]? = some (.int .i64 (S.getD j default).2.1) ∧ (flatN S qv)[j * 3 + 2]? = some (qv j) := by
  have h := fun i hi => flat3_get (fun j => (.string (S.getD j default).1, .int .i64 (S.getD j default).2.1, qv j)) S.length j i hj hi
  exact ⟨h 0 (by omega), h 1 (by omega), h 2 (by omega)⟩
theorem row_lt {W : World} {B : Nat} {e : TypeId} {size g n cap : Nat} {xs : List Value} (h : W.ownsRow B e size (.slice (some ⟨g, 0, none⟩) n cap) n xs) : B ≤ g ∧ g < W.heap.size ∧ n ≤ cap ∧ cap ≤ maxLen := by
  rcases h.2 with ⟨h', _⟩ | ⟨g', cap', cur, h', hb, hg, hnc, hcm, _⟩
  · simp at h'
  · simp only [Value.slice.injEq, Option.some.injEq, Addr.mk.injEq, and_true, true_and] at h'
    obtain ⟨rfl, rfl⟩ := h'
    exact ⟨hb, (Array.getElem?_eq_some_iff.1 hg).1, hnc, hcm⟩
theorem row_form {W : World} {B : Nat} {e : TypeId} {size n : Nat} {v : Value} {xs : List Value} (h : W.ownsRow B e size v n xs) : (v = .slice none 0 0 ∧ n = 0) ∨ ∃ g cap, v = .slice (some ⟨g, 0, none⟩) n cap ∧ B ≤ g ∧ g < W.heap.size ∧ n ≤ cap ∧ cap ≤ maxLen := by
  have h' := h
  rcases h.2 with hn | ⟨g, cap, cur, rfl, _⟩
  · exact .inl hn
  · exact .inr ⟨g, cap, rfl, row_lt h'⟩
theorem row_slots {W : World} {B : Nat} {v : Value} {L : List SlotD} {tv : Nat → Value} (h : W.ownsRow B 61 3 v L.length (flatS L tv)) (ht : ∀ j, j < L.length → Sl W (tv j) (L.getD j default).2.2) : Slots W v L := by
  have h' := h
  rcases row_form h with ⟨rfl, hn⟩ | ⟨g, cap, rfl, hb, hg, hnc, hcm⟩
  · have : L = [] := List.eq_nil_of_length_eq_zero hn
    subst this; exact ⟨none, 0, rfl, Nat.zero_le _, Nat.zero_le _, fun h => absurd rfl h⟩
  · refine ⟨_, cap, rfl, Nat.le_trans hnc hcm, hnc, fun _ => ⟨g, 0, rfl, hg, fun j hj => ?_⟩⟩
    have hc := fun i (hi : i < 3) => h'.cellAt (j * 3 + i) (by omega)
    obtain ⟨g0, g1, g2⟩ := flatS_get (tv := tv) hj
    have e : L[j] = L.getD j default := by simp [List.getD, hj]
    rw [e, Nat.zero_add]
    exact ⟨tv j, (hc 0 (by omega)).trans g0, (hc 1 (by omega)).trans g1, (hc 2 (by omega)).trans g2, ht j hj⟩
theorem row_snaps {W : World} {B : Nat} {v : Value} {S : List SnapD} {qv : Nat → Value} (h : W.ownsRow B 64 3 v S.length (flatN S qv)) (ht : ∀ j, j < S.length → Sl W (qv j) (S.getD j default).2.2) : Snaps W v S := by
  have h' := h
  rcases row_form h with ⟨rfl, hn⟩ | ⟨g, cap, rfl, hb, hg, hnc, hcm⟩
  · have : S = [] := List.eq_nil_of_length_eq_zero hn
    subst this; exact ⟨none, 0, rfl, Nat.zero_le _, Nat.zero_le _, fun h => absurd rfl h⟩
  · refine ⟨_, cap, rfl, Nat.le_trans hnc hcm, hnc, fun _ => ⟨g, 0, rfl, hg, fun j hj => ?_⟩⟩
    have hc := fun i (hi : i < 3) => h'.cellAt (j * 3 + i) (by omega)
    obtain ⟨g0, g1, g2⟩ := flatN_get (qv := qv) hj
    have e : S[j] = S.getD j default := by simp [List.getD, hj]
    rw [e, Nat.zero_add]
    exact ⟨qv j, (hc 0 (by omega)).trans g0, (hc 1 (by omega)).trans g1, (hc 2 (by omega)).trans g2, ht j hj⟩
theorem OI.img {W : World} {B : Nat} {val : Nm → Value} {m : ImgD} (h : OI W B val m) : Img W (imgV m.guest val) m :=
  ⟨_, _, _, _, rfl, row_sl (h.row .root (Live.root m)), row_slots (h.row .slots (Live.slots m)) (fun j hj => row_sl (h.row (.tab j) (Live.tab hj))), row_sl (h.row .refs (Live.refs m)), row_snaps (h.row .snaps (Live.snaps m)) (fun j hj => row_sl (h.row (.sr j) (Live.sr hj)))⟩


theorem OI.store {W : World} {B : Nat} {val : Nm → Value} {m m' : ImgD} (h : OI W B val m) {a : Nm} (ha : Live m a) {g n cap : Nat} (hv : val a = .slice (some ⟨g, 0, none⟩) n cap) (i : Nat) (u : Value)
    (hlive : ∀ b, Live m' b ↔ Live m b) (hn : ∀ b, Live m b → rowN m' b = rowN m b) (hsame : ∀ b, Live m b → b ≠ a → rowV m' val b = rowV m val b) (hset : rowV m' val a = (rowV m val a).set i u) : OI (W.setCell ⟨g, i, none⟩ u) B val m' := by
  refine ⟨fun b hb => ?_, fun b c hb hc => h.apart b c ((hlive b).1 hb) ((hlive c).1 hc)⟩
  have hb := (hlive b).1 hb
  rw [hn b hb]
  by_cases e : b = a
  · subst e
    have hr := h.row b hb
    rw [hset]
    have hnn : n = rowN m b := by
      rcases row_form hr with ⟨e, _⟩ | ⟨g', cap', e, _⟩
      · rw [hv] at e; simp at e
      · rw [hv] at e; simp at e; exact e.2.1
    subst hnn
    rw [hv] at hr ⊢
    exact (hr.stored i u).1
  · rw [hsame b hb e]
    exact ownsRow_setCell_other (h.row b hb) (h.apart a b ha hb (fun x => e x.symm) g (by rw [hv]; rfl)) u
theorem getD_setR (l : List SlotD) (i j : Nat) (s : SlotD) : (l.set i s).getD j default = if i = j ∧ j < l.length then s else l.getD j default := by
  by_cases hj : j < l.length
  · by_cases e : i = j
    · subst e; simp [List.getD, hj]
    · simp [List.getD, e]
  · simp [List.getD, hj]
theorem ints_set (l : List Int) (i : Nat) (x : Int) : ints (l.set i x) = (ints l).set i (.int .i64 x) := by unfold ints; rw [List.map_set]
theorem OI.setRoot {W : World} {B : Nat} {val : Nm → Value} {m : ImgD} (h : OI W B val m) {g n cap : Nat} (hv : val .root = .slice (some ⟨g, 0, none⟩) n cap) (i : Nat) (x : Int) : OI (W.setCell ⟨g, i, none⟩ (.int .i64 x)) B val { m with root := m.root.set i x } := by
  refine h.store (a := .root) (Live.root m) hv i _ (live_iff rfl rfl) (fun b hb => ?_) (fun b hb hne => ?_) (ints_set _ _ _)
  · rcases hb.cases with rfl | rfl | rfl | rfl | ⟨j, rfl, hj⟩ | ⟨j, rfl, hj⟩ <;> first | rfl | exact List.length_set
  · rcases hb.cases with rfl | rfl | rfl | rfl | ⟨j, rfl, hj⟩ | ⟨j, rfl, hj⟩ <;> first | rfl | exact absurd rfl hne
theorem OI.setRefs {W : World} {B : Nat} {val : Nm → Value} {m : ImgD} (h : OI W B val m) {g n cap : Nat} (hv : val .refs = .slice (some ⟨g, 0, none⟩) n cap) (i : Nat) (x : Int) : OI (W.setCell ⟨g, i, none⟩ (.int .i64 x)) B val { m with refs := m.refs.set i x } := by
  refine h.store (a := .refs) (Live.refs m) hv i _ (live_iff rfl rfl) (fun b hb => ?_) (fun b hb hne => ?_) (ints_set _ _ _)
  · rcases hb.cases with rfl | rfl | rfl | rfl | ⟨j, rfl, hj⟩ | ⟨j, rfl, hj⟩ <;> first | rfl | exact List.length_set
  · rcases hb.cases with rfl | rfl | rfl | rfl | ⟨j, rfl, hj⟩ | ⟨j, rfl, hj⟩ <;> first | rfl | exact absurd rfl hne
end Go.Proofs.YtehleeibgkpjmafGreat
/- Contracts of the closure that tells a number's new one, and of turnAll. -/
namespace Go.Proofs.YtehleeibgkpjmafGreat
open Go.RowKit Go.Shelf
set_option maxRecDepth 20000
set_option linter.unusedVariables false
set_option linter.unusedSimpArgs false

theorem grown_trans {a b c : World} {row : Option Nat} (h : a.grownBy b row) (k : b.grownBy c row) : a.grownBy c row :=
  ⟨k.os.trans h.os, k.tape.trans h.tape, k.output.trans h.output, Nat.le_trans h.size k.size, fun q hq hr => (k.block q (Nat.lt_of_lt_of_le hq h.size) hr).trans (h.block q hq hr)⟩
def NumB (W : World) (bm r : Nat) (L : List SlotD) : Prop := W.heap[bm]? = some (.cells #[.map (some r)] 67) ∧ W.heap[r]? = some (.map ((entK L ((List.range L.length).filter (kept L))).toArray) (rnk L L.length))
set_option maxHeartbeats 1000000 in
theorem turn_is {W : World} {bm r : Nat} {L : List SlotD} (h : NumB W bm r L) (e : Int) {x : Int} (hx : ren L e = x) :
    Calls Tryz.prog 44 #[.int .i64 e, .pointer (some ⟨bm, 0, none⟩)] W fun q W' => q = .returned (.int .i64 x) ∧ W' = W := by
  have c0 : W.cell? ⟨bm, 0, none⟩ = some (.map (some r)) := by simp [World.cell?, h.1]
  subst hx
  by_cases hk : 0 ≤ e ∧ e.toNat < L.length ∧ kept L e.toNat = true
  · obtain ⟨k, rfl⟩ := Int.eq_ofNat_of_zero_le hk.1
    rw [Int.toNat_natCast] at hk
    obtain ⟨p, hp⟩ := find_at (L := L) (l := (List.range L.length).filter (kept L)) (k := k) (List.mem_filter.2 ⟨List.mem_range.2 hk.2.1, hk.2.2⟩) 0
    have hl := look_run (P := Tryz.prog) (w := W) 67 3 3 r (rnk L L.length) ((entK L ((List.range L.length).filter (kept L))).toArray) (k : Int) (.int .i64 (rnk L k : Int)) p Tryz.underlying67 Tryz.underlying3 h.2 (by simpa using hp)
    rw [ren_at hk.2.1 hk.2.2]
    clear h hk hp
    go_enter Tryz.func44, Tryz.ntmps44
    go_wp2_with fail
    go_ret
    exact ⟨rfl, rfl⟩
  · have hn : ∀ j ∈ (List.range L.length).filter (kept L), (j : Int) ≠ e := fun j hj x => by
      obtain ⟨h1, h2⟩ := List.mem_filter.1 hj
      have h1 := List.mem_range.1 h1
      subst x
      exact hk ⟨Int.natCast_nonneg _, by rw [Int.toNat_natCast]; exact h1, by rw [Int.toNat_natCast]; exact h2⟩
    have hl := look_none (P := Tryz.prog) (w := W) 67 3 3 r (rnk L L.length) ((entK L ((List.range L.length).filter (kept L))).toArray) e (.int .i64 0) Tryz.underlying67 Tryz.underlying3 h.2 (by simpa using find_no (L := L) hn 0) (by kernel_rfl)
    have e1 : ren L e = e := by unfold ren; rw [if_neg hk]
    rw [e1]
    clear h hk hn e1
    go_enter Tryz.func44, Tryz.ntmps44
    go_wp2_with fail
    go_ret
    exact ⟨rfl, rfl⟩
def mapTo (f : Int → Int) (k : Nat) (xs : List Int) : List Int := (xs.take k).map f ++ xs.drop k
theorem mapTo_get {f : Int → Int} {k : Nat} {xs : List Int} (hk : k < xs.length) : (mapTo f k xs)[k]? = some xs[k] := by
  have ht : ((xs.take k).map f).length = k := by rw [List.length_map, List.length_take]; omega
  unfold mapTo
  rw [List.getElem?_append_right (by omega), ht, Nat.sub_self, List.getElem?_drop, Nat.add_zero, List.getElem?_eq_getElem hk]
theorem mapTo_succ {f : Int → Int} {k : Nat} {xs : List Int} (hk : k < xs.length) : mapTo f (k + 1) xs = (mapTo f k xs).set k (f xs[k]) := by
  have ht : ((xs.take k).map f).length = k := by rw [List.length_map, List.length_take]; omega
  unfold mapTo
  rw [List.set_append, ht, if_neg (Nat.lt_irrefl k), Nat.sub_self, List.drop_eq_getElem_cons hk, List.set_cons_zero, ← List.take_append_getElem hk, List.map_append, List.append_assoc]
  rfl
theorem mapTo_end (f : Int → Int) (xs : List Int) : mapTo f xs.length xs = xs.map f := by unfold mapTo; rw [List.take_length, List.drop_length, List.append_nil]
set_option maxHeartbeats 2000000 in
theorem turnAll_at (g cap bm r B : Nat) (L : List SlotD) (xs : List Int) (W : World) (hm : xs.length ≤ 1000) (HR : Hid (W.ownsRow B 3 1 (.slice (some ⟨g, 0, none⟩) xs.length cap) xs.length (ints xs))) (HN : Hid (NumB W bm r L ∧ bm ≠ g ∧ r ≠ g)) :
    Calls Tryz.prog 74 #[.slice (some ⟨g, 0, none⟩) xs.length cap, .func (.func 44) #[] #[.pointer (some ⟨bm, 0, none⟩)]] W fun q W' => q = .returned (.tuple #[]) ∧ W'.ownsRow B 3 1 (.slice (some ⟨g, 0, none⟩) xs.length cap) xs.length (ints (xs.map (ren L))) ∧ W.grownBy W' (some g) := by
  have hN : ∀ (args : Array Value) (w : World), (callFunc 44 args).run Tryz.prog w = .ok (.enter 44 args) w := enters_of Tryz.func44 (by kernel_rfl) rfl
  have HG0 : Hid (W.grownBy W (some g)) := ⟨rfl, rfl, rfl, Nat.le_refl _, fun _ _ _ => rfl⟩
  go_enter Tryz.func74, Tryz.ntmps74
  go_wp2_with fail
  go_loopw [8] (fun i wr => ∃ k : Nat, k ≤ xs.length ∧ i = .int .i64 k ∧ Hid (wr.ownsRow B 3 1 (.slice (some ⟨g, 0, none⟩) xs.length cap) xs.length (ints (mapTo (ren L) k xs)) ∧ W.grownBy wr (some g))) (fun i _ => xs.length - (intOf i).toNat)
  case atStart => exact ⟨0, Nat.zero_le _, rfl, HR, HG0⟩
  case round =>
    obtain ⟨k, hk, rfl, HC⟩ := hrel
    by_cases hkl : k < xs.length
    · have hki : (k : Int) < (xs.length : Int) := by omega
      obtain ⟨x, hx⟩ : ∃ x, xs[k] = x := ⟨_, rfl⟩
      have c0 : wr.cell? ⟨g, k, none⟩ = some (.int .i64 x) := by
        have := HC.out.1.cellAt k (by omega)
        rw [this]
        show (List.map (Value.int .i64) (mapTo (ren L) k xs))[k]? = _
        rw [List.getElem?_map, mapTo_get hkl, hx]; rfl
      have hf : wr.frozen? ⟨g, k, none⟩ = false := HC.out.1.frozenAt k
      have hlt := (row_lt HC.out.1).2.1
      have hgW := (row_lt HR.out).2.1
      have hNB : NumB wr bm r L := ⟨(HC.out.2.block bm (Array.getElem?_eq_some_iff.1 HN.out.1.1).1 (by intro e; injection e with e; exact HN.out.2.1 e)).trans HN.out.1.1, (HC.out.2.block r (Array.getElem?_eq_some_iff.1 HN.out.1.2).1 (by intro e; injection e with e; exact HN.out.2.2 e)).trans HN.out.1.2⟩
      have hcall := turn_is hNB x rfl
      obtain ⟨y, hy⟩ : ∃ y, y = ren L x := ⟨_, rfl⟩
      have hst := HC.out.1.stored k (.int .i64 y)
      have HNx : Hid ((wr.setCell ⟨g, k, none⟩ (.int .i64 y)).ownsRow B 3 1 (.slice (some ⟨g, 0, none⟩) xs.length cap) xs.length (ints (mapTo (ren L) (k + 1) xs)) ∧ W.grownBy (wr.setCell ⟨g, k, none⟩ (.int .i64 y)) (some g)) := ⟨by rw [mapTo_succ hkl, ints_set, hx, ← hy]; exact hst.1, grown_trans HC.out.2 hst.2⟩
      rw [← hy] at hcall
      clear hx hy hst hNB hgW hlt
      go_wp2_with fail
      refine hcall.mono ?_
      rintro e' w' ⟨rfl, hw⟩
      rw [hw]
      clear hw
      dsimp only
      go_wp2_with fail
      go_roundw
      case rel => exact ⟨k + 1, by omega, by go_num, HNx⟩
      case measure => first | (simp [intOf]; done) | (simp [intOf]; omega)
    · have e : k = xs.length := by omega
      subst e
      go_wp2_with fail
      go_end0
      have := HC.out
      rw [mapTo_end] at this
      exact ⟨rfl, this.1, this.2⟩
theorem turnAll_is {g' : Option Nat} {bm r B : Nat} {L : List SlotD} {xs : List Int} {v : Value} {W : World} (hm : xs.length ≤ 1000) (hR : W.ownsRow B 3 1 v xs.length (ints xs)) (hN : NumB W bm r L) (h1 : v.ownBlock ≠ some bm) (h2 : v.ownBlock ≠ some r) :
    Calls Tryz.prog 74 #[v, .func (.func 44) #[] #[.pointer (some ⟨bm, 0, none⟩)]] W fun q W' => q = .returned (.tuple #[]) ∧ W'.ownsRow B 3 1 v xs.length (ints (xs.map (ren L))) ∧ W.grownBy W' v.ownBlock := by
  rcases row_form hR with ⟨rfl, hn⟩ | ⟨g, cap, rfl, _⟩
  · have hx : xs = [] := List.eq_nil_of_length_eq_zero hn
    subst hx
    have HR : Hid (W.ownsRow B 3 1 (.slice none 0 0) 0 (ints [])) := hR
    clear hR hN h1 h2
    go_enter Tryz.func74, Tryz.ntmps74
    go_wp2_with fail
    go_loopw [8] (fun i wr => i = .int .i64 0 ∧ wr = W) (fun _ _ => 0)
    case atStart => exact ⟨rfl, rfl⟩
    case round =>
      obtain ⟨rfl, rfl⟩ := hrel
      go_wp2_with fail
      go_end0
      exact ⟨rfl, HR.out, ⟨rfl, rfl, rfl, Nat.le_refl _, fun _ _ _ => rfl⟩⟩
  · exact turnAll_at g cap bm r B L xs W hm hR ⟨hN, fun e => h1 (by rw [e]; rfl), fun e => h2 (by rw [e]; rfl)⟩
end Go.Proofs.YtehleeibgkpjmafGreat
/- Packed: what comes is right. Plain lists. -/
namespace Go.Proofs.YtehleeibgkpjmafGreat
open Go.RowKit Go.Shelf
set_option maxRecDepth 20000
set_option linter.unusedVariables false
set_option linter.unusedSimpArgs false

theorem isE_ren {L : List SlotD} (h40 : L.length ≤ 40) {e : Int} (h : EntP L e) : isE (ren L e) = true := by
  rcases ren_ent h with x | x | ⟨j, x, j1, jl, _⟩
  · rw [x]; rfl
  · rw [x]; rfl
  · rw [x]
    have := keptI_le L
    rw [packL_length] at jl
    unfold isE
    have e1 : decide ((1 : Int) ≤ (j : Int)) = true := by rw [decide_eq_true_eq]; omega
    have e2 : decide ((j : Int) < 40) = true := by rw [decide_eq_true_eq]; omega
    rw [e1, e2]; simp
theorem okD_pack {L : List SlotD} (h40 : L.length ≤ 40) {s : SlotD} (h : okD s = true) (he : ∀ e ∈ s.2.2, EntP L e) : okD (packS L s) = true := by
  obtain ⟨k, d, t⟩ := s
  unfold okD slotOK packS at *
  dsimp only at *
  by_cases h0 : k = 0
  · rw [if_pos h0] at h ⊢; simpa using h
  · rw [if_neg h0] at h ⊢
    by_cases h1 : k = 1
    · rw [if_pos h1] at h ⊢; simpa using h
    · rw [if_neg h1] at h ⊢
      by_cases h2 : k = 2
      · rw [if_pos h2] at h ⊢
        rw [decide_eq_true_eq] at h ⊢
        obtain ⟨a, b, c⟩ := h
        have hl : t.length = 4 := by unfold ckE at a; split at a; rename_i x; exact x.1; cases a
        have ha : ckE (t.map (ren L)) = 0 := by
          unfold ckE
          refine if_pos ⟨by rw [List.length_map]; exact hl, ?_⟩
          rw [List.all_eq_true]
          intro x hx
          obtain ⟨e, hem, rfl⟩ := List.mem_map.1 hx
          exact isE_ren h40 (he e hem)
        refine ⟨ha, ?_, c⟩
        unfold bareE at b ⊢
        rw [if_pos a] at b
        rw [if_pos ha]
        -- one of them is not 0
        cases hb : bareL (t.map (ren L)) with
        | false => rfl
        | true =>
          exfalso
          have : bareL t = true := by
            unfold bareL at hb ⊢
            rw [List.all_eq_true] at hb ⊢
            intro e hem
            have hz := hb _ (List.mem_map.2 ⟨e, hem, rfl⟩)
            have hz : ren L e = 0 := by simpa using hz
            rcases he e hem with x | x | ⟨j, x, j1, jl, hj⟩
            · rw [x]; rfl
            · rw [x, ren_neg] at hz; omega
            · rw [x, ren_at jl hj] at hz; have := rnk_pos (L := L) j1; omega
          rw [this] at b; cases b
      · rw [if_neg h2] at h; cases h
theorem tab_ents {m : ImgD} (h : shapeE m = 0) {s : SlotD} (hs : s ∈ m.slots) : ∀ e ∈ s.2.2, tabE m.slots e = true := fun e he => by
  have := (shapeE_zero h).2.2.2.2.2.1
  unfold tabFit at this
  rw [List.all_eq_true] at this
  exact List.all_eq_true.1 (this s hs) e he
theorem getD_mem {L : List SlotD} {k : Nat} (hk : k < L.length) : L.getD k default ∈ L := by rw [← getElem_getD hk]; exact List.getElem_mem hk
theorem keptI_1 {L : List SlotD} (h : 1 ≤ L.length) : 1 ≤ (keptI L).length := by have := rnk_lt (L := L) (k := 0) (by omega) rfl; omega
theorem pack_slotsE {m : ImgD} (h : shapeE m = 0) : slotsE (packL m.slots) = 0 := by
  obtain ⟨l1, l40⟩ := slotsE_parts (shapeE_zero h).2.1
  have hs := (shapeE_zero h).2.1
  have hk1 := keptI_1 l1
  have hk40 := keptI_le m.slots
  have hall : m.slots.all okD = true ∧ (m.slots.headD default).1 = 0 := by
    unfold slotsE at hs
    rw [if_pos ⟨l1, l40⟩] at hs
    split at hs
    · assumption
    · cases hs
  unfold slotsE
  rw [if_pos ⟨by rw [packL_length]; exact hk1, by rw [packL_length]; omega⟩]
  refine if_pos ⟨?_, ?_⟩
  · rw [List.all_eq_true]
    intro s hsm
    unfold packL at hsm
    obtain ⟨k, hk, rfl⟩ := List.mem_map.1 hsm
    have hkl := (keptI_mem.1 hk).1
    exact okD_pack l40 (List.all_eq_true.1 hall.1 _ (getD_mem hkl)) (fun e he => tabE_EntP (tab_ents h (getD_mem hkl) e he))
  · have e0 := packL_get (L := m.slots) (k := 0) (by omega) rfl
    rw [rnk_0] at e0
    have : (packL m.slots).headD default = (packL m.slots).getD 0 default := by cases packL m.slots <;> rfl
    rw [this, e0]
    show (m.slots.getD 0 default).1 = 0
    have : m.slots.headD default = m.slots.getD 0 default := by cases m.slots <;> rfl
    rw [← this]; exact hall.2
theorem namesOK_map {S : List SnapD} {f : SnapD → SnapD} (hf : ∀ s, (f s).1 = s.1) : namesOK (S.map f) = namesOK S := by
  have hg : ∀ k, ((S.map f).getD k default).1 = (S.getD k default).1 ∨ S.length ≤ k := fun k => by
    by_cases hk : k < S.length
    · left
      rw [List.getD_eq_getElem?_getD, List.getElem?_map, List.getElem?_eq_getElem hk, List.getD_eq_getElem?_getD, List.getElem?_eq_getElem hk]
      exact hf _
    · right; omega
  have e : ∀ k, k < S.length → nmAt (S.map f) k = nmAt S k := fun k hk => by
    unfold nmAt
    rcases hg k with a | a
    · rcases hg (k - 1) with b | b
      · rw [a, b]
      · omega
    · omega
  unfold namesOK
  rw [List.length_map, Bool.eq_iff_iff, List.all_eq_true, List.all_eq_true]
  constructor
  · intro h k hk; rw [← e k (List.mem_range.1 hk)]; exact h k hk
  · intro h k hk; rw [e k (List.mem_range.1 hk)]; exact h k hk
theorem map_getD_ren {L : List SlotD} (r : List Int) (i : Nat) : (r.map (ren L)).getD i 0 = ren L (r.getD i 0) := by
  rw [List.getD_eq_getElem?_getD, List.getElem?_map, List.getD_eq_getElem?_getD]
  cases r[i]? with
  | none => exact ren_0.symm
  | some x => rfl
theorem tab_ren {L : List SlotD} {x : Int} (h : rootE L x = true) (hx : x ≠ 0) : tabOf (packL L) (ren L x) = (tabOf L x).map (ren L) := by
  rcases rootE_ent h with e | ⟨j, rfl, j1, jl, hk⟩
  · exact absurd e hx
  · have hp : kept L j = true := kept_of (by rw [hk]; decide)
    rw [ren_at jl hp, packL_tab jl hp]
theorem rootFit_pack {L : List SlotD} {g : Int} {r : List Int} (h : rootFit L g r = true) : rootFit (packL L) g (r.map (ren L)) = true := by
  unfold rootFit at h ⊢
  rw [Bool.and_eq_true, Bool.and_eq_true] at h ⊢
  obtain ⟨a, b, c⟩ := h
  rw [List.all_eq_true] at b
  refine ⟨by rw [List.length_map]; exact a, by rw [List.all_eq_true]; intro x hx; obtain ⟨e, he, rfl⟩ := List.mem_map.1 hx; exact rootE_ren (b e he), ?_⟩
  unfold lastFit at c ⊢
  rw [Bool.or_eq_true, Bool.or_eq_true] at c ⊢
  rcases c with c | c | c
  · exact .inl c
  · refine .inr (.inl ?_)
    rw [List.length_map, map_getD_ren]
    have : r.getD (r.length - 1) 0 = 0 := by simpa using c
    rw [this, ren_0]; rfl
  · refine .inr ?_
    rw [List.length_map, map_getD_ren]
    by_cases hz : r.getD (r.length - 1) 0 = 0
    · left; rw [hz, ren_0]; rfl
    · right
      have hl : r.length - 1 < r.length := Classical.byContradiction fun x => hz (by rw [List.getD_eq_getElem?_getD, List.getElem?_eq_none (by omega)]; rfl)
      have hm : r.getD (r.length - 1) 0 ∈ r := by rw [List.getD_eq_getElem?_getD, List.getElem?_eq_getElem hl]; exact List.getElem_mem hl
      rw [tab_ren (b _ hm) hz, ← List.map_drop, List.all_map]
      rw [List.all_eq_true] at c ⊢
      intro e he
      have := c e he
      have : e = 0 := by simpa using this
      show (ren L e == 0) = true
      rw [this, ren_0]; rfl
theorem pack_shape {m : ImgD} (h : shapeE m = 0) : shapeE (packD m) = 0 := by
  obtain ⟨z1, z2, z3, z4, z5, z6, z7⟩ := shapeE_zero h
  have r1 : (rootsOf (packD m)).all (fun s => guestOK s.2.1) = true := by
    show (((⟨#[]⟩, m.guest, m.root.map (ren m.slots)) : SnapD) :: m.snaps.map (packN m.slots)).all _ = true
    rw [List.all_cons, List.all_map]
    have : (rootsOf m).all (fun s => guestOK s.2.1) = true := z5
    exact this
  have r2 : (rootsOf (packD m)).all (fun s => rootFit (packL m.slots) s.2.1 s.2.2) = true := by
    show (((⟨#[]⟩, m.guest, m.root.map (ren m.slots)) : SnapD) :: m.snaps.map (packN m.slots)).all _ = true
    have z7 : (((⟨#[]⟩, m.guest, m.root) : SnapD) :: m.snaps).all (fun s => rootFit m.slots s.2.1 s.2.2) = true := z7
    rw [List.all_cons, Bool.and_eq_true] at z7 ⊢
    refine ⟨rootFit_pack z7.1, ?_⟩
    rw [List.all_map, List.all_eq_true]
    intro s hs
    exact rootFit_pack (List.all_eq_true.1 z7.2 s hs)
  have r3 : tabFit (packL m.slots) = true := by
    unfold tabFit
    rw [List.all_eq_true]
    intro s hs
    unfold packL at hs
    obtain ⟨k, hk, rfl⟩ := List.mem_map.1 hs
    have hkl := (keptI_mem.1 hk).1
    rw [List.all_eq_true]
    intro x hx
    obtain ⟨e, he, rfl⟩ := List.mem_map.1 hx
    exact tabE_ren (tab_ents h (getD_mem hkl) e he)
  unfold shapeE
  rw [if_neg (by show ¬ 3 < (m.snaps.map (packN m.slots)).length; rw [List.length_map]; omega), if_neg (by show ¬ slotsE (packL m.slots) ≠ 0; rw [pack_slotsE h]; simp), if_neg, if_neg (by rw [r1]; decide), if_neg (by show ¬ tabFit (packL m.slots) = false; rw [r3]; decide), if_neg (by show ¬ ((rootsOf (packD m)).all fun s => rootFit (packL m.slots) s.2.1 s.2.2) = false; rw [r2]; decide)]
  rintro (e | e)
  · exact e (by show ((keptI m.slots).map _).length = (packL m.slots).length; rw [List.length_map, packL_length])
  · have e : namesOK (m.snaps.map (packN m.slots)) = false := e
    rw [namesOK_map (f := packN m.slots) (fun _ => rfl), z4] at e; cases e
end Go.Proofs.YtehleeibgkpjmafGreat
