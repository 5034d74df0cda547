/- Texts joined: WrQ, SnP, SnT, SnI, SnD, SetI, ClnI, CpyH. -/
import Derived.Test.YtehleeibgkpjmaeSnapsTrueJ3
import Derived.Lib.AppendZerosOnto
import Derived.Lib.Overlaps
import Derived.Shelf.Spec.SlicesInsert
import Derived.Lib.SliceRun
import Derived.Deep.RegionHeld3
/- Writing, wiping, punching: what comes is right, and how it is read. Plain lists. -/
namespace Go.Proofs.Ytehleeibgkpjmae
open Go.RowKit Go.Shelf
set_option maxRecDepth 20000

def EntOK (L : List SlotD) (e : Int) : Prop := e = 0 ∨ e = -1 ∨ ∃ j : Nat, e = j ∧ 1 ≤ j ∧ j < L.length ∧ kd L j = 1
structure Laid (m M : ImgD) (k : Nat) (es : List Int) : Prop where
  shape : shapeE M = 0
  guest : M.guest = m.guest
  snaps : M.snaps = m.snaps
  rlen : M.root.length = m.root.length
  look : ∀ q, q / 4 < m.root.length → lookV M M.root q = if q / 4 = k then es.getD (q % 4) 0 else lookV m m.root q
  past : ∀ s ∈ m.snaps, ∀ q, q / 4 < s.2.2.length → lookV M s.2.2 q = lookV m s.2.2 q
  page : ∀ e, EntOK m.slots e → pageV M.slots e = pageV m.slots e

theorem reroot_shape {m : ImgD} (h : shapeE m = 0) {g : Int} {r : List Int} (hg : guestOK g = true) (hf : rootFit m.slots g r = true) : shapeE { m with guest := g, root := r } = 0 := by
  obtain ⟨z1, z2, z3, z4, z5, z6, z7⟩ := shapeE_zero h
  unfold rootsOf at z5 z7
  rw [List.all_cons] at z5 z7
  simp only [Bool.and_eq_true] at z5 z7
  have hgall : (rootsOf { m with guest := g, root := r }).all (fun s => guestOK s.2.1) = true := by
    show (((⟨#[]⟩, g, r) : SnapD) :: m.snaps).all _ = true
    rw [List.all_cons, z5.2, Bool.and_true]; exact hg
  have hall : (rootsOf { m with guest := g, root := r }).all (fun s => rootFit m.slots s.2.1 s.2.2) = true := by
    show (((⟨#[]⟩, g, r) : SnapD) :: m.snaps).all _ = true
    rw [List.all_cons, z7.2, Bool.and_true]; exact hf
  unfold shapeE
  rw [if_neg (by show ¬ 3 < m.snaps.length; omega), if_neg (by show ¬ slotsE m.slots ≠ 0; simpa using z2), if_neg, if_neg (by rw [hgall]; decide), if_neg (by show ¬ tabFit m.slots = false; rw [z6]; decide), if_neg (by show ¬ ((rootsOf { m with guest := g, root := r }).all fun s => rootFit m.slots s.2.1 s.2.2) = false; rw [hall]; decide)]
  rintro (e | e)
  · exact e z3
  · have : namesOK m.snaps = false := e
    rw [z4] at this; cases this
theorem rootFit_root {m : ImgD} (h : shapeE m = 0) : rootFit m.slots m.guest m.root = true := List.all_eq_true.1 (shapeE_zero h).2.2.2.2.2.2 (⟨#[]⟩, m.guest, m.root) List.mem_cons_self
theorem guestOK_guest {m : ImgD} (h : shapeE m = 0) : guestOK m.guest = true := List.all_eq_true.1 (shapeE_zero h).2.2.2.2.1 (⟨#[]⟩, m.guest, m.root) List.mem_cons_self

theorem snap_fit {m : ImgD} (h : shapeE m = 0) {s : SnapD} (hs : s ∈ rootsOf m) : 0 ≤ s.2.1 ∧ s.2.1 ≤ 16 ∧ (s.2.2.length : Int) = (s.2.1 + 3) / 4 ∧ s.2.2.all (rootE m.slots) = true := by
  have hf := List.all_eq_true.1 (shapeE_zero h).2.2.2.2.2.2 s hs
  have hg := List.all_eq_true.1 (shapeE_zero h).2.2.2.2.1 s hs
  unfold rootFit at hf
  unfold guestOK at hg
  simp only [Bool.and_eq_true, decide_eq_true_eq] at hf hg
  exact ⟨hg.1, hg.2, hf.1, hf.2.1⟩
theorem Laid.allV {m M : ImgD} {k : Nat} {es : List Int} (hL : Laid m M k es) : Go.Proofs.Ytehleeibgkpjmae.allV (countedD M) = allP M M.root m.guest.toNat := by
  unfold Go.Proofs.Ytehleeibgkpjmae.allV
  rw [if_pos (counted_right hL.shape)]
  have := allP_counted hL.shape (s := (⟨#[]⟩, M.guest, M.root)) List.mem_cons_self
  show allP (countedD M) M.root M.guest.toNat = _
  rw [this, hL.guest]
theorem Laid.put {m M : ImgD} {n : Nat} {x : Int} (hC : checkE m = 0) (hn : (n : Int) < m.guest) (hL : Laid m M (n / 4) ((tableO m (n / 4)).set (n % 4) x)) : Go.Proofs.Ytehleeibgkpjmae.allV (countedD M) = (Go.Proofs.Ytehleeibgkpjmae.allV m).set n (pageV M.slots x) := by
  have h := checkE_shape hC
  have hr := root_ok h
  have hg := guest_ok h
  rw [hL.allV]
  unfold Go.Proofs.Ytehleeibgkpjmae.allV
  rw [if_pos hC]
  unfold allP
  apply List.ext_getElem
  · simp
  · intro q h1 h2
    have hq : q < m.guest.toNat := by simpa using h1
    rw [List.getElem_set, List.getElem_map, List.getElem_range]
    rw [hL.look q (by omega)]
    have hlen : (tableO m (n / 4)).length = 4 := ckE_len (tableO_ok h (by omega)).1
    by_cases e : n = q
    · subst e
      rw [if_pos rfl, if_pos rfl, set_get (by rw [hlen]; omega)]
    · rw [if_neg e]
      simp only [List.getElem_map, List.getElem_range]
      by_cases e4 : q / 4 = n / 4
      · rw [if_pos e4, getD_setI, if_neg (fun z => e (by omega)), ← e4, ← lookV_tableO]
        exact hL.page _ (lookV_ent h hr.2 q (by omega))
      · rw [if_neg e4]
        exact hL.page _ (lookV_ent h hr.2 q (by omega))



end Go.Proofs.Ytehleeibgkpjmae
/- Snapshots: what comes is right, and how it is read. Plain lists. -/
namespace Go.Proofs.Ytehleeibgkpjmae
open Go.RowKit Go.Shelf
set_option maxRecDepth 20000

abbrev lessN (a b : ByteArray) : Bool := Op.bytesLess a.toList b.toList
theorem less_trans : ∀ {x y z : List UInt8}, Op.bytesLess x y = true → Op.bytesLess y z = true → Op.bytesLess x z = true
  | _, _, [], _, h => by simp [Op.bytesLess] at h
  | _, [], _ :: _, h, _ => by simp [Op.bytesLess] at h
  | [], _ :: _, _ :: _, _, _ => rfl
  | a :: x, b :: y, c :: z, h, k => by
    simp only [Op.bytesLess, Bool.or_eq_true, Bool.and_eq_true, decide_eq_true_eq, beq_iff_eq] at h k ⊢
    rcases h with h | ⟨rfl, h⟩
    · rcases k with k | ⟨rfl, _⟩
      · exact .inl (by rw [UInt8.lt_iff_toNat_lt] at h k ⊢; omega)
      · exact .inl h
    · rcases k with k | ⟨rfl, k⟩
      · exact .inl k
      · exact .inr ⟨rfl, less_trans h k⟩
theorem less_total {x y : List UInt8} (h : Op.bytesLess x y = false) (hne : x ≠ y) : Op.bytesLess y x = true := by
  have := bytesLeq x y
  rw [h, Bool.false_or] at this
  have e : (x == y) = false := by simpa using hne
  rw [e] at this
  simpa using this.symm
theorem less_irr (x : List UInt8) : Op.bytesLess x x = false := by
  have := bytesLeq x x
  simp at this
  cases e : Op.bytesLess x x with
  | false => rfl
  | true => rw [e] at this; simp at this

def NamesP (S : List SnapD) : Prop := (∀ s ∈ S, isNm s.1 = true) ∧ S.Pairwise (fun a b => lessN a.1 b.1 = true)
theorem namesOK_iff (S : List SnapD) : namesOK S = true ↔ NamesP S := by
  unfold namesOK NamesP
  rw [List.all_eq_true]
  constructor
  · intro h
    have hk : ∀ k, k < S.length → nmAt S k = true := fun k hk => h k (by simpa using hk)
    refine ⟨fun s hs => ?_, ?_⟩
    · obtain ⟨j, hj, rfl⟩ := List.getElem_of_mem hs
      have := hk j hj
      unfold nmAt at this
      simp only [Bool.and_eq_true] at this
      have h1 := this.1
      rwa [show S.getD j default = S[j] by simp [List.getD, hj]] at h1
    · rw [List.pairwise_iff_getElem]
      have adj : ∀ i, (hi : i + 1 < S.length) → lessN S[i].1 S[i + 1].1 = true := fun i hi => by
        have := hk (i + 1) hi
        rw [nmAt_at hi (by omega)] at this
        simp only [Bool.and_eq_true] at this
        exact this.2
      have far : ∀ d i, (hd : i + d + 1 < S.length) → lessN (S[i]'(by omega)).1 (S[i + d + 1]).1 = true := by
        intro d
        induction d with
        | zero => intro i hd; exact adj i hd
        | succ d ih => intro i hd; exact less_trans (ih i (by omega)) (adj (i + d + 1) (by omega))
      intro i j hi hj hij
      obtain ⟨d, rfl⟩ : ∃ d, j = i + d + 1 := ⟨j - i - 1, by omega⟩
      exact far d i hj
  · rintro ⟨h1, h2⟩ k hk
    have hk : k < S.length := by simpa using hk
    rw [List.pairwise_iff_getElem] at h2
    rcases Nat.eq_zero_or_pos k with e | e
    · subst e
      rw [nmAt_0 hk]; exact h1 _ (List.getElem_mem hk)
    · rw [nmAt_at hk e, h1 _ (List.getElem_mem hk), Bool.true_and]
      exact h2 (k - 1) k (by omega) hk (by omega)

def insS (S : List SnapD) (s : SnapD) : List SnapD := S.takeWhile (fun x => lessN x.1 s.1) ++ s :: S.dropWhile (fun x => lessN x.1 s.1)
theorem insS_length (S : List SnapD) (s : SnapD) : (insS S s).length = S.length + 1 := by
  unfold insS
  have := congrArg List.length (List.takeWhile_append_dropWhile (p := fun x : SnapD => lessN x.1 s.1) (l := S))
  rw [List.length_append] at this
  rw [List.length_append, List.length_cons]; omega
theorem mem_insS {S : List SnapD} {s x : SnapD} : x ∈ insS S s ↔ x = s ∨ x ∈ S := by
  unfold insS
  have e := List.takeWhile_append_dropWhile (p := fun x : SnapD => lessN x.1 s.1) (l := S)
  constructor
  · intro h
    rcases List.mem_append.1 h with h | h
    · exact .inr (e ▸ List.mem_append_left _ h)
    · rcases List.mem_cons.1 h with h | h
      · exact .inl h
      · exact .inr (e ▸ List.mem_append_right _ h)
  · rintro (rfl | h)
    · exact List.mem_append_right _ List.mem_cons_self
    · rw [← e] at h
      rcases List.mem_append.1 h with h | h
      · exact List.mem_append_left _ h
      · exact List.mem_append_right _ (List.mem_cons_of_mem _ h)
theorem mem_tw {p : SnapD → Bool} : ∀ {l : List SnapD} {x : SnapD}, x ∈ l.takeWhile p → p x = true
  | [], x, h => by cases h
  | a :: l, x, h => by
    rw [List.takeWhile_cons] at h
    split at h
    · rename_i hp
      rcases List.mem_cons.1 h with rfl | h
      · exact hp
      · exact mem_tw h
    · cases h
theorem insS_names {S : List SnapD} {s : SnapD} (h : NamesP S) (hs : isNm s.1 = true) (hne : ∀ x ∈ S, x.1.toList ≠ s.1.toList) : NamesP (insS S s) := by
  refine ⟨fun x hx => ?_, ?_⟩
  · rcases mem_insS.1 hx with rfl | hm
    · exact hs
    · exact h.1 x hm
  · have e := List.takeWhile_append_dropWhile (p := fun x : SnapD => lessN x.1 s.1) (l := S)
    have hp := h.2
    rw [← e, List.pairwise_append] at hp
    have hright : ∀ y ∈ S.dropWhile (fun x => lessN x.1 s.1), lessN s.1 y.1 = true := by
      cases hd : S.dropWhile (fun x => lessN x.1 s.1) with
      | nil => intro y hy; cases hy
      | cons x r =>
        have hx : lessN x.1 s.1 = false := by
          have := List.head?_dropWhile_not (fun x : SnapD => lessN x.1 s.1) S
          rw [hd] at this
          simpa using this
        have hxm : x ∈ S := e ▸ List.mem_append_right _ (by rw [hd]; exact List.mem_cons_self)
        have hsx : lessN s.1 x.1 = true := less_total hx (hne x hxm)
        rw [hd] at hp
        intro y hy
        rcases List.mem_cons.1 hy with rfl | hy
        · exact hsx
        · exact less_trans hsx (List.rel_of_pairwise_cons hp.2.1 hy)
    unfold insS
    rw [List.pairwise_append, List.pairwise_cons]
    refine ⟨hp.1, ⟨hright, hp.2.1⟩, fun a ha b hb => ?_⟩
    rcases List.mem_cons.1 hb with rfl | hb
    · exact mem_tw (p := fun x : SnapD => lessN x.1 b.1) ha
    · exact hp.2.2 a ha b hb

theorem resnap_shape {m : ImgD} (h : shapeE m = 0) {S : List SnapD} (h3 : S.length ≤ 3) (hn : namesOK S = true) (hf : ∀ s ∈ S, guestOK s.2.1 = true ∧ rootFit m.slots s.2.1 s.2.2 = true) : shapeE { m with snaps := S } = 0 := by
  obtain ⟨z1, z2, z3, z4, z5, z6, z7⟩ := shapeE_zero h
  have hgall : (rootsOf { m with snaps := S }).all (fun s => guestOK s.2.1) = true := by
    show (((⟨#[]⟩, m.guest, m.root) : SnapD) :: S).all _ = true
    rw [List.all_cons, List.all_eq_true.2 (fun s hs => (hf s hs).1), Bool.and_true]; exact guestOK_guest h
  have hall : (rootsOf { m with snaps := S }).all (fun s => rootFit m.slots s.2.1 s.2.2) = true := by
    show (((⟨#[]⟩, m.guest, m.root) : SnapD) :: S).all _ = true
    rw [List.all_cons, List.all_eq_true.2 (fun s hs => (hf s hs).2), Bool.and_true]; exact rootFit_root h
  unfold shapeE
  rw [if_neg (by show ¬ 3 < S.length; omega), if_neg (by show ¬ slotsE m.slots ≠ 0; simpa using z2), if_neg, if_neg (by rw [hgall]; decide), if_neg (by show ¬ tabFit m.slots = false; rw [z6]; decide), if_neg (by show ¬ ((rootsOf { m with snaps := S }).all fun s => rootFit m.slots s.2.1 s.2.2) = false; rw [hall]; decide)]
  rintro (e | e)
  · exact e z3
  · have : namesOK S = false := e
    rw [hn] at this; cases this
theorem snap_ok {m : ImgD} (h : shapeE m = 0) {s : SnapD} (hs : s ∈ m.snaps) : guestOK s.2.1 = true ∧ rootFit m.slots s.2.1 s.2.2 = true :=
  ⟨List.all_eq_true.1 (shapeE_zero h).2.2.2.2.1 s (List.mem_cons_of_mem _ hs), List.all_eq_true.1 (shapeE_zero h).2.2.2.2.2.2 s (List.mem_cons_of_mem _ hs)⟩

def createM (m : ImgD) (nm : ByteArray) : ImgD := { m with snaps := insS m.snaps (nm, m.guest, m.root) }
def revertM (m : ImgD) (k : Nat) : ImgD := { m with guest := (m.snaps.getD k default).2.1, root := (m.snaps.getD k default).2.2 }
def deleteM (m : ImgD) (k : Nat) : ImgD := { m with snaps := m.snaps.eraseIdx k }
theorem snapIx_none {S : List SnapD} {nm : ByteArray} (h : snapIx S nm = none) : ∀ x ∈ S, x.1.toList ≠ nm.toList := fun x hx e => by
  unfold snapIx at h
  rw [List.findIdx?_eq_none_iff] at h
  have := h x hx
  simp [e] at this
theorem create_shape {m : ImgD} (h : shapeE m = 0) {nm : ByteArray} (hn : isNm nm = true) (hx : snapIx m.snaps nm = none) (h3 : m.snaps.length < 3) : shapeE (createM m nm) = 0 := by
  refine resnap_shape h (by rw [insS_length]; omega) ((namesOK_iff _).2 (insS_names ((namesOK_iff _).1 (shapeE_zero h).2.2.2.1) hn (snapIx_none hx))) (fun s hs => ?_)
  rcases mem_insS.1 hs with rfl | hs
  · exact ⟨guestOK_guest h, rootFit_root h⟩
  · exact snap_ok h hs
theorem revert_shape {m : ImgD} (h : shapeE m = 0) {k : Nat} (hk : k < m.snaps.length) : shapeE (revertM m k) = 0 := by
  have hm : m.snaps.getD k default ∈ m.snaps := by rw [show m.snaps.getD k default = m.snaps[k] by simp [List.getD, hk]]; exact List.getElem_mem hk
  exact reroot_shape h (snap_ok h hm).1 (snap_ok h hm).2
theorem delete_shape {m : ImgD} (h : shapeE m = 0) (k : Nat) : shapeE (deleteM m k) = 0 := by
  have hsub := List.eraseIdx_sublist m.snaps k
  obtain ⟨n1, n2⟩ := (namesOK_iff _).1 (shapeE_zero h).2.2.2.1
  refine resnap_shape h (Nat.le_trans hsub.length_le (shapeE_zero h).1) ((namesOK_iff _).2 ⟨fun s hs => n1 s (hsub.subset hs), n2.sublist hsub⟩) (fun s hs => snap_ok h (hsub.subset hs))


theorem told_more {m M : ImgD} (h : shapeE m = 0) (hM : shapeE M = 0) (hs : M.slots = m.slots) (hsub : ∀ x ∈ flatR m, x ∈ flatR M) {j : Nat} (hj : j < m.slots.length) (hc : (cntL m).getD j 0 ≠ 0) : (cntL M).getD j 0 ≠ 0 := by
  obtain ⟨j1, hcase⟩ := cnt_told h hj hc
  rcases hcase with ⟨hk, hm⟩ | ⟨hk, k, k1, hkm, hk2, hjm⟩
  · exact (told_root hM (hsub _ hm) j1).2.2
  · exact (told_ent hM (hsub _ hkm) k1 (by rw [hs]; exact hjm) j1).2.2
theorem slots_more {m M : ImgD} (hC : checkE m = 0) (hM : shapeE M = 0) (hs : M.slots = m.slots) (hsub : ∀ x ∈ flatR m, x ∈ flatR M) : (countedD M).slots = m.slots := by
  have h := checkE_shape hC
  have e0 := congrArg ImgD.slots (counted_same hC)
  have e0 : freeUn m.slots (cntL m) = m.slots := e0
  show freeUn M.slots (cntL M) = m.slots
  rw [hs]
  apply List.ext_getElem
  · exact freeUn_length _ _
  · intro j h1 h2
    rw [getElem_getD h1, getElem_getD h2, freeUn_get h2]
    split
    · rename_i hz
      have hz0 : (cntL m).getD j 0 = 0 := Classical.byContradiction fun x => told_more h hM hs hsub h2 x hz
      have := freeUn_gone (L := m.slots) h2 hz0
      rw [e0] at this; exact this.symm
    · rfl
theorem used_fewer (L : List SlotD) (c : List Int) : usedN (freeUn L c) ≤ usedN L := by
  unfold usedN
  have hl : L = (List.range L.length).map (fun j => L.getD j default) := by
    apply List.ext_getElem
    · simp
    · intro j h1 h2; simp [List.getD, h1]
  rw [hl]
  unfold freeUn
  rw [List.length_map, List.length_range, List.countP_map, List.countP_map]
  refine List.countP_mono_left fun j hj => ?_
  have hj := List.mem_range.1 hj
  intro hx
  simp only [Function.comp_apply] at hx ⊢
  split at hx
  · simp [slotZ] at hx
  · simp [List.getD, hj] at hx ⊢; exact hx
theorem flat_create (m : ImgD) (nm : ByteArray) : ∀ x ∈ flatR m, x ∈ flatR (createM m nm) := fun x hx => by
  unfold flatR at hx ⊢
  rw [List.mem_flatMap] at hx ⊢
  obtain ⟨s, hs, hm⟩ := hx
  rcases List.mem_cons.1 hs with rfl | hs
  · exact ⟨_, List.mem_cons_self, hm⟩
  · exact ⟨s, List.mem_cons_of_mem _ (mem_insS.2 (.inr hs)), hm⟩
end Go.Proofs.Ytehleeibgkpjmae
/- The desk with a snapshot less, a snapshot more. -/
namespace Go.Proofs.Ytehleeibgkpjmae
open Go.RowKit Go.Shelf
set_option maxRecDepth 20000
set_option linter.unusedVariables false
set_option linter.unusedSimpArgs false

theorem ext3 {L1 L2 : List Value} {n : Nat} (h1 : L1.length = n * 3) (h2 : L2.length = n * 3) (h : ∀ q, q < n → L1[q * 3]? = L2[q * 3]? ∧ L1[q * 3 + 1]? = L2[q * 3 + 1]? ∧ L1[q * 3 + 2]? = L2[q * 3 + 2]?) : L1 = L2 := by
  apply List.ext_getElem?
  intro p
  by_cases hp : p < n * 3
  · obtain ⟨a, b, c⟩ := h (p / 3) (by omega)
    have : p = p / 3 * 3 ∨ p = p / 3 * 3 + 1 ∨ p = p / 3 * 3 + 2 := by omega
    rcases this with e | e | e <;> rw [e] <;> assumption
  · rw [List.getElem?_eq_none (by omega), List.getElem?_eq_none (by omega)]
def skip (k j : Nat) : Nat := if j < k then j else j + 1
theorem getD_erase (S : List SnapD) (k j : Nat) : (S.eraseIdx k).getD j default = S.getD (skip k j) default := by
  unfold skip
  simp only [List.getD_eq_getElem?_getD, List.getElem?_eraseIdx]
  split <;> rfl
theorem flatN_erase {S : List SnapD} {k : Nat} (hk : k < S.length) (qv : Nat → Value) : flatN (S.eraseIdx k) (fun j => qv (skip k j)) = (flatN S qv).take (k * 3) ++ (flatN S qv).drop ((k + 1) * 3) := by
  have hl := flatN_length S qv
  have he : (S.eraseIdx k).length = S.length - 1 := by rw [List.length_eraseIdx, if_pos hk]
  have ht : ((flatN S qv).take (k * 3)).length = k * 3 := by rw [List.length_take, hl]; omega
  refine ext3 (n := S.length - 1) (by rw [flatN_length, he]) (by rw [List.length_append, List.length_drop, ht, hl]; omega) fun q hq => ?_
  obtain ⟨a, b, c⟩ := flatN_get (S := S.eraseIdx k) (qv := fun j => qv (skip k j)) (j := q) (by omega)
  obtain ⟨a', b', c'⟩ := flatN_get (S := S) (qv := qv) (j := skip k q) (by unfold skip; split <;> omega)
  rw [a, b, c, getD_erase, ← a', ← b', ← c']
  unfold skip
  simp only [List.getElem?_append, List.getElem?_take, List.getElem?_drop, ht]
  by_cases h : q < k
  · rw [if_pos h, if_pos (by omega), if_pos (by omega), if_pos (by omega), if_pos (by omega), if_pos (by omega), if_pos (by omega)]; exact ⟨rfl, rfl, rfl⟩
  · rw [if_neg h, if_neg (by omega), if_neg (by omega), if_neg (by omega)]
    exact ⟨by congr 1; omega, by congr 1; omega, by congr 1; omega⟩
def delVal (val : Nm → Value) (v : Value) (k : Nat) : Nm → Value := fun a => if a.kind = 5 then val (.sr (skip k a.ix)) else if a.kind = 3 then v else val a
def delNm (k : Nat) (a : Nm) : Nm := if a.kind = 5 then .sr (skip k a.ix) else a
theorem delVal_eq {val : Nm → Value} {v : Value} {k : Nat} {a : Nm} (h : a.kind ≠ 3) : delVal val v k a = val (delNm k a) := by
  unfold delVal delNm
  by_cases e : a.kind = 5
  · rw [if_pos e, if_pos e]
  · rw [if_neg e, if_neg e, if_neg h]
theorem delNm_kind (k : Nat) (a : Nm) : (delNm k a).kind = a.kind := by
  unfold delNm
  split
  · rename_i e; rw [e]
  · rfl
theorem delNm_live {m : ImgD} {k : Nat} (hk : k < m.snaps.length) {a : Nm} (h : Live (deleteM m k) a) : Live m (delNm k a) := by
  have he : (m.snaps.eraseIdx k).length = m.snaps.length - 1 := by rw [List.length_eraseIdx, if_pos hk]
  rcases h with ⟨h1, h2⟩ | ⟨h1, h2⟩ | ⟨h1, h2⟩
  · have : a.kind ≠ 5 := by omega
    unfold delNm; rw [if_neg this]; exact .inl ⟨h1, h2⟩
  · have : a.kind ≠ 5 := by omega
    unfold delNm; rw [if_neg this]; exact .inr (.inl ⟨h1, h2⟩)
  · unfold delNm; rw [if_pos h1]
    have h2 : a.ix < (m.snaps.eraseIdx k).length := h2
    exact Live.sr (by unfold skip; split <;> omega)
theorem delNm_inj {k : Nat} {a b : Nm} (h : a ≠ b) : delNm k a ≠ delNm k b := fun e => by
  have hk := congrArg Nm.kind e
  rw [delNm_kind, delNm_kind] at hk
  apply h
  unfold delNm at e
  by_cases h5 : a.kind = 5
  · rw [if_pos h5, if_pos (hk ▸ h5)] at e
    have e := congrArg Nm.ix e
    have e : skip k a.ix = skip k b.ix := e
    have : a.ix = b.ix := by unfold skip at e; split at e <;> split at e <;> omega
    cases a; cases b; simp_all
  · rw [if_neg h5, if_neg (hk ▸ h5)] at e
    exact e

theorem live3 {m : ImgD} {a : Nm} (h : Live m a) (e : a.kind = 3) : a = .snaps := by
  rcases h with ⟨h1, h2⟩ | ⟨h1, h2⟩ | ⟨h1, h2⟩
  · cases a; simp_all
  · omega
  · omega
theorem OI.del {W W' : World} {B k : Nat} {val : Nm → Value} {m : ImgD} {v : Value} (h : OI W B val m) (hk : k < m.snaps.length) (hv : W'.ownsRow B 64 3 v (m.snaps.length - 1) ((flatN m.snaps (fun j => val (.sr j))).take (k * 3) ++ (flatN m.snaps (fun j => val (.sr j))).drop ((k + 1) * 3)))
    (hg : W.grownBy W' (val .snaps).ownBlock) (hb : v.ownBlock = (val .snaps).ownBlock) : OI W' B (delVal val v k) (deleteM m k) := by
  refine ⟨fun a ha => ?_, fun a b ha hb2 hab g hga => ?_⟩
  · by_cases e : a.kind = 3
    · have ea := live3 ha e
      subst ea
      rw [← flatN_erase hk] at hv
      have hl : (deleteM m k).snaps.length = m.snaps.length - 1 := by show (m.snaps.eraseIdx k).length = _; rw [List.length_eraseIdx, if_pos hk]
      show W'.ownsRow B 64 3 v (deleteM m k).snaps.length (flatN (m.snaps.eraseIdx k) (fun j => val (.sr (skip k j))))
      rw [hl]; exact hv
    · have hr := h.row (delNm k a) (delNm_live hk ha)
      have hne : (val (delNm k a)).ownBlock = none ∨ (val (delNm k a)).ownBlock ≠ (val .snaps).ownBlock := by
        cases eq : (val (delNm k a)).ownBlock with
        | none => exact .inl rfl
        | some g => exact .inr (fun x => h.apart (delNm k a) .snaps (delNm_live hk ha) (Live.snaps m) (fun y => e (by rw [← delNm_kind k a, y])) g eq x.symm)
      have hr := hr.kept hg hne
      rw [delVal_eq e]
      have e1 : rowT (delNm k a) = rowT a := by unfold rowT; rw [delNm_kind]
      have e2 : rowS (delNm k a) = rowS a := by unfold rowS; rw [delNm_kind]
      rw [e1, e2] at hr
      rcases ha.cases with rfl | rfl | rfl | rfl | ⟨j, rfl, hj⟩ | ⟨j, rfl, hj⟩
      · exact hr
      · exact hr
      · exact hr
      · exact absurd rfl e
      · exact hr
      · have e3 : rowN (deleteM m k) (.sr j) = rowN m (delNm k (.sr j)) := by
          show ((m.snaps.eraseIdx k).getD j default).2.2.length = (m.snaps.getD (skip k j) default).2.2.length
          rw [getD_erase]
        have e4 : rowV (deleteM m k) (delVal val v k) (.sr j) = rowV m val (delNm k (.sr j)) := by
          show ints ((m.snaps.eraseIdx k).getD j default).2.2 = ints (m.snaps.getD (skip k j) default).2.2
          rw [getD_erase]
        rw [e3, e4]; exact hr
  · by_cases ea : a.kind = 3
    · have ea' := live3 ha ea
      have eb : b.kind ≠ 3 := fun x => hab (ea'.trans (live3 hb2 x).symm)
      subst ea'
      rw [delVal_eq eb]
      exact h.apart .snaps (delNm k b) (Live.snaps m) (delNm_live hk hb2) (fun y => eb (by rw [← delNm_kind k b, ← y])) g (hb.symm.trans hga)
    · rw [delVal_eq ea] at hga
      by_cases eb : b.kind = 3
      · have eb' := live3 hb2 eb
        subst eb'
        intro x
        exact h.apart (delNm k a) .snaps (delNm_live hk ha) (Live.snaps m) (fun y => ea (by rw [← delNm_kind k a, y])) g hga (hb.symm.trans x)
      · rw [delVal_eq eb]
        exact h.apart _ _ (delNm_live hk ha) (delNm_live hk hb2) (delNm_inj hab) g hga

theorem DTo.del {W W' : World} {B D k : Nat} {val : Nm → Value} {m : ImgD} {v : Value} (h : DK W B D val m) (hB : B ≤ W.heap.size) (hk : k < m.snaps.length) (hv : W'.ownsRow B 64 3 v (m.snaps.length - 1) ((flatN m.snaps (fun j => val (.sr j))).take (k * 3) ++ (flatN m.snaps (fun j => val (.sr j))).drop ((k + 1) * 3)))
    (hg : W.grownBy W' (val .snaps).ownBlock) (hb : v.ownBlock = (val .snaps).ownBlock) : DTo W (W'.setCell ⟨D, 4, none⟩ v) B D m val nilV (deleteM m k) (delVal val v k) := by
  have hval : ∀ q, (∀ b, Live m b → (val b).ownBlock ≠ some q) → ∀ a, Live (deleteM m k) a → (delVal val v k a).ownBlock ≠ some q := fun q hq a ha => by
    by_cases e : a.kind = 3
    · have ea := live3 ha e
      subst ea
      show v.ownBlock ≠ some q
      rw [hb]; exact hq .snaps (Live.snaps m)
    · rw [delVal_eq e]; exact hq _ (delNm_live hk ha)
  have hf := hval D h.far
  have hbel : Below B W W' := Below.grown (Below.refl _ _) hg hB (fun q e => ((h.own.row .snaps (Live.snaps m)).lt q e).1)
  refine ⟨⟨(h.own.del hk hv hg hb).far hf, ?_, h.ge, hf⟩, hbel.setCell h.ge _, fun q hq hD _ hm => (Below.heap_setCell W' ⟨D, 4, none⟩ v q hD).trans (hg.block q hq (fun e => hm .snaps (Live.snaps m) e.symm)), fun q _ _ hm => hval q hm⟩
  have hbox := (hg.block D h.lt (fun e => h.far .snaps (Live.snaps m) e.symm)).trans h.box
  exact cells_set hbox 4 v
end Go.Proofs.Ytehleeibgkpjmae
/- slices.Insert of one snapshot into a row of snapshots that is one's own. -/
namespace Go.Proofs.Ytehleeibgkpjmae
open Go.RowKit Go.Shelf Go.Lib
set_option maxRecDepth 20000
set_option linter.unusedVariables false
set_option linter.unusedSimpArgs false

theorem run_copy3 (w : World) (dT sT ty elem : TypeId) (g o dLen dCap : Nat) (a : Addr) (sLen sCap : Nat) (cur : Array Value) (t : TypeId) (cs : List Value)
    (hu : Try.prog.underlying dT = some (.slice elem)) (hs : (Try.prog.info? elem).map (·.size) = some 3)
    (hg : w.heap[g]? = some (.cells cur t (0, 0))) (hn : cs.length = Nat.min sLen dLen * 3)
    (hsrc : ∀ j v, cs[j]? = some v → w.cell? (a.add j) = some v) (hfit : o + cs.length ≤ cur.size) (h1 : ∀ v ∈ cs, v.oneCell' = true) :
    (Builtin.copy_ #[dT, sT] ty #[.slice (some ⟨g, o, none⟩) dLen dCap, .slice (some a) sLen sCap]).run Try.prog w =
      .ok (goInt (Nat.min sLen dLen)) (w.setRow g (cur.toList.take o ++ cs ++ cur.toList.drop (o + cs.length)).toArray) := by
  have hl := run_loadCells_list (P := Try.prog) w a cs hsrc
  have hst := run_storeCells_at Try.prog g o t cs 0 cur w hg (by simpa using hfit) h1
  cases hq : Try.prog.info? elem with
  | none => simp [hq] at hs
  | some i =>
    have hi : i.size = 3 := by simpa [hq] using hs
    simp [Builtin.copy_, run_underlying hu, Builtin.lenOf, Builtin.firstCells, sizeOf, typeInfo, hq, hi, ← hn, hl, hst]

theorem infoSnap3 : (Try.prog.info? 64).map (·.size) = some 3 := by kernel_rfl

def shL (cur : List Value) (n i : Nat) : List Value := cur.take ((i + 1) * 3) ++ (cur.take (n * 3)).drop (i * 3) ++ cur.drop ((i + 1) * 3 + ((cur.take (n * 3)).drop (i * 3)).length)
def inL (L : List Value) (i : Nat) (x : List Value) : List Value := L.take (i * 3) ++ x ++ L.drop (i * 3 + x.length)
theorem shL_length {cur : List Value} {n i c : Nat} (hi : i < n) (hc : n + 1 ≤ c) (h : cur.length = c * 3) : (shL cur n i).length = c * 3 := by
  unfold shL; simp only [List.length_append, List.length_take, List.length_drop, h]; omega
theorem inL_length {L x : List Value} {i c : Nat} (hi : i < c) (h : L.length = c * 3) (hx : x.length = 3) : (inL L i x).length = c * 3 := by
  unfold inL; simp only [List.length_append, List.length_take, List.length_drop, h, hx]; omega
theorem in_sh {cur x : List Value} {n i c : Nat} (hi : i < n) (hc : n + 1 ≤ c) (h : cur.length = c * 3) (hx : x.length = 3) : (inL (shL cur n i) i x).take ((n + 1) * 3) = (cur.take (n * 3)).take (i * 3) ++ x ++ (cur.take (n * 3)).drop (i * 3) := by
  have hl : ((cur.take (n * 3)).drop (i * 3)).length = (n - i) * 3 := by simp only [List.length_take, List.length_drop, h]; omega
  apply List.ext_getElem?
  intro j
  unfold inL shL
  rw [hl]
  simp only [List.getElem?_take, List.getElem?_append, List.getElem?_drop, List.length_append, List.length_take, List.length_drop, h, hx]
  repeat' split
  all_goals first | rfl | omega | (congr 1; omega) | (exfalso; omega) | (rw [List.getElem?_eq_none (by omega)])
set_option maxHeartbeats 4000000 in
theorem ins_shift (g n c i N : Nat) (cur : Array Value) (x0 x1 x2 : Value) (w : World) (hi : i < n) (hroom : n + 1 ≤ c) (hc : c ≤ 9223372036854775807) (hNg : N ≠ g)
    (hg : w.heap[g]? = some (.cells cur 64)) (hsz : cur.size = c * 3) (hN : w.heap[N]? = some (.cells #[x0, x1, x2] 64)) (h1 : ∀ u ∈ cur.toList.take (n * 3), u.oneCell' = true) (h1x : ∀ u ∈ [x0, x1, x2], u.oneCell' = true) :
    Calls Try.prog 34 #[.slice (some ⟨g, 0, none⟩) n c, .int .i64 i, .slice (some ⟨N, 0, none⟩) 1 1] w fun r w' => r = .returned (.slice (some ⟨g, 0, none⟩) (n + 1) c) ∧ w'.heap[g]? = some (.cells (inL (shL cur.toList n i) i [x0, x1, x2]).toArray 64) ∧ w.grownBy w' (some g) := by
  have hz2 : ¬ ((i : Int) = (n : Int)) := by omega
  have hw1 : IntKind.i64.wrap ((i : Int) + 1) = (i : Int) + 1 := by rw [IntKind.wrap_i64]; omega
  have hb1 : (0 : Int) ≤ (i : Int) + 1 := by omega
  have hin : i ≤ n := by omega
  have htn : ((i : Int) + 1).toNat = i + 1 := by omega
  have hb2 : ¬ (c = i + 1) := by omega
  have hb3 : (i : Int) ≤ (n : Int) + 1 := by omega
  have hb4 : ¬ (c = i) := by omega
  have hz3 : ¬ ((c : Int) < (n : Int) + 1) := by omega
  have hov : ∀ lb cb, (callFunc 71 #[.slice (some ⟨N, 0, none⟩) 1 1, .slice (some ⟨g, (i + 1) * 3, none⟩) lb cb]).run Try.prog w = .ok (.value (.bool false)) w := fun lb cb => by
    rw [run_callFunc_extern Try.func71 (by kernel_rfl) (by kernel_rfl) (by kernel_rfl) (e := Extern.SlicesOverlaps.overlaps #[24, 24] #[4]) (by kernel_rfl),
      Lib.run_overlaps_apart w 24 4 64 (by kernel_rfl) 3 (fun w => by kernel_rfl) ⟨N, 0, none⟩ ⟨g, (i + 1) * 3, none⟩ 1 1 lb cb hNg 64 64 3 (c * 3) (by simp [World.shape?, hN]) (by simp [World.shape?, hg, hsz]) (by omega) (by simp [World.frozen?, hN]) (by simp [World.frozen?, hN])]
    rfl
  have hcp1 : ∀ ty dc sc, (Builtin.copy_ #[24, 24] ty #[.slice (some ⟨g, (i + 1) * 3, none⟩) (n - i) dc, .slice (some ⟨g, i * 3, none⟩) (n + 1 - i) sc]).run Try.prog w.drew = .ok (goInt (Nat.min (n + 1 - i) (n - i))) (w.drew.setRow g (shL cur.toList n i).toArray) := fun ty dc sc =>
    run_copy3 w.drew 24 24 ty 64 g ((i + 1) * 3) (n - i) dc ⟨g, i * 3, none⟩ (n + 1 - i) sc cur 64 ((cur.toList.take (n * 3)).drop (i * 3)) (by kernel_rfl) infoSnap3 hg (by simp only [List.length_take, List.length_drop, Array.length_toList, hsz]; simp only [Nat.min_def]; split <;> split <;> omega)
      (fun j v hj => by
        rw [Addr.add_lit]
        rw [List.getElem?_drop, List.getElem?_take] at hj
        split at hj
        · simp only [World.cell?, World.drew]
          rw [hg]
          simpa using hj
        · cases hj)
      (by simp only [List.length_take, List.length_drop, Array.length_toList, hsz]; omega) (fun u hu => h1 u (List.mem_of_mem_drop hu))
  have hW1 : (w.drew.setRow g (shL cur.toList n i).toArray).heap[g]? = some (.cells (shL cur.toList n i).toArray 64) := setRow_heap w.drew g cur _ 64 (0, 0) hg
  have hN1 : (w.drew.setRow g (shL cur.toList n i).toArray).heap[N]? = some (.cells #[x0, x1, x2] 64) := (setRow_other w.drew g N _ hNg).trans hN
  obtain ⟨W1, eW1⟩ : ∃ W1, w.drew.setRow g (shL cur.toList n i).toArray = W1 := ⟨_, rfl⟩
  rw [eW1] at hcp1 hW1 hN1
  have hcp2 : ∀ ty dc, (Builtin.copy_ #[24, 24] ty #[.slice (some ⟨g, i * 3, none⟩) (n + 1 - i) dc, .slice (some ⟨N, 0, none⟩) 1 1]).run Try.prog W1 = .ok (goInt (Nat.min 1 (n + 1 - i))) (W1.setRow g (inL (shL cur.toList n i) i [x0, x1, x2]).toArray) := fun ty dc => by
    have := run_copy3 W1 24 24 ty 64 g (i * 3) (n + 1 - i) dc ⟨N, 0, none⟩ 1 1 (shL cur.toList n i).toArray 64 [x0, x1, x2] (by kernel_rfl) infoSnap3 hW1 (by simp only [List.length_cons, List.length_nil, Nat.min_def]; split <;> omega)
      (fun j v hj => by
        rw [Addr.add_lit]
        simp only [World.cell?]
        rw [hN1]
        simpa using hj)
      (by simp only [List.size_toArray, shL_length hi hroom (show cur.toList.length = c * 3 by rw [Array.length_toList]; exact hsz), List.length_cons, List.length_nil]; omega) h1x
    simpa [inL] using this
  have HH : Hid (w.heap[g]? = some (.cells cur 64) ∧ w.heap[N]? = some (.cells #[x0, x1, x2] 64)) := ⟨hg, hN⟩
  clear hg hN
  have mixed : Try.prog.follows Departure.mixedOrders = true := by kernel_rfl
  go_enter Try.func34, Try.ntmps34
  go_wp2_with (simp only [hov])
  go_region_law_o (refine step_copy_runI rfl _ _ 24 24 rfl _ _ (by simp [Act.eval, Act.put]) (by simp [Act.eval, Act.put]) (hcp1 _ _ _) ?_)
  go_wp2_with (at_builtin; refine wpList_copy_runI _ rfl _ _ 24 24 rfl _ _ rfl rfl (hcp2 _ _) ?_)
  go_ret
  refine ⟨rfl, ?_, ?_⟩
  · exact setRow_heap W1 g _ _ 64 (0, 0) hW1
  · subst eW1
    exact ⟨rfl, rfl, rfl, by simp, fun k _ hk => (setRow_other _ g k _ (fun e => hk (by rw [e]))).trans (setRow_other _ g k _ (fun e => hk (by rw [e])))⟩

def zSnap : Value := .agg #[.string ByteArray.empty, .int .i64 0, .slice none 0 0]
def grL (L xs : List Value) (i : Nat) : List Value := L.take ((i + 1) * 3) ++ xs.drop (i * 3) ++ L.drop ((i + 1) * 3 + (xs.drop (i * 3)).length)
theorem grL_length {L xs : List Value} {n i c : Nat} (hi : i < n) (hc : n + 1 ≤ c) (h : L.length = c * 3) (hx : xs.length = n * 3) : (grL L xs i).length = c * 3 := by
  unfold grL; simp only [List.length_append, List.length_take, List.length_drop, h, hx]; omega
theorem in_gr {xs x Z : List Value} {n i c : Nat} (hi : i < n) (hc : n + 1 ≤ c) (h : xs.length = n * 3) (hZ : i * 3 + Z.length = c * 3) (hx : x.length = 3) : (grL (inL (xs.take (i * 3) ++ Z) i x) xs i).take ((n + 1) * 3) = xs.take (i * 3) ++ x ++ xs.drop (i * 3) := by
  have hl : (xs.drop (i * 3)).length = (n - i) * 3 := by simp only [List.length_drop, h]; omega
  apply List.ext_getElem?
  intro j
  unfold grL inL
  rw [hl]
  simp only [List.getElem?_take, List.getElem?_append, List.getElem?_drop, List.length_append, List.length_take, List.length_drop, h, hx]
  repeat' split
  all_goals first | rfl | omega | (congr 1; omega) | (exfalso; omega) | (rw [List.getElem?_eq_none (by omega)])
set_option maxHeartbeats 4000000 in
theorem ins_grow (g n i N : Nat) (cur : Array Value) (x0 x1 x2 : Value) (w : World) (hi : i < n) (hn2 : n ≤ 1000)
    (hg : w.heap[g]? = some (.cells cur 64)) (hsz : cur.size = n * 3) (hN : w.heap[N]? = some (.cells #[x0, x1, x2] 64)) (h1 : ∀ u ∈ cur.toList, u.oneCell' = true) (h1x : ∀ u ∈ [x0, x1, x2], u.oneCell' = true) :
    Calls Try.prog 34 #[.slice (some ⟨g, 0, none⟩) n n, .int .i64 i, .slice (some ⟨N, 0, none⟩) 1 1] w fun r w' => ∃ G Z, n + 1 ≤ G ∧ G ≤ maxLen ∧ i * 3 + Z.length = G * 3 ∧ r = .returned (.slice (some ⟨w.heap.size, 0, none⟩) (n + 1) G) ∧ w'.heap[w.heap.size]? = some (.cells (grL (inL (cur.toList.take (i * 3) ++ Z) i [x0, x1, x2]) cur.toList i).toArray 64) ∧ w.grownBy w' none := by
  have hz2 : ¬ ((i : Int) = (n : Int)) := by omega
  have hw1 : IntKind.i64.wrap ((i : Int) + 1) = (i : Int) + 1 := by rw [IntKind.wrap_i64]; omega
  have hb1 : (0 : Int) ≤ (i : Int) + 1 := by omega
  have hin : i ≤ n := by omega
  have htn : ((i : Int) + 1).toNat = i + 1 := by omega
  have hb3 : (i : Int) ≤ (n : Int) := by omega
  have hb5 : (i : Int) ≤ (n : Int) + 1 := by omega
  have hb4 : ¬ (n = i) := by omega
  have hz3 : (n : Int) < (n : Int) + 1 := by omega
  have hgw : g < w.heap.size := (Array.getElem?_eq_some_iff.1 hg).1
  have hNw : N < w.heap.size := (Array.getElem?_eq_some_iff.1 hN).1
  obtain ⟨i0, hi0, hz0, hzs, hzb⟩ := info_parts infoSnap
  have hkk : (n : Int) + 1 - (i : Int) = ((n + 1 - i : Nat) : Int) := by omega
  have hik : i + (n + 1 - i) = n + 1 := by omega
  have hold : (Builtin.firstCells i0.size i (.slice (some ⟨g, 0, none⟩) i n)).run Try.prog w.drew = .ok (cur.toList.take (i * 3)).toArray w.drew := by
    rw [hzs]
    exact run_firstCells_some w.drew 3 i ⟨g, 0, none⟩ i n (cur.toList.take (i * 3)) (by rw [List.length_take, Array.length_toList]; omega) (fun j v hj => by
      rw [Addr.add_lit]
      rw [List.getElem?_take] at hj
      split at hj
      · simp only [World.cell?, World.drew]
        rw [hg]
        simpa using hj
      · cases hj)
  have hrz : ∀ ty, (Builtin.append_ #[24, 3] ty #[.slice (some ⟨g, 0, none⟩) i n, .int .i64 ((n : Int) + 1 - (i : Int))]).run Try.prog w =
      .ok (.slice (some ⟨w.heap.size, 0, none⟩) (n + 1) (grownCap w (n + 1) n 64)) (w.drew.alloc (.cells ((cur.toList.take (i * 3)).toArray ++ Builtin.zeroCells zSnap.cells (n + 1 - i) ++ Builtin.zeroCells zSnap.cells (grownCap w (n + 1) n 64 - (n + 1))) 64)) := fun ty => by
    have h := Lib.run_append_grow_zeros w 24 3 ty 64 i0 zSnap .i64 .i64 (by kernel_rfl) (by kernel_rfl) hi0 hz0 (some ⟨g, 0, none⟩) i n (cur.toList.take (i * 3)) hold (n + 1 - i) (by omega) (by omega) (by omega) (by omega) (by rw [hzb]; omega) (by rw [hzb, hik]; exact growslice_fits (by omega) (by omega))
    rw [hik] at h
    rw [hkk]
    exact h
  have hGn : n + 1 ≤ grownCap w (n + 1) n 64 := grownCap_ge w _ _ _
  have hGm : grownCap w (n + 1) n 64 ≤ maxLen := grownCap_le_maxLen w _ _ _ (by unfold maxLen; omega)
  obtain ⟨G, hG⟩ : ∃ G, grownCap w (n + 1) n 64 = G := ⟨_, rfl⟩
  rw [hG] at hrz hGn hGm
  have hG63 : G ≤ 9223372036854775807 := by unfold maxLen at hGm; omega
  obtain ⟨Z, hZ⟩ : ∃ Z : List Value, (Builtin.zeroCells zSnap.cells (n + 1 - i) ++ Builtin.zeroCells zSnap.cells (G - (n + 1))).toList = Z := ⟨_, rfl⟩
  have hZl : i * 3 + Z.length = G * 3 := by
    rw [← hZ, Array.length_toList, Array.size_append, size_zeroCells, size_zeroCells, show zSnap.cells.size = 3 by rfl]; omega
  have hR : (cur.toList.take (i * 3)).toArray ++ Builtin.zeroCells zSnap.cells (n + 1 - i) ++ Builtin.zeroCells zSnap.cells (G - (n + 1)) = (cur.toList.take (i * 3) ++ Z).toArray := by
    rw [← hZ]; apply Array.toList_inj.1; simp
  rw [hR] at hrz
  have hLl : (cur.toList.take (i * 3) ++ Z).length = G * 3 := by rw [List.length_append, List.length_take, Array.length_toList]; omega
  obtain ⟨L0, hL0⟩ : ∃ L0, cur.toList.take (i * 3) ++ Z = L0 := ⟨_, rfl⟩
  rw [hL0] at hrz hLl
  obtain ⟨W1, eW1⟩ : ∃ W1, w.drew.alloc (.cells L0.toArray 64) = W1 := ⟨_, rfl⟩
  have hW1 : W1.heap[w.heap.size]? = some (.cells L0.toArray 64) := by rw [← eW1]; exact World.alloc_heap_new w.drew _
  have hold1 : ∀ k, k < w.heap.size → W1.heap[k]? = w.heap[k]? := fun k hk => by
    rw [← eW1]; exact ((Below.refl w.drew.heap.size w.drew).alloc (Nat.le_refl _) (.cells L0.toArray 64)).block k hk
  rw [eW1] at hrz
  have hN1 := (hold1 N hNw).trans hN
  have hcp2 : ∀ ty dc, (Builtin.copy_ #[24, 24] ty #[.slice (some ⟨w.heap.size, i * 3, none⟩) (n + 1 - i) dc, .slice (some ⟨N, 0, none⟩) 1 1]).run Try.prog W1 = .ok (goInt (Nat.min 1 (n + 1 - i))) (W1.setRow w.heap.size (inL L0 i [x0, x1, x2]).toArray) := fun ty dc => by
    have := run_copy3 W1 24 24 ty 64 w.heap.size (i * 3) (n + 1 - i) dc ⟨N, 0, none⟩ 1 1 L0.toArray 64 [x0, x1, x2] (by kernel_rfl) infoSnap3 hW1 (by simp only [List.length_cons, List.length_nil, Nat.min_def]; split <;> omega)
      (fun j v hj => by
        rw [Addr.add_lit]
        simp only [World.cell?]
        rw [hN1]
        simpa using hj)
      (by simp only [List.size_toArray, hLl, List.length_cons, List.length_nil]; omega) h1x
    simpa [inL] using this
  obtain ⟨W2, eW2⟩ : ∃ W2, W1.setRow w.heap.size (inL L0 i [x0, x1, x2]).toArray = W2 := ⟨_, rfl⟩
  have hW2 : W2.heap[w.heap.size]? = some (.cells (inL L0 i [x0, x1, x2]).toArray 64) := by rw [← eW2]; exact setRow_heap W1 _ _ _ 64 (0, 0) hW1
  have hold2 : ∀ k, k < w.heap.size → W2.heap[k]? = w.heap[k]? := fun k hk => by
    rw [← eW2]; exact (setRow_other W1 _ k _ (by omega)).trans (hold1 k hk)
  rw [eW2] at hcp2
  have hg2 := (hold2 g hgw).trans hg
  have hil : (inL L0 i [x0, x1, x2]).length = G * 3 := inL_length (by omega) hLl rfl
  have hcp1 : ∀ ty dc sc, (Builtin.copy_ #[24, 24] ty #[.slice (some ⟨w.heap.size, (i + 1) * 3, none⟩) (n - i) dc, .slice (some ⟨g, i * 3, none⟩) (n - i) sc]).run Try.prog W2.drew = .ok (goInt (Nat.min (n - i) (n - i))) (W2.drew.setRow w.heap.size (grL (inL L0 i [x0, x1, x2]) cur.toList i).toArray) := fun ty dc sc =>
    run_copy3 W2.drew 24 24 ty 64 w.heap.size ((i + 1) * 3) (n - i) dc ⟨g, i * 3, none⟩ (n - i) sc (inL L0 i [x0, x1, x2]).toArray 64 (cur.toList.drop (i * 3)) (by kernel_rfl) infoSnap3 hW2 (by simp only [List.length_drop, Array.length_toList, hsz]; simp only [Nat.min_def]; split <;> omega)
      (fun j v hj => by
        rw [Addr.add_lit]
        rw [List.getElem?_drop] at hj
        simp only [World.cell?, World.drew]
        rw [hg2]
        simpa using hj)
      (by simp only [List.length_drop, Array.length_toList, hsz, List.size_toArray, hil]; omega) (fun u hu => h1 u (List.mem_of_mem_drop hu))
  have hend : W2.drew.heap[w.heap.size]? = some (.cells (inL L0 i [x0, x1, x2]).toArray 64) := hW2
  have hGi : ¬ (G = i) := by omega
  have hGim : ¬ (G = i + 1) := by omega
  have HE : Hid (i * 3 + Z.length = G * 3 ∧ cur.toList.take (i * 3) ++ Z = L0 ∧ n + 1 ≤ G ∧ G ≤ maxLen) := ⟨hZl, hL0, hGn, hGm⟩
  have HG : Hid (w.grownBy W2 none) := by
    refine ⟨?_, ?_, ?_, ?_, fun k hk _ => hold2 k hk⟩ <;> rw [← eW2, ← eW1]
    · rfl
    · rfl
    · rfl
    · simp
  clear hg hN hkk hik hold hG hR hZ hZl hL0 hGm hW1 hold1 hN1 hW2 hold2 hg2 hil hLl h1 h1x hsz hi0 hz0 hzs hzb eW1 eW2
  have mixed : Try.prog.follows Departure.mixedOrders = true := by kernel_rfl
  go_enter Try.func34, Try.ntmps34
  go_wp2_with (first
    | (at_builtin; refine Lib.wpList_append_run _ rfl _ _ _ _ rfl _ _ rfl rfl _ _ (hrz _) ?_)
    | (at_builtin; refine wpList_copy_runI _ rfl _ _ 24 24 rfl _ _ rfl rfl (hcp2 _ _) ?_))
  go_region_law_o (refine step_copy_runI rfl _ _ 24 24 rfl _ _ (by simp [Act.eval, Act.put]) (by simp [Act.eval, Act.put]) (hcp1 _ _ _) ?_)
  go_wp2
  go_ret
  refine ⟨G, Z, HE.out.2.2.1, HE.out.2.2.2, HE.out.1, rfl, ?_, ?_⟩
  · rw [HE.out.2.1]; exact setRow_heap W2.drew _ _ _ 64 (0, 0) hend
  · exact ⟨HG.out.os, HG.out.tape, HG.out.output, by simpa using HG.out.size, fun k hk _ => (setRow_other W2.drew _ k _ (by omega)).trans (HG.out.block k hk (by simp))⟩

set_option maxHeartbeats 4000000 in
theorem ins_end (B n N : Nat) (v : Value) (xs : List Value) (x0 x1 x2 : Value) (w : World) (hB : B ≤ w.heap.size) (hn2 : n ≤ 1000)
    (h : w.ownsRow B 64 3 v n xs) (hN : w.heap[N]? = some (.cells #[x0, x1, x2] 64)) (hNv : v.ownBlock ≠ some N) (h1x : ∀ u ∈ [x0, x1, x2], u.oneCell' = true) :
    Calls Try.prog 34 #[v, .int .i64 n, .slice (some ⟨N, 0, none⟩) 1 1] w fun r w' => ∃ v', r = .returned v' ∧ w'.ownsRow B 64 3 v' (n + 1) (xs ++ [x0, x1, x2]) ∧ w.grownBy w' v.ownBlock ∧ (v'.ownBlock = v.ownBlock ∨ v'.ownBlock = some w.heap.size) := by
  obtain ⟨i0, hi0, hz0, hzs, hzb⟩ := info_parts infoSnap
  have hrun : ∀ ty, ∃ v' w', (Builtin.append_ #[24, 24] ty #[v, .slice (some ⟨N, 0, none⟩) 1 1]).run Try.prog w = .ok v' w' ∧ w'.ownsRow B 64 3 v' (n + 1) (xs ++ [x0, x1, x2]) ∧ w.grownBy w' v.ownBlock ∧ (v'.ownBlock = v.ownBlock ∨ v'.ownBlock = some w.heap.size) := fun ty => by
    obtain ⟨v', w', hr, g2, g3, _, g5⟩ := run_append_own_at (P := Try.prog) w B 24 ty 64 i0 _ 3 48 (by kernel_rfl) hi0 hz0 hzs hzb (by rfl) (by decide) v n xs h ⟨N, 0, none⟩ 1 1 [x0, x1, x2] rfl (fun j u hj => by
      rw [Addr.add_lit]
      simp only [World.cell?]
      rw [hN]
      simpa using hj) h1x (by unfold maxLen; omega) (by omega) hB
    exact ⟨v', w', hr, g2, g3, g5⟩
  obtain ⟨v', w', hr, k1, k2, k3⟩ := hrun 24
  have HK : Hid (w'.ownsRow B 64 3 v' (n + 1) (xs ++ [x0, x1, x2]) ∧ w.grownBy w' v.ownBlock ∧ (v'.ownBlock = v.ownBlock ∨ v'.ownBlock = some w.heap.size)) := ⟨k1, k2, k3⟩
  rcases row_form h with ⟨e1, e2⟩ | ⟨g, c, e1, hgB, e2⟩
  · subst e1 e2
    clear h hN h1x hrun k1 k2 k3
    go_enter Try.func34, Try.ntmps34
    go_wp2_with (at_builtin; refine Lib.wpList_append_run _ rfl _ _ _ _ rfl _ _ rfl rfl _ _ hr ?_)
    go_ret
    exact ⟨v', rfl, HK.out⟩
  · have hnc : n ≤ c := by
      rcases h.2 with ⟨rfl, _⟩ | ⟨g', c', cur, e, _, _, hh, _⟩
      · cases e1
      · rw [e1] at e; cases e; exact hh
    subst e1
    clear h hN h1x hrun k1 k2 k3
    go_enter Try.func34, Try.ntmps34
    go_wp2_with (at_builtin; refine Lib.wpList_append_run _ rfl _ _ _ _ rfl _ _ rfl rfl _ _ hr ?_)
    all_goals (go_ret; exact ⟨v', rfl, HK.out⟩)

theorem insert_is (B n i N : Nat) (v : Value) (xs : List Value) (x0 x1 x2 : Value) (w : World) (hB : B ≤ w.heap.size) (hn2 : n ≤ 1000) (hi : i ≤ n)
    (h : w.ownsRow B 64 3 v n xs) (h1 : ∀ u ∈ xs, u.oneCell' = true) (hN : w.heap[N]? = some (.cells #[x0, x1, x2] 64)) (hNv : v.ownBlock ≠ some N) (h1x : ∀ u ∈ [x0, x1, x2], u.oneCell' = true) :
    Calls Try.prog 34 #[v, .int .i64 i, .slice (some ⟨N, 0, none⟩) 1 1] w fun r w' => ∃ v', r = .returned v' ∧ w'.ownsRow B 64 3 v' (n + 1) (xs.take (i * 3) ++ [x0, x1, x2] ++ xs.drop (i * 3)) ∧ w.grownBy w' v.ownBlock ∧ (v'.ownBlock = v.ownBlock ∨ v'.ownBlock = some w.heap.size) := by
  have hl := h.1
  rcases Nat.lt_or_ge i n with hin | hin
  · rcases h.2 with ⟨_, e⟩ | ⟨g, c, cur, rfl, hgB, hg, hnc, hcm, hsz, htk⟩
    · omega
    · have hNg : N ≠ g := fun e => hNv (by rw [e]; rfl)
      have hcl : cur.toList.length = c * 3 := by rw [Array.length_toList]; exact hsz
      rcases Nat.lt_or_ge c (n + 1) with hc | hc
      · have e : c = n := by omega
        subst e
        have hxs : cur.toList = xs := by rw [← htk, List.take_of_length_le (by omega)]
        refine (ins_grow g c i N cur x0 x1 x2 w hin hn2 hg hsz hN (by rw [hxs]; exact h1) h1x).mono ?_
        rintro r w' ⟨G, Z, g1, g2, g3, rfl, g4, g5⟩
        rw [hxs] at g4
        refine ⟨_, rfl, ⟨?_, .inr ⟨w.heap.size, G, _, rfl, hB, g4, g1, g2, ?_, ?_⟩⟩, ⟨g5.os, g5.tape, g5.output, g5.size, fun k hk _ => g5.block k hk (by simp)⟩, .inr rfl⟩
        · simp only [List.length_append, List.length_take, List.length_drop, List.length_cons, List.length_nil, hl]; omega
        · rw [List.size_toArray]
          exact grL_length hin g1 (inL_length (by omega) (by rw [List.length_append, List.length_take, hl]; omega) rfl) hl
        · rw [List.toList_toArray]
          exact in_gr hin g1 hl g3 rfl
      · refine (ins_shift g n c i N cur x0 x1 x2 w hin hc (by unfold maxLen at hcm; omega) hNg hg hsz hN (by rw [htk]; exact h1) h1x).mono ?_
        rintro r w' ⟨rfl, g4, g5⟩
        refine ⟨_, rfl, ⟨?_, .inr ⟨g, c, _, rfl, hgB, g4, hc, hcm, ?_, ?_⟩⟩, g5, .inl rfl⟩
        · simp only [List.length_append, List.length_take, List.length_drop, List.length_cons, List.length_nil, hl]; omega
        · rw [List.size_toArray]
          exact inL_length (by omega) (shL_length hin hc hcl) rfl
        · rw [List.toList_toArray, ← htk]
          exact in_sh hin hc hcl rfl
  · have e : i = n := by omega
    subst e
    rw [List.take_of_length_le (by omega), List.drop_of_length_le (by omega), List.append_nil]
    exact ins_end B i N v xs x0 x1 x2 w hB hn2 h hN hNv h1x
end Go.Proofs.Ytehleeibgkpjmae
/- slices.Delete of one snapshot out of a row of snapshots that is one's own. -/
namespace Go.Proofs.Ytehleeibgkpjmae
open Go.RowKit Go.Shelf Go.Lib
set_option maxRecDepth 20000
set_option linter.unusedVariables false
set_option linter.unusedSimpArgs false

theorem run_app3 (w : World) (ty : TypeId) (g n c : Nat) (a : Addr) (m mc : Nat) (cur : Array Value) (t : TypeId) (cs : List Value)
    (hg : w.heap[g]? = some (.cells cur t (0, 0))) (hn : cs.length = m * 3) (hroom : n + m ≤ c)
    (hsrc : ∀ j v, cs[j]? = some v → w.cell? (a.add j) = some v) (hfit : n * 3 + cs.length ≤ cur.size) (h1 : ∀ v ∈ cs, v.oneCell' = true) :
    (Builtin.append_ #[24, 24] ty #[.slice (some ⟨g, 0, none⟩) n c, .slice (some a) m mc]).run Try.prog w =
      .ok (.slice (some ⟨g, 0, none⟩) (n + m) c) (w.setRow g (cur.toList.take (n * 3) ++ cs ++ cur.toList.drop (n * 3 + cs.length)).toArray) := by
  have hl := run_loadCells_list (P := Try.prog) w a cs hsrc
  have hst := run_storeCells_at Try.prog g (n * 3) t cs 0 cur w hg (by simpa using hfit) h1
  have hu : Try.prog.underlying 24 = some (.slice 64) := by kernel_rfl
  have hadd : (⟨g, 0, none⟩ : Addr).add (n * 3) = ⟨g, n * 3, none⟩ := by rw [Addr.add_lit, Nat.zero_add]
  cases hq : Try.prog.info? 64 with
  | none => have := infoSnap3; simp [hq] at this
  | some i =>
    have hi : i.size = 3 := by have := infoSnap3; simpa [hq] using this
    simp [Builtin.append_, run_underlying hu, Builtin.lenOf, Builtin.firstCells, sizeOf, typeInfo, hq, hi, ← hn, hl, hroom, hadd, hst]
theorem wp_app_run {o : Oper} {a : Act} {w : World} {K : Act → World → Prop} {Q : Exit → Act → World → Prop} (s x : Operand) (t t' : TypeId) (ho : o.op = .call { callee := .builtin .append, args := #[s, x], argTypes := #[t, t'] })
    (v u : Value) (hs : a.eval s = v) (hx : a.eval x = u) {v' : Value} {w' : World} (hr : (Builtin.append_ #[t, t'] o.type #[v, u]).run Try.prog w = .ok v' w') (h : K (a.put o.dst v') w') : o.wp Try.prog a w K Q := by
  unfold Oper.wp execOp
  simp only [ho, resolve, invoke, builtin, Sem.run_bind, Sem.run_pure, Result.andThen_ok, List.map_toArray, List.map_cons, List.map_nil, hs, hx, hr]
  exact h
theorem step_app_run {ops : Array Oper} {o : Oper} {a : Act} {w : World} {K : Act → World → Prop} {Q : Exit → Act → World → Prop} {E : Prop} (hgd : o.guard = none) (s x : Operand) (t t' : TypeId) (ho : o.op = .call { callee := .builtin .append, args := #[s, x], argTypes := #[t, t'] })
    (v u : Value) (hs : a.eval s = v) (hx : a.eval x = u) {v' : Value} {w' : World} (hr : (Builtin.append_ #[t, t'] o.type #[v, u]).run Try.prog w = .ok v' w') (h : K (a.put o.dst v') w') : if Region.wanted o (yielded ops a.tmps) = true then Oper.wp Try.prog o a w K Q else E := by
  have hw : Region.wanted o (yielded ops a.tmps) = true := by simp [Region.wanted, hgd]
  rw [if_pos hw]
  exact wp_app_run s x t t' ho v u hs hx hr h
theorem wpList_clear_run {w : World} {ops : Array Oper} {rest : List Oper} {o : Oper} {a : Act} {Q : Exit → Act → World → Prop} (hgd : o.guard = none) (s : Operand) (t : TypeId) (ho : o.op = .call { callee := .builtin .clear, args := #[s], argTypes := #[t] })
    (v : Value) (hs : a.eval s = v) {v' : Value} {w' : World} (hr : (Builtin.clear_ #[t] o.type #[v]).run Try.prog w = .ok v' w') (h : wpList Try.prog ops Q rest (a.put o.dst v') w') : wpList Try.prog ops Q (o :: rest) a w :=
  wpList_plain hgd fun _ hK => by
    unfold Oper.wp execOp
    simp only [ho, resolve, invoke, builtin, Sem.run_bind, Sem.run_pure, Result.andThen_ok, List.map_toArray, List.map_cons, List.map_nil, hs, hr]
    exact hK _ _ h
def zList : List Value := [.string ByteArray.empty, .int .i64 0, .slice none 0 0]
def inLo (L : List Value) (o : Nat) (x : List Value) : List Value := L.take o ++ x ++ L.drop (o + x.length)
theorem run_clear3 (w : World) (ty : TypeId) (g o c : Nat) (cur : Array Value) (t : TypeId) (hg : w.heap[g]? = some (.cells cur t (0, 0))) (hfit : o + 3 ≤ cur.size) :
    (Builtin.clear_ #[24] ty #[.slice (some ⟨g, o, none⟩) 1 c]).run Try.prog w = .ok (.tuple #[]) (w.setRow g (inLo cur.toList o zList).toArray) := by
  have hst := run_storeCells_at Try.prog g o t zList 0 cur w hg (by simpa [zList] using hfit) (by intro v hv; simp [zList] at hv; rcases hv with rfl | rfl | rfl <;> rfl)
  have hu : Try.prog.underlying 24 = some (.slice 64) := by kernel_rfl
  have hz : ∀ w, (zeroValue 64).run Try.prog w = .ok zSnap w := fun w => by kernel_rfl
  have hzc : (Builtin.zeroCells zSnap.cells 1).toList = zList := by
    have e : List.range 3 = [0, 1, 2] := by decide
    first
      | kernel_rfl
      | simp [Builtin.zeroCells, zSnap, Value.cells, zList, e]
  simp [Builtin.clear_, run_underlying hu, hz, hzc, hst, inLo]

def deL (cur : List Value) (n i : Nat) : List Value := cur.take (i * 3) ++ (cur.take (n * 3)).drop ((i + 1) * 3) ++ cur.drop (i * 3 + ((cur.take (n * 3)).drop ((i + 1) * 3)).length)
theorem deL_length {cur : List Value} {n i c : Nat} (hi : i < n) (hc : n ≤ c) (h : cur.length = c * 3) : (deL cur n i).length = c * 3 := by
  unfold deL; simp only [List.length_append, List.length_take, List.length_drop, h]; omega
theorem inLo_length {L x : List Value} {o k : Nat} (h : L.length = k) (ho : o + x.length ≤ k) : (inLo L o x).length = k := by
  unfold inLo; simp only [List.length_append, List.length_take, List.length_drop, h]; omega
theorem in_de {cur x : List Value} {n i c : Nat} (hi : i < n) (hc : n ≤ c) (h : cur.length = c * 3) (hx : x.length = 3) : (inLo (deL cur n i) ((n - 1) * 3) x).take ((n - 1) * 3) = (cur.take (n * 3)).take (i * 3) ++ (cur.take (n * 3)).drop ((i + 1) * 3) := by
  have hl : ((cur.take (n * 3)).drop ((i + 1) * 3)).length = (n - 1 - i) * 3 := by simp only [List.length_take, List.length_drop, h]; omega
  apply List.ext_getElem?
  intro j
  unfold inLo deL
  rw [hl]
  simp only [List.getElem?_take, List.getElem?_append, List.getElem?_drop, List.length_append, List.length_take, List.length_drop, h, hx]
  repeat' split
  all_goals first | rfl | omega | (congr 1; omega) | (exfalso; omega) | (rw [List.getElem?_eq_none (by omega)])
set_option maxHeartbeats 4000000 in
theorem del_at (g n c i : Nat) (cur : Array Value) (w : World) (hi : i < n) (hnc : n ≤ c) (hc : c ≤ 9223372036854775807)
    (hg : w.heap[g]? = some (.cells cur 64)) (hsz : cur.size = c * 3) (h1 : ∀ u ∈ cur.toList.take (n * 3), u.oneCell' = true) :
    Calls Try.prog 38 #[.slice (some ⟨g, 0, none⟩) n c, .int .i64 i, .int .i64 ((i : Int) + 1)] w fun r w' => r = .returned (.slice (some ⟨g, 0, none⟩) (n - 1) c) ∧ w'.heap[g]? = some (.cells (inLo (deL cur.toList n i) ((n - 1) * 3) zList).toArray 64) ∧ w.grownBy w' (some g) := by
  have hz2 : ¬ ((i : Int) = (i : Int) + 1) := by omega
  have hb1 : (0 : Int) ≤ (i : Int) + 1 := by omega
  have hin : i ≤ n := by omega
  have htn : ((i : Int) + 1).toNat = i + 1 := by omega
  have hb3 : (i : Int) + 1 ≤ (n : Int) := by omega
  have hb5 : i + 1 ≤ n := by omega
  have hb4 : ¬ (c = i) := by omega
  have hcl : cur.toList.length = c * 3 := by rw [Array.length_toList]; exact hsz
  have hdl : ((cur.toList.take (n * 3)).drop ((i + 1) * 3)).length = (n - (i + 1)) * 3 := by simp only [List.length_take, List.length_drop, hcl]; omega
  have hnn : i + (n - (i + 1)) = n - 1 := by omega
  have hap : ∀ ty mc o, (o = (i + 1) * 3 ∨ n - (i + 1) = 0) → (Builtin.append_ #[24, 24] ty #[.slice (some ⟨g, 0, none⟩) i c, .slice (some ⟨g, o, none⟩) (n - (i + 1)) mc]).run Try.prog w.drew = .ok (.slice (some ⟨g, 0, none⟩) (n - 1) c) (w.drew.setRow g (deL cur.toList n i).toArray) := fun ty mc o ho => by
    have := run_app3 w.drew ty g i c ⟨g, o, none⟩ (n - (i + 1)) mc cur 64 ((cur.toList.take (n * 3)).drop ((i + 1) * 3)) hg hdl (by omega)
      (fun j v hj => by
        rcases ho with rfl | ho
        · rw [Addr.add_lit]
          rw [List.getElem?_drop, List.getElem?_take] at hj
          split at hj
          · simp only [World.cell?, World.drew]
            rw [hg]
            simpa using hj
          · cases hj
        · rw [ho, Nat.zero_mul, List.length_eq_zero_iff] at hdl
          rw [hdl] at hj
          cases hj)
      (by rw [hdl]; omega) (fun u hu => h1 u (List.mem_of_mem_drop hu))
    rw [hnn] at this
    exact this
  have hW1 : (w.drew.setRow g (deL cur.toList n i).toArray).heap[g]? = some (.cells (deL cur.toList n i).toArray 64) := setRow_heap w.drew g cur _ 64 (0, 0) hg
  obtain ⟨W1, eW1⟩ : ∃ W1, w.drew.setRow g (deL cur.toList n i).toArray = W1 := ⟨_, rfl⟩
  rw [eW1] at hap hW1
  have hcr : ∀ ty cc, (Builtin.clear_ #[24] ty #[.slice (some ⟨g, (n - 1) * 3, none⟩) 1 cc]).run Try.prog W1 = .ok (.tuple #[]) (W1.setRow g (inLo (deL cur.toList n i) ((n - 1) * 3) zList).toArray) := fun ty cc => by
    have := run_clear3 W1 ty g ((n - 1) * 3) cc (deL cur.toList n i).toArray 64 hW1 (by rw [List.size_toArray, deL_length hi hnc hcl]; omega)
    simpa using this
  have hself : n = i + 1 → W1 = w.drew := fun e => by
    have hd : (cur.toList.take (n * 3)).drop ((i + 1) * 3) = [] := List.eq_nil_of_length_eq_zero (by rw [hdl]; omega)
    have hde : deL cur.toList n i = cur.toList := by unfold deL; rw [hd]; simp
    rw [← eW1, hde, Array.toArray_toList]
    exact setRow_self w.drew g cur 64 (0, 0) hg
  clear h1 hg hdl hcl
  have hm1 : n - 1 ≤ n := by omega
  have hm2 : ¬ (c = n - 1) := by omega
  have hm3 : n - (n - 1) = 1 := by omega
  have mixed : Try.prog.follows Departure.mixedOrders = true := by kernel_rfl
  have hend : ∀ v, v = (.slice (some ⟨g, 0, none⟩) (n - 1) c) → Ending.returned v = .returned (.slice (some ⟨g, 0, none⟩) (n - 1) c) ∧ (W1.setRow g (inLo (deL cur.toList n i) ((n - 1) * 3) zList).toArray).heap[g]? = some (.cells (inLo (deL cur.toList n i) ((n - 1) * 3) zList).toArray 64) ∧ w.grownBy (W1.setRow g (inLo (deL cur.toList n i) ((n - 1) * 3) zList).toArray) (some g) := by
    rintro v rfl
    refine ⟨rfl, setRow_heap W1 g _ _ 64 (0, 0) hW1, ?_⟩
    subst eW1
    exact ⟨rfl, rfl, rfl, by simp, fun k _ hk => (setRow_other _ g k _ (fun e => hk (by rw [e]))).trans (setRow_other _ g k _ (fun e => hk (by rw [e])))⟩
  clear hW1 eW1
  have hbc : (i : Int) ≤ (c : Int) := by omega
  have hbc2 : i ≤ c := by omega
  by_cases hcc : c = i + 1
  · have e2 : n = i + 1 := by omega
    subst e2
    subst hcc
    have hbd : (i : Int) ≤ (i : Int) + 1 := by omega
    have hs := hself rfl
    subst hs
    clear hap hself
    simp only [Nat.sub_self, Nat.add_sub_cancel] at hcr hend ⊢
    go_enter Try.func38, Try.ntmps38
    go_wp2_with (at_builtin; refine wpList_clear_run rfl _ 24 rfl _ rfl (hcr _ _) ?_)
    go_region_law_o (refine step_app_run rfl _ _ 24 24 rfl (.slice (some ⟨g, 0, none⟩) i (i + 1)) (.slice (some ⟨g, 0, none⟩) 0 0) (by simp [Act.eval, Act.put]) (by simp [Act.eval, Act.put]) rfl ?_)
    go_wp2_with (at_builtin; refine wpList_clear_run rfl _ 24 rfl _ rfl (hcr _ _) ?_)
    go_ret
    exact hend _ rfl
  · have hap := fun ty mc => hap ty mc ((i + 1) * 3) (.inl rfl)
    go_enter Try.func38, Try.ntmps38
    go_wp2_with fail
    go_region_law_o (refine step_app_run rfl _ _ 24 24 rfl (.slice (some ⟨g, 0, none⟩) i c) (.slice (some ⟨g, (i + 1) * 3, none⟩) (n - (i + 1)) (c - (i + 1))) (by simp [Act.eval, Act.put]) (by simp [Act.eval, Act.put]) (hap 24 (c - (i + 1))) ?_)
    go_wp2_with (at_builtin; refine wpList_clear_run rfl _ 24 rfl _ rfl (hcr _ _) ?_)
    go_ret
    exact hend _ rfl

theorem delete_is (B n i : Nat) (v : Value) (xs : List Value) (w : World) (hi : i < n) (h : w.ownsRow B 64 3 v n xs) (h1 : ∀ u ∈ xs, u.oneCell' = true) :
    Calls Try.prog 38 #[v, .int .i64 i, .int .i64 ((i : Int) + 1)] w fun r w' => ∃ v', r = .returned v' ∧ w'.ownsRow B 64 3 v' (n - 1) (xs.take (i * 3) ++ xs.drop ((i + 1) * 3)) ∧ w.grownBy w' v.ownBlock ∧ v'.ownBlock = v.ownBlock := by
  have hl := h.1
  rcases h.2 with ⟨_, e⟩ | ⟨g, c, cur, rfl, hgB, hg, hnc, hcm, hsz, htk⟩
  · omega
  · have hcl : cur.toList.length = c * 3 := by rw [Array.length_toList]; exact hsz
    refine (del_at g n c i cur w hi hnc (by unfold maxLen at hcm; omega) hg hsz (by rw [htk]; exact h1)).mono ?_
    rintro r w' ⟨rfl, g4, g5⟩
    refine ⟨_, rfl, ⟨?_, .inr ⟨g, c, _, rfl, hgB, g4, by omega, hcm, ?_, ?_⟩⟩, g5, rfl⟩
    · simp only [List.length_append, List.length_take, List.length_drop, hl]; omega
    · rw [List.size_toArray]
      exact inLo_length (deL_length hi hnc hcl) (by simp only [zList, List.length_cons, List.length_nil]; omega)
    · rw [List.toList_toArray, ← htk]
      exact in_de hi hnc hcl rfl
end Go.Proofs.Ytehleeibgkpjmae
/- Contract of settled: the counts are told, and what nothing tells is free. -/
namespace Go.Proofs.Ytehleeibgkpjmae
open Go.RowKit Go.Shelf
set_option maxRecDepth 20000

def SetR (v wr : World) (B D : Nat) (m : ImgD) (val : Nm → Value) (q k : Nat) : Prop :=
  ∃ vk, DTo v wr B D m val nilV (frT m k) vk ∧ vk .root = val .root ∧ vk .slots = val .slots ∧ vk .refs = .slice (some ⟨q, 0, none⟩) m.slots.length m.slots.length ∧ vk .snaps = val .snaps

set_option maxHeartbeats 4000000 in
theorem settled_at (m : ImgD) (ra : Option Addr) (rn rc : Nat) (g sc : Nat) (fa : Option Addr) (fn fc : Nat) (na : Option Addr) (nn nc : Nat) (B D : Nat) (val : Nm → Value) (w : World) (hK : DK w B D val m) (e0 : val .root = .slice ra rn rc) (e1 : val .slots = .slice (some ⟨g, 0, none⟩) m.slots.length sc) (e2 : val .refs = .slice fa fn fc) (e3 : val .snaps = .slice na nn nc) (hB : B ≤ w.heap.size) (hE : shapeE m = 0) :
    Calls Try.prog 70 #[.pointer (some ⟨D, 0, none⟩)] w fun r w' => ∃ val', r = .returned (.tuple #[imgV m.guest val', .int .i64 0]) ∧ DTo w w' B D m val nilV (countedD m) val' := by
  have h40 : m.slots.length ≤ 40 := (slotsE_parts (shapeE_zero hE).2.1).2
  have h1s : 1 ≤ m.slots.length := (slotsE_parts (shapeE_zero hE).2.1).1
  have hlc : (cntL m).length = m.slots.length := cntL_length m
  have hDlt := hK.lt
  have hgr := hK.own.row .slots (Live.slots m)
  rw [e1] at hgr
  have hgl := hgr.lt g rfl
  have hDg : g ≠ D := fun e => hK.far .slots (Live.slots m) (by rw [e1, e]; rfl)
  clear hgr
  have hK1 : DK (w.alloc (.cells #[.int .i64 0, .slice none 0 0, .slice none 0 0, .slice none 0 0, .slice none 0 0] 26)) B D val m := hK.alloc _
  obtain ⟨d0, d1, d2, d3, d4⟩ := hK1.five
  have f3 := hK1.frozen 3
  rw [e0] at d1
  rw [e1] at d2
  rw [e2] at d3
  rw [e3] at d4
  have hcall := counts_own hK1.own.img hE
  unfold imgV at hcall
  rw [e0, e1, e2, e3] at hcall
  have hz1 : (w.alloc (.cells #[.int .i64 0, .slice none 0 0, .slice none 0 0, .slice none 0 0, .slice none 0 0] 26)).heap.size = w.heap.size + 1 := by simp
  have mR : (w.alloc (.cells #[.int .i64 0, .slice none 0 0, .slice none 0 0, .slice none 0 0, .slice none 0 0] 26)).heap[w.heap.size]? = some (.cells #[.int .i64 0, .slice none 0 0, .slice none 0 0, .slice none 0 0, .slice none 0 0] 26) := World.alloc_heap_new _ _
  have D1 : ¬ D = w.heap.size := by omega
  have D2 : ¬ w.heap.size = D := by omega
  go_enter Try.func70, Try.ntmps70
  go_wp2_with (go_at_call 40; refine hcall.mono ?_; rintro e w2 ⟨⟨q, hq, rfl, hL⟩, hb2⟩; have hK2 := hK1.below hb2; obtain ⟨c0, c1, c2, c3, c4⟩ := hK2.five; have f2 := hK2.frozen 3; rw [e0] at c1; rw [e1] at c2; rw [e2] at c3; rw [e3] at c4)
  have hb2' : Below (w.alloc (.cells #[.int .i64 0, .slice none 0 0, .slice none 0 0, .slice none 0 0, .slice none 0 0] 26)).heap.size (w.alloc (.cells #[.int .i64 0, .slice none 0 0, .slice none 0 0, .slice none 0 0, .slice none 0 0] 26)) w2 := hb2
  have hq0 := hq
  have hq : w.heap.size + 1 ≤ q := by rw [hz1] at hq; exact hq
  have hrow : w2.ownsRow B 3 1 (.slice (some ⟨q, 0, none⟩) m.slots.length m.slots.length) (cntL m).length (ints (cntL m)) := by
    have := row_LAt hL (B := B) (by omega) (by rw [hlc]; omega)
    rw [hlc] at this ⊢
    exact this
  have hS := (DTo.refl hK1 nilV).below (by rw [hz1]; omega) hb2'
  have hS := hS.swapRefs hrow (far_new hK1.own .refs (fun p e => by cases e; rw [hz1]; exact hq)) (fun e => by have e : q = D := Option.some.inj e; omega) (fun p e => by cases e; rw [hz1]; exact .inr hq)
  have HS : Hid (SetR (w.alloc (.cells #[.int .i64 0, .slice none 0 0, .slice none 0 0, .slice none 0 0, .slice none 0 0] 26)) (w2.setCell ⟨D, 3, none⟩ (.slice (some ⟨q, 0, none⟩) m.slots.length m.slots.length)) B D m val q 0) := by
    refine ⟨upd val .refs (.slice (some ⟨q, 0, none⟩) m.slots.length m.slots.length), ?_, upd_other _ _ (by intro x; cases x), upd_other _ _ (by intro x; cases x), upd_same _ _ _, upd_other _ _ (by intro x; cases x)⟩
    rw [frT_zero]
    exact hS
  have HV : Hid (val .root = .slice ra rn rc ∧ val .slots = .slice (some ⟨g, 0, none⟩) m.slots.length sc ∧ val .snaps = .slice na nn nc) := ⟨e0, e1, e3⟩
  have HK : Hid (DK w B D val m) := hK
  clear hb2' hb2 hrow hS hL hq0 hK1 hK2 c0 c1 c2 c3 c4 d0 d1 d2 d3 d4 f2 f3 hcall hE e0 e1 e2 e3 hK mR hz1
  go_loopw [27] (fun i wr => ∃ k : Nat, k ≤ m.slots.length ∧ i = .int .i64 k ∧ Hid (SetR (w.alloc (.cells #[.int .i64 0, .slice none 0 0, .slice none 0 0, .slice none 0 0, .slice none 0 0] 26)) wr B D m val q k)) (fun i _ => m.slots.length - (intOf i).toNat)
  case atStart => exact ⟨0, Nat.zero_le _, rfl, HS⟩
  case round =>
    obtain ⟨k, hk, rfl, HC⟩ := hrel
    obtain ⟨vk, hT, v0, v1, v2, v3⟩ := HC.out
    obtain ⟨e0, e1, e3⟩ := HV.out
    rw [e0] at v0
    rw [e1] at v1
    rw [e3] at v3
    obtain ⟨d0, d1, d2, d3, d4⟩ := hT.dk.five
    have d0 : wr.cell? ⟨D, 0, none⟩ = some (.int .i64 m.guest) := d0
    rw [v0] at d1
    rw [v1] at d2
    rw [v2] at d3
    rw [v3] at d4
    have hls := frT_length m k
    by_cases hlk : k < m.slots.length
    · have hki : (k : Int) < (m.slots.length : Int) := by omega
      obtain ⟨x, hx⟩ : ∃ x, x = (cntL m).getD k 0 := ⟨_, rfl⟩
      have cx : wr.cell? ⟨q, k, none⟩ = some (.int .i64 x) := by
        have hr := hT.dk.own.row .refs (Live.refs _)
        rw [v2] at hr
        have hr : wr.ownsRow B 3 1 (.slice (some ⟨q, 0, none⟩) m.slots.length m.slots.length) (cntL m).length (ints (cntL m)) := hr
        rw [hlc] at hr
        rw [hx]
        refine (hr.cellAt k (by omega)).trans ?_
        unfold ints
        rw [List.getElem?_map, List.getElem?_eq_getElem (by rw [hlc]; exact hlk)]
        simp [List.getD, hlc, hlk]
      have HX : Hid (x = (cntL m).getD k 0) := hx
      clear hx
      by_cases h0 : x = 0
      · have h0' : (x == 0) = true := by simp [h0]
        have H0 : Hid ((cntL m).getD k 0 = 0) := HX.out.symm.trans h0
        clear h0
        have hr := hT.dk.own.row .slots (Live.slots _)
        rw [v1] at hr
        obtain ⟨s0, s1, s2⟩ := flatS_get (L := (frT m k).slots) (tv := fun j => vk (.tab j)) (j := k) (by rw [hls]; exact hlk)
        have hr : wr.ownsRow B 72 3 (.slice (some ⟨g, 0, none⟩) m.slots.length sc) m.slots.length (flatS (frT m k).slots (fun j => vk (.tab j))) := by rw [← hls]; rw [← hls] at hr; exact hr
        have t0 : wr.cell? ⟨g, k * 3, none⟩ = some _ := (hr.cellAt (k * 3) (by omega)).trans s0
        have t1 : wr.cell? ⟨g, k * 3 + 1, none⟩ = some _ := (hr.cellAt (k * 3 + 1) (by omega)).trans s1
        have t2 : wr.cell? ⟨g, k * 3 + 2, none⟩ = some _ := (hr.cellAt (k * 3 + 2) (by omega)).trans s2
        have u0 := hr.frozenAt (k * 3)
        have u1 := hr.frozenAt (k * 3 + 1)
        have u2 := hr.frozenAt (k * 3 + 2)
        have HN : Hid (SetR (w.alloc (.cells #[.int .i64 0, .slice none 0 0, .slice none 0 0, .slice none 0 0, .slice none 0 0] 26)) (((wr.setCell ⟨g, k * 3, none⟩ (.int .i64 0)).setCell ⟨g, k * 3 + 1, none⟩ (.string ⟨#[]⟩)).setCell ⟨g, k * 3 + 2, none⟩ (.slice none 0 0)) B D m val q (k + 1)) := by
          have hN := hT.setSlot (t := k) (by rw [hls]; exact hlk) v1 0 ⟨#[]⟩ [] (e2 := .slice none 0 0) (World.ownsRow_nil _ _ _ _) (far_nil _ _ _ _ _) (nilV_own _) (fun p e => by cases e)
          refine ⟨upd vk (.tab k) (.slice none 0 0), ?_, (upd_other _ _ (by intro x; cases x)).trans (v0.trans e0.symm), (upd_other _ _ (by intro x; cases x)).trans (v1.trans e1.symm), (upd_other _ _ (by intro x; cases x)).trans v2, (upd_other _ _ (by intro x; cases x)).trans (v3.trans e3.symm)⟩
          rw [frT_gone m H0.out]; exact hN
        clear hT hr s0 s1 s2 e0 e1 e3 v0 v1 v2 v3 HC HX H0 hls
        go_wp2_with fail
        go_roundw
        case rel => exact ⟨k + 1, by omega, by go_num, HN⟩
        case measure => simp [intOf]; omega
      · have h0' : (x == 0) = false := by simp [h0]
        have HN : Hid (SetR (w.alloc (.cells #[.int .i64 0, .slice none 0 0, .slice none 0 0, .slice none 0 0, .slice none 0 0] 26)) wr B D m val q (k + 1)) := by
          refine ⟨vk, ?_, v0.trans e0.symm, v1.trans e1.symm, v2, v3.trans e3.symm⟩
          rw [frT_kept m (fun e => h0 (HX.out.trans e))]
          exact hT
        clear hT e0 e1 e3 v0 v1 v2 v3 HC HX hls
        go_wp2_with fail
        go_roundw
        case rel => exact ⟨k + 1, by omega, by go_num, HN⟩
        case measure => simp [intOf]; omega
    · have ek : k = m.slots.length := by omega
      subst ek
      have hR : wr.heap[w.heap.size]? = some (.cells #[.int .i64 0, .slice none 0 0, .slice none 0 0, .slice none 0 0, .slice none 0 0] 26) := hT.cells (World.alloc_heap_new _ _) (by omega) (nilV_own _) (HK.out.own.lt (Nat.le_refl _))
      obtain ⟨z0, z1, z2, z3, z4⟩ := five hR
      have y0 := cells_frozen hR 0
      have y1 := cells_frozen hR 1
      have y2 := cells_frozen hR 2
      have y3 := cells_frozen hR 3
      have y4 := cells_frozen hR 4
      rw [frT_end] at hT
      have hfr : ∀ a, Live (countedD m) a → (vk a).ownBlock ≠ some w.heap.size := hT.src w.heap.size (by simp) (nilV_own _) (HK.out.own.lt (Nat.le_refl _))
      have HF : Hid (DTo w wr B D m val nilV (countedD m) vk) := DTo.first ((Below.refl _ _).alloc (Nat.le_refl _) _) hB hT (fun p e => by cases e)
      clear hT HC hls
      go_wp2_with fail
      have hn : w.heap.size ≤ w.heap.size := Nat.le_refl _
      refine bodyPost_ret (v := .tuple #[.agg #[.int .i64 m.guest, .slice ra rn rc, .slice (some ⟨g, 0, none⟩) m.slots.length sc, .slice (some ⟨q, 0, none⟩) m.slots.length m.slots.length, .slice na nn nc], .int .i64 0]) (by simp [results, Try.results70, go_sem, z0, z1, z2, z3, z4]) rfl ⟨vk, ?_, ((((HF.out.setNew hB hn D1 hfr).setNew hB hn D1 hfr).setNew hB hn D1 hfr).setNew hB hn D1 hfr).setNew hB hn D1 hfr⟩
      unfold imgV
      rw [v0, v1, v2, v3]

set_option maxHeartbeats 4000000 in
theorem settled_err (m : ImgD) (E : Int) (ra : Option Addr) (rn rc : Nat) (sa : Option Addr) (sn sc : Nat) (fa : Option Addr) (fn fc : Nat) (na : Option Addr) (nn nc : Nat) (B D : Nat) (val : Nm → Value) (w : World) (hK : DK w B D val m) (e0 : val .root = .slice ra rn rc) (e1 : val .slots = .slice sa sn sc) (e2 : val .refs = .slice fa fn fc) (e3 : val .snaps = .slice na nn nc) (hE : shapeE m = E) (hne : (E != 0) = true) :
    Calls Try.prog 70 #[.pointer (some ⟨D, 0, none⟩)] w fun r w' => r = .returned (.tuple #[.agg #[.int .i64 0, nilV, nilV, nilV, nilV], .int .i64 E]) ∧ Below w.heap.size w w' := by
  have hDlt := hK.lt
  have hK1 : DK (w.alloc (.cells #[.int .i64 0, .slice none 0 0, .slice none 0 0, .slice none 0 0, .slice none 0 0] 26)) B D val m := hK.alloc _
  obtain ⟨d0, d1, d2, d3, d4⟩ := hK1.five
  rw [e0] at d1
  rw [e1] at d2
  rw [e2] at d3
  rw [e3] at d4
  have hcall := counts_err hK1.own.img hE hne
  unfold imgV at hcall
  rw [e0, e1, e2, e3] at hcall
  have mR : (w.alloc (.cells #[.int .i64 0, .slice none 0 0, .slice none 0 0, .slice none 0 0, .slice none 0 0] 26)).heap[w.heap.size]? = some (.cells #[.int .i64 0, .slice none 0 0, .slice none 0 0, .slice none 0 0, .slice none 0 0] 26) := World.alloc_heap_new _ _
  have b0 : Below w.heap.size w (w.alloc (.cells #[.int .i64 0, .slice none 0 0, .slice none 0 0, .slice none 0 0, .slice none 0 0] 26)) := (Below.refl _ _).alloc (Nat.le_refl _) _
  clear hE
  go_enter Try.func70, Try.ntmps70
  go_wp2_with (go_at_call 40; refine hcall.mono ?_; rintro e w2 ⟨rfl, hb2⟩; have hR := cells_below mR hb2 (by simp); obtain ⟨z0, z1, z2, z3, z4⟩ := five hR; have y0 := cells_frozen hR 0; have y1 := cells_frozen hR 1; have y2 := cells_frozen hR 2; have y3 := cells_frozen hR 3; have y4 := cells_frozen hR 4)
  have hb := Below.on b0 hb2
  have hn : w.heap.size ≤ w.heap.size := Nat.le_refl _
  refine bodyPost_ret (v := .tuple #[.agg #[.int .i64 0, nilV, nilV, nilV, nilV], .int .i64 E]) (by simp [results, Try.results70, go_sem, z0, z1, z2, z3, z4]) rfl ⟨rfl, ((((hb.setCell hn _).setCell hn _).setCell hn _).setCell hn _).setCell hn _⟩
theorem settled_bad {m : ImgD} {E : Int} {B D : Nat} {val : Nm → Value} {w : World} (hK : DK w B D val m) (hE : shapeE m = E) (hne : E ≠ 0) :
    Calls Try.prog 70 #[.pointer (some ⟨D, 0, none⟩)] w fun r w' => r = .returned (.tuple #[.agg #[.int .i64 0, nilV, nilV, nilV, nilV], .int .i64 E]) ∧ Below w.heap.size w w' := by
  obtain ⟨ra, rc, e0, _⟩ := hK.own.forms .root (Live.root m)
  obtain ⟨sa, sc, e1, _⟩ := hK.own.forms .slots (Live.slots m)
  obtain ⟨fa, fc, e2, _⟩ := hK.own.forms .refs (Live.refs m)
  obtain ⟨na, nc, e3, _⟩ := hK.own.forms .snaps (Live.snaps m)
  exact settled_err m E ra _ rc sa _ sc fa _ fc na _ nc B D val w hK e0 e1 e2 e3 hE (by simpa using hne)
theorem settled_ok {m : ImgD} {B D : Nat} {val : Nm → Value} {w : World} (hK : DK w B D val m) (hB : B ≤ w.heap.size) (hE : shapeE m = 0) :
    Calls Try.prog 70 #[.pointer (some ⟨D, 0, none⟩)] w fun r w' => ∃ val', r = .returned (.tuple #[imgV m.guest val', .int .i64 0]) ∧ DTo w w' B D m val nilV (countedD m) val' := by
  have h1s : 1 ≤ m.slots.length := (slotsE_parts (shapeE_zero hE).2.1).1
  obtain ⟨ra, rc, e0, _⟩ := hK.own.forms .root (Live.root m)
  obtain ⟨sa, sc, e1, hs⟩ := hK.own.forms .slots (Live.slots m)
  obtain ⟨fa, fc, e2, _⟩ := hK.own.forms .refs (Live.refs m)
  obtain ⟨na, nc, e3, _⟩ := hK.own.forms .snaps (Live.snaps m)
  obtain ⟨g, rfl⟩ := hs (by show 0 < m.slots.length; omega)
  exact settled_at m ra _ rc g sc fa _ fc na _ nc B D val w hK e0 e1 e2 e3 hB hE
end Go.Proofs.Ytehleeibgkpjmae
/- Contracts of slices.Clone: a list of one's own. -/
namespace Go.Proofs.Ytehleeibgkpjmae
open Go.RowKit Go.Shelf
set_option maxRecDepth 20000

theorem ints_mem {xs : List Int} : ∀ u ∈ ints xs, u.oneCell' = true := ints_oneCell .i64 xs
theorem sl_form1 {W : World} {v : Value} {xs : List Int} (h : Sl W v xs) : v.oneCell' = true := by obtain ⟨ao, cap, rfl, _⟩ := h; rfl
theorem flatS_mem {L : List SlotD} {tv : Nat → Value} (h : ∀ j, j < L.length → (tv j).oneCell' = true) : ∀ u ∈ flatS L tv, u.oneCell' = true := fun u hu => by
  unfold flatS at hu
  rw [List.mem_flatMap] at hu
  obtain ⟨j, hj, hu⟩ := hu
  rw [List.mem_range] at hj
  simp only [List.mem_cons, List.not_mem_nil, or_false] at hu
  rcases hu with rfl | rfl | rfl
  · rfl
  · rfl
  · exact h j hj
theorem flatN_mem {L : List SnapD} {tv : Nat → Value} (h : ∀ j, j < L.length → (tv j).oneCell' = true) : ∀ u ∈ flatN L tv, u.oneCell' = true := fun u hu => by
  unfold flatN at hu
  rw [List.mem_flatMap] at hu
  obtain ⟨j, hj, hu⟩ := hu
  rw [List.mem_range] at hj
  simp only [List.mem_cons, List.not_mem_nil, or_false] at hu
  rcases hu with rfl | rfl | rfl
  · rfl
  · rfl
  · exact h j hj
def room : Nat := 140737488355328
theorem room_is : room = 140737488355328 := rfl
theorem maxLen_of_room {n b : Nat} (hb : 0 < b) (h : n * b ≤ room) : n ≤ maxLen := by
  have := Nat.le_trans (Nat.le_mul_of_pos_right n hb) h
  rw [room_is] at this
  unfold maxLen
  omega

theorem clnI_nil (n c : Nat) (w : World) : Calls Try.prog 33 #[.slice none n c] w fun r w' => r = .returned (.slice none 0 0) ∧ w' = w := by
  have q22 : ∀ (w : World) (a : Option Addr) (n c n' c' : Nat), (binOp .eql 22 (.slice a n c) (.slice none n' c')).run Try.prog w = .ok (.bool a.isNone) w := fun w a n c n' c' => Lib.run_eql_slice_nil w _ _ a n c n' c' Try.underlying22
  go_enter Try.func33, Try.ntmps33
  go_wp2
  go_ret
  exact ⟨rfl, rfl⟩
set_option maxHeartbeats 1000000 in
theorem clnI_at (a : Addr) (n c : Nat) (news : List Value) (w : World) (hl : news.length = n * 1) (hbig : n * 8 ≤ room) (hc : ∀ j u, news[j]? = some u → w.cell? (a.add j) = some u) (h1 : ∀ u ∈ news, u.oneCell' = true) :
    Calls Try.prog 33 #[.slice (some a) n c] w fun r w' => ∃ v', r = .returned v' ∧ w'.ownsRow w.heap.size 3 1 v' n news ∧ Below w.heap.size w w' := by
  have q22 : ∀ (w : World) (a : Option Addr) (n c n' c' : Nat), (binOp .eql 22 (.slice a n c) (.slice none n' c')).run Try.prog w = .ok (.bool a.isNone) w := fun w a n c n' c' => Lib.run_eql_slice_nil w _ _ a n c n' c' Try.underlying22
  obtain ⟨i0, hi, hz0, hz1, hz2⟩ := info_parts info3
  have A : Hid ((∀ j u, news[j]? = some u → w.cell? (a.add j) = some u) ∧ news.length = n * 1 ∧ n * 8 ≤ room ∧ (∀ u ∈ news, u.oneCell' = true) ∧ Try.prog.info? 3 = some i0 ∧ i0.zero = some (.int .i64 0) ∧ i0.size = 1 ∧ i0.bytes = 8) := ⟨hc, hl, hbig, h1, hi, hz0, hz1, hz2⟩
  clear hc hl hbig h1 hi hz0 hz1 hz2
  go_enter Try.func33, Try.ntmps33
  go_wp2_with (at_builtin; refine wpList_append_own _ rfl _ _ 22 rfl w.heap.size 3 i0 (.int .i64 0) 1 8 Try.underlying22 A.out.2.2.2.2.1 A.out.2.2.2.2.2.1 A.out.2.2.2.2.2.2.1 A.out.2.2.2.2.2.2.2 rfl (by decide) _ _ _ rfl (World.ownsRow_made w #[] 0 (Nat.le_refl _) (Nat.zero_le _) (by simp)) a n c news rfl A.out.2.1 ?qc2 A.out.2.2.2.1 ?qc4 ?qc5 ?qc6 ?_)
  case qc2 =>
    intro j u hj
    exact Lib.cell?_alloc_some _ (A.out.1 j u hj)
  case qc4 => rw [Nat.zero_add]; exact maxLen_of_room (by decide) A.out.2.2.1
  case qc5 => rw [Nat.zero_add]; exact A.out.2.2.1
  case qc6 => simp
  intro v' w1 hown hgrow hnil
  have HO : Hid (w1.ownsRow w.heap.size 3 1 v' n news) := hown
  have HG : Hid (Below w.heap.size w w1) := ((Below.refl _ w).alloc (Nat.le_refl _) _).grown hgrow (by simp) (by intro k hk; simp [Value.ownBlock] at hk; omega)
  clear hown hgrow hnil
  go_wp2
  go_ret
  exact ⟨v', rfl, HO.out, HG.out⟩
theorem clone_ints {w : World} {v : Value} {xs : List Int} (h : Sl w v xs) (hb : xs.length * 8 ≤ room) :
    Calls Try.prog 33 #[v] w fun r w' => ∃ v', r = .returned v' ∧ w'.ownsRow w.heap.size 3 1 v' xs.length (ints xs) ∧ Below w.heap.size w w' := by
  obtain ⟨ao, cap, rfl, hm, hcp, hc⟩ := h
  cases ao with
  | none =>
    have hx : xs = [] := Classical.byContradiction fun hne => by obtain ⟨_, _, e, _⟩ := hc hne; cases e
    subst hx
    refine (clnI_nil _ _ w).mono ?_
    rintro e w' ⟨rfl, rfl⟩
    exact ⟨_, rfl, World.ownsRow_nil _ _ _ _, Below.refl _ _⟩
  | some a =>
    refine clnI_at a xs.length cap (ints xs) w (by rw [ints_length]; omega) hb (fun j u hu => ?_) ints_mem
    have hj : j < xs.length := by
      rcases Nat.lt_or_ge j xs.length with h | h
      · exact h
      · rw [List.getElem?_eq_none (by rw [ints_length]; exact h)] at hu; cases hu
    obtain ⟨b, off, e, _, hcell⟩ := hc (by intro e; rw [e] at hj; simp at hj)
    simp only [Option.some.injEq] at e
    subst e
    rw [addr_add, hcell j hj]
    unfold ints at hu
    rw [List.getElem?_map, List.getElem?_eq_getElem hj] at hu
    simp at hu
    simp [List.getD, hj, hu]
abbrev nilS : Value := .slice none 0 0
theorem choose_ltV {p : Nat → Value → Prop} {n : Nat} (h : ∀ i, i < n → ∃ s, p i s) : ∃ f : Nat → Value, ∀ i, i < n → p i (f i) :=
  ⟨fun i => if hi : i < n then (h i hi).choose else .slice none 0 0, fun i hi => by simp only [dif_pos hi]; exact (h i hi).choose_spec⟩

theorem clnS_nil (n c : Nat) (w : World) : Calls Try.prog 91 #[.slice none n c] w fun r w' => r = .returned (.slice none 0 0) ∧ w' = w := by
  have q22 : ∀ (w : World) (a : Option Addr) (n c n' c' : Nat), (binOp .eql 23 (.slice a n c) (.slice none n' c')).run Try.prog w = .ok (.bool a.isNone) w := fun w a n c n' c' => Lib.run_eql_slice_nil w _ _ a n c n' c' Try.underlying23
  go_enter Try.func91, Try.ntmps91
  go_wp2
  go_ret
  exact ⟨rfl, rfl⟩
set_option maxHeartbeats 1000000 in
theorem clnS_at (a : Addr) (n c : Nat) (news : List Value) (w : World) (hl : news.length = n * 3) (hbig : n * 48 ≤ room) (hc : ∀ j u, news[j]? = some u → w.cell? (a.add j) = some u) (h1 : ∀ u ∈ news, u.oneCell' = true) :
    Calls Try.prog 91 #[.slice (some a) n c] w fun r w' => ∃ v', r = .returned v' ∧ w'.ownsRow w.heap.size 72 3 v' n news ∧ Below w.heap.size w w' := by
  have q22 : ∀ (w : World) (a : Option Addr) (n c n' c' : Nat), (binOp .eql 23 (.slice a n c) (.slice none n' c')).run Try.prog w = .ok (.bool a.isNone) w := fun w a n c n' c' => Lib.run_eql_slice_nil w _ _ a n c n' c' Try.underlying23
  obtain ⟨i0, hi, hz0, hz1, hz2⟩ := info_parts infoSlot
  have A : Hid ((∀ j u, news[j]? = some u → w.cell? (a.add j) = some u) ∧ news.length = n * 3 ∧ n * 48 ≤ room ∧ (∀ u ∈ news, u.oneCell' = true) ∧ Try.prog.info? 72 = some i0 ∧ i0.zero = some (.agg #[.int .i64 0, .string ByteArray.empty, .slice none 0 0]) ∧ i0.size = 3 ∧ i0.bytes = 48) := ⟨hc, hl, hbig, h1, hi, hz0, hz1, hz2⟩
  clear hc hl hbig h1 hi hz0 hz1 hz2
  go_enter Try.func91, Try.ntmps91
  go_wp2_with (at_builtin; refine wpList_append_own _ rfl _ _ 23 rfl w.heap.size 72 i0 (.agg #[.int .i64 0, .string ByteArray.empty, .slice none 0 0]) 3 48 Try.underlying23 A.out.2.2.2.2.1 A.out.2.2.2.2.2.1 A.out.2.2.2.2.2.2.1 A.out.2.2.2.2.2.2.2 rfl (by decide) _ _ _ rfl (World.ownsRow_made w #[] 0 (Nat.le_refl _) (Nat.zero_le _) (by simp)) a n c news rfl A.out.2.1 ?qc2 A.out.2.2.2.1 ?qc4 ?qc5 ?qc6 ?_)
  case qc2 =>
    intro j u hj
    exact Lib.cell?_alloc_some _ (A.out.1 j u hj)
  case qc4 => rw [Nat.zero_add]; exact maxLen_of_room (by decide) A.out.2.2.1
  case qc5 => rw [Nat.zero_add]; exact A.out.2.2.1
  case qc6 => simp
  intro v' w1 hown hgrow hnil
  have HO : Hid (w1.ownsRow w.heap.size 72 3 v' n news) := hown
  have HG : Hid (Below w.heap.size w w1) := ((Below.refl _ w).alloc (Nat.le_refl _) _).grown hgrow (by simp) (by intro k hk; simp [Value.ownBlock] at hk; omega)
  clear hown hgrow hnil
  go_wp2
  go_ret
  exact ⟨v', rfl, HO.out, HG.out⟩
theorem clone_slots {w : World} {v : Value} {L : List SlotD} (h : Slots w v L) (hb : L.length * 48 ≤ room) :
    ∃ tv : Nat → Value, (∀ j, j < L.length → Sl w (tv j) (L.getD j default).2.2) ∧ ∀ W, Below w.heap.size w W → Calls Try.prog 91 #[v] W fun r w' => ∃ v', r = .returned v' ∧ w'.ownsRow W.heap.size 72 3 v' L.length (flatS L tv) ∧ Below W.heap.size W w' := by
  obtain ⟨ao, cap, rfl, hm, hcp, hc⟩ := h
  cases ao with
  | none =>
    have hx : L = [] := Classical.byContradiction fun hne => by obtain ⟨_, _, e, _⟩ := hc hne; cases e
    subst hx
    refine ⟨fun _ => nilS, fun j hj => absurd hj (Nat.not_lt_zero _), fun W _ => (clnS_nil _ _ W).mono ?_⟩
    rintro e w' ⟨rfl, rfl⟩
    exact ⟨_, rfl, World.ownsRow_nil _ _ _ _, Below.refl _ _⟩
  | some a =>
    have hx : ∀ j, j < L.length → ∃ tv, Sl w tv (L.getD j default).2.2 ∧ ∀ W, Below w.heap.size w W → W.cell? (a.add (j * 3)) = some (.int .i64 (L.getD j default).1) ∧ W.cell? (a.add (j * 3 + 1)) = some (.string (L.getD j default).2.1) ∧ W.cell? (a.add (j * 3 + 2)) = some tv := fun j hj => by
      obtain ⟨b, off, e, hlt, hcell⟩ := hc (by intro e; rw [e] at hj; simp at hj)
      simp only [Option.some.injEq] at e
      subst e
      obtain ⟨tv, c1, c2, c3, hs⟩ := hcell j hj
      have eg : L[j] = L.getD j default := by simp [List.getD, hj]
      rw [eg] at c1 c2 hs
      exact ⟨tv, hs, fun W hW => ⟨by rw [addr_add]; exact (hW.cell (p := ⟨b, off + j * 3, none⟩) hlt).trans c1, by rw [addr_add]; exact (hW.cell (p := ⟨b, off + j * 3 + 1, none⟩) hlt).trans c2, by rw [addr_add]; exact (hW.cell (p := ⟨b, off + j * 3 + 1 + 1, none⟩) hlt).trans c3⟩⟩
    obtain ⟨tv, htv⟩ := choose_ltV hx
    refine ⟨tv, fun j hj => (htv j hj).1, fun W hW => clnS_at a L.length cap (flatS L tv) W (flatS_length L tv) hb (fun i u hu => ?_) (flatS_mem (fun j hj => sl_form1 (htv j hj).1))⟩
    have hi : i < L.length * 3 := by
      rcases Nat.lt_or_ge i (L.length * 3) with h | h
      · exact h
      · rw [List.getElem?_eq_none (by rw [flatS_length]; exact h)] at hu; cases hu
    obtain ⟨j, r, hj, hr, rfl⟩ : ∃ j r, j < L.length ∧ r < 3 ∧ i = j * 3 + r := ⟨i / 3, i % 3, by omega, Nat.mod_lt _ (by decide), by omega⟩
    obtain ⟨g0, g1, g2⟩ := flatS_get (tv := tv) hj
    obtain ⟨c0, c1, c2⟩ := (htv j hj).2 W hW
    match r, hr with
    | 0, _ => rw [Nat.add_zero] at hu ⊢; rw [g0] at hu; cases hu; exact c0
    | 1, _ => rw [g1] at hu; cases hu; exact c1
    | 2, _ => rw [g2] at hu; cases hu; exact c2

theorem clnN_nil (n c : Nat) (w : World) : Calls Try.prog 92 #[.slice none n c] w fun r w' => r = .returned (.slice none 0 0) ∧ w' = w := by
  have q22 : ∀ (w : World) (a : Option Addr) (n c n' c' : Nat), (binOp .eql 24 (.slice a n c) (.slice none n' c')).run Try.prog w = .ok (.bool a.isNone) w := fun w a n c n' c' => Lib.run_eql_slice_nil w _ _ a n c n' c' Try.underlying24
  go_enter Try.func92, Try.ntmps92
  go_wp2
  go_ret
  exact ⟨rfl, rfl⟩
set_option maxHeartbeats 1000000 in
theorem clnN_at (a : Addr) (n c : Nat) (news : List Value) (w : World) (hl : news.length = n * 3) (hbig : n * 48 ≤ room) (hc : ∀ j u, news[j]? = some u → w.cell? (a.add j) = some u) (h1 : ∀ u ∈ news, u.oneCell' = true) :
    Calls Try.prog 92 #[.slice (some a) n c] w fun r w' => ∃ v', r = .returned v' ∧ w'.ownsRow w.heap.size 64 3 v' n news ∧ Below w.heap.size w w' := by
  have q22 : ∀ (w : World) (a : Option Addr) (n c n' c' : Nat), (binOp .eql 24 (.slice a n c) (.slice none n' c')).run Try.prog w = .ok (.bool a.isNone) w := fun w a n c n' c' => Lib.run_eql_slice_nil w _ _ a n c n' c' Try.underlying24
  obtain ⟨i0, hi, hz0, hz1, hz2⟩ := info_parts infoSnap
  have A : Hid ((∀ j u, news[j]? = some u → w.cell? (a.add j) = some u) ∧ news.length = n * 3 ∧ n * 48 ≤ room ∧ (∀ u ∈ news, u.oneCell' = true) ∧ Try.prog.info? 64 = some i0 ∧ i0.zero = some (.agg #[.string ByteArray.empty, .int .i64 0, .slice none 0 0]) ∧ i0.size = 3 ∧ i0.bytes = 48) := ⟨hc, hl, hbig, h1, hi, hz0, hz1, hz2⟩
  clear hc hl hbig h1 hi hz0 hz1 hz2
  go_enter Try.func92, Try.ntmps92
  go_wp2_with (at_builtin; refine wpList_append_own _ rfl _ _ 24 rfl w.heap.size 64 i0 (.agg #[.string ByteArray.empty, .int .i64 0, .slice none 0 0]) 3 48 Try.underlying24 A.out.2.2.2.2.1 A.out.2.2.2.2.2.1 A.out.2.2.2.2.2.2.1 A.out.2.2.2.2.2.2.2 rfl (by decide) _ _ _ rfl (World.ownsRow_made w #[] 0 (Nat.le_refl _) (Nat.zero_le _) (by simp)) a n c news rfl A.out.2.1 ?qc2 A.out.2.2.2.1 ?qc4 ?qc5 ?qc6 ?_)
  case qc2 =>
    intro j u hj
    exact Lib.cell?_alloc_some _ (A.out.1 j u hj)
  case qc4 => rw [Nat.zero_add]; exact maxLen_of_room (by decide) A.out.2.2.1
  case qc5 => rw [Nat.zero_add]; exact A.out.2.2.1
  case qc6 => simp
  intro v' w1 hown hgrow hnil
  have HO : Hid (w1.ownsRow w.heap.size 64 3 v' n news) := hown
  have HG : Hid (Below w.heap.size w w1) := ((Below.refl _ w).alloc (Nat.le_refl _) _).grown hgrow (by simp) (by intro k hk; simp [Value.ownBlock] at hk; omega)
  clear hown hgrow hnil
  go_wp2
  go_ret
  exact ⟨v', rfl, HO.out, HG.out⟩
theorem clone_snaps {w : World} {v : Value} {L : List SnapD} (h : Snaps w v L) (hb : L.length * 48 ≤ room) :
    ∃ tv : Nat → Value, (∀ j, j < L.length → Sl w (tv j) (L.getD j default).2.2) ∧ ∀ W, Below w.heap.size w W → Calls Try.prog 92 #[v] W fun r w' => ∃ v', r = .returned v' ∧ w'.ownsRow W.heap.size 64 3 v' L.length (flatN L tv) ∧ Below W.heap.size W w' := by
  obtain ⟨ao, cap, rfl, hm, hcp, hc⟩ := h
  cases ao with
  | none =>
    have hx : L = [] := Classical.byContradiction fun hne => by obtain ⟨_, _, e, _⟩ := hc hne; cases e
    subst hx
    refine ⟨fun _ => nilS, fun j hj => absurd hj (Nat.not_lt_zero _), fun W _ => (clnN_nil _ _ W).mono ?_⟩
    rintro e w' ⟨rfl, rfl⟩
    exact ⟨_, rfl, World.ownsRow_nil _ _ _ _, Below.refl _ _⟩
  | some a =>
    have hx : ∀ j, j < L.length → ∃ tv, Sl w tv (L.getD j default).2.2 ∧ ∀ W, Below w.heap.size w W → W.cell? (a.add (j * 3)) = some (.string (L.getD j default).1) ∧ W.cell? (a.add (j * 3 + 1)) = some (.int .i64 (L.getD j default).2.1) ∧ W.cell? (a.add (j * 3 + 2)) = some tv := fun j hj => by
      obtain ⟨b, off, e, hlt, hcell⟩ := hc (by intro e; rw [e] at hj; simp at hj)
      simp only [Option.some.injEq] at e
      subst e
      obtain ⟨tv, c1, c2, c3, hs⟩ := hcell j hj
      have eg : L[j] = L.getD j default := by simp [List.getD, hj]
      rw [eg] at c1 c2 hs
      exact ⟨tv, hs, fun W hW => ⟨by rw [addr_add]; exact (hW.cell (p := ⟨b, off + j * 3, none⟩) hlt).trans c1, by rw [addr_add]; exact (hW.cell (p := ⟨b, off + j * 3 + 1, none⟩) hlt).trans c2, by rw [addr_add]; exact (hW.cell (p := ⟨b, off + j * 3 + 1 + 1, none⟩) hlt).trans c3⟩⟩
    obtain ⟨tv, htv⟩ := choose_ltV hx
    refine ⟨tv, fun j hj => (htv j hj).1, fun W hW => clnN_at a L.length cap (flatN L tv) W (flatN_length L tv) hb (fun i u hu => ?_) (flatN_mem (fun j hj => sl_form1 (htv j hj).1))⟩
    have hi : i < L.length * 3 := by
      rcases Nat.lt_or_ge i (L.length * 3) with h | h
      · exact h
      · rw [List.getElem?_eq_none (by rw [flatN_length]; exact h)] at hu; cases hu
    obtain ⟨j, r, hj, hr, rfl⟩ : ∃ j r, j < L.length ∧ r < 3 ∧ i = j * 3 + r := ⟨i / 3, i % 3, by omega, Nat.mod_lt _ (by decide), by omega⟩
    obtain ⟨g0, g1, g2⟩ := flatN_get (qv := tv) hj
    obtain ⟨c0, c1, c2⟩ := (htv j hj).2 W hW
    match r, hr with
    | 0, _ => rw [Nat.add_zero] at hu ⊢; rw [g0] at hu; cases hu; exact c0
    | 1, _ => rw [g1] at hu; cases hu; exact c1
    | 2, _ => rw [g2] at hu; cases hu; exact c2
theorem row_slice {W : World} {B : Nat} {e : TypeId} {size n : Nat} {v : Value} {xs : List Value} (h : W.ownsRow B e size v n xs) : ∃ ao cap, v = .slice ao n cap := by
  rcases row_form h with ⟨rfl, rfl⟩ | ⟨g, cap, rfl, _⟩
  · exact ⟨none, 0, rfl⟩
  · exact ⟨_, cap, rfl⟩
end Go.Proofs.Ytehleeibgkpjmae
/- Contract of copied: an image of one's own. -/
namespace Go.Proofs.Ytehleeibgkpjmae
open Go.RowKit Go.Shelf
set_option maxRecDepth 20000

def liveH (k l : Nat) (a : Nm) : Prop := (a.kind < 4 ∧ a.ix = 0) ∨ (a.kind = 4 ∧ a.ix < k) ∨ (a.kind = 5 ∧ a.ix < l)
def rowH (m : ImgD) (val : Nm → Value) (tv qv : Nat → Value) (k l : Nat) (a : Nm) : List Value := match a.kind with
  | 0 => ints m.root
  | 1 => flatS m.slots (fun j => if j < k then val (.tab j) else tv j)
  | 2 => ints m.refs
  | 3 => flatN m.snaps (fun j => if j < l then val (.sr j) else qv j)
  | 4 => ints (m.slots.getD a.ix default).2.2
  | _ => ints (m.snaps.getD a.ix default).2.2
structure HC (W : World) (B : Nat) (val : Nm → Value) (m : ImgD) (tv qv : Nat → Value) (k l : Nat) : Prop where
  row : ∀ a, liveH k l a → W.ownsRow B (rowT a) (rowS a) (val a) (rowN m a) (rowH m val tv qv k l a)
  apart : ∀ a b, liveH k l a → liveH k l b → a ≠ b → ∀ g, (val a).ownBlock = some g → (val b).ownBlock ≠ some g
theorem liveH.cases {k l : Nat} {a : Nm} (h : liveH k l a) : a = .root ∨ a = .slots ∨ a = .refs ∨ a = .snaps ∨ (∃ j, a = .tab j ∧ j < k) ∨ ∃ j, a = .sr j ∧ j < l := by
  obtain ⟨x, j⟩ := a
  rcases h with ⟨h1, h2⟩ | ⟨h1, h2⟩ | ⟨h1, h2⟩
  · dsimp only at h1 h2
    subst h2
    match x, h1 with
    | 0, _ => exact .inl rfl
    | 1, _ => exact .inr (.inl rfl)
    | 2, _ => exact .inr (.inr (.inl rfl))
    | 3, _ => exact .inr (.inr (.inr (.inl rfl)))
  · dsimp only at h1 h2; subst h1; exact .inr (.inr (.inr (.inr (.inl ⟨j, rfl, h2⟩))))
  · dsimp only at h1 h2; subst h1; exact .inr (.inr (.inr (.inr (.inr ⟨j, rfl, h2⟩))))
theorem liveH.old {k l : Nat} {a : Nm} (h : liveH (k + 1) l a) (hne : a ≠ .tab k) : liveH k l a := by
  rcases h.cases with rfl | rfl | rfl | rfl | ⟨j, rfl, hj⟩ | ⟨j, rfl, hj⟩
  · exact .inl ⟨by decide, rfl⟩
  · exact .inl ⟨by decide, rfl⟩
  · exact .inl ⟨by decide, rfl⟩
  · exact .inl ⟨by decide, rfl⟩
  · refine .inr (.inl ⟨rfl, ?_⟩)
    rcases Nat.lt_or_ge j k with h | h
    · exact h
    · exact absurd (by rw [show j = k by omega]) hne
  · exact .inr (.inr ⟨rfl, hj⟩)
theorem liveH.old' {k l : Nat} {a : Nm} (h : liveH k (l + 1) a) (hne : a ≠ .sr l) : liveH k l a := by
  rcases h.cases with rfl | rfl | rfl | rfl | ⟨j, rfl, hj⟩ | ⟨j, rfl, hj⟩
  · exact .inl ⟨by decide, rfl⟩
  · exact .inl ⟨by decide, rfl⟩
  · exact .inl ⟨by decide, rfl⟩
  · exact .inl ⟨by decide, rfl⟩
  · exact .inr (.inl ⟨rfl, hj⟩)
  · refine .inr (.inr ⟨rfl, ?_⟩)
    rcases Nat.lt_or_ge j l with h | h
    · exact h
    · exact absurd (by rw [show j = l by omega]) hne
theorem HC.below {W W' : World} {B : Nat} {val : Nm → Value} {m : ImgD} {tv qv : Nat → Value} {k l : Nat} (h : HC W B val m tv qv k l) (hb : Below W.heap.size W W') : HC W' B val m tv qv k l := by
  refine ⟨fun a ha => ?_, h.apart⟩
  have hr := h.row a ha
  refine ⟨hr.1, ?_⟩
  rcases hr.2 with hn | ⟨g, cap, cur, hv, hb', hg, rest⟩
  · exact .inl hn
  · exact .inr ⟨g, cap, cur, hv, hb', (hb.block g (Array.getElem?_eq_some_iff.1 hg).1).trans hg, rest⟩
theorem HC.far {W : World} {B : Nat} {val : Nm → Value} {m : ImgD} {tv qv : Nat → Value} {k l : Nat} (h : HC W B val m tv qv k l) {g i : Nat} {u : Value} (hg : g < B) : HC (W.setCell ⟨g, i, none⟩ u) B val m tv qv k l :=
  ⟨fun a ha => ownsRow_setCell_other (h.row a ha) (fun e => by have := ((h.row a ha).lt g e).1; omega) u, h.apart⟩
theorem HC.done {W : World} {B : Nat} {val : Nm → Value} {m : ImgD} {tv qv : Nat → Value} (h : HC W B val m tv qv m.slots.length m.snaps.length) : OI W B val m := by
  refine ⟨fun a ha => ?_, fun a b ha hb => h.apart a b ha hb⟩
  have e : rowH m val tv qv m.slots.length m.snaps.length a = rowV m val a := by
    rcases ha.cases with rfl | rfl | rfl | rfl | ⟨j, rfl, hj⟩ | ⟨j, rfl, hj⟩ <;> first | rfl | skip
    · show flatS _ _ = flatS _ _
      unfold flatS
      refine congrArg List.flatten (List.map_congr_left fun j hj => ?_)
      dsimp only
      rw [if_pos (List.mem_range.1 hj)]
    · show flatN _ _ = flatN _ _
      unfold flatN
      refine congrArg List.flatten (List.map_congr_left fun j hj => ?_)
      dsimp only
      rw [if_pos (List.mem_range.1 hj)]
  rw [← e]
  exact h.row a ha
theorem flatS_put {L : List SlotD} {tv tv' : Nat → Value} {t : Nat} (htv : ∀ j, j ≠ t → tv' j = tv j) : flatS L tv' = (flatS L tv).set (t * 3 + 2) (tv' t) := by
  apply List.ext_getElem?
  intro i
  have hlen := flatS_length L tv
  rcases Nat.lt_or_ge i (L.length * 3) with hi | hi
  · obtain ⟨j, r, hj, hr, rfl⟩ : ∃ j r, j < L.length ∧ r < 3 ∧ i = j * 3 + r := ⟨i / 3, i % 3, by omega, Nat.mod_lt _ (by decide), by omega⟩
    obtain ⟨a0, a1, a2⟩ := flatS_get (L := L) (tv := tv') hj
    obtain ⟨b0, b1, b2⟩ := flatS_get (L := L) (tv := tv) hj
    by_cases e : t = j
    · subst e
      match r, hr with
      | 0, _ => rw [Nat.add_zero, a0, List.getElem?_set_ne (by omega), b0]
      | 1, _ => rw [a1, List.getElem?_set_ne (by omega), b1]
      | 2, _ => rw [a2, List.getElem?_set_self (by rw [hlen]; omega)]
    · rw [htv j (fun x => e x.symm)] at a2
      rw [List.getElem?_set_ne (by omega)]
      match r, hr with
      | 0, _ => rw [Nat.add_zero, a0, b0]
      | 1, _ => rw [a1, b1]
      | 2, _ => rw [a2, b2]
  · rw [List.getElem?_eq_none (by rw [flatS_length]; exact hi), List.getElem?_eq_none (by rw [List.length_set, flatS_length]; exact hi)]
theorem flatN_put {L : List SnapD} {tv tv' : Nat → Value} {t : Nat} (htv : ∀ j, j ≠ t → tv' j = tv j) : flatN L tv' = (flatN L tv).set (t * 3 + 2) (tv' t) := by
  apply List.ext_getElem?
  intro i
  have hlen := flatN_length L tv
  rcases Nat.lt_or_ge i (L.length * 3) with hi | hi
  · obtain ⟨j, r, hj, hr, rfl⟩ : ∃ j r, j < L.length ∧ r < 3 ∧ i = j * 3 + r := ⟨i / 3, i % 3, by omega, Nat.mod_lt _ (by decide), by omega⟩
    obtain ⟨a0, a1, a2⟩ := flatN_get (S := L) (qv := tv') hj
    obtain ⟨b0, b1, b2⟩ := flatN_get (S := L) (qv := tv) hj
    by_cases e : t = j
    · subst e
      match r, hr with
      | 0, _ => rw [Nat.add_zero, a0, List.getElem?_set_ne (by omega), b0]
      | 1, _ => rw [a1, List.getElem?_set_ne (by omega), b1]
      | 2, _ => rw [a2, List.getElem?_set_self (by rw [hlen]; omega)]
    · rw [htv j (fun x => e x.symm)] at a2
      rw [List.getElem?_set_ne (by omega)]
      match r, hr with
      | 0, _ => rw [Nat.add_zero, a0, b0]
      | 1, _ => rw [a1, b1]
      | 2, _ => rw [a2, b2]
  · rw [List.getElem?_eq_none (by rw [flatN_length]; exact hi), List.getElem?_eq_none (by rw [List.length_set, flatN_length]; exact hi)]
theorem HC.tab {W : World} {B : Nat} {val : Nm → Value} {m : ImgD} {tv qv : Nat → Value} {k l : Nat} (h : HC W B val m tv qv k l) {g n cap : Nat} (hv : val .slots = .slice (some ⟨g, 0, none⟩) n cap) {v : Value} (hr : W.ownsRow B 3 1 v (m.slots.getD k default).2.2.length (ints (m.slots.getD k default).2.2)) (hf : ∀ a, liveH k l a → ∀ q, v.ownBlock = some q → (val a).ownBlock ≠ some q) :
    HC (W.setCell ⟨g, k * 3 + 2, none⟩ v) B (upd val (.tab k) v) m tv qv (k + 1) l := by
  have hsl : liveH k l .slots := .inl ⟨by decide, rfl⟩
  have hvg : v.ownBlock ≠ some g := fun e => hf .slots hsl g e (by rw [hv]; rfl)
  have hnn : n = m.slots.length := by
    rcases row_form (h.row .slots hsl) with ⟨e, _⟩ | ⟨g', cap', e, _⟩
    · rw [hv] at e; simp at e
    · rw [hv] at e; simp at e; exact e.2.1
  refine ⟨fun a ha => ?_, fun a b ha hb hne q hq => ?_⟩
  · by_cases e : a = .tab k
    · subst e
      rw [upd_same]
      exact ownsRow_setCell_other hr hvg v
    · have ha' := ha.old e
      rw [upd_other _ _ e]
      by_cases es : a = .slots
      · subst es
        have hrs := h.row .slots hsl
        have e1 : rowH m (upd val (.tab k) v) tv qv (k + 1) l .slots = (rowH m val tv qv k l .slots).set (k * 3 + 2) v := by
          have := flatS_put (L := m.slots) (tv := fun j => if j < k then val (.tab j) else tv j) (tv' := fun j => if j < k + 1 then upd val (.tab k) v (.tab j) else tv j) (t := k) (fun j hj => by
            by_cases h1 : j < k
            · rw [if_pos (by omega), if_pos h1, upd_other _ _ (by intro x; injection x with _ x; omega)]
            · rw [if_neg (by omega), if_neg h1])
          rw [if_pos (by omega), upd_same] at this
          exact this
        rw [e1]
        have hN : rowN m .slots = n := hnn.symm
        rw [hN, hv] at hrs ⊢
        exact (hrs.stored (k * 3 + 2) v).1
      · have e1 : rowH m (upd val (.tab k) v) tv qv (k + 1) l a = rowH m val tv qv k l a := by
          rcases ha'.cases with rfl | rfl | rfl | rfl | ⟨j, rfl, hj⟩ | ⟨j, rfl, hj⟩ <;> first | rfl | exact absurd rfl es
        rw [e1]
        exact ownsRow_setCell_other (h.row a ha') (h.apart .slots a hsl ha' (fun x => es x.symm) g (by rw [hv]; rfl)) v
  · by_cases e : a = .tab k
    · subst e
      rw [upd_same] at hq
      rw [upd_other _ _ (fun x => hne x.symm)]
      exact hf b (hb.old (fun x => hne x.symm)) q hq
    · rw [upd_other _ _ e] at hq
      by_cases e2 : b = .tab k
      · subst e2; rw [upd_same]; exact fun x => hf a (ha.old e) q x hq
      · rw [upd_other _ _ e2]; exact h.apart a b (ha.old e) (hb.old e2) hne q hq
theorem HC.sr {W : World} {B : Nat} {val : Nm → Value} {m : ImgD} {tv qv : Nat → Value} {k l : Nat} (h : HC W B val m tv qv k l) {g n cap : Nat} (hv : val .snaps = .slice (some ⟨g, 0, none⟩) n cap) {v : Value} (hr : W.ownsRow B 3 1 v (m.snaps.getD l default).2.2.length (ints (m.snaps.getD l default).2.2)) (hf : ∀ a, liveH k l a → ∀ q, v.ownBlock = some q → (val a).ownBlock ≠ some q) :
    HC (W.setCell ⟨g, l * 3 + 2, none⟩ v) B (upd val (.sr l) v) m tv qv k (l + 1) := by
  have hsl : liveH k l .snaps := .inl ⟨by decide, rfl⟩
  have hvg : v.ownBlock ≠ some g := fun e => hf .snaps hsl g e (by rw [hv]; rfl)
  have hnn : n = m.snaps.length := by
    rcases row_form (h.row .snaps hsl) with ⟨e, _⟩ | ⟨g', cap', e, _⟩
    · rw [hv] at e; simp at e
    · rw [hv] at e; simp at e; exact e.2.1
  refine ⟨fun a ha => ?_, fun a b ha hb hne q hq => ?_⟩
  · by_cases e : a = .sr l
    · subst e
      rw [upd_same]
      exact ownsRow_setCell_other hr hvg v
    · have ha' := ha.old' e
      rw [upd_other _ _ e]
      by_cases es : a = .snaps
      · subst es
        have hrs := h.row .snaps hsl
        have e1 : rowH m (upd val (.sr l) v) tv qv k (l + 1) .snaps = (rowH m val tv qv k l .snaps).set (l * 3 + 2) v := by
          have := flatN_put (L := m.snaps) (tv := fun j => if j < l then val (.sr j) else qv j) (tv' := fun j => if j < l + 1 then upd val (.sr l) v (.sr j) else qv j) (t := l) (fun j hj => by
            by_cases h1 : j < l
            · rw [if_pos (by omega), if_pos h1, upd_other _ _ (by intro x; injection x with _ x; omega)]
            · rw [if_neg (by omega), if_neg h1])
          rw [if_pos (by omega), upd_same] at this
          exact this
        rw [e1]
        have hN : rowN m .snaps = n := hnn.symm
        rw [hN, hv] at hrs ⊢
        exact (hrs.stored (l * 3 + 2) v).1
      · have e1 : rowH m (upd val (.sr l) v) tv qv k (l + 1) a = rowH m val tv qv k l a := by
          rcases ha'.cases with rfl | rfl | rfl | rfl | ⟨j, rfl, hj⟩ | ⟨j, rfl, hj⟩ <;> first | rfl | exact absurd rfl es
        rw [e1]
        exact ownsRow_setCell_other (h.row a ha') (h.apart .snaps a hsl ha' (fun x => es x.symm) g (by rw [hv]; rfl)) v
  · by_cases e : a = .sr l
    · subst e
      rw [upd_same] at hq
      rw [upd_other _ _ (fun x => hne x.symm)]
      exact hf b (hb.old' (fun x => hne x.symm)) q hq
    · rw [upd_other _ _ e] at hq
      by_cases e2 : b = .sr l
      · subst e2; rw [upd_same]; exact fun x => hf a (ha.old' e) q x hq
      · rw [upd_other _ _ e2]; exact h.apart a b (ha.old' e) (hb.old' e2) hne q hq
structure Fits (m : ImgD) : Prop where
  root : m.root.length * 8 ≤ room
  slots : m.slots.length * 48 ≤ room
  refs : m.refs.length * 8 ≤ room
  snaps : m.snaps.length * 48 ≤ room
  tab : ∀ j, j < m.slots.length → (m.slots.getD j default).2.2.length * 8 ≤ room
  sr : ∀ j, j < m.snaps.length → (m.snaps.getD j default).2.2.length * 8 ≤ room
def val4 (vr vs vf vn : Value) : Nm → Value := fun a => if a.kind = 0 then vr else if a.kind = 1 then vs else if a.kind = 2 then vf else vn
theorem HC.start {W : World} {B : Nat} {m : ImgD} {tv qv : Nat → Value} {vr vs vf vn : Value} (h0 : W.ownsRow B 3 1 vr m.root.length (ints m.root)) (h1 : W.ownsRow B 72 3 vs m.slots.length (flatS m.slots tv)) (h2 : W.ownsRow B 3 1 vf m.refs.length (ints m.refs)) (h3 : W.ownsRow B 64 3 vn m.snaps.length (flatN m.snaps qv))
    (a01 : ∀ q, vs.ownBlock = some q → vr.ownBlock ≠ some q) (a02 : ∀ q, vf.ownBlock = some q → vr.ownBlock ≠ some q) (a03 : ∀ q, vn.ownBlock = some q → vr.ownBlock ≠ some q) (a12 : ∀ q, vs.ownBlock = some q → vf.ownBlock ≠ some q) (a13 : ∀ q, vn.ownBlock = some q → vs.ownBlock ≠ some q) (a23 : ∀ q, vn.ownBlock = some q → vf.ownBlock ≠ some q) : HC W B (val4 vr vs vf vn) m tv qv 0 0 := by
  refine ⟨fun a ha => ?_, fun a b ha hb hne q hq => ?_⟩
  · rcases ha.cases with rfl | rfl | rfl | rfl | ⟨j, rfl, hj⟩ | ⟨j, rfl, hj⟩
    · exact h0
    · exact h1
    · exact h2
    · exact h3
    · exact absurd hj (Nat.not_lt_zero _)
    · exact absurd hj (Nat.not_lt_zero _)
  · rcases ha.cases with rfl | rfl | rfl | rfl | ⟨j, rfl, hj⟩ | ⟨j, rfl, hj⟩
    · rcases hb.cases with rfl | rfl | rfl | rfl | ⟨j, rfl, hj⟩ | ⟨j, rfl, hj⟩
      · exact absurd rfl hne
      · exact fun x => a01 q x hq
      · exact fun x => a02 q x hq
      · exact fun x => a03 q x hq
      · exact absurd hj (Nat.not_lt_zero _)
      · exact absurd hj (Nat.not_lt_zero _)
    · rcases hb.cases with rfl | rfl | rfl | rfl | ⟨j, rfl, hj⟩ | ⟨j, rfl, hj⟩
      · exact a01 q hq
      · exact absurd rfl hne
      · exact a12 q hq
      · exact fun x => a13 q x hq
      · exact absurd hj (Nat.not_lt_zero _)
      · exact absurd hj (Nat.not_lt_zero _)
    · rcases hb.cases with rfl | rfl | rfl | rfl | ⟨j, rfl, hj⟩ | ⟨j, rfl, hj⟩
      · exact a02 q hq
      · exact fun x => a12 q x hq
      · exact absurd rfl hne
      · exact fun x => a23 q x hq
      · exact absurd hj (Nat.not_lt_zero _)
      · exact absurd hj (Nat.not_lt_zero _)
    · rcases hb.cases with rfl | rfl | rfl | rfl | ⟨j, rfl, hj⟩ | ⟨j, rfl, hj⟩
      · exact a03 q hq
      · exact a13 q hq
      · exact a23 q hq
      · exact absurd rfl hne
      · exact absurd hj (Nat.not_lt_zero _)
      · exact absurd hj (Nat.not_lt_zero _)
    · exact absurd hj (Nat.not_lt_zero _)
    · exact absurd hj (Nat.not_lt_zero _)
end Go.Proofs.Ytehleeibgkpjmae
