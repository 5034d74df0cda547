/- Texts joined: SnQ, FitP, MendI, SnC, SnE, RefF, Pair, PDec. -/
import Derived.Test.YtehleeibgkpjmaeSnapsBackJ6
import Derived.Test.YtehleeibgkpjmaeSnapsBackJ5
import Derived.Test.YtehleeibgkpjmaeSnapsBackJ3
/- Snapshots: what Create, Revert and Delete answer, and how that is read. Plain lists. -/
namespace Go.Proofs.Ytehleeibgkpjmae
open Go.RowKit Go.Shelf
set_option maxRecDepth 20000
set_option linter.unusedVariables false
set_option linter.unusedSimpArgs false

def crE (m : ImgD) (nm : ByteArray) : Int := if checkE m ≠ 0 then checkE m else if isNm nm = false then 4 else if (snapIx m.snaps nm).isSome = true then 6 else if m.snaps.length = 3 then 2 else 0
def crM (m : ImgD) (nm : ByteArray) : ImgD := if crE m nm = 0 then countedD (createM m nm) else imgZ
def rvM (m : ImgD) (nm : ByteArray) : ImgD := if checkE m ≠ 0 then imgZ else match snapIx m.snaps nm with | some k => countedD (revertM m k) | none => imgZ
def dlM (m : ImgD) (nm : ByteArray) : ImgD := if checkE m ≠ 0 then imgZ else match snapIx m.snaps nm with | some k => countedD (deleteM m k) | none => imgZ
theorem isSome_false {α : Type} {o : Option α} (h : ¬ o.isSome = true) : o = none := by cases o with | none => rfl | some x => exact absurd rfl h
theorem cr_ok {m : ImgD} {nm : ByteArray} (h : crE m nm = 0) : checkE m = 0 ∧ isNm nm = true ∧ snapIx m.snaps nm = none ∧ m.snaps.length < 3 ∧ crM m nm = countedD (createM m nm) ∧ shapeE (createM m nm) = 0 ∧ checkE (crM m nm) = 0 ∧ (crM m nm).slots = m.slots := by
  have e : crM m nm = countedD (createM m nm) := by unfold crM; rw [if_pos h]
  unfold crE at h
  by_cases hC : checkE m = 0
  · rw [if_neg (fun x => x hC)] at h
    by_cases hn : isNm nm = false
    · rw [if_pos hn] at h; cases h
    · rw [if_neg hn] at h
      by_cases hx : (snapIx m.snaps nm).isSome = true
      · rw [if_pos hx] at h; cases h
      · rw [if_neg hx] at h
        by_cases h3 : m.snaps.length = 3
        · rw [if_pos h3] at h; cases h
        · have hn : isNm nm = true := by simpa using hn
          have hx := isSome_false hx
          have h3 : m.snaps.length < 3 := by have := (shapeE_zero (checkE_shape hC)).1; omega
          have hs := create_shape (checkE_shape hC) hn hx h3
          exact ⟨hC, hn, hx, h3, e, hs, e ▸ counted_right hs, e ▸ slots_more hC hs rfl (flat_create m nm)⟩
  · rw [if_pos hC] at h; exact absurd h hC
theorem cr_bad {m : ImgD} {nm : ByteArray} (h : crE m nm ≠ 0) : crM m nm = imgZ := by unfold crM; rw [if_neg h]
theorem pastE_ok {m : ImgD} {nm : ByteArray} (h : pastE m nm = 0) : checkE m = 0 ∧ ∃ k, snapIx m.snaps nm = some k ∧ k < m.snaps.length := by
  unfold pastE at h
  by_cases hC : checkE m = 0
  · rw [if_neg (fun x => x hC)] at h
    cases e : snapIx m.snaps nm with
    | none => rw [e] at h; cases h
    | some k => exact ⟨hC, k, rfl, snapIx_some e⟩
  · rw [if_pos hC] at h; exact absurd h hC
theorem rv_ok {m : ImgD} {nm : ByteArray} (h : pastE m nm = 0) : checkE m = 0 ∧ ∃ k, snapIx m.snaps nm = some k ∧ k < m.snaps.length ∧ rvM m nm = countedD (revertM m k) ∧ shapeE (revertM m k) = 0 ∧ checkE (rvM m nm) = 0 ∧ usedN (rvM m nm).slots ≤ usedN m.slots := by
  obtain ⟨hC, k, hk, hl⟩ := pastE_ok h
  have e : rvM m nm = countedD (revertM m k) := by unfold rvM; rw [if_neg (fun x => x hC), hk]
  have hs := revert_shape (checkE_shape hC) hl
  exact ⟨hC, k, hk, hl, e, hs, e ▸ counted_right hs, e ▸ used_fewer _ _⟩
theorem dl_ok {m : ImgD} {nm : ByteArray} (h : pastE m nm = 0) : checkE m = 0 ∧ ∃ k, snapIx m.snaps nm = some k ∧ k < m.snaps.length ∧ dlM m nm = countedD (deleteM m k) ∧ shapeE (deleteM m k) = 0 ∧ checkE (dlM m nm) = 0 ∧ usedN (dlM m nm).slots ≤ usedN m.slots := by
  obtain ⟨hC, k, hk, hl⟩ := pastE_ok h
  have e : dlM m nm = countedD (deleteM m k) := by unfold dlM; rw [if_neg (fun x => x hC), hk]
  have hs := delete_shape (checkE_shape hC) k
  exact ⟨hC, k, hk, hl, e, hs, e ▸ counted_right hs, e ▸ used_fewer _ _⟩
theorem rv_bad {m : ImgD} {nm : ByteArray} (h : pastE m nm ≠ 0) : rvM m nm = imgZ := by
  unfold rvM; unfold pastE at h
  split
  · rfl
  · rename_i hC
    rw [if_neg hC] at h
    cases e : snapIx m.snaps nm with
    | none => rfl
    | some k => rw [e] at h; exact absurd rfl h
theorem dl_bad {m : ImgD} {nm : ByteArray} (h : pastE m nm ≠ 0) : dlM m nm = imgZ := by
  unfold dlM; unfold pastE at h
  split
  · rfl
  · rename_i hC
    rw [if_neg hC] at h
    cases e : snapIx m.snaps nm with
    | none => rfl
    | some k => rw [e] at h; exact absurd rfl h


def named (S : List SnapD) (nm : ByteArray) : Option SnapD := S.find? (fun s => s.1.toList == nm.toList)
theorem named_ix (S : List SnapD) (nm : ByteArray) : named S nm = (snapIx S nm).map (fun k => S.getD k default) := by
  unfold named snapIx
  induction S with
  | nil => rfl
  | cons a S ih =>
    rw [List.find?_cons, List.findIdx?_cons]
    cases e : a.1.toList == nm.toList with
    | true => rfl
    | false =>
      dsimp only
      rw [ih]
      cases List.findIdx? (fun s : SnapD => s.1.toList == nm.toList) S with
      | none => rfl
      | some k => rfl
theorem past_named {m : ImgD} (hC : checkE m = 0) (nm : ByteArray) : pastV m nm = (match named m.snaps nm with | some s => allP m s.2.2 s.2.1.toNat | none => []) ∧ pastE m nm = (match named m.snaps nm with | some _ => 0 | none => 5) := by
  unfold pastV pastE
  rw [if_neg (fun x => x hC), if_neg (fun x => x hC), named_ix]
  cases snapIx m.snaps nm with
  | none => exact ⟨rfl, rfl⟩
  | some k => exact ⟨rfl, rfl⟩
theorem named_mem {S : List SnapD} {nm : ByteArray} {s : SnapD} (h : named S nm = some s) : s ∈ S ∧ s.1.toList = nm.toList := ⟨List.mem_of_find?_eq_some h, by have := List.find?_some h; simpa using this⟩
theorem named_none {S : List SnapD} {nm : ByteArray} (h : snapIx S nm = none) : named S nm = none := by rw [named_ix, h]; rfl
theorem named_insN {S : List SnapD} {k : Nat} {s : SnapD} {nm : ByteArray} (h : s.1.toList ≠ nm.toList) : named (insN k S s) nm = named S nm := by
  have e : (s.1.toList == nm.toList) = false := by simpa using h
  unfold named insN
  rw [List.find?_append, List.find?_cons, e]
  dsimp only
  rw [← List.find?_append, List.take_append_drop]
theorem named_ins_here {S : List SnapD} {k : Nat} {s : SnapD} {nm : ByteArray} (h : s.1.toList = nm.toList) (hn : named S nm = none) : named (insN k S s) nm = some s := by
  have e : (s.1.toList == nm.toList) = true := by simpa using h
  unfold named insN at *
  rw [List.find?_append, List.find?_cons, e]
  rw [← List.take_append_drop k S, List.find?_append] at hn
  cases e2 : List.find? (fun s : SnapD => s.1.toList == nm.toList) (S.take k) with
  | none => rfl
  | some x => rw [e2] at hn; cases hn
theorem erase_parts (S : List SnapD) {k : Nat} (hk : k < S.length) : S = S.take k ++ S.getD k default :: S.drop (k + 1) ∧ S.eraseIdx k = S.take k ++ S.drop (k + 1) := by
  refine ⟨?_, List.eraseIdx_eq_take_drop_succ S k⟩
  rw [show S.getD k default = S[k] by simp [List.getD, hk], List.getElem_cons_drop, List.take_append_drop]
theorem named_erase {S : List SnapD} {k : Nat} (hk : k < S.length) {nm : ByteArray} (h : (S.getD k default).1.toList ≠ nm.toList) : named (S.eraseIdx k) nm = named S nm := by
  obtain ⟨e1, e2⟩ := erase_parts S hk
  have e : ((S.getD k default).1.toList == nm.toList) = false := by simpa using h
  have : named S nm = named (S.take k ++ S.getD k default :: S.drop (k + 1)) nm := congrArg (fun x => named x nm) e1
  rw [e2, this]
  unfold named
  rw [List.find?_append, List.find?_append, List.find?_cons, e]
theorem less_ne {a b : ByteArray} (h : lessN a b = true) : a.toList ≠ b.toList := fun e => by
  have h : Op.bytesLess a.toList b.toList = true := h
  rw [e, less_irr] at h; cases h
theorem named_gone {S : List SnapD} (hN : NamesP S) {k : Nat} (hk : k < S.length) {nm : ByteArray} (h : (S.getD k default).1.toList = nm.toList) : named (S.eraseIdx k) nm = none := by
  obtain ⟨e1, e2⟩ := erase_parts S hk
  have hp := hN.2
  rw [e1, List.pairwise_append, List.pairwise_cons] at hp
  rw [e2]
  unfold named
  rw [List.find?_eq_none]
  intro x hx
  have : x.1.toList ≠ nm.toList := by
    rw [← h]
    rcases List.mem_append.1 hx with hx | hx
    · exact less_ne (hp.2.2 x hx _ List.mem_cons_self)
    · exact fun e => less_ne (hp.2.1.1 x hx) e.symm
  simpa using this
theorem snap_name {S : List SnapD} {nm : ByteArray} {k : Nat} (h : snapIx S nm = some k) : (S.getD k default).1.toList = nm.toList := by
  have : named S nm = some (S.getD k default) := by rw [named_ix, h]; rfl
  exact (named_mem this).2
theorem createM_insN (m : ImgD) (nm : ByteArray) : createM m nm = insM m (posS m.snaps nm) (nm, m.guest, m.root) := by
  unfold createM insM; rw [insS_insN]


theorem allV_of {m : ImgD} (hC : checkE m = 0) : allV m = allP m m.root m.guest.toNat := by unfold allV; rw [if_pos hC]
theorem allP_slots {m M : ImgD} (h : M.slots = m.slots) (r : List Int) (g : Nat) : allP M r g = allP m r g := by unfold allP lookV; rw [h]
theorem cr_reads {m : ImgD} {nm : ByteArray} (h : crE m nm = 0) : allV (crM m nm) = allV m ∧ pastE (crM m nm) nm = 0 ∧ pastV (crM m nm) nm = allV m ∧ ∀ o : ByteArray, nm.toList ≠ o.toList → pastV (crM m nm) o = pastV m o ∧ pastE (crM m nm) o = pastE m o := by
  obtain ⟨hC, hn, hx, h3, e, hs, hR, hsl⟩ := cr_ok h
  have hsn : (crM m nm).snaps = insN (posS m.snaps nm) m.snaps (nm, m.guest, m.root) := by rw [e]; show (createM m nm).snaps = _; rw [createM_insN]; rfl
  have hr : (crM m nm).root = m.root := by rw [e]; rfl
  have hg : (crM m nm).guest = m.guest := by rw [e]; rfl
  have hhere := named_ins_here (S := m.snaps) (k := posS m.snaps nm) (s := (nm, m.guest, m.root)) (nm := nm) rfl (named_none hx)
  have hp := past_named hR nm
  rw [hsn, hhere] at hp
  refine ⟨?_, hp.2, ?_, fun o ho => ?_⟩
  · rw [allV_of hR, allV_of hC, hr, hg, allP_slots hsl]
  · rw [hp.1, allV_of hC]; exact allP_slots hsl _ _
  · have hq := past_named hR o
    rw [hsn, named_insN (s := (nm, m.guest, m.root)) ho] at hq
    have hq' := past_named hC o
    rw [hq.1, hq.2, hq'.1, hq'.2]
    cases named m.snaps o with
    | none => exact ⟨rfl, rfl⟩
    | some s => exact ⟨allP_slots hsl _ _, rfl⟩
theorem rv_reads {m : ImgD} {nm : ByteArray} (h : pastE m nm = 0) : allV (rvM m nm) = pastV m nm ∧ ∀ o : ByteArray, pastV (rvM m nm) o = pastV m o ∧ pastE (rvM m nm) o = pastE m o := by
  obtain ⟨hC, k, hk, hl, e, hs, hR, _⟩ := rv_ok h
  have hsn : (rvM m nm).snaps = m.snaps := by rw [e]; rfl
  refine ⟨?_, fun o => ?_⟩
  · have hp := past_named hC nm
    have hq : named m.snaps nm = some (m.snaps.getD k default) := by rw [named_ix, hk]; rfl
    rw [hq] at hp
    rw [allV_of hR, hp.1, e]
    have := allP_counted hs (s := (⟨#[]⟩, (revertM m k).guest, (revertM m k).root)) List.mem_cons_self
    exact this.trans (allP_slots rfl _ _)
  · have hq := past_named hR o
    have hq' := past_named hC o
    rw [hsn] at hq
    rw [hq.1, hq.2, hq'.1, hq'.2]
    cases hx : named m.snaps o with
    | none => exact ⟨rfl, rfl⟩
    | some s =>
      refine ⟨?_, rfl⟩
      dsimp only
      rw [e]
      exact (allP_counted hs (s := s) (List.mem_cons_of_mem _ (named_mem hx).1)).trans (allP_slots rfl _ _)
theorem dl_reads {m : ImgD} {nm : ByteArray} (h : pastE m nm = 0) : allV (dlM m nm) = allV m ∧ pastE (dlM m nm) nm = 5 ∧ ∀ o : ByteArray, nm.toList ≠ o.toList → pastV (dlM m nm) o = pastV m o ∧ pastE (dlM m nm) o = pastE m o := by
  obtain ⟨hC, k, hk, hl, e, hs, hR, _⟩ := dl_ok h
  have hsn : (dlM m nm).snaps = m.snaps.eraseIdx k := by rw [e]; rfl
  have hN := (namesOK_iff _).1 (shapeE_zero (checkE_shape hC)).2.2.2.1
  have hnm := snap_name hk
  refine ⟨?_, ?_, fun o ho => ?_⟩
  · rw [allV_of hR, allV_of hC, e]
    have := allP_counted hs (s := (⟨#[]⟩, (deleteM m k).guest, (deleteM m k).root)) List.mem_cons_self
    exact this.trans (allP_slots rfl _ _)
  · have hq := past_named hR nm
    rw [hsn, named_gone hN hl hnm] at hq
    exact hq.2
  · have hq := past_named hR o
    have hq' := past_named hC o
    rw [hsn, named_erase hl (by rw [hnm]; exact ho)] at hq
    rw [hq.1, hq.2, hq'.1, hq'.2]
    cases hx : named m.snaps o with
    | none => exact ⟨rfl, rfl⟩
    | some s =>
      refine ⟨?_, rfl⟩
      dsimp only
      rw [e]
      have hmem : s ∈ m.snaps.eraseIdx k := by
        have := named_erase (S := m.snaps) hl (nm := o) (by rw [hnm]; exact ho)
        rw [hx] at this
        exact (named_mem this).1
      exact (allP_counted hs (s := s) (List.mem_cons_of_mem _ hmem)).trans (allP_slots rfl _ _)
end Go.Proofs.Ytehleeibgkpjmae
/- An image of right shape is not too wide to be copied. -/
namespace Go.Proofs.Ytehleeibgkpjmae
open Go.RowKit
set_option maxRecDepth 20000

theorem okD_len {s : SlotD} (h : okD s = true) : s.2.2.length ≤ 4 := by
  unfold okD slotOK at h
  split at h
  · simp at h; rw [h.2]; exact Nat.zero_le _
  · split at h
    · simp at h; rw [h.2]; exact Nat.zero_le _
    · split at h
      · simp at h; rw [ckE_len h.1]; exact Nat.le_refl _
      · cases h
theorem fits_of_shape {m : ImgD} (h : shapeE m = 0) : Fits m := by
  obtain ⟨h1, h2, h3, h4, h5, h6, h7⟩ := shapeE_zero h
  have hs := slotsE_parts h2
  have hR : ∀ s ∈ rootsOf m, s.2.2.length ≤ 5 := fun s hs => by
    have hg := List.all_eq_true.1 h5 s hs
    have hf := List.all_eq_true.1 h7 s hs
    unfold guestOK at hg
    unfold rootFit at hf
    simp only [Bool.and_eq_true, decide_eq_true_eq] at hg hf
    omega
  have hroot := hR (⟨#[]⟩, m.guest, m.root) List.mem_cons_self
  have hroot : m.root.length ≤ 5 := hroot
  have hr : room = 140737488355328 := room_is
  refine ⟨by omega, by omega, by omega, by omega, fun j hj => ?_, fun j hj => ?_⟩
  · have ok := slotsE_all h2 hj
    have e : m.slots.getD j default = m.slots[j] := by simp [List.getD, hj]
    rw [e]
    have : m.slots[j].2.2.length ≤ 4 := okD_len ok
    omega
  · have e : m.snaps.getD j default = m.snaps[j] := by simp [List.getD, hj]
    rw [e]
    have := hR m.snaps[j] (List.mem_cons_of_mem _ (List.getElem_mem hj))
    omega
end Go.Proofs.Ytehleeibgkpjmae
/- Contracts of mending: Repair and Leaks. -/
namespace Go.Proofs.Ytehleeibgkpjmae
open Go.RowKit Go.Shelf
theorem AnsI.open {w w' : World} {B : Nat} {m : ImgD} {err : Int} {r : Ending} (h : AnsI w B m err r w') : ∃ val ra rc sa sc fa fc na nc, r = .returned (.tuple #[.agg #[.int .i64 m.guest, .slice ra m.root.length rc, .slice sa m.slots.length sc, .slice fa m.refs.length fc, .slice na m.snaps.length nc], .int .i64 err]) ∧ OI w' B val m ∧ Below B w w' ∧ imgV m.guest val = .agg #[.int .i64 m.guest, .slice ra m.root.length rc, .slice sa m.slots.length sc, .slice fa m.refs.length fc, .slice na m.snaps.length nc] := by
  obtain ⟨val, rfl, hO, hb⟩ := h
  obtain ⟨ra, rc, e0, _⟩ := hO.forms .root (Live.root m)
  obtain ⟨sa, sc, e1, _⟩ := hO.forms .slots (Live.slots m)
  obtain ⟨fa, fc, e2, _⟩ := hO.forms .refs (Live.refs m)
  obtain ⟨na, nc, e3, _⟩ := hO.forms .snaps (Live.snaps m)
  have e : imgV m.guest val = .agg #[.int .i64 m.guest, .slice ra m.root.length rc, .slice sa m.slots.length sc, .slice fa m.refs.length fc, .slice na m.snaps.length nc] := by
    unfold imgV
    rw [e0, e1, e2, e3]
    rfl
  exact ⟨val, ra, rc, sa, sc, fa, fc, na, nc, by rw [e], hO, hb, e⟩


end Go.Proofs.Ytehleeibgkpjmae
/- Contracts of snapshots: Create, Revert, Delete. -/
namespace Go.Proofs.Ytehleeibgkpjmae
open Go.RowKit Go.Shelf
set_option maxRecDepth 20000
set_option linter.unusedVariables false
set_option linter.unusedSimpArgs false

set_option maxHeartbeats 4000000 in
theorem create_bad_at (m : ImgD) (ra : Option Addr) (rc : Nat) (sa : Option Addr) (sc : Nat) (fa : Option Addr) (fc : Nat) (na : Option Addr) (nc : Nat) (nm : ByteArray) (E : Int) (w : World) (h : Img w (.agg #[.int .i64 m.guest, .slice ra m.root.length rc, .slice sa m.slots.length sc, .slice fa m.refs.length fc, .slice na m.snaps.length nc]) m) (hE : checkE m = E) (hne : (E != 0) = true) :
    Calls Try.prog 8 #[.agg #[.int .i64 m.guest, .slice ra m.root.length rc, .slice sa m.slots.length sc, .slice fa m.refs.length fc, .slice na m.snaps.length nc], .string nm] w (AnsI w w.heap.size imgZ E) := by
  have b0 : Below w.heap.size w (((w.alloc (.cells #[.int .i64 m.guest, .slice ra m.root.length rc, .slice sa m.slots.length sc, .slice fa m.refs.length fc, .slice na m.snaps.length nc] 26)).alloc (.cells #[.string nm] 9)).alloc (.cells #[.int .i64 0, .slice none 0 0, .slice none 0 0, .slice none 0 0, .slice none 0 0] 26)) := (((Below.refl _ _).alloc (by simp; try omega) _).alloc (by simp; try omega) _).alloc (by simp; try omega) _
  have q0 : (w.alloc (.cells #[.int .i64 m.guest, .slice ra m.root.length rc, .slice sa m.slots.length sc, .slice fa m.refs.length fc, .slice na m.snaps.length nc] 26)).heap[w.heap.size]? = some (.cells #[.int .i64 m.guest, .slice ra m.root.length rc, .slice sa m.slots.length sc, .slice fa m.refs.length fc, .slice na m.snaps.length nc] 26) := by have := World.alloc_heap_new w (.cells #[.int .i64 m.guest, .slice ra m.root.length rc, .slice sa m.slots.length sc, .slice fa m.refs.length fc, .slice na m.snaps.length nc] 26); simpa using this
  have m0 : (((w.alloc (.cells #[.int .i64 m.guest, .slice ra m.root.length rc, .slice sa m.slots.length sc, .slice fa m.refs.length fc, .slice na m.snaps.length nc] 26)).alloc (.cells #[.string nm] 9)).alloc (.cells #[.int .i64 0, .slice none 0 0, .slice none 0 0, .slice none 0 0, .slice none 0 0] 26)).heap[w.heap.size]? = some (.cells #[.int .i64 m.guest, .slice ra m.root.length rc, .slice sa m.slots.length sc, .slice fa m.refs.length fc, .slice na m.snaps.length nc] 26) := (cells_alloc (cells_alloc q0 _) _)
  have q1 : ((w.alloc (.cells #[.int .i64 m.guest, .slice ra m.root.length rc, .slice sa m.slots.length sc, .slice fa m.refs.length fc, .slice na m.snaps.length nc] 26)).alloc (.cells #[.string nm] 9)).heap[w.heap.size + 1]? = some (.cells #[.string nm] 9) := by have := World.alloc_heap_new (w.alloc (.cells #[.int .i64 m.guest, .slice ra m.root.length rc, .slice sa m.slots.length sc, .slice fa m.refs.length fc, .slice na m.snaps.length nc] 26)) (.cells #[.string nm] 9); simpa using this
  have m1 : (((w.alloc (.cells #[.int .i64 m.guest, .slice ra m.root.length rc, .slice sa m.slots.length sc, .slice fa m.refs.length fc, .slice na m.snaps.length nc] 26)).alloc (.cells #[.string nm] 9)).alloc (.cells #[.int .i64 0, .slice none 0 0, .slice none 0 0, .slice none 0 0, .slice none 0 0] 26)).heap[w.heap.size + 1]? = some (.cells #[.string nm] 9) := (cells_alloc q1 _)
  have q2 : (((w.alloc (.cells #[.int .i64 m.guest, .slice ra m.root.length rc, .slice sa m.slots.length sc, .slice fa m.refs.length fc, .slice na m.snaps.length nc] 26)).alloc (.cells #[.string nm] 9)).alloc (.cells #[.int .i64 0, .slice none 0 0, .slice none 0 0, .slice none 0 0, .slice none 0 0] 26)).heap[w.heap.size + 1 + 1]? = some (.cells #[.int .i64 0, .slice none 0 0, .slice none 0 0, .slice none 0 0, .slice none 0 0] 26) := by have := World.alloc_heap_new ((w.alloc (.cells #[.int .i64 m.guest, .slice ra m.root.length rc, .slice sa m.slots.length sc, .slice fa m.refs.length fc, .slice na m.snaps.length nc] 26)).alloc (.cells #[.string nm] 9)) (.cells #[.int .i64 0, .slice none 0 0, .slice none 0 0, .slice none 0 0, .slice none 0 0] 26); simpa using this
  have m2 : (((w.alloc (.cells #[.int .i64 m.guest, .slice ra m.root.length rc, .slice sa m.slots.length sc, .slice fa m.refs.length fc, .slice na m.snaps.length nc] 26)).alloc (.cells #[.string nm] 9)).alloc (.cells #[.int .i64 0, .slice none 0 0, .slice none 0 0, .slice none 0 0, .slice none 0 0] 26)).heap[w.heap.size + 1 + 1]? = some (.cells #[.int .i64 0, .slice none 0 0, .slice none 0 0, .slice none 0 0, .slice none 0 0] 26) := q2
  have hz : (((w.alloc (.cells #[.int .i64 m.guest, .slice ra m.root.length rc, .slice sa m.slots.length sc, .slice fa m.refs.length fc, .slice na m.snaps.length nc] 26)).alloc (.cells #[.string nm] 9)).alloc (.cells #[.int .i64 0, .slice none 0 0, .slice none 0 0, .slice none 0 0, .slice none 0 0] 26)).heap.size = w.heap.size + 1 + 1 + 1 := by simp
  clear q0 q1 q2
  have hchk := tcheck_is (h.below b0) hE
  obtain ⟨c0, c1, c2, c3, c4⟩ := five m0
  have HM : Hid ((Below w.heap.size w (((w.alloc (.cells #[.int .i64 m.guest, .slice ra m.root.length rc, .slice sa m.slots.length sc, .slice fa m.refs.length fc, .slice na m.snaps.length nc] 26)).alloc (.cells #[.string nm] 9)).alloc (.cells #[.int .i64 0, .slice none 0 0, .slice none 0 0, .slice none 0 0, .slice none 0 0] 26)) ∧ (((w.alloc (.cells #[.int .i64 m.guest, .slice ra m.root.length rc, .slice sa m.slots.length sc, .slice fa m.refs.length fc, .slice na m.snaps.length nc] 26)).alloc (.cells #[.string nm] 9)).alloc (.cells #[.int .i64 0, .slice none 0 0, .slice none 0 0, .slice none 0 0, .slice none 0 0] 26)).heap.size = w.heap.size + 1 + 1 + 1) ∧ (((w.alloc (.cells #[.int .i64 m.guest, .slice ra m.root.length rc, .slice sa m.slots.length sc, .slice fa m.refs.length fc, .slice na m.snaps.length nc] 26)).alloc (.cells #[.string nm] 9)).alloc (.cells #[.int .i64 0, .slice none 0 0, .slice none 0 0, .slice none 0 0, .slice none 0 0] 26)).heap[w.heap.size]? = some (.cells #[.int .i64 m.guest, .slice ra m.root.length rc, .slice sa m.slots.length sc, .slice fa m.refs.length fc, .slice na m.snaps.length nc] 26) ∧ (((w.alloc (.cells #[.int .i64 m.guest, .slice ra m.root.length rc, .slice sa m.slots.length sc, .slice fa m.refs.length fc, .slice na m.snaps.length nc] 26)).alloc (.cells #[.string nm] 9)).alloc (.cells #[.int .i64 0, .slice none 0 0, .slice none 0 0, .slice none 0 0, .slice none 0 0] 26)).heap[w.heap.size + 1]? = some (.cells #[.string nm] 9) ∧ (((w.alloc (.cells #[.int .i64 m.guest, .slice ra m.root.length rc, .slice sa m.slots.length sc, .slice fa m.refs.length fc, .slice na m.snaps.length nc] 26)).alloc (.cells #[.string nm] 9)).alloc (.cells #[.int .i64 0, .slice none 0 0, .slice none 0 0, .slice none 0 0, .slice none 0 0] 26)).heap[w.heap.size + 1 + 1]? = some (.cells #[.int .i64 0, .slice none 0 0, .slice none 0 0, .slice none 0 0, .slice none 0 0] 26)) := ⟨⟨b0, hz⟩, m0, m1, m2⟩
  clear h m0 m1 m2 hz b0
  go_enter Try.func8, Try.ntmps8
  go_wp2_with (first
    | (go_at_call 12; refine hchk.mono ?_; rintro e w1 ⟨rfl, b1⟩; have BB := b1; clear b1; have k3 := cells_below HM.out.2.2.2 BB (by rw [HM.out.1.2]; omega); obtain ⟨z0, z1, z2, z3, z4⟩ := five k3; have y0 := cells_frozen k3 0; have y1 := cells_frozen k3 1; have y2 := cells_frozen k3 2; have y3 := cells_frozen k3 3; have y4 := cells_frozen k3 4; have HB : Hid (Below w.heap.size w w1) := Below.on HM.out.1.1 BB; have hsz : w.heap.size + 1 + 1 + 1 ≤ w1.heap.size := (by have := BB.size; rw [HM.out.1.2] at this; omega); clear k3))
  have i1 : w.heap.size ≤ w.heap.size + 1 + 1 := by omega
  refine bodyPost_ret (v := .tuple #[.agg #[.int .i64 0, .slice none 0 0, .slice none 0 0, .slice none 0 0, .slice none 0 0], .int .i64 E]) (by simp [results, Try.results8, go_sem, z0, z1, z2, z3, z4]) rfl (AnsI.bad E (((((HB.out.setCell i1 _).setCell i1 _).setCell i1 _).setCell i1 _).setCell i1 _))

set_option maxHeartbeats 4000000 in
theorem create_name_at (m : ImgD) (ra : Option Addr) (rc : Nat) (sa : Option Addr) (sc : Nat) (fa : Option Addr) (fc : Nat) (na : Option Addr) (nc : Nat) (nm : ByteArray) (w : World) (h : Img w (.agg #[.int .i64 m.guest, .slice ra m.root.length rc, .slice sa m.slots.length sc, .slice fa m.refs.length fc, .slice na m.snaps.length nc]) m) (hE : checkE m = 0) (hNm : isNm nm = false) :
    Calls Try.prog 8 #[.agg #[.int .i64 m.guest, .slice ra m.root.length rc, .slice sa m.slots.length sc, .slice fa m.refs.length fc, .slice na m.snaps.length nc], .string nm] w (AnsI w w.heap.size imgZ 4) := by
  have b0 : Below w.heap.size w (((w.alloc (.cells #[.int .i64 m.guest, .slice ra m.root.length rc, .slice sa m.slots.length sc, .slice fa m.refs.length fc, .slice na m.snaps.length nc] 26)).alloc (.cells #[.string nm] 9)).alloc (.cells #[.int .i64 0, .slice none 0 0, .slice none 0 0, .slice none 0 0, .slice none 0 0] 26)) := (((Below.refl _ _).alloc (by simp; try omega) _).alloc (by simp; try omega) _).alloc (by simp; try omega) _
  have q0 : (w.alloc (.cells #[.int .i64 m.guest, .slice ra m.root.length rc, .slice sa m.slots.length sc, .slice fa m.refs.length fc, .slice na m.snaps.length nc] 26)).heap[w.heap.size]? = some (.cells #[.int .i64 m.guest, .slice ra m.root.length rc, .slice sa m.slots.length sc, .slice fa m.refs.length fc, .slice na m.snaps.length nc] 26) := by have := World.alloc_heap_new w (.cells #[.int .i64 m.guest, .slice ra m.root.length rc, .slice sa m.slots.length sc, .slice fa m.refs.length fc, .slice na m.snaps.length nc] 26); simpa using this
  have m0 : (((w.alloc (.cells #[.int .i64 m.guest, .slice ra m.root.length rc, .slice sa m.slots.length sc, .slice fa m.refs.length fc, .slice na m.snaps.length nc] 26)).alloc (.cells #[.string nm] 9)).alloc (.cells #[.int .i64 0, .slice none 0 0, .slice none 0 0, .slice none 0 0, .slice none 0 0] 26)).heap[w.heap.size]? = some (.cells #[.int .i64 m.guest, .slice ra m.root.length rc, .slice sa m.slots.length sc, .slice fa m.refs.length fc, .slice na m.snaps.length nc] 26) := (cells_alloc (cells_alloc q0 _) _)
  have q1 : ((w.alloc (.cells #[.int .i64 m.guest, .slice ra m.root.length rc, .slice sa m.slots.length sc, .slice fa m.refs.length fc, .slice na m.snaps.length nc] 26)).alloc (.cells #[.string nm] 9)).heap[w.heap.size + 1]? = some (.cells #[.string nm] 9) := by have := World.alloc_heap_new (w.alloc (.cells #[.int .i64 m.guest, .slice ra m.root.length rc, .slice sa m.slots.length sc, .slice fa m.refs.length fc, .slice na m.snaps.length nc] 26)) (.cells #[.string nm] 9); simpa using this
  have m1 : (((w.alloc (.cells #[.int .i64 m.guest, .slice ra m.root.length rc, .slice sa m.slots.length sc, .slice fa m.refs.length fc, .slice na m.snaps.length nc] 26)).alloc (.cells #[.string nm] 9)).alloc (.cells #[.int .i64 0, .slice none 0 0, .slice none 0 0, .slice none 0 0, .slice none 0 0] 26)).heap[w.heap.size + 1]? = some (.cells #[.string nm] 9) := (cells_alloc q1 _)
  have q2 : (((w.alloc (.cells #[.int .i64 m.guest, .slice ra m.root.length rc, .slice sa m.slots.length sc, .slice fa m.refs.length fc, .slice na m.snaps.length nc] 26)).alloc (.cells #[.string nm] 9)).alloc (.cells #[.int .i64 0, .slice none 0 0, .slice none 0 0, .slice none 0 0, .slice none 0 0] 26)).heap[w.heap.size + 1 + 1]? = some (.cells #[.int .i64 0, .slice none 0 0, .slice none 0 0, .slice none 0 0, .slice none 0 0] 26) := by have := World.alloc_heap_new ((w.alloc (.cells #[.int .i64 m.guest, .slice ra m.root.length rc, .slice sa m.slots.length sc, .slice fa m.refs.length fc, .slice na m.snaps.length nc] 26)).alloc (.cells #[.string nm] 9)) (.cells #[.int .i64 0, .slice none 0 0, .slice none 0 0, .slice none 0 0, .slice none 0 0] 26); simpa using this
  have m2 : (((w.alloc (.cells #[.int .i64 m.guest, .slice ra m.root.length rc, .slice sa m.slots.length sc, .slice fa m.refs.length fc, .slice na m.snaps.length nc] 26)).alloc (.cells #[.string nm] 9)).alloc (.cells #[.int .i64 0, .slice none 0 0, .slice none 0 0, .slice none 0 0, .slice none 0 0] 26)).heap[w.heap.size + 1 + 1]? = some (.cells #[.int .i64 0, .slice none 0 0, .slice none 0 0, .slice none 0 0, .slice none 0 0] 26) := q2
  have hz : (((w.alloc (.cells #[.int .i64 m.guest, .slice ra m.root.length rc, .slice sa m.slots.length sc, .slice fa m.refs.length fc, .slice na m.snaps.length nc] 26)).alloc (.cells #[.string nm] 9)).alloc (.cells #[.int .i64 0, .slice none 0 0, .slice none 0 0, .slice none 0 0, .slice none 0 0] 26)).heap.size = w.heap.size + 1 + 1 + 1 := by simp
  clear q0 q1 q2
  have hchk := tcheck_is (h.below b0) hE
  obtain ⟨c0, c1, c2, c3, c4⟩ := five m0
  have HM : Hid ((Below w.heap.size w (((w.alloc (.cells #[.int .i64 m.guest, .slice ra m.root.length rc, .slice sa m.slots.length sc, .slice fa m.refs.length fc, .slice na m.snaps.length nc] 26)).alloc (.cells #[.string nm] 9)).alloc (.cells #[.int .i64 0, .slice none 0 0, .slice none 0 0, .slice none 0 0, .slice none 0 0] 26)) ∧ (((w.alloc (.cells #[.int .i64 m.guest, .slice ra m.root.length rc, .slice sa m.slots.length sc, .slice fa m.refs.length fc, .slice na m.snaps.length nc] 26)).alloc (.cells #[.string nm] 9)).alloc (.cells #[.int .i64 0, .slice none 0 0, .slice none 0 0, .slice none 0 0, .slice none 0 0] 26)).heap.size = w.heap.size + 1 + 1 + 1) ∧ (((w.alloc (.cells #[.int .i64 m.guest, .slice ra m.root.length rc, .slice sa m.slots.length sc, .slice fa m.refs.length fc, .slice na m.snaps.length nc] 26)).alloc (.cells #[.string nm] 9)).alloc (.cells #[.int .i64 0, .slice none 0 0, .slice none 0 0, .slice none 0 0, .slice none 0 0] 26)).heap[w.heap.size]? = some (.cells #[.int .i64 m.guest, .slice ra m.root.length rc, .slice sa m.slots.length sc, .slice fa m.refs.length fc, .slice na m.snaps.length nc] 26) ∧ (((w.alloc (.cells #[.int .i64 m.guest, .slice ra m.root.length rc, .slice sa m.slots.length sc, .slice fa m.refs.length fc, .slice na m.snaps.length nc] 26)).alloc (.cells #[.string nm] 9)).alloc (.cells #[.int .i64 0, .slice none 0 0, .slice none 0 0, .slice none 0 0, .slice none 0 0] 26)).heap[w.heap.size + 1]? = some (.cells #[.string nm] 9) ∧ (((w.alloc (.cells #[.int .i64 m.guest, .slice ra m.root.length rc, .slice sa m.slots.length sc, .slice fa m.refs.length fc, .slice na m.snaps.length nc] 26)).alloc (.cells #[.string nm] 9)).alloc (.cells #[.int .i64 0, .slice none 0 0, .slice none 0 0, .slice none 0 0, .slice none 0 0] 26)).heap[w.heap.size + 1 + 1]? = some (.cells #[.int .i64 0, .slice none 0 0, .slice none 0 0, .slice none 0 0, .slice none 0 0] 26)) := ⟨⟨b0, hz⟩, m0, m1, m2⟩
  clear h m0 m1 m2 hz b0
  go_enter Try.func8, Try.ntmps8
  go_wp2_with (first
    | (go_at_call 29; refine (isName_is _ hNm).mono ?_; rintro e w2 ⟨rfl, b2⟩; have BB := Below.on b1 b2; clear b1 b2; have k3 := cells_below HM.out.2.2.2 BB (by rw [HM.out.1.2]; omega); obtain ⟨z0, z1, z2, z3, z4⟩ := five k3; have y0 := cells_frozen k3 0; have y1 := cells_frozen k3 1; have y2 := cells_frozen k3 2; have y3 := cells_frozen k3 3; have y4 := cells_frozen k3 4; have HB : Hid (Below w.heap.size w w2) := Below.on HM.out.1.1 BB; have hsz : w.heap.size + 1 + 1 + 1 ≤ w2.heap.size := (by have := BB.size; rw [HM.out.1.2] at this; omega); clear k3)
    | (go_at_call 12; refine hchk.mono ?_; rintro e w1 ⟨rfl, b1⟩; have cn := oneN (cells_below HM.out.2.2.1 b1 (by rw [HM.out.1.2]; omega)); have dx := cells_below HM.out.2.1 b1 (by rw [HM.out.1.2]; omega); obtain ⟨d0, d1, d2, d3, d4⟩ := five dx))
  have i1 : w.heap.size ≤ w.heap.size + 1 + 1 := by omega
  refine bodyPost_ret (v := .tuple #[.agg #[.int .i64 0, .slice none 0 0, .slice none 0 0, .slice none 0 0, .slice none 0 0], .int .i64 4]) (by simp [results, Try.results8, go_sem, z0, z1, z2, z3, z4]) rfl (AnsI.bad 4 (((((HB.out.setCell i1 _).setCell i1 _).setCell i1 _).setCell i1 _).setCell i1 _))

set_option maxHeartbeats 4000000 in
theorem create_there_at (m : ImgD) (ra : Option Addr) (rc : Nat) (sa : Option Addr) (sc : Nat) (fa : Option Addr) (fc : Nat) (na : Option Addr) (nc : Nat) (nm : ByteArray) (k : Nat) (w : World) (h : Img w (.agg #[.int .i64 m.guest, .slice ra m.root.length rc, .slice sa m.slots.length sc, .slice fa m.refs.length fc, .slice na m.snaps.length nc]) m) (hE : checkE m = 0) (hNm : isNm nm = true) (hk : posS m.snaps nm = k) (hx : (snapIx m.snaps nm).isSome = true) :
    Calls Try.prog 8 #[.agg #[.int .i64 m.guest, .slice ra m.root.length rc, .slice sa m.slots.length sc, .slice fa m.refs.length fc, .slice na m.snaps.length nc], .string nm] w (AnsI w w.heap.size imgZ 6) := by
  have b0 : Below w.heap.size w (((w.alloc (.cells #[.int .i64 m.guest, .slice ra m.root.length rc, .slice sa m.slots.length sc, .slice fa m.refs.length fc, .slice na m.snaps.length nc] 26)).alloc (.cells #[.string nm] 9)).alloc (.cells #[.int .i64 0, .slice none 0 0, .slice none 0 0, .slice none 0 0, .slice none 0 0] 26)) := (((Below.refl _ _).alloc (by simp; try omega) _).alloc (by simp; try omega) _).alloc (by simp; try omega) _
  have q0 : (w.alloc (.cells #[.int .i64 m.guest, .slice ra m.root.length rc, .slice sa m.slots.length sc, .slice fa m.refs.length fc, .slice na m.snaps.length nc] 26)).heap[w.heap.size]? = some (.cells #[.int .i64 m.guest, .slice ra m.root.length rc, .slice sa m.slots.length sc, .slice fa m.refs.length fc, .slice na m.snaps.length nc] 26) := by have := World.alloc_heap_new w (.cells #[.int .i64 m.guest, .slice ra m.root.length rc, .slice sa m.slots.length sc, .slice fa m.refs.length fc, .slice na m.snaps.length nc] 26); simpa using this
  have m0 : (((w.alloc (.cells #[.int .i64 m.guest, .slice ra m.root.length rc, .slice sa m.slots.length sc, .slice fa m.refs.length fc, .slice na m.snaps.length nc] 26)).alloc (.cells #[.string nm] 9)).alloc (.cells #[.int .i64 0, .slice none 0 0, .slice none 0 0, .slice none 0 0, .slice none 0 0] 26)).heap[w.heap.size]? = some (.cells #[.int .i64 m.guest, .slice ra m.root.length rc, .slice sa m.slots.length sc, .slice fa m.refs.length fc, .slice na m.snaps.length nc] 26) := (cells_alloc (cells_alloc q0 _) _)
  have q1 : ((w.alloc (.cells #[.int .i64 m.guest, .slice ra m.root.length rc, .slice sa m.slots.length sc, .slice fa m.refs.length fc, .slice na m.snaps.length nc] 26)).alloc (.cells #[.string nm] 9)).heap[w.heap.size + 1]? = some (.cells #[.string nm] 9) := by have := World.alloc_heap_new (w.alloc (.cells #[.int .i64 m.guest, .slice ra m.root.length rc, .slice sa m.slots.length sc, .slice fa m.refs.length fc, .slice na m.snaps.length nc] 26)) (.cells #[.string nm] 9); simpa using this
  have m1 : (((w.alloc (.cells #[.int .i64 m.guest, .slice ra m.root.length rc, .slice sa m.slots.length sc, .slice fa m.refs.length fc, .slice na m.snaps.length nc] 26)).alloc (.cells #[.string nm] 9)).alloc (.cells #[.int .i64 0, .slice none 0 0, .slice none 0 0, .slice none 0 0, .slice none 0 0] 26)).heap[w.heap.size + 1]? = some (.cells #[.string nm] 9) := (cells_alloc q1 _)
  have q2 : (((w.alloc (.cells #[.int .i64 m.guest, .slice ra m.root.length rc, .slice sa m.slots.length sc, .slice fa m.refs.length fc, .slice na m.snaps.length nc] 26)).alloc (.cells #[.string nm] 9)).alloc (.cells #[.int .i64 0, .slice none 0 0, .slice none 0 0, .slice none 0 0, .slice none 0 0] 26)).heap[w.heap.size + 1 + 1]? = some (.cells #[.int .i64 0, .slice none 0 0, .slice none 0 0, .slice none 0 0, .slice none 0 0] 26) := by have := World.alloc_heap_new ((w.alloc (.cells #[.int .i64 m.guest, .slice ra m.root.length rc, .slice sa m.slots.length sc, .slice fa m.refs.length fc, .slice na m.snaps.length nc] 26)).alloc (.cells #[.string nm] 9)) (.cells #[.int .i64 0, .slice none 0 0, .slice none 0 0, .slice none 0 0, .slice none 0 0] 26); simpa using this
  have m2 : (((w.alloc (.cells #[.int .i64 m.guest, .slice ra m.root.length rc, .slice sa m.slots.length sc, .slice fa m.refs.length fc, .slice na m.snaps.length nc] 26)).alloc (.cells #[.string nm] 9)).alloc (.cells #[.int .i64 0, .slice none 0 0, .slice none 0 0, .slice none 0 0, .slice none 0 0] 26)).heap[w.heap.size + 1 + 1]? = some (.cells #[.int .i64 0, .slice none 0 0, .slice none 0 0, .slice none 0 0, .slice none 0 0] 26) := q2
  have hz : (((w.alloc (.cells #[.int .i64 m.guest, .slice ra m.root.length rc, .slice sa m.slots.length sc, .slice fa m.refs.length fc, .slice na m.snaps.length nc] 26)).alloc (.cells #[.string nm] 9)).alloc (.cells #[.int .i64 0, .slice none 0 0, .slice none 0 0, .slice none 0 0, .slice none 0 0] 26)).heap.size = w.heap.size + 1 + 1 + 1 := by simp
  clear q0 q1 q2
  have hchk := tcheck_is (h.below b0) hE
  have hF4 := h.four.2.2.2
  have hNP := (namesOK_iff _).1 (shapeE_zero (checkE_shape hE)).2.2.2.1
  have h3l := (shapeE_zero (checkE_shape hE)).1
  have HF : Hid (∀ w2, Below (((w.alloc (.cells #[.int .i64 m.guest, .slice ra m.root.length rc, .slice sa m.slots.length sc, .slice fa m.refs.length fc, .slice na m.snaps.length nc] 26)).alloc (.cells #[.string nm] 9)).alloc (.cells #[.int .i64 0, .slice none 0 0, .slice none 0 0, .slice none 0 0, .slice none 0 0] 26)).heap.size (((w.alloc (.cells #[.int .i64 m.guest, .slice ra m.root.length rc, .slice sa m.slots.length sc, .slice fa m.refs.length fc, .slice na m.snaps.length nc] 26)).alloc (.cells #[.string nm] 9)).alloc (.cells #[.int .i64 0, .slice none 0 0, .slice none 0 0, .slice none 0 0, .slice none 0 0] 26)) w2 → Calls Try.prog 30 #[.slice na m.snaps.length nc, .string nm] w2 fun r w' => r = .returned (.tuple #[.int .i64 (k : Int), .bool true]) ∧ Below w2.heap.size w2 w') := fun w2 hb2 => find_is ((hF4.below b0).below hb2) hNP h3l nm hk hx
  clear hF4 hNP h3l
  obtain ⟨c0, c1, c2, c3, c4⟩ := five m0
  have HM : Hid ((Below w.heap.size w (((w.alloc (.cells #[.int .i64 m.guest, .slice ra m.root.length rc, .slice sa m.slots.length sc, .slice fa m.refs.length fc, .slice na m.snaps.length nc] 26)).alloc (.cells #[.string nm] 9)).alloc (.cells #[.int .i64 0, .slice none 0 0, .slice none 0 0, .slice none 0 0, .slice none 0 0] 26)) ∧ (((w.alloc (.cells #[.int .i64 m.guest, .slice ra m.root.length rc, .slice sa m.slots.length sc, .slice fa m.refs.length fc, .slice na m.snaps.length nc] 26)).alloc (.cells #[.string nm] 9)).alloc (.cells #[.int .i64 0, .slice none 0 0, .slice none 0 0, .slice none 0 0, .slice none 0 0] 26)).heap.size = w.heap.size + 1 + 1 + 1) ∧ (((w.alloc (.cells #[.int .i64 m.guest, .slice ra m.root.length rc, .slice sa m.slots.length sc, .slice fa m.refs.length fc, .slice na m.snaps.length nc] 26)).alloc (.cells #[.string nm] 9)).alloc (.cells #[.int .i64 0, .slice none 0 0, .slice none 0 0, .slice none 0 0, .slice none 0 0] 26)).heap[w.heap.size]? = some (.cells #[.int .i64 m.guest, .slice ra m.root.length rc, .slice sa m.slots.length sc, .slice fa m.refs.length fc, .slice na m.snaps.length nc] 26) ∧ (((w.alloc (.cells #[.int .i64 m.guest, .slice ra m.root.length rc, .slice sa m.slots.length sc, .slice fa m.refs.length fc, .slice na m.snaps.length nc] 26)).alloc (.cells #[.string nm] 9)).alloc (.cells #[.int .i64 0, .slice none 0 0, .slice none 0 0, .slice none 0 0, .slice none 0 0] 26)).heap[w.heap.size + 1]? = some (.cells #[.string nm] 9) ∧ (((w.alloc (.cells #[.int .i64 m.guest, .slice ra m.root.length rc, .slice sa m.slots.length sc, .slice fa m.refs.length fc, .slice na m.snaps.length nc] 26)).alloc (.cells #[.string nm] 9)).alloc (.cells #[.int .i64 0, .slice none 0 0, .slice none 0 0, .slice none 0 0, .slice none 0 0] 26)).heap[w.heap.size + 1 + 1]? = some (.cells #[.int .i64 0, .slice none 0 0, .slice none 0 0, .slice none 0 0, .slice none 0 0] 26)) := ⟨⟨b0, hz⟩, m0, m1, m2⟩
  clear h m0 m1 m2 hz b0
  go_enter Try.func8, Try.ntmps8
  go_wp2_with (first
    | (go_at_call 30; refine (HF.out _ b12).mono ?_; rintro e w5 ⟨rfl, bf⟩; have BB := Below.on b12 bf; clear b12 bf; have gx := cells_alloc (cells_below HM.out.2.1 BB (by rw [HM.out.1.2]; omega)) (.cells #[.int .i64 (k : Int)] 3); obtain ⟨g0, g1, g2, g3, g4⟩ := five gx; have k3 := cells_alloc (cells_below HM.out.2.2.2 BB (by rw [HM.out.1.2]; omega)) (.cells #[.int .i64 (k : Int)] 3); obtain ⟨z0, z1, z2, z3, z4⟩ := five k3; have y0 := cells_frozen k3 0; have y1 := cells_frozen k3 1; have y2 := cells_frozen k3 2; have y3 := cells_frozen k3 3; have y4 := cells_frozen k3 4; have HB : Hid (Below w.heap.size w (w5.alloc (.cells #[.int .i64 (k : Int)] 3))) := (Below.on HM.out.1.1 BB).alloc (by have := BB.size; rw [HM.out.1.2] at this; omega) _; have hsz : w.heap.size + 1 + 1 + 1 ≤ w5.heap.size := (by have := BB.size; rw [HM.out.1.2] at this; omega); clear k3)
    | (go_at_call 29; refine (isName_is _ hNm).mono ?_; rintro e w2 ⟨rfl, b2⟩; have b12 := Below.on b1 b2; clear b1 b2; have cn2 := oneN (cells_below HM.out.2.2.1 b12 (by rw [HM.out.1.2]; omega)); have fx := cells_below HM.out.2.1 b12 (by rw [HM.out.1.2]; omega); obtain ⟨f0, f1, f2, f3, f4⟩ := five fx)
    | (go_at_call 12; refine hchk.mono ?_; rintro e w1 ⟨rfl, b1⟩; have cn := oneN (cells_below HM.out.2.2.1 b1 (by rw [HM.out.1.2]; omega)); have dx := cells_below HM.out.2.1 b1 (by rw [HM.out.1.2]; omega); obtain ⟨d0, d1, d2, d3, d4⟩ := five dx))
  have i1 : w.heap.size ≤ w.heap.size + 1 + 1 := by omega
  refine bodyPost_ret (v := .tuple #[.agg #[.int .i64 0, .slice none 0 0, .slice none 0 0, .slice none 0 0, .slice none 0 0], .int .i64 6]) (by simp [results, Try.results8, go_sem, z0, z1, z2, z3, z4]) rfl (AnsI.bad 6 (((((HB.out.setCell i1 _).setCell i1 _).setCell i1 _).setCell i1 _).setCell i1 _))

set_option maxHeartbeats 4000000 in
theorem create_many_at (m : ImgD) (ra : Option Addr) (rc : Nat) (sa : Option Addr) (sc : Nat) (fa : Option Addr) (fc : Nat) (na : Option Addr) (nc : Nat) (nm : ByteArray) (k : Nat) (w : World) (h : Img w (.agg #[.int .i64 m.guest, .slice ra m.root.length rc, .slice sa m.slots.length sc, .slice fa m.refs.length fc, .slice na m.snaps.length nc]) m) (hE : checkE m = 0) (hNm : isNm nm = true) (hk : posS m.snaps nm = k) (hx : (snapIx m.snaps nm).isSome = false) (h3 : m.snaps.length = 3) :
    Calls Try.prog 8 #[.agg #[.int .i64 m.guest, .slice ra m.root.length rc, .slice sa m.slots.length sc, .slice fa m.refs.length fc, .slice na m.snaps.length nc], .string nm] w (AnsI w w.heap.size imgZ 2) := by
  have b0 : Below w.heap.size w (((w.alloc (.cells #[.int .i64 m.guest, .slice ra m.root.length rc, .slice sa m.slots.length sc, .slice fa m.refs.length fc, .slice na m.snaps.length nc] 26)).alloc (.cells #[.string nm] 9)).alloc (.cells #[.int .i64 0, .slice none 0 0, .slice none 0 0, .slice none 0 0, .slice none 0 0] 26)) := (((Below.refl _ _).alloc (by simp; try omega) _).alloc (by simp; try omega) _).alloc (by simp; try omega) _
  have q0 : (w.alloc (.cells #[.int .i64 m.guest, .slice ra m.root.length rc, .slice sa m.slots.length sc, .slice fa m.refs.length fc, .slice na m.snaps.length nc] 26)).heap[w.heap.size]? = some (.cells #[.int .i64 m.guest, .slice ra m.root.length rc, .slice sa m.slots.length sc, .slice fa m.refs.length fc, .slice na m.snaps.length nc] 26) := by have := World.alloc_heap_new w (.cells #[.int .i64 m.guest, .slice ra m.root.length rc, .slice sa m.slots.length sc, .slice fa m.refs.length fc, .slice na m.snaps.length nc] 26); simpa using this
  have m0 : (((w.alloc (.cells #[.int .i64 m.guest, .slice ra m.root.length rc, .slice sa m.slots.length sc, .slice fa m.refs.length fc, .slice na m.snaps.length nc] 26)).alloc (.cells #[.string nm] 9)).alloc (.cells #[.int .i64 0, .slice none 0 0, .slice none 0 0, .slice none 0 0, .slice none 0 0] 26)).heap[w.heap.size]? = some (.cells #[.int .i64 m.guest, .slice ra m.root.length rc, .slice sa m.slots.length sc, .slice fa m.refs.length fc, .slice na m.snaps.length nc] 26) := (cells_alloc (cells_alloc q0 _) _)
  have q1 : ((w.alloc (.cells #[.int .i64 m.guest, .slice ra m.root.length rc, .slice sa m.slots.length sc, .slice fa m.refs.length fc, .slice na m.snaps.length nc] 26)).alloc (.cells #[.string nm] 9)).heap[w.heap.size + 1]? = some (.cells #[.string nm] 9) := by have := World.alloc_heap_new (w.alloc (.cells #[.int .i64 m.guest, .slice ra m.root.length rc, .slice sa m.slots.length sc, .slice fa m.refs.length fc, .slice na m.snaps.length nc] 26)) (.cells #[.string nm] 9); simpa using this
  have m1 : (((w.alloc (.cells #[.int .i64 m.guest, .slice ra m.root.length rc, .slice sa m.slots.length sc, .slice fa m.refs.length fc, .slice na m.snaps.length nc] 26)).alloc (.cells #[.string nm] 9)).alloc (.cells #[.int .i64 0, .slice none 0 0, .slice none 0 0, .slice none 0 0, .slice none 0 0] 26)).heap[w.heap.size + 1]? = some (.cells #[.string nm] 9) := (cells_alloc q1 _)
  have q2 : (((w.alloc (.cells #[.int .i64 m.guest, .slice ra m.root.length rc, .slice sa m.slots.length sc, .slice fa m.refs.length fc, .slice na m.snaps.length nc] 26)).alloc (.cells #[.string nm] 9)).alloc (.cells #[.int .i64 0, .slice none 0 0, .slice none 0 0, .slice none 0 0, .slice none 0 0] 26)).heap[w.heap.size + 1 + 1]? = some (.cells #[.int .i64 0, .slice none 0 0, .slice none 0 0, .slice none 0 0, .slice none 0 0] 26) := by have := World.alloc_heap_new ((w.alloc (.cells #[.int .i64 m.guest, .slice ra m.root.length rc, .slice sa m.slots.length sc, .slice fa m.refs.length fc, .slice na m.snaps.length nc] 26)).alloc (.cells #[.string nm] 9)) (.cells #[.int .i64 0, .slice none 0 0, .slice none 0 0, .slice none 0 0, .slice none 0 0] 26); simpa using this
  have m2 : (((w.alloc (.cells #[.int .i64 m.guest, .slice ra m.root.length rc, .slice sa m.slots.length sc, .slice fa m.refs.length fc, .slice na m.snaps.length nc] 26)).alloc (.cells #[.string nm] 9)).alloc (.cells #[.int .i64 0, .slice none 0 0, .slice none 0 0, .slice none 0 0, .slice none 0 0] 26)).heap[w.heap.size + 1 + 1]? = some (.cells #[.int .i64 0, .slice none 0 0, .slice none 0 0, .slice none 0 0, .slice none 0 0] 26) := q2
  have hz : (((w.alloc (.cells #[.int .i64 m.guest, .slice ra m.root.length rc, .slice sa m.slots.length sc, .slice fa m.refs.length fc, .slice na m.snaps.length nc] 26)).alloc (.cells #[.string nm] 9)).alloc (.cells #[.int .i64 0, .slice none 0 0, .slice none 0 0, .slice none 0 0, .slice none 0 0] 26)).heap.size = w.heap.size + 1 + 1 + 1 := by simp
  clear q0 q1 q2
  have hchk := tcheck_is (h.below b0) hE
  have hF4 := h.four.2.2.2
  have hNP := (namesOK_iff _).1 (shapeE_zero (checkE_shape hE)).2.2.2.1
  have h3l := (shapeE_zero (checkE_shape hE)).1
  have HF : Hid (∀ w2, Below (((w.alloc (.cells #[.int .i64 m.guest, .slice ra m.root.length rc, .slice sa m.slots.length sc, .slice fa m.refs.length fc, .slice na m.snaps.length nc] 26)).alloc (.cells #[.string nm] 9)).alloc (.cells #[.int .i64 0, .slice none 0 0, .slice none 0 0, .slice none 0 0, .slice none 0 0] 26)).heap.size (((w.alloc (.cells #[.int .i64 m.guest, .slice ra m.root.length rc, .slice sa m.slots.length sc, .slice fa m.refs.length fc, .slice na m.snaps.length nc] 26)).alloc (.cells #[.string nm] 9)).alloc (.cells #[.int .i64 0, .slice none 0 0, .slice none 0 0, .slice none 0 0, .slice none 0 0] 26)) w2 → Calls Try.prog 30 #[.slice na m.snaps.length nc, .string nm] w2 fun r w' => r = .returned (.tuple #[.int .i64 (k : Int), .bool false]) ∧ Below w2.heap.size w2 w') := fun w2 hb2 => find_is ((hF4.below b0).below hb2) hNP h3l nm hk hx
  clear hF4 hNP h3l
  have h3b : ((m.snaps.length : Int) == 3) = true := by simp; omega
  clear h3
  obtain ⟨c0, c1, c2, c3, c4⟩ := five m0
  have HM : Hid ((Below w.heap.size w (((w.alloc (.cells #[.int .i64 m.guest, .slice ra m.root.length rc, .slice sa m.slots.length sc, .slice fa m.refs.length fc, .slice na m.snaps.length nc] 26)).alloc (.cells #[.string nm] 9)).alloc (.cells #[.int .i64 0, .slice none 0 0, .slice none 0 0, .slice none 0 0, .slice none 0 0] 26)) ∧ (((w.alloc (.cells #[.int .i64 m.guest, .slice ra m.root.length rc, .slice sa m.slots.length sc, .slice fa m.refs.length fc, .slice na m.snaps.length nc] 26)).alloc (.cells #[.string nm] 9)).alloc (.cells #[.int .i64 0, .slice none 0 0, .slice none 0 0, .slice none 0 0, .slice none 0 0] 26)).heap.size = w.heap.size + 1 + 1 + 1) ∧ (((w.alloc (.cells #[.int .i64 m.guest, .slice ra m.root.length rc, .slice sa m.slots.length sc, .slice fa m.refs.length fc, .slice na m.snaps.length nc] 26)).alloc (.cells #[.string nm] 9)).alloc (.cells #[.int .i64 0, .slice none 0 0, .slice none 0 0, .slice none 0 0, .slice none 0 0] 26)).heap[w.heap.size]? = some (.cells #[.int .i64 m.guest, .slice ra m.root.length rc, .slice sa m.slots.length sc, .slice fa m.refs.length fc, .slice na m.snaps.length nc] 26) ∧ (((w.alloc (.cells #[.int .i64 m.guest, .slice ra m.root.length rc, .slice sa m.slots.length sc, .slice fa m.refs.length fc, .slice na m.snaps.length nc] 26)).alloc (.cells #[.string nm] 9)).alloc (.cells #[.int .i64 0, .slice none 0 0, .slice none 0 0, .slice none 0 0, .slice none 0 0] 26)).heap[w.heap.size + 1]? = some (.cells #[.string nm] 9) ∧ (((w.alloc (.cells #[.int .i64 m.guest, .slice ra m.root.length rc, .slice sa m.slots.length sc, .slice fa m.refs.length fc, .slice na m.snaps.length nc] 26)).alloc (.cells #[.string nm] 9)).alloc (.cells #[.int .i64 0, .slice none 0 0, .slice none 0 0, .slice none 0 0, .slice none 0 0] 26)).heap[w.heap.size + 1 + 1]? = some (.cells #[.int .i64 0, .slice none 0 0, .slice none 0 0, .slice none 0 0, .slice none 0 0] 26)) := ⟨⟨b0, hz⟩, m0, m1, m2⟩
  clear h m0 m1 m2 hz b0
  go_enter Try.func8, Try.ntmps8
  go_wp2_with (first
    | (go_at_call 30; refine (HF.out _ b12).mono ?_; rintro e w5 ⟨rfl, bf⟩; have BB := Below.on b12 bf; clear b12 bf; have gx := cells_alloc (cells_below HM.out.2.1 BB (by rw [HM.out.1.2]; omega)) (.cells #[.int .i64 (k : Int)] 3); obtain ⟨g0, g1, g2, g3, g4⟩ := five gx; have k3 := cells_alloc (cells_below HM.out.2.2.2 BB (by rw [HM.out.1.2]; omega)) (.cells #[.int .i64 (k : Int)] 3); obtain ⟨z0, z1, z2, z3, z4⟩ := five k3; have y0 := cells_frozen k3 0; have y1 := cells_frozen k3 1; have y2 := cells_frozen k3 2; have y3 := cells_frozen k3 3; have y4 := cells_frozen k3 4; have HB : Hid (Below w.heap.size w (w5.alloc (.cells #[.int .i64 (k : Int)] 3))) := (Below.on HM.out.1.1 BB).alloc (by have := BB.size; rw [HM.out.1.2] at this; omega) _; have hsz : w.heap.size + 1 + 1 + 1 ≤ w5.heap.size := (by have := BB.size; rw [HM.out.1.2] at this; omega); clear k3)
    | (go_at_call 29; refine (isName_is _ hNm).mono ?_; rintro e w2 ⟨rfl, b2⟩; have b12 := Below.on b1 b2; clear b1 b2; have cn2 := oneN (cells_below HM.out.2.2.1 b12 (by rw [HM.out.1.2]; omega)); have fx := cells_below HM.out.2.1 b12 (by rw [HM.out.1.2]; omega); obtain ⟨f0, f1, f2, f3, f4⟩ := five fx)
    | (go_at_call 12; refine hchk.mono ?_; rintro e w1 ⟨rfl, b1⟩; have cn := oneN (cells_below HM.out.2.2.1 b1 (by rw [HM.out.1.2]; omega)); have dx := cells_below HM.out.2.1 b1 (by rw [HM.out.1.2]; omega); obtain ⟨d0, d1, d2, d3, d4⟩ := five dx))
  have i1 : w.heap.size ≤ w.heap.size + 1 + 1 := by omega
  refine bodyPost_ret (v := .tuple #[.agg #[.int .i64 0, .slice none 0 0, .slice none 0 0, .slice none 0 0, .slice none 0 0], .int .i64 2]) (by simp [results, Try.results8, go_sem, z0, z1, z2, z3, z4]) rfl (AnsI.bad 2 (((((HB.out.setCell i1 _).setCell i1 _).setCell i1 _).setCell i1 _).setCell i1 _))

set_option maxHeartbeats 4000000 in
theorem create_ok_at (m : ImgD) (ra : Option Addr) (rc : Nat) (sa : Option Addr) (sc : Nat) (fa : Option Addr) (fc : Nat) (na : Option Addr) (nc : Nat) (nm : ByteArray) (k : Nat) (w : World) (h : Img w (.agg #[.int .i64 m.guest, .slice ra m.root.length rc, .slice sa m.slots.length sc, .slice fa m.refs.length fc, .slice na m.snaps.length nc]) m) (hE : checkE m = 0) (hNm : isNm nm = true) (hk : posS m.snaps nm = k) (hx : (snapIx m.snaps nm).isSome = false) (h3 : m.snaps.length < 3) (hkl : k ≤ m.snaps.length) (hsh : shapeE (insM m k (nm, m.guest, m.root)) = 0) (M : ImgD) (hM : countedD (insM m k (nm, m.guest, m.root)) = M) :
    Calls Try.prog 8 #[.agg #[.int .i64 m.guest, .slice ra m.root.length rc, .slice sa m.slots.length sc, .slice fa m.refs.length fc, .slice na m.snaps.length nc], .string nm] w (AnsI w w.heap.size M 0) := by
  have b0 : Below w.heap.size w (((w.alloc (.cells #[.int .i64 m.guest, .slice ra m.root.length rc, .slice sa m.slots.length sc, .slice fa m.refs.length fc, .slice na m.snaps.length nc] 26)).alloc (.cells #[.string nm] 9)).alloc (.cells #[.int .i64 0, .slice none 0 0, .slice none 0 0, .slice none 0 0, .slice none 0 0] 26)) := (((Below.refl _ _).alloc (by simp; try omega) _).alloc (by simp; try omega) _).alloc (by simp; try omega) _
  have q0 : (w.alloc (.cells #[.int .i64 m.guest, .slice ra m.root.length rc, .slice sa m.slots.length sc, .slice fa m.refs.length fc, .slice na m.snaps.length nc] 26)).heap[w.heap.size]? = some (.cells #[.int .i64 m.guest, .slice ra m.root.length rc, .slice sa m.slots.length sc, .slice fa m.refs.length fc, .slice na m.snaps.length nc] 26) := by have := World.alloc_heap_new w (.cells #[.int .i64 m.guest, .slice ra m.root.length rc, .slice sa m.slots.length sc, .slice fa m.refs.length fc, .slice na m.snaps.length nc] 26); simpa using this
  have m0 : (((w.alloc (.cells #[.int .i64 m.guest, .slice ra m.root.length rc, .slice sa m.slots.length sc, .slice fa m.refs.length fc, .slice na m.snaps.length nc] 26)).alloc (.cells #[.string nm] 9)).alloc (.cells #[.int .i64 0, .slice none 0 0, .slice none 0 0, .slice none 0 0, .slice none 0 0] 26)).heap[w.heap.size]? = some (.cells #[.int .i64 m.guest, .slice ra m.root.length rc, .slice sa m.slots.length sc, .slice fa m.refs.length fc, .slice na m.snaps.length nc] 26) := (cells_alloc (cells_alloc q0 _) _)
  have q1 : ((w.alloc (.cells #[.int .i64 m.guest, .slice ra m.root.length rc, .slice sa m.slots.length sc, .slice fa m.refs.length fc, .slice na m.snaps.length nc] 26)).alloc (.cells #[.string nm] 9)).heap[w.heap.size + 1]? = some (.cells #[.string nm] 9) := by have := World.alloc_heap_new (w.alloc (.cells #[.int .i64 m.guest, .slice ra m.root.length rc, .slice sa m.slots.length sc, .slice fa m.refs.length fc, .slice na m.snaps.length nc] 26)) (.cells #[.string nm] 9); simpa using this
  have m1 : (((w.alloc (.cells #[.int .i64 m.guest, .slice ra m.root.length rc, .slice sa m.slots.length sc, .slice fa m.refs.length fc, .slice na m.snaps.length nc] 26)).alloc (.cells #[.string nm] 9)).alloc (.cells #[.int .i64 0, .slice none 0 0, .slice none 0 0, .slice none 0 0, .slice none 0 0] 26)).heap[w.heap.size + 1]? = some (.cells #[.string nm] 9) := (cells_alloc q1 _)
  have q2 : (((w.alloc (.cells #[.int .i64 m.guest, .slice ra m.root.length rc, .slice sa m.slots.length sc, .slice fa m.refs.length fc, .slice na m.snaps.length nc] 26)).alloc (.cells #[.string nm] 9)).alloc (.cells #[.int .i64 0, .slice none 0 0, .slice none 0 0, .slice none 0 0, .slice none 0 0] 26)).heap[w.heap.size + 1 + 1]? = some (.cells #[.int .i64 0, .slice none 0 0, .slice none 0 0, .slice none 0 0, .slice none 0 0] 26) := by have := World.alloc_heap_new ((w.alloc (.cells #[.int .i64 m.guest, .slice ra m.root.length rc, .slice sa m.slots.length sc, .slice fa m.refs.length fc, .slice na m.snaps.length nc] 26)).alloc (.cells #[.string nm] 9)) (.cells #[.int .i64 0, .slice none 0 0, .slice none 0 0, .slice none 0 0, .slice none 0 0] 26); simpa using this
  have m2 : (((w.alloc (.cells #[.int .i64 m.guest, .slice ra m.root.length rc, .slice sa m.slots.length sc, .slice fa m.refs.length fc, .slice na m.snaps.length nc] 26)).alloc (.cells #[.string nm] 9)).alloc (.cells #[.int .i64 0, .slice none 0 0, .slice none 0 0, .slice none 0 0, .slice none 0 0] 26)).heap[w.heap.size + 1 + 1]? = some (.cells #[.int .i64 0, .slice none 0 0, .slice none 0 0, .slice none 0 0, .slice none 0 0] 26) := q2
  have hz : (((w.alloc (.cells #[.int .i64 m.guest, .slice ra m.root.length rc, .slice sa m.slots.length sc, .slice fa m.refs.length fc, .slice na m.snaps.length nc] 26)).alloc (.cells #[.string nm] 9)).alloc (.cells #[.int .i64 0, .slice none 0 0, .slice none 0 0, .slice none 0 0, .slice none 0 0] 26)).heap.size = w.heap.size + 1 + 1 + 1 := by simp
  clear q0 q1 q2
  have hchk := tcheck_is (h.below b0) hE
  have hF4 := h.four.2.2.2
  have hNP := (namesOK_iff _).1 (shapeE_zero (checkE_shape hE)).2.2.2.1
  have h3l := (shapeE_zero (checkE_shape hE)).1
  have HF : Hid (∀ w2, Below (((w.alloc (.cells #[.int .i64 m.guest, .slice ra m.root.length rc, .slice sa m.slots.length sc, .slice fa m.refs.length fc, .slice na m.snaps.length nc] 26)).alloc (.cells #[.string nm] 9)).alloc (.cells #[.int .i64 0, .slice none 0 0, .slice none 0 0, .slice none 0 0, .slice none 0 0] 26)).heap.size (((w.alloc (.cells #[.int .i64 m.guest, .slice ra m.root.length rc, .slice sa m.slots.length sc, .slice fa m.refs.length fc, .slice na m.snaps.length nc] 26)).alloc (.cells #[.string nm] 9)).alloc (.cells #[.int .i64 0, .slice none 0 0, .slice none 0 0, .slice none 0 0, .slice none 0 0] 26)) w2 → Calls Try.prog 30 #[.slice na m.snaps.length nc, .string nm] w2 fun r w' => r = .returned (.tuple #[.int .i64 (k : Int), .bool false]) ∧ Below w2.heap.size w2 w') := fun w2 hb2 => find_is ((hF4.below b0).below hb2) hNP h3l nm hk hx
  clear hF4 hNP h3l
  have h3b : ((m.snaps.length : Int) == 3) = false := by simp; omega
  have HO : Hid (∀ w5, Below (((w.alloc (.cells #[.int .i64 m.guest, .slice ra m.root.length rc, .slice sa m.slots.length sc, .slice fa m.refs.length fc, .slice na m.snaps.length nc] 26)).alloc (.cells #[.string nm] 9)).alloc (.cells #[.int .i64 0, .slice none 0 0, .slice none 0 0, .slice none 0 0, .slice none 0 0] 26)).heap.size (((w.alloc (.cells #[.int .i64 m.guest, .slice ra m.root.length rc, .slice sa m.slots.length sc, .slice fa m.refs.length fc, .slice na m.snaps.length nc] 26)).alloc (.cells #[.string nm] 9)).alloc (.cells #[.int .i64 0, .slice none 0 0, .slice none 0 0, .slice none 0 0, .slice none 0 0] 26)) w5 → Calls Try.prog 31 #[.agg #[.int .i64 m.guest, .slice ra m.root.length rc, .slice sa m.slots.length sc, .slice fa m.refs.length fc, .slice na m.snaps.length nc], .func (.func 32) #[] #[.pointer (some ⟨w.heap.size + 1, 0, none⟩), .pointer (some ⟨w5.heap.size, 0, none⟩)]] (w5.alloc (.cells #[.int .i64 (k : Int)] 3)) (AnsI (w5.alloc (.cells #[.int .i64 (k : Int)] 3)) (w5.alloc (.cells #[.int .i64 (k : Int)] 3)).heap.size M 0)) := fun w5 b5 => by
    have hsz : w.heap.size + 1 + 1 + 1 ≤ w5.heap.size := (by have := b5.size; rw [hz] at this; exact this)
    have b6 : Below (((w.alloc (.cells #[.int .i64 m.guest, .slice ra m.root.length rc, .slice sa m.slots.length sc, .slice fa m.refs.length fc, .slice na m.snaps.length nc] 26)).alloc (.cells #[.string nm] 9)).alloc (.cells #[.int .i64 0, .slice none 0 0, .slice none 0 0, .slice none 0 0, .slice none 0 0] 26)).heap.size (((w.alloc (.cells #[.int .i64 m.guest, .slice ra m.root.length rc, .slice sa m.slots.length sc, .slice fa m.refs.length fc, .slice na m.snaps.length nc] 26)).alloc (.cells #[.string nm] 9)).alloc (.cells #[.int .i64 0, .slice none 0 0, .slice none 0 0, .slice none 0 0, .slice none 0 0] 26)) (w5.alloc (.cells #[.int .i64 (k : Int)] 3)) := b5.alloc (by rw [hz]; exact hsz) _
    have hz1 : (w5.alloc (.cells #[.int .i64 (k : Int)] 3)).heap.size = w5.heap.size + 1 := by simp
    have ho := of_is (h.below (Below.on b0 b6)) (fits_of_shape (checkE_shape hE)) (enters_of Try.func32 (by kernel_rfl) rfl) (create_turn (nm := nm) (oneN (cells_below m1 b6 (by rw [hz]; omega))) (oneN (World.alloc_heap_new _ _)) (by omega) (by omega) (checkE_shape hE) hkl)
    have e1 : ofM (some (insM m k (nm, m.guest, m.root))) = M := by unfold ofM; dsimp only; rw [if_pos hsh]; exact hM
    have e2 : ofE (some (insM m k (nm, m.guest, m.root))) = 0 := hsh
    rw [e1, e2] at ho
    exact ho
  obtain ⟨c0, c1, c2, c3, c4⟩ := five m0
  have HM : Hid ((Below w.heap.size w (((w.alloc (.cells #[.int .i64 m.guest, .slice ra m.root.length rc, .slice sa m.slots.length sc, .slice fa m.refs.length fc, .slice na m.snaps.length nc] 26)).alloc (.cells #[.string nm] 9)).alloc (.cells #[.int .i64 0, .slice none 0 0, .slice none 0 0, .slice none 0 0, .slice none 0 0] 26)) ∧ (((w.alloc (.cells #[.int .i64 m.guest, .slice ra m.root.length rc, .slice sa m.slots.length sc, .slice fa m.refs.length fc, .slice na m.snaps.length nc] 26)).alloc (.cells #[.string nm] 9)).alloc (.cells #[.int .i64 0, .slice none 0 0, .slice none 0 0, .slice none 0 0, .slice none 0 0] 26)).heap.size = w.heap.size + 1 + 1 + 1) ∧ (((w.alloc (.cells #[.int .i64 m.guest, .slice ra m.root.length rc, .slice sa m.slots.length sc, .slice fa m.refs.length fc, .slice na m.snaps.length nc] 26)).alloc (.cells #[.string nm] 9)).alloc (.cells #[.int .i64 0, .slice none 0 0, .slice none 0 0, .slice none 0 0, .slice none 0 0] 26)).heap[w.heap.size]? = some (.cells #[.int .i64 m.guest, .slice ra m.root.length rc, .slice sa m.slots.length sc, .slice fa m.refs.length fc, .slice na m.snaps.length nc] 26) ∧ (((w.alloc (.cells #[.int .i64 m.guest, .slice ra m.root.length rc, .slice sa m.slots.length sc, .slice fa m.refs.length fc, .slice na m.snaps.length nc] 26)).alloc (.cells #[.string nm] 9)).alloc (.cells #[.int .i64 0, .slice none 0 0, .slice none 0 0, .slice none 0 0, .slice none 0 0] 26)).heap[w.heap.size + 1]? = some (.cells #[.string nm] 9) ∧ (((w.alloc (.cells #[.int .i64 m.guest, .slice ra m.root.length rc, .slice sa m.slots.length sc, .slice fa m.refs.length fc, .slice na m.snaps.length nc] 26)).alloc (.cells #[.string nm] 9)).alloc (.cells #[.int .i64 0, .slice none 0 0, .slice none 0 0, .slice none 0 0, .slice none 0 0] 26)).heap[w.heap.size + 1 + 1]? = some (.cells #[.int .i64 0, .slice none 0 0, .slice none 0 0, .slice none 0 0, .slice none 0 0] 26)) := ⟨⟨b0, hz⟩, m0, m1, m2⟩
  clear h m0 m1 m2 hz b0
  clear hM hsh
  go_enter Try.func8, Try.ntmps8
  go_wp2_with (first
    | (go_at_call 30; refine (HF.out _ b12).mono ?_; rintro e w5 ⟨rfl, bf⟩; have BB := Below.on b12 bf; clear b12 bf; have gx := cells_alloc (cells_below HM.out.2.1 BB (by rw [HM.out.1.2]; omega)) (.cells #[.int .i64 (k : Int)] 3); obtain ⟨g0, g1, g2, g3, g4⟩ := five gx; have hof := HO.out w5 BB; have d0 := cells_alloc (cells_below HM.out.2.1 BB (by rw [HM.out.1.2]; omega)) (.cells #[.int .i64 (k : Int)] 3); obtain ⟨x1, x2, x3, x4, x5⟩ := five d0; have ck : (w5.alloc (.cells #[.int .i64 (k : Int)] 3)).cell? ⟨w5.heap.size, 0, none⟩ = some (.int .i64 (k : Int)) := oneN (World.alloc_heap_new _ _); have HV : Hid (Below w.heap.size w (w5.alloc (.cells #[.int .i64 (k : Int)] 3)) ∧ (w5.alloc (.cells #[.int .i64 (k : Int)] 3)).heap[w.heap.size + 1 + 1]? = some (.cells #[.int .i64 0, .slice none 0 0, .slice none 0 0, .slice none 0 0, .slice none 0 0] 26) ∧ w.heap.size + 1 + 1 < (w5.alloc (.cells #[.int .i64 (k : Int)] 3)).heap.size) := ⟨(Below.on HM.out.1.1 BB).alloc (by have := BB.size; rw [HM.out.1.2] at this; omega) _, cells_alloc (cells_below HM.out.2.2.2 BB (by rw [HM.out.1.2]; omega)) _, (by have := BB.size; rw [HM.out.1.2] at this; have hz1 : (w5.alloc (.cells #[.int .i64 (k : Int)] 3)).heap.size = w5.heap.size + 1 := (by simp); omega)⟩; clear d0)
    | (go_at_call 29; refine (isName_is _ hNm).mono ?_; rintro e w2 ⟨rfl, b2⟩; have b12 := Below.on b1 b2; clear b1 b2; have cn2 := oneN (cells_below HM.out.2.2.1 b12 (by rw [HM.out.1.2]; omega)); have fx := cells_below HM.out.2.1 b12 (by rw [HM.out.1.2]; omega); obtain ⟨f0, f1, f2, f3, f4⟩ := five fx)
    | (go_at_call 12; refine hchk.mono ?_; rintro e w1 ⟨rfl, b1⟩; have cn := oneN (cells_below HM.out.2.2.1 b1 (by rw [HM.out.1.2]; omega)); have dx := cells_below HM.out.2.1 b1 (by rw [HM.out.1.2]; omega); obtain ⟨d0, d1, d2, d3, d4⟩ := five dx))
  refine hof.mono ?_
  intro e w3 hA
  obtain ⟨val, ga, gc, la, lc, oa, oc, ta, tc, rfl, hO, b1, hI⟩ := hA.open
  dsimp only
  have k3 := cells_below HV.out.2.1 b1 HV.out.2.2
  obtain ⟨z0, z1, z2, z3, z4⟩ := five k3
  have y0 := cells_frozen k3 0
  have y1 := cells_frozen k3 1
  have y2 := cells_frozen k3 2
  have y3 := cells_frozen k3 3
  have y4 := cells_frozen k3 4
  have HP : Hid (OI w3 (w5.alloc (.cells #[.int .i64 (k : Int)] 3)).heap.size val M) := hO
  have HB : Hid (Below w.heap.size w w3) := Below.on HV.out.1 b1
  have HI : Hid (imgV M.guest val = .agg #[.int .i64 M.guest, .slice ga M.root.length gc, .slice la M.slots.length lc, .slice oa M.refs.length oc, .slice ta M.snaps.length tc]) := hI
  clear hO b1 hI hof hA
  go_wp2_with fail
  have i1 : w.heap.size ≤ w.heap.size + 1 + 1 := by omega
  have hf1 : ∀ a, Live M a → (val a).ownBlock ≠ some (w.heap.size + 1 + 1) := fun a ha e => by have := ((HP.out.row a ha).lt _ e).1; have := HV.out.2.2; omega
  refine bodyPost_ret (v := .tuple #[.agg #[.int .i64 M.guest, .slice ga M.root.length gc, .slice la M.slots.length lc, .slice oa M.refs.length oc, .slice ta M.snaps.length tc], .int .i64 0]) (by simp [results, Try.results8, go_sem, z0, z1, z2, z3, z4]) rfl ⟨val, by rw [HI.out], OI.mono (((((HP.out.far hf1).far hf1).far hf1).far hf1).far hf1) (by have := HV.out.2.2; omega), ((((HB.out.setCell i1 _).setCell i1 _).setCell i1 _).setCell i1 _).setCell i1 _⟩

theorem create_is {w : World} {v : Value} {m : ImgD} (h : Img w v m) (nm : ByteArray) {M : ImgD} {E : Int} (hM : crM m nm = M) (hE : crE m nm = E) :
    Calls Try.prog 8 #[v, .string nm] w (AnsI w w.heap.size M E) := by
  have h' := h
  obtain ⟨ra, rc, sa, sc, fa, fc, na, nc, rfl, _⟩ := h.parts
  subst hM hE
  by_cases h0 : crE m nm = 0
  · obtain ⟨hC, hn, hx, h3, e, hs, _⟩ := cr_ok h0
    rw [h0]
    rw [createM_insN] at e hs
    exact create_ok_at m ra rc sa sc fa fc na nc nm _ w h' hC hn rfl (by rw [hx]; rfl) h3 (posS_le _ _) hs _ e.symm
  · rw [cr_bad h0]
    unfold crE
    by_cases hC : checkE m = 0
    · rw [if_neg (fun x => x hC)]
      by_cases hn : isNm nm = false
      · rw [if_pos hn]; exact create_name_at m ra rc sa sc fa fc na nc nm w h' hC hn
      · rw [if_neg hn]
        have hn' : isNm nm = true := by simpa using hn
        by_cases hx : (snapIx m.snaps nm).isSome = true
        · rw [if_pos hx]; exact create_there_at m ra rc sa sc fa fc na nc nm _ w h' hC hn' rfl hx
        · rw [if_neg hx]
          by_cases h3 : m.snaps.length = 3
          · rw [if_pos h3]; exact create_many_at m ra rc sa sc fa fc na nc nm _ w h' hC hn' rfl (by simpa using hx) h3
          · exact absurd (by unfold crE; rw [if_neg (fun x => x hC), if_neg hn, if_neg hx, if_neg h3]) h0
    · rw [if_pos hC]
      exact create_bad_at m ra rc sa sc fa fc na nc nm _ w h' rfl (by simp [hC])
end Go.Proofs.Ytehleeibgkpjmae
/- Contracts of snapshots: Create, Revert, Delete. -/
namespace Go.Proofs.Ytehleeibgkpjmae
open Go.RowKit Go.Shelf
set_option maxRecDepth 20000
set_option linter.unusedVariables false
set_option linter.unusedSimpArgs false

set_option maxHeartbeats 4000000 in
theorem with_bad_at (m : ImgD) (ra : Option Addr) (rc : Nat) (sa : Option Addr) (sc : Nat) (fa : Option Addr) (fc : Nat) (na : Option Addr) (nc : Nat) (nm : ByteArray) (N : Nat) (E : Int) (w : World) (h : Img w (.agg #[.int .i64 m.guest, .slice ra m.root.length rc, .slice sa m.slots.length sc, .slice fa m.refs.length fc, .slice na m.snaps.length nc]) m) (hE : checkE m = E) (hne : (E != 0) = true) :
    Calls Try.prog 35 #[.agg #[.int .i64 m.guest, .slice ra m.root.length rc, .slice sa m.slots.length sc, .slice fa m.refs.length fc, .slice na m.snaps.length nc], .string nm, .func (.func N) #[] #[]] w (AnsI w w.heap.size imgZ E) := by
  have b0 : Below w.heap.size w (((w.alloc (.cells #[.int .i64 m.guest, .slice ra m.root.length rc, .slice sa m.slots.length sc, .slice fa m.refs.length fc, .slice na m.snaps.length nc] 26)).alloc (.cells #[.func (.func N) #[] #[]] 68)).alloc (.cells #[.int .i64 0, .slice none 0 0, .slice none 0 0, .slice none 0 0, .slice none 0 0] 26)) := (((Below.refl _ _).alloc (by simp; try omega) _).alloc (by simp; try omega) _).alloc (by simp; try omega) _
  have q0 : (w.alloc (.cells #[.int .i64 m.guest, .slice ra m.root.length rc, .slice sa m.slots.length sc, .slice fa m.refs.length fc, .slice na m.snaps.length nc] 26)).heap[w.heap.size]? = some (.cells #[.int .i64 m.guest, .slice ra m.root.length rc, .slice sa m.slots.length sc, .slice fa m.refs.length fc, .slice na m.snaps.length nc] 26) := by have := World.alloc_heap_new w (.cells #[.int .i64 m.guest, .slice ra m.root.length rc, .slice sa m.slots.length sc, .slice fa m.refs.length fc, .slice na m.snaps.length nc] 26); simpa using this
  have m0 : (((w.alloc (.cells #[.int .i64 m.guest, .slice ra m.root.length rc, .slice sa m.slots.length sc, .slice fa m.refs.length fc, .slice na m.snaps.length nc] 26)).alloc (.cells #[.func (.func N) #[] #[]] 68)).alloc (.cells #[.int .i64 0, .slice none 0 0, .slice none 0 0, .slice none 0 0, .slice none 0 0] 26)).heap[w.heap.size]? = some (.cells #[.int .i64 m.guest, .slice ra m.root.length rc, .slice sa m.slots.length sc, .slice fa m.refs.length fc, .slice na m.snaps.length nc] 26) := (cells_alloc (cells_alloc q0 _) _)
  have q1 : ((w.alloc (.cells #[.int .i64 m.guest, .slice ra m.root.length rc, .slice sa m.slots.length sc, .slice fa m.refs.length fc, .slice na m.snaps.length nc] 26)).alloc (.cells #[.func (.func N) #[] #[]] 68)).heap[w.heap.size + 1]? = some (.cells #[.func (.func N) #[] #[]] 68) := by have := World.alloc_heap_new (w.alloc (.cells #[.int .i64 m.guest, .slice ra m.root.length rc, .slice sa m.slots.length sc, .slice fa m.refs.length fc, .slice na m.snaps.length nc] 26)) (.cells #[.func (.func N) #[] #[]] 68); simpa using this
  have m1 : (((w.alloc (.cells #[.int .i64 m.guest, .slice ra m.root.length rc, .slice sa m.slots.length sc, .slice fa m.refs.length fc, .slice na m.snaps.length nc] 26)).alloc (.cells #[.func (.func N) #[] #[]] 68)).alloc (.cells #[.int .i64 0, .slice none 0 0, .slice none 0 0, .slice none 0 0, .slice none 0 0] 26)).heap[w.heap.size + 1]? = some (.cells #[.func (.func N) #[] #[]] 68) := (cells_alloc q1 _)
  have q2 : (((w.alloc (.cells #[.int .i64 m.guest, .slice ra m.root.length rc, .slice sa m.slots.length sc, .slice fa m.refs.length fc, .slice na m.snaps.length nc] 26)).alloc (.cells #[.func (.func N) #[] #[]] 68)).alloc (.cells #[.int .i64 0, .slice none 0 0, .slice none 0 0, .slice none 0 0, .slice none 0 0] 26)).heap[w.heap.size + 1 + 1]? = some (.cells #[.int .i64 0, .slice none 0 0, .slice none 0 0, .slice none 0 0, .slice none 0 0] 26) := by have := World.alloc_heap_new ((w.alloc (.cells #[.int .i64 m.guest, .slice ra m.root.length rc, .slice sa m.slots.length sc, .slice fa m.refs.length fc, .slice na m.snaps.length nc] 26)).alloc (.cells #[.func (.func N) #[] #[]] 68)) (.cells #[.int .i64 0, .slice none 0 0, .slice none 0 0, .slice none 0 0, .slice none 0 0] 26); simpa using this
  have m2 : (((w.alloc (.cells #[.int .i64 m.guest, .slice ra m.root.length rc, .slice sa m.slots.length sc, .slice fa m.refs.length fc, .slice na m.snaps.length nc] 26)).alloc (.cells #[.func (.func N) #[] #[]] 68)).alloc (.cells #[.int .i64 0, .slice none 0 0, .slice none 0 0, .slice none 0 0, .slice none 0 0] 26)).heap[w.heap.size + 1 + 1]? = some (.cells #[.int .i64 0, .slice none 0 0, .slice none 0 0, .slice none 0 0, .slice none 0 0] 26) := q2
  have hz : (((w.alloc (.cells #[.int .i64 m.guest, .slice ra m.root.length rc, .slice sa m.slots.length sc, .slice fa m.refs.length fc, .slice na m.snaps.length nc] 26)).alloc (.cells #[.func (.func N) #[] #[]] 68)).alloc (.cells #[.int .i64 0, .slice none 0 0, .slice none 0 0, .slice none 0 0, .slice none 0 0] 26)).heap.size = w.heap.size + 1 + 1 + 1 := by simp
  clear q0 q1 q2
  have hchk := tcheck_is (h.below b0) hE
  obtain ⟨c0, c1, c2, c3, c4⟩ := five m0
  have HM : Hid ((Below w.heap.size w (((w.alloc (.cells #[.int .i64 m.guest, .slice ra m.root.length rc, .slice sa m.slots.length sc, .slice fa m.refs.length fc, .slice na m.snaps.length nc] 26)).alloc (.cells #[.func (.func N) #[] #[]] 68)).alloc (.cells #[.int .i64 0, .slice none 0 0, .slice none 0 0, .slice none 0 0, .slice none 0 0] 26)) ∧ (((w.alloc (.cells #[.int .i64 m.guest, .slice ra m.root.length rc, .slice sa m.slots.length sc, .slice fa m.refs.length fc, .slice na m.snaps.length nc] 26)).alloc (.cells #[.func (.func N) #[] #[]] 68)).alloc (.cells #[.int .i64 0, .slice none 0 0, .slice none 0 0, .slice none 0 0, .slice none 0 0] 26)).heap.size = w.heap.size + 1 + 1 + 1) ∧ (((w.alloc (.cells #[.int .i64 m.guest, .slice ra m.root.length rc, .slice sa m.slots.length sc, .slice fa m.refs.length fc, .slice na m.snaps.length nc] 26)).alloc (.cells #[.func (.func N) #[] #[]] 68)).alloc (.cells #[.int .i64 0, .slice none 0 0, .slice none 0 0, .slice none 0 0, .slice none 0 0] 26)).heap[w.heap.size]? = some (.cells #[.int .i64 m.guest, .slice ra m.root.length rc, .slice sa m.slots.length sc, .slice fa m.refs.length fc, .slice na m.snaps.length nc] 26) ∧ (((w.alloc (.cells #[.int .i64 m.guest, .slice ra m.root.length rc, .slice sa m.slots.length sc, .slice fa m.refs.length fc, .slice na m.snaps.length nc] 26)).alloc (.cells #[.func (.func N) #[] #[]] 68)).alloc (.cells #[.int .i64 0, .slice none 0 0, .slice none 0 0, .slice none 0 0, .slice none 0 0] 26)).heap[w.heap.size + 1]? = some (.cells #[.func (.func N) #[] #[]] 68) ∧ (((w.alloc (.cells #[.int .i64 m.guest, .slice ra m.root.length rc, .slice sa m.slots.length sc, .slice fa m.refs.length fc, .slice na m.snaps.length nc] 26)).alloc (.cells #[.func (.func N) #[] #[]] 68)).alloc (.cells #[.int .i64 0, .slice none 0 0, .slice none 0 0, .slice none 0 0, .slice none 0 0] 26)).heap[w.heap.size + 1 + 1]? = some (.cells #[.int .i64 0, .slice none 0 0, .slice none 0 0, .slice none 0 0, .slice none 0 0] 26)) := ⟨⟨b0, hz⟩, m0, m1, m2⟩
  clear h m0 m1 m2 hz b0
  go_enter Try.func35, Try.ntmps35
  go_wp2_with (first
    | (go_at_call 12; refine hchk.mono ?_; rintro e w1 ⟨rfl, b1⟩; have BB := b1; clear b1; have k3 := cells_below HM.out.2.2.2 BB (by rw [HM.out.1.2]; omega); obtain ⟨z0, z1, z2, z3, z4⟩ := five k3; have y0 := cells_frozen k3 0; have y1 := cells_frozen k3 1; have y2 := cells_frozen k3 2; have y3 := cells_frozen k3 3; have y4 := cells_frozen k3 4; have HB : Hid (Below w.heap.size w w1) := Below.on HM.out.1.1 BB; have hsz : w.heap.size + 1 + 1 + 1 ≤ w1.heap.size := (by have := BB.size; rw [HM.out.1.2] at this; omega); clear k3))
  have i1 : w.heap.size ≤ w.heap.size + 1 + 1 := by omega
  refine bodyPost_ret (v := .tuple #[.agg #[.int .i64 0, .slice none 0 0, .slice none 0 0, .slice none 0 0, .slice none 0 0], .int .i64 E]) (by simp [results, Try.results35, go_sem, z0, z1, z2, z3, z4]) rfl (AnsI.bad E (((((HB.out.setCell i1 _).setCell i1 _).setCell i1 _).setCell i1 _).setCell i1 _))

set_option maxHeartbeats 4000000 in
theorem with_none_at (m : ImgD) (ra : Option Addr) (rc : Nat) (sa : Option Addr) (sc : Nat) (fa : Option Addr) (fc : Nat) (na : Option Addr) (nc : Nat) (nm : ByteArray) (N k : Nat) (w : World) (h : Img w (.agg #[.int .i64 m.guest, .slice ra m.root.length rc, .slice sa m.slots.length sc, .slice fa m.refs.length fc, .slice na m.snaps.length nc]) m) (hE : checkE m = 0) (hk : posS m.snaps nm = k) (hx : (snapIx m.snaps nm).isSome = false) :
    Calls Try.prog 35 #[.agg #[.int .i64 m.guest, .slice ra m.root.length rc, .slice sa m.slots.length sc, .slice fa m.refs.length fc, .slice na m.snaps.length nc], .string nm, .func (.func N) #[] #[]] w (AnsI w w.heap.size imgZ 5) := by
  have b0 : Below w.heap.size w (((w.alloc (.cells #[.int .i64 m.guest, .slice ra m.root.length rc, .slice sa m.slots.length sc, .slice fa m.refs.length fc, .slice na m.snaps.length nc] 26)).alloc (.cells #[.func (.func N) #[] #[]] 68)).alloc (.cells #[.int .i64 0, .slice none 0 0, .slice none 0 0, .slice none 0 0, .slice none 0 0] 26)) := (((Below.refl _ _).alloc (by simp; try omega) _).alloc (by simp; try omega) _).alloc (by simp; try omega) _
  have q0 : (w.alloc (.cells #[.int .i64 m.guest, .slice ra m.root.length rc, .slice sa m.slots.length sc, .slice fa m.refs.length fc, .slice na m.snaps.length nc] 26)).heap[w.heap.size]? = some (.cells #[.int .i64 m.guest, .slice ra m.root.length rc, .slice sa m.slots.length sc, .slice fa m.refs.length fc, .slice na m.snaps.length nc] 26) := by have := World.alloc_heap_new w (.cells #[.int .i64 m.guest, .slice ra m.root.length rc, .slice sa m.slots.length sc, .slice fa m.refs.length fc, .slice na m.snaps.length nc] 26); simpa using this
  have m0 : (((w.alloc (.cells #[.int .i64 m.guest, .slice ra m.root.length rc, .slice sa m.slots.length sc, .slice fa m.refs.length fc, .slice na m.snaps.length nc] 26)).alloc (.cells #[.func (.func N) #[] #[]] 68)).alloc (.cells #[.int .i64 0, .slice none 0 0, .slice none 0 0, .slice none 0 0, .slice none 0 0] 26)).heap[w.heap.size]? = some (.cells #[.int .i64 m.guest, .slice ra m.root.length rc, .slice sa m.slots.length sc, .slice fa m.refs.length fc, .slice na m.snaps.length nc] 26) := (cells_alloc (cells_alloc q0 _) _)
  have q1 : ((w.alloc (.cells #[.int .i64 m.guest, .slice ra m.root.length rc, .slice sa m.slots.length sc, .slice fa m.refs.length fc, .slice na m.snaps.length nc] 26)).alloc (.cells #[.func (.func N) #[] #[]] 68)).heap[w.heap.size + 1]? = some (.cells #[.func (.func N) #[] #[]] 68) := by have := World.alloc_heap_new (w.alloc (.cells #[.int .i64 m.guest, .slice ra m.root.length rc, .slice sa m.slots.length sc, .slice fa m.refs.length fc, .slice na m.snaps.length nc] 26)) (.cells #[.func (.func N) #[] #[]] 68); simpa using this
  have m1 : (((w.alloc (.cells #[.int .i64 m.guest, .slice ra m.root.length rc, .slice sa m.slots.length sc, .slice fa m.refs.length fc, .slice na m.snaps.length nc] 26)).alloc (.cells #[.func (.func N) #[] #[]] 68)).alloc (.cells #[.int .i64 0, .slice none 0 0, .slice none 0 0, .slice none 0 0, .slice none 0 0] 26)).heap[w.heap.size + 1]? = some (.cells #[.func (.func N) #[] #[]] 68) := (cells_alloc q1 _)
  have q2 : (((w.alloc (.cells #[.int .i64 m.guest, .slice ra m.root.length rc, .slice sa m.slots.length sc, .slice fa m.refs.length fc, .slice na m.snaps.length nc] 26)).alloc (.cells #[.func (.func N) #[] #[]] 68)).alloc (.cells #[.int .i64 0, .slice none 0 0, .slice none 0 0, .slice none 0 0, .slice none 0 0] 26)).heap[w.heap.size + 1 + 1]? = some (.cells #[.int .i64 0, .slice none 0 0, .slice none 0 0, .slice none 0 0, .slice none 0 0] 26) := by have := World.alloc_heap_new ((w.alloc (.cells #[.int .i64 m.guest, .slice ra m.root.length rc, .slice sa m.slots.length sc, .slice fa m.refs.length fc, .slice na m.snaps.length nc] 26)).alloc (.cells #[.func (.func N) #[] #[]] 68)) (.cells #[.int .i64 0, .slice none 0 0, .slice none 0 0, .slice none 0 0, .slice none 0 0] 26); simpa using this
  have m2 : (((w.alloc (.cells #[.int .i64 m.guest, .slice ra m.root.length rc, .slice sa m.slots.length sc, .slice fa m.refs.length fc, .slice na m.snaps.length nc] 26)).alloc (.cells #[.func (.func N) #[] #[]] 68)).alloc (.cells #[.int .i64 0, .slice none 0 0, .slice none 0 0, .slice none 0 0, .slice none 0 0] 26)).heap[w.heap.size + 1 + 1]? = some (.cells #[.int .i64 0, .slice none 0 0, .slice none 0 0, .slice none 0 0, .slice none 0 0] 26) := q2
  have hz : (((w.alloc (.cells #[.int .i64 m.guest, .slice ra m.root.length rc, .slice sa m.slots.length sc, .slice fa m.refs.length fc, .slice na m.snaps.length nc] 26)).alloc (.cells #[.func (.func N) #[] #[]] 68)).alloc (.cells #[.int .i64 0, .slice none 0 0, .slice none 0 0, .slice none 0 0, .slice none 0 0] 26)).heap.size = w.heap.size + 1 + 1 + 1 := by simp
  clear q0 q1 q2
  have hchk := tcheck_is (h.below b0) hE
  have hF4 := h.four.2.2.2
  have hNP := (namesOK_iff _).1 (shapeE_zero (checkE_shape hE)).2.2.2.1
  have h3l := (shapeE_zero (checkE_shape hE)).1
  have HF : Hid (∀ w2, Below (((w.alloc (.cells #[.int .i64 m.guest, .slice ra m.root.length rc, .slice sa m.slots.length sc, .slice fa m.refs.length fc, .slice na m.snaps.length nc] 26)).alloc (.cells #[.func (.func N) #[] #[]] 68)).alloc (.cells #[.int .i64 0, .slice none 0 0, .slice none 0 0, .slice none 0 0, .slice none 0 0] 26)).heap.size (((w.alloc (.cells #[.int .i64 m.guest, .slice ra m.root.length rc, .slice sa m.slots.length sc, .slice fa m.refs.length fc, .slice na m.snaps.length nc] 26)).alloc (.cells #[.func (.func N) #[] #[]] 68)).alloc (.cells #[.int .i64 0, .slice none 0 0, .slice none 0 0, .slice none 0 0, .slice none 0 0] 26)) w2 → Calls Try.prog 30 #[.slice na m.snaps.length nc, .string nm] w2 fun r w' => r = .returned (.tuple #[.int .i64 (k : Int), .bool false]) ∧ Below w2.heap.size w2 w') := fun w2 hb2 => find_is ((hF4.below b0).below hb2) hNP h3l nm hk hx
  clear hF4 hNP h3l
  obtain ⟨c0, c1, c2, c3, c4⟩ := five m0
  have HM : Hid ((Below w.heap.size w (((w.alloc (.cells #[.int .i64 m.guest, .slice ra m.root.length rc, .slice sa m.slots.length sc, .slice fa m.refs.length fc, .slice na m.snaps.length nc] 26)).alloc (.cells #[.func (.func N) #[] #[]] 68)).alloc (.cells #[.int .i64 0, .slice none 0 0, .slice none 0 0, .slice none 0 0, .slice none 0 0] 26)) ∧ (((w.alloc (.cells #[.int .i64 m.guest, .slice ra m.root.length rc, .slice sa m.slots.length sc, .slice fa m.refs.length fc, .slice na m.snaps.length nc] 26)).alloc (.cells #[.func (.func N) #[] #[]] 68)).alloc (.cells #[.int .i64 0, .slice none 0 0, .slice none 0 0, .slice none 0 0, .slice none 0 0] 26)).heap.size = w.heap.size + 1 + 1 + 1) ∧ (((w.alloc (.cells #[.int .i64 m.guest, .slice ra m.root.length rc, .slice sa m.slots.length sc, .slice fa m.refs.length fc, .slice na m.snaps.length nc] 26)).alloc (.cells #[.func (.func N) #[] #[]] 68)).alloc (.cells #[.int .i64 0, .slice none 0 0, .slice none 0 0, .slice none 0 0, .slice none 0 0] 26)).heap[w.heap.size]? = some (.cells #[.int .i64 m.guest, .slice ra m.root.length rc, .slice sa m.slots.length sc, .slice fa m.refs.length fc, .slice na m.snaps.length nc] 26) ∧ (((w.alloc (.cells #[.int .i64 m.guest, .slice ra m.root.length rc, .slice sa m.slots.length sc, .slice fa m.refs.length fc, .slice na m.snaps.length nc] 26)).alloc (.cells #[.func (.func N) #[] #[]] 68)).alloc (.cells #[.int .i64 0, .slice none 0 0, .slice none 0 0, .slice none 0 0, .slice none 0 0] 26)).heap[w.heap.size + 1]? = some (.cells #[.func (.func N) #[] #[]] 68) ∧ (((w.alloc (.cells #[.int .i64 m.guest, .slice ra m.root.length rc, .slice sa m.slots.length sc, .slice fa m.refs.length fc, .slice na m.snaps.length nc] 26)).alloc (.cells #[.func (.func N) #[] #[]] 68)).alloc (.cells #[.int .i64 0, .slice none 0 0, .slice none 0 0, .slice none 0 0, .slice none 0 0] 26)).heap[w.heap.size + 1 + 1]? = some (.cells #[.int .i64 0, .slice none 0 0, .slice none 0 0, .slice none 0 0, .slice none 0 0] 26)) := ⟨⟨b0, hz⟩, m0, m1, m2⟩
  clear h m0 m1 m2 hz b0
  go_enter Try.func35, Try.ntmps35
  go_wp2_with (first
    | (go_at_call 30; refine (HF.out _ b1).mono ?_; rintro e w5 ⟨rfl, bf⟩; have BB := Below.on b1 bf; clear b1 bf; have gx := cells_alloc (cells_below HM.out.2.1 BB (by rw [HM.out.1.2]; omega)) (.cells #[.int .i64 (k : Int)] 3); obtain ⟨g0, g1, g2, g3, g4⟩ := five gx; have k3 := cells_alloc (cells_below HM.out.2.2.2 BB (by rw [HM.out.1.2]; omega)) (.cells #[.int .i64 (k : Int)] 3); obtain ⟨z0, z1, z2, z3, z4⟩ := five k3; have y0 := cells_frozen k3 0; have y1 := cells_frozen k3 1; have y2 := cells_frozen k3 2; have y3 := cells_frozen k3 3; have y4 := cells_frozen k3 4; have HB : Hid (Below w.heap.size w (w5.alloc (.cells #[.int .i64 (k : Int)] 3))) := (Below.on HM.out.1.1 BB).alloc (by have := BB.size; rw [HM.out.1.2] at this; omega) _; have hsz : w.heap.size + 1 + 1 + 1 ≤ w5.heap.size := (by have := BB.size; rw [HM.out.1.2] at this; omega); clear k3)
    | (go_at_call 12; refine hchk.mono ?_; rintro e w1 ⟨rfl, b1⟩; have dx := cells_below HM.out.2.1 b1 (by rw [HM.out.1.2]; omega); obtain ⟨d0, d1, d2, d3, d4⟩ := five dx))
  have i1 : w.heap.size ≤ w.heap.size + 1 + 1 := by omega
  refine bodyPost_ret (v := .tuple #[.agg #[.int .i64 0, .slice none 0 0, .slice none 0 0, .slice none 0 0, .slice none 0 0], .int .i64 5]) (by simp [results, Try.results35, go_sem, z0, z1, z2, z3, z4]) rfl (AnsI.bad 5 (((((HB.out.setCell i1 _).setCell i1 _).setCell i1 _).setCell i1 _).setCell i1 _))

set_option maxHeartbeats 4000000 in
theorem with_ok_at (m : ImgD) (ra : Option Addr) (rc : Nat) (sa : Option Addr) (sc : Nat) (fa : Option Addr) (fc : Nat) (na : Option Addr) (nc : Nat) (nm : ByteArray) (N k : Nat) (w : World) (h : Img w (.agg #[.int .i64 m.guest, .slice ra m.root.length rc, .slice sa m.slots.length sc, .slice fa m.refs.length fc, .slice na m.snaps.length nc]) m) (hE : checkE m = 0) (hk : posS m.snaps nm = k) (hx : (snapIx m.snaps nm).isSome = true) (M0 M : ImgD) (hNN : ∀ (args : Array Value) (w : World), (callFunc N args).run Try.prog w = .ok (.enter N args) w) (hTurn : ∀ (W : World) (D B : Nat) (val : Nm → Value), B ≤ W.heap.size → DK W B D val m → Calls Try.prog N #[.pointer (some ⟨D, 0, none⟩), .int .i64 (k : Int)] W fun r W' => ∃ val', r = .returned (.tuple #[]) ∧ DTo W W' B D m val nilV M0 val') (hsh : shapeE M0 = 0) (hM : countedD M0 = M) :
    Calls Try.prog 35 #[.agg #[.int .i64 m.guest, .slice ra m.root.length rc, .slice sa m.slots.length sc, .slice fa m.refs.length fc, .slice na m.snaps.length nc], .string nm, .func (.func N) #[] #[]] w (AnsI w w.heap.size M 0) := by
  have b0 : Below w.heap.size w (((w.alloc (.cells #[.int .i64 m.guest, .slice ra m.root.length rc, .slice sa m.slots.length sc, .slice fa m.refs.length fc, .slice na m.snaps.length nc] 26)).alloc (.cells #[.func (.func N) #[] #[]] 68)).alloc (.cells #[.int .i64 0, .slice none 0 0, .slice none 0 0, .slice none 0 0, .slice none 0 0] 26)) := (((Below.refl _ _).alloc (by simp; try omega) _).alloc (by simp; try omega) _).alloc (by simp; try omega) _
  have q0 : (w.alloc (.cells #[.int .i64 m.guest, .slice ra m.root.length rc, .slice sa m.slots.length sc, .slice fa m.refs.length fc, .slice na m.snaps.length nc] 26)).heap[w.heap.size]? = some (.cells #[.int .i64 m.guest, .slice ra m.root.length rc, .slice sa m.slots.length sc, .slice fa m.refs.length fc, .slice na m.snaps.length nc] 26) := by have := World.alloc_heap_new w (.cells #[.int .i64 m.guest, .slice ra m.root.length rc, .slice sa m.slots.length sc, .slice fa m.refs.length fc, .slice na m.snaps.length nc] 26); simpa using this
  have m0 : (((w.alloc (.cells #[.int .i64 m.guest, .slice ra m.root.length rc, .slice sa m.slots.length sc, .slice fa m.refs.length fc, .slice na m.snaps.length nc] 26)).alloc (.cells #[.func (.func N) #[] #[]] 68)).alloc (.cells #[.int .i64 0, .slice none 0 0, .slice none 0 0, .slice none 0 0, .slice none 0 0] 26)).heap[w.heap.size]? = some (.cells #[.int .i64 m.guest, .slice ra m.root.length rc, .slice sa m.slots.length sc, .slice fa m.refs.length fc, .slice na m.snaps.length nc] 26) := (cells_alloc (cells_alloc q0 _) _)
  have q1 : ((w.alloc (.cells #[.int .i64 m.guest, .slice ra m.root.length rc, .slice sa m.slots.length sc, .slice fa m.refs.length fc, .slice na m.snaps.length nc] 26)).alloc (.cells #[.func (.func N) #[] #[]] 68)).heap[w.heap.size + 1]? = some (.cells #[.func (.func N) #[] #[]] 68) := by have := World.alloc_heap_new (w.alloc (.cells #[.int .i64 m.guest, .slice ra m.root.length rc, .slice sa m.slots.length sc, .slice fa m.refs.length fc, .slice na m.snaps.length nc] 26)) (.cells #[.func (.func N) #[] #[]] 68); simpa using this
  have m1 : (((w.alloc (.cells #[.int .i64 m.guest, .slice ra m.root.length rc, .slice sa m.slots.length sc, .slice fa m.refs.length fc, .slice na m.snaps.length nc] 26)).alloc (.cells #[.func (.func N) #[] #[]] 68)).alloc (.cells #[.int .i64 0, .slice none 0 0, .slice none 0 0, .slice none 0 0, .slice none 0 0] 26)).heap[w.heap.size + 1]? = some (.cells #[.func (.func N) #[] #[]] 68) := (cells_alloc q1 _)
  have q2 : (((w.alloc (.cells #[.int .i64 m.guest, .slice ra m.root.length rc, .slice sa m.slots.length sc, .slice fa m.refs.length fc, .slice na m.snaps.length nc] 26)).alloc (.cells #[.func (.func N) #[] #[]] 68)).alloc (.cells #[.int .i64 0, .slice none 0 0, .slice none 0 0, .slice none 0 0, .slice none 0 0] 26)).heap[w.heap.size + 1 + 1]? = some (.cells #[.int .i64 0, .slice none 0 0, .slice none 0 0, .slice none 0 0, .slice none 0 0] 26) := by have := World.alloc_heap_new ((w.alloc (.cells #[.int .i64 m.guest, .slice ra m.root.length rc, .slice sa m.slots.length sc, .slice fa m.refs.length fc, .slice na m.snaps.length nc] 26)).alloc (.cells #[.func (.func N) #[] #[]] 68)) (.cells #[.int .i64 0, .slice none 0 0, .slice none 0 0, .slice none 0 0, .slice none 0 0] 26); simpa using this
  have m2 : (((w.alloc (.cells #[.int .i64 m.guest, .slice ra m.root.length rc, .slice sa m.slots.length sc, .slice fa m.refs.length fc, .slice na m.snaps.length nc] 26)).alloc (.cells #[.func (.func N) #[] #[]] 68)).alloc (.cells #[.int .i64 0, .slice none 0 0, .slice none 0 0, .slice none 0 0, .slice none 0 0] 26)).heap[w.heap.size + 1 + 1]? = some (.cells #[.int .i64 0, .slice none 0 0, .slice none 0 0, .slice none 0 0, .slice none 0 0] 26) := q2
  have hz : (((w.alloc (.cells #[.int .i64 m.guest, .slice ra m.root.length rc, .slice sa m.slots.length sc, .slice fa m.refs.length fc, .slice na m.snaps.length nc] 26)).alloc (.cells #[.func (.func N) #[] #[]] 68)).alloc (.cells #[.int .i64 0, .slice none 0 0, .slice none 0 0, .slice none 0 0, .slice none 0 0] 26)).heap.size = w.heap.size + 1 + 1 + 1 := by simp
  clear q0 q1 q2
  have hchk := tcheck_is (h.below b0) hE
  have hF4 := h.four.2.2.2
  have hNP := (namesOK_iff _).1 (shapeE_zero (checkE_shape hE)).2.2.2.1
  have h3l := (shapeE_zero (checkE_shape hE)).1
  have HF : Hid (∀ w2, Below (((w.alloc (.cells #[.int .i64 m.guest, .slice ra m.root.length rc, .slice sa m.slots.length sc, .slice fa m.refs.length fc, .slice na m.snaps.length nc] 26)).alloc (.cells #[.func (.func N) #[] #[]] 68)).alloc (.cells #[.int .i64 0, .slice none 0 0, .slice none 0 0, .slice none 0 0, .slice none 0 0] 26)).heap.size (((w.alloc (.cells #[.int .i64 m.guest, .slice ra m.root.length rc, .slice sa m.slots.length sc, .slice fa m.refs.length fc, .slice na m.snaps.length nc] 26)).alloc (.cells #[.func (.func N) #[] #[]] 68)).alloc (.cells #[.int .i64 0, .slice none 0 0, .slice none 0 0, .slice none 0 0, .slice none 0 0] 26)) w2 → Calls Try.prog 30 #[.slice na m.snaps.length nc, .string nm] w2 fun r w' => r = .returned (.tuple #[.int .i64 (k : Int), .bool true]) ∧ Below w2.heap.size w2 w') := fun w2 hb2 => find_is ((hF4.below b0).below hb2) hNP h3l nm hk hx
  clear hF4 hNP h3l
  have HO : Hid (∀ w5, Below (((w.alloc (.cells #[.int .i64 m.guest, .slice ra m.root.length rc, .slice sa m.slots.length sc, .slice fa m.refs.length fc, .slice na m.snaps.length nc] 26)).alloc (.cells #[.func (.func N) #[] #[]] 68)).alloc (.cells #[.int .i64 0, .slice none 0 0, .slice none 0 0, .slice none 0 0, .slice none 0 0] 26)).heap.size (((w.alloc (.cells #[.int .i64 m.guest, .slice ra m.root.length rc, .slice sa m.slots.length sc, .slice fa m.refs.length fc, .slice na m.snaps.length nc] 26)).alloc (.cells #[.func (.func N) #[] #[]] 68)).alloc (.cells #[.int .i64 0, .slice none 0 0, .slice none 0 0, .slice none 0 0, .slice none 0 0] 26)) w5 → Calls Try.prog 31 #[.agg #[.int .i64 m.guest, .slice ra m.root.length rc, .slice sa m.slots.length sc, .slice fa m.refs.length fc, .slice na m.snaps.length nc], .func (.func 73) #[] #[.pointer (some ⟨w.heap.size + 1, 0, none⟩), .pointer (some ⟨w5.heap.size, 0, none⟩)]] (w5.alloc (.cells #[.int .i64 (k : Int)] 3)) (AnsI (w5.alloc (.cells #[.int .i64 (k : Int)] 3)) (w5.alloc (.cells #[.int .i64 (k : Int)] 3)).heap.size M 0)) := fun w5 b5 => by
    have hsz : w.heap.size + 1 + 1 + 1 ≤ w5.heap.size := (by have := b5.size; rw [hz] at this; exact this)
    have b6 : Below (((w.alloc (.cells #[.int .i64 m.guest, .slice ra m.root.length rc, .slice sa m.slots.length sc, .slice fa m.refs.length fc, .slice na m.snaps.length nc] 26)).alloc (.cells #[.func (.func N) #[] #[]] 68)).alloc (.cells #[.int .i64 0, .slice none 0 0, .slice none 0 0, .slice none 0 0, .slice none 0 0] 26)).heap.size (((w.alloc (.cells #[.int .i64 m.guest, .slice ra m.root.length rc, .slice sa m.slots.length sc, .slice fa m.refs.length fc, .slice na m.snaps.length nc] 26)).alloc (.cells #[.func (.func N) #[] #[]] 68)).alloc (.cells #[.int .i64 0, .slice none 0 0, .slice none 0 0, .slice none 0 0, .slice none 0 0] 26)) (w5.alloc (.cells #[.int .i64 (k : Int)] 3)) := b5.alloc (by rw [hz]; exact hsz) _
    have hz1 : (w5.alloc (.cells #[.int .i64 (k : Int)] 3)).heap.size = w5.heap.size + 1 := by simp
    have ho := of_is (h.below (Below.on b0 b6)) (fits_of_shape (checkE_shape hE)) (enters_of Try.func73 (by kernel_rfl) rfl) (with_turn (oneN (cells_below m1 b6 (by rw [hz]; omega))) (oneN (World.alloc_heap_new _ _)) (by omega) (by omega) hNN hTurn)
    have e1 : ofM (some M0) = M := by unfold ofM; dsimp only; rw [if_pos hsh]; exact hM
    have e2 : ofE (some M0) = 0 := hsh
    rw [e1, e2] at ho
    exact ho
  obtain ⟨c0, c1, c2, c3, c4⟩ := five m0
  have HM : Hid ((Below w.heap.size w (((w.alloc (.cells #[.int .i64 m.guest, .slice ra m.root.length rc, .slice sa m.slots.length sc, .slice fa m.refs.length fc, .slice na m.snaps.length nc] 26)).alloc (.cells #[.func (.func N) #[] #[]] 68)).alloc (.cells #[.int .i64 0, .slice none 0 0, .slice none 0 0, .slice none 0 0, .slice none 0 0] 26)) ∧ (((w.alloc (.cells #[.int .i64 m.guest, .slice ra m.root.length rc, .slice sa m.slots.length sc, .slice fa m.refs.length fc, .slice na m.snaps.length nc] 26)).alloc (.cells #[.func (.func N) #[] #[]] 68)).alloc (.cells #[.int .i64 0, .slice none 0 0, .slice none 0 0, .slice none 0 0, .slice none 0 0] 26)).heap.size = w.heap.size + 1 + 1 + 1) ∧ (((w.alloc (.cells #[.int .i64 m.guest, .slice ra m.root.length rc, .slice sa m.slots.length sc, .slice fa m.refs.length fc, .slice na m.snaps.length nc] 26)).alloc (.cells #[.func (.func N) #[] #[]] 68)).alloc (.cells #[.int .i64 0, .slice none 0 0, .slice none 0 0, .slice none 0 0, .slice none 0 0] 26)).heap[w.heap.size]? = some (.cells #[.int .i64 m.guest, .slice ra m.root.length rc, .slice sa m.slots.length sc, .slice fa m.refs.length fc, .slice na m.snaps.length nc] 26) ∧ (((w.alloc (.cells #[.int .i64 m.guest, .slice ra m.root.length rc, .slice sa m.slots.length sc, .slice fa m.refs.length fc, .slice na m.snaps.length nc] 26)).alloc (.cells #[.func (.func N) #[] #[]] 68)).alloc (.cells #[.int .i64 0, .slice none 0 0, .slice none 0 0, .slice none 0 0, .slice none 0 0] 26)).heap[w.heap.size + 1]? = some (.cells #[.func (.func N) #[] #[]] 68) ∧ (((w.alloc (.cells #[.int .i64 m.guest, .slice ra m.root.length rc, .slice sa m.slots.length sc, .slice fa m.refs.length fc, .slice na m.snaps.length nc] 26)).alloc (.cells #[.func (.func N) #[] #[]] 68)).alloc (.cells #[.int .i64 0, .slice none 0 0, .slice none 0 0, .slice none 0 0, .slice none 0 0] 26)).heap[w.heap.size + 1 + 1]? = some (.cells #[.int .i64 0, .slice none 0 0, .slice none 0 0, .slice none 0 0, .slice none 0 0] 26)) := ⟨⟨b0, hz⟩, m0, m1, m2⟩
  clear h m0 m1 m2 hz b0
  clear hM hsh hTurn hNN
  go_enter Try.func35, Try.ntmps35
  go_wp2_with (first
    | (go_at_call 30; refine (HF.out _ b1).mono ?_; rintro e w5 ⟨rfl, bf⟩; have BB := Below.on b1 bf; clear b1 bf; have gx := cells_alloc (cells_below HM.out.2.1 BB (by rw [HM.out.1.2]; omega)) (.cells #[.int .i64 (k : Int)] 3); obtain ⟨g0, g1, g2, g3, g4⟩ := five gx; have hof := HO.out w5 BB; have d0 := cells_alloc (cells_below HM.out.2.1 BB (by rw [HM.out.1.2]; omega)) (.cells #[.int .i64 (k : Int)] 3); obtain ⟨x1, x2, x3, x4, x5⟩ := five d0; have ck : (w5.alloc (.cells #[.int .i64 (k : Int)] 3)).cell? ⟨w5.heap.size, 0, none⟩ = some (.int .i64 (k : Int)) := oneN (World.alloc_heap_new _ _); have HV : Hid (Below w.heap.size w (w5.alloc (.cells #[.int .i64 (k : Int)] 3)) ∧ (w5.alloc (.cells #[.int .i64 (k : Int)] 3)).heap[w.heap.size + 1 + 1]? = some (.cells #[.int .i64 0, .slice none 0 0, .slice none 0 0, .slice none 0 0, .slice none 0 0] 26) ∧ w.heap.size + 1 + 1 < (w5.alloc (.cells #[.int .i64 (k : Int)] 3)).heap.size) := ⟨(Below.on HM.out.1.1 BB).alloc (by have := BB.size; rw [HM.out.1.2] at this; omega) _, cells_alloc (cells_below HM.out.2.2.2 BB (by rw [HM.out.1.2]; omega)) _, (by have := BB.size; rw [HM.out.1.2] at this; have hz1 : (w5.alloc (.cells #[.int .i64 (k : Int)] 3)).heap.size = w5.heap.size + 1 := (by simp); omega)⟩; clear d0)
    | (go_at_call 12; refine hchk.mono ?_; rintro e w1 ⟨rfl, b1⟩; have dx := cells_below HM.out.2.1 b1 (by rw [HM.out.1.2]; omega); obtain ⟨d0, d1, d2, d3, d4⟩ := five dx))
  refine hof.mono ?_
  intro e w3 hA
  obtain ⟨val, ga, gc, la, lc, oa, oc, ta, tc, rfl, hO, b1, hI⟩ := hA.open
  dsimp only
  have k3 := cells_below HV.out.2.1 b1 HV.out.2.2
  obtain ⟨z0, z1, z2, z3, z4⟩ := five k3
  have y0 := cells_frozen k3 0
  have y1 := cells_frozen k3 1
  have y2 := cells_frozen k3 2
  have y3 := cells_frozen k3 3
  have y4 := cells_frozen k3 4
  have HP : Hid (OI w3 (w5.alloc (.cells #[.int .i64 (k : Int)] 3)).heap.size val M) := hO
  have HB : Hid (Below w.heap.size w w3) := Below.on HV.out.1 b1
  have HI : Hid (imgV M.guest val = .agg #[.int .i64 M.guest, .slice ga M.root.length gc, .slice la M.slots.length lc, .slice oa M.refs.length oc, .slice ta M.snaps.length tc]) := hI
  clear hO b1 hI hof hA
  go_wp2_with fail
  have i1 : w.heap.size ≤ w.heap.size + 1 + 1 := by omega
  have hf1 : ∀ a, Live M a → (val a).ownBlock ≠ some (w.heap.size + 1 + 1) := fun a ha e => by have := ((HP.out.row a ha).lt _ e).1; have := HV.out.2.2; omega
  refine bodyPost_ret (v := .tuple #[.agg #[.int .i64 M.guest, .slice ga M.root.length gc, .slice la M.slots.length lc, .slice oa M.refs.length oc, .slice ta M.snaps.length tc], .int .i64 0]) (by simp [results, Try.results35, go_sem, z0, z1, z2, z3, z4]) rfl ⟨val, by rw [HI.out], OI.mono (((((HP.out.far hf1).far hf1).far hf1).far hf1).far hf1) (by have := HV.out.2.2; omega), ((((HB.out.setCell i1 _).setCell i1 _).setCell i1 _).setCell i1 _).setCell i1 _⟩

theorem revert_with {w : World} {v : Value} {m : ImgD} (h : Img w v m) (nm : ByteArray) {M : ImgD} {E : Int} (hM : rvM m nm = M) (hE : pastE m nm = E) :
    Calls Try.prog 35 #[v, .string nm, .func (.func 36) #[] #[]] w (AnsI w w.heap.size M E) := by
  have h' := h
  obtain ⟨ra, rc, sa, sc, fa, fc, na, nc, rfl, _⟩ := h.parts
  subst hM hE
  by_cases h0 : pastE m nm = 0
  · obtain ⟨hC, k, hk, hl, e, hs, _⟩ := rv_ok h0
    rw [h0]
    have hN := (namesOK_iff _).1 (shapeE_zero (checkE_shape hC)).2.2.2.1
    have h3 := (shapeE_zero (checkE_shape hC)).1
    exact with_ok_at m ra rc sa sc fa fc na nc nm _ k w h' hC (pos_here hN hk) (by rw [hk]; rfl) (revertM m k) _ (enters_of Try.func36 (by kernel_rfl) rfl) (fun W D B val hB hD => revert_desk hD hB hl (by omega) (checkE_shape hC)) hs e.symm
  · rw [rv_bad h0]
    unfold pastE at h0 ⊢
    by_cases hC : checkE m = 0
    · rw [if_neg (fun x => x hC)] at h0 ⊢
      cases hx : snapIx m.snaps nm with
      | some k => rw [hx] at h0; exact absurd rfl h0
      | none => exact with_none_at m ra rc sa sc fa fc na nc nm _ _ w h' hC rfl (by rw [hx]; rfl)
    · rw [if_pos hC]
      exact with_bad_at m ra rc sa sc fa fc na nc nm _ _ w h' rfl (by simp [hC])

theorem delete_with {w : World} {v : Value} {m : ImgD} (h : Img w v m) (nm : ByteArray) {M : ImgD} {E : Int} (hM : dlM m nm = M) (hE : pastE m nm = E) :
    Calls Try.prog 35 #[v, .string nm, .func (.func 37) #[] #[]] w (AnsI w w.heap.size M E) := by
  have h' := h
  obtain ⟨ra, rc, sa, sc, fa, fc, na, nc, rfl, _⟩ := h.parts
  subst hM hE
  by_cases h0 : pastE m nm = 0
  · obtain ⟨hC, k, hk, hl, e, hs, _⟩ := dl_ok h0
    rw [h0]
    have hN := (namesOK_iff _).1 (shapeE_zero (checkE_shape hC)).2.2.2.1
    have h3 := (shapeE_zero (checkE_shape hC)).1
    exact with_ok_at m ra rc sa sc fa fc na nc nm _ k w h' hC (pos_here hN hk) (by rw [hk]; rfl) (deleteM m k) _ (enters_of Try.func37 (by kernel_rfl) rfl) (fun W D B val hB hD => delete_desk hD hB hl (by omega)) hs e.symm
  · rw [dl_bad h0]
    unfold pastE at h0 ⊢
    by_cases hC : checkE m = 0
    · rw [if_neg (fun x => x hC)] at h0 ⊢
      cases hx : snapIx m.snaps nm with
      | some k => rw [hx] at h0; exact absurd rfl h0
      | none => exact with_none_at m ra rc sa sc fa fc na nc nm _ _ w h' hC rfl (by rw [hx]; rfl)
    · rw [if_pos hC]
      exact with_bad_at m ra rc sa sc fa fc na nc nm _ _ w h' rfl (by simp [hC])
end Go.Proofs.Ytehleeibgkpjmae
/- Contracts of the document's CheckImage, look, LookError, LookOf. -/
namespace Go.Proofs.Ytehleeibgkpjmae
open Go.RowKit Go.Shelf
end Go.Proofs.Ytehleeibgkpjmae
/- Contract of pair: the image that every beginning looks at. -/
namespace Go.Proofs.Ytehleeibgkpjmae
open Go.RowKit Go.Shelf
set_option maxRecDepth 20000

def aaaa : ByteArray := ⟨#[97, 97, 97, 97]⟩
def bbbb : ByteArray := ⟨#[98, 98, 98, 98]⟩
def nOld : ByteArray := ⟨#[111, 108, 100]⟩

def pairD (g : Int) (R T : List Int) : ImgD := ⟨g, [2, 4], [(0, ⟨#[]⟩, []), (1, aaaa, []), (2, ⟨#[]⟩, [1, 0, -1, 1]), (1, bbbb, []), (2, ⟨#[]⟩, T)], R, [(nOld, 4, [2])]⟩
structure PairW (n : Nat) (W : World) (R T : List Int) : Prop where
  root : LAt W (n + 1) [2, 4]
  ta : LAt W (n + 2) [1, 0, -1, 1]
  tb : LAt W (n + 3) T
  slots : W.heap[n + 4]? = some (.cells #[.int .i64 0, .string ⟨#[]⟩, .slice none 0 0, .int .i64 1, .string aaaa, .slice none 0 0, .int .i64 2, .string ⟨#[]⟩, .slice (some ⟨n + 2, 0, none⟩) 4 4, .int .i64 1, .string bbbb, .slice none 0 0, .int .i64 2, .string ⟨#[]⟩, .slice (some ⟨n + 3, 0, none⟩) 4 4] 72)
  refs : LAt W (n + 5) R
  sroot : LAt W (n + 6) [2]
  snaps : W.heap[n + 7]? = some (.cells #[.string nOld, .int .i64 4, .slice (some ⟨n + 6, 0, none⟩) 1 1] 64)

theorem alloc_get (W : World) (o : Obj) (i : Nat) : (W.alloc o).heap[i]? = if i = W.heap.size then some o else W.heap[i]? := by
  show (W.heap.push o)[i]? = _
  rw [Array.getElem?_push]

theorem size_alloc (W : World) (o : Obj) : (W.alloc o).heap.size = W.heap.size + 1 := by simp

set_option linter.unusedSimpArgs false in
theorem pair_at (w : World) : Calls Try.prog 42 #[] w fun r w' => r = .returned (.agg #[.int .i64 6, .slice (some ⟨w.heap.size + 1, 0, none⟩) 2 2, .slice (some ⟨w.heap.size + 4, 0, none⟩) 5 5, .slice (some ⟨w.heap.size + 5, 0, none⟩) 5 5, .slice (some ⟨w.heap.size + 7, 0, none⟩) 1 1]) ∧ PairW w.heap.size w' [0, 2, 2, 1, 1] [3, 0, 0, 0] ∧ Below w.heap.size w w' := by
  go_enter Try.func42, Try.ntmps42
  go_wp2
  refine bodyPost_ret (v := .agg #[.int .i64 6, .slice (some ⟨w.heap.size + 1, 0, none⟩) 2 2, .slice (some ⟨w.heap.size + 4, 0, none⟩) 5 5, .slice (some ⟨w.heap.size + 5, 0, none⟩) 5 5, .slice (some ⟨w.heap.size + 7, 0, none⟩) 1 1]) (by simp [results, Try.results42, go_sem]) rfl ⟨rfl, ⟨?_, ?_, ?_, ?_, ?_, ?_, ?_⟩, ?_⟩
  · show _ = _; simp only [alloc_get, size_alloc, Nat.add_right_cancel_iff, Nat.add_assoc, Nat.reduceAdd, Nat.add_left_cancel_iff, Nat.reduceEqDiff, ↓reduceIte, List.map, Nat.left_eq_add, reduceCtorEq, Nat.add_eq_left, Nat.succ_ne_self]
  · show _ = _; simp only [alloc_get, size_alloc, Nat.add_right_cancel_iff, Nat.add_assoc, Nat.reduceAdd, Nat.add_left_cancel_iff, Nat.reduceEqDiff, ↓reduceIte, List.map, Nat.left_eq_add, reduceCtorEq, Nat.add_eq_left, Nat.succ_ne_self]
  · show _ = _; simp only [alloc_get, size_alloc, Nat.add_right_cancel_iff, Nat.add_assoc, Nat.reduceAdd, Nat.add_left_cancel_iff, Nat.reduceEqDiff, ↓reduceIte, List.map, Nat.left_eq_add, reduceCtorEq, Nat.add_eq_left, Nat.succ_ne_self]
  · show _ = _; simp only [alloc_get, size_alloc, Nat.add_assoc, Nat.reduceAdd, Nat.add_left_cancel_iff, Nat.reduceEqDiff, ↓reduceIte, aaaa, bbbb]
  · show _ = _; simp only [alloc_get, size_alloc, Nat.add_right_cancel_iff, Nat.add_assoc, Nat.reduceAdd, Nat.add_left_cancel_iff, Nat.reduceEqDiff, ↓reduceIte, List.map, Nat.left_eq_add, reduceCtorEq, Nat.add_eq_left, Nat.succ_ne_self]
  · show _ = _; simp only [alloc_get, size_alloc, Nat.add_right_cancel_iff, Nat.add_assoc, Nat.reduceAdd, Nat.add_left_cancel_iff, Nat.reduceEqDiff, ↓reduceIte, List.map, Nat.left_eq_add, reduceCtorEq, Nat.add_eq_left, Nat.succ_ne_self]
  · show _ = _; simp only [alloc_get, size_alloc, Nat.add_assoc, Nat.reduceAdd, Nat.add_left_cancel_iff, Nat.reduceEqDiff, ↓reduceIte, nOld]
  · exact ((((((((Below.refl _ _).alloc (Nat.le_refl _) _).alloc (by simp) _).alloc (by simp; omega) _).alloc (by simp; omega) _).alloc (by simp; omega) _).alloc (by simp; omega) _).alloc (by simp; omega) _).alloc (by simp; omega) _

theorem PairW.below {n : Nat} {W W' : World} {R T : List Int} (h : PairW n W R T) {k : Nat} (hb : Below k W W') (hk : n + 8 ≤ k) : PairW n W' R T :=
  ⟨(hb.block _ (by omega)).trans h.root, (hb.block _ (by omega)).trans h.ta, (hb.block _ (by omega)).trans h.tb, (hb.block _ (by omega)).trans h.slots, (hb.block _ (by omega)).trans h.refs, (hb.block _ (by omega)).trans h.sroot, (hb.block _ (by omega)).trans h.snaps⟩
theorem PairW.size {n : Nat} {W : World} {R T : List Int} (h : PairW n W R T) : n + 8 ≤ W.heap.size := by
  have := (Array.getElem?_eq_some_iff.1 h.snaps).1; omega
theorem cell_of {W : World} {g : Nat} {A : Array Value} {t : TypeId} {fr : Nat × Nat} (h : W.heap[g]? = some (.cells A t fr)) {j : Nat} {v : Value} (hv : A[j]? = some v) : W.cell? ⟨g, j, none⟩ = some v := by
  simp [World.cell?, h, hv]
theorem PairW.img {n : Nat} {W : World} {R T : List Int} (h : PairW n W R T) (hR : R.length = 5) (hT : T.length = 4) (g : Int) :
    Img W (.agg #[.int .i64 g, .slice (some ⟨n + 1, 0, none⟩) 2 2, .slice (some ⟨n + 4, 0, none⟩) 5 5, .slice (some ⟨n + 5, 0, none⟩) 5 5, .slice (some ⟨n + 7, 0, none⟩) 1 1]) (pairD g R T) := by
  refine ⟨_, _, _, _, rfl, h.root.sl rfl (by decide), ⟨some ⟨n + 4, 0, none⟩, 5, rfl, show (5 : Nat) ≤ maxLen by decide, Nat.le_refl _, fun _ => ⟨n + 4, 0, rfl, (Array.getElem?_eq_some_iff.1 h.slots).1, ?_⟩⟩, h.refs.sl hR (by decide), ⟨some ⟨n + 7, 0, none⟩, 1, rfl, show (1 : Nat) ≤ maxLen by decide, Nat.le_refl _, fun _ => ⟨n + 7, 0, rfl, (Array.getElem?_eq_some_iff.1 h.snaps).1, ?_⟩⟩⟩
  · intro j hj
    have h5 : j < 5 := hj
    match j, h5 with
    | 0, _ => exact ⟨_, cell_of h.slots rfl, cell_of h.slots rfl, cell_of h.slots rfl, Sl.nil W⟩
    | 1, _ => exact ⟨_, cell_of h.slots rfl, cell_of h.slots rfl, cell_of h.slots rfl, Sl.nil W⟩
    | 2, _ => exact ⟨_, cell_of h.slots rfl, cell_of h.slots rfl, cell_of h.slots rfl, h.ta.sl rfl (by decide)⟩
    | 3, _ => exact ⟨_, cell_of h.slots rfl, cell_of h.slots rfl, cell_of h.slots rfl, Sl.nil W⟩
    | 4, _ => exact ⟨_, cell_of h.slots rfl, cell_of h.slots rfl, cell_of h.slots rfl, h.tb.sl hT (by decide)⟩
  · intro j hj
    have h1 : j < 1 := hj
    match j, h1 with
    | 0, _ => exact ⟨_, cell_of h.snaps rfl, cell_of h.snaps rfl, cell_of h.snaps rfl, h.sroot.sl rfl (by decide)⟩
theorem LAt.other {W : World} {g g' : Nat} {l : List Int} (h : LAt W g l) (hne : g ≠ g') (j : Nat) (v : Value) : LAt (W.setCell ⟨g', j, none⟩ v) g l := ((Only.set g' W j v).block g hne).trans h
theorem PairW.setRefs {n : Nat} {W : World} {R T : List Int} (h : PairW n W R T) (j : Nat) (x : Int) : PairW n (W.setCell ⟨n + 5, j, none⟩ (.int .i64 x)) (R.set j x) T :=
  ⟨h.root.other (by omega) _ _, h.ta.other (by omega) _ _, h.tb.other (by omega) _ _, ((Only.set (n + 5) W j _).block _ (by omega)).trans h.slots, h.refs.set j x, h.sroot.other (by omega) _ _, ((Only.set (n + 5) W j _).block _ (by omega)).trans h.snaps⟩
theorem pair_is (w : World) : Calls Try.prog 42 #[] w fun r w' => (∃ v, r = .returned v ∧ Img w' v (pairD 6 [0, 2, 2, 1, 1] [3, 0, 0, 0])) ∧ Below w.heap.size w w' :=
  (pair_at w).mono fun _ _ h => ⟨⟨_, h.1, h.2.1.img rfl rfl 6⟩, h.2.2⟩
end Go.Proofs.Ytehleeibgkpjmae
/- The image of pair: what is decided of it. -/
namespace Go.Proofs.Ytehleeibgkpjmae
open Go.RowKit Go.Shelf
set_option maxRecDepth 20000

abbrev pD : ImgD := pairD 6 [0, 2, 2, 1, 1] [3, 0, 0, 0]
end Go.Proofs.Ytehleeibgkpjmae
