/- Texts joined: PkV, FitP, MendI, PkW, Strs, FlPlain, WrR, WrA, TakI, TakJ, TakL, TakK. -/
import Derived.Test.YtehleeibgkpjmagMoveRoomJ6
import Derived.Test.YtehleeibgkpjmagMoveRoomJ5
import Derived.Test.YtehleeibgkpjmagMoveRoomJ3
import Derived.Test.YtehleeibgkpjmagMoveRoomJ1
import Derived.Test.YtehleeibgkpjmagMoveRoomJ4
import Derived.Deep.RegionHeld3
import Derived.Deep.RegionLaw
import Derived.Deep.CutRange
/- Contract of renumber. -/
namespace Go.Proofs.Ytehleeibgkpjmag
open Go.RowKit Go.Shelf
set_option maxRecDepth 20000
set_option linter.unusedVariables false
set_option linter.unusedSimpArgs false

theorem rn_snapcall {W wr : World} {B D bm r k i : Nat} {L : List SlotD} {g : ImgD} {val : Nm → Value} (h : RnR W wr B D bm r L g (rnI L k i g) val) (hB : B ≤ W.heap.size) (hk : k < g.snaps.length) (hl : (g.snaps.getD k default).2.2.length ≤ 1000) (hfar : ∀ a, Live g a → (val a).ownBlock ≠ some bm ∧ (val a).ownBlock ≠ some r) :
    Calls Try.prog 52 #[val (.sr k), .func (.func 24) #[] #[.pointer (some ⟨bm, 0, none⟩)]] wr fun q W' => q = .returned (.tuple #[]) ∧ RnR W W' B D bm r L g (rnI L (k + 1) i g) val := by
  have ha : Live (rnI L k i g) (.sr k) := (rnI_live _ _ _ _ _).2 (Live.sr hk)
  have hr := h.dto.dk.own.row _ ha
  have e1 : rowN (rnI L k i g) (.sr k) = (g.snaps.getD k default).2.2.length := by
    show ((rnS L k g.snaps).getD k default).2.2.length = _
    rw [rnS_get hk, if_neg (by omega)]
  have e2 : rowV (rnI L k i g) val (.sr k) = ints (g.snaps.getD k default).2.2 := by
    show ints ((rnS L k g.snaps).getD k default).2.2 = _
    rw [rnS_get hk, if_neg (by omega)]
  rw [e1, e2] at hr
  have hr : wr.ownsRow B 3 1 (val (.sr k)) (g.snaps.getD k default).2.2.length (ints (g.snaps.getD k default).2.2) := hr
  obtain ⟨f1, f2⟩ := hfar (.sr k) (Live.sr hk)
  refine (turnAll_is (g' := none) hl hr h.num f1 f2).mono ?_
  rintro q W' ⟨rfl, k1, k2⟩
  have e3 : rowN (rnI L (k + 1) i g) (.sr k) = (g.snaps.getD k default).2.2.length := by
    show ((rnS L (k + 1) g.snaps).getD k default).2.2.length = _
    rw [rnS_get hk, if_pos (by omega)]
    show ((g.snaps.getD k default).2.2.map (ren L)).length = _
    rw [List.length_map]
  have e4 : rowV (rnI L (k + 1) i g) val (.sr k) = ints ((g.snaps.getD k default).2.2.map (ren L)) := by
    show ints ((rnS L (k + 1) g.snaps).getD k default).2.2 = _
    rw [rnS_get hk, if_pos (by omega)]; rfl
  refine ⟨rfl, h.dto.turn hB (rnI_live _ _ _ _) ha (by rw [e3, e4]; exact k1) k2 (fun b => (rnI_live _ _ _ _ b).trans (rnI_live _ _ _ _ b).symm) rfl (fun b hb hne => rn_snap b ((rnI_live _ _ _ _ b).1 hb) hne), h.num.grown k2 f1 f2⟩

theorem rn_slotcall {W wr : World} {B D bm r j k : Nat} {L : List SlotD} {g : ImgD} {val : Nm → Value} (h : RnR W wr B D bm r L g (rnI L j k g) val) (hB : B ≤ W.heap.size) (hk : k < g.slots.length) (hl : (g.slots.getD k default).2.2.length ≤ 1000) (hfar : ∀ a, Live g a → (val a).ownBlock ≠ some bm ∧ (val a).ownBlock ≠ some r) :
    Calls Try.prog 52 #[val (.tab k), .func (.func 24) #[] #[.pointer (some ⟨bm, 0, none⟩)]] wr fun q W' => q = .returned (.tuple #[]) ∧ RnR W W' B D bm r L g (rnI L j (k + 1) g) val := by
  have ha : Live (rnI L j k g) (.tab k) := (rnI_live _ _ _ _ _).2 (Live.tab hk)
  have hr := h.dto.dk.own.row _ ha
  have e1 : rowN (rnI L j k g) (.tab k) = (g.slots.getD k default).2.2.length := by
    show ((rnL L k g.slots).getD k default).2.2.length = _
    rw [rnL_get hk, if_neg (by omega)]
  have e2 : rowV (rnI L j k g) val (.tab k) = ints (g.slots.getD k default).2.2 := by
    show ints ((rnL L k g.slots).getD k default).2.2 = _
    rw [rnL_get hk, if_neg (by omega)]
  rw [e1, e2] at hr
  have hr : wr.ownsRow B 3 1 (val (.tab k)) (g.slots.getD k default).2.2.length (ints (g.slots.getD k default).2.2) := hr
  obtain ⟨f1, f2⟩ := hfar (.tab k) (Live.tab hk)
  refine (turnAll_is (g' := none) hl hr h.num f1 f2).mono ?_
  rintro q W' ⟨rfl, k1, k2⟩
  have e3 : rowN (rnI L j (k + 1) g) (.tab k) = (g.slots.getD k default).2.2.length := by
    show ((rnL L (k + 1) g.slots).getD k default).2.2.length = _
    rw [rnL_get hk, if_pos (by omega)]
    show ((g.slots.getD k default).2.2.map (ren L)).length = _
    rw [List.length_map]
  have e4 : rowV (rnI L j (k + 1) g) val (.tab k) = ints ((g.slots.getD k default).2.2.map (ren L)) := by
    show ints ((rnL L (k + 1) g.slots).getD k default).2.2 = _
    rw [rnL_get hk, if_pos (by omega)]; rfl
  refine ⟨rfl, h.dto.turn hB (rnI_live _ _ _ _) ha (by rw [e3, e4]; exact k1) k2 (fun b => (rnI_live _ _ _ _ b).trans (rnI_live _ _ _ _ b).symm) rfl (fun b hb hne => rn_slot b ((rnI_live _ _ _ _ b).1 hb) hne), h.num.grown k2 f1 f2⟩

set_option maxHeartbeats 8000000 in
theorem renumber_is {W : World} {B D bm r : Nat} {L : List SlotD} {g : ImgD} {val : Nm → Value} (hK : DK W B D val g) (hB : B ≤ W.heap.size) (hN : NumB W bm r L) (hfar : ∀ a, Live g a → (val a).ownBlock ≠ some bm ∧ (val a).ownBlock ≠ some r) (hl0 : g.root.length ≤ 1000) (hn1 : g.snaps.length ≤ 1000) (hn2 : g.slots.length ≤ 1000) (hl1 : ∀ k, k < g.snaps.length → (g.snaps.getD k default).2.2.length ≤ 1000) (hl2 : ∀ k, k < g.slots.length → (g.slots.getD k default).2.2.length ≤ 1000) :
    Calls Try.prog 23 #[.pointer (some ⟨D, 0, none⟩), .func (.func 24) #[] #[.pointer (some ⟨bm, 0, none⟩)]] W fun q W' => q = .returned (.tuple #[]) ∧ DTo W W' B D g val nilV (rnI L g.snaps.length g.slots.length g) val := by
  obtain ⟨ra, rc, e0, _⟩ := hK.own.forms .root (Live.root g)
  obtain ⟨sa, sc, e1, _⟩ := hK.own.forms .slots (Live.slots g)
  obtain ⟨na, nc, e3, _⟩ := hK.own.forms .snaps (Live.snaps g)
  have e0 : val .root = .slice ra g.root.length rc := e0
  have e1 : val .slots = .slice sa g.slots.length sc := e1
  have e3 : val .snaps = .slice na g.snaps.length nc := e3
  have HV : Hid (val .root = .slice ra g.root.length rc ∧ val .slots = .slice sa g.slots.length sc ∧ val .snaps = .slice na g.snaps.length nc) := ⟨e0, e1, e3⟩
  have HL : Hid (g.root.length ≤ 1000 ∧ (∀ k, k < g.snaps.length → (g.snaps.getD k default).2.2.length ≤ 1000) ∧ ∀ k, k < g.slots.length → (g.slots.getD k default).2.2.length ≤ 1000) := ⟨hl0, hl1, hl2⟩
  have HB : Hid (B ≤ W.heap.size) := hB
  have HF : Hid (∀ a, Live g a → (val a).ownBlock ≠ some bm ∧ (val a).ownBlock ≠ some r) := hfar
  have hr : W.ownsRow B 3 1 (val .root) g.root.length (ints g.root) := hK.own.row .root (Live.root g)
  obtain ⟨f1, f2⟩ := hfar .root (Live.root g)
  have hcall : Calls Try.prog 52 #[.slice ra g.root.length rc, .func (.func 24) #[] #[.pointer (some ⟨bm, 0, none⟩)]] W fun q W' => q = .returned (.tuple #[]) ∧ RnR W W' B D bm r L g (rnI L 0 0 g) val := by
    have hc := turnAll_is (g' := none) hl0 hr hN f1 f2
    rw [e0] at hc
    refine hc.mono ?_
    rintro q W' ⟨rfl, k1, k2⟩
    rw [← e0] at k1 k2
    refine ⟨rfl, (DTo.refl hK nilV).turn hB (fun _ => Iff.rfl) (Live.root g) (a := .root) (m' := rnI L 0 0 g) ?_ k2 (rnI_live _ _ _ _) rfl (fun b hb hne => ?_), hN.grown k2 f1 f2⟩
    · show W'.ownsRow B 3 1 (val .root) (g.root.map (ren L)).length (ints (g.root.map (ren L)))
      rw [List.length_map]; exact k1
    · rcases hb.cases with rfl | rfl | rfl | rfl | ⟨k, rfl, hk⟩ | ⟨k, rfl, hk⟩
      · exact absurd rfl hne
      · exact ⟨rfl, rfl⟩
      · exact ⟨rfl, rfl⟩
      · exact ⟨rfl, rfl⟩
      · exact ⟨rfl, rfl⟩
      · exact ⟨rfl, rfl⟩
  obtain ⟨_, c1, _, _, _⟩ := hK.five
  rw [e0] at c1
  clear hK hB hN hfar hl0 hl1 hl2 hr f1 f2 e0 e1 e3
  go_enter Try.func23, Try.ntmps23
  go_wp2_with fail
  refine hcall.mono ?_
  rintro e' w1 ⟨rfl, hR⟩
  dsimp only
  have d4 : w1.cell? ⟨D, 4, none⟩ = some (.slice na g.snaps.length nc) := by have := hR.dto.dk.five.2.2.2.2; rw [HV.out.2.2] at this; exact this
  have HR1 : Hid (RnR W w1 B D bm r L g (rnI L 0 0 g) val) := hR
  clear hR c1 hcall
  go_wp2_with fail
  clear d4
  go_loopw [21] (fun i wr => ∃ k : Nat, k ≤ g.snaps.length ∧ i = .int .i64 k ∧ Hid (RnR W wr B D bm r L g (rnI L k 0 g) val)) (fun i _ => g.snaps.length - (intOf i).toNat)
  case atStart => exact ⟨0, Nat.zero_le _, rfl, HR1⟩
  case round =>
    obtain ⟨k, hk, rfl, HC⟩ := hrel
    by_cases hkl : k < g.snaps.length
    · have hki : (k : Int) < (g.snaps.length : Int) := by omega
      have hrow : wr.ownsRow B 74 3 (val .snaps) g.snaps.length (flatN g.snaps (fun j => val (.sr j))) := by
        have := HC.out.dto.dk.own.row .snaps (Live.snaps _)
        have e1 : rowN (rnI L k 0 g) .snaps = g.snaps.length := by exact rnS_length _ _ _
        have e2 : rowV (rnI L k 0 g) val .snaps = flatN g.snaps (fun j => val (.sr j)) := flatN_rn
        rw [e1, e2] at this
        exact this
      rw [HV.out.2.2] at hrow
      obtain ⟨cb, hcb⟩ : ∃ b, na = some ⟨b, 0, none⟩ := by
        rcases row_form hrow with ⟨e, hn⟩ | ⟨b, c, e, _⟩
        · omega
        · simp only [Value.slice.injEq] at e; exact ⟨b, e.1⟩
      subst hcb
      obtain ⟨g0, g1, g2⟩ := flatN_get (qv := fun j => val (.sr j)) hkl
      obtain ⟨x0, hx0⟩ : ∃ x, x = (g.snaps.getD k default).1 := ⟨_, rfl⟩
      obtain ⟨x1, hx1⟩ : ∃ x, x = (g.snaps.getD k default).2.1 := ⟨_, rfl⟩
      rw [← hx0] at g0
      rw [← hx1] at g1
      obtain ⟨qa, qc, eq, _⟩ := HC.out.dto.dk.own.forms (.sr k) ((rnI_live _ _ _ _ _).2 (Live.sr hkl))
      obtain ⟨qn, hqn⟩ : ∃ n, rowN (rnI L k 0 g) (.sr k) = n := ⟨_, rfl⟩
      rw [hqn] at eq
      have v0 : wr.cell? ⟨cb, k * 3, none⟩ = some (.string x0) := (hrow.cellAt (k * 3 + 0) (by omega)).trans g0
      have v1 : wr.cell? ⟨cb, k * 3 + 1, none⟩ = some (.int .i64 x1) := (hrow.cellAt (k * 3 + 1) (by omega)).trans g1
      have v2 : wr.cell? ⟨cb, k * 3 + 1 + 1, none⟩ = some (.slice qa qn qc) := (hrow.cellAt (k * 3 + 2) (by omega)).trans (g2.trans (by rw [← eq]))
      have hcall := rn_snapcall (HC.out.alloc HB.out (.cells #[.string x0, .int .i64 x1, .slice qa qn qc] 74)) HB.out hkl (HL.out.2.1 k hkl) HF.out
      rw [eq] at hcall
      clear g0 g1 g2 hx0 hx1 eq hqn hrow
      go_wp2_with fail
      refine hcall.mono ?_
      rintro e' w1 ⟨rfl, hR⟩
      have HR : Hid (RnR W w1 B D bm r L g (rnI L (k + 1) 0 g) val) := hR
      clear hR
      dsimp only
      go_wp2_with fail
      go_roundw
      case rel => exact ⟨k + 1, by omega, by go_num, HR⟩
      case measure => first | (simp [intOf]; done) | (simp [intOf]; omega)
    · have e : k = g.snaps.length := by omega
      subst e
      have d2 : wr.cell? ⟨D, 2, none⟩ = some (.slice sa g.slots.length sc) := by have := HC.out.dto.dk.five.2.2.1; rw [HV.out.2.1] at this; exact this
      obtain ⟨w5, hw5⟩ : ∃ X, X = wr := ⟨_, rfl⟩
      subst hw5
      go_wp2_with fail
      clear d2
      go_loopw [36] (fun i wr => ∃ k : Nat, k ≤ g.slots.length ∧ i = .int .i64 k ∧ Hid (RnR W wr B D bm r L g (rnI L g.snaps.length k g) val)) (fun i _ => g.slots.length - (intOf i).toNat)
      case atStart => exact ⟨0, Nat.zero_le _, rfl, HC⟩
      case round =>
        clear HC
        obtain ⟨k, hk, rfl, HC⟩ := hrel
        by_cases hkl : k < g.slots.length
        · have hki : (k : Int) < (g.slots.length : Int) := by omega
          have hrow : wr.ownsRow B 60 3 (val .slots) g.slots.length (flatS g.slots (fun j => val (.tab j))) := by
            have := HC.out.dto.dk.own.row .slots (Live.slots _)
            have e1 : rowN (rnI L g.snaps.length k g) .slots = g.slots.length := by exact rnL_length _ _ _
            have e2 : rowV (rnI L g.snaps.length k g) val .slots = flatS g.slots (fun j => val (.tab j)) := flatS_rn
            rw [e1, e2] at this
            exact this
          rw [HV.out.2.1] at hrow
          obtain ⟨cb, hcb⟩ : ∃ b, sa = some ⟨b, 0, none⟩ := by
            rcases row_form hrow with ⟨e, hn⟩ | ⟨b, c, e, _⟩
            · omega
            · simp only [Value.slice.injEq] at e; exact ⟨b, e.1⟩
          subst hcb
          obtain ⟨g0, g1, g2⟩ := flatS_get (tv := fun j => val (.tab j)) hkl
          obtain ⟨x0, hx0⟩ : ∃ x, x = (g.slots.getD k default).1 := ⟨_, rfl⟩
          obtain ⟨x1, hx1⟩ : ∃ x, x = (g.slots.getD k default).2.1 := ⟨_, rfl⟩
          rw [← hx0] at g0
          rw [← hx1] at g1
          obtain ⟨qa, qc, eq, _⟩ := HC.out.dto.dk.own.forms (.tab k) ((rnI_live _ _ _ _ _).2 (Live.tab hkl))
          obtain ⟨qn, hqn⟩ : ∃ n, rowN (rnI L g.snaps.length k g) (.tab k) = n := ⟨_, rfl⟩
          rw [hqn] at eq
          have v0 : wr.cell? ⟨cb, k * 3, none⟩ = some (.int .i64 x0) := (hrow.cellAt (k * 3 + 0) (by omega)).trans g0
          have v1 : wr.cell? ⟨cb, k * 3 + 1, none⟩ = some (.string x1) := (hrow.cellAt (k * 3 + 1) (by omega)).trans g1
          have v2 : wr.cell? ⟨cb, k * 3 + 1 + 1, none⟩ = some (.slice qa qn qc) := (hrow.cellAt (k * 3 + 2) (by omega)).trans (g2.trans (by rw [← eq]))
          have hcall := rn_slotcall (HC.out.alloc HB.out (.cells #[.int .i64 x0, .string x1, .slice qa qn qc] 60)) HB.out hkl (HL.out.2.2 k hkl) HF.out
          rw [eq] at hcall
          clear g0 g1 g2 hx0 hx1 eq hqn hrow
          go_wp2_with fail
          refine hcall.mono ?_
          rintro e' w1 ⟨rfl, hR⟩
          have HR : Hid (RnR W w1 B D bm r L g (rnI L g.snaps.length (k + 1) g) val) := hR
          clear hR
          dsimp only
          go_wp2_with fail
          go_roundw
          case rel => exact ⟨k + 1, by omega, by go_num, HR⟩
          case measure => first | (simp [intOf]; done) | (simp [intOf]; omega)
        · have e : k = g.slots.length := by omega
          subst e
          go_wp2_with fail
          go_end0
          exact ⟨rfl, HC.out.dto⟩
end Go.Proofs.Ytehleeibgkpjmag
/- An image of right shape is not too wide to be copied. -/
namespace Go.Proofs.Ytehleeibgkpjmag
open Go.RowKit
set_option maxRecDepth 20000

theorem okD_len {s : SlotD} (h : okD s = true) : s.2.2.length ≤ 4 := by
  unfold okD slotOK at h
  split at h
  · simp at h; rw [h.2]; exact Nat.zero_le _
  · split at h
    · simp at h; rw [h.2]; exact Nat.zero_le _
    · split at h
      · simp at h; rw [ckE_len h.1]; exact Nat.le_refl _
      · cases h
theorem fits_of_shape {m : ImgD} (h : shapeE m = 0) : Fits m := by
  obtain ⟨h1, h2, h3, h4, h5, h6, h7⟩ := shapeE_zero h
  have hs := slotsE_parts h2
  have hR : ∀ s ∈ rootsOf m, s.2.2.length ≤ 5 := fun s hs => by
    have hg := List.all_eq_true.1 h5 s hs
    have hf := List.all_eq_true.1 h7 s hs
    unfold guestOK at hg
    unfold rootFit at hf
    simp only [Bool.and_eq_true, decide_eq_true_eq] at hg hf
    omega
  have hroot := hR (⟨#[]⟩, m.guest, m.root) List.mem_cons_self
  have hroot : m.root.length ≤ 5 := hroot
  have hr : room = 140737488355328 := room_is
  refine ⟨by omega, by omega, by omega, by omega, fun j hj => ?_, fun j hj => ?_⟩
  · have ok := slotsE_all h2 hj
    have e : m.slots.getD j default = m.slots[j] := by simp [List.getD, hj]
    rw [e]
    have : m.slots[j].2.2.length ≤ 4 := okD_len ok
    omega
  · have e : m.snaps.getD j default = m.snaps[j] := by simp [List.getD, hj]
    rw [e]
    have := hR m.snaps[j] (List.mem_cons_of_mem _ (List.getElem_mem hj))
    omega
end Go.Proofs.Ytehleeibgkpjmag
/- Contracts of mending: Repair and Leaks. -/
namespace Go.Proofs.Ytehleeibgkpjmag
open Go.RowKit Go.Shelf
theorem AnsI.open {w w' : World} {B : Nat} {m : ImgD} {err : Int} {r : Ending} (h : AnsI w B m err r w') : ∃ val ra rc sa sc fa fc na nc, r = .returned (.tuple #[.agg #[.int .i64 m.guest, .slice ra m.root.length rc, .slice sa m.slots.length sc, .slice fa m.refs.length fc, .slice na m.snaps.length nc], .int .i64 err]) ∧ OI w' B val m ∧ Below B w w' ∧ imgV m.guest val = .agg #[.int .i64 m.guest, .slice ra m.root.length rc, .slice sa m.slots.length sc, .slice fa m.refs.length fc, .slice na m.snaps.length nc] := by
  obtain ⟨val, rfl, hO, hb⟩ := h
  obtain ⟨ra, rc, e0, _⟩ := hO.forms .root (Live.root m)
  obtain ⟨sa, sc, e1, _⟩ := hO.forms .slots (Live.slots m)
  obtain ⟨fa, fc, e2, _⟩ := hO.forms .refs (Live.refs m)
  obtain ⟨na, nc, e3, _⟩ := hO.forms .snaps (Live.snaps m)
  have e : imgV m.guest val = .agg #[.int .i64 m.guest, .slice ra m.root.length rc, .slice sa m.slots.length sc, .slice fa m.refs.length fc, .slice na m.snaps.length nc] := by
    unfold imgV
    rw [e0, e1, e2, e3]
    rfl
  exact ⟨val, ra, rc, sa, sc, fa, fc, na, nc, by rw [e], hO, hb, e⟩


end Go.Proofs.Ytehleeibgkpjmag
/- Contract of Pack. -/
namespace Go.Proofs.Ytehleeibgkpjmag
open Go.RowKit Go.Shelf
set_option maxRecDepth 20000
set_option linter.unusedVariables false
set_option linter.unusedSimpArgs false

theorem rn_gath (m : ImgD) : rnI m.slots (gathD m).snaps.length (gathD m).slots.length (gathD m) = packD m := by
  unfold rnI rnS rnL packD
  rw [List.take_length, List.drop_length, List.take_length, List.drop_length, List.append_nil, List.append_nil]
  have : (gathD m).slots.map (packS m.slots) = packL m.slots := by
    show ((keptI m.slots).map (fun j => m.slots.getD j default)).map (packS m.slots) = _
    rw [List.map_map]; rfl
  rw [this]
  rfl
theorem fits_small {m : ImgD} (h : shapeE m = 0) : (gathD m).root.length ≤ 1000 ∧ (gathD m).snaps.length ≤ 1000 ∧ (gathD m).slots.length ≤ 1000 ∧ (∀ k, k < (gathD m).snaps.length → ((gathD m).snaps.getD k default).2.2.length ≤ 1000) ∧ ∀ k, k < (gathD m).slots.length → ((gathD m).slots.getD k default).2.2.length ≤ 1000 := by
  obtain ⟨l1, l40⟩ := slotsE_parts (shapeE_zero h).2.1
  obtain ⟨f1, f2, f3, _⟩ := snap_fit h (s := (⟨#[]⟩, m.guest, m.root)) List.mem_cons_self
  dsimp only at f1 f2 f3
  have hk := keptI_le m.slots
  have hlen : (gathD m).slots.length = (keptI m.slots).length := by show ((keptI m.slots).map _).length = _; rw [List.length_map]
  refine ⟨by show m.root.length ≤ 1000; omega, by have := (shapeE_zero h).1; show m.snaps.length ≤ 1000; omega, by omega, fun k hk => ?_, fun k hk => ?_⟩
  · have hk : k < m.snaps.length := hk
    have hm : m.snaps.getD k default ∈ m.snaps := by rw [show m.snaps.getD k default = m.snaps[k] by simp [List.getD, hk]]; exact List.getElem_mem hk
    obtain ⟨g1, g2, g3, _⟩ := snap_fit h (List.mem_cons_of_mem _ hm)
    show (m.snaps.getD k default).2.2.length ≤ 1000
    omega
  · rw [hlen] at hk
    obtain ⟨t1, t2⟩ := gath_tab (m := m) hk
    rw [t2]
    have hs := (shapeE_zero h).2.1
    have hall : m.slots.all okD = true := by
      unfold slotsE at hs
      rw [if_pos ⟨l1, l40⟩] at hs
      split at hs
      · rename_i x; exact x.1
      · cases hs
    have := okD_len (List.all_eq_true.1 hall _ (getD_mem t1))
    omega
set_option maxHeartbeats 4000000 in
theorem pack_turn {w : World} {m : ImgD} (hs : shapeE m = 0) : Turns w 20 #[] m (some (packD m)) := by
  intro W D B val hb h1 h2 hK
  show Calls Try.prog 20 #[.pointer (some ⟨D, 0, none⟩)] W (fun r W' => ∃ val', r = .returned (.tuple #[]) ∧ DTo W W' B D m val nilV (packD m) val')
  have hSl : Slots W (val .slots) m.slots := hK.own.img.four.2.1
  have hnum := numbers_is hSl (shapeE_zero hs).2.1
  obtain ⟨sa, sc, e1, _⟩ := hK.own.forms .slots (Live.slots m)
  have e1 : val .slots = .slice sa m.slots.length sc := e1
  have d2 := hK.five.2.2.1
  rw [e1] at hnum d2
  have hDl := hK.lt
  have HK : Hid (DK W B D val m ∧ B ≤ W.heap.size ∧ shapeE m = 0) := ⟨hK, h2, hs⟩
  clear hK hSl h1 h2 hs hb e1
  go_enter Try.func20, Try.ntmps20
  go_wp2_with (go_at_call 21; refine hnum.mono ?_; rintro e' w1 ⟨rfl, hmap, b1⟩; have HM : Hid (w1.heap[W.heap.size]? = some (.map ((entK m.slots ((List.range m.slots.length).filter (kept m.slots))).toArray) (rnk m.slots m.slots.length)) ∧ Below W.heap.size W w1) := ⟨hmap, b1⟩; clear hmap b1)
  have b2 : Below W.heap.size W (w1.alloc (.cells #[.map (some W.heap.size)] 48)) := HM.out.2.alloc HM.out.2.size _
  have hs2 : W.heap.size + 1 ≤ w1.heap.size := (Array.getElem?_eq_some_iff.1 HM.out.1).1
  have hmap2 := map_alloc HM.out.1 (.cells #[.map (some W.heap.size)] 48)
  have hK2 := HK.out.1.below b2
  have hg := gather_is hK2 (Nat.le_trans HK.out.2.1 b2.size) hmap2 HK.out.2.2
  refine hg.mono ?_
  rintro e' w3 ⟨rfl, val3, hT⟩
  dsimp only
  have hz2 : (w1.alloc (.cells #[.map (some W.heap.size)] 48)).heap.size = w1.heap.size + 1 := by simp
  have hold : ∀ q, W.heap.size ≤ q → ∀ a, Live m a → (val a).ownBlock ≠ some q := fun q hq a ha e => by have := ((HK.out.1.own.row a ha).lt q e).2; omega
  have hN : NumB w3 w1.heap.size W.heap.size m.slots := ⟨(hT.keep w1.heap.size (by omega) (by omega) (nilV_own _) (hold _ (by omega))).trans (World.alloc_heap_new _ _), (hT.keep W.heap.size (by omega) (by omega) (nilV_own _) (hold _ (Nat.le_refl _))).trans hmap2⟩
  have hfar : ∀ a, Live (gathD m) a → (val3 a).ownBlock ≠ some w1.heap.size ∧ (val3 a).ownBlock ≠ some W.heap.size := fun a ha => ⟨hT.src _ (by omega) (nilV_own _) (hold _ (by omega)) a ha, hT.src _ (by omega) (nilV_own _) (hold _ (Nat.le_refl _)) a ha⟩
  have hsh := HK.out.2.2
  have hfit := fits_small hsh
  have hren := renumber_is hT.dk (Nat.le_trans (Nat.le_trans HK.out.2.1 b2.size) hT.bel.size) hN hfar hfit.1 hfit.2.1 hfit.2.2.1 hfit.2.2.2.1 hfit.2.2.2.2
  rw [rn_gath] at hren
  have cb : w3.cell? ⟨w1.heap.size, 0, none⟩ = some (.map (some W.heap.size)) := by simp [World.cell?, hN.1]
  have HT : Hid (∀ w4, DTo w3 w4 B D (gathD m) val3 nilV (packD m) val3 → DTo W w4 B D m val nilV (packD m) val3) := fun w4 h4 => DTo.first b2 HK.out.2.1 (hT.andThen h4) (fun q e => by cases e)
  clear hT hN hfar hfit hg hK2 hmap2 hold
  have hmf : ∀ (fn : Fn) (first cap : Array Value) (w : World), (Instr.makeFunc fn first cap).run Try.prog w = .ok (.func fn first cap) w := fun _ _ _ _ => rfl
  go_wp2_with fail
  refine hren.mono ?_
  rintro e' w4 ⟨rfl, h4⟩
  dsimp only
  have HF := HT.out w4 h4
  have HF' : Hid (DTo W w4 B D m val nilV (packD m) val3) := HF
  clear h4 HF
  go_wp2_with fail
  go_end0
  first | exact ⟨_, rfl, HF'.out⟩ | exact ⟨rfl, _, HF'.out⟩

def pkM (m : ImgD) : ImgD := if checkE m = 0 then packD m else imgZ
set_option maxHeartbeats 4000000 in
theorem pack_bad_at (m : ImgD) (ra : Option Addr) (rc : Nat) (sa : Option Addr) (sc : Nat) (fa : Option Addr) (fc : Nat) (na : Option Addr) (nc : Nat) (E : Int) (w : World) (h : Img w (.agg #[.int .i64 m.guest, .slice ra m.root.length rc, .slice sa m.slots.length sc, .slice fa m.refs.length fc, .slice na m.snaps.length nc]) m) (hE : checkE m = E) (hne : (E != 0) = true) :
    Calls Try.prog 6 #[.agg #[.int .i64 m.guest, .slice ra m.root.length rc, .slice sa m.slots.length sc, .slice fa m.refs.length fc, .slice na m.snaps.length nc]] w (AnsI w w.heap.size imgZ E) := by
  have b0 : Below w.heap.size w ((w.alloc (.cells #[.int .i64 m.guest, .slice ra m.root.length rc, .slice sa m.slots.length sc, .slice fa m.refs.length fc, .slice na m.snaps.length nc] 26)).alloc (.cells #[.int .i64 0, .slice none 0 0, .slice none 0 0, .slice none 0 0, .slice none 0 0] 26)) := ((Below.refl _ _).alloc (by simp; try omega) _).alloc (by simp; try omega) _
  have q0 : (w.alloc (.cells #[.int .i64 m.guest, .slice ra m.root.length rc, .slice sa m.slots.length sc, .slice fa m.refs.length fc, .slice na m.snaps.length nc] 26)).heap[w.heap.size]? = some (.cells #[.int .i64 m.guest, .slice ra m.root.length rc, .slice sa m.slots.length sc, .slice fa m.refs.length fc, .slice na m.snaps.length nc] 26) := by have := World.alloc_heap_new w (.cells #[.int .i64 m.guest, .slice ra m.root.length rc, .slice sa m.slots.length sc, .slice fa m.refs.length fc, .slice na m.snaps.length nc] 26); simpa using this
  have m0 : ((w.alloc (.cells #[.int .i64 m.guest, .slice ra m.root.length rc, .slice sa m.slots.length sc, .slice fa m.refs.length fc, .slice na m.snaps.length nc] 26)).alloc (.cells #[.int .i64 0, .slice none 0 0, .slice none 0 0, .slice none 0 0, .slice none 0 0] 26)).heap[w.heap.size]? = some (.cells #[.int .i64 m.guest, .slice ra m.root.length rc, .slice sa m.slots.length sc, .slice fa m.refs.length fc, .slice na m.snaps.length nc] 26) := (cells_alloc q0 _)
  have q1 : ((w.alloc (.cells #[.int .i64 m.guest, .slice ra m.root.length rc, .slice sa m.slots.length sc, .slice fa m.refs.length fc, .slice na m.snaps.length nc] 26)).alloc (.cells #[.int .i64 0, .slice none 0 0, .slice none 0 0, .slice none 0 0, .slice none 0 0] 26)).heap[w.heap.size + 1]? = some (.cells #[.int .i64 0, .slice none 0 0, .slice none 0 0, .slice none 0 0, .slice none 0 0] 26) := by have := World.alloc_heap_new (w.alloc (.cells #[.int .i64 m.guest, .slice ra m.root.length rc, .slice sa m.slots.length sc, .slice fa m.refs.length fc, .slice na m.snaps.length nc] 26)) (.cells #[.int .i64 0, .slice none 0 0, .slice none 0 0, .slice none 0 0, .slice none 0 0] 26); simpa using this
  have m1 : ((w.alloc (.cells #[.int .i64 m.guest, .slice ra m.root.length rc, .slice sa m.slots.length sc, .slice fa m.refs.length fc, .slice na m.snaps.length nc] 26)).alloc (.cells #[.int .i64 0, .slice none 0 0, .slice none 0 0, .slice none 0 0, .slice none 0 0] 26)).heap[w.heap.size + 1]? = some (.cells #[.int .i64 0, .slice none 0 0, .slice none 0 0, .slice none 0 0, .slice none 0 0] 26) := q1
  have hz : ((w.alloc (.cells #[.int .i64 m.guest, .slice ra m.root.length rc, .slice sa m.slots.length sc, .slice fa m.refs.length fc, .slice na m.snaps.length nc] 26)).alloc (.cells #[.int .i64 0, .slice none 0 0, .slice none 0 0, .slice none 0 0, .slice none 0 0] 26)).heap.size = w.heap.size + 1 + 1 := by simp
  clear q0 q1
  have hchk := tcheck_is (h.below b0) hE
  obtain ⟨c0, c1, c2, c3, c4⟩ := five m0
  have HM : Hid ((Below w.heap.size w ((w.alloc (.cells #[.int .i64 m.guest, .slice ra m.root.length rc, .slice sa m.slots.length sc, .slice fa m.refs.length fc, .slice na m.snaps.length nc] 26)).alloc (.cells #[.int .i64 0, .slice none 0 0, .slice none 0 0, .slice none 0 0, .slice none 0 0] 26)) ∧ ((w.alloc (.cells #[.int .i64 m.guest, .slice ra m.root.length rc, .slice sa m.slots.length sc, .slice fa m.refs.length fc, .slice na m.snaps.length nc] 26)).alloc (.cells #[.int .i64 0, .slice none 0 0, .slice none 0 0, .slice none 0 0, .slice none 0 0] 26)).heap.size = w.heap.size + 1 + 1) ∧ ((w.alloc (.cells #[.int .i64 m.guest, .slice ra m.root.length rc, .slice sa m.slots.length sc, .slice fa m.refs.length fc, .slice na m.snaps.length nc] 26)).alloc (.cells #[.int .i64 0, .slice none 0 0, .slice none 0 0, .slice none 0 0, .slice none 0 0] 26)).heap[w.heap.size]? = some (.cells #[.int .i64 m.guest, .slice ra m.root.length rc, .slice sa m.slots.length sc, .slice fa m.refs.length fc, .slice na m.snaps.length nc] 26) ∧ ((w.alloc (.cells #[.int .i64 m.guest, .slice ra m.root.length rc, .slice sa m.slots.length sc, .slice fa m.refs.length fc, .slice na m.snaps.length nc] 26)).alloc (.cells #[.int .i64 0, .slice none 0 0, .slice none 0 0, .slice none 0 0, .slice none 0 0] 26)).heap[w.heap.size + 1]? = some (.cells #[.int .i64 0, .slice none 0 0, .slice none 0 0, .slice none 0 0, .slice none 0 0] 26)) := ⟨⟨b0, hz⟩, m0, m1⟩
  clear h m0 m1 hz b0 hE
  go_enter Try.func6, Try.ntmps6
  go_wp2_with (go_at_call 18; refine hchk.mono ?_; rintro e w1 ⟨rfl, b1⟩; have k3 := cells_below HM.out.2.2 b1 (by rw [HM.out.1.2]; omega); obtain ⟨z0, z1, z2, z3, z4⟩ := five k3; have y0 := cells_frozen k3 0; have y1 := cells_frozen k3 1; have y2 := cells_frozen k3 2; have y3 := cells_frozen k3 3; have y4 := cells_frozen k3 4; have HB : Hid (Below w.heap.size w w1) := Below.on HM.out.1.1 b1; clear b1 k3)
  have i1 : w.heap.size ≤ w.heap.size + 1 := by omega
  refine bodyPost_ret (v := .tuple #[.agg #[.int .i64 0, .slice none 0 0, .slice none 0 0, .slice none 0 0, .slice none 0 0], .int .i64 E]) (by simp [results, Try.results6, go_sem, z0, z1, z2, z3, z4]) rfl (AnsI.bad E (((((HB.out.setCell i1 _).setCell i1 _).setCell i1 _).setCell i1 _).setCell i1 _))
set_option maxHeartbeats 4000000 in
theorem pack_ok_at (m : ImgD) (ra : Option Addr) (rc : Nat) (sa : Option Addr) (sc : Nat) (fa : Option Addr) (fc : Nat) (na : Option Addr) (nc : Nat) (w : World) (h : Img w (.agg #[.int .i64 m.guest, .slice ra m.root.length rc, .slice sa m.slots.length sc, .slice fa m.refs.length fc, .slice na m.snaps.length nc]) m) (hE : checkE m = 0) (M : ImgD) (hM : packD m = M) :
    Calls Try.prog 6 #[.agg #[.int .i64 m.guest, .slice ra m.root.length rc, .slice sa m.slots.length sc, .slice fa m.refs.length fc, .slice na m.snaps.length nc]] w (AnsI w w.heap.size M 0) := by
  have b0 : Below w.heap.size w ((w.alloc (.cells #[.int .i64 m.guest, .slice ra m.root.length rc, .slice sa m.slots.length sc, .slice fa m.refs.length fc, .slice na m.snaps.length nc] 26)).alloc (.cells #[.int .i64 0, .slice none 0 0, .slice none 0 0, .slice none 0 0, .slice none 0 0] 26)) := ((Below.refl _ _).alloc (by simp; try omega) _).alloc (by simp; try omega) _
  have q0 : (w.alloc (.cells #[.int .i64 m.guest, .slice ra m.root.length rc, .slice sa m.slots.length sc, .slice fa m.refs.length fc, .slice na m.snaps.length nc] 26)).heap[w.heap.size]? = some (.cells #[.int .i64 m.guest, .slice ra m.root.length rc, .slice sa m.slots.length sc, .slice fa m.refs.length fc, .slice na m.snaps.length nc] 26) := by have := World.alloc_heap_new w (.cells #[.int .i64 m.guest, .slice ra m.root.length rc, .slice sa m.slots.length sc, .slice fa m.refs.length fc, .slice na m.snaps.length nc] 26); simpa using this
  have m0 : ((w.alloc (.cells #[.int .i64 m.guest, .slice ra m.root.length rc, .slice sa m.slots.length sc, .slice fa m.refs.length fc, .slice na m.snaps.length nc] 26)).alloc (.cells #[.int .i64 0, .slice none 0 0, .slice none 0 0, .slice none 0 0, .slice none 0 0] 26)).heap[w.heap.size]? = some (.cells #[.int .i64 m.guest, .slice ra m.root.length rc, .slice sa m.slots.length sc, .slice fa m.refs.length fc, .slice na m.snaps.length nc] 26) := (cells_alloc q0 _)
  have q1 : ((w.alloc (.cells #[.int .i64 m.guest, .slice ra m.root.length rc, .slice sa m.slots.length sc, .slice fa m.refs.length fc, .slice na m.snaps.length nc] 26)).alloc (.cells #[.int .i64 0, .slice none 0 0, .slice none 0 0, .slice none 0 0, .slice none 0 0] 26)).heap[w.heap.size + 1]? = some (.cells #[.int .i64 0, .slice none 0 0, .slice none 0 0, .slice none 0 0, .slice none 0 0] 26) := by have := World.alloc_heap_new (w.alloc (.cells #[.int .i64 m.guest, .slice ra m.root.length rc, .slice sa m.slots.length sc, .slice fa m.refs.length fc, .slice na m.snaps.length nc] 26)) (.cells #[.int .i64 0, .slice none 0 0, .slice none 0 0, .slice none 0 0, .slice none 0 0] 26); simpa using this
  have m1 : ((w.alloc (.cells #[.int .i64 m.guest, .slice ra m.root.length rc, .slice sa m.slots.length sc, .slice fa m.refs.length fc, .slice na m.snaps.length nc] 26)).alloc (.cells #[.int .i64 0, .slice none 0 0, .slice none 0 0, .slice none 0 0, .slice none 0 0] 26)).heap[w.heap.size + 1]? = some (.cells #[.int .i64 0, .slice none 0 0, .slice none 0 0, .slice none 0 0, .slice none 0 0] 26) := q1
  have hz : ((w.alloc (.cells #[.int .i64 m.guest, .slice ra m.root.length rc, .slice sa m.slots.length sc, .slice fa m.refs.length fc, .slice na m.snaps.length nc] 26)).alloc (.cells #[.int .i64 0, .slice none 0 0, .slice none 0 0, .slice none 0 0, .slice none 0 0] 26)).heap.size = w.heap.size + 1 + 1 := by simp
  clear q0 q1
  have hchk := tcheck_is (h.below b0) hE
  obtain ⟨c0, c1, c2, c3, c4⟩ := five m0
  have HO : Hid (∀ w1, Below ((w.alloc (.cells #[.int .i64 m.guest, .slice ra m.root.length rc, .slice sa m.slots.length sc, .slice fa m.refs.length fc, .slice na m.snaps.length nc] 26)).alloc (.cells #[.int .i64 0, .slice none 0 0, .slice none 0 0, .slice none 0 0, .slice none 0 0] 26)).heap.size ((w.alloc (.cells #[.int .i64 m.guest, .slice ra m.root.length rc, .slice sa m.slots.length sc, .slice fa m.refs.length fc, .slice na m.snaps.length nc] 26)).alloc (.cells #[.int .i64 0, .slice none 0 0, .slice none 0 0, .slice none 0 0, .slice none 0 0] 26)) w1 → Calls Try.prog 19 #[.agg #[.int .i64 m.guest, .slice ra m.root.length rc, .slice sa m.slots.length sc, .slice fa m.refs.length fc, .slice na m.snaps.length nc], .func (.func 20) #[] #[]] w1 (AnsI w1 w1.heap.size M 0)) := fun w1 b1 => by
    have ho := of_is (h.below (Below.on b0 b1)) (fits_of_shape (checkE_shape hE)) (enters_of Try.func20 (by kernel_rfl) rfl) (pack_turn (w := w1) (checkE_shape hE))
    have hsh := pack_shape (checkE_shape hE)
    have e1 : ofM (some (packD m)) = M := by unfold ofM; dsimp only; rw [if_pos hsh, counted_same (pack_right hE)]; exact hM
    have e2 : ofE (some (packD m)) = 0 := hsh
    rw [e1, e2] at ho
    exact ho
  have HM : Hid ((Below w.heap.size w ((w.alloc (.cells #[.int .i64 m.guest, .slice ra m.root.length rc, .slice sa m.slots.length sc, .slice fa m.refs.length fc, .slice na m.snaps.length nc] 26)).alloc (.cells #[.int .i64 0, .slice none 0 0, .slice none 0 0, .slice none 0 0, .slice none 0 0] 26)) ∧ ((w.alloc (.cells #[.int .i64 m.guest, .slice ra m.root.length rc, .slice sa m.slots.length sc, .slice fa m.refs.length fc, .slice na m.snaps.length nc] 26)).alloc (.cells #[.int .i64 0, .slice none 0 0, .slice none 0 0, .slice none 0 0, .slice none 0 0] 26)).heap.size = w.heap.size + 1 + 1) ∧ ((w.alloc (.cells #[.int .i64 m.guest, .slice ra m.root.length rc, .slice sa m.slots.length sc, .slice fa m.refs.length fc, .slice na m.snaps.length nc] 26)).alloc (.cells #[.int .i64 0, .slice none 0 0, .slice none 0 0, .slice none 0 0, .slice none 0 0] 26)).heap[w.heap.size]? = some (.cells #[.int .i64 m.guest, .slice ra m.root.length rc, .slice sa m.slots.length sc, .slice fa m.refs.length fc, .slice na m.snaps.length nc] 26) ∧ ((w.alloc (.cells #[.int .i64 m.guest, .slice ra m.root.length rc, .slice sa m.slots.length sc, .slice fa m.refs.length fc, .slice na m.snaps.length nc] 26)).alloc (.cells #[.int .i64 0, .slice none 0 0, .slice none 0 0, .slice none 0 0, .slice none 0 0] 26)).heap[w.heap.size + 1]? = some (.cells #[.int .i64 0, .slice none 0 0, .slice none 0 0, .slice none 0 0, .slice none 0 0] 26)) := ⟨⟨b0, hz⟩, m0, m1⟩
  clear h m0 m1 hz b0 hE hM
  go_enter Try.func6, Try.ntmps6
  go_wp2_with (go_at_call 18; refine hchk.mono ?_; rintro e w1 ⟨rfl, b1⟩; have d0 := cells_below HM.out.2.1 b1 (by rw [HM.out.1.2]; omega); obtain ⟨x1, x2, x3, x4, x5⟩ := five d0; have hof := HO.out w1 b1; have HV : Hid (Below w.heap.size w w1 ∧ w1.heap[w.heap.size + 1]? = some (.cells #[.int .i64 0, .slice none 0 0, .slice none 0 0, .slice none 0 0, .slice none 0 0] 26) ∧ w.heap.size + 1 < w1.heap.size) := (⟨Below.on HM.out.1.1 b1, cells_below HM.out.2.2 b1 (by rw [HM.out.1.2]; omega), by have := b1.size; rw [HM.out.1.2] at this; omega⟩); clear b1 d0)
  refine hof.mono ?_
  intro e w3 hA
  obtain ⟨val, ga, gc, la, lc, oa, oc, ta, tc, rfl, hO, b1, hI⟩ := hA.open
  dsimp only
  have k3 := cells_below HV.out.2.1 b1 HV.out.2.2
  obtain ⟨z0, z1, z2, z3, z4⟩ := five k3
  have y0 := cells_frozen k3 0
  have y1 := cells_frozen k3 1
  have y2 := cells_frozen k3 2
  have y3 := cells_frozen k3 3
  have y4 := cells_frozen k3 4
  have HP : Hid (OI w3 w1.heap.size val M) := hO
  have HB : Hid (Below w.heap.size w w3) := Below.on HV.out.1 b1
  have HI : Hid (imgV M.guest val = .agg #[.int .i64 M.guest, .slice ga M.root.length gc, .slice la M.slots.length lc, .slice oa M.refs.length oc, .slice ta M.snaps.length tc]) := hI
  clear hO b1 hI hof hA
  go_wp2_with fail
  have i1 : w.heap.size ≤ w.heap.size + 1 := by omega
  have hf1 : ∀ a, Live M a → (val a).ownBlock ≠ some (w.heap.size + 1) := fun a ha e => by have := ((HP.out.row a ha).lt _ e).1; have := HV.out.2.2; omega
  refine bodyPost_ret (v := .tuple #[.agg #[.int .i64 M.guest, .slice ga M.root.length gc, .slice la M.slots.length lc, .slice oa M.refs.length oc, .slice ta M.snaps.length tc], .int .i64 0]) (by simp [results, Try.results6, go_sem, z0, z1, z2, z3, z4]) rfl ⟨val, by rw [HI.out], OI.mono (((((HP.out.far hf1).far hf1).far hf1).far hf1).far hf1) (by have := HV.out.2.2; omega), ((((HB.out.setCell i1 _).setCell i1 _).setCell i1 _).setCell i1 _).setCell i1 _⟩
theorem pack_is {w : World} {v : Value} {m : ImgD} (h : Img w v m) {M : ImgD} {E : Int} (hM : pkM m = M) (hE : checkE m = E) :
    Calls Try.prog 6 #[v] w (AnsI w w.heap.size M E) := by
  have h' := h
  obtain ⟨ra, rc, sa, sc, fa, fc, na, nc, rfl, _⟩ := h.parts
  by_cases hC : checkE m = 0
  · have e : E = 0 := hE.symm.trans hC
    subst e
    exact pack_ok_at m ra rc sa sc fa fc na nc w h' hC M (by unfold pkM at hM; rw [if_pos hC] at hM; exact hM)
  · have : M = imgZ := by unfold pkM at hM; rw [if_neg hC] at hM; exact hM.symm
    subst this
    exact pack_bad_at m ra rc sa sc fa fc na nc E w h' hE (by rw [← hE]; simpa using hC)
end Go.Proofs.Ytehleeibgkpjmag
/- Slices of strings: what it means that a slice value holds them in a world. -/
namespace Go.Proofs.Ytehleeibgkpjmag
open Go.RowKit
set_option maxRecDepth 20000

def Ss (w : World) (v : Value) (xs : List ByteArray) : Prop :=
  ∃ ao cap, v = .slice ao xs.length cap ∧ xs.length ≤ maxLen ∧ xs.length ≤ cap ∧ (xs ≠ [] → ∃ b off, ao = some ⟨b, off, none⟩ ∧ b < w.heap.size ∧ ∀ j, j < xs.length → w.cell? ⟨b, off + j, none⟩ = some (.string (xs.getD j ByteArray.empty)))

theorem Ss.below {w w1 : World} {v : Value} {xs : List ByteArray} (h : Ss w v xs) (hb : Below w.heap.size w w1) : Ss w1 v xs := by
  obtain ⟨ao, cap, hv, hm, hcp, hc⟩ := h
  refine ⟨ao, cap, hv, hm, hcp, fun hne => ?_⟩
  obtain ⟨b, off, ha, hlt, hcell⟩ := hc hne
  exact ⟨b, off, ha, Nat.lt_of_lt_of_le hlt hb.size, fun j hj => (hb.cell (p := ⟨b, off + j, none⟩) hlt).trans (hcell j hj)⟩

theorem Ss.nil (w : World) : Ss w (.slice none 0 0) [] := ⟨none, 0, rfl, Nat.zero_le _, Nat.zero_le _, fun h => absurd rfl h⟩

theorem Ss.cells {w : World} {ao : Option Addr} {n cap : Nat} {xs : List ByteArray} (h : Ss w (.slice ao n cap) xs) :
    xs.length = n ∧ n ≤ 9223372036854775807 ∧ n ≤ cap ∧ ∀ j, j < n → ∃ b off, ao = some ⟨b, off, none⟩ ∧ b < w.heap.size ∧ w.cell? ⟨b, off + j, none⟩ = some (.string (xs.getD j ByteArray.empty)) := by
  obtain ⟨ao', cap', hv, hm, hcp, hc⟩ := h
  simp only [Value.slice.injEq] at hv
  obtain ⟨rfl, rfl, rfl⟩ := hv
  unfold maxLen at hm
  refine ⟨rfl, by omega, hcp, fun j hj => ?_⟩
  obtain ⟨b, off, rfl, hlt, hcell⟩ := hc (by intro e; rw [e] at hj; simp at hj)
  exact ⟨b, off, rfl, hlt, hcell j hj⟩

theorem Ss.form {w : World} {v : Value} {xs : List ByteArray} (h : Ss w v xs) : ∃ ao cap, v = .slice ao xs.length cap := by
  obtain ⟨ao, cap, hv, _⟩ := h; exact ⟨ao, cap, hv⟩

theorem Ss.at {w : World} {ao : Option Addr} {n cap : Nat} {xs : List ByteArray} (h : Ss w (.slice ao n cap) xs) (hpos : 0 < n) :
    ∃ b off, ao = some ⟨b, off, none⟩ ∧ b < w.heap.size ∧ ∀ j, j < n → w.cell? ⟨b, off + j, none⟩ = some (.string (xs.getD j ByteArray.empty)) := by
  obtain ⟨ao', cap', hv, hm, hcp, hc⟩ := h
  simp only [Value.slice.injEq] at hv
  obtain ⟨rfl, rfl, rfl⟩ := hv
  exact hc (by intro e; rw [e] at hpos; simp at hpos)

theorem Ss.past {w : World} {v : Value} {xs : List ByteArray} (h : Ss w v xs) (o : Obj) : Ss (w.alloc o) v xs := h.below ((Below.refl _ _).alloc (Nat.le_refl _) o)


def ckP (xs : List ByteArray) : Int := if xs.length ≤ 16 then (if xs.all (fun p => decide (p.size = 4)) = true then 0 else 1) else 2
theorem ckP_many {xs : List ByteArray} (h : ¬ xs.length ≤ 16) : ckP xs = 2 := by unfold ckP; rw [if_neg h]
theorem ckP_bad {xs : List ByteArray} (h : xs.length ≤ 16) {j : Nat} (hj : j < xs.length) (hb : (xs.getD j ByteArray.empty).size ≠ 4) : ckP xs = 1 := by
  unfold ckP
  rw [if_pos h, if_neg]
  intro ha
  rw [List.all_eq_true] at ha
  have := ha _ (List.getElem_mem hj)
  simp [List.getD, hj] at hb
  simp [hb] at this
theorem ckP_ok {xs : List ByteArray} (h : xs.length ≤ 16) (ha : ∀ j, j < xs.length → (xs.getD j ByteArray.empty).size = 4) : ckP xs = 0 := by
  unfold ckP
  rw [if_pos h, if_pos]
  rw [List.all_eq_true]
  intro x hx
  obtain ⟨j, hj, rfl⟩ := List.getElem_of_mem hx
  have := ha j hj
  simpa [List.getD, hj] using this
end Go.Proofs.Ytehleeibgkpjmag
/- Flat images, plainly: what Read, Write and Resize answer, over lists of pages. -/
namespace Go.Proofs.Ytehleeibgkpjmag
open Go.RowKit
end Go.Proofs.Ytehleeibgkpjmag
/- Resizing: what comes is right, and how it is read; the answers of Write, Wipe, Punch, Resize. Plain lists. -/
namespace Go.Proofs.Ytehleeibgkpjmag
open Go.RowKit Go.Shelf
set_option maxRecDepth 20000

def rerootD (M : ImgD) (g : Nat) : ImgD := { M with guest := (g : Int), root := (M.root ++ List.replicate ((g + 3) / 4 - M.root.length) 0).take ((g + 3) / 4) }
def cutD (m : ImgD) (g : Nat) : Option ImgD :=
  if g % 4 ≠ 0 ∧ g / 4 < m.root.length ∧ cutR (tableO m (g / 4)) (g % 4) ≠ tableO m (g / 4) then tabledD m (g / 4) (cutR (tableO m (g / 4)) (g % 4)) else some m
def resizeD (m : ImgD) (g : Nat) : Option ImgD := (cutD m g).map (fun M => countedD (rerootD M g))

theorem reroot_get (M : ImgD) (g j : Nat) (hj : j < (g + 3) / 4) : (rerootD M g).root.getD j 0 = M.root.getD j 0 := by
  show ((M.root ++ List.replicate ((g + 3) / 4 - M.root.length) 0).take ((g + 3) / 4)).getD j 0 = _
  simp only [List.getD, List.getElem?_take, hj, if_true]
  rw [List.getElem?_append]
  split
  · rfl
  · rename_i h
    rw [List.getElem?_eq_none (l := M.root) (by omega), List.getElem?_replicate]
    split <;> rfl
theorem reroot_length (M : ImgD) (g : Nat) : (rerootD M g).root.length = (g + 3) / 4 := by
  show ((M.root ++ List.replicate ((g + 3) / 4 - M.root.length) 0).take ((g + 3) / 4)).length = _
  simp; omega
theorem reroot_mem {M : ImgD} {g : Nat} {x : Int} (h : x ∈ (rerootD M g).root) : x = 0 ∨ x ∈ M.root := by
  have h : x ∈ M.root ++ List.replicate ((g + 3) / 4 - M.root.length) 0 := List.mem_of_mem_take h
  rcases List.mem_append.1 h with h | h
  · exact .inr h
  · exact .inl (List.mem_replicate.1 h).2

theorem cutR_get {es : List Int} (h4 : es.length = 4) {n : Nat} (hn : n ≤ 4) (i : Nat) : (cutR es n).getD i 0 = if i < n then es.getD i 0 else 0 := by
  unfold cutR
  simp only [List.getD]
  rw [List.getElem?_append, List.length_take]
  by_cases h : i < n
  · rw [if_pos (by omega), if_pos h, List.getElem?_take, if_pos h]
  · rw [if_neg (by omega), if_neg h, List.getElem?_replicate]
    split <;> rfl
theorem cutR_mem {es : List Int} {n : Nat} {x : Int} (h : x ∈ cutR es n) : x ∈ es ∨ x = 0 := by
  unfold cutR at h
  rcases List.mem_append.1 h with h | h
  · exact .inl (List.mem_of_mem_take h)
  · exact .inr (List.mem_replicate.1 h).2
theorem cutR_ck' {es : List Int} (h : ckE es = 0) {n : Nat} (hn : n ≤ 4) : ckE (cutR es n) = 0 := by
  refine ckE_yes (by unfold cutR; simp; have := ckE_len h; omega) ?_
  rw [List.all_eq_true]
  intro x hx
  rcases cutR_mem hx with hm | hm
  · exact List.all_eq_true.1 (ckE_all h) x hm
  · rw [hm]; rfl
theorem drop_zero {es : List Int} {i : Nat} (h : ∀ j, i ≤ j → j < es.length → es.getD j 0 = 0) : (es.drop i).all (fun e => e == 0) = true := by
  rw [List.all_eq_true]
  intro x hx
  obtain ⟨j, hj, rfl⟩ := List.getElem_of_mem hx
  rw [List.getElem_drop]
  simp at hj
  have := h (i + j) (by omega) (by omega)
  rw [getD_at (by omega)] at this
  simpa using this
theorem of_drop_zero {es : List Int} {i : Nat} (h : (es.drop i).all (fun e => e == 0) = true) {j : Nat} (h1 : i ≤ j) : es.getD j 0 = 0 := by
  rcases Nat.lt_or_ge j es.length with hj | hj
  · have hm : es[j] ∈ es.drop i := by
      rw [List.mem_iff_getElem]
      refine ⟨j - i, by simp; omega, ?_⟩
      rw [List.getElem_drop]; congr 1; omega
    have := List.all_eq_true.1 h _ hm
    rw [getD_at hj]; simpa using this
  · simp [List.getD, Nat.not_lt.2 hj]
theorem cut_tail {m : ImgD} {k : Nat} {es : List Int} (h : TailZ m k es) (h4 : es.length = 4) {n : Nat} (hn : n ≤ 4) : TailZ m k (cutR es n) := by
  intro h1 h2
  have := h h1 h2
  refine drop_zero fun j hj hl => ?_
  rw [cutR_get h4 hn]
  split
  · exact of_drop_zero this hj
  · rfl

theorem cut_laid {m : ImgD} (hC : checkE m = 0) {g : Nat} {M : ImgD} (hM : cutD m g = some M) : (∃ es, Laid m M (g / 4) es ∧ (g / 4 < m.root.length → ∀ i, es.getD i 0 = if g % 4 = 0 ∨ i < g % 4 then (tableO m (g / 4)).getD i 0 else 0)) ∧ M.slots.length ≤ m.slots.length + 1 := by
  have h := checkE_shape hC
  unfold cutD at hM
  split at hM
  · rename_i hc
    obtain ⟨h1, h2, h3⟩ := hc
    obtain ⟨ock, oent⟩ := tableO_ok h h2
    have h4 := ckE_len ock
    obtain ⟨hL, hlen⟩ := tabled_laid hC h2 (cutR_ck' ock (by omega)) (fun e he => (cutR_mem he).elim (fun hm => oent e hm) (fun hm => by rw [hm]; rfl)) (cut_tail (tableO_tail h _) h4 (by omega)) hM
    refine ⟨⟨_, hL, fun _ i => ?_⟩, hlen⟩
    rw [cutR_get h4 (by omega)]
    by_cases hi : i < g % 4
    · rw [if_pos hi, if_pos (.inr hi)]
    · rw [if_neg hi, if_neg (fun x => x.elim h1 hi)]
  · rename_i hc
    simp at hM
    subst hM
    refine ⟨⟨tableO m (g / 4), ⟨h, rfl, rfl, rfl, fun q hq => ?_, fun _ _ _ _ => rfl, fun _ _ => rfl⟩, fun hk i => ?_⟩, Nat.le_succ _⟩
    · by_cases e : q / 4 = g / 4
      · rw [if_pos e, ← e, ← lookV_tableO]
      · rw [if_neg e]
    · by_cases hg : g % 4 = 0
      · rw [if_pos (.inl hg)]
      · have hce : cutR (tableO m (g / 4)) (g % 4) = tableO m (g / 4) := Classical.byContradiction fun x => hc ⟨hg, hk, x⟩
        have h4 := ckE_len (tableO_ok h hk).1
        have e := cutR_get h4 (n := g % 4) (by omega) i
        rw [hce] at e
        by_cases hi : i < g % 4
        · rw [if_pos (.inr hi)]
        · rw [if_neg (fun x => x.elim hg hi), e, if_neg hi]

theorem tab_look {M : ImgD} {k i : Nat} (hz : M.root.getD k 0 ≠ 0) (hi : i < 4) : (tabOf M.slots (M.root.getD k 0)).getD i 0 = lookV M M.root (4 * k + i) := by
  unfold lookV
  have e1 : (4 * k + i) / 4 = k := by omega
  have e2 : (4 * k + i) % 4 = i := by omega
  rw [e1, e2, if_neg hz]

theorem resize_shape {m : ImgD} (hC : checkE m = 0) {g : Nat} (hg : g ≤ 16) {M : ImgD} (hM : cutD m g = some M) : shapeE (rerootD M g) = 0 := by
  have h := checkE_shape hC
  obtain ⟨⟨es, hL, hes⟩, _⟩ := cut_laid hC hM
  have hrM := root_ok hL.shape
  refine reroot_shape hL.shape (by unfold guestOK; exact decide_eq_true (by omega)) ?_
  show rootFit M.slots (g : Int) (rerootD M g).root = true
  unfold rootFit
  simp only [Bool.and_eq_true, decide_eq_true_eq]
  refine ⟨by rw [reroot_length]; omega, ?_, ?_⟩
  · rw [List.all_eq_true]
    intro x hx
    rcases reroot_mem hx with e | e
    · rw [e]; rfl
    · exact List.all_eq_true.1 hrM.2 x e
  · unfold lastFit
    by_cases hg4 : g % 4 = 0
    · have : ((g : Int) % 4 == 0) = true := by simp; omega
      rw [this]; rfl
    · have hw : (g + 3) / 4 - 1 = g / 4 := by omega
      rw [reroot_length, hw, reroot_get M g _ (by omega)]
      have hgm : ((g : Int) % 4).toNat = g % 4 := by omega
      rw [hgm]
      by_cases hz : M.root.getD (g / 4) 0 = 0
      · rw [hz]; simp
      · have hk : g / 4 < M.root.length := by
          rcases Nat.lt_or_ge (g / 4) M.root.length with h' | h'
          · exact h'
          · exact absurd (by simp [List.getD, Nat.not_lt.2 h']) hz
        have hkm : g / 4 < m.root.length := by rw [← hL.rlen]; exact hk
        have hE := all_at hrM.2 hk
        rw [rootE_x hz] at hE
        have h4 := tab_len (shapeE_zero hL.shape).2.1 hE
        have : ((tabOf M.slots (M.root.getD (g / 4) 0)).drop (g % 4)).all (fun e => e == 0) = true := by
          refine drop_zero fun j hj hl => ?_
          rw [h4] at hl
          rw [tab_look hz hl, hL.look _ (by omega), if_pos (by omega), show (4 * (g / 4) + j) % 4 = j by omega, hes hkm, if_neg (by omega)]
        rw [this]; simp
end Go.Proofs.Ytehleeibgkpjmag
/- What Write, Wipe, Punch and Resize answer, plain: it is right, how much greater it is, and how it is read. -/
namespace Go.Proofs.Ytehleeibgkpjmag
open Go.RowKit Go.Shelf
set_option maxRecDepth 20000


theorem le_two {f : Nat → Nat} {a b : Nat} : ∀ {n : Nat}, a < n → b < n → a ≠ b → f a + f b ≤ ((List.range n).map f).sum
  | 0, h, _, _ => absurd h (by omega)
  | n + 1, ha, hb, hne => by
    rw [List.range_succ, List.map_append, List.sum_append]
    by_cases ea : a = n
    · have := le_sum (f := f) (n := n) (k := b) (by omega); subst ea; simp; omega
    · by_cases eb : b = n
      · have := le_sum (f := f) (n := n) (k := a) (by omega); subst eb; simp; omega
      · have := le_two (f := f) (a := a) (b := b) (n := n) (by omega) (by omega) hne; simp; omega
theorem look_by {m : ImgD} (h : shapeE m = 0) {root : List Int} (hall : root.all (rootE m.slots) = true) {q : Nat} (hl : q / 4 < root.length) {e : Nat} (e1 : 1 ≤ e) (hq : lookV m root q = (e : Int)) :
    ∃ j : Nat, root.getD (q / 4) 0 = (j : Int) ∧ (j : Int) ∈ root ∧ j < m.slots.length ∧ kd m.slots j = 2 ∧ q % 4 < (tabOf m.slots j).length ∧ (tabOf m.slots j).getD (q % 4) 0 = (e : Int) := by
  unfold lookV at hq
  by_cases hz : root.getD (q / 4) 0 = 0
  · rw [if_pos hz] at hq; omega
  rw [if_neg hz] at hq
  have hE := all_at hall hl
  have hE2 := hE
  rw [rootE_x hz] at hE2
  have h4 := tab_len (shapeE_zero h).2.1 hE2
  rcases rootE_cases hE with e0 | ⟨j, ej, hj, hk⟩
  · exact absurd e0 hz
  · refine ⟨j, ej, ?_, hj, hk, ?_, ?_⟩
    · rw [← ej, getD_at hl]; exact List.getElem_mem hl
    · rw [← ej]; omega
    · rw [← ej]; exact hq
theorem told_twice {m : ImgD} {e : Nat} (e1 : 1 ≤ e) (hc : cntI m.slots (flatR m) e = 1) {j i j' i' : Nat} (hj : j < m.slots.length) (hk : kd m.slots j = 2) (hm : (j : Int) ∈ flatR m) (hi : i < (tabOf m.slots j).length) (ht : (tabOf m.slots j).getD i 0 = (e : Int))
    (hj' : j' < m.slots.length) (hk' : kd m.slots j' = 2) (hm' : (j' : Int) ∈ flatR m) (hi' : i' < (tabOf m.slots j').length) (ht' : (tabOf m.slots j').getD i' 0 = (e : Int)) : j = j' ∧ i = i' := by
  unfold cntI at hc
  rw [if_neg (by omega)] at hc
  have hs : sumT m.slots (flatR m) (e : Int) ≤ 1 := by omega
  have t1 : toldT m.slots (flatR m) e j = (tabOf m.slots j).count (e : Int) := by unfold toldT; rw [if_pos ⟨hk, hm⟩]
  have t2 : toldT m.slots (flatR m) e j' = (tabOf m.slots j').count (e : Int) := by unfold toldT; rw [if_pos ⟨hk', hm'⟩]
  have c1 : 1 ≤ (tabOf m.slots j).count (e : Int) := List.count_pos_iff.2 (by rw [← ht, getD_at hi]; exact List.getElem_mem hi)
  have c2 : 1 ≤ (tabOf m.slots j').count (e : Int) := List.count_pos_iff.2 (by rw [← ht', getD_at hi']; exact List.getElem_mem hi')
  have ej : j = j' := Classical.byContradiction fun hne => by
    have := le_two (f := toldT m.slots (flatR m) e) hj hj' hne
    unfold sumT at hs
    omega
  subst ej
  refine ⟨rfl, Classical.byContradiction fun hne => ?_⟩
  have h2 : 2 ≤ (tabOf m.slots j).count (e : Int) := by
    rcases Nat.lt_or_ge i i' with hl | hl
    · exact count_two _ i i' hl hi' ht ht'
    · exact count_two _ i' i (by omega) hi ht' ht
  have := le_sum (f := toldT m.slots (flatR m) e) (n := m.slots.length) (k := j) hj
  unfold sumT at hs
  omega
theorem inplace_only {m : ImgD} (hC : checkE m = 0) {n : Nat} (hn : (n : Int) < m.guest) (hi : wInPl m n = true) :
    ∃ e : Nat, lookV m m.root n = (e : Int) ∧ 1 ≤ e ∧ e < m.slots.length ∧ kd m.slots e = 1 ∧ (∀ q, q / 4 < m.root.length → q ≠ n → lookV m m.root q ≠ (e : Int)) ∧ ∀ s ∈ m.snaps, ∀ q, q / 4 < s.2.2.length → lookV m s.2.2 q ≠ (e : Int) := by
  obtain ⟨h, hcnt, _⟩ := checkE_zero hC
  have hr := root_ok h
  have hg := guest_ok h
  have hk : n / 4 < m.root.length := by omega
  unfold wInPl at hi
  simp only [Bool.and_eq_true, decide_eq_true_eq, beq_iff_eq] at hi
  obtain ⟨hpos, hin, hrf⟩ := hi
  rcases lookV_ent h hr.2 n hk with e0 | e0 | ⟨e, he, e1, el, ek⟩
  · omega
  · omega
  rw [he, Int.toNat_natCast, ← hcnt, cntL_get h e el] at hrf
  obtain ⟨j, ej, jm, hj, hjk, hjl, hjt⟩ := look_by h hr.2 hk e1 he
  have hin2 := hin
  unfold inPl at hin2
  simp only [Bool.and_eq_true, bne_iff_ne, beq_iff_eq] at hin2
  have hlone : Lone m (n / 4) j := by
    have hrf2 := hin2.2
    have j1 : 1 ≤ j := by have := hin2.1; omega
    rw [ej, Int.toNat_natCast, ← hcnt, cntL_get h j hj] at hrf2
    unfold cntI at hrf2
    rw [if_neg (by omega), sumT_no (shapeE_zero h).2.2.2.2.2.1 _ j1 (by rw [hjk]; decide)] at hrf2
    exact lone_one hk ej (by omega)
  have hjf : (j : Int) ∈ flatR m := by rw [flatR_app]; exact List.mem_append_left _ jm
  refine ⟨e, he, e1, el, ek, fun q hq hne hl => ?_, fun s hs q hq hl => ?_⟩
  · obtain ⟨j', ej', jm', hj', hjk', hjl', hjt'⟩ := look_by h hr.2 hq e1 hl
    obtain ⟨e2, e3⟩ := told_twice e1 hrf hj hjk hjf hjl hjt hj' hjk' (by rw [flatR_app]; exact List.mem_append_left _ jm') hjl' hjt'
    subst e2
    by_cases e4 : q / 4 = n / 4
    · exact hne (by omega)
    · exact hlone.root (q / 4) hq e4 ej'
  · have hfit := snap_fit h (List.mem_cons_of_mem _ hs)
    obtain ⟨j', ej', jm', hj', hjk', hjl', hjt'⟩ := look_by h hfit.2.2.2 hq e1 hl
    obtain ⟨e2, e3⟩ := told_twice e1 hrf hj hjk hjf hjl hjt hj' hjk' (by rw [flatR_app]; exact List.mem_append_right _ (by rw [List.mem_flatMap]; exact ⟨s, hs, jm'⟩)) hjl' hjt'
    subst e2
    exact hlone.snap s hs jm'
theorem page_setP {L : List SlotD} {e : Nat} {page : ByteArray} {x : Int} (hx : x ≠ (e : Int)) (hx0 : 0 ≤ x ∨ x ≤ 0) : pageV (L.set e (1, page, [])) x = pageV L x := by
  unfold pageV
  by_cases h : x ≤ 0
  · rw [if_pos h, if_pos h]
  · rw [if_neg h, if_neg h]
    have : e ≠ x.toNat := by omega
    simp [List.getD, this]
theorem page_at {L : List SlotD} {e : Nat} {page : ByteArray} (e1 : 1 ≤ e) (el : e < L.length) : pageV (L.set e (1, page, [])) (e : Int) = page := by
  unfold pageV
  rw [if_neg (by omega), Int.toNat_natCast]
  simp [List.getD, el]

structure Wrote (m M : ImgD) (n : Nat) (page : ByteArray) (d : Nat) : Prop where
  right : checkE M = 0
  len : M.slots.length ≤ m.slots.length + d
  all : allV M = (allV m).set n page
  pastV : ∀ nm, pastV M nm = pastV m nm
  pastE : ∀ nm, pastE M nm = pastE m nm
  guest : M.guest = m.guest

theorem allP_congr {m M : ImgD} {r r' : List Int} {g : Nat} (h : ∀ q, q < g → pageV M.slots (lookV M r' q) = pageV m.slots (lookV m r q)) : allP M r' g = allP m r g := by
  unfold allP
  exact List.map_congr_left fun q hq => h q (List.mem_range.1 hq)
theorem past_of {m M : ImgD} (hC : checkE m = 0) (hM : checkE M = 0) (hs : M.snaps = m.snaps) (h : ∀ s ∈ m.snaps, allP M s.2.2 s.2.1.toNat = allP m s.2.2 s.2.1.toNat) (nm : ByteArray) : pastV M nm = pastV m nm ∧ pastE M nm = pastE m nm := by
  unfold pastV pastE
  rw [if_neg (by rw [hM]; simp), if_neg (by rw [hC]; simp), if_neg (by rw [hM]; simp), if_neg (by rw [hC]; simp), hs]
  cases hsi : snapIx m.snaps nm with
  | none => exact ⟨rfl, rfl⟩
  | some j => exact ⟨h _ (snapIx_get hsi), rfl⟩
theorem wrote_in {m : ImgD} (hC : checkE m = 0) {n : Nat} (hn : (n : Int) < m.guest) (hi : wInPl m n = true) {page : ByteArray} (hp : page.size = 4) : Wrote m { m with slots := m.slots.set (lookV m m.root n).toNat (1, page, []) } n page 0 := by
  obtain ⟨e, he, e1, el, ek, hown, hsnap⟩ := inplace_only hC hn hi
  have h := checkE_shape hC
  have hr := root_ok h
  have hg := guest_ok h
  rw [he, Int.toNat_natCast]
  obtain ⟨hck, hlk⟩ := setP_same (page := page) hC ek hp
  have hp2 : ∀ nm, pastV { m with slots := m.slots.set e (1, page, []) } nm = pastV m nm ∧ pastE { m with slots := m.slots.set e (1, page, []) } nm = pastE m nm := past_of hC hck rfl fun s hs => allP_congr fun q hq => by
    have hfit := snap_fit h (List.mem_cons_of_mem _ hs)
    rw [hlk]
    exact page_setP (hsnap s hs q (by omega)) (by omega)
  refine ⟨hck, by show (m.slots.set _ _).length ≤ _; rw [List.length_set]; omega, ?_, fun nm => (hp2 nm).1, fun nm => (hp2 nm).2, rfl⟩
  unfold allV
  rw [if_pos hck, if_pos hC]
  unfold allP
  apply List.ext_getElem
  · simp
  · intro q h1 h2
    have hq : q < m.guest.toNat := by simpa using h1
    rw [List.getElem_set, List.getElem_map, List.getElem_range, hlk]
    show pageV (m.slots.set e (1, page, [])) (lookV m m.root q) = _
    by_cases e4 : n = q
    · subst e4
      rw [if_pos rfl, he, page_at e1 el]
    · rw [if_neg e4, List.getElem_map, List.getElem_range]
      exact page_setP (hown q (by omega) (fun x => e4 x.symm)) (by omega)
theorem Laid.wrote {m M : ImgD} {n d : Nat} {x : Int} (hC : checkE m = 0) (hn : (n : Int) < m.guest) (hL : Laid m M (n / 4) ((tableO m (n / 4)).set (n % 4) x)) (hl : M.slots.length ≤ m.slots.length + d) {page : ByteArray} (hp : pageV M.slots x = page) : Wrote m (countedD M) n page d := by
  refine ⟨counted_right hL.shape, ?_, ?_, fun nm => (hL.pastV hC nm).1, fun nm => (hL.pastV hC nm).2, hL.guest⟩
  · have : (countedD M).slots.length = M.slots.length := freeUn_length _ _
    omega
  · rw [← hp]; exact hL.put hC hn
theorem wrote_write {m : ImgD} (hC : checkE m = 0) {n : Nat} (hn : (n : Int) < m.guest) {page : ByteArray} (hp : page.size = 4) {M : ImgD} (hM : writeD m n page = some M) : Wrote m M n page 2 := by
  unfold writeD at hM
  by_cases hi : wInPl m n = true
  · rw [if_pos hi] at hM
    simp only [Option.some.injEq] at hM
    subst hM
    have := wrote_in hC hn hi hp
    exact ⟨this.right, Nat.le_trans this.len (by omega), this.all, this.pastV, this.pastE, this.guest⟩
  · rw [if_neg hi] at hM
    by_cases h1 : tabN m (n / 4) = 40
    · rw [if_pos h1] at hM; cases hM
    · rw [if_neg h1] at hM
      by_cases h2 : wD m n = 40
      · rw [if_pos h2] at hM; cases hM
      · rw [if_neg h2] at hM
        simp only [Option.some.injEq] at hM
        subst hM
        obtain ⟨a, b, c⟩ := write_laid hC hn h1 h2 hp
        exact a.wrote hC hn c b
end Go.Proofs.Ytehleeibgkpjmag
/- Contract of Take: a slot is grabbed and laid, or there is none. -/
namespace Go.Proofs.Ytehleeibgkpjmag
open Go.RowKit Go.Shelf
set_option maxRecDepth 20000

theorem DTo.pre {w w1 w2 : World} {B D : Nat} {m m1 : ImgD} {val val1 : Nm → Value} {ev : Value} (h : DTo w1 w2 B D m val ev m1 val1) (hb : Below w.heap.size w w1) (hB : B ≤ w.heap.size) : DTo w w2 B D m val ev m1 val1 :=
  ⟨h.dk, (hb.mono hB).trans h.bel, fun q hq hD hev hm => (h.keep q (Nat.lt_of_lt_of_le hq hb.size) hD hev hm).trans (hb.block q hq), fun q hq hev hm => h.src q (Nat.lt_of_lt_of_le hq hb.size) hev hm⟩
def layR (l : List Int) (n : Nat) (x : Int) : List Int := if n = l.length then l ++ [x] else l.set n x
theorem layR_length {l : List Int} {n : Nat} {x : Int} : (layR l n x).length = if n = l.length then l.length + 1 else l.length := by
  unfold layR; split <;> simp
def takeD (m : ImgD) (s : SlotD) : ImgD := { m with slots := layS m.slots (grabN m.slots) s, refs := layR m.refs (grabN m.slots) 1 }
theorem grab_is {w : World} {v : Value} {L : List SlotD} (h : Slots w v L) (hE : slotsE L = 0) {g : Nat} (hg : grabN L = g) :
    Calls Try.prog 58 #[v] w fun r w' => r = .returned (.tuple #[.int .i64 (if g = 40 then 0 else (g : Int)), .int .i64 (if g = 40 then 7 else 0)]) ∧ Below w.heap.size w w' := by
  have h1 := (slotsE_parts hE).1
  refine (grab_ok v L w h hE).mono ?_
  rintro e w' ⟨h | ⟨q, hq, hG, rfl⟩, hb⟩
  · have e40 : g = 40 := by rw [← hg]; exact (grabN_at h1).unique h.1
    rw [if_pos e40, if_pos e40]
    exact ⟨h.2, hb⟩
  · have eg : q = g := by rw [← hg]; exact hG.unique (grabN_at h1)
    subst eg
    rw [if_neg (by omega), if_neg (by omega)]
    exact ⟨rfl, hb⟩

set_option maxHeartbeats 4000000 in
theorem take_full (m : ImgD) (sa : Option Addr) (sn sc : Nat) (k : Int) (d : ByteArray) (ea : Option Addr) (en ec : Nat) (B D : Nat) (val : Nm → Value) (w : World) (hK : DK w B D val m) (e1 : val .slots = .slice sa sn sc) (hs : slotsE m.slots = 0) (hg : grabN m.slots = 40) :
    Calls Try.prog 29 #[.pointer (some ⟨D, 0, none⟩), .agg #[.int .i64 k, .string d, .slice ea en ec]] w fun r w' => r = .panicked noSlotP ∧ Below w.heap.size w w' := by
  have hK1 : DK (w.alloc (.cells #[.int .i64 k, .string d, .slice ea en ec] 60)) B D val m := hK.alloc _
  obtain ⟨d0, d1, d2, d3, d4⟩ := hK1.five
  rw [e1] at d2
  have hcall := grab_is hK1.own.img.four.2.1 hs hg
  rw [e1] at hcall
  have b0 : Below w.heap.size w (w.alloc (.cells #[.int .i64 k, .string d, .slice ea en ec] 60)) := (Below.refl _ _).alloc (Nat.le_refl _) _
  clear hg hs
  go_enter Try.func29, Try.ntmps29
  go_wp2_with (go_at_call 58; refine hcall.mono ?_; rintro e w1 ⟨rfl, b1⟩)
  exact ⟨rfl, rfl, Below.on b0 b1⟩

set_option maxHeartbeats 4000000 in
theorem take_old (m : ImgD) (sg sc : Nat) (fg fc : Nat) (k : Int) (d : ByteArray) (ea : Option Addr) (en ec : Nat) (es : List Int) (g : Nat) (B D : Nat) (val : Nm → Value) (w : World) (hK : DK w B D val m) (hB : B ≤ w.heap.size) (e1 : val .slots = .slice (some ⟨sg, 0, none⟩) m.slots.length sc) (e2 : val .refs = .slice (some ⟨fg, 0, none⟩) m.slots.length fc) (hs : slotsE m.slots = 0) (hg : grabN m.slots = g) (hgl : g < m.slots.length) (hrl : m.refs.length = m.slots.length)
    (he : w.ownsRow B 3 1 (.slice ea en ec) es.length (ints es)) (hfar : Far m val (.tab g) (.slice ea en ec)) (hD : (Value.slice ea en ec).ownBlock ≠ some D) :
    Calls Try.prog 29 #[.pointer (some ⟨D, 0, none⟩), .agg #[.int .i64 k, .string d, .slice ea en ec]] w fun r w' => r = .returned (.int .i64 (g : Int)) ∧ ∃ val', DTo w w' B D m val (.slice ea en ec) { m with slots := m.slots.set g (k, d, es), refs := m.refs.set g 1 } val' ∧ val' .root = val .root := by
  have hK1 : DK (w.alloc (.cells #[.int .i64 k, .string d, .slice ea en ec] 60)) B D val m := hK.alloc _
  have h40 := (slotsE_parts hs).2
  obtain ⟨d0, d1, d2, d3, d4⟩ := hK1.five
  rw [e1] at d2
  rw [e2] at d3
  have hcall := grab_is hK1.own.img.four.2.1 hs hg
  rw [e1] at hcall
  have g40 : ¬ g = 40 := by omega
  rw [if_neg g40, if_neg g40] at hcall
  have b0 : Below w.heap.size w (w.alloc (.cells #[.int .i64 k, .string d, .slice ea en ec] 60)) := (Below.refl _ _).alloc (Nat.le_refl _) _
  have mS : (w.alloc (.cells #[.int .i64 k, .string d, .slice ea en ec] 60)).heap[w.heap.size]? = some (.cells #[.int .i64 k, .string d, .slice ea en ec] 60) := World.alloc_heap_new _ _
  have hgi : (g : Int) < (m.slots.length : Int) := by omega
  have hgn : ((g : Int) == (m.slots.length : Int)) = false := by simp; omega
  have hgn' : ¬ (g : Int) = (m.slots.length : Int) := by omega
  clear hg hs
  go_enter Try.func29, Try.ntmps29
  go_wp2_with (go_at_call 58; refine hcall.mono ?_; rintro e w1 ⟨rfl, b1⟩; have hK2 := hK1.below b1; obtain ⟨i0, i1, i2, i3, i4⟩ := hK2.five; rw [e1] at i2; rw [e2] at i3; have mS1 := cells_below mS b1 (by simp); obtain ⟨s0, s1, s2⟩ := three mS1)
  have hgS : sg < w.heap.size ∧ B ≤ sg := by
    have := (hK.own.row .slots (Live.slots m)).lt sg (by rw [e1]; rfl)
    exact ⟨this.2, this.1⟩
  have hgF : fg < w.heap.size ∧ B ≤ fg := by
    have := (hK.own.row .refs (Live.refs m)).lt fg (by rw [e2]; rfl)
    exact ⟨this.2, this.1⟩
  have hDl := hK.lt
  have nDS : ¬ D = sg := fun e => hK.far .slots (Live.slots m) (by rw [e1, e]; rfl)
  have nDF : ¬ D = fg := fun e => hK.far .refs (Live.refs m) (by rw [e2, e]; rfl)
  have nSD : ¬ sg = D := fun e => nDS e.symm
  have nFD : ¬ fg = D := fun e => nDF e.symm
  have nSF : ¬ sg = fg := fun e => hK.own.apart .slots .refs (Live.slots m) (Live.refs m) (by intro x; cases x) sg (by rw [e1]; rfl) (by rw [e2, e]; rfl)
  have nFS : ¬ fg = sg := fun e => nSF e.symm
  have nWS : ¬ w.heap.size = sg := by omega
  have nSW : ¬ sg = w.heap.size := by omega
  have nWF : ¬ w.heap.size = fg := by omega
  have nFW : ¬ fg = w.heap.size := by omega
  have hT1 := (DTo.refl hK1 (.slice ea en ec)).below (by simp; omega) b1
  have hr1 := hT1.dk.own.row .slots (Live.slots m)
  rw [e1] at hr1
  have hr1 : w1.ownsRow B 60 3 (.slice (some ⟨sg, 0, none⟩) m.slots.length sc) m.slots.length (flatS m.slots (fun j => val (.tab j))) := hr1
  obtain ⟨t0, t1, t2⟩ := flatS_get (L := m.slots) (tv := fun j => val (.tab j)) hgl
  have t0 := (hr1.cellAt (g * 3) (by omega)).trans t0
  have t1 := (hr1.cellAt (g * 3 + 1) (by omega)).trans t1
  have t2 := (hr1.cellAt (g * 3 + 2) (by omega)).trans t2
  have u0 := hr1.frozenAt (g * 3)
  have u1 := hr1.frozenAt (g * 3 + 1)
  have u2 := hr1.frozenAt (g * 3 + 2)
  have hr2 := hT1.dk.own.row .refs (Live.refs m)
  rw [e2] at hr2
  have hr2 : w1.ownsRow B 3 1 (.slice (some ⟨fg, 0, none⟩) m.slots.length fc) m.slots.length (ints m.refs) := by rw [← hrl]; rw [← hrl] at hr2; exact hr2
  have t3 : w1.cell? ⟨fg, g, none⟩ = some (.int .i64 (m.refs.getD g 0)) := by
    refine (hr2.cellAt g (by omega)).trans ?_
    unfold ints
    rw [List.getElem?_map, List.getElem?_eq_getElem (by rw [hrl]; exact hgl)]
    simp [List.getD, hrl, hgl]
  have u3 := hr2.frozenAt g
  clear hr1 hr2 hcall hK1 hK2 mS mS1 d0 d1 d2 d3 d4 i0 i1 i4
  go_region_held3 (fun W => W.cell? ⟨D, 0 + 1 + 1, none⟩ = some (.slice (some ⟨sg, 0, none⟩) m.slots.length sc) ∧ W.cell? ⟨D, 0 + 1 + 1 + 1, none⟩ = some (.slice (some ⟨fg, 0, none⟩) m.slots.length fc) ∧ W.cell? ⟨w.heap.size, 0, none⟩ = some (.int .i64 k) ∧ W.cell? ⟨w.heap.size, 0 + 1, none⟩ = some (.string d) ∧ W.cell? ⟨w.heap.size, 0 + 1 + 1, none⟩ = some (.slice ea en ec)) (first | exact ⟨i2, i3, s0, s1, s2⟩ | go_keep) (fail)
  have hev := row_keep (he.alloc (.cells #[.int .i64 k, .string d, .slice ea en ec] 60)) b1
  have hF := (hT1.setSlot hgl e1 k d es hev hfar hD (fun q e => .inl e)).setRefs (g := fg) (n := m.slots.length) (cap := fc) ((upd_other _ _ (by intro x; cases x)).trans e2) g 1
  have HF : Hid (DTo w ((((w1.setCell ⟨sg, g * 3, none⟩ (.int .i64 k)).setCell ⟨sg, g * 3 + 1, none⟩ (.string d)).setCell ⟨sg, g * 3 + 2, none⟩ (.slice ea en ec)).setCell ⟨fg, g, none⟩ (.int .i64 1)).drew B D m val (.slice ea en ec) { m with slots := m.slots.set g (k, d, es), refs := m.refs.set g 1 } (upd val (.tab g) (.slice ea en ec))) := (hF.drew).pre b0 hB
  clear hF hev hT1
  go_wp2_with fail
  go_ret
  exact ⟨rfl, _, HF.out, upd_other _ _ (by intro x; cases x)⟩
end Go.Proofs.Ytehleeibgkpjmag
/- Take: a slot is put behind all. -/
namespace Go.Proofs.Ytehleeibgkpjmag
open Go.RowKit Go.Shelf
set_option maxRecDepth 20000

abbrev z3 : List Value := [.int .i64 0, .string ⟨#[]⟩, .slice none 0 0]
abbrev z1 : List Value := [.int .i64 0]
structure TkI (w1 : World) (B : Nat) (sv0 fv0 : Value) (n : Nat) (xs ys : List Value) (sv fv : Value) (cS cR : Bool) (W : World) : Prop where
  bel : Below B w1 W
  bB : B ≤ w1.heap.size
  s : W.ownsRow B 60 3 sv (if cS then n + 1 else n) (if cS then xs ++ z3 else xs)
  r : W.ownsRow B 3 1 fv (if cR then n + 1 else n) (if cR then ys ++ z1 else ys)
  keep : ∀ q, q < w1.heap.size → sv0.ownBlock ≠ some q → fv0.ownBlock ≠ some q → W.heap[q]? = w1.heap[q]?
  sb : sv.ownBlock = sv0.ownBlock ∨ ∀ g, sv.ownBlock = some g → w1.heap.size ≤ g
  fb : fv.ownBlock = fv0.ownBlock ∨ ∀ g, fv.ownBlock = some g → w1.heap.size ≤ g
  ap : ∀ g, sv.ownBlock = some g → fv.ownBlock ≠ some g
theorem TkI.alloc {w1 : World} {B : Nat} {sv0 fv0 : Value} {n : Nat} {xs ys : List Value} {sv fv : Value} {cS cR : Bool} {W : World} (h : TkI w1 B sv0 fv0 n xs ys sv fv cS cR W) (o : Obj) : TkI w1 B sv0 fv0 n xs ys sv fv cS cR (W.alloc o) :=
  ⟨h.bel.alloc (Nat.le_trans h.bB h.bel.size) o, h.bB, h.s.alloc o, h.r.alloc o, fun q hq h1 h2 => (Below.heap_alloc W o q (Nat.lt_of_lt_of_le hq h.bel.size)).trans (h.keep q hq h1 h2), h.sb, h.fb, h.ap⟩
theorem TkI.drew {w1 : World} {B : Nat} {sv0 fv0 : Value} {n : Nat} {xs ys : List Value} {sv fv : Value} {cS cR : Bool} {W : World} (h : TkI w1 B sv0 fv0 n xs ys sv fv cS cR W) : TkI w1 B sv0 fv0 n xs ys sv fv cS cR W.drew :=
  ⟨h.bel.drew, h.bB, h.s.drew, h.r.drew, h.keep, h.sb, h.fb, h.ap⟩
theorem row_type {W : World} {B n size : Nat} {e : TypeId} {v : Value} {xs : List Value} (h : W.ownsRow B e size v n xs) {q : Nat} {A : Array Value} {t : TypeId} (hq : W.heap[q]? = some (.cells A t)) (ht : t ≠ e) : some q ≠ v.ownBlock := fun x => by
  rcases h.2 with ⟨rfl, _⟩ | ⟨g, cap, cur, rfl, _, hg, _⟩
  · cases x
  · have x : q = g := Option.some.inj x
    subst x
    rw [hg] at hq
    simp only [Option.some.injEq, Obj.cells.injEq] at hq
    exact ht hq.2.1.symm
def Kp (W W' : World) (e : TypeId) : Prop := ∀ (q : Nat) (A : Array Value) (t : TypeId), W.heap[q]? = some (.cells A t) → t ≠ e → W'.heap[q]? = some (.cells A t)
theorem kp_grown {W W' : World} {B n size : Nat} {e : TypeId} {v : Value} {xs : List Value} (h : W.ownsRow B e size v n xs) (hg : W.grownBy W' v.ownBlock) : Kp W W' e := fun q _ _ hq ht =>
  (hg.block q (Array.getElem?_eq_some_iff.1 hq).1 (row_type h hq ht)).trans hq
theorem TkI.appS {w1 : World} {B : Nat} {sv0 fv0 : Value} {n : Nat} {xs ys : List Value} {sv fv v' : Value} {cR : Bool} {W W' : World} (h : TkI w1 B sv0 fv0 n xs ys sv fv false cR W) (hg : W.grownBy W' sv.ownBlock) (hr : W'.ownsRow B 60 3 v' (n + 1) (xs ++ z3)) (hb : v'.ownBlock = sv.ownBlock ∨ v'.ownBlock = some W.heap.size) : TkI w1 B sv0 fv0 n xs ys v' fv true cR W' := by
  have hne : fv.ownBlock = none ∨ fv.ownBlock ≠ sv.ownBlock := by
    cases e : fv.ownBlock with
    | none => exact .inl rfl
    | some g => exact .inr (fun x => h.ap g x.symm e)
  have hlt : ∀ g, fv.ownBlock = some g → g < W.heap.size := fun g e => (h.r.lt g e).2
  refine ⟨h.bel.grown hg (Nat.le_trans h.bB h.bel.size) (fun k e => (h.s.lt k e).1), h.bB, hr, h.r.kept hg hne, fun q hq h1 h2 => ?_, ?_, h.fb, ?_⟩
  · refine (hg.block q (Nat.lt_of_lt_of_le hq h.bel.size) (fun e => ?_)).trans (h.keep q hq h1 h2)
    rcases h.sb with x | x
    · exact h1 (x.symm.trans e.symm)
    · have := x q e.symm; omega
  · rcases hb with x | x
    · rw [x]; exact h.sb
    · refine .inr (fun g e => ?_)
      rw [x] at e
      cases e
      exact h.bel.size
  · intro g e
    rcases hb with x | x
    · exact h.ap g (x.symm.trans e)
    · rw [x] at e
      cases e
      intro y
      have := hlt _ y
      omega
theorem TkI.appR {w1 : World} {B : Nat} {sv0 fv0 : Value} {n : Nat} {xs ys : List Value} {sv fv v' : Value} {cS : Bool} {W W' : World} (h : TkI w1 B sv0 fv0 n xs ys sv fv cS false W) (hg : W.grownBy W' fv.ownBlock) (hr : W'.ownsRow B 3 1 v' (n + 1) (ys ++ z1)) (hb : v'.ownBlock = fv.ownBlock ∨ v'.ownBlock = some W.heap.size) : TkI w1 B sv0 fv0 n xs ys sv v' cS true W' := by
  have hne : sv.ownBlock = none ∨ sv.ownBlock ≠ fv.ownBlock := by
    cases e : sv.ownBlock with
    | none => exact .inl rfl
    | some g => exact .inr (fun x => h.ap g e x.symm)
  have hlt : ∀ g, sv.ownBlock = some g → g < W.heap.size := fun g e => (h.s.lt g e).2
  refine ⟨h.bel.grown hg (Nat.le_trans h.bB h.bel.size) (fun k e => (h.r.lt k e).1), h.bB, h.s.kept hg hne, hr, fun q hq h1 h2 => ?_, h.sb, ?_, ?_⟩
  · refine (hg.block q (Nat.lt_of_lt_of_le hq h.bel.size) (fun e => ?_)).trans (h.keep q hq h1 h2)
    rcases h.fb with x | x
    · exact h2 (x.symm.trans e.symm)
    · have := x q e.symm; omega
  · rcases hb with x | x
    · rw [x]; exact h.fb
    · refine .inr (fun g e => ?_)
      rw [x] at e
      cases e
      exact h.bel.size
  · intro g e y
    rcases hb with x | x
    · exact h.ap g e (x.symm.trans y)
    · rw [x] at y
      cases y
      have := hlt _ e
      omega
theorem TkI.sForm {w1 : World} {B : Nat} {sv0 fv0 : Value} {n : Nat} {xs ys : List Value} {sv fv : Value} {cR : Bool} {W : World} (h : TkI w1 B sv0 fv0 n xs ys sv fv true cR W) : ∃ ao cap, sv = .slice ao (n + 1) cap := row_slice h.s
theorem TkI.rForm {w1 : World} {B : Nat} {sv0 fv0 : Value} {n : Nat} {xs ys : List Value} {sv fv : Value} {cS : Bool} {W : World} (h : TkI w1 B sv0 fv0 n xs ys sv fv cS true W) : ∃ ao cap, fv = .slice ao (n + 1) cap := row_slice h.r
theorem cells_at {W : World} {N : Nat} {l : List Value} {t : TypeId} (h : W.heap[N]? = some (.cells l.toArray t)) : ∀ (j : Nat) (u : Value), l[j]? = some u → W.cell? ((⟨N, 0, none⟩ : Addr).add j) = some u := fun j u hu => by
  rw [addr_add, Nat.zero_add]
  simp [World.cell?, h, hu]
theorem step_tkS {w1 : World} {B : Nat} {sv0 fv0 : Value} {n : Nat} {xs ys : List Value} {sv fv : Value} {cR : Bool} {W : World} {ops : Array Oper} {o : Oper} {a : Act} {K : Act → World → Prop} {Q : Exit → Act → World → Prop} {E : Prop} (hgd : o.guard = none) (s x : Operand) (ho : o.op = .call { callee := .builtin .append, args := #[s, x], argTypes := #[23, 23] })
    (TK : TkI w1 B sv0 fv0 n xs ys sv fv false cR W) (hn : n ≤ 40) {N : Nat} (hs : a.eval s = sv) (hx : a.eval x = .slice (some ⟨N, 0, none⟩) 1 1) (hN : W.heap[N]? = some (.cells #[.int .i64 0, .string ⟨#[]⟩, .slice none 0 0] 60))
    (h : ∀ v' w', Hid (TkI w1 B sv0 fv0 n xs ys v' fv true cR w') → Hid (Kp W w' 60) → K (a.put o.dst v') w') : if Region.wanted o (yielded ops a.tmps) = true then Oper.wp Try.prog o a W K Q else E := by
  have hw : Region.wanted o (yielded ops a.tmps) = true := by simp [Region.wanted, hgd]
  rw [if_pos hw]
  obtain ⟨i0, hi, hz0, hz1, hz2⟩ := info_parts infoSlot
  obtain ⟨v', w', hr, g2, g3, _, g5⟩ := run_append_own_at (P := Try.prog) W B 23 o.type 60 i0 _ 3 48 Try.underlying23 hi hz0 hz1 hz2 rfl (by decide) sv n xs TK.s ⟨N, 0, none⟩ 1 1 z3 rfl (cells_at (l := z3) hN) (by intro u hu; simp at hu; rcases hu with rfl | rfl | rfl <;> rfl) (by unfold maxLen; omega) (by omega) (Nat.le_trans TK.bB TK.bel.size)
  unfold Oper.wp execOp
  simp only [ho, resolve, invoke, builtin, Sem.run_bind, Sem.run_pure, Result.andThen_ok, List.map_toArray, List.map_cons, List.map_nil, hs, hx, hr]
  exact h v' w' (TK.appS g3 g2 g5) (kp_grown TK.s g3)
theorem step_tkR {w1 : World} {B : Nat} {sv0 fv0 : Value} {n : Nat} {xs ys : List Value} {sv fv : Value} {cS : Bool} {W : World} {ops : Array Oper} {o : Oper} {a : Act} {K : Act → World → Prop} {Q : Exit → Act → World → Prop} {E : Prop} (hgd : o.guard = none) (s x : Operand) (ho : o.op = .call { callee := .builtin .append, args := #[s, x], argTypes := #[22, 22] })
    (TK : TkI w1 B sv0 fv0 n xs ys sv fv cS false W) (hn : n ≤ 40) {N : Nat} (hs : a.eval s = fv) (hx : a.eval x = .slice (some ⟨N, 0, none⟩) 1 1) (hN : W.heap[N]? = some (.cells #[.int .i64 0] 3))
    (h : ∀ v' w', Hid (TkI w1 B sv0 fv0 n xs ys sv v' cS true w') → Hid (Kp W w' 3) → K (a.put o.dst v') w') : if Region.wanted o (yielded ops a.tmps) = true then Oper.wp Try.prog o a W K Q else E := by
  have hw : Region.wanted o (yielded ops a.tmps) = true := by simp [Region.wanted, hgd]
  rw [if_pos hw]
  obtain ⟨i0, hi, hz0, hz1, hz2⟩ := info_parts info3
  obtain ⟨v', w', hr, g2, g3, _, g5⟩ := run_append_own_at (P := Try.prog) W B 22 o.type 3 i0 _ 1 8 Try.underlying22 hi hz0 hz1 hz2 rfl (by decide) fv n ys TK.r ⟨N, 0, none⟩ 1 1 z1 rfl (cells_at (l := z1) hN) (by intro u hu; simp at hu; subst hu; rfl) (by unfold maxLen; omega) (by omega) (Nat.le_trans TK.bB TK.bel.size)
  unfold Oper.wp execOp
  simp only [ho, resolve, invoke, builtin, Sem.run_bind, Sem.run_pure, Result.andThen_ok, List.map_toArray, List.map_cons, List.map_nil, hs, hx, hr]
  exact h v' w' (TK.appR g3 g2 g5) (kp_grown TK.r g3)
end Go.Proofs.Ytehleeibgkpjmag
/- Take: both rows have been put one behind, and the desk tells so. -/
namespace Go.Proofs.Ytehleeibgkpjmag
open Go.RowKit Go.Shelf
set_option maxRecDepth 20000

theorem row_blk {W W' : World} {B n size : Nat} {e : TypeId} {v : Value} {xs : List Value} (h : W.ownsRow B e size v n xs) (hb : ∀ g, v.ownBlock = some g → W'.heap[g]? = W.heap[g]?) : W'.ownsRow B e size v n xs := by
  refine ⟨h.1, ?_⟩
  rcases h.2 with hn | ⟨g, cap, cur, hv, hb', hg, rest⟩
  · exact .inl hn
  · exact .inr ⟨g, cap, cur, hv, hb', (hb g (by rw [hv]; rfl)).trans hg, rest⟩
theorem ints_snoc (l : List Int) (x : Int) : ints (l ++ [x]) = ints l ++ [.int .i64 x] := by simp [ints]
theorem DTo.both {w w1 W : World} {B D : Nat} {m : ImgD} {val : Nm → Value} {ev sv fv : Value} (h : DTo w w1 B D m val ev m val) (hr : m.refs.length = m.slots.length) (TK : TkI w1 B (val .slots) (val .refs) m.slots.length (flatS m.slots (fun j => val (.tab j))) (ints m.refs) sv fv true true W) :
    DTo w ((W.setCell ⟨D, 2, none⟩ sv).setCell ⟨D, 3, none⟩ fv) B D m val ev { m with slots := m.slots ++ [(0, ⟨#[]⟩, [])], refs := m.refs ++ [0] } (upd (upd (upd val (.tab m.slots.length) nilV) .slots sv) .refs fv) := by
  have hDw := h.dk.lt
  have hv : ∀ b, b ≠ .slots → b ≠ .refs → b ≠ .tab m.slots.length → upd (upd (upd val (.tab m.slots.length) nilV) .slots sv) .refs fv b = val b := fun b h1 h2 h3 => by rw [upd_other _ _ h2, upd_other _ _ h1, upd_other _ _ h3]
  have hvs : upd (upd (upd val (.tab m.slots.length) nilV) .slots sv) .refs fv .slots = sv := by rw [upd_other _ _ (by intro x; cases x), upd_same]
  have hvf : upd (upd (upd val (.tab m.slots.length) nilV) .slots sv) .refs fv .refs = fv := upd_same _ _ _
  have hvt : upd (upd (upd val (.tab m.slots.length) nilV) .slots sv) .refs fv (.tab m.slots.length) = nilV := by rw [upd_other _ _ (by intro x; cases x), upd_other _ _ (by intro x; cases x), upd_same]
  have hcase : ∀ b, Live { m with slots := m.slots ++ [(0, ⟨#[]⟩, [])], refs := m.refs ++ [0] } b → b = .slots ∨ b = .refs ∨ b = .tab m.slots.length ∨ (Live m b ∧ b ≠ .slots ∧ b ≠ .refs ∧ b ≠ .tab m.slots.length) := fun b hb => by
    rcases hb.cases with rfl | rfl | rfl | rfl | ⟨j, rfl, hj⟩ | ⟨j, rfl, hj⟩
    · exact .inr (.inr (.inr ⟨Live.root m, (by intro x; cases x), (by intro x; cases x), (by intro x; cases x)⟩))
    · exact .inl rfl
    · exact .inr (.inl rfl)
    · exact .inr (.inr (.inr ⟨Live.snaps m, (by intro x; cases x), (by intro x; cases x), (by intro x; cases x)⟩))
    · by_cases e : j = m.slots.length
      · subst e; exact .inr (.inr (.inl rfl))
      · have hj : j < (m.slots ++ [((0 : Int), (⟨#[]⟩ : ByteArray), ([] : List Int))]).length := hj
        rw [List.length_append, List.length_singleton] at hj
        exact .inr (.inr (.inr ⟨Live.tab (by omega), (by intro x; cases x), (by intro x; cases x), (by intro x; injection x with _ x; exact e x)⟩))
    · exact .inr (.inr (.inr ⟨Live.sr hj, (by intro x; cases x), (by intro x; cases x), (by intro x; cases x)⟩))
  have hold : ∀ b, Live m b → b ≠ .slots → b ≠ .refs → ∀ g, (val b).ownBlock = some g → g < w1.heap.size ∧ (val .slots).ownBlock ≠ some g ∧ (val .refs).ownBlock ≠ some g := fun b hb h1 h2 g e =>
    ⟨((h.dk.own.row b hb).lt g e).2, h.dk.own.apart b .slots hb (Live.slots m) h1 g e, h.dk.own.apart b .refs hb (Live.refs m) h2 g e⟩
  have hnotS : ∀ q, q < w1.heap.size → (val .slots).ownBlock ≠ some q → sv.ownBlock ≠ some q := fun q hq hn e => by
    rcases TK.sb with x | x
    · exact hn (x.symm.trans e)
    · have := x q e; omega
  have hnotF : ∀ q, q < w1.heap.size → (val .refs).ownBlock ≠ some q → fv.ownBlock ≠ some q := fun q hq hn e => by
    rcases TK.fb with x | x
    · exact hn (x.symm.trans e)
    · have := x q e; omega
  have hDs := h.dk.far .slots (Live.slots m)
  have hDf := h.dk.far .refs (Live.refs m)
  have hfarD : ∀ b, Live { m with slots := m.slots ++ [(0, ⟨#[]⟩, [])], refs := m.refs ++ [0] } b → (upd (upd (upd val (.tab m.slots.length) nilV) .slots sv) .refs fv b).ownBlock ≠ some D := fun b hb => by
    rcases hcase b hb with rfl | rfl | rfl | ⟨hl, h1, h2, h3⟩
    · rw [hvs]; exact hnotS D hDw hDs
    · rw [hvf]; exact hnotF D hDw hDf
    · rw [hvt]; exact nilV_own _
    · rw [hv b h1 h2 h3]; exact h.dk.far b hl
  have hOW : OI W B (upd (upd (upd val (.tab m.slots.length) nilV) .slots sv) .refs fv) { m with slots := m.slots ++ [(0, ⟨#[]⟩, [])], refs := m.refs ++ [0] } := by
    refine ⟨fun b hb => ?_, fun b c hb hc hne q hq => ?_⟩
    · rcases hcase b hb with rfl | rfl | rfl | ⟨hl, h1, h2, h3⟩
      · rw [hvs]
        have e1 := flatS_snoc m.slots (fun j => val (.tab j)) (fun j => upd (upd (upd val (.tab m.slots.length) nilV) .slots sv) .refs fv (.tab j)) (0, ⟨#[]⟩, []) (fun j hj => hv _ (by intro x; cases x) (by intro x; cases x) (by intro x; injection x with _ x; omega))
        rw [hvt] at e1
        have e2 : rowN { m with slots := m.slots ++ [(0, ⟨#[]⟩, [])], refs := m.refs ++ [0] } .slots = m.slots.length + 1 := by show (m.slots ++ [_]).length = _; simp
        have e1 : rowV { m with slots := m.slots ++ [(0, ⟨#[]⟩, [])], refs := m.refs ++ [0] } (upd (upd (upd val (.tab m.slots.length) nilV) .slots sv) .refs fv) .slots = flatS m.slots (fun j => val (.tab j)) ++ z3 := e1
        rw [e1, e2]
        exact TK.s
      · rw [hvf]
        have e1 : rowV { m with slots := m.slots ++ [(0, ⟨#[]⟩, [])], refs := m.refs ++ [0] } (upd (upd (upd val (.tab m.slots.length) nilV) .slots sv) .refs fv) .refs = ints m.refs ++ z1 := ints_snoc _ _
        have e2 : rowN { m with slots := m.slots ++ [(0, ⟨#[]⟩, [])], refs := m.refs ++ [0] } .refs = m.slots.length + 1 := by show (m.refs ++ [_]).length = _; simp [hr]
        rw [e1, e2]
        exact TK.r
      · rw [hvt]
        have e0 : (m.slots ++ [((0 : Int), (⟨#[]⟩ : ByteArray), ([] : List Int))]).getD m.slots.length default = (0, ⟨#[]⟩, []) := by simp [List.getD]
        have e1 : rowV { m with slots := m.slots ++ [(0, ⟨#[]⟩, [])], refs := m.refs ++ [0] } (upd (upd (upd val (.tab m.slots.length) nilV) .slots sv) .refs fv) (.tab m.slots.length) = [] := by
          show ints ((m.slots ++ [((0 : Int), (⟨#[]⟩ : ByteArray), ([] : List Int))]).getD m.slots.length default).2.2 = _
          rw [e0]; rfl
        have e2 : rowN { m with slots := m.slots ++ [(0, ⟨#[]⟩, [])], refs := m.refs ++ [0] } (.tab m.slots.length) = 0 := by
          show ((m.slots ++ [((0 : Int), (⟨#[]⟩ : ByteArray), ([] : List Int))]).getD m.slots.length default).2.2.length = _
          rw [e0]; rfl
        rw [e1, e2]
        exact World.ownsRow_nil _ _ _ _
      · rw [hv b h1 h2 h3]
        have e1 : rowV { m with slots := m.slots ++ [(0, ⟨#[]⟩, [])], refs := m.refs ++ [0] } (upd (upd (upd val (.tab m.slots.length) nilV) .slots sv) .refs fv) b = rowV m val b ∧ rowN { m with slots := m.slots ++ [(0, ⟨#[]⟩, [])], refs := m.refs ++ [0] } b = rowN m b := by
          rcases hl.cases with rfl | rfl | rfl | rfl | ⟨j, rfl, hj⟩ | ⟨j, rfl, hj⟩
          · exact ⟨rfl, rfl⟩
          · exact absurd rfl h1
          · exact absurd rfl h2
          · refine ⟨?_, rfl⟩
            exact flatN_ext (fun j _ => hv (.sr j) (by intro x; cases x) (by intro x; cases x) (by intro x; cases x))
          · have e : (m.slots ++ [((0 : Int), (⟨#[]⟩ : ByteArray), ([] : List Int))]).getD j default = m.slots.getD j default := by simp [List.getD, List.getElem?_append, hj]
            constructor
            · show ints ((m.slots ++ [((0 : Int), (⟨#[]⟩ : ByteArray), ([] : List Int))]).getD j default).2.2 = _
              rw [e]; rfl
            · show ((m.slots ++ [((0 : Int), (⟨#[]⟩ : ByteArray), ([] : List Int))]).getD j default).2.2.length = _
              rw [e]; rfl
          · exact ⟨rfl, rfl⟩
        rw [e1.1, e1.2]
        exact row_blk (h.dk.own.row b hl) (fun g e => by obtain ⟨x1, x2, x3⟩ := hold b hl h1 h2 g e; exact TK.keep g x1 x2 x3)
    · rcases hcase b hb with rfl | rfl | rfl | ⟨hl, h1, h2, h3⟩
      · rw [hvs] at hq
        rcases hcase c hc with rfl | rfl | rfl | ⟨kl, k1, k2, k3⟩
        · exact absurd rfl hne
        · rw [hvf]; exact TK.ap q hq
        · rw [hvt]; exact nilV_own _
        · rw [hv c k1 k2 k3]
          intro y
          obtain ⟨x1, x2, _⟩ := hold c kl k1 k2 q y
          exact hnotS q x1 x2 hq
      · rw [hvf] at hq
        rcases hcase c hc with rfl | rfl | rfl | ⟨kl, k1, k2, k3⟩
        · rw [hvs]; exact fun y => TK.ap q y hq
        · exact absurd rfl hne
        · rw [hvt]; exact nilV_own _
        · rw [hv c k1 k2 k3]
          intro y
          obtain ⟨x1, _, x3⟩ := hold c kl k1 k2 q y
          exact hnotF q x1 x3 hq
      · rw [hvt] at hq; cases hq
      · rw [hv b h1 h2 h3] at hq
        obtain ⟨x1, x2, x3⟩ := hold b hl h1 h2 q hq
        rcases hcase c hc with rfl | rfl | rfl | ⟨kl, k1, k2, k3⟩
        · rw [hvs]; exact hnotS q x1 x2
        · rw [hvf]; exact hnotF q x1 x3
        · rw [hvt]; exact nilV_own _
        · rw [hv c k1 k2 k3]; exact h.dk.own.apart b c hl kl hne q hq
  have hbox : W.heap[D]? = some (.cells #[.int .i64 m.guest, val .root, val .slots, val .refs, val .snaps] 51) := (TK.keep D hDw hDs hDf).trans h.dk.box
  refine ⟨⟨(hOW.far hfarD).far hfarD, ?_, h.dk.ge, hfarD⟩, ((h.bel.trans TK.bel).setCell h.dk.ge _).setCell h.dk.ge _, fun q hq hqD hev hm => ?_, fun q hq hev hm b hb => ?_⟩
  · rw [hvs, hvf, hv .root (by intro x; cases x) (by intro x; cases x) (by intro x; cases x), hv .snaps (by intro x; cases x) (by intro x; cases x) (by intro x; cases x)]
    exact cells_set (cells_set hbox 2 _) 3 _
  · have hq1 : q < w1.heap.size := Nat.lt_of_lt_of_le hq h.bel.size
    have hs := h.src q hq hev hm
    exact (cells_other (cells_other rfl hqD _ _) hqD _ _).trans ((TK.keep q hq1 (hs .slots (Live.slots m)) (hs .refs (Live.refs m))).trans (h.keep q hq hqD hev hm))
  · have hq1 : q < w1.heap.size := Nat.lt_of_lt_of_le hq h.bel.size
    have hs := h.src q hq hev hm
    rcases hcase b hb with rfl | rfl | rfl | ⟨hl, h1, h2, h3⟩
    · rw [hvs]; exact hnotS q hq1 (hs .slots (Live.slots m))
    · rw [hvf]; exact hnotF q hq1 (hs .refs (Live.refs m))
    · rw [hvt]; exact nilV_own _
    · rw [hv b h1 h2 h3]; exact hs b hl
theorem both_far {w1 W : World} {B : Nat} {m : ImgD} {val : Nm → Value} {ev sv fv : Value} {n : Nat} {xs ys : List Value} {cS cR : Bool} (TK : TkI w1 B (val .slots) (val .refs) n xs ys sv fv cS cR W) (hfar : Far m val (.tab m.slots.length) ev) (hlt : ∀ g, ev.ownBlock = some g → g < w1.heap.size) :
    Far { m with slots := m.slots ++ [(0, ⟨#[]⟩, [])], refs := m.refs ++ [0] } (upd (upd (upd val (.tab m.slots.length) nilV) .slots sv) .refs fv) (.tab m.slots.length) ev := fun b hb hne g hg => by
  have hg1 := hlt g hg
  by_cases h2 : b = .refs
  · subst h2
    rw [upd_same]
    intro e
    rcases TK.fb with x | x
    · exact hfar .refs (Live.refs m) (by intro y; cases y) g hg (x.symm.trans e)
    · have := x g e; omega
  rw [upd_other _ _ h2]
  by_cases h1 : b = .slots
  · subst h1
    rw [upd_same]
    intro e
    rcases TK.sb with x | x
    · exact hfar .slots (Live.slots m) (by intro y; cases y) g hg (x.symm.trans e)
    · have := x g e; omega
  rw [upd_other _ _ h1, upd_other _ _ hne]
  refine hfar b ?_ hne g hg
  rcases hb.cases with rfl | rfl | rfl | rfl | ⟨j, rfl, hj⟩ | ⟨j, rfl, hj⟩
  · exact Live.root m
  · exact absurd rfl h1
  · exact absurd rfl h2
  · exact Live.snaps m
  · have hj : j < (m.slots ++ [((0 : Int), (⟨#[]⟩ : ByteArray), ([] : List Int))]).length := hj
    rw [List.length_append, List.length_singleton] at hj
    refine Live.tab ?_
    rcases Nat.lt_or_ge j m.slots.length with h | h
    · exact h
    · exact absurd (by rw [show j = m.slots.length by omega]) hne
  · exact Live.sr hj
end Go.Proofs.Ytehleeibgkpjmag
/- Take: the walk where a slot is put behind all. -/
namespace Go.Proofs.Ytehleeibgkpjmag
open Go.RowKit Go.Shelf
set_option maxRecDepth 20000

theorem Hid_mk {p : Prop} (h : p) : Hid p := h
theorem root_cell' {W : World} {B g cap : Nat} {l : List Int} (h : W.ownsRow B 3 1 (.slice (some ⟨g, 0, none⟩) l.length cap) l.length (ints l)) {k : Nat} (hk : k < l.length) : W.cell? ⟨g, k, none⟩ = some (.int .i64 (l.getD k 0)) := by
  refine (h.cellAt k (by omega)).trans ?_
  unfold ints
  rw [List.getElem?_map, List.getElem?_eq_getElem hk]
  simp [List.getD, hk]
theorem hn_a (W : World) (A : Array Value) (t : TypeId) : (W.alloc (.cells A t)).heap[W.heap.size]? = some (.cells A t) := World.alloc_heap_new _ _
theorem hn_b (W : World) (A : Array Value) (t : TypeId) (o : Obj) : ((W.alloc (.cells A t)).alloc o).heap[W.heap.size]? = some (.cells A t) := cells_alloc (World.alloc_heap_new _ _) _
theorem hn_c (W : World) (A : Array Value) (t : TypeId) (o : Obj) : ((W.alloc o).alloc (.cells A t)).heap[W.heap.size + 1]? = some (.cells A t) := by have := World.alloc_heap_new (W.alloc o) (.cells A t); simpa using this
def TkR (w1 : World) (B D : Nat) (sv0 fv0 : Value) (m : ImgD) (val : Nm → Value) (wx : World) : Prop := ∃ (pa : Option Addr) (pc : Nat) (qa : Option Addr) (qc : Nat) (W : World), TkI w1 B sv0 fv0 m.slots.length (flatS m.slots (fun j => val (.tab j))) (ints m.refs) (.slice pa (m.slots.length + 1) pc) (.slice qa (m.slots.length + 1) qc) true true W ∧ wx = (W.setCell ⟨D, 2, none⟩ (.slice pa (m.slots.length + 1) pc)).setCell ⟨D, 3, none⟩ (.slice qa (m.slots.length + 1) qc)

set_option maxHeartbeats 8000000 in
theorem take_new (m : ImgD) (sg sc : Nat) (fg fc : Nat) (k : Int) (d : ByteArray) (ea : Option Addr) (en ec : Nat) (es : List Int) (B D : Nat) (val : Nm → Value) (w : World) (hK : DK w B D val m) (hB : B ≤ w.heap.size) (e1 : val .slots = .slice (some ⟨sg, 0, none⟩) m.slots.length sc) (e2 : val .refs = .slice (some ⟨fg, 0, none⟩) m.slots.length fc) (hs : slotsE m.slots = 0) (hg : grabN m.slots = m.slots.length) (h40 : m.slots.length < 40) (hrl : m.refs.length = m.slots.length)
    (he : w.ownsRow B 3 1 (.slice ea en ec) es.length (ints es)) (hfar : Far m val (.tab m.slots.length) (.slice ea en ec)) (hD : (Value.slice ea en ec).ownBlock ≠ some D) :
    Calls Try.prog 29 #[.pointer (some ⟨D, 0, none⟩), .agg #[.int .i64 k, .string d, .slice ea en ec]] w fun r w' => r = .returned (.int .i64 (m.slots.length : Int)) ∧ ∃ val', DTo w w' B D m val (.slice ea en ec) { m with slots := m.slots ++ [(k, d, es)], refs := m.refs ++ [1] } val' ∧ val' .root = val .root := by
  have hK1 : DK (w.alloc (.cells #[.int .i64 k, .string d, .slice ea en ec] 60)) B D val m := hK.alloc _
  obtain ⟨d0, d1, d2, d3, d4⟩ := hK1.five
  rw [e1] at d2
  rw [e2] at d3
  have hcall := grab_is hK1.own.img.four.2.1 hs hg
  rw [e1] at hcall
  have g40 : ¬ m.slots.length = 40 := by omega
  rw [if_neg g40, if_neg g40] at hcall
  have b0 : Below w.heap.size w (w.alloc (.cells #[.int .i64 k, .string d, .slice ea en ec] 60)) := (Below.refl _ _).alloc (Nat.le_refl _) _
  have mS : (w.alloc (.cells #[.int .i64 k, .string d, .slice ea en ec] 60)).heap[w.heap.size]? = some (.cells #[.int .i64 k, .string d, .slice ea en ec] 60) := World.alloc_heap_new _ _
  have hDl := hK.lt
  clear hg hs g40
  go_enter Try.func29, Try.ntmps29
  go_upto_region 5 with (go_at_call 58; refine hcall.mono ?_; rintro e w1 ⟨rfl, b1⟩; have hK2 := hK1.below b1; obtain ⟨i0, i1, i2, i3, i4⟩ := hK2.five; rw [e1] at i2; rw [e2] at i3; have mS1 := cells_below mS b1 (by simp); obtain ⟨s0, s1, s2⟩ := three mS1)
  have hz1 : B ≤ w1.heap.size := Nat.le_trans hB (Nat.le_trans b0.size b1.size)
  have hrr := hK2.own.row .refs (Live.refs m)
  have hrs := hK2.own.row .slots (Live.slots m)
  have TK : Hid (TkI w1 B (.slice (some ⟨sg, 0, none⟩) m.slots.length sc) (.slice (some ⟨fg, 0, none⟩) m.slots.length fc) m.slots.length (flatS m.slots (fun j => val (.tab j))) (ints m.refs) (.slice (some ⟨sg, 0, none⟩) m.slots.length sc) (.slice (some ⟨fg, 0, none⟩) m.slots.length fc) false false w1) := by
    refine ⟨Below.refl _ _, hz1, ?_, ?_, fun _ _ _ _ => rfl, .inl rfl, .inl rfl, ?_⟩
    · rw [e1] at hrs; exact hrs
    · rw [e2] at hrr
      have hrr : w1.ownsRow B 3 1 (.slice (some ⟨fg, 0, none⟩) m.slots.length fc) m.refs.length (ints m.refs) := hrr
      rw [hrl] at hrr
      exact hrr
    · intro g e
      have := hK2.own.apart .slots .refs (Live.slots m) (Live.refs m) (by intro x; cases x) g (by rw [e1]; exact e)
      rw [e2] at this
      exact this
  have hn40 : m.slots.length ≤ 40 := by omega
  have hDw : D < w1.heap.size := hK2.lt
  have nDS : (Value.slice (some ⟨sg, 0, none⟩) m.slots.length sc).ownBlock ≠ some D := by have := hK.far .slots (Live.slots m); rw [e1] at this; exact this
  have nDF : (Value.slice (some ⟨fg, 0, none⟩) m.slots.length fc).ownBlock ≠ some D := by have := hK.far .refs (Live.refs m); rw [e2] at this; exact this
  have hbD := hK2.box
  rw [e1, e2] at hbD
  have hDc : ∀ sv fv cS cR W, Hid (TkI w1 B (.slice (some ⟨sg, 0, none⟩) m.slots.length sc) (.slice (some ⟨fg, 0, none⟩) m.slots.length fc) m.slots.length (flatS m.slots (fun j => val (.tab j))) (ints m.refs) sv fv cS cR W) → W.cell? ⟨D, 2, none⟩ = some (.slice (some ⟨sg, 0, none⟩) m.slots.length sc) ∧ W.cell? ⟨D, 3, none⟩ = some (.slice (some ⟨fg, 0, none⟩) m.slots.length fc) ∧ W.frozen? ⟨D, 2, none⟩ = false ∧ W.frozen? ⟨D, 3, none⟩ = false ∧ (W.alloc (.cells #[.int .i64 0] 3)).cell? ⟨D, 2, none⟩ = some (.slice (some ⟨sg, 0, none⟩) m.slots.length sc) ∧ (W.alloc (.cells #[.int .i64 0] 3)).cell? ⟨D, 3, none⟩ = some (.slice (some ⟨fg, 0, none⟩) m.slots.length fc) ∧ (W.alloc (.cells #[.int .i64 0, .string ⟨#[]⟩, .slice none 0 0] 60)).cell? ⟨D, 2, none⟩ = some (.slice (some ⟨sg, 0, none⟩) m.slots.length sc) ∧ (W.alloc (.cells #[.int .i64 0, .string ⟨#[]⟩, .slice none 0 0] 60)).cell? ⟨D, 3, none⟩ = some (.slice (some ⟨fg, 0, none⟩) m.slots.length fc) := fun sv fv cS cR W h => by
    have hb := (h.out.keep D hDw nDS nDF).trans hbD
    exact ⟨(five hb).2.2.1, (five hb).2.2.2.1, cells_frozen hb 2, cells_frozen hb 3, (five (cells_alloc hb _)).2.2.1, (five (cells_alloc hb _)).2.2.2.1, (five (cells_alloc hb _)).2.2.1, (five (cells_alloc hb _)).2.2.2.1⟩
  have v02 : (w1.alloc (.cells #[.int .i64 0, .string ⟨#[]⟩, .slice none 0 0] 60)).cell? ⟨D, 2, none⟩ = some (.slice (some ⟨sg, 0, none⟩) m.slots.length sc) := (five (cells_alloc hbD _)).2.2.1
  have v03 : (w1.alloc (.cells #[.int .i64 0, .string ⟨#[]⟩, .slice none 0 0] 60)).cell? ⟨D, 3, none⟩ = some (.slice (some ⟨fg, 0, none⟩) m.slots.length fc) := (five (cells_alloc hbD _)).2.2.2.1
  have v12 : (w1.alloc (.cells #[.int .i64 0] 3)).cell? ⟨D, 2, none⟩ = some (.slice (some ⟨sg, 0, none⟩) m.slots.length sc) := (five (cells_alloc hbD _)).2.2.1
  have v13 : (w1.alloc (.cells #[.int .i64 0] 3)).cell? ⟨D, 3, none⟩ = some (.slice (some ⟨fg, 0, none⟩) m.slots.length fc) := (five (cells_alloc hbD _)).2.2.2.1
  have v22 : ((w1.alloc (.cells #[.int .i64 0, .string ⟨#[]⟩, .slice none 0 0] 60)).alloc (.cells #[.int .i64 0] 3)).cell? ⟨D, 2, none⟩ = some (.slice (some ⟨sg, 0, none⟩) m.slots.length sc) := (five (cells_alloc (cells_alloc hbD _) _)).2.2.1
  have v23 : ((w1.alloc (.cells #[.int .i64 0, .string ⟨#[]⟩, .slice none 0 0] 60)).alloc (.cells #[.int .i64 0] 3)).cell? ⟨D, 3, none⟩ = some (.slice (some ⟨fg, 0, none⟩) m.slots.length fc) := (five (cells_alloc (cells_alloc hbD _) _)).2.2.2.1
  have v32 : ((w1.alloc (.cells #[.int .i64 0] 3)).alloc (.cells #[.int .i64 0, .string ⟨#[]⟩, .slice none 0 0] 60)).cell? ⟨D, 2, none⟩ = some (.slice (some ⟨sg, 0, none⟩) m.slots.length sc) := (five (cells_alloc (cells_alloc hbD _) _)).2.2.1
  have v33 : ((w1.alloc (.cells #[.int .i64 0] 3)).alloc (.cells #[.int .i64 0, .string ⟨#[]⟩, .slice none 0 0] 60)).cell? ⟨D, 3, none⟩ = some (.slice (some ⟨fg, 0, none⟩) m.slots.length fc) := (five (cells_alloc (cells_alloc hbD _) _)).2.2.2.1
  go_cut [] from 7 (fun wx => TkR w1 B D (.slice (some ⟨sg, 0, none⟩) m.slots.length sc) (.slice (some ⟨fg, 0, none⟩) m.slots.length fc) m val wx)
  case first =>
    go_region_law (first
      | (refine step_tkS (by rfl) _ _ (by rfl) TKr.out hn40 (by rfl) (by rfl) ?hN ?_; (case hN => (first | exact KPr.out _ _ _ (hn_b _ _ _ _) (by decide) | exact KPr.out _ _ _ (hn_c _ _ _ _) (by decide) | exact KPr.out _ _ _ (hn_a _ _ _) (by decide))); intro sv2 w3 TKs KPs; obtain ⟨pa, pc, rfl⟩ := TKs.out.sForm; obtain ⟨x2, x3, x4, x5, x6, x7, x8, x9⟩ := hDc _ _ _ _ _ TKs)
      | (refine step_tkS (by rfl) _ _ (by rfl) (TKr.out.alloc _) hn40 (by rfl) (by rfl) ?hN ?_; (case hN => (exact hn_a _ _ _)); intro sv2 w3 TKs KPs; obtain ⟨pa, pc, rfl⟩ := TKs.out.sForm; obtain ⟨x2, x3, x4, x5, x6, x7, x8, x9⟩ := hDc _ _ _ _ _ TKs)
      | (refine step_tkR (by rfl) _ _ (by rfl) TKs.out hn40 (by rfl) (by rfl) ?hN ?_; (case hN => (first | exact KPs.out _ _ _ (hn_b _ _ _ _) (by decide) | exact KPs.out _ _ _ (hn_c _ _ _ _) (by decide) | exact KPs.out _ _ _ (hn_a _ _ _) (by decide))); intro fv2 w3 TKr KPr; obtain ⟨qa, qc, rfl⟩ := TKr.out.rForm; obtain ⟨x2, x3, x4, x5, x6, x7, x8, x9⟩ := hDc _ _ _ _ _ TKr)
      | (refine step_tkR (by rfl) _ _ (by rfl) (TKs.out.alloc _) hn40 (by rfl) (by rfl) ?hN ?_; (case hN => (exact hn_a _ _ _)); intro fv2 w3 TKr KPr; obtain ⟨qa, qc, rfl⟩ := TKr.out.rForm; obtain ⟨x2, x3, x4, x5, x6, x7, x8, x9⟩ := hDc _ _ _ _ _ TKr)
      | (refine step_tkS (by rfl) _ _ (by rfl) ((TK.out.alloc _).drew) hn40 (by rfl) (by rfl) ?hN ?_; (case hN => (first | exact hn_a _ _ _)); intro sv1 w2 TKs KPs; obtain ⟨pa, pc, rfl⟩ := TKs.out.sForm; obtain ⟨y2, y3, y4, y5, y6, y7, y8, y9⟩ := hDc _ _ _ _ _ TKs)
      | (refine step_tkS (by rfl) _ _ (by rfl) (((TK.out.alloc _).alloc _).drew) hn40 (by rfl) (by rfl) ?hN ?_; (case hN => (first | exact hn_b _ _ _ _ | exact hn_c _ _ _ _)); intro sv1 w2 TKs KPs; obtain ⟨pa, pc, rfl⟩ := TKs.out.sForm; obtain ⟨y2, y3, y4, y5, y6, y7, y8, y9⟩ := hDc _ _ _ _ _ TKs)
      | (refine step_tkR (by rfl) _ _ (by rfl) ((TK.out.alloc _).drew) hn40 (by rfl) (by rfl) ?hN ?_; (case hN => (first | exact hn_a _ _ _)); intro fv1 w2 TKr KPr; obtain ⟨qa, qc, rfl⟩ := TKr.out.rForm; obtain ⟨y2, y3, y4, y5, y6, y7, y8, y9⟩ := hDc _ _ _ _ _ TKr)
      | (refine step_tkR (by rfl) _ _ (by rfl) (((TK.out.alloc _).alloc _).drew) hn40 (by rfl) (by rfl) ?hN ?_; (case hN => (first | exact hn_b _ _ _ _ | exact hn_c _ _ _ _)); intro fv1 w2 TKr KPr; obtain ⟨qa, qc, rfl⟩ := TKr.out.rForm; obtain ⟨y2, y3, y4, y5, y6, y7, y8, y9⟩ := hDc _ _ _ _ _ TKr))
    all_goals
      go_wp2_with fail
      go_meet
      exact ⟨_, _, _, _, w3, (by first | exact TKr.out | exact TKs.out), rfl⟩
  case rest =>
  obtain ⟨pa, pc, qa, qc, W, hTK, hwc⟩ := hcut
  have hT1 := ((DTo.refl hK1 (.slice ea en ec)).below (by simp; omega) b1)
  have hTB := hT1.both hrl (by rw [e1, e2]; exact hTK)
  rw [← hwc] at hTB
  obtain ⟨vn, hvn⟩ : ∃ vn, upd (upd (upd val (.tab m.slots.length) nilV) .slots (.slice pa (m.slots.length + 1) pc)) .refs (.slice qa (m.slots.length + 1) qc) = vn := ⟨_, rfl⟩
  rw [hvn] at hTB
  have n1 : vn .slots = .slice pa (m.slots.length + 1) pc := by rw [← hvn, upd_other _ _ (by intro x; cases x), upd_same]
  have n2 : vn .refs = .slice qa (m.slots.length + 1) qc := by rw [← hvn, upd_same]
  have HR : Hid (vn .root = val .root) := by show _ = _; rw [← hvn, upd_other _ _ (by intro x; cases x), upd_other _ _ (by intro x; cases x), upd_other _ _ (by intro x; cases x)]
  have hsl : (m.slots ++ [((0 : Int), (⟨#[]⟩ : ByteArray), ([] : List Int))]).length = m.slots.length + 1 := by simp
  have hrs := hTB.dk.own.row .slots (Live.slots _)
  rw [n1] at hrs
  have hrs : wc.ownsRow B 60 3 (.slice pa (m.slots.length + 1) pc) (m.slots.length + 1) (flatS (m.slots ++ [(0, ⟨#[]⟩, [])]) (fun j => vn (.tab j))) := by rw [← hsl]; rw [← hsl] at hrs; exact hrs
  have hrr := hTB.dk.own.row .refs (Live.refs _)
  rw [n2] at hrr
  have hrfl : (m.refs ++ [(0 : Int)]).length = m.slots.length + 1 := by simp [hrl]
  have hrr : wc.ownsRow B 3 1 (.slice qa (m.slots.length + 1) qc) (m.slots.length + 1) (ints (m.refs ++ [0])) := by rw [← hrfl]; rw [← hrfl] at hrr; exact hrr
  obtain ⟨pg, pc', ep⟩ := row_some hrs
  simp only [Value.slice.injEq] at ep
  obtain ⟨rfl, _, rfl⟩ := ep
  obtain ⟨qg, qc', eq⟩ := row_some hrr
  simp only [Value.slice.injEq] at eq
  obtain ⟨rfl, _, rfl⟩ := eq
  have mS2 : wc.heap[w.heap.size]? = some (.cells #[.int .i64 k, .string d, .slice ea en ec] 60) := hTB.cells (World.alloc_heap_new _ _) (by omega) (fun e => by have := (he.lt _ e).2; omega) (hK.own.lt (Nat.le_refl _))
  obtain ⟨s0, s1, s2⟩ := three mS2
  obtain ⟨j0, j1, j2, j3, j4⟩ := hTB.dk.five
  rw [n1] at j2
  rw [n2] at j3
  obtain ⟨t0, t1, t2⟩ := flatS_get (L := m.slots ++ [((0 : Int), (⟨#[]⟩ : ByteArray), ([] : List Int))]) (tv := fun j => vn (.tab j)) (j := m.slots.length) (by simp)
  have t0 := (hrs.cellAt (m.slots.length * 3) (by omega)).trans t0
  have t1 := (hrs.cellAt (m.slots.length * 3 + 1) (by omega)).trans t1
  have t2 := (hrs.cellAt (m.slots.length * 3 + 2) (by omega)).trans t2
  have u0 := hrs.frozenAt (m.slots.length * 3)
  have u1 := hrs.frozenAt (m.slots.length * 3 + 1)
  have u2 := hrs.frozenAt (m.slots.length * 3 + 2)
  have t3 : wc.cell? ⟨qg, m.slots.length, none⟩ = some (.int .i64 ((m.refs ++ [0]).getD m.slots.length 0)) := root_cell' (by rw [hrfl]; exact hrr) (by rw [hrfl]; omega)
  have u3 := hrr.frozenAt m.slots.length
  have hli : (m.slots.length : Int) < (m.slots.length : Int) + 1 := by omega
  have nDS : ¬ D = pg := fun e => hTB.dk.far .slots (Live.slots _) (by rw [n1, e]; rfl)
  have nDF : ¬ D = qg := fun e => hTB.dk.far .refs (Live.refs _) (by rw [n2, e]; rfl)
  have nSD : ¬ pg = D := fun e => nDS e.symm
  have nFD : ¬ qg = D := fun e => nDF e.symm
  have nSF : ¬ pg = qg := fun e => hTB.dk.own.apart .slots .refs (Live.slots _) (Live.refs _) (by intro x; cases x) pg (by rw [n1]; rfl) (by rw [n2, e]; rfl)
  have nFS : ¬ qg = pg := fun e => nSF e.symm
  have nWS : ¬ w.heap.size = pg := fun e => hTB.src w.heap.size (by simp) (fun e => by have := (he.lt _ e).2; omega) (hK.own.lt (Nat.le_refl _)) .slots (Live.slots _) (by rw [n1, e]; rfl)
  have nWF : ¬ w.heap.size = qg := fun e => hTB.src w.heap.size (by simp) (fun e => by have := (he.lt _ e).2; omega) (hK.own.lt (Nat.le_refl _)) .refs (Live.refs _) (by rw [n2, e]; rfl)
  have nSW : ¬ pg = w.heap.size := fun e => nWS e.symm
  have nFW : ¬ qg = w.heap.size := fun e => nWF e.symm
  have hlt1 : ∀ g, (Value.slice ea en ec).ownBlock = some g → g < w.heap.size := fun g e => (he.lt g e).2
  have hw01 : w.heap.size ≤ w1.heap.size := Nat.le_trans b0.size b1.size
  have hevc : wc.ownsRow B 3 1 (.slice ea en ec) es.length (ints es) := by
    rw [hwc]
    refine ownsRow_setCell_other (ownsRow_setCell_other (row_blk (row_keep (he.alloc (.cells #[.int .i64 k, .string d, .slice ea en ec] 60)) b1) (fun g e => ?_)) hD _) hD _
    have x1 := hfar .slots (Live.slots m) (by intro y; cases y) g e
    have x2 := hfar .refs (Live.refs m) (by intro y; cases y) g e
    rw [e1] at x1
    rw [e2] at x2
    exact hTK.keep g (by have := hlt1 g e; omega) x1 x2
  have hfarc : Far { m with slots := m.slots ++ [(0, ⟨#[]⟩, [])], refs := m.refs ++ [0] } vn (.tab m.slots.length) (.slice ea en ec) := by
    rw [← hvn]
    have hTK' := hTK
    rw [← e1, ← e2] at hTK'
    exact both_far hTK' hfar (fun g e => by have := hlt1 g e; omega)
  have hF := (hTB.setSlot (t := m.slots.length) (by show _ < (m.slots ++ [_]).length; simp) n1 k d es hevc hfarc hD (fun q e => .inl e)).setRefs (g := qg) (n := m.slots.length + 1) (cap := qc) ((upd_other _ _ (by intro x; cases x)).trans n2) m.slots.length 1
  have em : ({ m with slots := (m.slots ++ [((0 : Int), (⟨#[]⟩ : ByteArray), ([] : List Int))]).set m.slots.length (k, d, es), refs := (m.refs ++ [0]).set m.slots.length 1 } : ImgD) = { m with slots := m.slots ++ [(k, d, es)], refs := m.refs ++ [1] } := by
    have x1 : (m.slots ++ [((0 : Int), (⟨#[]⟩ : ByteArray), ([] : List Int))]).set m.slots.length (k, d, es) = m.slots ++ [(k, d, es)] := by simp
    have x2 : (m.refs ++ [(0 : Int)]).set m.slots.length 1 = m.refs ++ [1] := by rw [← hrl]; simp
    rw [x1, x2]
  have hF := hF.drew
  rw [em] at hF
  have HF := Hid_mk (hF.pre b0 hB)
  clear hF hevc hfarc hT1 hTB hTK hwc hvn hrs hrr TK hK1 hK2 hcall mS mS1 mS2 d0 d1 d2 d3 d4 i0 i1 i2 i3 i4 j0 j1 j4 n1 n2 em hsl hrfl hbD hDc
  go_wp2_with fail
  go_region_held3 (fun W => W.cell? ⟨D, 0 + 1 + 1, none⟩ = some (.slice (some ⟨pg, 0, none⟩) (m.slots.length + 1) pc) ∧ W.cell? ⟨D, 0 + 1 + 1 + 1, none⟩ = some (.slice (some ⟨qg, 0, none⟩) (m.slots.length + 1) qc) ∧ W.cell? ⟨w.heap.size, 0, none⟩ = some (.int .i64 k) ∧ W.cell? ⟨w.heap.size, 0 + 1, none⟩ = some (.string d) ∧ W.cell? ⟨w.heap.size, 0 + 1 + 1, none⟩ = some (.slice ea en ec)) (first | exact ⟨j2, j3, s0, s1, s2⟩ | go_keep) (fail)
  go_wp2_with fail
  go_ret
  exact ⟨rfl, _, HF.out, (upd_other _ _ (by intro x; cases x)).trans HR.out⟩
end Go.Proofs.Ytehleeibgkpjmag
