/- Texts joined: WiM, WiJ, WiK, First, With, Cut, SameInts, OxL, OxC. -/
import Derived.Test.YtehleeibgkpjmagWireWritesJ7
import Derived.Deep.RegionHeld
import Derived.Deep.CutRange
import Derived.Test.YtehleeibgkpjmagWireWritesJ6
import Derived.Test.YtehleeibgkpjmagWireWritesJ3
import Derived.Test.YtehleeibgkpjmagWireWritesJ5
import Derived.Defers
import Derived.Recover
import Derived.Test.YtehleeibgkpjmagWireWritesJ1
import Derived.Laws.CopyOwn
import Derived.Deep.QuietTactic
import Derived.BigQuiet
set_option linter.unusedVariables false
set_option linter.unusedSimpArgs false
/- The program's reader: image. -/
namespace Go.Proofs.Ytehleeibgkpjmag
open Go.RowKit Go.Shelf Go.Lib
set_option maxRecDepth 20000
set_option linter.unusedVariables false
set_option linter.unusedSimpArgs false

def ImgA (w : World) (R : Nat) (L : List UInt8) (e : Ending) (W' : World) : Prop :=
  (∃ m r, pImg L = some (m, r) ∧ ∃ a0 c0 a1 c1 a2 c2 a3 c3, e = .returned (.agg #[.int .i64 m.guest, .slice a0 m.root.length c0, .slice a1 m.slots.length c1, .slice a2 m.refs.length c2, .slice a3 m.snaps.length c3]) ∧ RdT w W' R r ∧ ∀ Y : World, (∀ q, w.heap.size ≤ q → q < W'.heap.size → Y.heap[q]? = W'.heap[q]?) → Img Y (.agg #[.int .i64 m.guest, .slice a0 m.root.length c0, .slice a1 m.slots.length c1, .slice a2 m.refs.length c2, .slice a3 m.snaps.length c3]) m) ∨ (pImg L = none ∧ e = .panicked wrongP ∧ ∃ l', RdT w W' R l')
theorem row_blkS1L {W W' : World} {B n size : Nat} {e : TypeId} {v : Value} {xs : List Value} (h : W.ownsRow B e size v n xs) (hb : ∀ g, v.ownBlock = some g → W'.heap[g]? = W.heap[g]?) : W'.ownsRow B e size v n xs := by
  refine ⟨h.1, ?_⟩
  rcases h.2 with hn | ⟨g, cap, cur, hv, hB, hg, rest⟩
  · exact .inl hn
  · exact .inr ⟨g, cap, cur, hv, hB, (hb g (by rw [hv]; rfl)).trans hg, rest⟩
theorem row_monoL {W : World} {B B' n size : Nat} {e : TypeId} {v : Value} {xs : List Value} (h : W.ownsRow B e size v n xs) (hB : B' ≤ B) : W.ownsRow B' e size v n xs := by
  refine ⟨h.1, ?_⟩
  rcases h.2 with hn | ⟨g, cap, cur, hv, hb, rest⟩
  · exact .inl hn
  · exact .inr ⟨g, cap, cur, hv, by omega, rest⟩
theorem no_slots {g n : UInt8} {L2 lk : List UInt8} {k : Nat} {Sk : List SlotD} (h : pMany pSlot k L2 = some (Sk, lk)) (h2 : pSlot lk = none) (hk : k < n.toNat) : pImg (g :: n :: L2) = none := by
  have := pMany_none (pMany_stop h h2) n.toNat (by omega)
  show (pMany pSlot n.toNat L2).bind _ = none
  rw [this]; rfl
theorem no_count {g n : UInt8} {L2 : List UInt8} {SS : List SlotD} (h : pMany pSlot n.toNat L2 = some (SS, [])) : pImg (g :: n :: L2) = none := by
  show (pMany pSlot n.toNat L2).bind _ = none
  rw [h]; rfl
theorem no_snaps {g n h : UInt8} {L2 L4 lk : List UInt8} {k : Nat} {SS : List SlotD} {Sk : List SnapD} (hs : pMany pSlot n.toNat L2 = some (SS, h :: L4)) (hp : pMany pSnap k L4 = some (Sk, lk)) (h2 : pSnap lk = none) (hk : k < h.toNat) : pImg (g :: n :: L2) = none := by
  have := pMany_none (pMany_stop hp h2) h.toNat (by omega)
  show (pMany pSlot n.toNat L2).bind _ = none
  rw [hs]
  show (pMany pSnap h.toNat L4).bind _ = none
  rw [this]; rfl
theorem img_end {g n h : UInt8} {L2 L4 L5 : List UInt8} {SS : List SlotD} {NN : List SnapD} (hs : pMany pSlot n.toNat L2 = some (SS, h :: L4)) (hp : pMany pSnap h.toNat L4 = some (NN, L5)) : pImg (g :: n :: L2) = (pEnts ((g.toNat + 3) / 4) L5).map fun r => (⟨(g.toNat : Int), r.1, SS, [], NN⟩, r.2) := by
  show (pMany pSlot n.toNat L2).bind _ = _
  rw [hs]
  show (pMany pSnap h.toNat L4).bind _ = _
  rw [hp]; rfl
theorem RdT.toA {w X : World} {R : Nat} {l : List UInt8} {o : Obj} (h : RdT (w.alloc o) X R l) : RdT w X R l := by
  have hs := h.size
  have hz : (w.alloc o).heap.size = w.heap.size + 1 := by simp
  exact ⟨h.os, h.tape, h.output, by omega, fun q hq hn => (h.keep q (by omega) hn).trans (Below.heap_alloc _ _ q hq), h.box⟩
set_option maxHeartbeats 8000000 in
theorem image_is (R : Nat) (L : List UInt8) (w : World) (hb : w.heap[R]? = some (.cells #[.string (bstr (L))] 112)) (hm : L.length ≤ 4096) :
    Calls Try.prog 71 #[.pointer (some ⟨R, 0, none⟩)] w (ImgA w R L) := by
  have hRw : R < w.heap.size := (Array.getElem?_eq_some_iff.1 hb).1
  have hb1 : (w.alloc (.cells #[.int .i64 0, .slice none 0 0, .slice none 0 0, .slice none 0 0, .slice none 0 0] 26)).heap[R]? = some (.cells #[.string (bstr (L))] 112) := cells_alloc hb _
  obtain ⟨w1, hw1⟩ : ∃ X, w.alloc (.cells #[.int .i64 0, .slice none 0 0, .slice none 0 0, .slice none 0 0, .slice none 0 0] 26) = X := ⟨_, rfl⟩
  have z1 : w1.heap[w.heap.size]? = some (.cells #[.int .i64 0, .slice none 0 0, .slice none 0 0, .slice none 0 0, .slice none 0 0] 26) := by rw [← hw1]; exact World.alloc_heap_new _ _
  have s1 : w.heap.size < w1.heap.size := (Array.getElem?_eq_some_iff.1 z1).1
  have hR : R < w1.heap.size := by omega
  have HW1 : Hid (∀ X l, RdT w1 X R l → RdT w X R l) := fun X l h => by rw [← hw1] at h; exact h.toA
  rw [hw1] at hb1
  cases L with
  | nil =>
    have HN := Hid_mkG (rnum_bad R w1 hb1)
    clear hb
    go_enter Try.func71, Try.ntmps71
    go_wp2_with (go_at_call 90; refine HN.out.mono ?_; rintro e9 w9 ⟨rfl, hw⟩; rw [hw]; clear hw)
    exact ⟨rfl, Or.inr ⟨rfl, rfl, _, HW1.out _ _ (RdT.refl hb1)⟩⟩
  | cons g L1 =>
    have HN : Hid (Calls Try.prog 90 #[.pointer (some ⟨R, 0, none⟩)] w1 fun r W' => r = .returned (.int .i64 (g.toNat : Int)) ∧ RdT w1 W' R L1) := (rnum_ok R g L1 w1 hb1 (by simp at hm; omega)).mono fun r W' h => ⟨h.1, by rw [h.2]; exact (RdT.refl hb1).set _⟩
    have hm1 : L1.length < 4096 := by simp at hm; omega
    have hg := g.toNat_lt
    clear hb hm hb1
    go_enter Try.func71, Try.ntmps71
    go_upto_region 1 with fail
    try rw [hw1]
    clear hw1
    go_wp2_with fail
    refine HN.out.mono ?_
    rintro e9 wa ⟨rfl, Ta⟩
    clear HN
    have HMb := Hid_mkG (RdM.start Ta hR (g.toNat : Int))
    obtain ⟨D, hDe⟩ : ∃ X, wa.heap.size = X := ⟨_, rfl⟩
    have hD0 := Ta.size
    rw [hDe] at HMb hD0
    clear Ta
    cases L1 with
    | nil =>
      have HN := Hid_mkG (rnum_bad R _ HMb.out.t.box)
      go_upto_region 2 with fail
      go_wp2_with fail
      refine HN.out.mono ?_
      rintro e9 wc ⟨rfl, hw⟩
      rw [hw]
      clear hw
      exact ⟨rfl, Or.inr ⟨rfl, rfl, _, HW1.out _ _ HMb.out.t⟩⟩
    | cons n L2 =>
      have HN := Hid_mkG ((rnum_ok R n L2 _ HMb.out.t.box (by simp at hm1; omega)).mono fun r W' h => (show r = .returned (.int .i64 (n.toNat : Int)) ∧ RdM w1 W' R D L2 ⟨(g.toNat : Int), [], [], [], []⟩ from ⟨h.1, by rw [h.2]; exact HMb.out.read ((RdT.refl HMb.out.t.box).set _)⟩))
      have hm2 : L2.length ≤ 4096 := by simp at hm1; omega
      have hn := n.toNat_lt
      go_upto_region 2 with fail
      try rw [hDe]
      clear hm1
      go_wp2_with fail
      refine HN.out.mono ?_
      rintro e9 wc ⟨rfl, Mc⟩
      have Mc := Hid_mkG Mc
      clear HN HMb hDe
      go_wp2_with fail
      go_loopw [9] (fun i wr => ∃ k : Nat, k ≤ n.toNat ∧ i = .int .i64 k ∧ ∃ lk Sk, pMany pSlot k L2 = some (Sk, lk) ∧ Hid (RdM w1 wr R D lk (⟨(g.toNat : Int), [], Sk, [], []⟩ : ImgD))) (fun i _ => n.toNat - (intOf i).toNat)
      case atStart => exact ⟨0, Nat.zero_le _, rfl, L2, [], rfl, Mc⟩
      case round =>
        clear Mc
        obtain ⟨k, hk, rfl, lk, Sk, hpk, HM⟩ := hrel
        by_cases hlk : k < n.toNat
        · have hki : (k : Int) < (n.toNat : Int) := by omega
          have hle := pMany_le (f := pSlot) (fun l s r h => pSlot_le h) k Sk lk hpk
          have hlk4 : lk.length ≤ 4096 := by omega
          obtain ⟨wd, hwd⟩ : ∃ X, wr.drew = X := ⟨_, rfl⟩
          have HMd := HM.out.drew
          rw [hwd] at HMd
          obtain ⟨M, hMe⟩ : ∃ x, (⟨(g.toNat : Int), [], Sk, [], []⟩ : ImgD) = x := ⟨_, rfl⟩
          rw [hMe] at HMd
          obtain ⟨val, hX, hbox⟩ := HMd.ex
          have HT : Hid (RdT w1 wd R lk) := HMd.t
          have hD := HMd.hD
          have hDl : D < wd.heap.size := (Array.getElem?_eq_some_iff.1 hbox).1
          have hDR : D ≠ R := by omega
          obtain ⟨kn, hkn⟩ : ∃ x, M.slots.length = x := ⟨_, rfl⟩
          have hkn4 : kn ≤ 300 := by rw [← hkn, ← hMe]; show Sk.length ≤ 300; omega
          obtain ⟨pa, pc, hp, _⟩ := hX.forms .slots (LiveX.slots _)
          have hp : val .slots = .slice pa kn pc := by rw [hp]; show Value.slice pa M.slots.length pc = _; rw [hkn]
          have hrow := hX.row .slots (LiveX.slots _)
          have hrow : wd.ownsRow (D + 1) 60 3 (val .slots) M.slots.length (flatS M.slots (fun j => val (.tab j))) := hrow
          rw [hkn, hp] at hrow
          have HX : Hid (OX wd (D + 1) val M ∧ (val .slots = .slice pa kn pc ∧ M.slots.length = kn) ∧ some (.cells #[.int .i64 M.guest, val .root, val .slots, val .refs, val .snaps] 26) = some ((.cells #[.int .i64 M.guest, val .root, .slice pa kn pc, val .refs, val .snaps] 26) : Obj)) := ⟨hX, ⟨hp, hkn⟩, by rw [hp]⟩
          rw [hp] at hbox
          have HMe : Hid ((⟨(g.toNat : Int), [], Sk, [], []⟩ : ImgD) = M) := hMe
          clear hX hp hkn HMd hMe HM
          have hpk := Hid_mkG hpk
          cases hps : pSlot lk with
          | none =>
            have HCl := Hid_mkG (rslot_bad (W := wd) HT.out.box hlk4 hps)
            have HNo : Hid (pImg (g :: n :: L2) = none) := no_slots hpk.out hps hlk
            clear hle
            go_upto_region 4 with fail
            refine wp_region_held_drew (S := (fun X : World => True)) (by kernel_rfl) trivial (fun hHeld => ?_)
            refine wpAnyH_take (i := 0) (v := .pointer (some ⟨D, 2, none⟩)) rfl (by kernel_rfl) (by kernel_rfl) (by kernel_rfl) (fun _ _ _ h => h) (Or.inl ⟨by rfl, fun w' hSw => by go_simp⟩) hHeld ?_
            simp only [Act.put, List.getElem_toArray, List.getElem_cons_succ, List.getElem_cons_zero, List.setIfInBounds_toArray, List.set_cons_zero, List.set_cons_succ]
            refine wpAnyH_take (i := 2) (v := .pointer (some ⟨R, 0, none⟩)) rfl (by kernel_rfl) (by kernel_rfl) (by kernel_rfl) (fun _ _ _ h => h) (Or.inl ⟨by rfl, fun w' hSw => by go_simp⟩) hHeld ?_
            simp only [Act.put, List.getElem_toArray, List.getElem_cons_succ, List.getElem_cons_zero, List.setIfInBounds_toArray, List.set_cons_zero, List.set_cons_succ]
            first | rw [hwd] | skip
            refine wpAnyH_ready (rs := [1, 3]) (by kernel_rfl) (by simp) ?_
            refine AllReadyH.cons rfl (fun K hK => ?_) (AllReadyH.cons rfl (fun K hK => ?_) AllReadyH.nil)
            · clear hHeld
              simp only [Act.put, List.getElem_toArray, List.getElem_cons_succ, List.getElem_cons_zero, List.setIfInBounds_toArray, List.set_cons_zero, List.set_cons_succ]
              rw [if_pos (by rfl)]
              have bxx := hbox
              obtain ⟨v0, v1, v2, v3, v4⟩ := five bxx
              go_simp
              clear v0 v1 v2 v3 v4 bxx
              refine hK.out _ _ trivial (fun hHeld => ?_)
              clear hK K
              try simp only [Act.put, List.getElem_toArray, List.getElem_cons_succ, List.getElem_cons_zero, List.setIfInBounds_toArray, List.set_cons_zero, List.set_cons_succ]
              refine wpAnyH_ready (rs := [3]) (by kernel_rfl) (by simp) ?_
              refine AllReadyH.cons rfl (fun K hK => ?_) AllReadyH.nil
              clear hHeld
              simp only [Act.put, List.getElem_toArray, List.getElem_cons_succ, List.getElem_cons_zero, List.setIfInBounds_toArray, List.set_cons_zero, List.set_cons_succ]
              rw [if_pos (by rfl)]
              clear hK
              go_wp2_with (go_at_call 91; refine HCl.out.mono ?_; rintro e9 w6 ⟨rfl, l9, T6⟩; exact ⟨rfl, Or.inr ⟨HNo.out, rfl, l9, HW1.out _ _ (HT.out.trans T6)⟩⟩)

            · clear hHeld
              simp only [Act.put, List.getElem_toArray, List.getElem_cons_succ, List.getElem_cons_zero, List.setIfInBounds_toArray, List.set_cons_zero, List.set_cons_succ]
              rw [if_pos (by rfl)]
              clear hK
              go_wp2_with (go_at_call 91; refine HCl.out.mono ?_; rintro e9 w6 ⟨rfl, l9, T6⟩; exact ⟨rfl, Or.inr ⟨HNo.out, rfl, l9, HW1.out _ _ (HT.out.trans T6)⟩⟩)
          | some p =>
            obtain ⟨⟨s0, s1, es⟩, lr⟩ := p
            have HCl := Hid_mkG (show Calls Try.prog 91 #[.pointer (some ⟨R, 0, none⟩)] wd fun e W' => ∃ tv, e = .returned (.agg #[.int .i64 s0, .string s1, tv]) ∧ RdT wd W' R lr ∧ W'.ownsRow wd.heap.size 3 1 tv es.length (ints es) from rslot_ok (W := wd) HT.out.box hlk4 hps)
            have hps := Hid_mkG hps
            clear hle
            go_upto_region 4 with fail
            refine wp_region_held_drew (S := (fun X : World => True)) (by kernel_rfl) trivial (fun hHeld => ?_)
            refine wpAnyH_take (i := 0) (v := .pointer (some ⟨D, 2, none⟩)) rfl (by kernel_rfl) (by kernel_rfl) (by kernel_rfl) (fun _ _ _ h => h) (Or.inl ⟨by rfl, fun w' hSw => by go_simp⟩) hHeld ?_
            simp only [Act.put, List.getElem_toArray, List.getElem_cons_succ, List.getElem_cons_zero, List.setIfInBounds_toArray, List.set_cons_zero, List.set_cons_succ]
            refine wpAnyH_take (i := 2) (v := .pointer (some ⟨R, 0, none⟩)) rfl (by kernel_rfl) (by kernel_rfl) (by kernel_rfl) (fun _ _ _ h => h) (Or.inl ⟨by rfl, fun w' hSw => by go_simp⟩) hHeld ?_
            simp only [Act.put, List.getElem_toArray, List.getElem_cons_succ, List.getElem_cons_zero, List.setIfInBounds_toArray, List.set_cons_zero, List.set_cons_succ]
            first | rw [hwd] | skip
            refine wpAnyH_ready (rs := [1, 3]) (by kernel_rfl) (by simp) ?_
            refine AllReadyH.cons rfl (fun K hK => ?_) (AllReadyH.cons rfl (fun K hK => ?_) AllReadyH.nil)
            · clear hHeld
              simp only [Act.put, List.getElem_toArray, List.getElem_cons_succ, List.getElem_cons_zero, List.setIfInBounds_toArray, List.set_cons_zero, List.set_cons_succ]
              rw [if_pos (by rfl)]
              have bxx := hbox
              obtain ⟨v0, v1, v2, v3, v4⟩ := five bxx
              go_simp
              clear v0 v1 v2 v3 v4 bxx
              refine hK.out _ _ trivial (fun hHeld => ?_)
              clear hK K
              try simp only [Act.put, List.getElem_toArray, List.getElem_cons_succ, List.getElem_cons_zero, List.setIfInBounds_toArray, List.set_cons_zero, List.set_cons_succ]
              refine wpAnyH_ready (rs := [3]) (by kernel_rfl) (by simp) ?_
              refine AllReadyH.cons rfl (fun K hK => ?_) AllReadyH.nil
              clear hHeld
              simp only [Act.put, List.getElem_toArray, List.getElem_cons_succ, List.getElem_cons_zero, List.setIfInBounds_toArray, List.set_cons_zero, List.set_cons_succ]
              rw [if_pos (by rfl)]
              go_wp2_with (go_at_call 91; refine HCl.out.mono ?_; rintro e9 w6 ⟨tv, rfl, T6, r6⟩; obtain ⟨ta, tc, rfl⟩ := row_slice r6)
              have T6 := Hid_mkG T6
              have r6 := Hid_mkG r6
              have q6 : w6.heap[D]? = some (.cells #[.int .i64 M.guest, val .root, .slice pa kn pc, val .refs, val .snaps] 26) := (T6.out.keep D hDl hDR).trans hbox
              have s6 : wd.heap.size ≤ w6.heap.size := T6.out.size
              refine hK.out _ _ trivial (fun hHeld => ?_)
              clear hK K
              try simp only [Act.put, List.getElem_toArray, List.getElem_cons_succ, List.getElem_cons_zero, List.setIfInBounds_toArray, List.set_cons_zero, List.set_cons_succ]
              refine wpAnyH_ready (rs := [4]) (by kernel_rfl) (by simp) ?_
              refine AllReadyH.cons rfl (fun K hK => ?_) AllReadyH.nil
              clear hHeld
              simp only [Act.put, List.getElem_toArray, List.getElem_cons_succ, List.getElem_cons_zero, List.setIfInBounds_toArray, List.set_cons_zero, List.set_cons_succ]
              rw [if_pos (by rfl)]
              go_simp
              refine hK.out _ _ trivial (fun hHeld => ?_)
              clear hK K
              try simp only [Act.put, List.getElem_toArray, List.getElem_cons_succ, List.getElem_cons_zero, List.setIfInBounds_toArray, List.set_cons_zero, List.set_cons_succ]
              refine wpAnyH_ready (rs := [5]) (by kernel_rfl) (by simp) ?_
              refine AllReadyH.cons rfl (fun K hK => ?_) AllReadyH.nil
              clear hHeld
              simp only [Act.put, List.getElem_toArray, List.getElem_cons_succ, List.getElem_cons_zero, List.setIfInBounds_toArray, List.set_cons_zero, List.set_cons_succ]
              rw [if_pos (by rfl)]
              have hrow6 : w6.ownsRow (D + 1) 60 3 (.slice pa kn pc) kn (flatS M.slots (fun j => val (.tab j))) := row_blkS1L hrow (fun g e => T6.out.keep g (hrow.lt g e).2 (by have := (hrow.lt g e).1; omega))
              refine wp_app3 _ _ 23 60 _ Try.underlying23 infoSlot (by rfl) (by rfl) (B := D + 1) (v := .slice pa kn pc) (c0 := .int .i64 s0) (c1 := .string s1) (c2 := .slice ta es.length tc) (by rfl) (by rfl) (by rfl) (by rfl) (by rfl) (by simp) hrow6 (by omega) (by omega) ?_
              intro v1 w8 h1 h2 h3
              obtain ⟨g1, cap1, hv1⟩ := row_some h1.out
              subst hv1
              have z2 : w8.heap[D]? = some (.cells #[.int .i64 M.guest, val .root, .slice pa kn pc, val .refs, val .snaps] 26) := (h2.block D (by simp; omega) (fun e => by have := (hrow.lt D e.symm).1; omega)).trans (cells_alloc q6 _)
              have HN : Hid (RdM w1 (w8.setCell ⟨D, 2, none⟩ (.slice (some ⟨g1, 0, none⟩) (kn + 1) cap1)) R D lr { M with slots := M.slots ++ [(s0, s1, es)] }) := by
                have hX6 := (HX.out.1.keep (W' := w6) (fun g hg hl => T6.out.keep g hl (by omega)))
                have hr8 := row_monoL (row_blkS1L (W' := w6.alloc (.cells #[.int .i64 s0, .string s1, .slice ta es.length tc] 60)) r6.out (fun g e => Below.heap_alloc _ _ g (r6.out.lt g e).2)) (B' := D + 1) (by omega)
                refine RdM.slot (es := es) (kk := s0) (dd := s1) (ev := .slice ta es.length tc) ((HT.out.trans T6.out).alloc (.cells #[.int .i64 s0, .string s1, .slice ta es.length tc] 60)) hR hD (hX6.alloc _) ((cells_alloc q6 _).trans HX.out.2.2.symm) hr8 (farX_new HX.out.1 _ (fun g e => (r6.out.lt g e).1)) (by rw [HX.out.2.1.1]; exact h2) (by rw [HX.out.2.1.2]; exact h1.out) ?_
                rw [HX.out.2.1.1]
                rcases h3.out with x | x
                · exact .inl x
                · refine .inr (fun g e => ?_)
                  rw [x] at e
                  cases e
                  simp
              refine hK.out _ _ trivial (fun hHeld => ?_)
              clear hK K
              try simp only [Act.put, List.getElem_toArray, List.getElem_cons_succ, List.getElem_cons_zero, List.setIfInBounds_toArray, List.set_cons_zero, List.set_cons_succ]
              refine wpAnyH_take (i := 6) (v := .pointer (some ⟨D, 2, none⟩)) rfl (by kernel_rfl) (by kernel_rfl) (by kernel_rfl) (fun _ _ _ h => h) (Or.inl ⟨by rfl, fun w' hSw => by go_simp⟩) hHeld ?_
              simp only [Act.put, List.getElem_toArray, List.getElem_cons_succ, List.getElem_cons_zero, List.setIfInBounds_toArray, List.set_cons_zero, List.set_cons_succ]
              refine wpAnyH_ready (rs := [7]) (by kernel_rfl) (by simp) ?_
              refine AllReadyH.cons rfl (fun K hK => ?_) AllReadyH.nil
              clear hHeld
              simp only [Act.put, List.getElem_toArray, List.getElem_cons_succ, List.getElem_cons_zero, List.setIfInBounds_toArray, List.set_cons_zero, List.set_cons_succ]
              rw [if_pos (by rfl)]
              obtain ⟨v0, v1, v2, v3, v4⟩ := five z2
              have u3 := cells_frozen z2 2
              go_simp
              refine hK.out _ _ trivial (fun hHeld => ?_)
              clear hK K
              try simp only [Act.put, List.getElem_toArray, List.getElem_cons_succ, List.getElem_cons_zero, List.setIfInBounds_toArray, List.set_cons_zero, List.set_cons_succ]
              clear hHeld v0 v1 v2 v3 v4 u3
              refine wpAnyH_done (by kernel_rfl) ?_ _
              clear h1 h2 h3 z2 q6 hrow6 T6 r6
              go_wp2_with fail
              go_roundw
              case rel => exact ⟨k + 1, by omega, by go_num, lr, Sk ++ [(s0, s1, es)], pMany_next hpk.out hps.out, by rw [← HMe.out] at HN; exact HN⟩
              case measure => simp [intOf]; omega

            · clear hHeld
              simp only [Act.put, List.getElem_toArray, List.getElem_cons_succ, List.getElem_cons_zero, List.setIfInBounds_toArray, List.set_cons_zero, List.set_cons_succ]
              rw [if_pos (by rfl)]
              go_wp2_with (go_at_call 91; refine HCl.out.mono ?_; rintro e9 w6 ⟨tv, rfl, T6, r6⟩; obtain ⟨ta, tc, rfl⟩ := row_slice r6)
              have T6 := Hid_mkG T6
              have r6 := Hid_mkG r6
              have q6 : w6.heap[D]? = some (.cells #[.int .i64 M.guest, val .root, .slice pa kn pc, val .refs, val .snaps] 26) := (T6.out.keep D hDl hDR).trans hbox
              have s6 : wd.heap.size ≤ w6.heap.size := T6.out.size
              refine hK.out _ _ trivial (fun hHeld => ?_)
              clear hK K
              try simp only [Act.put, List.getElem_toArray, List.getElem_cons_succ, List.getElem_cons_zero, List.setIfInBounds_toArray, List.set_cons_zero, List.set_cons_succ]
              refine wpAnyH_ready (rs := [1, 4]) (by kernel_rfl) (by simp) ?_
              refine AllReadyH.cons rfl (fun K hK => ?_) (AllReadyH.cons rfl (fun K hK => ?_) AllReadyH.nil)
              · clear hHeld
                simp only [Act.put, List.getElem_toArray, List.getElem_cons_succ, List.getElem_cons_zero, List.setIfInBounds_toArray, List.set_cons_zero, List.set_cons_succ]
                rw [if_pos (by rfl)]
                have bxx := q6
                obtain ⟨v0, v1, v2, v3, v4⟩ := five bxx
                go_simp
                clear v0 v1 v2 v3 v4 bxx
                refine hK.out _ _ trivial (fun hHeld => ?_)
                clear hK K
                try simp only [Act.put, List.getElem_toArray, List.getElem_cons_succ, List.getElem_cons_zero, List.setIfInBounds_toArray, List.set_cons_zero, List.set_cons_succ]
                refine wpAnyH_ready (rs := [4]) (by kernel_rfl) (by simp) ?_
                refine AllReadyH.cons rfl (fun K hK => ?_) AllReadyH.nil
                clear hHeld
                simp only [Act.put, List.getElem_toArray, List.getElem_cons_succ, List.getElem_cons_zero, List.setIfInBounds_toArray, List.set_cons_zero, List.set_cons_succ]
                rw [if_pos (by rfl)]
                go_simp
                refine hK.out _ _ trivial (fun hHeld => ?_)
                clear hK K
                try simp only [Act.put, List.getElem_toArray, List.getElem_cons_succ, List.getElem_cons_zero, List.setIfInBounds_toArray, List.set_cons_zero, List.set_cons_succ]
                refine wpAnyH_ready (rs := [5]) (by kernel_rfl) (by simp) ?_
                refine AllReadyH.cons rfl (fun K hK => ?_) AllReadyH.nil
                clear hHeld
                simp only [Act.put, List.getElem_toArray, List.getElem_cons_succ, List.getElem_cons_zero, List.setIfInBounds_toArray, List.set_cons_zero, List.set_cons_succ]
                rw [if_pos (by rfl)]
                have hrow6 : w6.ownsRow (D + 1) 60 3 (.slice pa kn pc) kn (flatS M.slots (fun j => val (.tab j))) := row_blkS1L hrow (fun g e => T6.out.keep g (hrow.lt g e).2 (by have := (hrow.lt g e).1; omega))
                refine wp_app3 _ _ 23 60 _ Try.underlying23 infoSlot (by rfl) (by rfl) (B := D + 1) (v := .slice pa kn pc) (c0 := .int .i64 s0) (c1 := .string s1) (c2 := .slice ta es.length tc) (by rfl) (by rfl) (by rfl) (by rfl) (by rfl) (by simp) hrow6 (by omega) (by omega) ?_
                intro v1 w8 h1 h2 h3
                obtain ⟨g1, cap1, hv1⟩ := row_some h1.out
                subst hv1
                have z2 : w8.heap[D]? = some (.cells #[.int .i64 M.guest, val .root, .slice pa kn pc, val .refs, val .snaps] 26) := (h2.block D (by simp; omega) (fun e => by have := (hrow.lt D e.symm).1; omega)).trans (cells_alloc q6 _)
                have HN : Hid (RdM w1 (w8.setCell ⟨D, 2, none⟩ (.slice (some ⟨g1, 0, none⟩) (kn + 1) cap1)) R D lr { M with slots := M.slots ++ [(s0, s1, es)] }) := by
                  have hX6 := (HX.out.1.keep (W' := w6) (fun g hg hl => T6.out.keep g hl (by omega)))
                  have hr8 := row_monoL (row_blkS1L (W' := w6.alloc (.cells #[.int .i64 s0, .string s1, .slice ta es.length tc] 60)) r6.out (fun g e => Below.heap_alloc _ _ g (r6.out.lt g e).2)) (B' := D + 1) (by omega)
                  refine RdM.slot (es := es) (kk := s0) (dd := s1) (ev := .slice ta es.length tc) ((HT.out.trans T6.out).alloc (.cells #[.int .i64 s0, .string s1, .slice ta es.length tc] 60)) hR hD (hX6.alloc _) ((cells_alloc q6 _).trans HX.out.2.2.symm) hr8 (farX_new HX.out.1 _ (fun g e => (r6.out.lt g e).1)) (by rw [HX.out.2.1.1]; exact h2) (by rw [HX.out.2.1.2]; exact h1.out) ?_
                  rw [HX.out.2.1.1]
                  rcases h3.out with x | x
                  · exact .inl x
                  · refine .inr (fun g e => ?_)
                    rw [x] at e
                    cases e
                    simp
                refine hK.out _ _ trivial (fun hHeld => ?_)
                clear hK K
                try simp only [Act.put, List.getElem_toArray, List.getElem_cons_succ, List.getElem_cons_zero, List.setIfInBounds_toArray, List.set_cons_zero, List.set_cons_succ]
                refine wpAnyH_take (i := 6) (v := .pointer (some ⟨D, 2, none⟩)) rfl (by kernel_rfl) (by kernel_rfl) (by kernel_rfl) (fun _ _ _ h => h) (Or.inl ⟨by rfl, fun w' hSw => by go_simp⟩) hHeld ?_
                simp only [Act.put, List.getElem_toArray, List.getElem_cons_succ, List.getElem_cons_zero, List.setIfInBounds_toArray, List.set_cons_zero, List.set_cons_succ]
                refine wpAnyH_ready (rs := [7]) (by kernel_rfl) (by simp) ?_
                refine AllReadyH.cons rfl (fun K hK => ?_) AllReadyH.nil
                clear hHeld
                simp only [Act.put, List.getElem_toArray, List.getElem_cons_succ, List.getElem_cons_zero, List.setIfInBounds_toArray, List.set_cons_zero, List.set_cons_succ]
                rw [if_pos (by rfl)]
                obtain ⟨v0, v1, v2, v3, v4⟩ := five z2
                have u3 := cells_frozen z2 2
                go_simp
                refine hK.out _ _ trivial (fun hHeld => ?_)
                clear hK K
                try simp only [Act.put, List.getElem_toArray, List.getElem_cons_succ, List.getElem_cons_zero, List.setIfInBounds_toArray, List.set_cons_zero, List.set_cons_succ]
                clear hHeld v0 v1 v2 v3 v4 u3
                refine wpAnyH_done (by kernel_rfl) ?_ _
                clear h1 h2 h3 z2 q6 hrow6 T6 r6
                go_wp2_with fail
                go_roundw
                case rel => exact ⟨k + 1, by omega, by go_num, lr, Sk ++ [(s0, s1, es)], pMany_next hpk.out hps.out, by rw [← HMe.out] at HN; exact HN⟩
                case measure => simp [intOf]; omega

              · clear hHeld
                simp only [Act.put, List.getElem_toArray, List.getElem_cons_succ, List.getElem_cons_zero, List.setIfInBounds_toArray, List.set_cons_zero, List.set_cons_succ]
                rw [if_pos (by rfl)]
                go_simp
                refine hK.out _ _ trivial (fun hHeld => ?_)
                clear hK K
                try simp only [Act.put, List.getElem_toArray, List.getElem_cons_succ, List.getElem_cons_zero, List.setIfInBounds_toArray, List.set_cons_zero, List.set_cons_succ]
                refine wpAnyH_ready (rs := [1]) (by kernel_rfl) (by simp) ?_
                refine AllReadyH.cons rfl (fun K hK => ?_) AllReadyH.nil
                clear hHeld
                simp only [Act.put, List.getElem_toArray, List.getElem_cons_succ, List.getElem_cons_zero, List.setIfInBounds_toArray, List.set_cons_zero, List.set_cons_succ]
                rw [if_pos (by rfl)]
                have bxx := cells_alloc q6 (.cells #[.int .i64 s0, .string s1, .slice ta es.length tc] 60)
                obtain ⟨v0, v1, v2, v3, v4⟩ := five bxx
                go_simp
                clear v0 v1 v2 v3 v4 bxx
                refine hK.out _ _ trivial (fun hHeld => ?_)
                clear hK K
                try simp only [Act.put, List.getElem_toArray, List.getElem_cons_succ, List.getElem_cons_zero, List.setIfInBounds_toArray, List.set_cons_zero, List.set_cons_succ]
                refine wpAnyH_ready (rs := [5]) (by kernel_rfl) (by simp) ?_
                refine AllReadyH.cons rfl (fun K hK => ?_) AllReadyH.nil
                clear hHeld
                simp only [Act.put, List.getElem_toArray, List.getElem_cons_succ, List.getElem_cons_zero, List.setIfInBounds_toArray, List.set_cons_zero, List.set_cons_succ]
                rw [if_pos (by rfl)]
                have hrow6 : w6.ownsRow (D + 1) 60 3 (.slice pa kn pc) kn (flatS M.slots (fun j => val (.tab j))) := row_blkS1L hrow (fun g e => T6.out.keep g (hrow.lt g e).2 (by have := (hrow.lt g e).1; omega))
                refine wp_app3 _ _ 23 60 _ Try.underlying23 infoSlot (by rfl) (by rfl) (B := D + 1) (v := .slice pa kn pc) (c0 := .int .i64 s0) (c1 := .string s1) (c2 := .slice ta es.length tc) (by rfl) (by rfl) (by rfl) (by rfl) (by rfl) (by simp) hrow6 (by omega) (by omega) ?_
                intro v1 w8 h1 h2 h3
                obtain ⟨g1, cap1, hv1⟩ := row_some h1.out
                subst hv1
                have z2 : w8.heap[D]? = some (.cells #[.int .i64 M.guest, val .root, .slice pa kn pc, val .refs, val .snaps] 26) := (h2.block D (by simp; omega) (fun e => by have := (hrow.lt D e.symm).1; omega)).trans (cells_alloc q6 _)
                have HN : Hid (RdM w1 (w8.setCell ⟨D, 2, none⟩ (.slice (some ⟨g1, 0, none⟩) (kn + 1) cap1)) R D lr { M with slots := M.slots ++ [(s0, s1, es)] }) := by
                  have hX6 := (HX.out.1.keep (W' := w6) (fun g hg hl => T6.out.keep g hl (by omega)))
                  have hr8 := row_monoL (row_blkS1L (W' := w6.alloc (.cells #[.int .i64 s0, .string s1, .slice ta es.length tc] 60)) r6.out (fun g e => Below.heap_alloc _ _ g (r6.out.lt g e).2)) (B' := D + 1) (by omega)
                  refine RdM.slot (es := es) (kk := s0) (dd := s1) (ev := .slice ta es.length tc) ((HT.out.trans T6.out).alloc (.cells #[.int .i64 s0, .string s1, .slice ta es.length tc] 60)) hR hD (hX6.alloc _) ((cells_alloc q6 _).trans HX.out.2.2.symm) hr8 (farX_new HX.out.1 _ (fun g e => (r6.out.lt g e).1)) (by rw [HX.out.2.1.1]; exact h2) (by rw [HX.out.2.1.2]; exact h1.out) ?_
                  rw [HX.out.2.1.1]
                  rcases h3.out with x | x
                  · exact .inl x
                  · refine .inr (fun g e => ?_)
                    rw [x] at e
                    cases e
                    simp
                refine hK.out _ _ trivial (fun hHeld => ?_)
                clear hK K
                try simp only [Act.put, List.getElem_toArray, List.getElem_cons_succ, List.getElem_cons_zero, List.setIfInBounds_toArray, List.set_cons_zero, List.set_cons_succ]
                refine wpAnyH_take (i := 6) (v := .pointer (some ⟨D, 2, none⟩)) rfl (by kernel_rfl) (by kernel_rfl) (by kernel_rfl) (fun _ _ _ h => h) (Or.inl ⟨by rfl, fun w' hSw => by go_simp⟩) hHeld ?_
                simp only [Act.put, List.getElem_toArray, List.getElem_cons_succ, List.getElem_cons_zero, List.setIfInBounds_toArray, List.set_cons_zero, List.set_cons_succ]
                refine wpAnyH_ready (rs := [7]) (by kernel_rfl) (by simp) ?_
                refine AllReadyH.cons rfl (fun K hK => ?_) AllReadyH.nil
                clear hHeld
                simp only [Act.put, List.getElem_toArray, List.getElem_cons_succ, List.getElem_cons_zero, List.setIfInBounds_toArray, List.set_cons_zero, List.set_cons_succ]
                rw [if_pos (by rfl)]
                obtain ⟨v0, v1, v2, v3, v4⟩ := five z2
                have u3 := cells_frozen z2 2
                go_simp
                refine hK.out _ _ trivial (fun hHeld => ?_)
                clear hK K
                try simp only [Act.put, List.getElem_toArray, List.getElem_cons_succ, List.getElem_cons_zero, List.setIfInBounds_toArray, List.set_cons_zero, List.set_cons_succ]
                clear hHeld v0 v1 v2 v3 v4 u3
                refine wpAnyH_done (by kernel_rfl) ?_ _
                clear h1 h2 h3 z2 q6 hrow6 T6 r6
                go_wp2_with fail
                go_roundw
                case rel => exact ⟨k + 1, by omega, by go_num, lr, Sk ++ [(s0, s1, es)], pMany_next hpk.out hps.out, by rw [← HMe.out] at HN; exact HN⟩
                case measure => simp [intOf]; omega

        · have hki : ¬ (k : Int) < (n.toNat : Int) := by omega
          have ek : k = n.toNat := by omega
          subst ek
          obtain ⟨SS, hSe⟩ : ∃ X, Sk = X := ⟨_, rfl⟩
          subst hSe
          have hle := pMany_le (f := pSlot) (fun l s r h => pSlot_le h) _ _ lk hpk
          obtain ⟨wv, hv⟩ : ∃ X, X = wr := ⟨_, rfl⟩
          subst hv
          cases lk with
          | nil =>
            have HN := Hid_mkG (rnum_bad R _ HM.out.t.box)
            have HNo : Hid (pImg (g :: n :: L2) = none) := no_count hpk
            clear hle hpk
            go_wp2_with fail
            refine HN.out.mono ?_
            rintro e9 wd ⟨rfl, hw⟩
            rw [hw]
            clear hw
            exact ⟨rfl, Or.inr ⟨HNo.out, rfl, _, HW1.out _ _ HM.out.t⟩⟩
          | cons h L4 =>
            have hh := h.toNat_lt
            have hm4 : L4.length < 4096 := by have := hle.1; simp at this; omega
            have HN := Hid_mkG ((rnum_ok R h L4 _ HM.out.t.box hm4).mono fun r W' q => (show r = .returned (.int .i64 (h.toNat : Int)) ∧ RdM w1 W' R D L4 ⟨(g.toNat : Int), [], Sk, [], []⟩ from ⟨q.1, by rw [q.2]; exact HM.out.read ((RdT.refl HM.out.t.box).set _)⟩))
            have hSS := Hid_mkG hpk
            clear hle hpk HM
            go_wp2_with fail
            refine HN.out.mono ?_
            rintro e9 wx ⟨rfl, Mx⟩
            have Mx := Hid_mkG Mx
            clear HN
            obtain ⟨SS, hSe⟩ : ∃ X, X = Sk := ⟨_, rfl⟩
            subst hSe
            go_wp2_with fail
            go_loopw [21] (fun i wr => ∃ k : Nat, k ≤ h.toNat ∧ i = .int .i64 k ∧ ∃ lk Sk, pMany pSnap k L4 = some (Sk, lk) ∧ Hid (RdM w1 wr R D lk (⟨(g.toNat : Int), [], SS, [], Sk⟩ : ImgD))) (fun i _ => h.toNat - (intOf i).toNat)
            case atStart => exact ⟨0, Nat.zero_le _, rfl, L4, [], rfl, Mx⟩
            case round =>
              clear Mx
              obtain ⟨k, hk, rfl, lk, Sk, hpk, HM⟩ := hrel
              by_cases hlk : k < h.toNat
              · have hki : (k : Int) < (h.toNat : Int) := by omega
                have hle := pMany_le (f := pSnap) (fun l s r h => pSnap_le h) k Sk lk hpk
                have hlk4 : lk.length ≤ 4096 := by omega
                obtain ⟨wd, hwd⟩ : ∃ X, wr.drew = X := ⟨_, rfl⟩
                have HMd := HM.out.drew
                rw [hwd] at HMd
                obtain ⟨M, hMe⟩ : ∃ x, (⟨(g.toNat : Int), [], SS, [], Sk⟩ : ImgD) = x := ⟨_, rfl⟩
                rw [hMe] at HMd
                obtain ⟨val, hX, hbox⟩ := HMd.ex
                have HT : Hid (RdT w1 wd R lk) := HMd.t
                have hD := HMd.hD
                have hDl : D < wd.heap.size := (Array.getElem?_eq_some_iff.1 hbox).1
                have hDR : D ≠ R := by omega
                obtain ⟨kn, hkn⟩ : ∃ x, M.snaps.length = x := ⟨_, rfl⟩
                have hkn4 : kn ≤ 300 := by rw [← hkn, ← hMe]; show Sk.length ≤ 300; omega
                obtain ⟨pa, pc, hp, _⟩ := hX.forms .snaps (LiveX.snaps _)
                have hp : val .snaps = .slice pa kn pc := by rw [hp]; show Value.slice pa M.snaps.length pc = _; rw [hkn]
                have hrow := hX.row .snaps (LiveX.snaps _)
                have hrow : wd.ownsRow (D + 1) 74 3 (val .snaps) M.snaps.length (flatN M.snaps (fun j => val (.sr j))) := hrow
                rw [hkn, hp] at hrow
                have HX : Hid (OX wd (D + 1) val M ∧ (val .snaps = .slice pa kn pc ∧ M.snaps.length = kn) ∧ some (.cells #[.int .i64 M.guest, val .root, val .slots, val .refs, val .snaps] 26) = some ((.cells #[.int .i64 M.guest, val .root, val .slots, val .refs, .slice pa kn pc] 26) : Obj)) := ⟨hX, ⟨hp, hkn⟩, by rw [hp]⟩
                rw [hp] at hbox
                have HMe : Hid ((⟨(g.toNat : Int), [], SS, [], Sk⟩ : ImgD) = M) := hMe
                clear hX hp hkn HMd hMe HM
                have hpk := Hid_mkG hpk
                cases hps : pSnap lk with
                | none =>
                  have HCl := Hid_mkG (rsnap_bad (W := wd) HT.out.box hlk4 hps)
                  have HNo : Hid (pImg (g :: n :: L2) = none) := no_snaps hSS.out hpk.out hps hlk
                  clear hle
                  go_upto_region 8 with fail
                  refine wp_region_held_drew (S := (fun X : World => True)) (by kernel_rfl) trivial (fun hHeld => ?_)
                  refine wpAnyH_take (i := 0) (v := .pointer (some ⟨D, 4, none⟩)) rfl (by kernel_rfl) (by kernel_rfl) (by kernel_rfl) (fun _ _ _ h => h) (Or.inl ⟨by rfl, fun w' hSw => by go_simp⟩) hHeld ?_
                  simp only [Act.put, List.getElem_toArray, List.getElem_cons_succ, List.getElem_cons_zero, List.setIfInBounds_toArray, List.set_cons_zero, List.set_cons_succ]
                  refine wpAnyH_take (i := 2) (v := .pointer (some ⟨R, 0, none⟩)) rfl (by kernel_rfl) (by kernel_rfl) (by kernel_rfl) (fun _ _ _ h => h) (Or.inl ⟨by rfl, fun w' hSw => by go_simp⟩) hHeld ?_
                  simp only [Act.put, List.getElem_toArray, List.getElem_cons_succ, List.getElem_cons_zero, List.setIfInBounds_toArray, List.set_cons_zero, List.set_cons_succ]
                  first | rw [hwd] | skip
                  refine wpAnyH_ready (rs := [1, 3]) (by kernel_rfl) (by simp) ?_
                  refine AllReadyH.cons rfl (fun K hK => ?_) (AllReadyH.cons rfl (fun K hK => ?_) AllReadyH.nil)
                  · clear hHeld
                    simp only [Act.put, List.getElem_toArray, List.getElem_cons_succ, List.getElem_cons_zero, List.setIfInBounds_toArray, List.set_cons_zero, List.set_cons_succ]
                    rw [if_pos (by rfl)]
                    have bxx := hbox
                    obtain ⟨v0, v1, v2, v3, v4⟩ := five bxx
                    go_simp
                    clear v0 v1 v2 v3 v4 bxx
                    refine hK.out _ _ trivial (fun hHeld => ?_)
                    clear hK K
                    try simp only [Act.put, List.getElem_toArray, List.getElem_cons_succ, List.getElem_cons_zero, List.setIfInBounds_toArray, List.set_cons_zero, List.set_cons_succ]
                    refine wpAnyH_ready (rs := [3]) (by kernel_rfl) (by simp) ?_
                    refine AllReadyH.cons rfl (fun K hK => ?_) AllReadyH.nil
                    clear hHeld
                    simp only [Act.put, List.getElem_toArray, List.getElem_cons_succ, List.getElem_cons_zero, List.setIfInBounds_toArray, List.set_cons_zero, List.set_cons_succ]
                    rw [if_pos (by rfl)]
                    clear hK
                    go_wp2_with (go_at_call 92; refine HCl.out.mono ?_; rintro e9 w6 ⟨rfl, l9, T6⟩; exact ⟨rfl, Or.inr ⟨HNo.out, rfl, l9, HW1.out _ _ (HT.out.trans T6)⟩⟩)

                  · clear hHeld
                    simp only [Act.put, List.getElem_toArray, List.getElem_cons_succ, List.getElem_cons_zero, List.setIfInBounds_toArray, List.set_cons_zero, List.set_cons_succ]
                    rw [if_pos (by rfl)]
                    clear hK
                    go_wp2_with (go_at_call 92; refine HCl.out.mono ?_; rintro e9 w6 ⟨rfl, l9, T6⟩; exact ⟨rfl, Or.inr ⟨HNo.out, rfl, l9, HW1.out _ _ (HT.out.trans T6)⟩⟩)
                | some p =>
                  obtain ⟨⟨s0, s1, es⟩, lr⟩ := p
                  have HCl := Hid_mkG (show Calls Try.prog 92 #[.pointer (some ⟨R, 0, none⟩)] wd fun e W' => ∃ tv, e = .returned (.agg #[.string s0, .int .i64 s1, tv]) ∧ RdT wd W' R lr ∧ W'.ownsRow wd.heap.size 3 1 tv es.length (ints es) from rsnap_ok (W := wd) HT.out.box hlk4 hps)
                  have hps := Hid_mkG hps
                  clear hle
                  go_upto_region 8 with fail
                  refine wp_region_held_drew (S := (fun X : World => True)) (by kernel_rfl) trivial (fun hHeld => ?_)
                  refine wpAnyH_take (i := 0) (v := .pointer (some ⟨D, 4, none⟩)) rfl (by kernel_rfl) (by kernel_rfl) (by kernel_rfl) (fun _ _ _ h => h) (Or.inl ⟨by rfl, fun w' hSw => by go_simp⟩) hHeld ?_
                  simp only [Act.put, List.getElem_toArray, List.getElem_cons_succ, List.getElem_cons_zero, List.setIfInBounds_toArray, List.set_cons_zero, List.set_cons_succ]
                  refine wpAnyH_take (i := 2) (v := .pointer (some ⟨R, 0, none⟩)) rfl (by kernel_rfl) (by kernel_rfl) (by kernel_rfl) (fun _ _ _ h => h) (Or.inl ⟨by rfl, fun w' hSw => by go_simp⟩) hHeld ?_
                  simp only [Act.put, List.getElem_toArray, List.getElem_cons_succ, List.getElem_cons_zero, List.setIfInBounds_toArray, List.set_cons_zero, List.set_cons_succ]
                  first | rw [hwd] | skip
                  refine wpAnyH_ready (rs := [1, 3]) (by kernel_rfl) (by simp) ?_
                  refine AllReadyH.cons rfl (fun K hK => ?_) (AllReadyH.cons rfl (fun K hK => ?_) AllReadyH.nil)
                  · clear hHeld
                    simp only [Act.put, List.getElem_toArray, List.getElem_cons_succ, List.getElem_cons_zero, List.setIfInBounds_toArray, List.set_cons_zero, List.set_cons_succ]
                    rw [if_pos (by rfl)]
                    have bxx := hbox
                    obtain ⟨v0, v1, v2, v3, v4⟩ := five bxx
                    go_simp
                    clear v0 v1 v2 v3 v4 bxx
                    refine hK.out _ _ trivial (fun hHeld => ?_)
                    clear hK K
                    try simp only [Act.put, List.getElem_toArray, List.getElem_cons_succ, List.getElem_cons_zero, List.setIfInBounds_toArray, List.set_cons_zero, List.set_cons_succ]
                    refine wpAnyH_ready (rs := [3]) (by kernel_rfl) (by simp) ?_
                    refine AllReadyH.cons rfl (fun K hK => ?_) AllReadyH.nil
                    clear hHeld
                    simp only [Act.put, List.getElem_toArray, List.getElem_cons_succ, List.getElem_cons_zero, List.setIfInBounds_toArray, List.set_cons_zero, List.set_cons_succ]
                    rw [if_pos (by rfl)]
                    go_wp2_with (go_at_call 92; refine HCl.out.mono ?_; rintro e9 w6 ⟨tv, rfl, T6, r6⟩; obtain ⟨ta, tc, rfl⟩ := row_slice r6)
                    have T6 := Hid_mkG T6
                    have r6 := Hid_mkG r6
                    have q6 : w6.heap[D]? = some (.cells #[.int .i64 M.guest, val .root, val .slots, val .refs, .slice pa kn pc] 26) := (T6.out.keep D hDl hDR).trans hbox
                    have s6 : wd.heap.size ≤ w6.heap.size := T6.out.size
                    refine hK.out _ _ trivial (fun hHeld => ?_)
                    clear hK K
                    try simp only [Act.put, List.getElem_toArray, List.getElem_cons_succ, List.getElem_cons_zero, List.setIfInBounds_toArray, List.set_cons_zero, List.set_cons_succ]
                    refine wpAnyH_ready (rs := [4]) (by kernel_rfl) (by simp) ?_
                    refine AllReadyH.cons rfl (fun K hK => ?_) AllReadyH.nil
                    clear hHeld
                    simp only [Act.put, List.getElem_toArray, List.getElem_cons_succ, List.getElem_cons_zero, List.setIfInBounds_toArray, List.set_cons_zero, List.set_cons_succ]
                    rw [if_pos (by rfl)]
                    go_simp
                    refine hK.out _ _ trivial (fun hHeld => ?_)
                    clear hK K
                    try simp only [Act.put, List.getElem_toArray, List.getElem_cons_succ, List.getElem_cons_zero, List.setIfInBounds_toArray, List.set_cons_zero, List.set_cons_succ]
                    refine wpAnyH_ready (rs := [5]) (by kernel_rfl) (by simp) ?_
                    refine AllReadyH.cons rfl (fun K hK => ?_) AllReadyH.nil
                    clear hHeld
                    simp only [Act.put, List.getElem_toArray, List.getElem_cons_succ, List.getElem_cons_zero, List.setIfInBounds_toArray, List.set_cons_zero, List.set_cons_succ]
                    rw [if_pos (by rfl)]
                    have hrow6 : w6.ownsRow (D + 1) 74 3 (.slice pa kn pc) kn (flatN M.snaps (fun j => val (.sr j))) := row_blkS1L hrow (fun g e => T6.out.keep g (hrow.lt g e).2 (by have := (hrow.lt g e).1; omega))
                    refine wp_app3 _ _ 24 74 _ Try.underlying24 infoSnap (by rfl) (by rfl) (B := D + 1) (v := .slice pa kn pc) (c0 := .string s0) (c1 := .int .i64 s1) (c2 := .slice ta es.length tc) (by rfl) (by rfl) (by rfl) (by rfl) (by rfl) (by simp) hrow6 (by omega) (by omega) ?_
                    intro v1 w8 h1 h2 h3
                    obtain ⟨g1, cap1, hv1⟩ := row_some h1.out
                    subst hv1
                    have z2 : w8.heap[D]? = some (.cells #[.int .i64 M.guest, val .root, val .slots, val .refs, .slice pa kn pc] 26) := (h2.block D (by simp; omega) (fun e => by have := (hrow.lt D e.symm).1; omega)).trans (cells_alloc q6 _)
                    have HN : Hid (RdM w1 (w8.setCell ⟨D, 4, none⟩ (.slice (some ⟨g1, 0, none⟩) (kn + 1) cap1)) R D lr { M with snaps := M.snaps ++ [(s0, s1, es)] }) := by
                      have hX6 := (HX.out.1.keep (W' := w6) (fun g hg hl => T6.out.keep g hl (by omega)))
                      have hr8 := row_monoL (row_blkS1L (W' := w6.alloc (.cells #[.string s0, .int .i64 s1, .slice ta es.length tc] 74)) r6.out (fun g e => Below.heap_alloc _ _ g (r6.out.lt g e).2)) (B' := D + 1) (by omega)
                      refine RdM.snap (es := es) (kk := s1) (dd := s0) (ev := .slice ta es.length tc) ((HT.out.trans T6.out).alloc (.cells #[.string s0, .int .i64 s1, .slice ta es.length tc] 74)) hR hD (hX6.alloc _) ((cells_alloc q6 _).trans HX.out.2.2.symm) hr8 (farX_new HX.out.1 _ (fun g e => (r6.out.lt g e).1)) (by rw [HX.out.2.1.1]; exact h2) (by rw [HX.out.2.1.2]; exact h1.out) ?_
                      rw [HX.out.2.1.1]
                      rcases h3.out with x | x
                      · exact .inl x
                      · refine .inr (fun g e => ?_)
                        rw [x] at e
                        cases e
                        simp
                    refine hK.out _ _ trivial (fun hHeld => ?_)
                    clear hK K
                    try simp only [Act.put, List.getElem_toArray, List.getElem_cons_succ, List.getElem_cons_zero, List.setIfInBounds_toArray, List.set_cons_zero, List.set_cons_succ]
                    refine wpAnyH_take (i := 6) (v := .pointer (some ⟨D, 4, none⟩)) rfl (by kernel_rfl) (by kernel_rfl) (by kernel_rfl) (fun _ _ _ h => h) (Or.inl ⟨by rfl, fun w' hSw => by go_simp⟩) hHeld ?_
                    simp only [Act.put, List.getElem_toArray, List.getElem_cons_succ, List.getElem_cons_zero, List.setIfInBounds_toArray, List.set_cons_zero, List.set_cons_succ]
                    refine wpAnyH_ready (rs := [7]) (by kernel_rfl) (by simp) ?_
                    refine AllReadyH.cons rfl (fun K hK => ?_) AllReadyH.nil
                    clear hHeld
                    simp only [Act.put, List.getElem_toArray, List.getElem_cons_succ, List.getElem_cons_zero, List.setIfInBounds_toArray, List.set_cons_zero, List.set_cons_succ]
                    rw [if_pos (by rfl)]
                    obtain ⟨v0, v1, v2, v3, v4⟩ := five z2
                    have u3 := cells_frozen z2 4
                    go_simp
                    refine hK.out _ _ trivial (fun hHeld => ?_)
                    clear hK K
                    try simp only [Act.put, List.getElem_toArray, List.getElem_cons_succ, List.getElem_cons_zero, List.setIfInBounds_toArray, List.set_cons_zero, List.set_cons_succ]
                    clear hHeld v0 v1 v2 v3 v4 u3
                    refine wpAnyH_done (by kernel_rfl) ?_ _
                    clear h1 h2 h3 z2 q6 hrow6 T6 r6
                    go_wp2_with fail
                    go_roundw
                    case rel => exact ⟨k + 1, by omega, by go_num, lr, Sk ++ [(s0, s1, es)], pMany_next hpk.out hps.out, by rw [← HMe.out] at HN; exact HN⟩
                    case measure => simp [intOf]; omega

                  · clear hHeld
                    simp only [Act.put, List.getElem_toArray, List.getElem_cons_succ, List.getElem_cons_zero, List.setIfInBounds_toArray, List.set_cons_zero, List.set_cons_succ]
                    rw [if_pos (by rfl)]
                    go_wp2_with (go_at_call 92; refine HCl.out.mono ?_; rintro e9 w6 ⟨tv, rfl, T6, r6⟩; obtain ⟨ta, tc, rfl⟩ := row_slice r6)
                    have T6 := Hid_mkG T6
                    have r6 := Hid_mkG r6
                    have q6 : w6.heap[D]? = some (.cells #[.int .i64 M.guest, val .root, val .slots, val .refs, .slice pa kn pc] 26) := (T6.out.keep D hDl hDR).trans hbox
                    have s6 : wd.heap.size ≤ w6.heap.size := T6.out.size
                    refine hK.out _ _ trivial (fun hHeld => ?_)
                    clear hK K
                    try simp only [Act.put, List.getElem_toArray, List.getElem_cons_succ, List.getElem_cons_zero, List.setIfInBounds_toArray, List.set_cons_zero, List.set_cons_succ]
                    refine wpAnyH_ready (rs := [1, 4]) (by kernel_rfl) (by simp) ?_
                    refine AllReadyH.cons rfl (fun K hK => ?_) (AllReadyH.cons rfl (fun K hK => ?_) AllReadyH.nil)
                    · clear hHeld
                      simp only [Act.put, List.getElem_toArray, List.getElem_cons_succ, List.getElem_cons_zero, List.setIfInBounds_toArray, List.set_cons_zero, List.set_cons_succ]
                      rw [if_pos (by rfl)]
                      have bxx := q6
                      obtain ⟨v0, v1, v2, v3, v4⟩ := five bxx
                      go_simp
                      clear v0 v1 v2 v3 v4 bxx
                      refine hK.out _ _ trivial (fun hHeld => ?_)
                      clear hK K
                      try simp only [Act.put, List.getElem_toArray, List.getElem_cons_succ, List.getElem_cons_zero, List.setIfInBounds_toArray, List.set_cons_zero, List.set_cons_succ]
                      refine wpAnyH_ready (rs := [4]) (by kernel_rfl) (by simp) ?_
                      refine AllReadyH.cons rfl (fun K hK => ?_) AllReadyH.nil
                      clear hHeld
                      simp only [Act.put, List.getElem_toArray, List.getElem_cons_succ, List.getElem_cons_zero, List.setIfInBounds_toArray, List.set_cons_zero, List.set_cons_succ]
                      rw [if_pos (by rfl)]
                      go_simp
                      refine hK.out _ _ trivial (fun hHeld => ?_)
                      clear hK K
                      try simp only [Act.put, List.getElem_toArray, List.getElem_cons_succ, List.getElem_cons_zero, List.setIfInBounds_toArray, List.set_cons_zero, List.set_cons_succ]
                      refine wpAnyH_ready (rs := [5]) (by kernel_rfl) (by simp) ?_
                      refine AllReadyH.cons rfl (fun K hK => ?_) AllReadyH.nil
                      clear hHeld
                      simp only [Act.put, List.getElem_toArray, List.getElem_cons_succ, List.getElem_cons_zero, List.setIfInBounds_toArray, List.set_cons_zero, List.set_cons_succ]
                      rw [if_pos (by rfl)]
                      have hrow6 : w6.ownsRow (D + 1) 74 3 (.slice pa kn pc) kn (flatN M.snaps (fun j => val (.sr j))) := row_blkS1L hrow (fun g e => T6.out.keep g (hrow.lt g e).2 (by have := (hrow.lt g e).1; omega))
                      refine wp_app3 _ _ 24 74 _ Try.underlying24 infoSnap (by rfl) (by rfl) (B := D + 1) (v := .slice pa kn pc) (c0 := .string s0) (c1 := .int .i64 s1) (c2 := .slice ta es.length tc) (by rfl) (by rfl) (by rfl) (by rfl) (by rfl) (by simp) hrow6 (by omega) (by omega) ?_
                      intro v1 w8 h1 h2 h3
                      obtain ⟨g1, cap1, hv1⟩ := row_some h1.out
                      subst hv1
                      have z2 : w8.heap[D]? = some (.cells #[.int .i64 M.guest, val .root, val .slots, val .refs, .slice pa kn pc] 26) := (h2.block D (by simp; omega) (fun e => by have := (hrow.lt D e.symm).1; omega)).trans (cells_alloc q6 _)
                      have HN : Hid (RdM w1 (w8.setCell ⟨D, 4, none⟩ (.slice (some ⟨g1, 0, none⟩) (kn + 1) cap1)) R D lr { M with snaps := M.snaps ++ [(s0, s1, es)] }) := by
                        have hX6 := (HX.out.1.keep (W' := w6) (fun g hg hl => T6.out.keep g hl (by omega)))
                        have hr8 := row_monoL (row_blkS1L (W' := w6.alloc (.cells #[.string s0, .int .i64 s1, .slice ta es.length tc] 74)) r6.out (fun g e => Below.heap_alloc _ _ g (r6.out.lt g e).2)) (B' := D + 1) (by omega)
                        refine RdM.snap (es := es) (kk := s1) (dd := s0) (ev := .slice ta es.length tc) ((HT.out.trans T6.out).alloc (.cells #[.string s0, .int .i64 s1, .slice ta es.length tc] 74)) hR hD (hX6.alloc _) ((cells_alloc q6 _).trans HX.out.2.2.symm) hr8 (farX_new HX.out.1 _ (fun g e => (r6.out.lt g e).1)) (by rw [HX.out.2.1.1]; exact h2) (by rw [HX.out.2.1.2]; exact h1.out) ?_
                        rw [HX.out.2.1.1]
                        rcases h3.out with x | x
                        · exact .inl x
                        · refine .inr (fun g e => ?_)
                          rw [x] at e
                          cases e
                          simp
                      refine hK.out _ _ trivial (fun hHeld => ?_)
                      clear hK K
                      try simp only [Act.put, List.getElem_toArray, List.getElem_cons_succ, List.getElem_cons_zero, List.setIfInBounds_toArray, List.set_cons_zero, List.set_cons_succ]
                      refine wpAnyH_take (i := 6) (v := .pointer (some ⟨D, 4, none⟩)) rfl (by kernel_rfl) (by kernel_rfl) (by kernel_rfl) (fun _ _ _ h => h) (Or.inl ⟨by rfl, fun w' hSw => by go_simp⟩) hHeld ?_
                      simp only [Act.put, List.getElem_toArray, List.getElem_cons_succ, List.getElem_cons_zero, List.setIfInBounds_toArray, List.set_cons_zero, List.set_cons_succ]
                      refine wpAnyH_ready (rs := [7]) (by kernel_rfl) (by simp) ?_
                      refine AllReadyH.cons rfl (fun K hK => ?_) AllReadyH.nil
                      clear hHeld
                      simp only [Act.put, List.getElem_toArray, List.getElem_cons_succ, List.getElem_cons_zero, List.setIfInBounds_toArray, List.set_cons_zero, List.set_cons_succ]
                      rw [if_pos (by rfl)]
                      obtain ⟨v0, v1, v2, v3, v4⟩ := five z2
                      have u3 := cells_frozen z2 4
                      go_simp
                      refine hK.out _ _ trivial (fun hHeld => ?_)
                      clear hK K
                      try simp only [Act.put, List.getElem_toArray, List.getElem_cons_succ, List.getElem_cons_zero, List.setIfInBounds_toArray, List.set_cons_zero, List.set_cons_succ]
                      clear hHeld v0 v1 v2 v3 v4 u3
                      refine wpAnyH_done (by kernel_rfl) ?_ _
                      clear h1 h2 h3 z2 q6 hrow6 T6 r6
                      go_wp2_with fail
                      go_roundw
                      case rel => exact ⟨k + 1, by omega, by go_num, lr, Sk ++ [(s0, s1, es)], pMany_next hpk.out hps.out, by rw [← HMe.out] at HN; exact HN⟩
                      case measure => simp [intOf]; omega

                    · clear hHeld
                      simp only [Act.put, List.getElem_toArray, List.getElem_cons_succ, List.getElem_cons_zero, List.setIfInBounds_toArray, List.set_cons_zero, List.set_cons_succ]
                      rw [if_pos (by rfl)]
                      go_simp
                      refine hK.out _ _ trivial (fun hHeld => ?_)
                      clear hK K
                      try simp only [Act.put, List.getElem_toArray, List.getElem_cons_succ, List.getElem_cons_zero, List.setIfInBounds_toArray, List.set_cons_zero, List.set_cons_succ]
                      refine wpAnyH_ready (rs := [1]) (by kernel_rfl) (by simp) ?_
                      refine AllReadyH.cons rfl (fun K hK => ?_) AllReadyH.nil
                      clear hHeld
                      simp only [Act.put, List.getElem_toArray, List.getElem_cons_succ, List.getElem_cons_zero, List.setIfInBounds_toArray, List.set_cons_zero, List.set_cons_succ]
                      rw [if_pos (by rfl)]
                      have bxx := cells_alloc q6 (.cells #[.string s0, .int .i64 s1, .slice ta es.length tc] 74)
                      obtain ⟨v0, v1, v2, v3, v4⟩ := five bxx
                      go_simp
                      clear v0 v1 v2 v3 v4 bxx
                      refine hK.out _ _ trivial (fun hHeld => ?_)
                      clear hK K
                      try simp only [Act.put, List.getElem_toArray, List.getElem_cons_succ, List.getElem_cons_zero, List.setIfInBounds_toArray, List.set_cons_zero, List.set_cons_succ]
                      refine wpAnyH_ready (rs := [5]) (by kernel_rfl) (by simp) ?_
                      refine AllReadyH.cons rfl (fun K hK => ?_) AllReadyH.nil
                      clear hHeld
                      simp only [Act.put, List.getElem_toArray, List.getElem_cons_succ, List.getElem_cons_zero, List.setIfInBounds_toArray, List.set_cons_zero, List.set_cons_succ]
                      rw [if_pos (by rfl)]
                      have hrow6 : w6.ownsRow (D + 1) 74 3 (.slice pa kn pc) kn (flatN M.snaps (fun j => val (.sr j))) := row_blkS1L hrow (fun g e => T6.out.keep g (hrow.lt g e).2 (by have := (hrow.lt g e).1; omega))
                      refine wp_app3 _ _ 24 74 _ Try.underlying24 infoSnap (by rfl) (by rfl) (B := D + 1) (v := .slice pa kn pc) (c0 := .string s0) (c1 := .int .i64 s1) (c2 := .slice ta es.length tc) (by rfl) (by rfl) (by rfl) (by rfl) (by rfl) (by simp) hrow6 (by omega) (by omega) ?_
                      intro v1 w8 h1 h2 h3
                      obtain ⟨g1, cap1, hv1⟩ := row_some h1.out
                      subst hv1
                      have z2 : w8.heap[D]? = some (.cells #[.int .i64 M.guest, val .root, val .slots, val .refs, .slice pa kn pc] 26) := (h2.block D (by simp; omega) (fun e => by have := (hrow.lt D e.symm).1; omega)).trans (cells_alloc q6 _)
                      have HN : Hid (RdM w1 (w8.setCell ⟨D, 4, none⟩ (.slice (some ⟨g1, 0, none⟩) (kn + 1) cap1)) R D lr { M with snaps := M.snaps ++ [(s0, s1, es)] }) := by
                        have hX6 := (HX.out.1.keep (W' := w6) (fun g hg hl => T6.out.keep g hl (by omega)))
                        have hr8 := row_monoL (row_blkS1L (W' := w6.alloc (.cells #[.string s0, .int .i64 s1, .slice ta es.length tc] 74)) r6.out (fun g e => Below.heap_alloc _ _ g (r6.out.lt g e).2)) (B' := D + 1) (by omega)
                        refine RdM.snap (es := es) (kk := s1) (dd := s0) (ev := .slice ta es.length tc) ((HT.out.trans T6.out).alloc (.cells #[.string s0, .int .i64 s1, .slice ta es.length tc] 74)) hR hD (hX6.alloc _) ((cells_alloc q6 _).trans HX.out.2.2.symm) hr8 (farX_new HX.out.1 _ (fun g e => (r6.out.lt g e).1)) (by rw [HX.out.2.1.1]; exact h2) (by rw [HX.out.2.1.2]; exact h1.out) ?_
                        rw [HX.out.2.1.1]
                        rcases h3.out with x | x
                        · exact .inl x
                        · refine .inr (fun g e => ?_)
                          rw [x] at e
                          cases e
                          simp
                      refine hK.out _ _ trivial (fun hHeld => ?_)
                      clear hK K
                      try simp only [Act.put, List.getElem_toArray, List.getElem_cons_succ, List.getElem_cons_zero, List.setIfInBounds_toArray, List.set_cons_zero, List.set_cons_succ]
                      refine wpAnyH_take (i := 6) (v := .pointer (some ⟨D, 4, none⟩)) rfl (by kernel_rfl) (by kernel_rfl) (by kernel_rfl) (fun _ _ _ h => h) (Or.inl ⟨by rfl, fun w' hSw => by go_simp⟩) hHeld ?_
                      simp only [Act.put, List.getElem_toArray, List.getElem_cons_succ, List.getElem_cons_zero, List.setIfInBounds_toArray, List.set_cons_zero, List.set_cons_succ]
                      refine wpAnyH_ready (rs := [7]) (by kernel_rfl) (by simp) ?_
                      refine AllReadyH.cons rfl (fun K hK => ?_) AllReadyH.nil
                      clear hHeld
                      simp only [Act.put, List.getElem_toArray, List.getElem_cons_succ, List.getElem_cons_zero, List.setIfInBounds_toArray, List.set_cons_zero, List.set_cons_succ]
                      rw [if_pos (by rfl)]
                      obtain ⟨v0, v1, v2, v3, v4⟩ := five z2
                      have u3 := cells_frozen z2 4
                      go_simp
                      refine hK.out _ _ trivial (fun hHeld => ?_)
                      clear hK K
                      try simp only [Act.put, List.getElem_toArray, List.getElem_cons_succ, List.getElem_cons_zero, List.setIfInBounds_toArray, List.set_cons_zero, List.set_cons_succ]
                      clear hHeld v0 v1 v2 v3 v4 u3
                      refine wpAnyH_done (by kernel_rfl) ?_ _
                      clear h1 h2 h3 z2 q6 hrow6 T6 r6
                      go_wp2_with fail
                      go_roundw
                      case rel => exact ⟨k + 1, by omega, by go_num, lr, Sk ++ [(s0, s1, es)], pMany_next hpk.out hps.out, by rw [← HMe.out] at HN; exact HN⟩
                      case measure => simp [intOf]; omega

              · have hki : ¬ (k : Int) < (h.toNat : Int) := by omega
                have ek : k = h.toNat := by omega
                subst ek
                have hle := pMany_le (f := pSnap) (fun l s r h => pSnap_le h) _ _ lk hpk
                have hend := img_end (g := g) hSS.out hpk
                have hlk4 : lk.length ≤ 4096 := by omega
                obtain ⟨wv2, hv⟩ : ∃ X, X = wr := ⟨_, rfl⟩
                subst hv
                obtain ⟨rn, hrn⟩ : ∃ x, (g.toNat + 3) / 4 = x := ⟨_, rfl⟩
                obtain ⟨val, hX, hbox⟩ := HM.out.ex
                have hD := HM.out.hD
                have hDl : D < wv2.heap.size := (Array.getElem?_eq_some_iff.1 hbox).1
                have hDR : D ≠ R := by omega
                obtain ⟨v0, v1, v2, v3, v4⟩ := five hbox
                have HX : Hid (OX wv2 (D + 1) val (⟨(g.toNat : Int), [], SS, [], Sk⟩ : ImgD) ∧ wv2.heap[D]? = some (.cells #[.int .i64 (g.toNat : Int), val .root, val .slots, val .refs, val .snaps] 26)) := ⟨hX, hbox⟩
                have hg255 : g.toNat ≤ 255 := by omega
                rw [hrn] at hend
                by_cases hrl : rn ≤ lk.length
                · have hE : Hid (pImg (g :: n :: L2) = some (⟨(g.toNat : Int), (lk.take rn).map eInt, SS, [], Sk⟩, lk.drop rn)) := by
                    show pImg _ = _
                    rw [hend]; unfold pEnts; rw [if_pos hrl]; rfl
                  have HN := Hid_mkG (rroot_ok R g.toNat rn lk wv2 HM.out.t.box hg255 hrn hrl hlk4)
                  have hrn9 : rn ≤ 1000 := by omega
                  clear hle hend hpk hX hbox hrn
                  go_wp2_with fail
                  refine HN.out.mono ?_
                  rintro e9 w7 ⟨rfl, T7, g7⟩
                  have q7 := (T7.keep D hDl hDR).trans HX.out.2
                  obtain ⟨u0, u1, u2, u3, u4⟩ := five q7
                  have f7 := cells_frozen q7 1
                  have s7 := T7.size
                  have len7 : ((lk.take rn).map eInt).length = rn := by rw [List.length_map, List.length_take]; omega
                  have M8 : RdM w1 (w7.setCell ⟨D, 1, none⟩ (.slice (some ⟨wv2.heap.size, 0, none⟩) rn rn)) R D (lk.drop rn) ⟨(g.toNat : Int), (lk.take rn).map eInt, SS, [], Sk⟩ := by
                    have hX7 := HX.out.1.keep (W' := w7) (fun g hg hl => T7.keep g hl (by omega))
                    have hr7 : w7.ownsRow wv2.heap.size 3 1 (.slice (some ⟨wv2.heap.size, 0, none⟩) rn rn) rn (ints ((lk.take rn).map eInt)) := by
                      have := row_newG (B := wv2.heap.size) (Nat.le_refl _) (by omega) g7
                      rw [len7] at this
                      exact this
                    exact RdM.root (HM.out.t.trans T7) hR hD hX7 q7 (by rw [len7]; exact row_monoL hr7 (by omega)) (farX_new HX.out.1 _ (fun g e => by cases e; exact Nat.le_refl _))
                  obtain ⟨w8, hw8⟩ : ∃ X, w7.setCell ⟨D, 1, none⟩ (.slice (some ⟨wv2.heap.size, 0, none⟩) rn rn) = X := ⟨_, rfl⟩
                  rw [hw8] at M8
                  have M8 := Hid_mkG M8
                  clear T7 g7 q7 HN len7
                  go_upto_region 11 with fail
                  try rw [hw8]
                  clear u0 u1 u2 u3 u4 f7 hw8 v0 v1 v2 v3 v4
                  obtain ⟨a0, c0, a1, c1, a2, c2, a3, c3, b8, I8, F8⟩ := M8.out.img
                  obtain ⟨v0, v1, v2, v3, v4⟩ := five b8
                  have z8 := (M8.out.t.keep w.heap.size s1 (by omega)).trans z1
                  obtain ⟨z0, z1, z2, z3, z4⟩ := five z8
                  have y0 := cells_frozen z8 0
                  have y1 := cells_frozen z8 1
                  have y2 := cells_frozen z8 2
                  have y3 := cells_frozen z8 3
                  have y4 := cells_frozen z8 4
                  have HF := Hid_mkG F8
                  have HT8 := Hid_mkG (HW1.out _ _ M8.out.t)
                  clear b8 I8 F8 z8 M8
                  go_wp2_with fail
                  refine bodyPost_ret (v := .agg #[.int .i64 (g.toNat : Int), .slice a0 ((lk.take rn).map eInt).length c0, .slice a1 SS.length c1, .slice a2 ([] : List Int).length c2, .slice a3 Sk.length c3]) (by simp [results, Try.results71, go_sem, z0, z1, z2, z3, z4]; first | done | omega) rfl (Or.inl ⟨_, _, hE.out, a0, c0, a1, c1, a2, c2, a3, c3, rfl, ?_, ?_⟩)
                  · exact ((((HT8.out.other (Nat.le_refl _) hRw _).other (Nat.le_refl _) hRw _).other (Nat.le_refl _) hRw _).other (Nat.le_refl _) hRw _).other (Nat.le_refl _) hRw _
                  · intro Y hY
                    refine HF.out _ (fun q hq hl => ?_)
                    have hne : q ≠ w.heap.size := by omega
                    rw [hY q (by omega) (by simpa using hl), Below.heap_setCell _ ⟨w.heap.size, 4, none⟩ _ q hne, Below.heap_setCell _ ⟨w.heap.size, 3, none⟩ _ q hne, Below.heap_setCell _ ⟨w.heap.size, 2, none⟩ _ q hne, Below.heap_setCell _ ⟨w.heap.size, 1, none⟩ _ q hne, Below.heap_setCell _ ⟨w.heap.size, 0, none⟩ _ q hne]
                · have hE : Hid (pImg (g :: n :: L2) = none) := by
                    show pImg _ = _
                    rw [hend]; unfold pEnts; rw [if_neg hrl]; rfl
                  have HN := Hid_mkG (rroot_bad R g.toNat rn lk wv2 HM.out.t.box hg255 hrn (by omega) hlk4)
                  have HT := Hid_mkG HM.out.t
                  clear hle hend hpk hX hbox hrn
                  go_wp2_with fail
                  refine HN.out.mono ?_
                  rintro e9 w7 ⟨rfl, T7⟩
                  exact ⟨rfl, Or.inr ⟨hE.out, rfl, _, HW1.out _ _ (HT.out.trans T7)⟩⟩
end Go.Proofs.Ytehleeibgkpjmag
/- The program's counted. -/
namespace Go.Proofs.Ytehleeibgkpjmag
open Go.RowKit Go.Shelf Go.Lib
set_option maxRecDepth 20000
set_option linter.unusedVariables false
set_option linter.unusedSimpArgs false

def AnsR (w : World) (M : ImgD) (err : Int) (r : Ending) (w' : World) : Prop := ∃ a0 c0 a1 c1 a2 c2 a3 c3, r = .returned (.tuple #[.agg #[.int .i64 M.guest, .slice a0 M.root.length c0, .slice a1 M.slots.length c1, .slice a2 M.refs.length c2, .slice a3 M.snaps.length c3], .int .i64 err]) ∧ Img w' (.agg #[.int .i64 M.guest, .slice a0 M.root.length c0, .slice a1 M.slots.length c1, .slice a2 M.refs.length c2, .slice a3 M.snaps.length c3]) M ∧ Below w.heap.size w w'
def AnsC (w : World) (m : ImgD) (ra : Option Addr) (rc : Nat) (sa : Option Addr) (sc : Nat) (na : Option Addr) (nc : Nat) (r : Ending) (w' : World) : Prop := ∃ g, w.heap.size ≤ g ∧ r = .returned (.tuple #[.agg #[.int .i64 m.guest, .slice ra m.root.length rc, .slice sa m.slots.length sc, .slice (some ⟨g, 0, none⟩) m.slots.length m.slots.length, .slice na m.snaps.length nc], .int .i64 0]) ∧ LAt w' g (cntL m) ∧ Below w.heap.size w w'
theorem zer_sl {W : World} {g n : Nat} (h : W.heap[g]? = some (.cells ((List.replicate n (0 : Int)).map (Value.int .i64)).toArray 3)) (hn : n ≤ 1000) : Sl W (.slice (some ⟨g, 0, none⟩) n n) (List.replicate n 0) := by
  refine ⟨some ⟨g, 0, none⟩, n, by rw [List.length_replicate], by rw [List.length_replicate]; unfold maxLen; omega, by rw [List.length_replicate]; exact Nat.le_refl _, fun _ => ⟨g, 0, rfl, (Array.getElem?_eq_some_iff.1 h).1, fun j hj => ?_⟩⟩
  have hj : j < n := by simpa using hj
  simp [World.cell?, h, List.getD, hj]
theorem img_refs {w W : World} {m : ImgD} {gv r s f n fv : Value} {l : List Int} (h : Img w (.agg #[gv, r, s, f, n]) m) (hb : Below w.heap.size w W) (hl : Sl W fv l) : Img W (.agg #[gv, r, s, fv, n]) { m with refs := l } := by
  have hW := h.below hb
  obtain ⟨r', s', f', n', e, h1, h2, h3, h4⟩ := hW
  simp only [Value.agg.injEq, Array.mk.injEq, List.cons.injEq, and_true] at e
  obtain ⟨e0, e1, e2, e3, e4⟩ := e
  subst e1 e2 e4
  exact ⟨_, _, _, _, by rw [e0], h1, h2, hl, h4⟩
theorem Hid_mkJ {p : Prop} (h : p) : Hid p := h
set_option maxHeartbeats 2000000 in
theorem counted_err (ra : Option Addr) (rc : Nat) (sa : Option Addr) (sc : Nat) (fa : Option Addr) (fc : Nat) (na : Option Addr) (nc : Nat) (m : ImgD) (w : World) (h : Img w (.agg #[.int .i64 m.guest, .slice ra m.root.length rc, .slice sa m.slots.length sc, .slice fa m.refs.length fc, .slice na m.snaps.length nc]) m) (hs9 : m.slots.length ≤ 1000) (E : Int) (hE : shapeE (wzer m) = E) (hne : (E != 0) = true) :
    Calls Try.prog 42 #[.agg #[.int .i64 m.guest, .slice ra m.root.length rc, .slice sa m.slots.length sc, .slice fa m.refs.length fc, .slice na m.snaps.length nc]] w (AnsR w imgZ 1) := by
  have hmk : ∀ W, (Instr.makeSlice 22 (.int .i64 (m.slots.length : Int)) (.int .i64 (m.slots.length : Int))).run Try.prog W = .ok (.slice (some ⟨W.heap.size, 0, none⟩) m.slots.length m.slots.length) (W.alloc (.cells (Array.replicate m.slots.length (.int .i64 0)) 3)) := fun W => by have := mk_intsR m.slots.length hs9 W; simpa using this
  have b0 : Below w.heap.size w (((w.alloc (.cells #[.int .i64 m.guest, .slice ra m.root.length rc, .slice sa m.slots.length sc, .slice (some ⟨w.heap.size + 1 + 1, 0, none⟩) m.slots.length m.slots.length, .slice na m.snaps.length nc] 26)).alloc (.cells #[.int .i64 0, .slice none 0 0, .slice none 0 0, .slice none 0 0, .slice none 0 0] 26)).alloc (.cells (Array.replicate m.slots.length (.int .i64 0)) 3)) := (((Below.refl _ _).alloc (Nat.le_refl _) _).alloc (by simp) _).alloc (by simp; omega) _
  have m0 : (((w.alloc (.cells #[.int .i64 m.guest, .slice ra m.root.length rc, .slice sa m.slots.length sc, .slice (some ⟨w.heap.size + 1 + 1, 0, none⟩) m.slots.length m.slots.length, .slice na m.snaps.length nc] 26)).alloc (.cells #[.int .i64 0, .slice none 0 0, .slice none 0 0, .slice none 0 0, .slice none 0 0] 26)).alloc (.cells (Array.replicate m.slots.length (.int .i64 0)) 3)).heap[w.heap.size]? = some (.cells #[.int .i64 m.guest, .slice ra m.root.length rc, .slice sa m.slots.length sc, .slice (some ⟨w.heap.size + 1 + 1, 0, none⟩) m.slots.length m.slots.length, .slice na m.snaps.length nc] 26) := cells_alloc (cells_alloc (World.alloc_heap_new _ _) _) _
  have m1 : (((w.alloc (.cells #[.int .i64 m.guest, .slice ra m.root.length rc, .slice sa m.slots.length sc, .slice (some ⟨w.heap.size + 1 + 1, 0, none⟩) m.slots.length m.slots.length, .slice na m.snaps.length nc] 26)).alloc (.cells #[.int .i64 0, .slice none 0 0, .slice none 0 0, .slice none 0 0, .slice none 0 0] 26)).alloc (.cells (Array.replicate m.slots.length (.int .i64 0)) 3)).heap[w.heap.size + 1]? = some (.cells #[.int .i64 0, .slice none 0 0, .slice none 0 0, .slice none 0 0, .slice none 0 0] 26) := cells_alloc (by have := World.alloc_heap_new (w.alloc (.cells #[.int .i64 m.guest, .slice ra m.root.length rc, .slice sa m.slots.length sc, .slice (some ⟨w.heap.size + 1 + 1, 0, none⟩) m.slots.length m.slots.length, .slice na m.snaps.length nc] 26)) (.cells #[.int .i64 0, .slice none 0 0, .slice none 0 0, .slice none 0 0, .slice none 0 0] 26); simpa using this) _
  have m2 : (((w.alloc (.cells #[.int .i64 m.guest, .slice ra m.root.length rc, .slice sa m.slots.length sc, .slice (some ⟨w.heap.size + 1 + 1, 0, none⟩) m.slots.length m.slots.length, .slice na m.snaps.length nc] 26)).alloc (.cells #[.int .i64 0, .slice none 0 0, .slice none 0 0, .slice none 0 0, .slice none 0 0] 26)).alloc (.cells (Array.replicate m.slots.length (.int .i64 0)) 3)).heap[w.heap.size + 1 + 1]? = some (.cells (Array.replicate m.slots.length (.int .i64 0)) 3) := by have := World.alloc_heap_new ((w.alloc (.cells #[.int .i64 m.guest, .slice ra m.root.length rc, .slice sa m.slots.length sc, .slice (some ⟨w.heap.size + 1 + 1, 0, none⟩) m.slots.length m.slots.length, .slice na m.snaps.length nc] 26)).alloc (.cells #[.int .i64 0, .slice none 0 0, .slice none 0 0, .slice none 0 0, .slice none 0 0] 26)) (.cells (Array.replicate m.slots.length (.int .i64 0)) 3); simpa using this
  have hI2 : Img (((w.alloc (.cells #[.int .i64 m.guest, .slice ra m.root.length rc, .slice sa m.slots.length sc, .slice (some ⟨w.heap.size + 1 + 1, 0, none⟩) m.slots.length m.slots.length, .slice na m.snaps.length nc] 26)).alloc (.cells #[.int .i64 0, .slice none 0 0, .slice none 0 0, .slice none 0 0, .slice none 0 0] 26)).alloc (.cells (Array.replicate m.slots.length (.int .i64 0)) 3)) (.agg #[.int .i64 m.guest, .slice ra m.root.length rc, .slice sa m.slots.length sc, .slice (some ⟨w.heap.size + 1 + 1, 0, none⟩) m.slots.length m.slots.length, .slice na m.snaps.length nc]) (wzer m) := img_refs h b0 (zer_sl (by rw [m2]; simp) hs9)
  have hz : (((w.alloc (.cells #[.int .i64 m.guest, .slice ra m.root.length rc, .slice sa m.slots.length sc, .slice (some ⟨w.heap.size + 1 + 1, 0, none⟩) m.slots.length m.slots.length, .slice na m.snaps.length nc] 26)).alloc (.cells #[.int .i64 0, .slice none 0 0, .slice none 0 0, .slice none 0 0, .slice none 0 0] 26)).alloc (.cells (Array.replicate m.slots.length (.int .i64 0)) 3)).heap.size = w.heap.size + 3 := by simp
  have HI : Hid (Img w (.agg #[.int .i64 m.guest, .slice ra m.root.length rc, .slice sa m.slots.length sc, .slice fa m.refs.length fc, .slice na m.snaps.length nc]) m ∧ Below w.heap.size w (((w.alloc (.cells #[.int .i64 m.guest, .slice ra m.root.length rc, .slice sa m.slots.length sc, .slice (some ⟨w.heap.size + 1 + 1, 0, none⟩) m.slots.length m.slots.length, .slice na m.snaps.length nc] 26)).alloc (.cells #[.int .i64 0, .slice none 0 0, .slice none 0 0, .slice none 0 0, .slice none 0 0] 26)).alloc (.cells (Array.replicate m.slots.length (.int .i64 0)) 3))) := ⟨h, b0⟩
  have HM : Hid ((((w.alloc (.cells #[.int .i64 m.guest, .slice ra m.root.length rc, .slice sa m.slots.length sc, .slice (some ⟨w.heap.size + 1 + 1, 0, none⟩) m.slots.length m.slots.length, .slice na m.snaps.length nc] 26)).alloc (.cells #[.int .i64 0, .slice none 0 0, .slice none 0 0, .slice none 0 0, .slice none 0 0] 26)).alloc (.cells (Array.replicate m.slots.length (.int .i64 0)) 3)).heap[w.heap.size]? = some (.cells #[.int .i64 m.guest, .slice ra m.root.length rc, .slice sa m.slots.length sc, .slice (some ⟨w.heap.size + 1 + 1, 0, none⟩) m.slots.length m.slots.length, .slice na m.snaps.length nc] 26) ∧ (((w.alloc (.cells #[.int .i64 m.guest, .slice ra m.root.length rc, .slice sa m.slots.length sc, .slice (some ⟨w.heap.size + 1 + 1, 0, none⟩) m.slots.length m.slots.length, .slice na m.snaps.length nc] 26)).alloc (.cells #[.int .i64 0, .slice none 0 0, .slice none 0 0, .slice none 0 0, .slice none 0 0] 26)).alloc (.cells (Array.replicate m.slots.length (.int .i64 0)) 3)).heap[w.heap.size + 1]? = some (.cells #[.int .i64 0, .slice none 0 0, .slice none 0 0, .slice none 0 0, .slice none 0 0] 26) ∧ (((w.alloc (.cells #[.int .i64 m.guest, .slice ra m.root.length rc, .slice sa m.slots.length sc, .slice (some ⟨w.heap.size + 1 + 1, 0, none⟩) m.slots.length m.slots.length, .slice na m.snaps.length nc] 26)).alloc (.cells #[.int .i64 0, .slice none 0 0, .slice none 0 0, .slice none 0 0, .slice none 0 0] 26)).alloc (.cells (Array.replicate m.slots.length (.int .i64 0)) 3)).heap.size = w.heap.size + 3) := ⟨m0, m1, hz⟩
  have HCn := Hid_mkJ (counts_err hI2 hE hne)
  clear hI2 m0 m1 m2 b0 h hz
  go_enter Try.func42, Try.ntmps42
  go_wp2_with fail
  refine HCn.out.mono ?_
  rintro e w3 ⟨rfl, b3⟩
  have s3 := b3.size
  rw [HM.out.2.2] at s3
  have n0 := cells_below HM.out.1 b3 (by rw [HM.out.2.2]; omega)
  have n1 := cells_below HM.out.2.1 b3 (by rw [HM.out.2.2]; omega)
  have HB3 := Hid_mkJ (Below.on HI.out.2 b3)
  obtain ⟨c0, c1, c2, c3, c4⟩ := five n0
  have f3 := cells_frozen n0 3
  obtain ⟨z0, z1, z2, z3, z4⟩ := five n1
  have y0 := cells_frozen n1 0; have y1 := cells_frozen n1 1; have y2 := cells_frozen n1 2; have y3 := cells_frozen n1 3; have y4 := cells_frozen n1 4
  clear b3 n0 n1 HCn hmk
  go_wp2_with fail
  refine bodyPost_ret (v := .tuple #[.agg #[.int .i64 0, .slice none 0 0, .slice none 0 0, .slice none 0 0, .slice none 0 0], .int .i64 1]) (by simp [results, Try.results42, go_sem, z0, z1, z2, z3, z4]) rfl ⟨none, 0, none, 0, none, 0, none, 0, rfl, (OI.zero _ 0).img, ?_⟩
  have i1 : w.heap.size ≤ w.heap.size + 1 := Nat.le_succ _
  first
    | exact (((((HB3.out.setCell (p := ⟨w.heap.size, 3, none⟩) (Nat.le_refl _) _).setCell i1 _).setCell i1 _).setCell i1 _).setCell i1 _).setCell i1 _
    | exact HB3.out.setCell (p := ⟨w.heap.size, 3, none⟩) (Nat.le_refl _) _
set_option maxHeartbeats 4000000 in
theorem counted_no (ra : Option Addr) (rc : Nat) (sa : Option Addr) (sc : Nat) (fa : Option Addr) (fc : Nat) (na : Option Addr) (nc : Nat) (m : ImgD) (w : World) (h : Img w (.agg #[.int .i64 m.guest, .slice ra m.root.length rc, .slice sa m.slots.length sc, .slice fa m.refs.length fc, .slice na m.snaps.length nc]) m) (hs9 : m.slots.length ≤ 1000) (hE : shapeE (wzer m) = 0) (E : Int) (hC : checkE (wcnt m) = E) (hne : (E != 0) = true) :
    Calls Try.prog 42 #[.agg #[.int .i64 m.guest, .slice ra m.root.length rc, .slice sa m.slots.length sc, .slice fa m.refs.length fc, .slice na m.snaps.length nc]] w (AnsR w imgZ 1) := by
  have hmk : ∀ W, (Instr.makeSlice 22 (.int .i64 (m.slots.length : Int)) (.int .i64 (m.slots.length : Int))).run Try.prog W = .ok (.slice (some ⟨W.heap.size, 0, none⟩) m.slots.length m.slots.length) (W.alloc (.cells (Array.replicate m.slots.length (.int .i64 0)) 3)) := fun W => by have := mk_intsR m.slots.length hs9 W; simpa using this
  have b0 : Below w.heap.size w (((w.alloc (.cells #[.int .i64 m.guest, .slice ra m.root.length rc, .slice sa m.slots.length sc, .slice (some ⟨w.heap.size + 1 + 1, 0, none⟩) m.slots.length m.slots.length, .slice na m.snaps.length nc] 26)).alloc (.cells #[.int .i64 0, .slice none 0 0, .slice none 0 0, .slice none 0 0, .slice none 0 0] 26)).alloc (.cells (Array.replicate m.slots.length (.int .i64 0)) 3)) := (((Below.refl _ _).alloc (Nat.le_refl _) _).alloc (by simp) _).alloc (by simp; omega) _
  have m0 : (((w.alloc (.cells #[.int .i64 m.guest, .slice ra m.root.length rc, .slice sa m.slots.length sc, .slice (some ⟨w.heap.size + 1 + 1, 0, none⟩) m.slots.length m.slots.length, .slice na m.snaps.length nc] 26)).alloc (.cells #[.int .i64 0, .slice none 0 0, .slice none 0 0, .slice none 0 0, .slice none 0 0] 26)).alloc (.cells (Array.replicate m.slots.length (.int .i64 0)) 3)).heap[w.heap.size]? = some (.cells #[.int .i64 m.guest, .slice ra m.root.length rc, .slice sa m.slots.length sc, .slice (some ⟨w.heap.size + 1 + 1, 0, none⟩) m.slots.length m.slots.length, .slice na m.snaps.length nc] 26) := cells_alloc (cells_alloc (World.alloc_heap_new _ _) _) _
  have m1 : (((w.alloc (.cells #[.int .i64 m.guest, .slice ra m.root.length rc, .slice sa m.slots.length sc, .slice (some ⟨w.heap.size + 1 + 1, 0, none⟩) m.slots.length m.slots.length, .slice na m.snaps.length nc] 26)).alloc (.cells #[.int .i64 0, .slice none 0 0, .slice none 0 0, .slice none 0 0, .slice none 0 0] 26)).alloc (.cells (Array.replicate m.slots.length (.int .i64 0)) 3)).heap[w.heap.size + 1]? = some (.cells #[.int .i64 0, .slice none 0 0, .slice none 0 0, .slice none 0 0, .slice none 0 0] 26) := cells_alloc (by have := World.alloc_heap_new (w.alloc (.cells #[.int .i64 m.guest, .slice ra m.root.length rc, .slice sa m.slots.length sc, .slice (some ⟨w.heap.size + 1 + 1, 0, none⟩) m.slots.length m.slots.length, .slice na m.snaps.length nc] 26)) (.cells #[.int .i64 0, .slice none 0 0, .slice none 0 0, .slice none 0 0, .slice none 0 0] 26); simpa using this) _
  have m2 : (((w.alloc (.cells #[.int .i64 m.guest, .slice ra m.root.length rc, .slice sa m.slots.length sc, .slice (some ⟨w.heap.size + 1 + 1, 0, none⟩) m.slots.length m.slots.length, .slice na m.snaps.length nc] 26)).alloc (.cells #[.int .i64 0, .slice none 0 0, .slice none 0 0, .slice none 0 0, .slice none 0 0] 26)).alloc (.cells (Array.replicate m.slots.length (.int .i64 0)) 3)).heap[w.heap.size + 1 + 1]? = some (.cells (Array.replicate m.slots.length (.int .i64 0)) 3) := by have := World.alloc_heap_new ((w.alloc (.cells #[.int .i64 m.guest, .slice ra m.root.length rc, .slice sa m.slots.length sc, .slice (some ⟨w.heap.size + 1 + 1, 0, none⟩) m.slots.length m.slots.length, .slice na m.snaps.length nc] 26)).alloc (.cells #[.int .i64 0, .slice none 0 0, .slice none 0 0, .slice none 0 0, .slice none 0 0] 26)) (.cells (Array.replicate m.slots.length (.int .i64 0)) 3); simpa using this
  have hI2 : Img (((w.alloc (.cells #[.int .i64 m.guest, .slice ra m.root.length rc, .slice sa m.slots.length sc, .slice (some ⟨w.heap.size + 1 + 1, 0, none⟩) m.slots.length m.slots.length, .slice na m.snaps.length nc] 26)).alloc (.cells #[.int .i64 0, .slice none 0 0, .slice none 0 0, .slice none 0 0, .slice none 0 0] 26)).alloc (.cells (Array.replicate m.slots.length (.int .i64 0)) 3)) (.agg #[.int .i64 m.guest, .slice ra m.root.length rc, .slice sa m.slots.length sc, .slice (some ⟨w.heap.size + 1 + 1, 0, none⟩) m.slots.length m.slots.length, .slice na m.snaps.length nc]) (wzer m) := img_refs h b0 (zer_sl (by rw [m2]; simp) hs9)
  have hz : (((w.alloc (.cells #[.int .i64 m.guest, .slice ra m.root.length rc, .slice sa m.slots.length sc, .slice (some ⟨w.heap.size + 1 + 1, 0, none⟩) m.slots.length m.slots.length, .slice na m.snaps.length nc] 26)).alloc (.cells #[.int .i64 0, .slice none 0 0, .slice none 0 0, .slice none 0 0, .slice none 0 0] 26)).alloc (.cells (Array.replicate m.slots.length (.int .i64 0)) 3)).heap.size = w.heap.size + 3 := by simp
  have HI : Hid (Img w (.agg #[.int .i64 m.guest, .slice ra m.root.length rc, .slice sa m.slots.length sc, .slice fa m.refs.length fc, .slice na m.snaps.length nc]) m ∧ Below w.heap.size w (((w.alloc (.cells #[.int .i64 m.guest, .slice ra m.root.length rc, .slice sa m.slots.length sc, .slice (some ⟨w.heap.size + 1 + 1, 0, none⟩) m.slots.length m.slots.length, .slice na m.snaps.length nc] 26)).alloc (.cells #[.int .i64 0, .slice none 0 0, .slice none 0 0, .slice none 0 0, .slice none 0 0] 26)).alloc (.cells (Array.replicate m.slots.length (.int .i64 0)) 3))) := ⟨h, b0⟩
  have HM : Hid ((((w.alloc (.cells #[.int .i64 m.guest, .slice ra m.root.length rc, .slice sa m.slots.length sc, .slice (some ⟨w.heap.size + 1 + 1, 0, none⟩) m.slots.length m.slots.length, .slice na m.snaps.length nc] 26)).alloc (.cells #[.int .i64 0, .slice none 0 0, .slice none 0 0, .slice none 0 0, .slice none 0 0] 26)).alloc (.cells (Array.replicate m.slots.length (.int .i64 0)) 3)).heap[w.heap.size]? = some (.cells #[.int .i64 m.guest, .slice ra m.root.length rc, .slice sa m.slots.length sc, .slice (some ⟨w.heap.size + 1 + 1, 0, none⟩) m.slots.length m.slots.length, .slice na m.snaps.length nc] 26) ∧ (((w.alloc (.cells #[.int .i64 m.guest, .slice ra m.root.length rc, .slice sa m.slots.length sc, .slice (some ⟨w.heap.size + 1 + 1, 0, none⟩) m.slots.length m.slots.length, .slice na m.snaps.length nc] 26)).alloc (.cells #[.int .i64 0, .slice none 0 0, .slice none 0 0, .slice none 0 0, .slice none 0 0] 26)).alloc (.cells (Array.replicate m.slots.length (.int .i64 0)) 3)).heap[w.heap.size + 1]? = some (.cells #[.int .i64 0, .slice none 0 0, .slice none 0 0, .slice none 0 0, .slice none 0 0] 26) ∧ (((w.alloc (.cells #[.int .i64 m.guest, .slice ra m.root.length rc, .slice sa m.slots.length sc, .slice (some ⟨w.heap.size + 1 + 1, 0, none⟩) m.slots.length m.slots.length, .slice na m.snaps.length nc] 26)).alloc (.cells #[.int .i64 0, .slice none 0 0, .slice none 0 0, .slice none 0 0, .slice none 0 0] 26)).alloc (.cells (Array.replicate m.slots.length (.int .i64 0)) 3)).heap.size = w.heap.size + 3) := ⟨m0, m1, hz⟩
  have HCn := Hid_mkJ (show Calls Try.prog 47 #[.agg #[.int .i64 m.guest, .slice ra m.root.length rc, .slice sa m.slots.length sc, .slice (some ⟨w.heap.size + 1 + 1, 0, none⟩) m.slots.length m.slots.length, .slice na m.snaps.length nc]] (((w.alloc (.cells #[.int .i64 m.guest, .slice ra m.root.length rc, .slice sa m.slots.length sc, .slice (some ⟨w.heap.size + 1 + 1, 0, none⟩) m.slots.length m.slots.length, .slice na m.snaps.length nc] 26)).alloc (.cells #[.int .i64 0, .slice none 0 0, .slice none 0 0, .slice none 0 0, .slice none 0 0] 26)).alloc (.cells (Array.replicate m.slots.length (.int .i64 0)) 3)) fun e w' => (∃ g, (((w.alloc (.cells #[.int .i64 m.guest, .slice ra m.root.length rc, .slice sa m.slots.length sc, .slice (some ⟨w.heap.size + 1 + 1, 0, none⟩) m.slots.length m.slots.length, .slice na m.snaps.length nc] 26)).alloc (.cells #[.int .i64 0, .slice none 0 0, .slice none 0 0, .slice none 0 0, .slice none 0 0] 26)).alloc (.cells (Array.replicate m.slots.length (.int .i64 0)) 3)).heap.size ≤ g ∧ e = .returned (.tuple #[.slice (some ⟨g, 0, none⟩) m.slots.length m.slots.length, .int .i64 0]) ∧ LAt w' g (cntL m)) ∧ Below (((w.alloc (.cells #[.int .i64 m.guest, .slice ra m.root.length rc, .slice sa m.slots.length sc, .slice (some ⟨w.heap.size + 1 + 1, 0, none⟩) m.slots.length m.slots.length, .slice na m.snaps.length nc] 26)).alloc (.cells #[.int .i64 0, .slice none 0 0, .slice none 0 0, .slice none 0 0, .slice none 0 0] 26)).alloc (.cells (Array.replicate m.slots.length (.int .i64 0)) 3)).heap.size (((w.alloc (.cells #[.int .i64 m.guest, .slice ra m.root.length rc, .slice sa m.slots.length sc, .slice (some ⟨w.heap.size + 1 + 1, 0, none⟩) m.slots.length m.slots.length, .slice na m.snaps.length nc] 26)).alloc (.cells #[.int .i64 0, .slice none 0 0, .slice none 0 0, .slice none 0 0, .slice none 0 0] 26)).alloc (.cells (Array.replicate m.slots.length (.int .i64 0)) 3)) w' from (by have h9 := counts_own (m := wzer m) hI2 hE; exact h9))
  clear hI2 m0 m1 m2 b0 h hz
  go_enter Try.func42, Try.ntmps42
  go_wp2_with fail
  refine HCn.out.mono ?_
  rintro e w3 ⟨⟨g, hg, rfl, hL⟩, b3⟩
  have s3 := b3.size
  rw [HM.out.2.2] at s3
  have n0 := cells_below HM.out.1 b3 (by rw [HM.out.2.2]; omega)
  have n1 := cells_below HM.out.2.1 b3 (by rw [HM.out.2.2]; omega)
  have HB3 := Hid_mkJ (Below.on HI.out.2 b3)
  rw [HM.out.2.2] at hg
  have hgP : g ≠ w.heap.size := by omega
  obtain ⟨c0, c1, c2, c3, c4⟩ := five n0
  have f3 := cells_frozen n0 3
  obtain ⟨w4, hw4⟩ : ∃ X, w3.setCell ⟨w.heap.size, 3, none⟩ (.slice (some ⟨g, 0, none⟩) m.slots.length m.slots.length) = X := ⟨_, rfl⟩
  have HB4 := Hid_mkJ (show Below w.heap.size w w4 by rw [← hw4]; exact HB3.out.setCell (p := ⟨w.heap.size, 3, none⟩) (Nat.le_refl _) _)
  have o0 : w4.heap[w.heap.size]? = some (.cells #[.int .i64 m.guest, .slice ra m.root.length rc, .slice sa m.slots.length sc, .slice (some ⟨g, 0, none⟩) m.slots.length m.slots.length, .slice na m.snaps.length nc] 26) := by rw [← hw4]; exact cells_set n0 3 _
  have o1 : w4.heap[w.heap.size + 1]? = some (.cells #[.int .i64 0, .slice none 0 0, .slice none 0 0, .slice none 0 0, .slice none 0 0] 26) := by rw [← hw4]; exact (Below.heap_setCell _ ⟨w.heap.size, 3, none⟩ _ _ (by show w.heap.size + 1 ≠ w.heap.size; omega)).trans n1
  have hL4 : LAt w4 g (cntL m) := by rw [← hw4]; exact (Below.heap_setCell _ ⟨w.heap.size, 3, none⟩ _ _ hgP).trans hL
  have hI4 : Img w4 (.agg #[.int .i64 m.guest, .slice ra m.root.length rc, .slice sa m.slots.length sc, .slice (some ⟨g, 0, none⟩) m.slots.length m.slots.length, .slice na m.snaps.length nc]) (wcnt m) := img_refs HI.out.1 HB4.out (LAt.sl hL4 (cntL_length m) (by unfold maxLen; omega))
  have HCk := Hid_mkJ (tcheck_is hI4 hC)
  have hl4 := hL4.lt
  have HW4 := Hid_mkJ hw4
  obtain ⟨d0, d1, d2, d3, d4⟩ := five o0
  have HO := Hid_mkJ (And.intro o0 (And.intro o1 hL4))
  clear b3 n0 n1 HCn hmk hL hw4 o0 o1 hL4 hI4
  go_upto_region 4 with fail
  rw [HW4.out]
  clear c0 c1 c2 c3 c4 f3
  go_wp2_with (go_at_call 18; refine HCk.out.mono ?_; rintro e w5 ⟨rfl, b5⟩; have p0 := cells_below HO.out.1 b5 (Array.getElem?_eq_some_iff.1 HO.out.1).1; have p1 := cells_below HO.out.2.1 b5 (Array.getElem?_eq_some_iff.1 HO.out.2.1).1; have HB5 := Hid_mkJ (Below.on HB4.out b5); have HG := Hid_mkJ (And.intro (show LAt w5 g (cntL m) from (b5.block g hl4).trans HO.out.2.2) hg); clear b5; obtain ⟨z0, z1, z2, z3, z4⟩ := five p1; have y0 := cells_frozen p1 0; have y1 := cells_frozen p1 1; have y2 := cells_frozen p1 2; have y3 := cells_frozen p1 3; have y4 := cells_frozen p1 4; obtain ⟨q0, q1, q2, q3, q4⟩ := five p0)
  refine bodyPost_ret (v := .tuple #[.agg #[.int .i64 0, .slice none 0 0, .slice none 0 0, .slice none 0 0, .slice none 0 0], .int .i64 1]) (by simp [results, Try.results42, go_sem, z0, z1, z2, z3, z4]) rfl ⟨none, 0, none, 0, none, 0, none, 0, rfl, (OI.zero _ 0).img, ?_⟩
  have i1 : w.heap.size ≤ w.heap.size + 1 := Nat.le_succ _
  first
    | exact (((((HB5.out).setCell i1 _).setCell i1 _).setCell i1 _).setCell i1 _).setCell i1 _
    | exact HB5.out
set_option maxHeartbeats 4000000 in
theorem counted_yes (ra : Option Addr) (rc : Nat) (sa : Option Addr) (sc : Nat) (fa : Option Addr) (fc : Nat) (na : Option Addr) (nc : Nat) (m : ImgD) (w : World) (h : Img w (.agg #[.int .i64 m.guest, .slice ra m.root.length rc, .slice sa m.slots.length sc, .slice fa m.refs.length fc, .slice na m.snaps.length nc]) m) (hs9 : m.slots.length ≤ 1000) (hE : shapeE (wzer m) = 0) (hC : checkE (wcnt m) = 0) :
    Calls Try.prog 42 #[.agg #[.int .i64 m.guest, .slice ra m.root.length rc, .slice sa m.slots.length sc, .slice fa m.refs.length fc, .slice na m.snaps.length nc]] w (AnsC w m ra rc sa sc na nc) := by
  have hmk : ∀ W, (Instr.makeSlice 22 (.int .i64 (m.slots.length : Int)) (.int .i64 (m.slots.length : Int))).run Try.prog W = .ok (.slice (some ⟨W.heap.size, 0, none⟩) m.slots.length m.slots.length) (W.alloc (.cells (Array.replicate m.slots.length (.int .i64 0)) 3)) := fun W => by have := mk_intsR m.slots.length hs9 W; simpa using this
  have b0 : Below w.heap.size w (((w.alloc (.cells #[.int .i64 m.guest, .slice ra m.root.length rc, .slice sa m.slots.length sc, .slice (some ⟨w.heap.size + 1 + 1, 0, none⟩) m.slots.length m.slots.length, .slice na m.snaps.length nc] 26)).alloc (.cells #[.int .i64 0, .slice none 0 0, .slice none 0 0, .slice none 0 0, .slice none 0 0] 26)).alloc (.cells (Array.replicate m.slots.length (.int .i64 0)) 3)) := (((Below.refl _ _).alloc (Nat.le_refl _) _).alloc (by simp) _).alloc (by simp; omega) _
  have m0 : (((w.alloc (.cells #[.int .i64 m.guest, .slice ra m.root.length rc, .slice sa m.slots.length sc, .slice (some ⟨w.heap.size + 1 + 1, 0, none⟩) m.slots.length m.slots.length, .slice na m.snaps.length nc] 26)).alloc (.cells #[.int .i64 0, .slice none 0 0, .slice none 0 0, .slice none 0 0, .slice none 0 0] 26)).alloc (.cells (Array.replicate m.slots.length (.int .i64 0)) 3)).heap[w.heap.size]? = some (.cells #[.int .i64 m.guest, .slice ra m.root.length rc, .slice sa m.slots.length sc, .slice (some ⟨w.heap.size + 1 + 1, 0, none⟩) m.slots.length m.slots.length, .slice na m.snaps.length nc] 26) := cells_alloc (cells_alloc (World.alloc_heap_new _ _) _) _
  have m1 : (((w.alloc (.cells #[.int .i64 m.guest, .slice ra m.root.length rc, .slice sa m.slots.length sc, .slice (some ⟨w.heap.size + 1 + 1, 0, none⟩) m.slots.length m.slots.length, .slice na m.snaps.length nc] 26)).alloc (.cells #[.int .i64 0, .slice none 0 0, .slice none 0 0, .slice none 0 0, .slice none 0 0] 26)).alloc (.cells (Array.replicate m.slots.length (.int .i64 0)) 3)).heap[w.heap.size + 1]? = some (.cells #[.int .i64 0, .slice none 0 0, .slice none 0 0, .slice none 0 0, .slice none 0 0] 26) := cells_alloc (by have := World.alloc_heap_new (w.alloc (.cells #[.int .i64 m.guest, .slice ra m.root.length rc, .slice sa m.slots.length sc, .slice (some ⟨w.heap.size + 1 + 1, 0, none⟩) m.slots.length m.slots.length, .slice na m.snaps.length nc] 26)) (.cells #[.int .i64 0, .slice none 0 0, .slice none 0 0, .slice none 0 0, .slice none 0 0] 26); simpa using this) _
  have m2 : (((w.alloc (.cells #[.int .i64 m.guest, .slice ra m.root.length rc, .slice sa m.slots.length sc, .slice (some ⟨w.heap.size + 1 + 1, 0, none⟩) m.slots.length m.slots.length, .slice na m.snaps.length nc] 26)).alloc (.cells #[.int .i64 0, .slice none 0 0, .slice none 0 0, .slice none 0 0, .slice none 0 0] 26)).alloc (.cells (Array.replicate m.slots.length (.int .i64 0)) 3)).heap[w.heap.size + 1 + 1]? = some (.cells (Array.replicate m.slots.length (.int .i64 0)) 3) := by have := World.alloc_heap_new ((w.alloc (.cells #[.int .i64 m.guest, .slice ra m.root.length rc, .slice sa m.slots.length sc, .slice (some ⟨w.heap.size + 1 + 1, 0, none⟩) m.slots.length m.slots.length, .slice na m.snaps.length nc] 26)).alloc (.cells #[.int .i64 0, .slice none 0 0, .slice none 0 0, .slice none 0 0, .slice none 0 0] 26)) (.cells (Array.replicate m.slots.length (.int .i64 0)) 3); simpa using this
  have hI2 : Img (((w.alloc (.cells #[.int .i64 m.guest, .slice ra m.root.length rc, .slice sa m.slots.length sc, .slice (some ⟨w.heap.size + 1 + 1, 0, none⟩) m.slots.length m.slots.length, .slice na m.snaps.length nc] 26)).alloc (.cells #[.int .i64 0, .slice none 0 0, .slice none 0 0, .slice none 0 0, .slice none 0 0] 26)).alloc (.cells (Array.replicate m.slots.length (.int .i64 0)) 3)) (.agg #[.int .i64 m.guest, .slice ra m.root.length rc, .slice sa m.slots.length sc, .slice (some ⟨w.heap.size + 1 + 1, 0, none⟩) m.slots.length m.slots.length, .slice na m.snaps.length nc]) (wzer m) := img_refs h b0 (zer_sl (by rw [m2]; simp) hs9)
  have hz : (((w.alloc (.cells #[.int .i64 m.guest, .slice ra m.root.length rc, .slice sa m.slots.length sc, .slice (some ⟨w.heap.size + 1 + 1, 0, none⟩) m.slots.length m.slots.length, .slice na m.snaps.length nc] 26)).alloc (.cells #[.int .i64 0, .slice none 0 0, .slice none 0 0, .slice none 0 0, .slice none 0 0] 26)).alloc (.cells (Array.replicate m.slots.length (.int .i64 0)) 3)).heap.size = w.heap.size + 3 := by simp
  have HI : Hid (Img w (.agg #[.int .i64 m.guest, .slice ra m.root.length rc, .slice sa m.slots.length sc, .slice fa m.refs.length fc, .slice na m.snaps.length nc]) m ∧ Below w.heap.size w (((w.alloc (.cells #[.int .i64 m.guest, .slice ra m.root.length rc, .slice sa m.slots.length sc, .slice (some ⟨w.heap.size + 1 + 1, 0, none⟩) m.slots.length m.slots.length, .slice na m.snaps.length nc] 26)).alloc (.cells #[.int .i64 0, .slice none 0 0, .slice none 0 0, .slice none 0 0, .slice none 0 0] 26)).alloc (.cells (Array.replicate m.slots.length (.int .i64 0)) 3))) := ⟨h, b0⟩
  have HM : Hid ((((w.alloc (.cells #[.int .i64 m.guest, .slice ra m.root.length rc, .slice sa m.slots.length sc, .slice (some ⟨w.heap.size + 1 + 1, 0, none⟩) m.slots.length m.slots.length, .slice na m.snaps.length nc] 26)).alloc (.cells #[.int .i64 0, .slice none 0 0, .slice none 0 0, .slice none 0 0, .slice none 0 0] 26)).alloc (.cells (Array.replicate m.slots.length (.int .i64 0)) 3)).heap[w.heap.size]? = some (.cells #[.int .i64 m.guest, .slice ra m.root.length rc, .slice sa m.slots.length sc, .slice (some ⟨w.heap.size + 1 + 1, 0, none⟩) m.slots.length m.slots.length, .slice na m.snaps.length nc] 26) ∧ (((w.alloc (.cells #[.int .i64 m.guest, .slice ra m.root.length rc, .slice sa m.slots.length sc, .slice (some ⟨w.heap.size + 1 + 1, 0, none⟩) m.slots.length m.slots.length, .slice na m.snaps.length nc] 26)).alloc (.cells #[.int .i64 0, .slice none 0 0, .slice none 0 0, .slice none 0 0, .slice none 0 0] 26)).alloc (.cells (Array.replicate m.slots.length (.int .i64 0)) 3)).heap[w.heap.size + 1]? = some (.cells #[.int .i64 0, .slice none 0 0, .slice none 0 0, .slice none 0 0, .slice none 0 0] 26) ∧ (((w.alloc (.cells #[.int .i64 m.guest, .slice ra m.root.length rc, .slice sa m.slots.length sc, .slice (some ⟨w.heap.size + 1 + 1, 0, none⟩) m.slots.length m.slots.length, .slice na m.snaps.length nc] 26)).alloc (.cells #[.int .i64 0, .slice none 0 0, .slice none 0 0, .slice none 0 0, .slice none 0 0] 26)).alloc (.cells (Array.replicate m.slots.length (.int .i64 0)) 3)).heap.size = w.heap.size + 3) := ⟨m0, m1, hz⟩
  have HCn := Hid_mkJ (show Calls Try.prog 47 #[.agg #[.int .i64 m.guest, .slice ra m.root.length rc, .slice sa m.slots.length sc, .slice (some ⟨w.heap.size + 1 + 1, 0, none⟩) m.slots.length m.slots.length, .slice na m.snaps.length nc]] (((w.alloc (.cells #[.int .i64 m.guest, .slice ra m.root.length rc, .slice sa m.slots.length sc, .slice (some ⟨w.heap.size + 1 + 1, 0, none⟩) m.slots.length m.slots.length, .slice na m.snaps.length nc] 26)).alloc (.cells #[.int .i64 0, .slice none 0 0, .slice none 0 0, .slice none 0 0, .slice none 0 0] 26)).alloc (.cells (Array.replicate m.slots.length (.int .i64 0)) 3)) fun e w' => (∃ g, (((w.alloc (.cells #[.int .i64 m.guest, .slice ra m.root.length rc, .slice sa m.slots.length sc, .slice (some ⟨w.heap.size + 1 + 1, 0, none⟩) m.slots.length m.slots.length, .slice na m.snaps.length nc] 26)).alloc (.cells #[.int .i64 0, .slice none 0 0, .slice none 0 0, .slice none 0 0, .slice none 0 0] 26)).alloc (.cells (Array.replicate m.slots.length (.int .i64 0)) 3)).heap.size ≤ g ∧ e = .returned (.tuple #[.slice (some ⟨g, 0, none⟩) m.slots.length m.slots.length, .int .i64 0]) ∧ LAt w' g (cntL m)) ∧ Below (((w.alloc (.cells #[.int .i64 m.guest, .slice ra m.root.length rc, .slice sa m.slots.length sc, .slice (some ⟨w.heap.size + 1 + 1, 0, none⟩) m.slots.length m.slots.length, .slice na m.snaps.length nc] 26)).alloc (.cells #[.int .i64 0, .slice none 0 0, .slice none 0 0, .slice none 0 0, .slice none 0 0] 26)).alloc (.cells (Array.replicate m.slots.length (.int .i64 0)) 3)).heap.size (((w.alloc (.cells #[.int .i64 m.guest, .slice ra m.root.length rc, .slice sa m.slots.length sc, .slice (some ⟨w.heap.size + 1 + 1, 0, none⟩) m.slots.length m.slots.length, .slice na m.snaps.length nc] 26)).alloc (.cells #[.int .i64 0, .slice none 0 0, .slice none 0 0, .slice none 0 0, .slice none 0 0] 26)).alloc (.cells (Array.replicate m.slots.length (.int .i64 0)) 3)) w' from (by have h9 := counts_own (m := wzer m) hI2 hE; exact h9))
  clear hI2 m0 m1 m2 b0 h hz
  go_enter Try.func42, Try.ntmps42
  go_wp2_with fail
  refine HCn.out.mono ?_
  rintro e w3 ⟨⟨g, hg, rfl, hL⟩, b3⟩
  have s3 := b3.size
  rw [HM.out.2.2] at s3
  have n0 := cells_below HM.out.1 b3 (by rw [HM.out.2.2]; omega)
  have n1 := cells_below HM.out.2.1 b3 (by rw [HM.out.2.2]; omega)
  have HB3 := Hid_mkJ (Below.on HI.out.2 b3)
  rw [HM.out.2.2] at hg
  have hgP : g ≠ w.heap.size := by omega
  obtain ⟨c0, c1, c2, c3, c4⟩ := five n0
  have f3 := cells_frozen n0 3
  obtain ⟨w4, hw4⟩ : ∃ X, w3.setCell ⟨w.heap.size, 3, none⟩ (.slice (some ⟨g, 0, none⟩) m.slots.length m.slots.length) = X := ⟨_, rfl⟩
  have HB4 := Hid_mkJ (show Below w.heap.size w w4 by rw [← hw4]; exact HB3.out.setCell (p := ⟨w.heap.size, 3, none⟩) (Nat.le_refl _) _)
  have o0 : w4.heap[w.heap.size]? = some (.cells #[.int .i64 m.guest, .slice ra m.root.length rc, .slice sa m.slots.length sc, .slice (some ⟨g, 0, none⟩) m.slots.length m.slots.length, .slice na m.snaps.length nc] 26) := by rw [← hw4]; exact cells_set n0 3 _
  have o1 : w4.heap[w.heap.size + 1]? = some (.cells #[.int .i64 0, .slice none 0 0, .slice none 0 0, .slice none 0 0, .slice none 0 0] 26) := by rw [← hw4]; exact (Below.heap_setCell _ ⟨w.heap.size, 3, none⟩ _ _ (by show w.heap.size + 1 ≠ w.heap.size; omega)).trans n1
  have hL4 : LAt w4 g (cntL m) := by rw [← hw4]; exact (Below.heap_setCell _ ⟨w.heap.size, 3, none⟩ _ _ hgP).trans hL
  have hI4 : Img w4 (.agg #[.int .i64 m.guest, .slice ra m.root.length rc, .slice sa m.slots.length sc, .slice (some ⟨g, 0, none⟩) m.slots.length m.slots.length, .slice na m.snaps.length nc]) (wcnt m) := img_refs HI.out.1 HB4.out (LAt.sl hL4 (cntL_length m) (by unfold maxLen; omega))
  have HCk := Hid_mkJ (tcheck_is hI4 hC)
  have hl4 := hL4.lt
  have HW4 := Hid_mkJ hw4
  obtain ⟨d0, d1, d2, d3, d4⟩ := five o0
  have HO := Hid_mkJ (And.intro o0 (And.intro o1 hL4))
  clear b3 n0 n1 HCn hmk hL hw4 o0 o1 hL4 hI4
  go_upto_region 4 with fail
  rw [HW4.out]
  clear c0 c1 c2 c3 c4 f3
  go_wp2_with (go_at_call 18; refine HCk.out.mono ?_; rintro e w5 ⟨rfl, b5⟩; have p0 := cells_below HO.out.1 b5 (Array.getElem?_eq_some_iff.1 HO.out.1).1; have p1 := cells_below HO.out.2.1 b5 (Array.getElem?_eq_some_iff.1 HO.out.2.1).1; have HB5 := Hid_mkJ (Below.on HB4.out b5); have HG := Hid_mkJ (And.intro (show LAt w5 g (cntL m) from (b5.block g hl4).trans HO.out.2.2) hg); clear b5; obtain ⟨z0, z1, z2, z3, z4⟩ := five p1; have y0 := cells_frozen p1 0; have y1 := cells_frozen p1 1; have y2 := cells_frozen p1 2; have y3 := cells_frozen p1 3; have y4 := cells_frozen p1 4; obtain ⟨q0, q1, q2, q3, q4⟩ := five p0)
  have i1 : w.heap.size ≤ w.heap.size + 1 := Nat.le_succ _
  refine bodyPost_ret (v := .tuple #[.agg #[.int .i64 m.guest, .slice ra m.root.length rc, .slice sa m.slots.length sc, .slice (some ⟨g, 0, none⟩) m.slots.length m.slots.length, .slice na m.snaps.length nc], .int .i64 0]) (by simp [results, Try.results42, go_sem, z0, z1, z2, z3, z4]) rfl ⟨g, by have := HG.out.2; omega, rfl, ?_, ((((HB5.out.setCell i1 _).setCell i1 _).setCell i1 _).setCell i1 _).setCell i1 _⟩
  have hg1 : g ≠ w.heap.size + 1 := by have := HG.out.2; omega
  unfold LAt
  rw [Below.heap_setCell _ ⟨w.heap.size + 1, 4, none⟩ _ g hg1, Below.heap_setCell _ ⟨w.heap.size + 1, 3, none⟩ _ g hg1, Below.heap_setCell _ ⟨w.heap.size + 1, 2, none⟩ _ g hg1, Below.heap_setCell _ ⟨w.heap.size + 1, 1, none⟩ _ g hg1, Below.heap_setCell _ ⟨w.heap.size + 1, 0, none⟩ _ g hg1]
  exact HG.out.1
end Go.Proofs.Ytehleeibgkpjmag
/- What parsed defers: the panic of a reader is caught. -/
namespace Go.Proofs.Ytehleeibgkpjmag
open Go.RowKit Go.Shelf Go.Lib
set_option maxRecDepth 20000
set_option linter.unusedVariables false
set_option linter.unusedSimpArgs false

theorem pcatch_idle (p q : Addr) (w : World) :
    CallsD Try.prog 70 #[.pointer (some p), .pointer (some q)] .returning w fun e u' w' => e = .returned (.tuple #[]) ∧ u' = .returning ∧ w' = w := by
  refine callsD_of_wpS Try.func70 rfl fun c₀ cs hu => ?_
  apply wpS_seq
  apply wpS_region
  simp [wpOpsS, go_sem, recoverD, hu, Try.ntmps70, Exit.thenS]
  refine wpS_of_wp ?_
  simp only [Array.replicate_succ, Array.replicate_zero, List.push_toArray, List.append_toArray, List.nil_append, List.cons_append, List.setIfInBounds_toArray, List.set_cons_zero, List.set_cons_succ]
  go_wp2
  cases c₀
  simp_all [bodyPostS, results, Try.results70]
set_option maxHeartbeats 2000000 in
theorem pcatch_wrong (b c : Nat) (x0 x1 x2 x3 x4 y : Value) (older : List PanicEntry) (w : World) (hm : w.heap[b]? = some (.cells #[x0, x1, x2, x3, x4] 26)) (hc : w.heap[c]? = some (.cells #[y] 4)) (hbc : ¬ b = c) :
    CallsD Try.prog 70 #[.pointer (some ⟨b, 0, none⟩), .pointer (some ⟨c, 0, none⟩)] (.panicking ({ v := .iface 110 (.agg #[]), recovered := false } :: older)) w fun e u' w' =>
      e = .returned (.tuple #[]) ∧ u' = .panicking ({ v := .iface 110 (.agg #[]), recovered := true } :: older) ∧ w' = ((((((w.setCell ⟨b, 0, none⟩ (.int .i64 0)).setCell ⟨b, 1, none⟩ (.slice none 0 0)).setCell ⟨b, 2, none⟩ (.slice none 0 0)).setCell ⟨b, 3, none⟩ (.slice none 0 0)).setCell ⟨b, 4, none⟩ (.slice none 0 0)).setCell ⟨c, 0, none⟩ (.bool false)).alloc (.cells #[] 110) := by
  have hta : ∀ w, (Instr.typeAssert (.iface 110 (.agg #[])) 20 110 true).run Try.prog w = .ok (.tuple #[.agg #[], .bool true]) w := fun w => by kernel_rfl
  have hcb : ¬ c = b := fun e => hbc e.symm
  have lb := (Array.getElem?_eq_some_iff.1 hm).1
  have lc := (Array.getElem?_eq_some_iff.1 hc).1
  have nb : ¬ b = w.heap.size := by omega
  have nc : ¬ c = w.heap.size := by omega
  obtain ⟨m0, m1, m2, m3, m4⟩ := five hm
  have f0 := cells_frozen hm 0
  have f1 := cells_frozen hm 1
  have f2 := cells_frozen hm 2
  have f3 := cells_frozen hm 3
  have f4 := cells_frozen hm 4
  have c0 : w.cell? ⟨c, 0, none⟩ = some y := by simp [World.cell?, hc]
  have g0 := cells_frozen hc 0
  have hmA := cells_alloc hm (.cells #[] 110)
  obtain ⟨n0, n1, n2, n3, n4⟩ := five hmA
  have hcA := cells_alloc hc (.cells #[] 110)
  have d0 : (w.alloc (.cells #[] 110)).cell? ⟨c, 0, none⟩ = some y := by simp [World.cell?, hcA]
  clear hm hc hmA hcA
  refine callsD_of_wpS Try.func70 rfl fun c₀ cs hu => ?_
  apply wpS_seq
  apply wpS_region
  simp [wpOpsS, go_sem, recoverD, hu, Try.ntmps70, Exit.thenS]
  refine wpS_of_wp ?_
  simp only [Array.replicate_succ, Array.replicate_zero, List.push_toArray, List.append_toArray, List.nil_append, List.cons_append, List.setIfInBounds_toArray, List.set_cons_zero, List.set_cons_succ]
  go_wp2
  cases c₀
  simp_all [bodyPostS, results, Try.results70]
end Go.Proofs.Ytehleeibgkpjmag
/- Contract of firstEntries: a list of its own, the first n as they were, 0 behind. -/
namespace Go.Proofs.Ytehleeibgkpjmag
open Go.RowKit
end Go.Proofs.Ytehleeibgkpjmag
/- Contracts of With and Cut, and of the document's WithOf and CutOf: the same answers, each in a list of its own. -/
namespace Go.Proofs.Ytehleeibgkpjmag
open Go.RowKit
end Go.Proofs.Ytehleeibgkpjmag
/- Contracts of Cut, and of the document's WithOf and CutOf. -/
namespace Go.Proofs.Ytehleeibgkpjmag
open Go.RowKit
end Go.Proofs.Ytehleeibgkpjmag
/- Contract of SameInts. -/
namespace Go.Proofs.Ytehleeibgkpjmag
open Go.RowKit
set_option maxRecDepth 20000

theorem same_at (ao bo : Option Addr) (n cap cap' : Nat) (xs : List Int) (w : World) (hn : xs.length = n) (hm : n ≤ 9223372036854775807)
    (hc : ∀ j, j < n → ∃ b off, ao = some ⟨b, off, none⟩ ∧ b < w.heap.size ∧ w.cell? ⟨b, off + j, none⟩ = some (.int .i64 (xs.getD j 0)))
    (hd : ∀ j, j < n → ∃ b off, bo = some ⟨b, off, none⟩ ∧ b < w.heap.size ∧ w.cell? ⟨b, off + j, none⟩ = some (.int .i64 (xs.getD j 0))) :
    Calls Try.prog 33 #[.slice ao n cap, .slice bo n cap'] w fun r w' => r = .returned (.bool true) ∧ Below w.heap.size w w' := by
  have HC : Hid (∀ j, j < n → ∃ b off, ao = some ⟨b, off, none⟩ ∧ b < w.heap.size ∧ w.cell? ⟨b, off + j, none⟩ = some (.int .i64 (xs.getD j 0))) := hc
  have HD : Hid (∀ j, j < n → ∃ b off, bo = some ⟨b, off, none⟩ ∧ b < w.heap.size ∧ w.cell? ⟨b, off + j, none⟩ = some (.int .i64 (xs.getD j 0))) := hd
  clear hc hd
  have HN : Hid (xs.length = n) := hn
  clear hn
  go_enter Try.func33, Try.ntmps33
  go_wp2
  go_loopw [5] (fun i wr => ∃ k : Nat, k ≤ n ∧ i = .int .i64 k ∧ Below w.heap.size w wr) (fun i _ => n - (intOf i).toNat)
  case atStart => exact ⟨0, by omega, rfl, Below.refl _ _⟩
  case round =>
    obtain ⟨k, hk, rfl, hbel⟩ := hrel
    by_cases hlt : k < n
    · obtain ⟨x, hx⟩ : ∃ x, xs.getD k 0 = x := ⟨_, rfl⟩
      obtain ⟨b, off, hao, hl1, hck⟩ := HC.out k hlt
      obtain ⟨b', off', hbo, hl2, hck'⟩ := HD.out k hlt
      rw [hx] at hck hck'
      clear hx
      have g1 : wr.cell? ⟨b, off + k, none⟩ = some (.int .i64 x) := (hbel.cell (p := ⟨b, off + k, none⟩) hl1).trans hck
      have g2 : wr.cell? ⟨b', off' + k, none⟩ = some (.int .i64 x) := (hbel.cell (p := ⟨b', off' + k, none⟩) hl2).trans hck'
      have i1 : (k : Int) < (n : Int) := by omega
      go_wp2
      go_quiet (fail)
      go_wp2
      go_roundw
      case rel => exact ⟨k + 1, by omega, by go_num, below_drewN hbel _⟩
      case measure => simp [intOf]; omega
    · have e4 : k = n := by omega
      subst e4
      go_wp2
      go_ret
      exact ⟨rfl, hbel⟩
theorem same_any {v u : Value} {xs : List Int} {w : World} (h : Sl w v xs) (k : Sl w u xs) :
    Calls Try.prog 33 #[v, u] w fun r w' => r = .returned (.bool true) ∧ Below w.heap.size w w' := by
  obtain ⟨ao, cap, rfl⟩ := h.form
  obtain ⟨bo, cap', rfl⟩ := k.form
  obtain ⟨hn, hm, _, hc⟩ := h.cells
  obtain ⟨_, _, _, hd⟩ := k.cells
  exact same_at ao bo _ cap cap' xs w hn hm hc hd

end Go.Proofs.Ytehleeibgkpjmag
/- Contract of the document's lay, of an image as the document makes it. -/
namespace Go.Proofs.Ytehleeibgkpjmag
open Go.RowKit Go.Shelf
end Go.Proofs.Ytehleeibgkpjmag
/- Contract of the document's counted, of an image as the document makes it. -/
namespace Go.Proofs.Ytehleeibgkpjmag
open Go.RowKit Go.Shelf
end Go.Proofs.Ytehleeibgkpjmag
