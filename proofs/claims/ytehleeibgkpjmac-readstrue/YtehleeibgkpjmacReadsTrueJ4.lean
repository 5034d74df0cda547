/- Texts joined: RefD, RefE, TChk2, TLook, Z4, RtI. -/
import Derived.Test.YtehleeibgkpjmacReadsTrueJ3
import Derived.Deep.QuietTactic
import Derived.BigQuiet
import Derived.WalkKit
set_option linter.unusedVariables false
set_option linter.unusedSimpArgs false
/- Contract of the document's ShapeOf. -/
namespace Go.Proofs.Ytehleeibgkpjmac
open Go.RowKit Go.Shelf
set_option maxRecDepth 20000

theorem shapeOf_many (gm : Int) (ra : Option Addr) (rn rc : Nat) (sa : Option Addr) (sn sc : Nat) (fa : Option Addr) (fn fc : Nat) (na : Option Addr) (nn nc : Nat) (w : World) (hn : decide ((1 : Int) ≤ (sn : Int) ∧ (sn : Int) ≤ 40) = false ∨ 3 < nn) (_h : nn ≤ 9223372036854775807) :
    Calls Try.prog 47 #[.agg #[.int .i64 gm, .slice ra rn rc, .slice sa sn sc, .slice fa fn fc, .slice na nn nc]] w fun r w' => r = .returned (.int .i64 2) ∧ Below w.heap.size w w' := by
  have b0 : Below w.heap.size w (w.alloc (.cells #[.int .i64 gm, .slice ra rn rc, .slice sa sn sc, .slice fa fn fc, .slice na nn nc] 26)) := (Below.refl _ _).alloc (Nat.le_refl _) _
  cases hd : decide ((1 : Int) ≤ (sn : Int) ∧ (sn : Int) ≤ 40) with
  | false =>
    have HD : Hid (decide ((1 : Int) ≤ (sn : Int) ∧ (sn : Int) ≤ 40) = false) := hd
    clear hn hd
    go_enter Try.func47, Try.ntmps47
    go_wp2_with (go_at_call 46; refine (within_any _ _ _ _).mono ?_; rintro e w' ⟨rfl, hw⟩; subst hw; rw [HD.out])
    go_ret
    exact ⟨rfl, b0⟩
  | true =>
    have hn3 : (3 : Int) < (nn : Int) := by
      rcases hn with h | h
      · rw [hd] at h; cases h
      · omega
    have HD : Hid (decide ((1 : Int) ≤ (sn : Int) ∧ (sn : Int) ≤ 40) = true) := hd
    clear hn hd
    go_enter Try.func47, Try.ntmps47
    go_wp2_with (go_at_call 46; refine (within_any _ _ _ _).mono ?_; rintro e w' ⟨rfl, hw⟩; subst hw; rw [HD.out])
    go_ret
    exact ⟨rfl, b0⟩

theorem shapeOf_form (gm : Int) (ra : Option Addr) (rn rc : Nat) (sa : Option Addr) (sn sc : Nat) (fa : Option Addr) (fn fc : Nat) (na : Option Addr) (nn nc : Nat) (L : List SlotD) (E : Int) (w : World) (hd : decide ((1 : Int) ≤ (sn : Int) ∧ (sn : Int) ≤ 40) = true) (hn : nn ≤ 3) (hs : Slots w (.slice sa sn sc) L) (hE : slotsE L = E) (_hf : fn ≤ 9223372036854775807) (hor : E ≠ 0 ∨ fn ≠ sn) :
    Calls Try.prog 47 #[.agg #[.int .i64 gm, .slice ra rn rc, .slice sa sn sc, .slice fa fn fc, .slice na nn nc]] w fun r w' => r = .returned (.int .i64 1) ∧ Below w.heap.size w w' := by
  have b0 : Below w.heap.size w (w.alloc (.cells #[.int .i64 gm, .slice ra rn rc, .slice sa sn sc, .slice fa fn fc, .slice na nn nc] 26)) := (Below.refl _ _).alloc (Nat.le_refl _) _
  have m0 : (w.alloc (.cells #[.int .i64 gm, .slice ra rn rc, .slice sa sn sc, .slice fa fn fc, .slice na nn nc] 26)).heap[w.heap.size]? = some (.cells #[.int .i64 gm, .slice ra rn rc, .slice sa sn sc, .slice fa fn fc, .slice na nn nc] 26) := World.alloc_heap_new _ _
  have HD : Hid (decide ((1 : Int) ≤ (sn : Int) ∧ (sn : Int) ≤ 40) = true) := hd
  have hcall := slotsError_is (hs.below b0) hE
  have hn3 : ¬ (3 : Int) < (nn : Int) := by omega
  clear hd hs hE
  by_cases h0 : E = 0
  · have hfn : ((fn : Int) != (sn : Int)) = true := by
      rcases hor with h | h
      · exact absurd h0 h
      · simp; omega
    subst h0
    clear hor
    go_enter Try.func47, Try.ntmps47
    go_wp2_with (first | (go_at_call 46; refine (within_any _ _ _ _).mono ?_; rintro e w' ⟨rfl, hw⟩; subst hw; rw [HD.out]) | (go_at_call 78; refine hcall.mono ?_; rintro e w1 ⟨rfl, b1⟩; have m1 := cells_below m0 b1 (by simp); obtain ⟨c0, c1, c2, c3, c4⟩ := five m1))
    go_ret
    exact ⟨rfl, Below.on b0 b1⟩
  · have hb : (E != 0) = true := by simp [h0]
    clear hor h0
    go_enter Try.func47, Try.ntmps47
    go_wp2_with (first | (go_at_call 46; refine (within_any _ _ _ _).mono ?_; rintro e w' ⟨rfl, hw⟩; subst hw; rw [HD.out]) | (go_at_call 78; refine hcall.mono ?_; rintro e w1 ⟨rfl, b1⟩; have m1 := cells_below m0 b1 (by simp); obtain ⟨c0, c1, c2, c3, c4⟩ := five m1))
    go_ret
    exact ⟨rfl, Below.on b0 b1⟩

theorem isNameOf_is {s : ByteArray} (w : World) {B : Bool} (hB : isNm s = B) : Calls Try.prog 79 #[.string s] w fun r w' => r = .returned (.bool B) ∧ w' = w := by subst hB; exact isNameOf_any s w

set_option linter.unusedSimpArgs false in
set_option maxRecDepth 20000 in
set_option maxHeartbeats 8000000 in
theorem shapeOf_at (gm : Int) (ra : Option Addr) (rn rc : Nat) (sb so : Nat) (sn sc : Nat) (fa : Option Addr) (fn fc : Nat) (na : Option Addr) (nn nc : Nat) (m : ImgD) (E : Int) (w : World)
    (h : Img w (.agg #[.int .i64 gm, .slice ra rn rc, .slice (some ⟨sb, so, none⟩) sn sc, .slice fa fn fc, .slice na nn nc]) m) (hsn : m.slots.length = sn) (hnn : m.snaps.length = nn) (hgm : m.guest = gm) (hn3 : nn ≤ 3) (hfs : fn = sn) (hsb : sb < w.heap.size) (hcl : ∀ j, (h : j < m.slots.length) → SlAt w sb (so + j * 3) m.slots[j]) (hs : slotsE m.slots = 0)
    (hr : Sl w (.slice ra rn rc) m.root) (hna : ∀ j, (h : j < m.snaps.length) → ∃ b off, na = some ⟨b, off, none⟩ ∧ b < w.heap.size ∧ SnAt w b (off + j * 3) m.snaps[j])
    (hE : shapeE m = E) (hrf : m.refs.length = m.slots.length) :
    Calls Try.prog 47 #[.agg #[.int .i64 gm, .slice ra rn rc, .slice (some ⟨sb, so, none⟩) sn sc, .slice fa fn fc, .slice na nn nc]] w fun r w' => r = .returned (.int .i64 E) ∧ Below w.heap.size w w' := by
  have b0 : Below w.heap.size w (w.alloc (.cells #[.int .i64 gm, .slice ra rn rc, .slice (some ⟨sb, so, none⟩) sn sc, .slice fa fn fc, .slice na nn nc] 26)) := (Below.refl _ _).alloc (Nat.le_refl _) _
  have m0 : (w.alloc (.cells #[.int .i64 gm, .slice ra rn rc, .slice (some ⟨sb, so, none⟩) sn sc, .slice fa fn fc, .slice na nn nc] 26)).heap[w.heap.size]? = some (.cells #[.int .i64 gm, .slice ra rn rc, .slice (some ⟨sb, so, none⟩) sn sc, .slice fa fn fc, .slice na nn nc] 26) := World.alloc_heap_new _ _
  have hsl : Slots w (.slice (some ⟨sb, so, none⟩) sn sc) m.slots := by
    obtain ⟨_, _, _, _, e, _, h2, _⟩ := h
    simp at e
    obtain ⟨_, _, e2, _⟩ := e
    rw [← e2] at h2; exact h2
  have h40 : sn ≤ 40 := by rw [← hsn]; exact (slotsE_parts hs).2
  have h1s : 1 ≤ sn := by rw [← hsn]; exact (slotsE_parts hs).1
  have HD : Hid (decide ((1 : Int) ≤ (sn : Int) ∧ (sn : Int) ≤ 40) = true) := decide_eq_true (by omega)
  have hse := slotsError_is (hsl.below b0) hs
  have hn3i : ¬ (3 : Int) < (nn : Int) := by omega
  subst hfs
  have HT : Hid (E = if namesOK m.snaps = false then 1 else tailE m.slots (rootsOf m)) := by
    show _ = _
    rw [← hE]
    unfold shapeE tailE
    rw [if_neg (by rw [hnn]; omega), if_neg (by simpa using hs)]
    by_cases hN : namesOK m.snaps = false
    · rw [if_pos (.inr hN), if_pos hN]
    · rw [if_neg (fun h => h.elim (fun h => h hrf) hN), if_neg hN]
  have F1 : Hid (∀ k, k < nn → nmAt m.snaps k = false → E = 1) := fun k hk hb => by
    rw [HT.out, if_pos (namesOK_bad (by rw [hnn]; exact hk) hb)]
  have F2 : Hid (namesOK m.snaps = true → ∀ s ∈ rootsOf m, guestOK s.2.1 = false → E = 3) := fun hN s hm hg => by
    rw [HT.out, if_neg (by rw [hN]; decide)]
    unfold tailE
    rw [if_pos]
    rw [← Bool.not_eq_true, List.all_eq_true]
    intro hall
    have := hall s hm
    rw [hg] at this; cases this
  have F3 : Hid (namesOK m.snaps = true → (rootsOf m).all (fun s => guestOK s.2.1) = true → ∀ n, (hn : n < m.slots.length) → ∀ i, i < m.slots[n].2.2.length → entP m.slots (m.slots[n].2.2.getD i 0) = false → E = 1) := fun hN hG n hn i hi hb => by
    rw [HT.out, if_neg (by rw [hN]; decide)]
    unfold tailE
    rw [if_neg (by rw [hG]; decide), if_pos]
    rw [← Bool.not_eq_true, ← tabsP_eq hs, List.all_eq_true]
    intro hall
    have := all_at (hall _ (List.getElem_mem hn)) hi
    rw [hb] at this; cases this
  have F4 : Hid (namesOK m.snaps = true → (rootsOf m).all (fun s => guestOK s.2.1) = true → tabFit m.slots = true → ∀ s ∈ rootsOf m, rootFit m.slots s.2.1 s.2.2 = false → E = 1) := fun hN hG hT s hm hb => by
    rw [HT.out, if_neg (by rw [hN]; decide)]
    unfold tailE
    rw [if_neg (by rw [hG]; decide), if_neg (by rw [hT]; decide), if_pos]
    rw [← Bool.not_eq_true, List.all_eq_true]
    intro hall
    have := hall s hm
    rw [hb] at this; cases this
  have F5 : Hid (namesOK m.snaps = true → (rootsOf m).all (fun s => guestOK s.2.1) = true → tabFit m.slots = true → (rootsOf m).all (fun s => rootFit m.slots s.2.1 s.2.2) = true → E = 0) := fun hN hG hT hR => by
    rw [HT.out, if_neg (by rw [hN]; decide)]
    unfold tailE
    rw [if_neg (by rw [hG]; decide), if_neg (by rw [hT]; decide), if_neg (by rw [hR]; decide)]
  have H1 : Hid (m.slots.length = fn ∧ m.snaps.length = nn ∧ m.guest = gm) := ⟨hsn, hnn, hgm⟩
  have H2 : Hid (∀ j, (h : j < m.slots.length) → SlAt w sb (so + j * 3) m.slots[j]) := hcl
  have H3 : Hid (∀ j, (h : j < m.snaps.length) → ∃ b off, na = some ⟨b, off, none⟩ ∧ b < w.heap.size ∧ SnAt w b (off + j * 3) m.snaps[j]) := hna
  have H4 : Hid (slotsE m.slots = 0) := hs
  have H6 : Hid (Img w (.agg #[.int .i64 gm, .slice ra rn rc, .slice (some ⟨sb, so, none⟩) fn sc, .slice fa fn fc, .slice na nn nc]) m) := h
  have H7 : Hid (Sl w (.slice ra rn rc) m.root) := hr
  have hfn0 : ((fn : Int) != (fn : Int)) = false := by simp
  clear hsn hnn hgm hcl hna hs h hr HT hE hrf hsl
  go_enter Try.func47, Try.ntmps47
  go_wp2_with (first | (go_at_call 46; refine (within_any _ _ _ _).mono ?_; rintro e w' ⟨rfl, hw⟩; subst hw; rw [HD.out]) | (go_at_call 78; refine hse.mono ?_; rintro e w1 ⟨rfl, b1⟩; have m1 := cells_below m0 b1 (by simp); obtain ⟨c0, c1, c2, c3, c4⟩ := five m1))
  clear hse HD
  go_loopw [3] (fun i wr => ∃ k : Nat, k ≤ nn ∧ i = .int .i64 k ∧ Hid (∀ j, j < k → nmAt m.snaps j = true) ∧ Below w1.heap.size w1 wr) (fun i _ => nn - (intOf i).toNat)
  case atStart => exact ⟨0, Nat.zero_le _, rfl, fun j hj => absurd hj (by omega), Below.refl _ _⟩
  case round =>
    obtain ⟨k, hk, rfl, HA, hbel⟩ := hrel
    have hszw1 : w.heap.size < w1.heap.size := (Array.getElem?_eq_some_iff.1 m1).1
    have mr := cells_below m1 hbel hszw1
    have hbw := Below.on (Below.on b0 b1) hbel
    clear c0 c1 c2 c3 c4
    obtain ⟨c0, c1, c2, c3, c4⟩ := five mr
    by_cases hlk : k < nn
    · obtain ⟨b, off, rfl, hlt, hS⟩ := H3.out k (by rw [H1.out.2.1]; exact hlk)
      obtain ⟨s, hs⟩ : ∃ s, s = m.snaps[k]'(by rw [H1.out.2.1]; exact hlk) := ⟨_, rfl⟩
      obtain ⟨nm, gg, rr⟩ := s
      rw [← hs] at hS
      obtain ⟨rv, s1, s2, s3, hsl⟩ := hS
      have s1 : wr.cell? ⟨b, off + k * 3, none⟩ = some (.string nm) := (hbw.cell (p := ⟨b, off + k * 3, none⟩) hlt).trans s1
      have HE : Hid (∀ hk0 : k = 0, nmAt m.snaps k = isNm nm) := fun hk0 => by
        have := nmAt_0 (L := m.snaps) (by rw [H1.out.2.1]; omega)
        have e : m.snaps[0]'(by rw [H1.out.2.1]; omega) = (nm, gg, rr) := by rw [hs]; simp [hk0]
        rw [hk0, this, e]
      have HP : Hid (∀ hk0 : 1 ≤ k, ∃ pn, wr.cell? ⟨b, off + (k - 1) * 3, none⟩ = some (.string pn) ∧ nmAt m.snaps k = (isNm nm && Op.bytesLess pn.toList nm.toList)) := fun hk0 => by
        obtain ⟨b', off', e, _, hS'⟩ := H3.out (k - 1) (by rw [H1.out.2.1]; omega)
        simp at e
        obtain ⟨rfl, rfl⟩ := e
        obtain ⟨_, d1, _⟩ := hS'
        refine ⟨_, (hbw.cell (p := ⟨b, off + (k - 1) * 3, none⟩) hlt).trans d1, ?_⟩
        rw [nmAt_at (L := m.snaps) (by rw [H1.out.2.1]; exact hlk) hk0, ← hs]
      have HGo : Hid (nmAt m.snaps k = true → ∀ j, j < k + 1 → nmAt m.snaps j = true) := fun h j hj => by
        by_cases e : j = k
        · subst e; exact h
        · exact HA.out j (by omega)
      have HBad : Hid (nmAt m.snaps k = false → E = 1) := F1.out k hlk
      have h3 : k = 0 ∨ k = 1 ∨ k = 2 := by omega
      clear hs hsl HA s2 s3 b1 m1
      rcases h3 with rfl | h3
      · have hki : (0 : Int) < (nn : Int) := by omega
        clear hlk
        have s1 : wr.cell? ⟨b, off, none⟩ = some (.string nm) := s1
        simp only [Int.cast_ofNat_Int]
        have HK : Hid (nmAt m.snaps 0 = isNm nm) := HE.out rfl
        clear HE HP
        cases hq : isNm nm with
        | true =>
          go_wp2_with fail
          go_quiet ((go_at_call 79; exact Calls.quiet_of_same (isNameOf_is _ hq)))
          go_wp2_with fail
          go_roundw
          case rel => exact ⟨1, by omega, by rfl, HGo.out (by rw [HK.out]; exact hq), ⟨hbel.os, hbel.tape, hbel.output, hbel.size, hbel.block⟩⟩
          case measure => simp [intOf]; omega
        | false =>
          have HB1 : Hid (E = 1) := HBad.out (by rw [HK.out]; exact hq)
          go_wp2_with fail
          go_quiet ((go_at_call 79; exact Calls.quiet_of_same (isNameOf_is _ hq)))
          go_wp2_with fail
          go_ret
          exact ⟨ret_int HB1.out.symm, ⟨hbw.os, hbw.tape, hbw.output, hbw.size, hbw.block⟩⟩
      rcases h3 with rfl | rfl
      · have hki : (1 : Int) < (nn : Int) := by omega
        clear hlk
        have s1 : wr.cell? ⟨b, off + 3, none⟩ = some (.string nm) := s1
        simp only [Int.cast_ofNat_Int]
        obtain ⟨pn, d1, hK⟩ := HP.out (by omega)
        have d1 : wr.cell? ⟨b, off, none⟩ = some (.string pn) := d1
        have HK : Hid (nmAt m.snaps 1 = (isNm nm && Op.bytesLess pn.toList nm.toList)) := hK
        have hnl : (0 : Int) < (nn : Int) := by omega
        have hnn : 0 < nn := by omega
        clear HE HP hK
        cases hq : isNm nm with
        | true =>
          cases hla : Op.bytesLess pn.toList nm.toList with
          | true =>
            go_wp2_with fail
            go_quiet ((go_at_call 79; exact Calls.quiet_of_same (isNameOf_is _ hq)))
            go_wp2_with fail
            go_roundw
            case rel => exact ⟨2, by omega, by rfl, HGo.out (by rw [HK.out, hq, hla]; rfl), ⟨hbel.os, hbel.tape, hbel.output, hbel.size, hbel.block⟩⟩
            case measure => simp [intOf]; omega
          | false =>
            have HB1 : Hid (E = 1) := HBad.out (by rw [HK.out, hq, hla]; rfl)
            go_wp2_with fail
            go_quiet ((go_at_call 79; exact Calls.quiet_of_same (isNameOf_is _ hq)))
            go_wp2_with fail
            go_ret
            exact ⟨ret_int HB1.out.symm, ⟨hbw.os, hbw.tape, hbw.output, hbw.size, hbw.block⟩⟩
        | false =>
          have HB1 : Hid (E = 1) := HBad.out (by rw [HK.out, hq]; rfl)
          go_wp2_with fail
          go_quiet ((go_at_call 79; exact Calls.quiet_of_same (isNameOf_is _ hq)))
          go_wp2_with fail
          go_ret
          exact ⟨ret_int HB1.out.symm, ⟨hbw.os, hbw.tape, hbw.output, hbw.size, hbw.block⟩⟩
      · have hki : (2 : Int) < (nn : Int) := by omega
        clear hlk
        have s1 : wr.cell? ⟨b, off + 6, none⟩ = some (.string nm) := s1
        simp only [Int.cast_ofNat_Int]
        obtain ⟨pn, d1, hK⟩ := HP.out (by omega)
        have d1 : wr.cell? ⟨b, off + 3, none⟩ = some (.string pn) := d1
        have HK : Hid (nmAt m.snaps 2 = (isNm nm && Op.bytesLess pn.toList nm.toList)) := hK
        have hnl : (1 : Int) < (nn : Int) := by omega
        have hnn : 1 < nn := by omega
        clear HE HP hK
        cases hq : isNm nm with
        | true =>
          cases hla : Op.bytesLess pn.toList nm.toList with
          | true =>
            go_wp2_with fail
            go_quiet ((go_at_call 79; exact Calls.quiet_of_same (isNameOf_is _ hq)))
            go_wp2_with fail
            go_roundw
            case rel => exact ⟨3, by omega, by rfl, HGo.out (by rw [HK.out, hq, hla]; rfl), ⟨hbel.os, hbel.tape, hbel.output, hbel.size, hbel.block⟩⟩
            case measure => simp [intOf]; omega
          | false =>
            have HB1 : Hid (E = 1) := HBad.out (by rw [HK.out, hq, hla]; rfl)
            go_wp2_with fail
            go_quiet ((go_at_call 79; exact Calls.quiet_of_same (isNameOf_is _ hq)))
            go_wp2_with fail
            go_ret
            exact ⟨ret_int HB1.out.symm, ⟨hbw.os, hbw.tape, hbw.output, hbw.size, hbw.block⟩⟩
        | false =>
          have HB1 : Hid (E = 1) := HBad.out (by rw [HK.out, hq]; rfl)
          go_wp2_with fail
          go_quiet ((go_at_call 79; exact Calls.quiet_of_same (isNameOf_is _ hq)))
          go_wp2_with fail
          go_ret
          exact ⟨ret_int HB1.out.symm, ⟨hbw.os, hbw.tape, hbw.output, hbw.size, hbw.block⟩⟩
    · have e4 : k = nn := by omega
      subst e4
      have HP1 : Hid (namesOK m.snaps = true) := namesOK_good (fun j hj => HA.out j (by rw [H1.out.2.1] at hj; exact hj))
      clear HA F1
      have HG0 : Hid (guestOK gm = decide ((0 : Int) ≤ gm ∧ gm ≤ 16)) := rfl
      cases hg : guestOK gm with
      | false =>
        have HW : Hid (decide ((0 : Int) ≤ gm ∧ gm ≤ 16) = false) := hg
        have HB1 : Hid (E = 3) := F2.out HP1.out (⟨#[]⟩, m.guest, m.root) List.mem_cons_self (by rw [H1.out.2.2]; exact hg)
        clear hg
        go_wp2_with (go_at_call 46; refine (within_any _ _ _ _).mono ?_; rintro e w' ⟨rfl, hw⟩; rw [hw]; clear hw; rw [HW.out])
        go_ret
        exact ⟨ret_int HB1.out.symm, hbw⟩
      | true =>
        have HW : Hid (decide ((0 : Int) ≤ gm ∧ gm ≤ 16) = true) := hg
        have HGm : Hid (guestOK gm = true) := hg
        clear hg
        go_wp2_with (go_at_call 46; refine (within_any _ _ _ _).mono ?_; rintro e w' ⟨rfl, hw⟩; rw [hw]; clear hw; rw [HW.out])
        go_loopw [4] (fun i wq => ∃ q : Nat, q ≤ k ∧ i = .int .i64 q ∧ Hid (∀ j, (h : j < m.snaps.length) → j < q → guestOK m.snaps[j].2.1 = true) ∧ wq = wr) (fun i _ => k - (intOf i).toNat)
        case atStart => exact ⟨0, Nat.zero_le _, rfl, fun j _ hj => absurd hj (by omega), rfl⟩
        case round =>
          obtain ⟨q, hq, rfl, HA, hw⟩ := hrel
          subst hw
          by_cases hlk : q < k
          · have hqm : q < m.snaps.length := by rw [H1.out.2.1]; exact hlk
            obtain ⟨b, off, rfl, hlt, hS⟩ := H3.out q hqm
            obtain ⟨s, hs⟩ : ∃ s, s = m.snaps[q] := ⟨_, rfl⟩
            obtain ⟨nm, gg, rr⟩ := s
            rw [← hs] at hS
            obtain ⟨rv, s1, s2, s3, hsl⟩ := hS
            have s2 : wr.cell? ⟨b, off + q * 3 + 1, none⟩ = some (.int .i64 gg) := (hbw.cell (p := ⟨b, off + q * 3 + 1, none⟩) hlt).trans s2
            have hqi : (q : Int) < (k : Int) := by omega
            have HS : Hid (m.snaps[q] = (nm, gg, rr)) := hs.symm
            clear hs hsl s1 s3
            cases hg : guestOK gg with
            | false =>
              have HV : Hid (decide ((0 : Int) ≤ gg ∧ gg ≤ 16) = false) := hg
              have HB1 : Hid (E = 3) := F2.out HP1.out (nm, gg, rr) (List.mem_cons_of_mem _ (by rw [← HS.out]; exact List.getElem_mem hqm)) hg
              clear hg
              go_wp2_with (go_at_call 46; refine (within_any _ _ _ _).mono ?_; rintro e w' ⟨rfl, hw⟩; rw [hw]; clear hw; rw [HV.out])
              go_ret
              exact ⟨ret_int HB1.out.symm, hbw⟩
            | true =>
              have HV : Hid (decide ((0 : Int) ≤ gg ∧ gg ≤ 16) = true) := hg
              have HG1 : Hid (guestOK gg = true) := hg
              clear hg
              go_wp2_with (go_at_call 46; refine (within_any _ _ _ _).mono ?_; rintro e w' ⟨rfl, hw⟩; rw [hw]; clear hw; rw [HV.out])
              go_roundw
              case rel => exact ⟨q + 1, by omega, by go_num, fun j hj hj1 => by
                by_cases e : j = q
                · subst e; rw [HS.out]; exact HG1.out
                · exact HA.out j hj (by omega), trivial⟩
              case measure => simp [intOf]; omega
          · have HG : Hid ((rootsOf m).all (fun s => guestOK s.2.1) = true) := by
              show _ = _
              unfold rootsOf
              rw [List.all_cons, H1.out.2.2, HGm.out, Bool.true_and, List.all_eq_true]
              intro s hs
              obtain ⟨j, hj, rfl⟩ := List.getElem_of_mem hs
              exact HA.out j hj (by rw [H1.out.2.1] at hj; omega)
            have e4 : q = k := by omega
            subst e4
            clear HA F2 HG0
            go_wp2_with fail
            obtain ⟨wa, hrn⟩ : ∃ X, X = wr := ⟨_, rfl⟩
            subst hrn
            go_loopw [5, 6, 7] (fun i _ _ wq => ∃ n : Nat, n ≤ fn ∧ i = .int .i64 n ∧ Hid (∀ j, (h : j < m.slots.length) → j < n → m.slots[j].2.2.all (entP m.slots) = true) ∧ Below wa.heap.size wa wq) (fun i _ _ _ => fn - (intOf i).toNat)
            case atStart => exact ⟨0, Nat.zero_le _, rfl, fun j _ hj => absurd hj (by omega), Below.refl _ _⟩
            case round =>
              obtain ⟨n, hn, rfl, HA, hbq⟩ := hrel
              obtain ⟨wq, hrn⟩ : ∃ X, X = wr := ⟨_, rfl⟩
              subst hrn
              have hszr : w.heap.size < wa.heap.size := (Array.getElem?_eq_some_iff.1 mr).1
              have mq := cells_below mr hbq hszr
              have hbwq := Below.on hbw hbq
              clear c0 c1 c2 c3 c4
              obtain ⟨c0, c1, c2, c3, c4⟩ := five mq
              by_cases hln : n < fn
              · have hnm : n < m.slots.length := by rw [H1.out.1]; exact hln
                have hni : (n : Int) < (fn : Int) := by omega
                obtain ⟨s, hs⟩ : ∃ s, s = m.slots[n] := ⟨_, rfl⟩
                obtain ⟨kk, dd, tt⟩ := s
                have hS := H2.out n hnm
                rw [← hs] at hS
                obtain ⟨tv, s1, s2, s3, hsl⟩ := hS
                obtain ⟨ta, tc, rfl⟩ := hsl.form
                have ht4 : tt.length ≤ 4 := by
                  have := tab4 H4.out n
                  unfold tabOf at this
                  simpa [List.getD, hnm, ← hs] using this
                have s3 : wq.cell? ⟨sb, so + n * 3 + 2, none⟩ = some (.slice ta tt.length tc) := (hbwq.cell (p := ⟨sb, so + n * 3 + 2, none⟩) hsb).trans s3
                have HS : Hid (m.slots[n] = (kk, dd, tt)) := hs.symm
                have HTc : Hid (∀ j, j < tt.length → ∃ b off, ta = some ⟨b, off, none⟩ ∧ b < w.heap.size ∧ w.cell? ⟨b, off + j, none⟩ = some (.int .i64 (tt.getD j 0))) := hsl.cells.2.2.2
                have F3n : Hid (∀ i, i < tt.length → entP m.slots (tt.getD i 0) = false → E = 1) := fun i hi he => F3.out HP1.out HG.out n hnm i (by rw [HS.out]; exact hi) (by rw [HS.out]; exact he)
                obtain ⟨tn, htn⟩ : ∃ tn, tt.length = tn := ⟨_, rfl⟩
                have HTn : Hid (tt.length = tn) := htn
                rw [htn] at s3 ht4 HTc F3n
                clear hs hsl s1 s2 htn
                go_wp2_with fail
                go_loopw [7] (fun i wp => ∃ u : Nat, u ≤ tn ∧ i = .int .i64 u ∧ Hid (∀ j, j < u → entP m.slots (tt.getD j 0) = true) ∧ Below wq.heap.size wq wp) (fun i _ => tn - (intOf i).toNat)
                case atStart => exact ⟨0, Nat.zero_le _, rfl, fun j hj => absurd hj (by omega), Below.refl _ _⟩
                case round =>
                  obtain ⟨u, hu, rfl, HI, hbp⟩ := hrel
                  obtain ⟨wp, hrn⟩ : ∃ X, X = wr := ⟨_, rfl⟩
                  subst hrn
                  have hszq : w.heap.size < wq.heap.size := (Array.getElem?_eq_some_iff.1 mq).1
                  have mp := cells_below mq hbp hszq
                  have hbwp := Below.on hbwq hbp
                  clear c0 c1 c2 c3 c4
                  obtain ⟨c0, c1, c2, c3, c4⟩ := five mp
                  by_cases hun : u < tn
                  · obtain ⟨b, off, rfl, hlt, hcx⟩ := HTc.out u hun
                    have hui : (u : Int) < (tn : Int) := by omega
                    obtain ⟨x, hx⟩ : ∃ x, tt.getD u 0 = x := ⟨_, rfl⟩
                    rw [hx] at hcx
                    have HX : Hid (tt.getD u 0 = x) := hx
                    have cx : wp.cell? ⟨b, off + u, none⟩ = some (.int .i64 x) := (hbwp.cell (p := ⟨b, off + u, none⟩) hlt).trans hcx
                    have hbwr : b < wp.heap.size := Nat.lt_of_lt_of_le hlt hbwp.size
                    have hszp : w.heap.size < wp.heap.size := (Array.getElem?_eq_some_iff.1 mp).1
                    clear hx hcx
                    by_cases hx0 : 0 < x
                    · obtain ⟨K, hK⟩ : ∃ K, kindN m.slots x = K := ⟨_, rfl⟩
                      have hcall := fun W (hW : Below w.heap.size w W) => kindOf_is (H6.out.below hW) (by rw [H1.out.1]; omega) x hK
                      have HK : Hid (kindN m.slots x = K) := hK
                      clear hK
                      cases hK1 : K != 1 with
                      | true =>
                        have HB1 : Hid (E = 1) := F3n.out u hun (by rw [HX.out]; unfold entP; rw [HK.out, hK1, decide_eq_true hx0]; rfl)
                        go_wp2_with fail
                        go_region_held3 (fun w' => w'.cell? ⟨w.heap.size, 0, none⟩ = some (.int .i64 gm) ∧ w'.cell? ⟨w.heap.size, 0 + 1, none⟩ = some (.slice ra rn rc) ∧ w'.cell? ⟨w.heap.size, 0 + 1 + 1, none⟩ = some (.slice (some ⟨sb, so, none⟩) fn sc) ∧ w'.cell? ⟨w.heap.size, 0 + 1 + 1 + 1, none⟩ = some (.slice fa fn fc) ∧ w'.cell? ⟨w.heap.size, 0 + 1 + 1 + 1 + 1, none⟩ = some (.slice na q nc) ∧ w'.cell? ⟨b, off + u, none⟩ = some (.int .i64 x)) (first | exact ⟨c0, c1, c2, c3, c4, cx⟩ | exact ⟨d0, d1, d2, d3, d4, e1⟩)
                          (first | (go_at_call 80; refine (hcall _ (to_drew hbwp)).mono ?_; rintro e w2 ⟨rfl, b2⟩; have b2 := below_drew b2; have m2 := cells_below mp b2 hszp; obtain ⟨d0, d1, d2, d3, d4⟩ := five m2; have e1 := (b2.cell (p := ⟨b, off + u, none⟩) hbwr).trans cx))
                        go_wp2_with fail
                        go_ret
                        exact ⟨ret_int HB1.out.symm, Below.on hbwp b2⟩
                      | false =>
                        have HOK : Hid (entP m.slots x = true) := by show _ = _; unfold entP; rw [HK.out, hK1]; simp
                        go_wp2_with fail
                        go_region_held3 (fun w' => w'.cell? ⟨w.heap.size, 0, none⟩ = some (.int .i64 gm) ∧ w'.cell? ⟨w.heap.size, 0 + 1, none⟩ = some (.slice ra rn rc) ∧ w'.cell? ⟨w.heap.size, 0 + 1 + 1, none⟩ = some (.slice (some ⟨sb, so, none⟩) fn sc) ∧ w'.cell? ⟨w.heap.size, 0 + 1 + 1 + 1, none⟩ = some (.slice fa fn fc) ∧ w'.cell? ⟨w.heap.size, 0 + 1 + 1 + 1 + 1, none⟩ = some (.slice na q nc) ∧ w'.cell? ⟨b, off + u, none⟩ = some (.int .i64 x)) (first | exact ⟨c0, c1, c2, c3, c4, cx⟩ | exact ⟨d0, d1, d2, d3, d4, e1⟩)
                          (first | (go_at_call 80; refine (hcall _ (to_drew hbwp)).mono ?_; rintro e w2 ⟨rfl, b2⟩; have b2 := below_drew b2; have m2 := cells_below mp b2 hszp; obtain ⟨d0, d1, d2, d3, d4⟩ := five m2; have e1 := (b2.cell (p := ⟨b, off + u, none⟩) hbwr).trans cx))
                        go_wp2_with fail
                        go_roundw
                        case rel => exact ⟨u + 1, by omega, by go_num, fun j hj => by
                          by_cases e : j = u
                          · subst e; rw [HX.out]; exact HOK.out
                          · exact HI.out j (by omega), Below.on hbp b2⟩
                        case measure => simp [intOf]; omega
                    · have hx1 : x ≤ 0 := by omega
                      have hxd : decide (0 < x) = false := decide_eq_false hx0
                      have HOK : Hid (entP m.slots x = true) := by show _ = _; unfold entP; rw [decide_eq_false hx0]; rfl
                      go_wp2_with fail
                      go_quiet (fail)
                      go_wp2_with fail
                      go_roundw
                      case rel => exact ⟨u + 1, by omega, by go_num, fun j hj => by
                        by_cases e : j = u
                        · subst e; rw [HX.out]; exact HOK.out
                        · exact HI.out j (by omega), ⟨hbp.os, hbp.tape, hbp.output, hbp.size, hbp.block⟩⟩
                      case measure => simp [intOf]; omega
                  · have e5 : u = tn := by omega
                    subst e5
                    go_wp2_with fail
                    go_roundw
                    case rel => exact ⟨n + 1, by omega, by go_num, fun j hj hj1 => by
                      by_cases e : j = n
                      · subst e; rw [HS.out, List.all_eq_true]
                        intro y hy
                        obtain ⟨i, hi, rfl⟩ := List.getElem_of_mem hy
                        have := HI.out i (by rw [← HTn.out]; exact hi)
                        simpa [List.getD, hi] using this
                      · exact HA.out j hj (by omega), Below.on hbq hbp⟩
                    case measure => simp [intOf]; omega
              · have HT : Hid (tabFit m.slots = true) := by
                  show _ = _
                  rw [← tabsP_eq H4.out, List.all_eq_true]
                  intro s hs
                  obtain ⟨j, hj, rfl⟩ := List.getElem_of_mem hs
                  exact HA.out j hj (by rw [H1.out.1] at hj; omega)
                have e5 : n = fn := by omega
                clear HA F3
                have hcall := rootFine_is (H6.out.below hbwq) H4.out HGm.out (H7.out.below hbwq) (rfl : rootFit m.slots gm m.root = _)
                cases hrt : rootFit m.slots gm m.root with
                | false =>
                  rw [hrt] at hcall
                  have HB1 : Hid (E = 1) := F4.out HP1.out HG.out HT.out (⟨#[]⟩, m.guest, m.root) List.mem_cons_self (by rw [H1.out.2.2]; exact hrt)
                  clear hrt
                  subst e5
                  go_wp2_with (go_at_call 81; refine hcall.mono ?_; rintro e w2 ⟨rfl, b2⟩)
                  go_ret
                  exact ⟨ret_int HB1.out.symm, Below.on hbwq b2⟩
                | true =>
                  rw [hrt] at hcall
                  have HR0 : Hid (rootFit m.slots gm m.root = true) := hrt
                  clear hrt
                  subst e5
                  go_wp2_with (go_at_call 81; refine hcall.mono ?_; rintro e w2 ⟨rfl, b2⟩)
                  have hszq : w.heap.size < wq.heap.size := (Array.getElem?_eq_some_iff.1 mq).1
                  have m2 := cells_below mq b2 hszq
                  have hbw2 := Below.on hbwq b2
                  clear hcall
                  go_loopw [8] (fun i wp => ∃ u : Nat, u ≤ q ∧ i = .int .i64 u ∧ Hid (∀ j, (h : j < m.snaps.length) → j < u → rootFit m.slots m.snaps[j].2.1 m.snaps[j].2.2 = true) ∧ Below w2.heap.size w2 wp) (fun i _ => q - (intOf i).toNat)
                  case atStart => exact ⟨0, Nat.zero_le _, rfl, fun j _ hj => absurd hj (by omega), Below.refl _ _⟩
                  case round =>
                    obtain ⟨u, hu, rfl, HA, hbp⟩ := hrel
                    obtain ⟨wp, hrn⟩ : ∃ X, X = wr := ⟨_, rfl⟩
                    subst hrn
                    have hsz2 : w.heap.size < w2.heap.size := (Array.getElem?_eq_some_iff.1 m2).1
                    have mp := cells_below m2 hbp hsz2
                    have hbwp := Below.on hbw2 hbp
                    clear c0 c1 c2 c3 c4
                    obtain ⟨c0, c1, c2, c3, c4⟩ := five mp
                    have hszp : w.heap.size < wp.heap.size := (Array.getElem?_eq_some_iff.1 mp).1
                    by_cases hlu : u < q
                    · have hum : u < m.snaps.length := by rw [H1.out.2.1]; exact hlu
                      obtain ⟨b, off, rfl, hlt, hS⟩ := H3.out u hum
                      obtain ⟨s, hs⟩ : ∃ s, s = m.snaps[u] := ⟨_, rfl⟩
                      obtain ⟨nm, gg, rr⟩ := s
                      rw [← hs] at hS
                      obtain ⟨rv, s1, s2, s3, hsl⟩ := hS
                      have hmem : (nm, gg, rr) ∈ rootsOf m := List.mem_cons_of_mem _ (by rw [hs]; exact List.getElem_mem hum)
                      have hgg : guestOK gg = true := List.all_eq_true.1 HG.out _ hmem
                      have hbwr : b < wp.heap.size := Nat.lt_of_lt_of_le hlt hbwp.size
                      have s2 : wp.cell? ⟨b, off + u * 3 + 1, none⟩ = some (.int .i64 gg) := (hbwp.cell (p := ⟨b, off + u * 3 + 1, none⟩) hlt).trans s2
                      have s3 : wp.cell? ⟨b, off + u * 3 + 2, none⟩ = some rv := (hbwp.cell (p := ⟨b, off + u * 3 + 2, none⟩) hlt).trans s3
                      obtain ⟨va, vc, rfl⟩ := hsl.form
                      have hui : (u : Int) < (q : Int) := by omega
                      obtain ⟨B, hB⟩ : ∃ B, rootFit m.slots gg rr = B := ⟨_, rfl⟩
                      have hcall := fun W (hW : Below w.heap.size w W) => rootFine_is (H6.out.below hW) H4.out hgg (hsl.below hW) hB
                      have HS : Hid (m.snaps[u] = (nm, gg, rr) ∧ rootFit m.slots gg rr = B ∧ (nm, gg, rr) ∈ rootsOf m) := ⟨hs.symm, hB, hmem⟩
                      clear hs hsl s1 hB hgg hmem
                      go_wp2_with fail
                      go_region_held3 (fun w' => w'.cell? ⟨w.heap.size, 0, none⟩ = some (.int .i64 gm) ∧ w'.cell? ⟨w.heap.size, 0 + 1, none⟩ = some (.slice ra rn rc) ∧ w'.cell? ⟨w.heap.size, 0 + 1 + 1, none⟩ = some (.slice (some ⟨sb, so, none⟩) n sc) ∧ w'.cell? ⟨w.heap.size, 0 + 1 + 1 + 1, none⟩ = some (.slice fa n fc) ∧ w'.cell? ⟨w.heap.size, 0 + 1 + 1 + 1 + 1, none⟩ = some (.slice (some ⟨b, off, none⟩) q nc) ∧ w'.cell? ⟨b, off + u * 3 + 1, none⟩ = some (.int .i64 gg) ∧ w'.cell? ⟨b, off + u * 3 + 2, none⟩ = some (.slice va rr.length vc)) (first | exact ⟨c0, c1, c2, c3, c4, s2, s3⟩ | exact ⟨d0, d1, d2, d3, d4, e1, e2⟩)
                        (first | (go_at_call 81; refine (hcall _ (to_drew hbwp)).mono ?_; rintro e w3 ⟨rfl, b3⟩; have b3 := below_drew b3; have m3 := cells_below mp b3 hszp; obtain ⟨d0, d1, d2, d3, d4⟩ := five m3; have e1 := (b3.cell (p := ⟨b, off + u * 3 + 1, none⟩) hbwr).trans s2; have e2 := (b3.cell (p := ⟨b, off + u * 3 + 2, none⟩) hbwr).trans s3))
                      cases B with
                      | false =>
                        have HB1 : Hid (E = 1) := F4.out HP1.out HG.out HT.out _ HS.out.2.2 HS.out.2.1
                        go_wp2_with fail
                        go_ret
                        exact ⟨ret_int HB1.out.symm, Below.on hbwp b3⟩
                      | true =>
                        go_wp2_with fail
                        go_roundw
                        case rel => exact ⟨u + 1, by omega, by go_num, fun j hj hj1 => by
                          by_cases e : j = u
                          · subst e; rw [HS.out.1]; exact HS.out.2.1
                          · exact HA.out j hj (by omega), Below.on hbp b3⟩
                        case measure => simp [intOf]; omega
                    · have HR : Hid ((rootsOf m).all (fun s => rootFit m.slots s.2.1 s.2.2) = true) := by
                        show _ = _
                        unfold rootsOf
                        rw [List.all_cons, H1.out.2.2, HR0.out, Bool.true_and, List.all_eq_true]
                        intro s hs
                        obtain ⟨j, hj, rfl⟩ := List.getElem_of_mem hs
                        exact HA.out j hj (by rw [H1.out.2.1] at hj; omega)
                      have HB1 : Hid (E = 0) := F5.out HP1.out HG.out HT.out HR.out
                      have e6 : u = q := by omega
                      subst e6
                      go_wp2_with fail
                      go_ret
                      exact ⟨ret_int HB1.out.symm, hbwp⟩

theorem Snaps.at {w : World} {sa : Option Addr} {n sc : Nat} {L : List SnapD} (h : Snaps w (.slice sa n sc) L) : ∀ j, (h : j < L.length) → ∃ sb so, sa = some ⟨sb, so, none⟩ ∧ sb < w.heap.size ∧ SnAt w sb (so + j * 3) L[j] := by
  intro j hj
  obtain ⟨sb, so, sc', e, _, hsb, hcl⟩ := h.open (by omega)
  simp at e
  exact ⟨sb, so, e.1, hsb, hcl j hj⟩
theorem shapeOf_is {w : World} {v : Value} {m : ImgD} (h : Img w v m) {E : Int} (hE : shapeE m = E) :
    Calls Try.prog 47 #[v] w fun r w' => r = .returned (.int .i64 E) ∧ Below w.heap.size w w' := by
  have h' := h
  obtain ⟨ra, rc, sa, sc, fa, fc, na, nc, rfl, h1, h2, h3, h4⟩ := h.parts
  by_cases hm : decide ((1 : Int) ≤ (m.slots.length : Int) ∧ (m.slots.length : Int) ≤ 40) = false ∨ 3 < m.snaps.length
  · have e2 : E = 2 := by
      rw [← hE]
      unfold shapeE
      by_cases h3 : 3 < m.snaps.length
      · rw [if_pos h3]
      · have hd := hm.resolve_right h3
        have : slotsE m.slots = 2 := by
          unfold slotsE
          rw [if_neg]
          intro hh
          rw [decide_eq_true (by omega)] at hd; cases hd
        rw [if_neg h3, this, if_pos (by decide)]
    subst e2
    exact shapeOf_many m.guest ra _ rc sa _ sc fa _ fc na _ nc w hm h4.small
  · have hd : decide ((1 : Int) ≤ (m.slots.length : Int) ∧ (m.slots.length : Int) ≤ 40) = true := by
      cases e : decide ((1 : Int) ≤ (m.slots.length : Int) ∧ (m.slots.length : Int) ≤ 40) with
      | true => rfl
      | false => exact absurd (.inl e) hm
    have h3' : m.snaps.length ≤ 3 := by
      rcases Nat.lt_or_ge 3 m.snaps.length with h | h
      · exact absurd (.inr h) hm
      · exact h
    by_cases hor : slotsE m.slots ≠ 0 ∨ m.refs.length ≠ m.slots.length
    · have e1 : E = 1 := by
        rw [← hE]
        unfold shapeE
        rw [if_neg (by omega)]
        by_cases hs : slotsE m.slots = 0
        · rw [if_neg (by simpa using hs), if_pos (.inl (hor.resolve_left (by simpa using hs)))]
        · rw [if_pos hs]
          rcases slotsE_012 m.slots with h | h | h
          · exact absurd h hs
          · exact h
          · exfalso
            unfold slotsE at h
            simp only [decide_eq_true_eq] at hd
            rw [if_pos (by omega)] at h
            split at h <;> simp at h
      subst e1
      exact shapeOf_form m.guest ra _ rc sa _ sc fa _ fc na _ nc m.slots _ w hd h3' h2 rfl h3.small hor
    · have hs : slotsE m.slots = 0 := Classical.byContradiction fun e => hor (.inl e)
      have hr : m.refs.length = m.slots.length := Classical.byContradiction fun e => hor (.inr e)
      have hp := slotsE_parts hs
      obtain ⟨sb, so, sc', e, hcp, hlt, hcell⟩ := h2.open hp.1
      simp at e
      obtain ⟨rfl, rfl⟩ := e
      exact shapeOf_at m.guest ra _ rc sb so _ sc fa _ fc na _ nc m E w h' rfl rfl rfl h3' hr hlt hcell hs h1 h4.at hE hr
end Go.Proofs.Ytehleeibgkpjmac
/- Contract of the document's CountsOf, of an image of right shape. -/
namespace Go.Proofs.Ytehleeibgkpjmac
open Go.RowKit Go.Shelf
set_option maxRecDepth 20000

def rl (n : Nat) (f : Nat → Int) : List Int := (List.range n).map f
theorem rl_length (n : Nat) (f : Nat → Int) : (rl n f).length = n := by simp [rl]
theorem rl_get {n : Nat} {f : Nat → Int} {j : Nat} (h : j < n) : (rl n f).getD j 0 = f j := by simp [rl, List.getD, h]
theorem rl_set {n k : Nat} {f g : Nat → Int} {x : Int} (hx : g k = x) (h : ∀ j, j < n → j ≠ k → g j = f j) : (rl n f).set k x = rl n g := by
  subst hx
  apply List.ext_getElem
  · simp [rl]
  · intro j h1 h2
    have hj : j < n := by simpa [rl] using h2
    rw [List.getElem_set]
    by_cases e : k = j
    · subst e; simp [rl]
    · rw [if_neg e]; simp [rl]; exact (h j hj (fun x => e x.symm)).symm
theorem rl_congr {n : Nat} {f g : Nat → Int} (h : ∀ j, j < n → f j = g j) : rl n f = rl n g := List.map_congr_left fun j hj => h j (List.mem_range.1 hj)
theorem rl_of {l : List Int} {n : Nat} (h : l.length = n) : l = rl n (fun j => l.getD j 0) := by
  subst h
  apply List.ext_getElem
  · simp [rl]
  · intro j h1 h2; simp [rl, List.getD, h1]

def f1 (P : List Int) (k j : Nat) : Int := if 1 ≤ j ∧ j < k then ((P.count (j : Int) : Nat) : Int) else 0
def g1 (P : List Int) (j : Nat) : Int := if 1 ≤ j then ((P.count (j : Int) : Nat) : Int) else 0
def g2 (L : List SlotD) (P : List Int) (n j : Nat) : Int := if 1 ≤ j ∧ j < n ∧ kd L j = 1 then ((sumT L P j : Nat) : Int) else 0
def f2 (L : List SlotD) (P : List Int) (n j : Nat) : Int := g1 P j + g2 L P n j
theorem g1_pos {P : List Int} {j : Nat} (h : 1 ≤ j) : g1 P j = ((P.count (j : Int) : Nat) : Int) := by unfold g1; rw [if_pos h]
theorem g2_yes {L : List SlotD} {P : List Int} {n j : Nat} (h : 1 ≤ j ∧ j < n ∧ kd L j = 1) : g2 L P n j = ((sumT L P j : Nat) : Int) := by unfold g2; rw [if_pos h]
theorem g2_no {L : List SlotD} {P : List Int} {n j : Nat} (h : ¬ (1 ≤ j ∧ j < n ∧ kd L j = 1)) : g2 L P n j = 0 := by unfold g2; rw [if_neg h]
theorem g2_next {L : List SlotD} {P : List Int} {n j : Nat} (h : j ≠ n ∨ kd L n ≠ 1) : g2 L P n j = g2 L P (n + 1) j := by
  by_cases c : 1 ≤ j ∧ j < n ∧ kd L j = 1
  · rw [g2_yes c, g2_yes ⟨c.1, by omega, c.2.2⟩]
  · rw [g2_no c, g2_no]
    rintro ⟨d1, d2, d3⟩
    refine c ⟨d1, ?_, d3⟩
    rcases Nat.lt_or_ge j n with h' | h'
    · exact h'
    · have : j = n := by omega
      subst this
      rcases h with h | h
      · exact absurd rfl h
      · exact absurd d3 h
def sT (L : List SlotD) (P : List Int) (n k : Nat) : Nat := ((List.range k).map (toldT L P n)).sum
def f3 (L : List SlotD) (P : List Int) (n k j : Nat) : Int := if j = n then ((P.count (n : Int) + sT L P n k : Nat) : Int) else f2 L P n j

theorem sT_succ (L : List SlotD) (P : List Int) (n k : Nat) : sT L P n (k + 1) = sT L P n k + toldT L P n k := by
  unfold sT; rw [List.range_succ, List.map_append, List.sum_append]; simp
theorem sT_one {L : List SlotD} (hs : slotsE L = 0) (P : List Int) (n : Nat) : sT L P n 1 = 0 := by
  rw [sT_succ]; unfold sT toldT; rw [if_neg (by rw [slot0 hs]; simp)]; rfl
theorem sT_le {L : List SlotD} (h : slotsE L = 0) (P : List Int) (n : Nat) : ∀ k, sT L P n k ≤ 4 * k
  | 0 => Nat.le_refl _
  | k + 1 => by
    rw [sT_succ]
    have := sT_le h P n k
    have : toldT L P n k ≤ 4 := by
      unfold toldT
      split
      · exact Nat.le_trans List.count_le_length (tab4 h k)
      · omega
    omega
theorem f3_same {L : List SlotD} {P : List Int} {n q : Nat} (sn : Nat) (h : toldT L P n q = 0) : rl sn (f3 L P n q) = rl sn (f3 L P n (q + 1)) := rl_congr fun j _ => by
  unfold f3; rw [sT_succ, h]; rfl
theorem only_drew {g : Nat} {A B : World} (h : Only g A B) : Only g A B.drew := ⟨h.os, h.tape, h.output, h.size, h.block⟩
theorem f12 (L : List SlotD) (P : List Int) (sn : Nat) : rl sn (f1 P sn) = rl sn (f2 L P 1) := rl_congr fun j hj => by
  unfold f1 f2
  rw [g2_no (by omega)]
  unfold g1
  by_cases h : 1 ≤ j
  · rw [if_pos ⟨h, hj⟩, if_pos h]; simp
  · rw [if_neg (by omega), if_neg h]; rfl
theorem f23 {L : List SlotD} (hs : slotsE L = 0) (P : List Int) (sn n : Nat) (hn : 1 ≤ n) : rl sn (f2 L P n) = rl sn (f3 L P n 1) := rl_congr fun j _ => by
  unfold f3
  by_cases e : j = n
  · subst e; rw [if_pos rfl, sT_one hs]; unfold f2; rw [g1_pos hn, g2_no (by omega)]; simp
  · rw [if_neg e]
theorem f32 {L : List SlotD} (P : List Int) (n : Nat) (hn : 1 ≤ n) (hk : kd L n = 1) : rl L.length (f3 L P n L.length) = rl L.length (f2 L P (n + 1)) := rl_congr fun j _ => by
  unfold f3
  by_cases e : j = n
  · subst e; rw [if_pos rfl]; unfold f2; rw [g1_pos hn, g2_yes ⟨hn, by omega, hk⟩]; unfold sT sumT; omega
  · rw [if_neg e]; unfold f2
    rw [g2_next (.inl e)]
theorem f22 {L : List SlotD} (P : List Int) (sn n : Nat) (hk : kd L n ≠ 1) : rl sn (f2 L P n) = rl sn (f2 L P (n + 1)) := rl_congr fun j _ => by
  unfold f2
  rw [g2_next (.inr hk)]
theorem f2_end {m : ImgD} (h : shapeE m = 0) : rl m.slots.length (f2 m.slots (flatR m) m.slots.length) = cntL m := by
  rw [rl_of (cntL_length m)]
  refine rl_congr fun j hj => ?_
  rw [cntL_get h j hj]
  obtain ⟨z1, z2, z3, z4, z5, z6, z7⟩ := shapeE_zero h
  unfold f2 cntI
  by_cases h1 : 1 ≤ j
  · rw [g1_pos h1, if_neg (by omega)]
    by_cases hk : kd m.slots j = 1
    · rw [g2_yes ⟨h1, hj, hk⟩]; omega
    · rw [g2_no (fun d => hk d.2.2), sumT_no z6 _ h1 hk]; omega
  · rw [g2_no (by omega), if_pos (by omega)]; unfold g1; rw [if_neg h1]; rfl
theorem flatR_take (m : ImgD) (q : Nat) (hq : q < m.snaps.length) : (m.root ++ (m.snaps.take (q + 1)).flatMap (fun s => s.2.2)) = (m.root ++ (m.snaps.take q).flatMap (fun s => s.2.2)) ++ m.snaps[q].2.2 := by
  rw [List.take_add_one, List.getElem?_eq_getElem hq, Option.toList_some, List.flatMap_append, List.append_assoc]; simp
theorem flatR_all (m : ImgD) : m.root ++ (m.snaps.take m.snaps.length).flatMap (fun s => s.2.2) = flatR m := by
  rw [List.take_length]; rfl
theorem roots4 {m : ImgD} (h : shapeE m = 0) : ∀ s ∈ rootsOf m, s.2.2.length ≤ 4 := fun s hs => by
  obtain ⟨z1, z2, z3, z4, z5, z6, z7⟩ := shapeE_zero h
  have h1 := List.all_eq_true.1 z7 s hs
  have h2 := List.all_eq_true.1 z5 s hs
  unfold rootFit at h1
  unfold guestOK at h2
  simp only [Bool.and_eq_true, decide_eq_true_eq] at h1 h2
  omega

set_option linter.unusedSimpArgs false in
set_option maxRecDepth 20000 in
set_option maxHeartbeats 8000000 in
theorem countsOf_at (gm : Int) (ra : Option Addr) (rn rc : Nat) (sb so : Nat) (sn sc : Nat) (fa : Option Addr) (fn fc : Nat) (na : Option Addr) (nn nc : Nat) (m : ImgD) (w : World)
    (hsn : m.slots.length = sn) (hnn : m.snaps.length = nn) (hsb : sb < w.heap.size) (hcl : ∀ j, (h : j < m.slots.length) → SlAt w sb (so + j * 3) m.slots[j])
    (hr : Sl w (.slice ra rn rc) m.root) (hna : ∀ j, (h : j < m.snaps.length) → ∃ b off, na = some ⟨b, off, none⟩ ∧ b < w.heap.size ∧ SnAt w b (off + j * 3) m.snaps[j])
    (hE : shapeE m = 0) :
    Calls Try.prog 48 #[.agg #[.int .i64 gm, .slice ra rn rc, .slice (some ⟨sb, so, none⟩) sn sc, .slice fa fn fc, .slice na nn nc]] w fun r w' => (r = .returned (.slice (some ⟨w.heap.size + 1, 0, none⟩) sn sn) ∧ LAt w' (w.heap.size + 1) (cntL m)) ∧ Below w.heap.size w w' := by
  have b0 : Below w.heap.size w (w.alloc (.cells #[.int .i64 gm, .slice ra rn rc, .slice (some ⟨sb, so, none⟩) sn sc, .slice fa fn fc, .slice na nn nc] 26)) := (Below.refl _ _).alloc (Nat.le_refl _) _
  have m0 : (w.alloc (.cells #[.int .i64 gm, .slice ra rn rc, .slice (some ⟨sb, so, none⟩) sn sc, .slice fa fn fc, .slice na nn nc] 26)).heap[w.heap.size]? = some (.cells #[.int .i64 gm, .slice ra rn rc, .slice (some ⟨sb, so, none⟩) sn sc, .slice fa fn fc, .slice na nn nc] 26) := World.alloc_heap_new _ _
  obtain ⟨z1, z2, z3, z4, z5, z6, z7⟩ := shapeE_zero hE
  have h40 : sn ≤ 40 := by rw [← hsn]; exact (slotsE_parts z2).2
  have h1s : 1 ≤ sn := by rw [← hsn]; exact (slotsE_parts z2).1
  have hn3 : nn ≤ 3 := by rw [← hnn]; exact z1
  have hmk := mk_ints sn h40
  have m1 := cells_alloc m0 (.cells (Array.replicate sn (.int .i64 0)) 3)
  have b1 : Below w.heap.size w ((w.alloc (.cells #[.int .i64 gm, .slice ra rn rc, .slice (some ⟨sb, so, none⟩) sn sc, .slice fa fn fc, .slice na nn nc] 26)).alloc (.cells (Array.replicate sn (.int .i64 0)) 3)) := b0.alloc b0.size _
  have l1 : LAt ((w.alloc (.cells #[.int .i64 gm, .slice ra rn rc, .slice (some ⟨sb, so, none⟩) sn sc, .slice fa fn fc, .slice na nn nc] 26)).alloc (.cells (Array.replicate sn (.int .i64 0)) 3)) (w.heap.size + 1) (rl sn (f1 (flatR m) 1)) := by
    have := World.alloc_heap_new (w.alloc (.cells #[.int .i64 gm, .slice ra rn rc, .slice (some ⟨sb, so, none⟩) sn sc, .slice fa fn fc, .slice na nn nc] 26)) (.cells (Array.replicate sn (.int .i64 0)) 3)
    show _ = _
    have e : rl sn (f1 (flatR m) 1) = List.replicate sn 0 := by
      rw [rl_of (l := List.replicate sn 0) (n := sn) (by simp)]
      exact rl_congr fun j hj => by unfold f1; rw [if_neg (by omega)]; simp [List.getD, hj]
    rw [e]
    simpa using this
  have H1 : Hid (m.slots.length = sn ∧ m.snaps.length = nn) := ⟨hsn, hnn⟩
  have H2 : Hid (∀ j, (h : j < m.slots.length) → SlAt w sb (so + j * 3) m.slots[j]) := hcl
  have H3 : Hid (∀ j, (h : j < m.snaps.length) → ∃ b off, na = some ⟨b, off, none⟩ ∧ b < w.heap.size ∧ SnAt w b (off + j * 3) m.snaps[j]) := hna
  have H4 : Hid (slotsE m.slots = 0 ∧ tabFit m.slots = true) := ⟨z2, z6⟩
  have H5 : Hid (∀ s ∈ rootsOf m, s.2.2.length ≤ 4) := roots4 hE
  have H6 : Hid (shapeE m = 0) := hE
  have H7 : Hid (Sl w (.slice ra rn rc) m.root) := hr
  clear z1 z2 z3 z4 z5 z6 z7 hsn hnn hcl hna hE hr
  go_enter Try.func48, Try.ntmps48
  go_wp2_with fail
  obtain ⟨W1, hW1⟩ : ∃ W1, (w.alloc (.cells #[.int .i64 gm, .slice ra rn rc, .slice (some ⟨sb, so, none⟩) sn sc, .slice fa fn fc, .slice na nn nc] 26)).alloc (.cells (Array.replicate sn (.int .i64 0)) 3) = W1 := ⟨_, rfl⟩
  have hg0 : (w.alloc (.cells #[.int .i64 gm, .slice ra rn rc, .slice (some ⟨sb, so, none⟩) sn sc, .slice fa fn fc, .slice na nn nc] 26)).heap.size = w.heap.size + 1 := by simp
  have hzW : W1.heap.size = w.heap.size + 1 + 1 := by rw [← hW1]; simp
  have hz1 : w.heap.size + 1 < W1.heap.size := by omega
  rw [hW1] at m1 b1 l1 ⊢
  clear hmk hzW hW1 m0 b0 hg0
  go_loopw [4, 5, 6] (fun i _ _ wq => ∃ k : Nat, 1 ≤ k ∧ k ≤ sn ∧ i = .int .i64 k ∧ LAt wq (w.heap.size + 1) (rl sn (f1 (flatR m) k)) ∧ Only (w.heap.size + 1) W1 wq) (fun i _ _ _ => sn - (intOf i).toNat)
  case atStart => exact ⟨1, by omega, by omega, rfl, l1, Only.refl _ _⟩
  case round =>
    obtain ⟨k, hk1, hk, rfl, hL, hO⟩ := hrel
    obtain ⟨wa, hrn⟩ : ∃ X, X = wr := ⟨_, rfl⟩
    subst hrn
    have mr := hO.cellsAt (by omega) m1
    obtain ⟨c0, c1, c2, c3, c4⟩ := five mr
    have hbw : Below w.heap.size w wa := b1.trans (hO.below (by omega))
    by_cases hlk : k < sn
    · have hki : (k : Int) < (sn : Int) := by omega
      have hrt := H7.out.below hbw
      have hcall := told_is hrt (by have := H5.out (⟨#[]⟩, m.guest, m.root) List.mem_cons_self; simp at this; omega) (k : Int) (rfl : ((m.root.count (k : Int) : Nat) : Int) = _)
      have hc4 : m.root.count (k : Int) ≤ 4 := by
        have h1 := H5.out (⟨#[]⟩, m.guest, m.root) List.mem_cons_self
        have h2 : m.root.count (k : Int) ≤ m.root.length := List.count_le_length
        simp at h1; omega
      obtain ⟨u0, hu0⟩ : ∃ u, m.root.count (k : Int) = u := ⟨_, rfl⟩
      have HU0 : Hid (m.root.count (k : Int) = u0) := hu0
      rw [hu0] at hcall hc4
      clear hrt hu0
      go_wp2_with (go_at_call 82; refine hcall.mono ?_; rintro e w' ⟨rfl, hw⟩; rw [hw]; clear hw)
      go_loopw [5, 6] (fun c i wq => ∃ q u : Nat, q ≤ nn ∧ u ≤ 4 + 4 * q ∧ i = .int .i64 q ∧ c = .int .i64 u ∧ Hid (u = (m.root ++ (m.snaps.take q).flatMap (fun s => s.2.2)).count (k : Int)) ∧ wq = wa) (fun _ i _ => nn - (intOf i).toNat)
      case atStart => exact ⟨0, u0, Nat.zero_le _, by omega, rfl, rfl, by show _ = _; rw [← HU0.out]; simp, rfl⟩
      case round =>
        obtain ⟨q, u, hq, hu, rfl, rfl, HU, hw⟩ := hrel
        subst hw
        obtain ⟨wb, hrn⟩ : ∃ X, X = wr := ⟨_, rfl⟩
        subst hrn
        by_cases hlq : q < nn
        · have hqm : q < m.snaps.length := by rw [H1.out.2]; exact hlq
          obtain ⟨b, off, rfl, hlt, hS⟩ := H3.out q hqm
          obtain ⟨s, hs⟩ : ∃ s, s = m.snaps[q] := ⟨_, rfl⟩
          obtain ⟨nm, gg, rr⟩ := s
          rw [← hs] at hS
          obtain ⟨rv, s1, s2, s3, hsl⟩ := hS
          have hqi : (q : Int) < (nn : Int) := by omega
          have s3 : wb.cell? ⟨b, off + q * 3 + 2, none⟩ = some rv := (hbw.cell (p := ⟨b, off + q * 3 + 2, none⟩) hlt).trans s3
          obtain ⟨va, vc, rfl⟩ := hsl.form
          have hr4 : rr.length ≤ 4 := H5.out (nm, gg, rr) (List.mem_cons_of_mem _ (by rw [hs]; exact List.getElem_mem hqm))
          have hslr : Sl w (.slice va rr.length vc) rr := hsl
          have hcall2 := told_is (hslr.below hbw) (show rr.length ≤ 1000000 by omega) (k : Int) (rfl : ((rr.count (k : Int) : Nat) : Int) = _)
          have hv4 : rr.count (k : Int) ≤ 4 := Nat.le_trans List.count_le_length hr4
          have HT : Hid ((m.root ++ (m.snaps.take (q + 1)).flatMap (fun s => s.2.2)).count (k : Int) = u + rr.count (k : Int)) := by
            show _ = _
            rw [flatR_take m q hqm, List.count_append, ← HU.out, ← hs]
          obtain ⟨v, hv⟩ : ∃ v, rr.count (k : Int) = v := ⟨_, rfl⟩
          rw [hv] at hcall2 hv4 HT
          clear hs hsl hslr s1 s2 hv hcall
          go_wp2_with (go_at_call 82; refine hcall2.mono ?_; rintro e w' ⟨rfl, hw⟩; rw [hw]; clear hw)
          go_roundw
          case rel => exact ⟨q + 1, u + v, by omega, by omega, by go_num, by go_num, by show _ = _; rw [HT.out], trivial⟩
          case measure => simp [intOf]; omega
        · have HE : Hid (u = (flatR m).count (k : Int)) := by
            show _ = _
            rw [HU.out, ← flatR_all, H1.out.2]
            have e : q = nn := by omega
            rw [e]
          have e5 : q = nn := by omega
          subst e5
          have hcx : wb.cell? ⟨w.heap.size + 1, k, none⟩ = some (.int .i64 ((rl sn (f1 (flatR m) k)).getD k 0)) := hL.cell (by rw [rl_length]; exact hlk)
          have hfx := hL.frozen k
          clear hcall
          go_wp2_with fail
          go_roundw
          case rel => exact ⟨k + 1, by omega, by omega, by go_num, by
            have := hL.set k (u : Int)
            rwa [rl_set (g := f1 (flatR m) (k + 1)) (by unfold f1; rw [if_pos ⟨hk1, by omega⟩, ← HE.out]) (fun j _ hj => by
              unfold f1
              by_cases c : 1 ≤ j ∧ j < k
              · rw [if_pos ⟨c.1, by omega⟩, if_pos c]
              · rw [if_neg (fun d => c ⟨d.1, by omega⟩), if_neg c])] at this, hO.trans (Only.set _ _ _ _)⟩
          case measure => simp [intOf]; omega
    · have e5 : k = sn := by omega
      subst e5
      rw [f12 m.slots] at hL
      go_wp2_with fail
      go_loopw [7, 8] (fun i _ wq => ∃ n : Nat, 1 ≤ n ∧ n ≤ k ∧ i = .int .i64 n ∧ LAt wq (w.heap.size + 1) (rl k (f2 m.slots (flatR m) n)) ∧ Only (w.heap.size + 1) W1 wq) (fun i _ _ => k - (intOf i).toNat)
      case atStart => exact ⟨1, by omega, by omega, rfl, hL, hO⟩
      case round =>
        clear hL hO mr c0 c1 c2 c3 c4 hbw
        obtain ⟨n, hn1, hn, rfl, hL, hO⟩ := hrel
        obtain ⟨wc, hrn⟩ : ∃ X, X = wr := ⟨_, rfl⟩
        subst hrn
        have mr := hO.cellsAt (by omega) m1
        obtain ⟨c0, c1, c2, c3, c4⟩ := five mr
        have hbw : Below w.heap.size w wc := b1.trans (hO.below (by omega))
        by_cases hln : n < k
        · have hni : (n : Int) < (k : Int) := by omega
          have hnm : n < m.slots.length := by rw [H1.out.1]; exact hln
          obtain ⟨tv, s1, _, _, _⟩ := H2.out n hnm
          have ekd : m.slots[n].1 = kd m.slots n := by unfold kd; simp [List.getD, hnm]
          rw [ekd] at s1
          obtain ⟨K, hK⟩ : ∃ K, kd m.slots n = K := ⟨_, rfl⟩
          rw [hK] at s1
          have s1 : wc.cell? ⟨sb, so + n * 3, none⟩ = some (.int .i64 K) := (hbw.cell (p := ⟨sb, so + n * 3, none⟩) hsb).trans s1
          have HK : Hid (kd m.slots n = K) := hK
          clear hK ekd
          by_cases hK1 : K = 1
          · have hKb : (K != 1) = false := by simp [hK1]
            have HK1 : Hid (K = 1) := hK1
            clear hK1
            rw [f23 H4.out.1 _ _ _ hn1] at hL
            go_wp2_with fail
            go_loopw [8] (fun i wq => ∃ q : Nat, 1 ≤ q ∧ q ≤ k ∧ i = .int .i64 q ∧ LAt wq (w.heap.size + 1) (rl k (f3 m.slots (flatR m) n q)) ∧ Only (w.heap.size + 1) W1 wq) (fun i _ => k - (intOf i).toNat)
            case atStart => exact ⟨1, by omega, by omega, rfl, hL, hO⟩
            case round =>
              clear hL hO mr c0 c1 c2 c3 c4 hbw
              obtain ⟨q, hq1, hq, rfl, hL, hO⟩ := hrel
              obtain ⟨wd, hrn⟩ : ∃ X, X = wr := ⟨_, rfl⟩
              subst hrn
              have mr := hO.cellsAt (by omega) m1
              obtain ⟨c0, c1, c2, c3, c4⟩ := five mr
              have hbw : Below w.heap.size w wd := b1.trans (hO.below (by omega))
              clear s1
              by_cases hlq : q < k
              · have hqi : (q : Int) < (k : Int) := by omega
                have hqm : q < m.slots.length := by rw [H1.out.1]; exact hlq
                obtain ⟨tv, t1, _, t3, hsl⟩ := H2.out q hqm
                have ekd : m.slots[q].1 = kd m.slots q := by unfold kd; simp [List.getD, hqm]
                rw [ekd] at t1
                obtain ⟨Q, hQ⟩ : ∃ Q, kd m.slots q = Q := ⟨_, rfl⟩
                rw [hQ] at t1
                have t1 : wd.cell? ⟨sb, so + q * 3, none⟩ = some (.int .i64 Q) := (hbw.cell (p := ⟨sb, so + q * 3, none⟩) hsb).trans t1
                have t3 : wd.cell? ⟨sb, so + q * 3 + 2, none⟩ = some tv := (hbw.cell (p := ⟨sb, so + q * 3 + 2, none⟩) hsb).trans t3
                have HQ : Hid (kd m.slots q = Q) := hQ
                clear hQ ekd
                by_cases hQ2 : Q = 2
                · have hQb : (Q == 2) = true := by simp [hQ2]
                  have hnq : q ≠ n := fun e => by
                    subst e
                    have := HQ.out; rw [HK.out, HK1.out, hQ2] at this; cases this
                  have hcq : wd.cell? ⟨w.heap.size + 1, q, none⟩ = some (.int .i64 (((flatR m).count (q : Int) : Nat) : Int)) := by
                    rw [hL.cell (by rw [rl_length]; exact hlq), rl_get hlq]
                    unfold f3 f2
                    rw [if_neg hnq, g1_pos hq1, g2_no (fun d => by have := d.2.2; rw [HQ.out, hQ2] at this; cases this)]; simp
                  obtain ⟨cq, hcq'⟩ : ∃ c, (flatR m).count (q : Int) = c := ⟨_, rfl⟩
                  rw [hcq'] at hcq
                  have HCQ : Hid ((flatR m).count (q : Int) = cq) := hcq'
                  have HQ2 : Hid (Q = 2) := hQ2
                  clear hcq' hQ2
                  by_cases hpos : 0 < cq
                  · have hposi : (0 : Int) < (cq : Int) := by omega
                    have etab : m.slots[q].2.2 = tabOf m.slots q := by unfold tabOf; simp [List.getD, hqm]
                    rw [etab] at hsl
                    have ht4 := tab4 H4.out.1 (q : Int)
                    obtain ⟨va, vc, rfl⟩ := hsl.form
                    obtain ⟨tl, htl⟩ : ∃ tl, tabOf m.slots q = tl := ⟨_, rfl⟩
                    have HTL : Hid (tabOf m.slots q = tl) := htl
                    rw [htl] at t3 hsl ht4
                    have hcall := fun W (hW : Below w.heap.size w W) => told_is (hsl.below hW) (by omega) (n : Int) (rfl : ((tl.count (n : Int) : Nat) : Int) = _)
                    have hv4 : tl.count (n : Int) ≤ 4 := Nat.le_trans List.count_le_length ht4
                    obtain ⟨v, hv⟩ : ∃ v, tl.count (n : Int) = v := ⟨_, rfl⟩
                    rw [hv] at hcall hv4
                    have HT : Hid (sT m.slots (flatR m) n (q + 1) = sT m.slots (flatR m) n q + v) := by
                      show _ = _
                      rw [sT_succ]
                      unfold toldT
                      rw [if_pos ⟨by rw [HQ.out, HQ2.out], by rw [← List.count_pos_iff, HCQ.out]; exact hpos⟩, HTL.out, hv]
                    have hcn : wd.cell? ⟨w.heap.size + 1, n, none⟩ = some (.int .i64 (((flatR m).count (n : Int) + sT m.slots (flatR m) n q : Nat) : Int)) := by
                      rw [hL.cell (by rw [rl_length]; exact hln), rl_get hln]
                      unfold f3
                      rw [if_pos rfl]
                    have hle : (flatR m).count (n : Int) + sT m.slots (flatR m) n q ≤ 0 + 160 := by
                      rw [root_no (flatR_root H6.out) hn1 (by rw [HK.out, HK1.out]; decide)]
                      have := sT_le H4.out.1 (flatR m) n q
                      omega
                    obtain ⟨x, hx⟩ : ∃ x, (flatR m).count (n : Int) + sT m.slots (flatR m) n q = x := ⟨_, rfl⟩
                    rw [hx] at hcn hle
                    have HX : Hid ((flatR m).count (n : Int) + sT m.slots (flatR m) n q = x) := hx
                    have hfx := hL.frozen n
                    clear hsl htl hv hx etab
                    go_wp2_with fail
                    go_region_with (go_at_call 82; refine (hcall _ (to_drew hbw)).mono ?_; rintro e w' ⟨rfl, hw⟩; rw [hw]; clear hw)
                    all_goals
                      go_wp2_with fail
                      go_roundw
                      case rel => exact ⟨q + 1, by omega, by omega, by go_num, by
                        have hL' : LAt wd.drew (w.heap.size + 1) (rl k (f3 m.slots (flatR m) n q)) := hL
                        have := hL'.set n ((x : Int) + (v : Int))
                        rwa [rl_set (g := f3 m.slots (flatR m) n (q + 1)) (by unfold f3; rw [if_pos rfl, HT.out, ← Nat.add_assoc, HX.out]; omega) (fun j _ hj => by unfold f3; rw [if_neg hj, if_neg hj])] at this, (only_drew hO).trans (Only.set _ _ _ _)⟩
                      case measure => simp [intOf]; omega
                  · have hposi : ¬ (0 : Int) < (cq : Int) := by omega
                    have HZ : Hid (toldT m.slots (flatR m) n q = 0) := by
                      show _ = _
                      unfold toldT
                      rw [if_neg]
                      intro d
                      have := List.count_pos_iff.2 d.2
                      rw [HCQ.out] at this
                      exact hpos this
                    go_wp2_with fail
                    go_roundw
                    case rel => exact ⟨q + 1, by omega, by omega, by go_num, by rw [← f3_same _ HZ.out]; exact hL, hO⟩
                    case measure => simp [intOf]; omega
                · have hQb : (Q == 2) = false := by simp [hQ2]
                  have HZ : Hid (toldT m.slots (flatR m) n q = 0) := by
                    show _ = _
                    unfold toldT
                    rw [if_neg]
                    intro d
                    exact hQ2 (by rw [← HQ.out]; exact d.1)
                  clear hQ2
                  go_wp2_with fail
                  go_roundw
                  case rel => exact ⟨q + 1, by omega, by omega, by go_num, by rw [← f3_same _ HZ.out]; exact hL, hO⟩
                  case measure => simp [intOf]; omega
              · have e6 : q = k := by omega
                subst e6
                have hL2 : LAt wd (w.heap.size + 1) (rl q (f2 m.slots (flatR m) (n + 1))) := by
                  have := f32 (flatR m) n hn1 (by rw [HK.out, HK1.out])
                  rw [H1.out.1] at this
                  rw [← this]; exact hL
                go_wp2_with fail
                go_roundw
                case rel => exact ⟨n + 1, by omega, by omega, by go_num, hL2, hO⟩
                case measure => simp [intOf]; omega
          · have hKb : (K != 1) = true := by simp [hK1]
            have HK1 : Hid (kd m.slots n ≠ 1) := by show _ ≠ _; rw [HK.out]; exact hK1
            clear hK1
            go_wp2_with fail
            go_roundw
            case rel => exact ⟨n + 1, by omega, by omega, by go_num, by rw [← f22 _ _ _ HK1.out]; exact hL, hO⟩
            case measure => simp [intOf]; omega
        · have e6 : n = k := by omega
          subst e6
          have hL2 : LAt wc (w.heap.size + 1) (cntL m) := by
            rw [← f2_end H6.out, H1.out.1]; exact hL
          go_wp2_with fail
          go_ret
          exact ⟨⟨rfl, hL2⟩, hbw⟩

theorem countsOf_is {w : World} {v : Value} {m : ImgD} (h : Img w v m) (hE : shapeE m = 0) :
    Calls Try.prog 48 #[v] w fun r w' => (r = .returned (.slice (some ⟨w.heap.size + 1, 0, none⟩) m.slots.length m.slots.length) ∧ LAt w' (w.heap.size + 1) (cntL m)) ∧ Below w.heap.size w w' := by
  obtain ⟨ra, rc, sa, sc, fa, fc, na, nc, rfl, h1, h2, _, h4⟩ := h.parts
  have hp := slotsE_parts (shapeE_zero hE).2.1
  obtain ⟨sb, so, sc', e, hcp, hlt, hcell⟩ := h2.open hp.1
  simp at e
  obtain ⟨rfl, rfl⟩ := e
  exact countsOf_at m.guest ra _ rc sb so _ sc fa _ fc na _ nc m w rfl rfl hlt hcell h1 h4.at hE
end Go.Proofs.Ytehleeibgkpjmac
/- Contracts of Check and Look. -/
namespace Go.Proofs.Ytehleeibgkpjmac
open Go.RowKit Go.Shelf
set_option maxRecDepth 20000

def freeAt (m : ImgD) (i : Nat) : Bool := ((m.slots.getD i default).1 == 0) == ((cntL m).getD i 0 == 0)
def checkE (m : ImgD) : Int := if shapeE m ≠ 0 then shapeE m else if cntL m ≠ m.refs then 9 else if (List.range m.slots.length).all (freeAt m) = true then 0 else 9

theorem tcheck_err (gm : Int) (ra : Option Addr) (rn rc : Nat) (sa : Option Addr) (sn sc : Nat) (fa : Option Addr) (fn fc : Nat) (na : Option Addr) (nn nc : Nat) (m : ImgD) (E : Int) (w : World) (h : Img w (.agg #[.int .i64 gm, .slice ra rn rc, .slice sa sn sc, .slice fa fn fc, .slice na nn nc]) m) (hE : shapeE m = E) (hne : (E != 0) = true) :
    Calls Try.prog 9 #[.agg #[.int .i64 gm, .slice ra rn rc, .slice sa sn sc, .slice fa fn fc, .slice na nn nc]] w fun r w' => r = .returned (.int .i64 E) ∧ Below w.heap.size w w' := by
  have b0 : Below w.heap.size w (w.alloc (.cells #[.int .i64 gm, .slice ra rn rc, .slice sa sn sc, .slice fa fn fc, .slice na nn nc] 26)) := (Below.refl _ _).alloc (Nat.le_refl _) _
  have hcall := counts_err (h.below b0) hE hne
  clear h hE
  go_enter Try.func9, Try.ntmps9
  go_wp2_with (go_at_call 11; refine hcall.mono ?_; rintro e w1 ⟨rfl, b1⟩)
  go_ret
  exact ⟨rfl, Below.on b0 b1⟩

theorem equal_is {w : World} {u v : Value} {xs ys : List Int} (h : Sl w u xs) (k : Sl w v ys) (hl : xs.length = ys.length) {B : Bool} (hB : (xs == ys) = B) :
    Calls Try.prog 36 #[u, v] w fun r w' => r = .returned (.bool B) ∧ Below w.heap.size w w' := by
  subst hB
  obtain ⟨ao, cap, rfl⟩ := h.form
  obtain ⟨bo, cap', rfl⟩ := k.form
  obtain ⟨_, hm, _, hc⟩ := h.cells
  obtain ⟨_, _, _, hd⟩ := k.cells
  rw [← hl] at hd ⊢
  refine equal_at ao bo _ cap cap' xs ys w rfl hl.symm hm (fun j hj => ?_) (fun j hj => ?_)
  · obtain ⟨b, off, e, _, c⟩ := hc j hj
    exact ⟨b, off, e, c⟩
  · obtain ⟨b, off, e, _, c⟩ := hd j hj
    exact ⟨b, off, e, c⟩

set_option maxHeartbeats 2000000 in
theorem tcheck_at (gm : Int) (ra : Option Addr) (rn rc : Nat) (sb so : Nat) (sn sc : Nat) (fa : Option Addr) (fn fc : Nat) (na : Option Addr) (nn nc : Nat) (m : ImgD) (E : Int) (w : World) (h : Img w (.agg #[.int .i64 gm, .slice ra rn rc, .slice (some ⟨sb, so, none⟩) sn sc, .slice fa fn fc, .slice na nn nc]) m)
    (hf : Sl w (.slice fa fn fc) m.refs) (hsn : m.slots.length = sn) (hsb : sb < w.heap.size) (h40 : sn ≤ 40) (hcl : ∀ j, (h : j < m.slots.length) → SlAt w sb (so + j * 3) m.slots[j]) (hE : shapeE m = 0) (hc : checkE m = E) :
    Calls Try.prog 9 #[.agg #[.int .i64 gm, .slice ra rn rc, .slice (some ⟨sb, so, none⟩) sn sc, .slice fa fn fc, .slice na nn nc]] w fun r w' => r = .returned (.int .i64 E) ∧ Below w.heap.size w w' := by
  have b0 : Below w.heap.size w (w.alloc (.cells #[.int .i64 gm, .slice ra rn rc, .slice (some ⟨sb, so, none⟩) sn sc, .slice fa fn fc, .slice na nn nc] 26)) := (Below.refl _ _).alloc (Nat.le_refl _) _
  have m0 : (w.alloc (.cells #[.int .i64 gm, .slice ra rn rc, .slice (some ⟨sb, so, none⟩) sn sc, .slice fa fn fc, .slice na nn nc] 26)).heap[w.heap.size]? = some (.cells #[.int .i64 gm, .slice ra rn rc, .slice (some ⟨sb, so, none⟩) sn sc, .slice fa fn fc, .slice na nn nc] 26) := World.alloc_heap_new _ _
  have hcall := counts_ok (h.below b0) hE
  have hz := (shapeE_zero hE).2.2.1
  have HLr : Hid ((cntL m).length = m.refs.length) := by show _ = _; rw [cntL_length, hz]
  have HN : Hid (m.slots.length = sn) := hsn
  have HCl : Hid (∀ j, (h : j < m.slots.length) → SlAt w sb (so + j * 3) m.slots[j]) := hcl
  have HE : Hid (checkE m = if cntL m ≠ m.refs then 9 else if (List.range m.slots.length).all (freeAt m) = true then 0 else 9) := by
    show _ = _
    unfold checkE
    rw [if_neg (by simpa using hE)]
  have Hc : Hid (checkE m = E) := hc
  clear h hE hz hsn hcl hc
  cases hq : cntL m == m.refs with
  | false =>
    have H9 : Hid (E = 9) := by
      show _ = _
      rw [← Hc.out, HE.out, if_pos (by simpa using hq)]
    go_enter Try.func9, Try.ntmps9
    go_wp2_with fail
    refine hcall.mono ?_
    rintro e w1 ⟨⟨lv, rfl, hlv⟩, b1⟩
    have m1 := cells_below m0 b1 (by simp)
    obtain ⟨c0, c1, c2, c3, c4⟩ := five m1
    have hf1 := hf.below (Below.on b0 b1)
    have hcall2 := equal_is hlv hf1 HLr.out hq
    obtain ⟨la, lc, rfl⟩ := hlv.form
    clear hcall hlv hf1
    go_wp2_with fail
    refine hcall2.mono ?_
    rintro e w2 ⟨rfl, b2⟩
    go_wp2_with fail
    go_ret
    exact ⟨by rw [H9.out]; rfl, Below.on' b0 b1 b2⟩
  | true =>
    have H9 : Hid (E = if (List.range m.slots.length).all (freeAt m) = true then 0 else 9) := by
      show _ = _
      rw [← Hc.out, HE.out, if_neg (by simpa using hq)]
    go_enter Try.func9, Try.ntmps9
    go_wp2_with fail
    refine hcall.mono ?_
    rintro e w1 ⟨⟨lv, rfl, hlv⟩, b1⟩
    have m1 := cells_below m0 b1 (by simp)
    obtain ⟨c0, c1, c2, c3, c4⟩ := five m1
    have hf1 := hf.below (Below.on b0 b1)
    have hcall2 := equal_is hlv hf1 HLr.out hq
    obtain ⟨la, lc, rfl⟩ := hlv.form
    clear hcall hf1
    go_wp2_with fail
    refine hcall2.mono ?_
    rintro e w2 ⟨rfl, b2⟩
    have m2 := cells_below m1 b2 (Array.getElem?_eq_some_iff.1 m1).1
    obtain ⟨d0, d1, d2, d3, d4⟩ := five m2
    have hlv2 := hlv.below b2
    have hbw := Below.on' b0 b1 b2
    obtain ⟨_, hlm, _, hlc⟩ := hlv2.cells
    have HLc : Hid (∀ j, j < (cntL m).length → ∃ b off, la = some ⟨b, off, none⟩ ∧ b < w2.heap.size ∧ w2.cell? ⟨b, off + j, none⟩ = some (.int .i64 ((cntL m).getD j 0))) := hlc
    have hle : (cntL m).length = sn := by rw [cntL_length, HN.out]
    have HLe : Hid ((cntL m).length = sn) := hle
    rw [hle] at HLc ⊢
    clear hcall2 hlv hlv2 hlc c0 c1 c2 c3 c4 hle hlm hf
    go_wp2_with fail
    go_loopw [5, 6, 23] (fun _ _ i wr => ∃ k : Nat, k ≤ sn ∧ i = .int .i64 k ∧ Hid (∀ j, j < k → freeAt m j = true) ∧ Below w2.heap.size w2 wr) (fun _ _ i _ => sn - (intOf i).toNat)
    case atStart => exact ⟨0, Nat.zero_le _, rfl, fun j hj => absurd hj (by omega), Below.refl _ _⟩
    case round =>
      obtain ⟨k, hk, rfl, HA, hbel⟩ := hrel
      by_cases hlk : k < sn
      · have hki : (k : Int) < (sn : Int) := by omega
        have hkm : k < m.slots.length := by rw [HN.out]; exact hlk
        obtain ⟨lb, lo, rfl, hlb, hlc⟩ := HLc.out k hlk
        obtain ⟨s, hs⟩ : ∃ s, s = m.slots[k]'hkm := ⟨_, rfl⟩
        obtain ⟨kk, dd, tt⟩ := s
        have hS : SlAt w sb (so + k * 3) (kk, dd, tt) := by rw [hs]; exact HCl.out k _
        obtain ⟨tv, e1, e2, e3, hsl⟩ := hS
        obtain ⟨ta, tc, rfl⟩ := hsl.form
        have hbr := Below.on hbw hbel
        obtain ⟨c, hc⟩ : ∃ c, (cntL m).getD k 0 = c := ⟨_, rfl⟩
        rw [hc] at hlc
        have e1 : wr.cell? ⟨sb, so + k * 3, none⟩ = some (.int .i64 kk) := (hbr.cell (p := ⟨sb, so + k * 3, none⟩) hsb).trans e1
        have e2 : wr.cell? ⟨sb, so + k * 3 + 1, none⟩ = some (.string dd) := (hbr.cell (p := ⟨sb, so + k * 3 + 1, none⟩) hsb).trans e2
        have e3 : wr.cell? ⟨sb, so + k * 3 + 1 + 1, none⟩ = some (.slice ta tt.length tc) := (hbr.cell (p := ⟨sb, so + k * 3 + 1 + 1, none⟩) hsb).trans e3
        have el : (wr.alloc (.cells #[.int .i64 kk, .string dd, .slice ta tt.length tc] 33)).cell? ⟨lb, lo + k, none⟩ = some (.int .i64 c) := ((hbel.alloc hbel.size _).cell (p := ⟨lb, lo + k, none⟩) hlb).trans hlc
        have HF : Hid (freeAt m k = ((kk == 0) == (c == 0))) := by
          show _ = _
          unfold freeAt
          rw [hc]
          simp [List.getD, hkm, ← hs]
        have hba : Below w2.heap.size w2 (wr.alloc (.cells #[.int .i64 kk, .string dd, .slice ta tt.length tc] 33)) := hbel.alloc hbel.size _
        clear hs hlc hc hsl
        cases hx : kk == 0 with
        | true =>
          cases hy : c == 0 with
          | true =>
            go_wp2_with fail
            go_region
            go_wp2_with fail
            go_roundw
            case rel => exact ⟨k + 1, by omega, by go_num, fun j hj => by
              by_cases e : j = k
              · subst e; rw [HF.out, hx, hy]; rfl
              · exact HA.out j (by omega), ⟨hba.os, hba.tape, hba.output, hba.size, hba.block⟩⟩
            case measure => simp [intOf]; omega
          | false =>
            have HB : Hid (E = 9) := by
              show _ = _
              rw [H9.out, if_neg]
              intro e
              rw [List.all_eq_true] at e
              have := e k (by simpa using hkm)
              rw [HF.out, hx, hy] at this
              cases this
            go_wp2_with fail
            go_region
            go_wp2_with fail
            go_ret
            exact ⟨ret_int HB.out.symm, Below.on hbw ⟨hba.os, hba.tape, hba.output, hba.size, hba.block⟩⟩
        | false =>
          cases hy : c == 0 with
          | true =>
            have HB : Hid (E = 9) := by
              show _ = _
              rw [H9.out, if_neg]
              intro e
              rw [List.all_eq_true] at e
              have := e k (by simpa using hkm)
              rw [HF.out, hx, hy] at this
              cases this
            go_wp2_with fail
            go_region
            go_wp2_with fail
            go_ret
            exact ⟨ret_int HB.out.symm, Below.on hbw ⟨hba.os, hba.tape, hba.output, hba.size, hba.block⟩⟩
          | false =>
            go_wp2_with fail
            go_region
            go_wp2_with fail
            go_roundw
            case rel => exact ⟨k + 1, by omega, by go_num, fun j hj => by
              by_cases e : j = k
              · subst e; rw [HF.out, hx, hy]; rfl
              · exact HA.out j (by omega), ⟨hba.os, hba.tape, hba.output, hba.size, hba.block⟩⟩
            case measure => simp [intOf]; omega
      · have e4 : k = sn := by omega
        subst e4
        go_wp2_with fail
        go_ret
        refine ⟨ret_int ?_, Below.on hbw hbel⟩
        rw [H9.out, if_pos]
        rw [List.all_eq_true]
        intro j hj
        exact HA.out j (by rw [← HN.out]; simpa using hj)

theorem tcheck_is {w : World} {v : Value} {m : ImgD} (h : Img w v m) {E : Int} (hE : checkE m = E) :
    Calls Try.prog 9 #[v] w fun r w' => r = .returned (.int .i64 E) ∧ Below w.heap.size w w' := by
  have h' := h
  obtain ⟨ra, rc, sa, sc, fa, fc, na, nc, rfl, h1, h2, h3, h4⟩ := h.parts
  by_cases h0 : shapeE m = 0
  · have z2 := (shapeE_zero h0).2.1
    have hp := slotsE_parts z2
    obtain ⟨sb, so, sc', e, hcp, hlt, hcell⟩ := h2.open hp.1
    simp at e
    obtain ⟨rfl, rfl⟩ := e
    exact tcheck_at m.guest ra _ rc sb so _ sc fa _ fc na _ nc m E w h' h3 rfl hlt hp.2 hcell h0 hE
  · have e : shapeE m = E := by rw [← hE]; unfold checkE; rw [if_pos h0]
    exact tcheck_err m.guest ra _ rc sa _ sc fa _ fc na _ nc m E w h' e (by rw [← e]; simpa using h0)
end Go.Proofs.Ytehleeibgkpjmac
/- Contract of Look. -/
namespace Go.Proofs.Ytehleeibgkpjmac
open Go.RowKit Go.Shelf
set_option maxRecDepth 20000

def lookV (m : ImgD) (root : List Int) (n : Nat) : Int := if root.getD (n / 4) 0 = 0 then 0 else (tabOf m.slots (root.getD (n / 4) 0)).getD (n % 4) 0
def lookE (m : ImgD) (n : Int) : Int := if checkE m ≠ 0 then checkE m else if 0 ≤ n ∧ n < m.guest then 0 else 3

theorem look_err (gm : Int) (ra : Option Addr) (rn rc : Nat) (sa : Option Addr) (sn sc : Nat) (fa : Option Addr) (fn fc : Nat) (na : Option Addr) (nn nc : Nat) (m : ImgD) (E n : Int) (w : World) (h : Img w (.agg #[.int .i64 gm, .slice ra rn rc, .slice sa sn sc, .slice fa fn fc, .slice na nn nc]) m) (hE : checkE m = E) (hne : (E != 0) = true) :
    Calls Try.prog 12 #[.agg #[.int .i64 gm, .slice ra rn rc, .slice sa sn sc, .slice fa fn fc, .slice na nn nc], .int .i64 n] w fun r w' => r = .returned (.tuple #[.int .i64 0, .int .i64 E]) ∧ Below w.heap.size w w' := by
  have b0 : Below w.heap.size w (w.alloc (.cells #[.int .i64 gm, .slice ra rn rc, .slice sa sn sc, .slice fa fn fc, .slice na nn nc] 26)) := (Below.refl _ _).alloc (Nat.le_refl _) _
  have hcall := tcheck_is (h.below b0) hE
  clear h hE
  go_enter Try.func12, Try.ntmps12
  go_wp2_with (go_at_call 9; refine hcall.mono ?_; rintro e w1 ⟨rfl, b1⟩)
  go_ret2
  exact ⟨rfl, Below.on b0 b1⟩

theorem look_range (gm : Int) (ra : Option Addr) (rn rc : Nat) (sa : Option Addr) (sn sc : Nat) (fa : Option Addr) (fn fc : Nat) (na : Option Addr) (nn nc : Nat) (m : ImgD) (n : Int) (w : World) (h : Img w (.agg #[.int .i64 gm, .slice ra rn rc, .slice sa sn sc, .slice fa fn fc, .slice na nn nc]) m) (hE : checkE m = 0) (hn : n < 0 ∨ gm ≤ n) :
    Calls Try.prog 12 #[.agg #[.int .i64 gm, .slice ra rn rc, .slice sa sn sc, .slice fa fn fc, .slice na nn nc], .int .i64 n] w fun r w' => r = .returned (.tuple #[.int .i64 0, .int .i64 3]) ∧ Below w.heap.size w w' := by
  have b0 : Below w.heap.size w (w.alloc (.cells #[.int .i64 gm, .slice ra rn rc, .slice sa sn sc, .slice fa fn fc, .slice na nn nc] 26)) := (Below.refl _ _).alloc (Nat.le_refl _) _
  have m0 : (w.alloc (.cells #[.int .i64 gm, .slice ra rn rc, .slice sa sn sc, .slice fa fn fc, .slice na nn nc] 26)).heap[w.heap.size]? = some (.cells #[.int .i64 gm, .slice ra rn rc, .slice sa sn sc, .slice fa fn fc, .slice na nn nc] 26) := World.alloc_heap_new _ _
  have hcall := tcheck_is (h.below b0) hE
  clear h hE
  by_cases h0 : n < 0
  · clear hn
    go_enter Try.func12, Try.ntmps12
    go_wp2_with (go_at_call 9; refine hcall.mono ?_; rintro e w1 ⟨rfl, b1⟩)
    go_ret2
    exact ⟨rfl, Below.on b0 b1⟩
  · have h1 : gm ≤ n := by omega
    clear hn
    go_enter Try.func12, Try.ntmps12
    go_wp2_with (go_at_call 9; refine hcall.mono ?_; rintro e w1 ⟨rfl, b1⟩; have m1 := cells_below m0 b1 (by simp); obtain ⟨c0, c1, c2, c3, c4⟩ := five m1)
    go_ret2
    exact ⟨rfl, Below.on b0 b1⟩

set_option maxHeartbeats 1000000 in
theorem look_hole (gm : Int) (rb ro : Nat) (rn rc : Nat) (sa : Option Addr) (sn sc : Nat) (fa : Option Addr) (fn fc : Nat) (na : Option Addr) (nn nc : Nat) (m : ImgD) (n : Nat) (w : World) (h : Img w (.agg #[.int .i64 gm, .slice (some ⟨rb, ro, none⟩) rn rc, .slice sa sn sc, .slice fa fn fc, .slice na nn nc]) m) (hE : checkE m = 0) (hn : (n : Int) < gm) (hrn : n / 4 < rn) (hn16 : n < 16) (hrb : rb < w.heap.size) (hc : w.cell? ⟨rb, ro + n / 4, none⟩ = some (.int .i64 0)) :
    Calls Try.prog 12 #[.agg #[.int .i64 gm, .slice (some ⟨rb, ro, none⟩) rn rc, .slice sa sn sc, .slice fa fn fc, .slice na nn nc], .int .i64 n] w fun r w' => r = .returned (.tuple #[.int .i64 0, .int .i64 0]) ∧ Below w.heap.size w w' := by
  have b0 : Below w.heap.size w (w.alloc (.cells #[.int .i64 gm, .slice (some ⟨rb, ro, none⟩) rn rc, .slice sa sn sc, .slice fa fn fc, .slice na nn nc] 26)) := (Below.refl _ _).alloc (Nat.le_refl _) _
  have m0 : (w.alloc (.cells #[.int .i64 gm, .slice (some ⟨rb, ro, none⟩) rn rc, .slice sa sn sc, .slice fa fn fc, .slice na nn nc] 26)).heap[w.heap.size]? = some (.cells #[.int .i64 gm, .slice (some ⟨rb, ro, none⟩) rn rc, .slice sa sn sc, .slice fa fn fc, .slice na nn nc] 26) := World.alloc_heap_new _ _
  have hcall := tcheck_is (h.below b0) hE
  have hq : ((n : Int) / 4).toNat = n / 4 := by omega
  clear h hE
  go_enter Try.func12, Try.ntmps12
  go_wp2_with (go_at_call 9; refine hcall.mono ?_; rintro e w1 ⟨rfl, b1⟩; have m1 := cells_below m0 b1 (by simp); obtain ⟨c0, c1, c2, c3, c4⟩ := five m1; have cr : w1.cell? ⟨rb, ro + n / 4, none⟩ = some (.int .i64 0) := ((Below.on b0 b1).cell (p := ⟨rb, ro + n / 4, none⟩) hrb).trans hc)
  go_ret2
  exact ⟨rfl, Below.on b0 b1⟩

set_option maxHeartbeats 1000000 in
theorem look_tab (gm : Int) (rb ro : Nat) (rn rc : Nat) (sb so : Nat) (sn sc : Nat) (fa : Option Addr) (fn fc : Nat) (na : Option Addr) (nn nc : Nat) (m : ImgD) (n t : Nat) (w : World) (h : Img w (.agg #[.int .i64 gm, .slice (some ⟨rb, ro, none⟩) rn rc, .slice (some ⟨sb, so, none⟩) sn sc, .slice fa fn fc, .slice na nn nc]) m) (hE : checkE m = 0) (hn : (n : Int) < gm) (hrn : n / 4 < rn) (hn16 : n < 16) (hrb : rb < w.heap.size) (hc : w.cell? ⟨rb, ro + n / 4, none⟩ = some (.int .i64 t))
    (ht0 : 0 < t) (ht : t < sn) (hsb : sb < w.heap.size) (tb tw tc : Nat) (hct : w.cell? ⟨sb, so + t * 3 + 2, none⟩ = some (.slice (some ⟨tb, tw, none⟩) 4 tc)) (htb : tb < w.heap.size) (x : Int) (hx : w.cell? ⟨tb, tw + n % 4, none⟩ = some (.int .i64 x)) :
    Calls Try.prog 12 #[.agg #[.int .i64 gm, .slice (some ⟨rb, ro, none⟩) rn rc, .slice (some ⟨sb, so, none⟩) sn sc, .slice fa fn fc, .slice na nn nc], .int .i64 n] w fun r w' => r = .returned (.tuple #[.int .i64 x, .int .i64 0]) ∧ Below w.heap.size w w' := by
  have b0 : Below w.heap.size w (w.alloc (.cells #[.int .i64 gm, .slice (some ⟨rb, ro, none⟩) rn rc, .slice (some ⟨sb, so, none⟩) sn sc, .slice fa fn fc, .slice na nn nc] 26)) := (Below.refl _ _).alloc (Nat.le_refl _) _
  have m0 : (w.alloc (.cells #[.int .i64 gm, .slice (some ⟨rb, ro, none⟩) rn rc, .slice (some ⟨sb, so, none⟩) sn sc, .slice fa fn fc, .slice na nn nc] 26)).heap[w.heap.size]? = some (.cells #[.int .i64 gm, .slice (some ⟨rb, ro, none⟩) rn rc, .slice (some ⟨sb, so, none⟩) sn sc, .slice fa fn fc, .slice na nn nc] 26) := World.alloc_heap_new _ _
  have hcall := tcheck_is (h.below b0) hE
  have hq : ((n : Int) / 4).toNat = n / 4 := by omega
  have hq2 : ((n : Int) % 4).toNat = n % 4 := by omega
  have hne : ((t : Int) == 0) = false := by simp; omega
  have h4 : n % 4 < 4 := by omega
  clear h hE
  go_enter Try.func12, Try.ntmps12
  go_wp2_with (go_at_call 9; refine hcall.mono ?_; rintro e w1 ⟨rfl, b1⟩; have m1 := cells_below m0 b1 (by simp); obtain ⟨c0, c1, c2, c3, c4⟩ := five m1; have cr : w1.cell? ⟨rb, ro + n / 4, none⟩ = some (.int .i64 t) := ((Below.on b0 b1).cell (p := ⟨rb, ro + n / 4, none⟩) hrb).trans hc; have ct : w1.cell? ⟨sb, so + t * 3 + 2, none⟩ = some (.slice (some ⟨tb, tw, none⟩) 4 tc) := ((Below.on b0 b1).cell (p := ⟨sb, so + t * 3 + 2, none⟩) hsb).trans hct; have cx : w1.cell? ⟨tb, tw + n % 4, none⟩ = some (.int .i64 x) := ((Below.on b0 b1).cell (p := ⟨tb, tw + n % 4, none⟩) htb).trans hx)
  go_ret2
  exact ⟨rfl, Below.on b0 b1⟩

theorem checkE_shape {m : ImgD} (h : checkE m = 0) : shapeE m = 0 := by
  unfold checkE at h
  split at h
  · rename_i h1; exact absurd h h1
  · rename_i h1; simpa using h1

theorem look_is {w : World} {v : Value} {m : ImgD} (h : Img w v m) (n : Int) {E c : Int} (hE : lookE m n = E) (hc : (if E = 0 then lookV m m.root n.toNat else 0) = c) :
    Calls Try.prog 12 #[v, .int .i64 n] w fun r w' => r = .returned (.tuple #[.int .i64 c, .int .i64 E]) ∧ Below w.heap.size w w' := by
  have h' := h
  obtain ⟨ra, rc, sa, sc, fa, fc, na, nc, rfl, h1, h2, h3, h4⟩ := h.parts
  unfold lookE at hE
  by_cases h0 : checkE m = 0
  · rw [if_neg (by simpa using h0)] at hE
    by_cases hn : 0 ≤ n ∧ n < m.guest
    · rw [if_pos hn] at hE
      subst hE
      rw [if_pos rfl] at hc
      obtain ⟨k, rfl⟩ : ∃ k : Nat, n = k := ⟨n.toNat, by omega⟩
      rw [Int.toNat_natCast] at hc
      obtain ⟨z1, z2, z3, z4, z5, z6, z7⟩ := shapeE_zero (checkE_shape h0)
      have hg : guestOK m.guest = true := List.all_eq_true.1 z5 (⟨#[]⟩, m.guest, m.root) List.mem_cons_self
      have hrf : rootFit m.slots m.guest m.root = true := List.all_eq_true.1 z7 (⟨#[]⟩, m.guest, m.root) List.mem_cons_self
      unfold guestOK at hg
      simp only [decide_eq_true_eq] at hg
      unfold rootFit at hrf
      simp only [Bool.and_eq_true, decide_eq_true_eq] at hrf
      have hkl : k / 4 < m.root.length := by omega
      have hE2 := all_at hrf.2.1 hkl
      obtain ⟨rb, ro, rc', e, _, hrb, hcell⟩ := h1.open (by omega)
      simp at e
      obtain ⟨rfl, rfl⟩ := e
      have hcr := hcell (k / 4) hkl
      unfold lookV at hc
      by_cases hz : m.root.getD (k / 4) 0 = 0
      · rw [if_pos hz] at hc
        subst hc
        rw [hz] at hcr
        exact look_hole m.guest rb ro _ rc sa _ sc fa _ fc na _ nc m k w h' h0 hn.2 hkl (by omega) hrb hcr
      · rw [if_neg hz] at hc
        rw [rootE_x hz] at hE2
        obtain ⟨t, ht, htl, hkd⟩ := isKd_yes hE2
        have hok := okD_tab (slotsE_all z2 htl) hkd
        obtain ⟨sb, so, sc', e, _, hsb, hcl⟩ := h2.open (by omega)
        simp at e
        obtain ⟨rfl, rfl⟩ := e
        obtain ⟨tv, _, _, c3, hsl⟩ := hcl t htl
        obtain ⟨tb, tw, tc, rfl, _, htb, htc⟩ := hsl.four hok.1
        rw [ht] at hcr hc hz
        have e4 : tabOf m.slots (t : Int) = m.slots[t].2.2 := by unfold tabOf; simp [List.getD, htl]
        rw [e4] at hc
        have hx := htc (k % 4) (by omega)
        rw [hc] at hx
        exact look_tab m.guest rb ro _ rc sb so _ sc fa _ fc na _ nc m k t w h' h0 hn.2 hkl (by omega) hrb hcr (by omega) htl hsb tb tw tc c3 htb c hx
    · rw [if_neg hn] at hE
      subst hE
      rw [if_neg (by decide)] at hc
      subst hc
      exact look_range m.guest ra _ rc sa _ sc fa _ fc na _ nc m n w h' h0 (by omega)
  · rw [if_pos h0] at hE
    rw [if_neg (by rw [← hE]; exact h0)] at hc
    subst hc
    exact look_err m.guest ra _ rc sa _ sc fa _ fc na _ nc m E n w h' hE (by rw [← hE]; simpa using h0)
end Go.Proofs.Ytehleeibgkpjmac
/- The page of 0. -/
namespace Go.Proofs.Ytehleeibgkpjmac
def Z4 : ByteArray := ⟨#[0, 0, 0, 0]⟩
end Go.Proofs.Ytehleeibgkpjmac
/- What a right image says. -/
namespace Go.Proofs.Ytehleeibgkpjmac
open Go.RowKit Go.Shelf
set_option maxRecDepth 20000

/-! ### What a right image says -/
theorem checkE_zero {m : ImgD} (h : checkE m = 0) : shapeE m = 0 ∧ cntL m = m.refs ∧ ∀ j, j < m.slots.length → freeAt m j = true := by
  have hs := checkE_shape h
  unfold checkE at h
  rw [if_neg (by simpa using hs)] at h
  split at h
  · simp at h
  · rename_i hc
    split at h
    · rename_i ha
      exact ⟨hs, Classical.not_not.1 hc, fun j hj => List.all_eq_true.1 ha j (by simpa using hj)⟩
    · simp at h
def tabsN (L : List SlotD) (k : Nat) : Nat := ((List.range k).map (fun j => if kd L j = 2 then 1 else 0)).sum
theorem tabsN_succ (L : List SlotD) (k : Nat) : tabsN L (k + 1) = tabsN L k + if kd L k = 2 then 1 else 0 := by
  unfold tabsN; rw [List.range_succ, List.map_append, List.sum_append]; simp
theorem tabsN_le (L : List SlotD) : ∀ k, tabsN L k ≤ k
  | 0 => Nat.le_refl _
  | k + 1 => by rw [tabsN_succ]; have := tabsN_le L k; split <;> omega
theorem sT_tabs {L : List SlotD} (h : slotsE L = 0) (P : List Int) (n : Nat) : ∀ k, sT L P n k ≤ tabsN L k * 4
  | 0 => Nat.le_refl _
  | k + 1 => by
    rw [sT_succ, tabsN_succ]
    have := sT_tabs h P n k
    unfold toldT
    by_cases hk : kd L k = 2
    · rw [if_pos hk]
      have : (tabOf L k).count (n : Int) ≤ 4 := Nat.le_trans List.count_le_length (tab4 h k)
      split <;> omega
    · rw [if_neg hk, if_neg (fun x => hk x.1)]; omega
theorem cnt_data {m : ImgD} (h : shapeE m = 0) {j : Nat} (hj : j < m.slots.length) (hk : kd m.slots j = 1) : (cntL m).getD j 0 ≤ (tabsN m.slots m.slots.length : Int) * 4 := by
  rw [cntL_get h j hj]
  obtain ⟨z1, z2, z3, z4, z5, z6, z7⟩ := shapeE_zero h
  have j1 : 1 ≤ j := by
    rcases Nat.eq_zero_or_pos j with e | e
    · subst e; rw [slot0 z2] at hk; simp at hk
    · exact e
  unfold cntI
  rw [if_neg (by omega), root_no (flatR_root h) j1 (by rw [hk]; decide)]
  have : sumT m.slots (flatR m) j ≤ tabsN m.slots m.slots.length * 4 := sT_tabs z2 (flatR m) j m.slots.length
  omega
theorem cnt_nonneg (m : ImgD) (h : shapeE m = 0) (j : Nat) (hj : j < m.slots.length) : 0 ≤ (cntL m).getD j 0 := by
  rw [cntL_get h j hj]; unfold cntI; split <;> omega
theorem cnt_le {m : ImgD} (h : shapeE m = 0) (j : Nat) (hj : j < m.slots.length) : (cntL m).getD j 0 ≤ 1000 := by
  rw [cntL_get h j hj]
  obtain ⟨z1, z2, z3, z4, z5, z6, z7⟩ := shapeE_zero h
  have hp := slotsE_parts z2
  unfold cntI
  split
  · decide
  · have h1 : sumT m.slots (flatR m) j ≤ 4 * m.slots.length := sT_le z2 (flatR m) j m.slots.length
    have h2 : (flatR m).count (j : Int) ≤ (flatR m).length := List.count_le_length
    have h3 : (flatR m).length ≤ 4 * (rootsOf m).length := by
      unfold flatR
      have hr := roots4 h
      generalize rootsOf m = R at hr
      clear z1 z2 z3 z4 z5 z6 z7 h1 h2
      induction R with
      | nil => simp
      | cons a R ih =>
        rw [List.flatMap_cons, List.length_append]
        have h1 := hr a List.mem_cons_self
        have h2 := ih (fun s hs => hr s (List.mem_cons_of_mem _ hs))
        rw [List.length_cons]; omega
    have h4 : (rootsOf m).length ≤ 4 := by unfold rootsOf; simp; omega
    omega
theorem getD_at {l : List Int} {j : Nat} (h : j < l.length) : l.getD j 0 = l[j] := by simp [List.getD, h]
theorem guest_ok {m : ImgD} (h : shapeE m = 0) : 0 ≤ m.guest ∧ m.guest ≤ 16 := by
  have := List.all_eq_true.1 (shapeE_zero h).2.2.2.2.1 (⟨#[]⟩, m.guest, m.root) List.mem_cons_self
  unfold guestOK at this
  simpa using this
theorem root_ok {m : ImgD} (h : shapeE m = 0) : (m.root.length : Int) = (m.guest + 3) / 4 ∧ m.root.all (rootE m.slots) = true := by
  have := List.all_eq_true.1 (shapeE_zero h).2.2.2.2.2.2 (⟨#[]⟩, m.guest, m.root) List.mem_cons_self
  unfold rootFit at this
  simp only [Bool.and_eq_true, decide_eq_true_eq] at this
  exact ⟨this.1, this.2.1⟩
/-- An entry that is looked at. -/
theorem lookV_ent {m : ImgD} (h : shapeE m = 0) {root : List Int} (hall : root.all (rootE m.slots) = true) (n : Nat) (hl : n / 4 < root.length) : lookV m root n = 0 ∨ lookV m root n = -1 ∨ ∃ j : Nat, lookV m root n = j ∧ 1 ≤ j ∧ j < m.slots.length ∧ kd m.slots j = 1 := by
  obtain ⟨z1, z2, z3, z4, z5, z6, z7⟩ := shapeE_zero h
  unfold lookV
  by_cases hz : root.getD (n / 4) 0 = 0
  · rw [if_pos hz]; exact .inl rfl
  rw [if_neg hz]
  have hE2 := all_at hall hl
  rw [rootE_x hz] at hE2
  have h4 := tab_len z2 hE2
  have hm : n % 4 < (tabOf m.slots (root.getD (n / 4) 0)).length := by omega
  have e : (tabOf m.slots (root.getD (n / 4) 0)).getD (n % 4) 0 = (tabOf m.slots (root.getD (n / 4) 0))[n % 4] := getD_at hm
  rw [e]
  rcases tab_ent z6 _ (List.getElem_mem hm) with g | g | ⟨j, g1, g2, g3⟩
  · exact .inl g
  · exact .inr (.inl g)
  · refine .inr (.inr ⟨j, g1, ?_, g2, g3⟩)
    rcases Nat.eq_zero_or_pos j with e | e
    · subst e; rw [slot0 z2] at g3; simp at g3
    · exact e

theorem lookE_of {m : ImgD} (hC : checkE m = 0) {k : Nat} (hk : (k : Int) < m.guest) : lookE m k = 0 := by
  unfold lookE; rw [if_neg (by simpa using hC), if_pos ⟨by omega, hk⟩]
theorem int_bounds {n : Int} (h : (Lit.int .i64 n).wf = true) : -9223372036854775808 ≤ n ∧ n ≤ 9223372036854775807 := by
  simp only [Lit.wf, Bool.and_eq_true, decide_eq_true_eq] at h
  exact h

/-- The page of an entry; all pages of a Root. -/
def pageV (L : List SlotD) (e : Int) : ByteArray := if e ≤ 0 then Z4 else (L.getD e.toNat default).2.1
def allP (m : ImgD) (root : List Int) (g : Nat) : List ByteArray := (List.range g).map (fun n => pageV m.slots (lookV m root n))
def readV (m : ImgD) (n : Int) : ByteArray := if lookE m n = 0 then pageV m.slots (lookV m m.root n.toNat) else ByteArray.empty
def allV (m : ImgD) : List ByteArray := if checkE m = 0 then allP m m.root m.guest.toNat else []
def ixOf (o : Option Nat) : Int := match o with | some k => (k : Int) | none => -1
def snapIx (S : List SnapD) (nm : ByteArray) : Option Nat := S.findIdx? (fun s => s.1.toList == nm.toList)
def pastE (m : ImgD) (nm : ByteArray) : Int := if checkE m ≠ 0 then checkE m else match snapIx m.snaps nm with | some _ => 0 | none => 5
def pastV (m : ImgD) (nm : ByteArray) : List ByteArray := if checkE m ≠ 0 then [] else match snapIx m.snaps nm with | some k => allP m (m.snaps.getD k default).2.2 (m.snaps.getD k default).2.1.toNat | none => []

theorem snapIx_some {S : List SnapD} {nm : ByteArray} {k : Nat} (h : snapIx S nm = some k) : k < S.length := by
  unfold snapIx at h
  rw [List.findIdx?_eq_some_iff_getElem] at h
  exact h.1
end Go.Proofs.Ytehleeibgkpjmac
