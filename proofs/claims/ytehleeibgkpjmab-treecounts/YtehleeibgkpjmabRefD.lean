/- Contract of the document's ShapeOf. -/
import Derived.Test.YtehleeibgkpjmabRefC
import Derived.Test.YtehleeibgkpjmabSlotErr
import Derived.Deep.QuietTactic
import Derived.BigQuiet
namespace Go.Proofs.Ytehleeibgkpjmab
open Go.RowKit Go.Shelf
set_option maxRecDepth 20000

theorem shapeOf_many (gm : Int) (ra : Option Addr) (rn rc : Nat) (sa : Option Addr) (sn sc : Nat) (fa : Option Addr) (fn fc : Nat) (na : Option Addr) (nn nc : Nat) (w : World) (hn : decide ((1 : Int) ≤ (sn : Int) ∧ (sn : Int) ≤ 40) = false ∨ 3 < nn) (_h : nn ≤ 9223372036854775807) :
    Calls Try.prog 25 #[.agg #[.int .i64 gm, .slice ra rn rc, .slice sa sn sc, .slice fa fn fc, .slice na nn nc]] w fun r w' => r = .returned (.int .i64 2) ∧ Below w.heap.size w w' := by
  have b0 : Below w.heap.size w (w.alloc (.cells #[.int .i64 gm, .slice ra rn rc, .slice sa sn sc, .slice fa fn fc, .slice na nn nc] 44)) := (Below.refl _ _).alloc (Nat.le_refl _) _
  cases hd : decide ((1 : Int) ≤ (sn : Int) ∧ (sn : Int) ≤ 40) with
  | false =>
    have HD : Hid (decide ((1 : Int) ≤ (sn : Int) ∧ (sn : Int) ≤ 40) = false) := hd
    clear hn hd
    go_enter Try.func25, Try.ntmps25
    go_wp2_with (go_at_call 38; refine (within_any _ _ _ _).mono ?_; rintro e w' ⟨rfl, hw⟩; subst hw; rw [HD.out])
    go_ret
    exact ⟨rfl, b0⟩
  | true =>
    have hn3 : (3 : Int) < (nn : Int) := by
      rcases hn with h | h
      · rw [hd] at h; cases h
      · omega
    have HD : Hid (decide ((1 : Int) ≤ (sn : Int) ∧ (sn : Int) ≤ 40) = true) := hd
    clear hn hd
    go_enter Try.func25, Try.ntmps25
    go_wp2_with (go_at_call 38; refine (within_any _ _ _ _).mono ?_; rintro e w' ⟨rfl, hw⟩; subst hw; rw [HD.out])
    go_ret
    exact ⟨rfl, b0⟩

theorem shapeOf_form (gm : Int) (ra : Option Addr) (rn rc : Nat) (sa : Option Addr) (sn sc : Nat) (fa : Option Addr) (fn fc : Nat) (na : Option Addr) (nn nc : Nat) (L : List SlotD) (E : Int) (w : World) (hd : decide ((1 : Int) ≤ (sn : Int) ∧ (sn : Int) ≤ 40) = true) (hn : nn ≤ 3) (hs : Slots w (.slice sa sn sc) L) (hE : slotsE L = E) (_hf : fn ≤ 9223372036854775807) (hor : E ≠ 0 ∨ fn ≠ sn) :
    Calls Try.prog 25 #[.agg #[.int .i64 gm, .slice ra rn rc, .slice sa sn sc, .slice fa fn fc, .slice na nn nc]] w fun r w' => r = .returned (.int .i64 1) ∧ Below w.heap.size w w' := by
  have b0 : Below w.heap.size w (w.alloc (.cells #[.int .i64 gm, .slice ra rn rc, .slice sa sn sc, .slice fa fn fc, .slice na nn nc] 44)) := (Below.refl _ _).alloc (Nat.le_refl _) _
  have m0 : (w.alloc (.cells #[.int .i64 gm, .slice ra rn rc, .slice sa sn sc, .slice fa fn fc, .slice na nn nc] 44)).heap[w.heap.size]? = some (.cells #[.int .i64 gm, .slice ra rn rc, .slice sa sn sc, .slice fa fn fc, .slice na nn nc] 44) := World.alloc_heap_new _ _
  have HD : Hid (decide ((1 : Int) ≤ (sn : Int) ∧ (sn : Int) ≤ 40) = true) := hd
  have hcall := slotsError_is (hs.below b0) hE
  have hn3 : ¬ (3 : Int) < (nn : Int) := by omega
  clear hd hs hE
  by_cases h0 : E = 0
  · have hfn : ((fn : Int) != (sn : Int)) = true := by
      rcases hor with h | h
      · exact absurd h0 h
      · simp; omega
    subst h0
    clear hor
    go_enter Try.func25, Try.ntmps25
    go_wp2_with (first | (go_at_call 38; refine (within_any _ _ _ _).mono ?_; rintro e w' ⟨rfl, hw⟩; subst hw; rw [HD.out]) | (go_at_call 45; refine hcall.mono ?_; rintro e w1 ⟨rfl, b1⟩; have m1 := cells_below m0 b1 (by simp); obtain ⟨c0, c1, c2, c3, c4⟩ := five m1))
    go_ret
    exact ⟨rfl, Below.on b0 b1⟩
  · have hb : (E != 0) = true := by simp [h0]
    clear hor h0
    go_enter Try.func25, Try.ntmps25
    go_wp2_with (first | (go_at_call 38; refine (within_any _ _ _ _).mono ?_; rintro e w' ⟨rfl, hw⟩; subst hw; rw [HD.out]) | (go_at_call 45; refine hcall.mono ?_; rintro e w1 ⟨rfl, b1⟩; have m1 := cells_below m0 b1 (by simp); obtain ⟨c0, c1, c2, c3, c4⟩ := five m1))
    go_ret
    exact ⟨rfl, Below.on b0 b1⟩

theorem isNameOf_is {s : ByteArray} (w : World) {B : Bool} (hB : isNm s = B) : Calls Try.prog 46 #[.string s] w fun r w' => r = .returned (.bool B) ∧ w' = w := by subst hB; exact isNameOf_any s w

set_option linter.unusedSimpArgs false in
set_option maxRecDepth 20000 in
set_option maxHeartbeats 8000000 in
theorem shapeOf_at (gm : Int) (ra : Option Addr) (rn rc : Nat) (sb so : Nat) (sn sc : Nat) (fa : Option Addr) (fn fc : Nat) (na : Option Addr) (nn nc : Nat) (m : ImgD) (E : Int) (w : World)
    (h : Img w (.agg #[.int .i64 gm, .slice ra rn rc, .slice (some ⟨sb, so, none⟩) sn sc, .slice fa fn fc, .slice na nn nc]) m) (hsn : m.slots.length = sn) (hnn : m.snaps.length = nn) (hgm : m.guest = gm) (hn3 : nn ≤ 3) (hfs : fn = sn) (hsb : sb < w.heap.size) (hcl : ∀ j, (h : j < m.slots.length) → SlAt w sb (so + j * 3) m.slots[j]) (hs : slotsE m.slots = 0)
    (hr : Sl w (.slice ra rn rc) m.root) (hna : ∀ j, (h : j < m.snaps.length) → ∃ b off, na = some ⟨b, off, none⟩ ∧ b < w.heap.size ∧ SnAt w b (off + j * 3) m.snaps[j])
    (hE : shapeE m = E) (hrf : m.refs.length = m.slots.length) :
    Calls Try.prog 25 #[.agg #[.int .i64 gm, .slice ra rn rc, .slice (some ⟨sb, so, none⟩) sn sc, .slice fa fn fc, .slice na nn nc]] w fun r w' => r = .returned (.int .i64 E) ∧ Below w.heap.size w w' := by
  have b0 : Below w.heap.size w (w.alloc (.cells #[.int .i64 gm, .slice ra rn rc, .slice (some ⟨sb, so, none⟩) sn sc, .slice fa fn fc, .slice na nn nc] 44)) := (Below.refl _ _).alloc (Nat.le_refl _) _
  have m0 : (w.alloc (.cells #[.int .i64 gm, .slice ra rn rc, .slice (some ⟨sb, so, none⟩) sn sc, .slice fa fn fc, .slice na nn nc] 44)).heap[w.heap.size]? = some (.cells #[.int .i64 gm, .slice ra rn rc, .slice (some ⟨sb, so, none⟩) sn sc, .slice fa fn fc, .slice na nn nc] 44) := World.alloc_heap_new _ _
  have hsl : Slots w (.slice (some ⟨sb, so, none⟩) sn sc) m.slots := by
    obtain ⟨_, _, _, _, e, _, h2, _⟩ := h
    simp at e
    obtain ⟨_, _, e2, _⟩ := e
    rw [← e2] at h2; exact h2
  have h40 : sn ≤ 40 := by rw [← hsn]; exact (slotsE_parts hs).2
  have h1s : 1 ≤ sn := by rw [← hsn]; exact (slotsE_parts hs).1
  have HD : Hid (decide ((1 : Int) ≤ (sn : Int) ∧ (sn : Int) ≤ 40) = true) := decide_eq_true (by omega)
  have hse := slotsError_is (hsl.below b0) hs
  have hn3i : ¬ (3 : Int) < (nn : Int) := by omega
  subst hfs
  have HT : Hid (E = if namesOK m.snaps = false then 1 else tailE m.slots (rootsOf m)) := by
    show _ = _
    rw [← hE]
    unfold shapeE tailE
    rw [if_neg (by rw [hnn]; omega), if_neg (by simpa using hs)]
    by_cases hN : namesOK m.snaps = false
    · rw [if_pos (.inr hN), if_pos hN]
    · rw [if_neg (fun h => h.elim (fun h => h hrf) hN), if_neg hN]
  have F1 : Hid (∀ k, k < nn → nmAt m.snaps k = false → E = 1) := fun k hk hb => by
    rw [HT.out, if_pos (namesOK_bad (by rw [hnn]; exact hk) hb)]
  have F2 : Hid (namesOK m.snaps = true → ∀ s ∈ rootsOf m, guestOK s.2.1 = false → E = 3) := fun hN s hm hg => by
    rw [HT.out, if_neg (by rw [hN]; decide)]
    unfold tailE
    rw [if_pos]
    rw [← Bool.not_eq_true, List.all_eq_true]
    intro hall
    have := hall s hm
    rw [hg] at this; cases this
  have F3 : Hid (namesOK m.snaps = true → (rootsOf m).all (fun s => guestOK s.2.1) = true → ∀ n, (hn : n < m.slots.length) → ∀ i, i < m.slots[n].2.2.length → entP m.slots (m.slots[n].2.2.getD i 0) = false → E = 1) := fun hN hG n hn i hi hb => by
    rw [HT.out, if_neg (by rw [hN]; decide)]
    unfold tailE
    rw [if_neg (by rw [hG]; decide), if_pos]
    rw [← Bool.not_eq_true, ← tabsP_eq hs, List.all_eq_true]
    intro hall
    have := all_at (hall _ (List.getElem_mem hn)) hi
    rw [hb] at this; cases this
  have F4 : Hid (namesOK m.snaps = true → (rootsOf m).all (fun s => guestOK s.2.1) = true → tabFit m.slots = true → ∀ s ∈ rootsOf m, rootFit m.slots s.2.1 s.2.2 = false → E = 1) := fun hN hG hT s hm hb => by
    rw [HT.out, if_neg (by rw [hN]; decide)]
    unfold tailE
    rw [if_neg (by rw [hG]; decide), if_neg (by rw [hT]; decide), if_pos]
    rw [← Bool.not_eq_true, List.all_eq_true]
    intro hall
    have := hall s hm
    rw [hb] at this; cases this
  have F5 : Hid (namesOK m.snaps = true → (rootsOf m).all (fun s => guestOK s.2.1) = true → tabFit m.slots = true → (rootsOf m).all (fun s => rootFit m.slots s.2.1 s.2.2) = true → E = 0) := fun hN hG hT hR => by
    rw [HT.out, if_neg (by rw [hN]; decide)]
    unfold tailE
    rw [if_neg (by rw [hG]; decide), if_neg (by rw [hT]; decide), if_neg (by rw [hR]; decide)]
  have H1 : Hid (m.slots.length = fn ∧ m.snaps.length = nn ∧ m.guest = gm) := ⟨hsn, hnn, hgm⟩
  have H2 : Hid (∀ j, (h : j < m.slots.length) → SlAt w sb (so + j * 3) m.slots[j]) := hcl
  have H3 : Hid (∀ j, (h : j < m.snaps.length) → ∃ b off, na = some ⟨b, off, none⟩ ∧ b < w.heap.size ∧ SnAt w b (off + j * 3) m.snaps[j]) := hna
  have H4 : Hid (slotsE m.slots = 0) := hs
  have H6 : Hid (Img w (.agg #[.int .i64 gm, .slice ra rn rc, .slice (some ⟨sb, so, none⟩) fn sc, .slice fa fn fc, .slice na nn nc]) m) := h
  have H7 : Hid (Sl w (.slice ra rn rc) m.root) := hr
  have hfn0 : ((fn : Int) != (fn : Int)) = false := by simp
  clear hsn hnn hgm hcl hna hs h hr HT hE hrf hsl
  go_enter Try.func25, Try.ntmps25
  go_wp2_with (first | (go_at_call 38; refine (within_any _ _ _ _).mono ?_; rintro e w' ⟨rfl, hw⟩; subst hw; rw [HD.out]) | (go_at_call 45; refine hse.mono ?_; rintro e w1 ⟨rfl, b1⟩; have m1 := cells_below m0 b1 (by simp); obtain ⟨c0, c1, c2, c3, c4⟩ := five m1))
  clear hse HD
  go_loopw [3] (fun i wr => ∃ k : Nat, k ≤ nn ∧ i = .int .i64 k ∧ Hid (∀ j, j < k → nmAt m.snaps j = true) ∧ Below w1.heap.size w1 wr) (fun i _ => nn - (intOf i).toNat)
  case atStart => exact ⟨0, Nat.zero_le _, rfl, fun j hj => absurd hj (by omega), Below.refl _ _⟩
  case round =>
    obtain ⟨k, hk, rfl, HA, hbel⟩ := hrel
    have hszw1 : w.heap.size < w1.heap.size := (Array.getElem?_eq_some_iff.1 m1).1
    have mr := cells_below m1 hbel hszw1
    have hbw := Below.on (Below.on b0 b1) hbel
    clear c0 c1 c2 c3 c4
    obtain ⟨c0, c1, c2, c3, c4⟩ := five mr
    by_cases hlk : k < nn
    · obtain ⟨b, off, rfl, hlt, hS⟩ := H3.out k (by rw [H1.out.2.1]; exact hlk)
      obtain ⟨s, hs⟩ : ∃ s, s = m.snaps[k]'(by rw [H1.out.2.1]; exact hlk) := ⟨_, rfl⟩
      obtain ⟨nm, gg, rr⟩ := s
      rw [← hs] at hS
      obtain ⟨rv, s1, s2, s3, hsl⟩ := hS
      have s1 : wr.cell? ⟨b, off + k * 3, none⟩ = some (.string nm) := (hbw.cell (p := ⟨b, off + k * 3, none⟩) hlt).trans s1
      have HE : Hid (∀ hk0 : k = 0, nmAt m.snaps k = isNm nm) := fun hk0 => by
        have := nmAt_0 (L := m.snaps) (by rw [H1.out.2.1]; omega)
        have e : m.snaps[0]'(by rw [H1.out.2.1]; omega) = (nm, gg, rr) := by rw [hs]; simp [hk0]
        rw [hk0, this, e]
      have HP : Hid (∀ hk0 : 1 ≤ k, ∃ pn, wr.cell? ⟨b, off + (k - 1) * 3, none⟩ = some (.string pn) ∧ nmAt m.snaps k = (isNm nm && Op.bytesLess pn.toList nm.toList)) := fun hk0 => by
        obtain ⟨b', off', e, _, hS'⟩ := H3.out (k - 1) (by rw [H1.out.2.1]; omega)
        simp at e
        obtain ⟨rfl, rfl⟩ := e
        obtain ⟨_, d1, _⟩ := hS'
        refine ⟨_, (hbw.cell (p := ⟨b, off + (k - 1) * 3, none⟩) hlt).trans d1, ?_⟩
        rw [nmAt_at (L := m.snaps) (by rw [H1.out.2.1]; exact hlk) hk0, ← hs]
      have HGo : Hid (nmAt m.snaps k = true → ∀ j, j < k + 1 → nmAt m.snaps j = true) := fun h j hj => by
        by_cases e : j = k
        · subst e; exact h
        · exact HA.out j (by omega)
      have HBad : Hid (nmAt m.snaps k = false → E = 1) := F1.out k hlk
      have h3 : k = 0 ∨ k = 1 ∨ k = 2 := by omega
      clear hs hsl HA s2 s3 b1 m1
      rcases h3 with rfl | h3
      · have hki : (0 : Int) < (nn : Int) := by omega
        clear hlk
        have s1 : wr.cell? ⟨b, off, none⟩ = some (.string nm) := s1
        simp only [Int.cast_ofNat_Int]
        have HK : Hid (nmAt m.snaps 0 = isNm nm) := HE.out rfl
        clear HE HP
        cases hq : isNm nm with
        | true =>
          go_wp2_with fail
          go_quiet ((go_at_call 46; exact Calls.quiet_of_same (isNameOf_is _ hq)))
          go_wp2_with fail
          go_roundw
          case rel => exact ⟨1, by omega, by rfl, HGo.out (by rw [HK.out]; exact hq), ⟨hbel.os, hbel.tape, hbel.output, hbel.size, hbel.block⟩⟩
          case measure => simp [intOf]; omega
        | false =>
          have HB1 : Hid (E = 1) := HBad.out (by rw [HK.out]; exact hq)
          go_wp2_with fail
          go_quiet ((go_at_call 46; exact Calls.quiet_of_same (isNameOf_is _ hq)))
          go_wp2_with fail
          go_ret
          exact ⟨ret_int HB1.out.symm, ⟨hbw.os, hbw.tape, hbw.output, hbw.size, hbw.block⟩⟩
      rcases h3 with rfl | rfl
      · have hki : (1 : Int) < (nn : Int) := by omega
        clear hlk
        have s1 : wr.cell? ⟨b, off + 3, none⟩ = some (.string nm) := s1
        simp only [Int.cast_ofNat_Int]
        obtain ⟨pn, d1, hK⟩ := HP.out (by omega)
        have d1 : wr.cell? ⟨b, off, none⟩ = some (.string pn) := d1
        have HK : Hid (nmAt m.snaps 1 = (isNm nm && Op.bytesLess pn.toList nm.toList)) := hK
        have hnl : (0 : Int) < (nn : Int) := by omega
        have hnn : 0 < nn := by omega
        clear HE HP hK
        cases hq : isNm nm with
        | true =>
          cases hla : Op.bytesLess pn.toList nm.toList with
          | true =>
            go_wp2_with fail
            go_quiet ((go_at_call 46; exact Calls.quiet_of_same (isNameOf_is _ hq)))
            go_wp2_with fail
            go_roundw
            case rel => exact ⟨2, by omega, by rfl, HGo.out (by rw [HK.out, hq, hla]; rfl), ⟨hbel.os, hbel.tape, hbel.output, hbel.size, hbel.block⟩⟩
            case measure => simp [intOf]; omega
          | false =>
            have HB1 : Hid (E = 1) := HBad.out (by rw [HK.out, hq, hla]; rfl)
            go_wp2_with fail
            go_quiet ((go_at_call 46; exact Calls.quiet_of_same (isNameOf_is _ hq)))
            go_wp2_with fail
            go_ret
            exact ⟨ret_int HB1.out.symm, ⟨hbw.os, hbw.tape, hbw.output, hbw.size, hbw.block⟩⟩
        | false =>
          have HB1 : Hid (E = 1) := HBad.out (by rw [HK.out, hq]; rfl)
          go_wp2_with fail
          go_quiet ((go_at_call 46; exact Calls.quiet_of_same (isNameOf_is _ hq)))
          go_wp2_with fail
          go_ret
          exact ⟨ret_int HB1.out.symm, ⟨hbw.os, hbw.tape, hbw.output, hbw.size, hbw.block⟩⟩
      · have hki : (2 : Int) < (nn : Int) := by omega
        clear hlk
        have s1 : wr.cell? ⟨b, off + 6, none⟩ = some (.string nm) := s1
        simp only [Int.cast_ofNat_Int]
        obtain ⟨pn, d1, hK⟩ := HP.out (by omega)
        have d1 : wr.cell? ⟨b, off + 3, none⟩ = some (.string pn) := d1
        have HK : Hid (nmAt m.snaps 2 = (isNm nm && Op.bytesLess pn.toList nm.toList)) := hK
        have hnl : (1 : Int) < (nn : Int) := by omega
        have hnn : 1 < nn := by omega
        clear HE HP hK
        cases hq : isNm nm with
        | true =>
          cases hla : Op.bytesLess pn.toList nm.toList with
          | true =>
            go_wp2_with fail
            go_quiet ((go_at_call 46; exact Calls.quiet_of_same (isNameOf_is _ hq)))
            go_wp2_with fail
            go_roundw
            case rel => exact ⟨3, by omega, by rfl, HGo.out (by rw [HK.out, hq, hla]; rfl), ⟨hbel.os, hbel.tape, hbel.output, hbel.size, hbel.block⟩⟩
            case measure => simp [intOf]; omega
          | false =>
            have HB1 : Hid (E = 1) := HBad.out (by rw [HK.out, hq, hla]; rfl)
            go_wp2_with fail
            go_quiet ((go_at_call 46; exact Calls.quiet_of_same (isNameOf_is _ hq)))
            go_wp2_with fail
            go_ret
            exact ⟨ret_int HB1.out.symm, ⟨hbw.os, hbw.tape, hbw.output, hbw.size, hbw.block⟩⟩
        | false =>
          have HB1 : Hid (E = 1) := HBad.out (by rw [HK.out, hq]; rfl)
          go_wp2_with fail
          go_quiet ((go_at_call 46; exact Calls.quiet_of_same (isNameOf_is _ hq)))
          go_wp2_with fail
          go_ret
          exact ⟨ret_int HB1.out.symm, ⟨hbw.os, hbw.tape, hbw.output, hbw.size, hbw.block⟩⟩
    · have e4 : k = nn := by omega
      subst e4
      have HP1 : Hid (namesOK m.snaps = true) := namesOK_good (fun j hj => HA.out j (by rw [H1.out.2.1] at hj; exact hj))
      clear HA F1
      have HG0 : Hid (guestOK gm = decide ((0 : Int) ≤ gm ∧ gm ≤ 16)) := rfl
      cases hg : guestOK gm with
      | false =>
        have HW : Hid (decide ((0 : Int) ≤ gm ∧ gm ≤ 16) = false) := hg
        have HB1 : Hid (E = 3) := F2.out HP1.out (⟨#[]⟩, m.guest, m.root) List.mem_cons_self (by rw [H1.out.2.2]; exact hg)
        clear hg
        go_wp2_with (go_at_call 38; refine (within_any _ _ _ _).mono ?_; rintro e w' ⟨rfl, hw⟩; rw [hw]; clear hw; rw [HW.out])
        go_ret
        exact ⟨ret_int HB1.out.symm, hbw⟩
      | true =>
        have HW : Hid (decide ((0 : Int) ≤ gm ∧ gm ≤ 16) = true) := hg
        have HGm : Hid (guestOK gm = true) := hg
        clear hg
        go_wp2_with (go_at_call 38; refine (within_any _ _ _ _).mono ?_; rintro e w' ⟨rfl, hw⟩; rw [hw]; clear hw; rw [HW.out])
        go_loopw [4] (fun i wq => ∃ q : Nat, q ≤ k ∧ i = .int .i64 q ∧ Hid (∀ j, (h : j < m.snaps.length) → j < q → guestOK m.snaps[j].2.1 = true) ∧ wq = wr) (fun i _ => k - (intOf i).toNat)
        case atStart => exact ⟨0, Nat.zero_le _, rfl, fun j _ hj => absurd hj (by omega), rfl⟩
        case round =>
          obtain ⟨q, hq, rfl, HA, hw⟩ := hrel
          subst hw
          by_cases hlk : q < k
          · have hqm : q < m.snaps.length := by rw [H1.out.2.1]; exact hlk
            obtain ⟨b, off, rfl, hlt, hS⟩ := H3.out q hqm
            obtain ⟨s, hs⟩ : ∃ s, s = m.snaps[q] := ⟨_, rfl⟩
            obtain ⟨nm, gg, rr⟩ := s
            rw [← hs] at hS
            obtain ⟨rv, s1, s2, s3, hsl⟩ := hS
            have s2 : wr.cell? ⟨b, off + q * 3 + 1, none⟩ = some (.int .i64 gg) := (hbw.cell (p := ⟨b, off + q * 3 + 1, none⟩) hlt).trans s2
            have hqi : (q : Int) < (k : Int) := by omega
            have HS : Hid (m.snaps[q] = (nm, gg, rr)) := hs.symm
            clear hs hsl s1 s3
            cases hg : guestOK gg with
            | false =>
              have HV : Hid (decide ((0 : Int) ≤ gg ∧ gg ≤ 16) = false) := hg
              have HB1 : Hid (E = 3) := F2.out HP1.out (nm, gg, rr) (List.mem_cons_of_mem _ (by rw [← HS.out]; exact List.getElem_mem hqm)) hg
              clear hg
              go_wp2_with (go_at_call 38; refine (within_any _ _ _ _).mono ?_; rintro e w' ⟨rfl, hw⟩; rw [hw]; clear hw; rw [HV.out])
              go_ret
              exact ⟨ret_int HB1.out.symm, hbw⟩
            | true =>
              have HV : Hid (decide ((0 : Int) ≤ gg ∧ gg ≤ 16) = true) := hg
              have HG1 : Hid (guestOK gg = true) := hg
              clear hg
              go_wp2_with (go_at_call 38; refine (within_any _ _ _ _).mono ?_; rintro e w' ⟨rfl, hw⟩; rw [hw]; clear hw; rw [HV.out])
              go_roundw
              case rel => exact ⟨q + 1, by omega, by go_num, fun j hj hj1 => by
                by_cases e : j = q
                · subst e; rw [HS.out]; exact HG1.out
                · exact HA.out j hj (by omega), trivial⟩
              case measure => simp [intOf]; omega
          · have HG : Hid ((rootsOf m).all (fun s => guestOK s.2.1) = true) := by
              show _ = _
              unfold rootsOf
              rw [List.all_cons, H1.out.2.2, HGm.out, Bool.true_and, List.all_eq_true]
              intro s hs
              obtain ⟨j, hj, rfl⟩ := List.getElem_of_mem hs
              exact HA.out j hj (by rw [H1.out.2.1] at hj; omega)
            have e4 : q = k := by omega
            subst e4
            clear HA F2 HG0
            go_wp2_with fail
            obtain ⟨wa, hrn⟩ : ∃ X, X = wr := ⟨_, rfl⟩
            subst hrn
            go_loopw [5, 6, 7] (fun i _ _ wq => ∃ n : Nat, n ≤ fn ∧ i = .int .i64 n ∧ Hid (∀ j, (h : j < m.slots.length) → j < n → m.slots[j].2.2.all (entP m.slots) = true) ∧ Below wa.heap.size wa wq) (fun i _ _ _ => fn - (intOf i).toNat)
            case atStart => exact ⟨0, Nat.zero_le _, rfl, fun j _ hj => absurd hj (by omega), Below.refl _ _⟩
            case round =>
              obtain ⟨n, hn, rfl, HA, hbq⟩ := hrel
              obtain ⟨wq, hrn⟩ : ∃ X, X = wr := ⟨_, rfl⟩
              subst hrn
              have hszr : w.heap.size < wa.heap.size := (Array.getElem?_eq_some_iff.1 mr).1
              have mq := cells_below mr hbq hszr
              have hbwq := Below.on hbw hbq
              clear c0 c1 c2 c3 c4
              obtain ⟨c0, c1, c2, c3, c4⟩ := five mq
              by_cases hln : n < fn
              · have hnm : n < m.slots.length := by rw [H1.out.1]; exact hln
                have hni : (n : Int) < (fn : Int) := by omega
                obtain ⟨s, hs⟩ : ∃ s, s = m.slots[n] := ⟨_, rfl⟩
                obtain ⟨kk, dd, tt⟩ := s
                have hS := H2.out n hnm
                rw [← hs] at hS
                obtain ⟨tv, s1, s2, s3, hsl⟩ := hS
                obtain ⟨ta, tc, rfl⟩ := hsl.form
                have ht4 : tt.length ≤ 4 := by
                  have := tab4 H4.out n
                  unfold tabOf at this
                  simpa [List.getD, hnm, ← hs] using this
                have s3 : wq.cell? ⟨sb, so + n * 3 + 2, none⟩ = some (.slice ta tt.length tc) := (hbwq.cell (p := ⟨sb, so + n * 3 + 2, none⟩) hsb).trans s3
                have HS : Hid (m.slots[n] = (kk, dd, tt)) := hs.symm
                have HTc : Hid (∀ j, j < tt.length → ∃ b off, ta = some ⟨b, off, none⟩ ∧ b < w.heap.size ∧ w.cell? ⟨b, off + j, none⟩ = some (.int .i64 (tt.getD j 0))) := hsl.cells.2.2.2
                have F3n : Hid (∀ i, i < tt.length → entP m.slots (tt.getD i 0) = false → E = 1) := fun i hi he => F3.out HP1.out HG.out n hnm i (by rw [HS.out]; exact hi) (by rw [HS.out]; exact he)
                obtain ⟨tn, htn⟩ : ∃ tn, tt.length = tn := ⟨_, rfl⟩
                have HTn : Hid (tt.length = tn) := htn
                rw [htn] at s3 ht4 HTc F3n
                clear hs hsl s1 s2 htn
                go_wp2_with fail
                go_loopw [7] (fun i wp => ∃ u : Nat, u ≤ tn ∧ i = .int .i64 u ∧ Hid (∀ j, j < u → entP m.slots (tt.getD j 0) = true) ∧ Below wq.heap.size wq wp) (fun i _ => tn - (intOf i).toNat)
                case atStart => exact ⟨0, Nat.zero_le _, rfl, fun j hj => absurd hj (by omega), Below.refl _ _⟩
                case round =>
                  obtain ⟨u, hu, rfl, HI, hbp⟩ := hrel
                  obtain ⟨wp, hrn⟩ : ∃ X, X = wr := ⟨_, rfl⟩
                  subst hrn
                  have hszq : w.heap.size < wq.heap.size := (Array.getElem?_eq_some_iff.1 mq).1
                  have mp := cells_below mq hbp hszq
                  have hbwp := Below.on hbwq hbp
                  clear c0 c1 c2 c3 c4
                  obtain ⟨c0, c1, c2, c3, c4⟩ := five mp
                  by_cases hun : u < tn
                  · obtain ⟨b, off, rfl, hlt, hcx⟩ := HTc.out u hun
                    have hui : (u : Int) < (tn : Int) := by omega
                    obtain ⟨x, hx⟩ : ∃ x, tt.getD u 0 = x := ⟨_, rfl⟩
                    rw [hx] at hcx
                    have HX : Hid (tt.getD u 0 = x) := hx
                    have cx : wp.cell? ⟨b, off + u, none⟩ = some (.int .i64 x) := (hbwp.cell (p := ⟨b, off + u, none⟩) hlt).trans hcx
                    have hbwr : b < wp.heap.size := Nat.lt_of_lt_of_le hlt hbwp.size
                    have hszp : w.heap.size < wp.heap.size := (Array.getElem?_eq_some_iff.1 mp).1
                    clear hx hcx
                    by_cases hx0 : 0 < x
                    · obtain ⟨K, hK⟩ : ∃ K, kindN m.slots x = K := ⟨_, rfl⟩
                      have hcall := fun W (hW : Below w.heap.size w W) => kindOf_is (H6.out.below hW) (by rw [H1.out.1]; omega) x hK
                      have HK : Hid (kindN m.slots x = K) := hK
                      clear hK
                      cases hK1 : K != 1 with
                      | true =>
                        have HB1 : Hid (E = 1) := F3n.out u hun (by rw [HX.out]; unfold entP; rw [HK.out, hK1, decide_eq_true hx0]; rfl)
                        go_wp2_with fail
                        go_region_held3 (fun w' => w'.cell? ⟨w.heap.size, 0, none⟩ = some (.int .i64 gm) ∧ w'.cell? ⟨w.heap.size, 0 + 1, none⟩ = some (.slice ra rn rc) ∧ w'.cell? ⟨w.heap.size, 0 + 1 + 1, none⟩ = some (.slice (some ⟨sb, so, none⟩) fn sc) ∧ w'.cell? ⟨w.heap.size, 0 + 1 + 1 + 1, none⟩ = some (.slice fa fn fc) ∧ w'.cell? ⟨w.heap.size, 0 + 1 + 1 + 1 + 1, none⟩ = some (.slice na q nc) ∧ w'.cell? ⟨b, off + u, none⟩ = some (.int .i64 x)) (first | exact ⟨c0, c1, c2, c3, c4, cx⟩ | exact ⟨d0, d1, d2, d3, d4, e1⟩)
                          (first | (go_at_call 47; refine (hcall _ (to_drew hbwp)).mono ?_; rintro e w2 ⟨rfl, b2⟩; have b2 := below_drew b2; have m2 := cells_below mp b2 hszp; obtain ⟨d0, d1, d2, d3, d4⟩ := five m2; have e1 := (b2.cell (p := ⟨b, off + u, none⟩) hbwr).trans cx))
                        go_wp2_with fail
                        go_ret
                        exact ⟨ret_int HB1.out.symm, Below.on hbwp b2⟩
                      | false =>
                        have HOK : Hid (entP m.slots x = true) := by show _ = _; unfold entP; rw [HK.out, hK1]; simp
                        go_wp2_with fail
                        go_region_held3 (fun w' => w'.cell? ⟨w.heap.size, 0, none⟩ = some (.int .i64 gm) ∧ w'.cell? ⟨w.heap.size, 0 + 1, none⟩ = some (.slice ra rn rc) ∧ w'.cell? ⟨w.heap.size, 0 + 1 + 1, none⟩ = some (.slice (some ⟨sb, so, none⟩) fn sc) ∧ w'.cell? ⟨w.heap.size, 0 + 1 + 1 + 1, none⟩ = some (.slice fa fn fc) ∧ w'.cell? ⟨w.heap.size, 0 + 1 + 1 + 1 + 1, none⟩ = some (.slice na q nc) ∧ w'.cell? ⟨b, off + u, none⟩ = some (.int .i64 x)) (first | exact ⟨c0, c1, c2, c3, c4, cx⟩ | exact ⟨d0, d1, d2, d3, d4, e1⟩)
                          (first | (go_at_call 47; refine (hcall _ (to_drew hbwp)).mono ?_; rintro e w2 ⟨rfl, b2⟩; have b2 := below_drew b2; have m2 := cells_below mp b2 hszp; obtain ⟨d0, d1, d2, d3, d4⟩ := five m2; have e1 := (b2.cell (p := ⟨b, off + u, none⟩) hbwr).trans cx))
                        go_wp2_with fail
                        go_roundw
                        case rel => exact ⟨u + 1, by omega, by go_num, fun j hj => by
                          by_cases e : j = u
                          · subst e; rw [HX.out]; exact HOK.out
                          · exact HI.out j (by omega), Below.on hbp b2⟩
                        case measure => simp [intOf]; omega
                    · have hx1 : x ≤ 0 := by omega
                      have hxd : decide (0 < x) = false := decide_eq_false hx0
                      have HOK : Hid (entP m.slots x = true) := by show _ = _; unfold entP; rw [decide_eq_false hx0]; rfl
                      go_wp2_with fail
                      go_quiet (fail)
                      go_wp2_with fail
                      go_roundw
                      case rel => exact ⟨u + 1, by omega, by go_num, fun j hj => by
                        by_cases e : j = u
                        · subst e; rw [HX.out]; exact HOK.out
                        · exact HI.out j (by omega), ⟨hbp.os, hbp.tape, hbp.output, hbp.size, hbp.block⟩⟩
                      case measure => simp [intOf]; omega
                  · have e5 : u = tn := by omega
                    subst e5
                    go_wp2_with fail
                    go_roundw
                    case rel => exact ⟨n + 1, by omega, by go_num, fun j hj hj1 => by
                      by_cases e : j = n
                      · subst e; rw [HS.out, List.all_eq_true]
                        intro y hy
                        obtain ⟨i, hi, rfl⟩ := List.getElem_of_mem hy
                        have := HI.out i (by rw [← HTn.out]; exact hi)
                        simpa [List.getD, hi] using this
                      · exact HA.out j hj (by omega), Below.on hbq hbp⟩
                    case measure => simp [intOf]; omega
              · have HT : Hid (tabFit m.slots = true) := by
                  show _ = _
                  rw [← tabsP_eq H4.out, List.all_eq_true]
                  intro s hs
                  obtain ⟨j, hj, rfl⟩ := List.getElem_of_mem hs
                  exact HA.out j hj (by rw [H1.out.1] at hj; omega)
                have e5 : n = fn := by omega
                clear HA F3
                have hcall := rootFine_is (H6.out.below hbwq) H4.out HGm.out (H7.out.below hbwq) (rfl : rootFit m.slots gm m.root = _)
                cases hrt : rootFit m.slots gm m.root with
                | false =>
                  rw [hrt] at hcall
                  have HB1 : Hid (E = 1) := F4.out HP1.out HG.out HT.out (⟨#[]⟩, m.guest, m.root) List.mem_cons_self (by rw [H1.out.2.2]; exact hrt)
                  clear hrt
                  subst e5
                  go_wp2_with (go_at_call 48; refine hcall.mono ?_; rintro e w2 ⟨rfl, b2⟩)
                  go_ret
                  exact ⟨ret_int HB1.out.symm, Below.on hbwq b2⟩
                | true =>
                  rw [hrt] at hcall
                  have HR0 : Hid (rootFit m.slots gm m.root = true) := hrt
                  clear hrt
                  subst e5
                  go_wp2_with (go_at_call 48; refine hcall.mono ?_; rintro e w2 ⟨rfl, b2⟩)
                  have hszq : w.heap.size < wq.heap.size := (Array.getElem?_eq_some_iff.1 mq).1
                  have m2 := cells_below mq b2 hszq
                  have hbw2 := Below.on hbwq b2
                  clear hcall
                  go_loopw [8] (fun i wp => ∃ u : Nat, u ≤ q ∧ i = .int .i64 u ∧ Hid (∀ j, (h : j < m.snaps.length) → j < u → rootFit m.slots m.snaps[j].2.1 m.snaps[j].2.2 = true) ∧ Below w2.heap.size w2 wp) (fun i _ => q - (intOf i).toNat)
                  case atStart => exact ⟨0, Nat.zero_le _, rfl, fun j _ hj => absurd hj (by omega), Below.refl _ _⟩
                  case round =>
                    obtain ⟨u, hu, rfl, HA, hbp⟩ := hrel
                    obtain ⟨wp, hrn⟩ : ∃ X, X = wr := ⟨_, rfl⟩
                    subst hrn
                    have hsz2 : w.heap.size < w2.heap.size := (Array.getElem?_eq_some_iff.1 m2).1
                    have mp := cells_below m2 hbp hsz2
                    have hbwp := Below.on hbw2 hbp
                    clear c0 c1 c2 c3 c4
                    obtain ⟨c0, c1, c2, c3, c4⟩ := five mp
                    have hszp : w.heap.size < wp.heap.size := (Array.getElem?_eq_some_iff.1 mp).1
                    by_cases hlu : u < q
                    · have hum : u < m.snaps.length := by rw [H1.out.2.1]; exact hlu
                      obtain ⟨b, off, rfl, hlt, hS⟩ := H3.out u hum
                      obtain ⟨s, hs⟩ : ∃ s, s = m.snaps[u] := ⟨_, rfl⟩
                      obtain ⟨nm, gg, rr⟩ := s
                      rw [← hs] at hS
                      obtain ⟨rv, s1, s2, s3, hsl⟩ := hS
                      have hmem : (nm, gg, rr) ∈ rootsOf m := List.mem_cons_of_mem _ (by rw [hs]; exact List.getElem_mem hum)
                      have hgg : guestOK gg = true := List.all_eq_true.1 HG.out _ hmem
                      have hbwr : b < wp.heap.size := Nat.lt_of_lt_of_le hlt hbwp.size
                      have s2 : wp.cell? ⟨b, off + u * 3 + 1, none⟩ = some (.int .i64 gg) := (hbwp.cell (p := ⟨b, off + u * 3 + 1, none⟩) hlt).trans s2
                      have s3 : wp.cell? ⟨b, off + u * 3 + 2, none⟩ = some rv := (hbwp.cell (p := ⟨b, off + u * 3 + 2, none⟩) hlt).trans s3
                      obtain ⟨va, vc, rfl⟩ := hsl.form
                      have hui : (u : Int) < (q : Int) := by omega
                      obtain ⟨B, hB⟩ : ∃ B, rootFit m.slots gg rr = B := ⟨_, rfl⟩
                      have hcall := fun W (hW : Below w.heap.size w W) => rootFine_is (H6.out.below hW) H4.out hgg (hsl.below hW) hB
                      have HS : Hid (m.snaps[u] = (nm, gg, rr) ∧ rootFit m.slots gg rr = B ∧ (nm, gg, rr) ∈ rootsOf m) := ⟨hs.symm, hB, hmem⟩
                      clear hs hsl s1 hB hgg hmem
                      go_wp2_with fail
                      go_region_held3 (fun w' => w'.cell? ⟨w.heap.size, 0, none⟩ = some (.int .i64 gm) ∧ w'.cell? ⟨w.heap.size, 0 + 1, none⟩ = some (.slice ra rn rc) ∧ w'.cell? ⟨w.heap.size, 0 + 1 + 1, none⟩ = some (.slice (some ⟨sb, so, none⟩) n sc) ∧ w'.cell? ⟨w.heap.size, 0 + 1 + 1 + 1, none⟩ = some (.slice fa n fc) ∧ w'.cell? ⟨w.heap.size, 0 + 1 + 1 + 1 + 1, none⟩ = some (.slice (some ⟨b, off, none⟩) q nc) ∧ w'.cell? ⟨b, off + u * 3 + 1, none⟩ = some (.int .i64 gg) ∧ w'.cell? ⟨b, off + u * 3 + 2, none⟩ = some (.slice va rr.length vc)) (first | exact ⟨c0, c1, c2, c3, c4, s2, s3⟩ | exact ⟨d0, d1, d2, d3, d4, e1, e2⟩)
                        (first | (go_at_call 48; refine (hcall _ (to_drew hbwp)).mono ?_; rintro e w3 ⟨rfl, b3⟩; have b3 := below_drew b3; have m3 := cells_below mp b3 hszp; obtain ⟨d0, d1, d2, d3, d4⟩ := five m3; have e1 := (b3.cell (p := ⟨b, off + u * 3 + 1, none⟩) hbwr).trans s2; have e2 := (b3.cell (p := ⟨b, off + u * 3 + 2, none⟩) hbwr).trans s3))
                      cases B with
                      | false =>
                        have HB1 : Hid (E = 1) := F4.out HP1.out HG.out HT.out _ HS.out.2.2 HS.out.2.1
                        go_wp2_with fail
                        go_ret
                        exact ⟨ret_int HB1.out.symm, Below.on hbwp b3⟩
                      | true =>
                        go_wp2_with fail
                        go_roundw
                        case rel => exact ⟨u + 1, by omega, by go_num, fun j hj hj1 => by
                          by_cases e : j = u
                          · subst e; rw [HS.out.1]; exact HS.out.2.1
                          · exact HA.out j hj (by omega), Below.on hbp b3⟩
                        case measure => simp [intOf]; omega
                    · have HR : Hid ((rootsOf m).all (fun s => rootFit m.slots s.2.1 s.2.2) = true) := by
                        show _ = _
                        unfold rootsOf
                        rw [List.all_cons, H1.out.2.2, HR0.out, Bool.true_and, List.all_eq_true]
                        intro s hs
                        obtain ⟨j, hj, rfl⟩ := List.getElem_of_mem hs
                        exact HA.out j hj (by rw [H1.out.2.1] at hj; omega)
                      have HB1 : Hid (E = 0) := F5.out HP1.out HG.out HT.out HR.out
                      have e6 : u = q := by omega
                      subst e6
                      go_wp2_with fail
                      go_ret
                      exact ⟨ret_int HB1.out.symm, hbwp⟩

theorem Snaps.at {w : World} {sa : Option Addr} {n sc : Nat} {L : List SnapD} (h : Snaps w (.slice sa n sc) L) : ∀ j, (h : j < L.length) → ∃ sb so, sa = some ⟨sb, so, none⟩ ∧ sb < w.heap.size ∧ SnAt w sb (so + j * 3) L[j] := by
  intro j hj
  obtain ⟨sb, so, sc', e, _, hsb, hcl⟩ := h.open (by omega)
  simp at e
  exact ⟨sb, so, e.1, hsb, hcl j hj⟩
theorem shapeOf_is {w : World} {v : Value} {m : ImgD} (h : Img w v m) {E : Int} (hE : shapeE m = E) :
    Calls Try.prog 25 #[v] w fun r w' => r = .returned (.int .i64 E) ∧ Below w.heap.size w w' := by
  have h' := h
  obtain ⟨ra, rc, sa, sc, fa, fc, na, nc, rfl, h1, h2, h3, h4⟩ := h.parts
  by_cases hm : decide ((1 : Int) ≤ (m.slots.length : Int) ∧ (m.slots.length : Int) ≤ 40) = false ∨ 3 < m.snaps.length
  · have e2 : E = 2 := by
      rw [← hE]
      unfold shapeE
      by_cases h3 : 3 < m.snaps.length
      · rw [if_pos h3]
      · have hd := hm.resolve_right h3
        have : slotsE m.slots = 2 := by
          unfold slotsE
          rw [if_neg]
          intro hh
          rw [decide_eq_true (by omega)] at hd; cases hd
        rw [if_neg h3, this, if_pos (by decide)]
    subst e2
    exact shapeOf_many m.guest ra _ rc sa _ sc fa _ fc na _ nc w hm h4.small
  · have hd : decide ((1 : Int) ≤ (m.slots.length : Int) ∧ (m.slots.length : Int) ≤ 40) = true := by
      cases e : decide ((1 : Int) ≤ (m.slots.length : Int) ∧ (m.slots.length : Int) ≤ 40) with
      | true => rfl
      | false => exact absurd (.inl e) hm
    have h3' : m.snaps.length ≤ 3 := by
      rcases Nat.lt_or_ge 3 m.snaps.length with h | h
      · exact absurd (.inr h) hm
      · exact h
    by_cases hor : slotsE m.slots ≠ 0 ∨ m.refs.length ≠ m.slots.length
    · have e1 : E = 1 := by
        rw [← hE]
        unfold shapeE
        rw [if_neg (by omega)]
        by_cases hs : slotsE m.slots = 0
        · rw [if_neg (by simpa using hs), if_pos (.inl (hor.resolve_left (by simpa using hs)))]
        · rw [if_pos hs]
          rcases slotsE_012 m.slots with h | h | h
          · exact absurd h hs
          · exact h
          · exfalso
            unfold slotsE at h
            simp only [decide_eq_true_eq] at hd
            rw [if_pos (by omega)] at h
            split at h <;> simp at h
      subst e1
      exact shapeOf_form m.guest ra _ rc sa _ sc fa _ fc na _ nc m.slots _ w hd h3' h2 rfl h3.small hor
    · have hs : slotsE m.slots = 0 := Classical.byContradiction fun e => hor (.inl e)
      have hr : m.refs.length = m.slots.length := Classical.byContradiction fun e => hor (.inr e)
      have hp := slotsE_parts hs
      obtain ⟨sb, so, sc', e, hcp, hlt, hcell⟩ := h2.open hp.1
      simp at e
      obtain ⟨rfl, rfl⟩ := e
      exact shapeOf_at m.guest ra _ rc sb so _ sc fa _ fc na _ nc m E w h' rfl rfl rfl h3' hr hlt hcell hs h1 h4.at hE hr
end Go.Proofs.Ytehleeibgkpjmab
