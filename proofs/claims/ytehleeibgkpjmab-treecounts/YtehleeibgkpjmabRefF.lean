/- Contracts of the document's CheckImage, look, LookError, LookOf. -/
import Derived.Test.YtehleeibgkpjmabRtI
namespace Go.Proofs.Ytehleeibgkpjmab
open Go.RowKit Go.Shelf
set_option maxRecDepth 20000

theorem checkImage_bad (gm : Int) (ra : Option Addr) (rn rc : Nat) (sa : Option Addr) (sn sc : Nat) (fa : Option Addr) (fn fc : Nat) (na : Option Addr) (nn nc : Nat) (m : ImgD) (E : Int) (w : World) (h : Img w (.agg #[.int .i64 gm, .slice ra rn rc, .slice sa sn sc, .slice fa fn fc, .slice na nn nc]) m) (hE : shapeE m = E) (hne : (E != 0) = true) :
    Calls Try.prog 29 #[.agg #[.int .i64 gm, .slice ra rn rc, .slice sa sn sc, .slice fa fn fc, .slice na nn nc]] w fun r w' => r = .returned (.int .i64 E) ∧ Below w.heap.size w w' := by
  have b0 : Below w.heap.size w (w.alloc (.cells #[.int .i64 gm, .slice ra rn rc, .slice sa sn sc, .slice fa fn fc, .slice na nn nc] 44)) := (Below.refl _ _).alloc (Nat.le_refl _) _
  have hcall := shapeOf_is (h.below b0) hE
  clear h hE
  go_enter Try.func29, Try.ntmps29
  go_wp2_with (go_at_call 25; refine hcall.mono ?_; rintro e w1 ⟨rfl, b1⟩)
  go_ret
  exact ⟨rfl, Below.on b0 b1⟩

set_option linter.unusedSimpArgs false in
set_option maxHeartbeats 4000000 in
theorem checkImage_at (gm : Int) (ra : Option Addr) (rn rc : Nat) (sb so : Nat) (sn sc : Nat) (fa : Option Addr) (fn fc : Nat) (na : Option Addr) (nn nc : Nat) (m : ImgD) (E : Int) (w : World) (h : Img w (.agg #[.int .i64 gm, .slice ra rn rc, .slice (some ⟨sb, so, none⟩) sn sc, .slice fa fn fc, .slice na nn nc]) m) (hsn : m.slots.length = sn) (hsb : sb < w.heap.size) (hcl : ∀ j, (h : j < m.slots.length) → SlAt w sb (so + j * 3) m.slots[j]) (hf : Sl w (.slice fa fn fc) m.refs) (hfn : fn = sn)
    (h0 : shapeE m = 0) (hE : checkE m = E) :
    Calls Try.prog 29 #[.agg #[.int .i64 gm, .slice ra rn rc, .slice (some ⟨sb, so, none⟩) sn sc, .slice fa fn fc, .slice na nn nc]] w fun r w' => r = .returned (.int .i64 E) ∧ Below w.heap.size w w' := by
  have b0 : Below w.heap.size w (w.alloc (.cells #[.int .i64 gm, .slice ra rn rc, .slice (some ⟨sb, so, none⟩) sn sc, .slice fa fn fc, .slice na nn nc] 44)) := (Below.refl _ _).alloc (Nat.le_refl _) _
  have m0 : (w.alloc (.cells #[.int .i64 gm, .slice ra rn rc, .slice (some ⟨sb, so, none⟩) sn sc, .slice fa fn fc, .slice na nn nc] 44)).heap[w.heap.size]? = some (.cells #[.int .i64 gm, .slice ra rn rc, .slice (some ⟨sb, so, none⟩) sn sc, .slice fa fn fc, .slice na nn nc] 44) := World.alloc_heap_new _ _
  have h40 : sn ≤ 40 := by rw [← hsn]; exact (slotsE_parts (shapeE_zero h0).2.1).2
  have hrl : m.refs.length = sn := by rw [(shapeE_zero h0).2.2.1, hsn]
  have HE : Hid (E = if cntL m ≠ m.refs then 9 else if (List.range m.slots.length).all (freeAt m) = true then 0 else 9) := by
    show _ = _
    rw [← hE]; unfold checkE; rw [if_neg (by simpa using h0)]
  have FB : Hid (∀ n, n < sn → (m.refs.getD n 0 ≠ (cntL m).getD n 0 ∨ freeAt m n = false) → E = 9) := fun n hn hor => by
    rw [HE.out]
    by_cases hq : cntL m ≠ m.refs
    · rw [if_pos hq]
    · rw [if_neg hq, if_neg]
      intro e
      rcases hor with hh | hh
      · exact hh (by rw [Classical.not_not.1 hq])
      · have := List.all_eq_true.1 e n (by rw [hsn]; simpa using hn)
        rw [hh] at this; cases this
  have FG : Hid ((∀ n, n < sn → m.refs.getD n 0 = (cntL m).getD n 0 ∧ freeAt m n = true) → E = 0) := fun hall => by
    rw [HE.out, if_neg, if_pos]
    · rw [List.all_eq_true]; intro j hj; exact (hall j (by rw [← hsn]; simpa using hj)).2
    · rw [Classical.not_not]
      apply List.ext_getElem
      · rw [cntL_length, hrl, hsn]
      · intro j h1 h2
        have := (hall j (by rw [← hrl]; exact h2)).1
        simpa [List.getD, h1, h2] using this.symm
  have hcall := shapeOf_is (h.below b0) h0
  have hcnt := fun W (hW : Below w.heap.size w W) => countsOf_is (h.below hW) h0
  rw [hsn] at hcnt
  have H1 : Hid (m.slots.length = sn) := hsn
  have H2 : Hid (∀ j, (h : j < m.slots.length) → SlAt w sb (so + j * 3) m.slots[j]) := hcl
  have H3 : Hid (Sl w (.slice fa fn fc) m.refs) := hf
  subst hfn
  have H4 : Hid (m.refs.length = fn) := hrl
  clear HE hsn hcl hf hrl h h0 hE
  go_enter Try.func29, Try.ntmps29
  go_wp2_with fail
  refine hcall.mono ?_
  rintro e w1 ⟨rfl, b1⟩
  have m1 := cells_below m0 b1 (by simp)
  obtain ⟨c0, c1, c2, c3, c4⟩ := five m1
  have hb1 := Below.on b0 b1
  have hcnt := hcnt w1 hb1
  clear hcall
  go_wp2_with fail
  refine hcnt.mono ?_
  rintro e w2 ⟨⟨rfl, hL⟩, b2⟩
  have m2 := cells_below m1 b2 (Array.getElem?_eq_some_iff.1 m1).1
  clear c0 c1 c2 c3 c4 hcnt
  obtain ⟨c0, c1, c2, c3, c4⟩ := five m2
  have hbw := Below.on hb1 b2
  obtain ⟨g, hg⟩ : ∃ g, w1.heap.size + 1 = g := ⟨_, rfl⟩
  rw [hg] at hL ⊢
  clear hg
  go_wp2_with fail
  go_loopw [5] (fun i wq => ∃ k : Nat, k ≤ fn ∧ i = .int .i64 k ∧ Hid (∀ j, j < k → m.refs.getD j 0 = (cntL m).getD j 0 ∧ freeAt m j = true) ∧ (Hid (∀ a, wq.cell? a = w2.cell? a) ∧ Below w.heap.size w wq)) (fun i _ => fn - (intOf i).toNat)
  case atStart => exact ⟨0, Nat.zero_le _, rfl, fun j hj => absurd hj (by omega), fun _ => rfl, hbw⟩
  case round =>
    obtain ⟨k, hk, rfl, HA, hsame, hbr⟩ := hrel
    have c0 := (hsame.out _).trans c0
    have c1 := (hsame.out _).trans c1
    have c2 := (hsame.out _).trans c2
    have c3 := (hsame.out _).trans c3
    have c4 := (hsame.out _).trans c4
    by_cases hlk : k < fn
    · have hki : (k : Int) < (fn : Int) := by omega
      have hkm : k < m.slots.length := by rw [H1.out]; exact hlk
      obtain ⟨tv, s1, _⟩ := H2.out k hkm
      have ekd : m.slots[k].1 = kd m.slots k := by unfold kd; simp [List.getD, hkm]
      rw [ekd] at s1
      have s1 := (hbr.cell (p := ⟨sb, so + k * 3, none⟩) hsb).trans s1
      obtain ⟨b, off, rfl, hlt, hcf⟩ := H3.out.cells.2.2.2 k hlk
      have hcf := (hbr.cell (p := ⟨b, off + k, none⟩) hlt).trans hcf
      have hcc := (hsame.out _).trans (hL.cell (by rw [cntL_length, H1.out]; exact hlk))
      obtain ⟨x, hx⟩ : ∃ x, m.refs.getD k 0 = x := ⟨_, rfl⟩
      obtain ⟨y, hy⟩ : ∃ y, (cntL m).getD k 0 = y := ⟨_, rfl⟩
      obtain ⟨z, hz⟩ : ∃ z, kd m.slots k = z := ⟨_, rfl⟩
      have HF : Hid (freeAt m k = ((z == 0) == (y == 0))) := by
        show _ = _
        unfold freeAt
        rw [hy, ← hz]; rfl
      rw [hx] at hcf
      rw [hy] at hcc
      rw [hz] at s1
      have HXY : Hid (m.refs.getD k 0 = x ∧ (cntL m).getD k 0 = y) := ⟨hx, hy⟩
      clear hx hy hz ekd
      by_cases hxy : x = y
      · have hxyb : (x != y) = false := by simp [hxy]
        have HE2 : Hid (x = y) := hxy
        clear hxy
        cases hy0 : y == 0 with
        | true =>
          cases hz0 : z == 0 with
          | true =>
            go_wp2_with fail
            go_quiet (fail)
            go_wp2_with fail
            go_roundw
            case rel => exact ⟨k + 1, by omega, by go_num, fun j hj => by
              by_cases e : j = k
              · subst e; exact ⟨by rw [HXY.out.1, HXY.out.2, HE2.out], by rw [HF.out, hz0, hy0]; rfl⟩
              · exact HA.out j (by omega), fun a => hsame.out a, ⟨hbr.os, hbr.tape, hbr.output, hbr.size, hbr.block⟩⟩
            case measure => simp [intOf]; omega
          | false =>
            have HB : Hid (E = 9) := FB.out k hlk (.inr (by rw [HF.out, hz0, hy0]; rfl))
            go_wp2_with fail
            go_quiet (fail)
            go_wp2_with fail
            go_ret
            exact ⟨ret_int HB.out.symm, ⟨hbr.os, hbr.tape, hbr.output, hbr.size, hbr.block⟩⟩
        | false =>
          cases hz0 : z == 0 with
          | true =>
            have HB : Hid (E = 9) := FB.out k hlk (.inr (by rw [HF.out, hz0, hy0]; rfl))
            go_wp2_with fail
            go_quiet (fail)
            go_wp2_with fail
            go_ret
            exact ⟨ret_int HB.out.symm, ⟨hbr.os, hbr.tape, hbr.output, hbr.size, hbr.block⟩⟩
          | false =>
            go_wp2_with fail
            go_quiet (fail)
            go_wp2_with fail
            go_roundw
            case rel => exact ⟨k + 1, by omega, by go_num, fun j hj => by
              by_cases e : j = k
              · subst e; exact ⟨by rw [HXY.out.1, HXY.out.2, HE2.out], by rw [HF.out, hz0, hy0]; rfl⟩
              · exact HA.out j (by omega), fun a => hsame.out a, ⟨hbr.os, hbr.tape, hbr.output, hbr.size, hbr.block⟩⟩
            case measure => simp [intOf]; omega
      · have hxyb : (x != y) = true := by simp [hxy]
        have HB : Hid (E = 9) := FB.out k hlk (.inl (by rw [HXY.out.1, HXY.out.2]; exact hxy))
        clear hxy
        go_wp2_with fail
        go_quiet (fail)
        go_wp2_with fail
        go_ret
        exact ⟨ret_int HB.out.symm, ⟨hbr.os, hbr.tape, hbr.output, hbr.size, hbr.block⟩⟩
    · have HB : Hid (E = 0) := FG.out (fun n hn => HA.out n (by omega))
      have e5 : k = fn := by omega
      subst e5
      go_wp2_with fail
      go_ret
      exact ⟨ret_int HB.out.symm, hbr⟩

theorem checkImage_is {w : World} {v : Value} {m : ImgD} (h : Img w v m) {E : Int} (hE : checkE m = E) :
    Calls Try.prog 29 #[v] w fun r w' => r = .returned (.int .i64 E) ∧ Below w.heap.size w w' := by
  have h' := h
  obtain ⟨ra, rc, sa, sc, fa, fc, na, nc, rfl, h1, h2, h3, h4⟩ := h.parts
  by_cases h0 : shapeE m = 0
  · obtain ⟨z1, z2, z3, _⟩ := shapeE_zero h0
    obtain ⟨sb, so, sc', e, hcp, hlt, hcell⟩ := h2.open (slotsE_parts z2).1
    simp at e
    obtain ⟨rfl, rfl⟩ := e
    exact checkImage_at m.guest ra _ rc sb so _ sc fa _ fc na _ nc m E w h' rfl hlt hcell h3 z3 h0 hE
  · have e : shapeE m = E := by rw [← hE]; unfold checkE; rw [if_pos h0]
    exact checkImage_bad m.guest ra _ rc sa _ sc fa _ fc na _ nc m E w h' e (by rw [← e]; simpa using h0)

theorem lookR_hole (gm : Int) (ra : Option Addr) (rn rc : Nat) (sa : Option Addr) (sn sc : Nat) (fa : Option Addr) (fn fc : Nat) (na : Option Addr) (nn nc : Nat) (qb qo qn qc n : Nat) (w : World) (hn : n < 16) (hqn : n / 4 < qn) (hqb : qb < w.heap.size) (hc : w.cell? ⟨qb, qo + n / 4, none⟩ = some (.int .i64 0)) :
    Calls Try.prog 52 #[.agg #[.int .i64 gm, .slice ra rn rc, .slice sa sn sc, .slice fa fn fc, .slice na nn nc], .slice (some ⟨qb, qo, none⟩) qn qc, .int .i64 n] w fun r w' => r = .returned (.int .i64 0) ∧ Below w.heap.size w w' := by
  have b0 : Below w.heap.size w (w.alloc (.cells #[.int .i64 gm, .slice ra rn rc, .slice sa sn sc, .slice fa fn fc, .slice na nn nc] 44)) := (Below.refl _ _).alloc (Nat.le_refl _) _
  have cr := (b0.cell (p := ⟨qb, qo + n / 4, none⟩) hqb).trans hc
  have hq : ((n : Int) / 4).toNat = n / 4 := by omega
  go_enter Try.func52, Try.ntmps52
  go_wp2_with fail
  go_ret
  exact ⟨rfl, b0⟩
theorem lookR_tab (gm : Int) (ra : Option Addr) (rn rc : Nat) (sb so : Nat) (sn sc : Nat) (fa : Option Addr) (fn fc : Nat) (na : Option Addr) (nn nc : Nat) (qb qo qn qc n : Nat) (t : Nat) (x : Int) (w : World) (hn : n < 16) (hqn : n / 4 < qn) (hqb : qb < w.heap.size) (hc : w.cell? ⟨qb, qo + n / 4, none⟩ = some (.int .i64 t)) (ht : 0 < t) (hts : t < sn) (hsb : sb < w.heap.size)
    (tb tw tc : Nat) (hct : w.cell? ⟨sb, so + t * 3 + 2, none⟩ = some (.slice (some ⟨tb, tw, none⟩) 4 tc)) (htb : tb < w.heap.size) (hx : w.cell? ⟨tb, tw + n % 4, none⟩ = some (.int .i64 x)) :
    Calls Try.prog 52 #[.agg #[.int .i64 gm, .slice ra rn rc, .slice (some ⟨sb, so, none⟩) sn sc, .slice fa fn fc, .slice na nn nc], .slice (some ⟨qb, qo, none⟩) qn qc, .int .i64 n] w fun r w' => r = .returned (.int .i64 x) ∧ Below w.heap.size w w' := by
  have b0 : Below w.heap.size w (w.alloc (.cells #[.int .i64 gm, .slice ra rn rc, .slice (some ⟨sb, so, none⟩) sn sc, .slice fa fn fc, .slice na nn nc] 44)) := (Below.refl _ _).alloc (Nat.le_refl _) _
  have cr := (b0.cell (p := ⟨qb, qo + n / 4, none⟩) hqb).trans hc
  have ct := (b0.cell (p := ⟨sb, so + t * 3 + 2, none⟩) hsb).trans hct
  have cx := (b0.cell (p := ⟨tb, tw + n % 4, none⟩) htb).trans hx
  have hq : ((n : Int) / 4).toNat = n / 4 := by omega
  have hq2 : ((n : Int) % 4).toNat = n % 4 := by omega
  have hne : ((t : Int) == 0) = false := by simp; omega
  have h4 : n % 4 < 4 := by omega
  go_enter Try.func52, Try.ntmps52
  go_wp2_with fail
  go_ret
  exact ⟨rfl, b0⟩
/-- The entry of page n of a Root that fits. -/
theorem lookR_is {w : World} {v rv : Value} {m : ImgD} {root : List Int} (h : Img w v m) (hr : Sl w rv root) (hs : slotsE m.slots = 0) (hall : root.all (rootE m.slots) = true) (n : Nat) (hn : n < 16) (hl : n / 4 < root.length) {c : Int} (hc : lookV m root n = c) :
    Calls Try.prog 52 #[v, rv, .int .i64 n] w fun r w' => r = .returned (.int .i64 c) ∧ Below w.heap.size w w' := by
  obtain ⟨ra, rc, sa, sc, fa, fc, na, nc, rfl, h1, h2, h3, h4⟩ := h.parts
  have hE2 := all_at hall hl
  obtain ⟨rb, ro, qc, rfl, _, hrb, hcell⟩ := hr.open (by omega)
  have hcr := hcell (n / 4) hl
  unfold lookV at hc
  by_cases hz : root.getD (n / 4) 0 = 0
  · rw [if_pos hz] at hc
    subst hc
    rw [hz] at hcr
    exact lookR_hole m.guest ra _ rc sa _ sc fa _ fc na _ nc rb ro _ qc n w hn hl hrb hcr
  · rw [if_neg hz] at hc
    rw [rootE_x hz] at hE2
    obtain ⟨t, ht, htl, hkd⟩ := isKd_yes hE2
    have hok := okD_tab (slotsE_all hs htl) hkd
    obtain ⟨sb, so, sc', e, _, hsb, hcl⟩ := h2.open (by omega)
    simp at e
    obtain ⟨rfl, rfl⟩ := e
    obtain ⟨tv, _, _, c3, hsl⟩ := hcl t htl
    obtain ⟨tb, tw, tc, rfl, _, htb, htc⟩ := hsl.four hok.1
    rw [ht] at hcr hc hz
    have e4 : tabOf m.slots (t : Int) = m.slots[t].2.2 := by unfold tabOf; simp [List.getD, htl]
    rw [e4] at hc
    have hx := htc (n % 4) (by omega)
    rw [hc] at hx
    exact lookR_tab m.guest ra _ rc sb so _ sc fa _ fc na _ nc rb ro _ qc n t c w hn hl hrb hcr (by omega) htl hsb tb tw tc c3 htb hx

theorem lookErr_bad (gm : Int) (ra : Option Addr) (rn rc : Nat) (sa : Option Addr) (sn sc : Nat) (fa : Option Addr) (fn fc : Nat) (na : Option Addr) (nn nc : Nat) (m : ImgD) (E n : Int) (w : World) (h : Img w (.agg #[.int .i64 gm, .slice ra rn rc, .slice sa sn sc, .slice fa fn fc, .slice na nn nc]) m) (hE : checkE m = E) (hne : (E != 0) = true) :
    Calls Try.prog 31 #[.agg #[.int .i64 gm, .slice ra rn rc, .slice sa sn sc, .slice fa fn fc, .slice na nn nc], .int .i64 n] w fun r w' => r = .returned (.int .i64 E) ∧ Below w.heap.size w w' := by
  have b0 : Below w.heap.size w (w.alloc (.cells #[.int .i64 gm, .slice ra rn rc, .slice sa sn sc, .slice fa fn fc, .slice na nn nc] 44)) := (Below.refl _ _).alloc (Nat.le_refl _) _
  have hcall := checkImage_is (h.below b0) hE
  clear h hE
  go_enter Try.func31, Try.ntmps31
  go_wp2_with (go_at_call 29; refine hcall.mono ?_; rintro e w1 ⟨rfl, b1⟩)
  go_ret
  exact ⟨rfl, Below.on b0 b1⟩
theorem lookErr_at (gm : Nat) (ra : Option Addr) (rn rc : Nat) (sa : Option Addr) (sn sc : Nat) (fa : Option Addr) (fn fc : Nat) (na : Option Addr) (nn nc : Nat) (m : ImgD) (n : Int) (w : World) (h : Img w (.agg #[.int .i64 gm, .slice ra rn rc, .slice sa sn sc, .slice fa fn fc, .slice na nn nc]) m) (hE : checkE m = 0) (hg : gm ≤ 16) {E : Int} (hr : (if 0 ≤ n ∧ n < gm then 0 else 3) = E) :
    Calls Try.prog 31 #[.agg #[.int .i64 gm, .slice ra rn rc, .slice sa sn sc, .slice fa fn fc, .slice na nn nc], .int .i64 n] w fun r w' => r = .returned (.int .i64 E) ∧ Below w.heap.size w w' := by
  have b0 : Below w.heap.size w (w.alloc (.cells #[.int .i64 gm, .slice ra rn rc, .slice sa sn sc, .slice fa fn fc, .slice na nn nc] 44)) := (Below.refl _ _).alloc (Nat.le_refl _) _
  have m0 : (w.alloc (.cells #[.int .i64 gm, .slice ra rn rc, .slice sa sn sc, .slice fa fn fc, .slice na nn nc] 44)).heap[w.heap.size]? = some (.cells #[.int .i64 gm, .slice ra rn rc, .slice sa sn sc, .slice fa fn fc, .slice na nn nc] 44) := World.alloc_heap_new _ _
  have hcall := checkImage_is (h.below b0) hE
  obtain ⟨B, hB⟩ : ∃ B, decide ((0 : Int) ≤ n ∧ n ≤ (gm : Int) - 1) = B := ⟨_, rfl⟩
  have HB : Hid (decide ((0 : Int) ≤ n ∧ n ≤ (gm : Int) - 1) = B) := hB
  have HR : Hid (E = if B = true then 0 else 3) := by
    show _ = _
    rw [← hr, ← hB]
    by_cases hc : 0 ≤ n ∧ n < gm
    · rw [if_pos hc, if_pos (decide_eq_true (by omega))]
    · rw [if_neg hc, if_neg (by rw [decide_eq_false (by omega)]; decide)]
  clear h hE hB hr
  cases B with
  | true =>
    go_enter Try.func31, Try.ntmps31
    go_wp2_with (first | (go_at_call 29; refine hcall.mono ?_; rintro e w1 ⟨rfl, b1⟩; have m1 := cells_below m0 b1 (by simp); obtain ⟨c0, c1, c2, c3, c4⟩ := five m1) | (go_at_call 38; refine (within_any _ _ _ _).mono ?_; rintro e w' ⟨rfl, hw⟩; subst hw; rw [HB.out]))
    go_ret
    exact ⟨by rw [HR.out]; rfl, Below.on b0 b1⟩
  | false =>
    go_enter Try.func31, Try.ntmps31
    go_wp2_with (first | (go_at_call 29; refine hcall.mono ?_; rintro e w1 ⟨rfl, b1⟩; have m1 := cells_below m0 b1 (by simp); obtain ⟨c0, c1, c2, c3, c4⟩ := five m1) | (go_at_call 38; refine (within_any _ _ _ _).mono ?_; rintro e w' ⟨rfl, hw⟩; subst hw; rw [HB.out]))
    go_ret
    exact ⟨by rw [HR.out]; rfl, Below.on b0 b1⟩
theorem lookErr_is {w : World} {v : Value} {m : ImgD} (h : Img w v m) (n : Int) {E : Int} (hE : lookE m n = E) :
    Calls Try.prog 31 #[v, .int .i64 n] w fun r w' => r = .returned (.int .i64 E) ∧ Below w.heap.size w w' := by
  have h' := h
  obtain ⟨ra, rc, sa, sc, fa, fc, na, nc, rfl, h1, h2, h3, h4⟩ := h.parts
  unfold lookE at hE
  by_cases h0 : checkE m = 0
  · rw [if_neg (by simpa using h0)] at hE
    have hg := guest_ok (checkE_shape h0)
    obtain ⟨k, hk⟩ : ∃ k : Nat, m.guest = k := ⟨m.guest.toNat, by omega⟩
    rw [hk] at h' hE ⊢
    exact lookErr_at k ra _ rc sa _ sc fa _ fc na _ nc m n w h' h0 (by omega) hE
  · rw [if_pos h0] at hE
    exact lookErr_bad m.guest ra _ rc sa _ sc fa _ fc na _ nc m E n w h' hE (by rw [← hE]; simpa using h0)
theorem lookOf_at (gm : Int) (ra : Option Addr) (rn rc : Nat) (sa : Option Addr) (sn sc : Nat) (fa : Option Addr) (fn fc : Nat) (na : Option Addr) (nn nc : Nat) (m : ImgD) (n : Nat) (c : Int) (w : World) (h : Img w (.agg #[.int .i64 gm, .slice ra rn rc, .slice sa sn sc, .slice fa fn fc, .slice na nn nc]) m) (hr : Sl w (.slice ra rn rc) m.root) (hs : slotsE m.slots = 0) (hall : m.root.all (rootE m.slots) = true) (hn : n < 16) (hl : n / 4 < m.root.length) (hc : lookV m m.root n = c) :
    Calls Try.prog 32 #[.agg #[.int .i64 gm, .slice ra rn rc, .slice sa sn sc, .slice fa fn fc, .slice na nn nc], .int .i64 n] w fun r w' => r = .returned (.int .i64 c) ∧ Below w.heap.size w w' := by
  have b0 : Below w.heap.size w (w.alloc (.cells #[.int .i64 gm, .slice ra rn rc, .slice sa sn sc, .slice fa fn fc, .slice na nn nc] 44)) := (Below.refl _ _).alloc (Nat.le_refl _) _
  have hcall := lookR_is (h.below b0) (hr.below b0) hs hall n hn hl hc
  clear h hr hs hall hc hl
  go_enter Try.func32, Try.ntmps32
  go_wp2_with (go_at_call 52; refine hcall.mono ?_; rintro e w1 ⟨rfl, b1⟩)
  go_ret
  exact ⟨rfl, Below.on b0 b1⟩
theorem lookOf_is {w : World} {v : Value} {m : ImgD} (h : Img w v m) (n : Int) (hE : lookE m n = 0) {c : Int} (hc : lookV m m.root n.toNat = c) :
    Calls Try.prog 32 #[v, .int .i64 n] w fun r w' => r = .returned (.int .i64 c) ∧ Below w.heap.size w w' := by
  have h' := h
  obtain ⟨ra, rc, sa, sc, fa, fc, na, nc, rfl, h1, h2, h3, h4⟩ := h.parts
  unfold lookE at hE
  split at hE
  · rename_i h0; exact absurd hE h0
  rename_i h0
  have h0 : checkE m = 0 := Classical.not_not.1 h0
  split at hE
  · rename_i hn
    have hsh := checkE_shape h0
    have hg := guest_ok hsh
    have hro := root_ok hsh
    obtain ⟨k, rfl⟩ : ∃ k : Nat, n = k := ⟨n.toNat, by omega⟩
    rw [Int.toNat_natCast] at hc
    exact lookOf_at m.guest ra _ rc sa _ sc fa _ fc na _ nc m k c w h' h1 (shapeE_zero hsh).2.1 hro.2 (by omega) (by omega) hc
  · simp at hE
end Go.Proofs.Ytehleeibgkpjmab
