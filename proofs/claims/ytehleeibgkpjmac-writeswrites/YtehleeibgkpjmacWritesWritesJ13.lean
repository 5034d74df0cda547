/- Texts joined: RefF, PutI, WoA, WoB, WoC. -/
import Derived.Test.YtehleeibgkpjmacWritesWritesJ4
import Derived.Test.YtehleeibgkpjmacWritesWritesJ7
import Derived.Test.YtehleeibgkpjmacWritesWritesJ8
import Derived.Test.YtehleeibgkpjmacWritesWritesJ12
import Derived.Test.YtehleeibgkpjmacWritesWritesJ5
/- Contracts of the document's CheckImage, look, LookError, LookOf. -/
namespace Go.Proofs.Ytehleeibgkpjmac
open Go.RowKit Go.Shelf
set_option maxRecDepth 20000

theorem checkImage_bad (gm : Int) (ra : Option Addr) (rn rc : Nat) (sa : Option Addr) (sn sc : Nat) (fa : Option Addr) (fn fc : Nat) (na : Option Addr) (nn nc : Nat) (m : ImgD) (E : Int) (w : World) (h : Img w (.agg #[.int .i64 gm, .slice ra rn rc, .slice sa sn sc, .slice fa fn fc, .slice na nn nc]) m) (hE : shapeE m = E) (hne : (E != 0) = true) :
    Calls Try.prog 18 #[.agg #[.int .i64 gm, .slice ra rn rc, .slice sa sn sc, .slice fa fn fc, .slice na nn nc]] w fun r w' => r = .returned (.int .i64 E) ∧ Below w.heap.size w w' := by
  have b0 : Below w.heap.size w (w.alloc (.cells #[.int .i64 gm, .slice ra rn rc, .slice sa sn sc, .slice fa fn fc, .slice na nn nc] 26)) := (Below.refl _ _).alloc (Nat.le_refl _) _
  have hcall := shapeOf_is (h.below b0) hE
  clear h hE
  go_enter Try.func18, Try.ntmps18
  go_wp2_with (go_at_call 47; refine hcall.mono ?_; rintro e w1 ⟨rfl, b1⟩)
  go_ret
  exact ⟨rfl, Below.on b0 b1⟩

set_option linter.unusedSimpArgs false in
set_option maxHeartbeats 4000000 in
theorem checkImage_at (gm : Int) (ra : Option Addr) (rn rc : Nat) (sb so : Nat) (sn sc : Nat) (fa : Option Addr) (fn fc : Nat) (na : Option Addr) (nn nc : Nat) (m : ImgD) (E : Int) (w : World) (h : Img w (.agg #[.int .i64 gm, .slice ra rn rc, .slice (some ⟨sb, so, none⟩) sn sc, .slice fa fn fc, .slice na nn nc]) m) (hsn : m.slots.length = sn) (hsb : sb < w.heap.size) (hcl : ∀ j, (h : j < m.slots.length) → SlAt w sb (so + j * 3) m.slots[j]) (hf : Sl w (.slice fa fn fc) m.refs) (hfn : fn = sn)
    (h0 : shapeE m = 0) (hE : checkE m = E) :
    Calls Try.prog 18 #[.agg #[.int .i64 gm, .slice ra rn rc, .slice (some ⟨sb, so, none⟩) sn sc, .slice fa fn fc, .slice na nn nc]] w fun r w' => r = .returned (.int .i64 E) ∧ Below w.heap.size w w' := by
  have b0 : Below w.heap.size w (w.alloc (.cells #[.int .i64 gm, .slice ra rn rc, .slice (some ⟨sb, so, none⟩) sn sc, .slice fa fn fc, .slice na nn nc] 26)) := (Below.refl _ _).alloc (Nat.le_refl _) _
  have m0 : (w.alloc (.cells #[.int .i64 gm, .slice ra rn rc, .slice (some ⟨sb, so, none⟩) sn sc, .slice fa fn fc, .slice na nn nc] 26)).heap[w.heap.size]? = some (.cells #[.int .i64 gm, .slice ra rn rc, .slice (some ⟨sb, so, none⟩) sn sc, .slice fa fn fc, .slice na nn nc] 26) := World.alloc_heap_new _ _
  have h40 : sn ≤ 40 := by rw [← hsn]; exact (slotsE_parts (shapeE_zero h0).2.1).2
  have hrl : m.refs.length = sn := by rw [(shapeE_zero h0).2.2.1, hsn]
  have HE : Hid (E = if cntL m ≠ m.refs then 9 else if (List.range m.slots.length).all (freeAt m) = true then 0 else 9) := by
    show _ = _
    rw [← hE]; unfold checkE; rw [if_neg (by simpa using h0)]
  have FB : Hid (∀ n, n < sn → (m.refs.getD n 0 ≠ (cntL m).getD n 0 ∨ freeAt m n = false) → E = 9) := fun n hn hor => by
    rw [HE.out]
    by_cases hq : cntL m ≠ m.refs
    · rw [if_pos hq]
    · rw [if_neg hq, if_neg]
      intro e
      rcases hor with hh | hh
      · exact hh (by rw [Classical.not_not.1 hq])
      · have := List.all_eq_true.1 e n (by rw [hsn]; simpa using hn)
        rw [hh] at this; cases this
  have FG : Hid ((∀ n, n < sn → m.refs.getD n 0 = (cntL m).getD n 0 ∧ freeAt m n = true) → E = 0) := fun hall => by
    rw [HE.out, if_neg, if_pos]
    · rw [List.all_eq_true]; intro j hj; exact (hall j (by rw [← hsn]; simpa using hj)).2
    · rw [Classical.not_not]
      apply List.ext_getElem
      · rw [cntL_length, hrl, hsn]
      · intro j h1 h2
        have := (hall j (by rw [← hrl]; exact h2)).1
        simpa [List.getD, h1, h2] using this.symm
  have hcall := shapeOf_is (h.below b0) h0
  have hcnt := fun W (hW : Below w.heap.size w W) => countsOf_is (h.below hW) h0
  rw [hsn] at hcnt
  have H1 : Hid (m.slots.length = sn) := hsn
  have H2 : Hid (∀ j, (h : j < m.slots.length) → SlAt w sb (so + j * 3) m.slots[j]) := hcl
  have H3 : Hid (Sl w (.slice fa fn fc) m.refs) := hf
  subst hfn
  have H4 : Hid (m.refs.length = fn) := hrl
  clear HE hsn hcl hf hrl h h0 hE
  go_enter Try.func18, Try.ntmps18
  go_wp2_with fail
  refine hcall.mono ?_
  rintro e w1 ⟨rfl, b1⟩
  have m1 := cells_below m0 b1 (by simp)
  obtain ⟨c0, c1, c2, c3, c4⟩ := five m1
  have hb1 := Below.on b0 b1
  have hcnt := hcnt w1 hb1
  clear hcall
  go_wp2_with fail
  refine hcnt.mono ?_
  rintro e w2 ⟨⟨rfl, hL⟩, b2⟩
  have m2 := cells_below m1 b2 (Array.getElem?_eq_some_iff.1 m1).1
  clear c0 c1 c2 c3 c4 hcnt
  obtain ⟨c0, c1, c2, c3, c4⟩ := five m2
  have hbw := Below.on hb1 b2
  obtain ⟨g, hg⟩ : ∃ g, w1.heap.size + 1 = g := ⟨_, rfl⟩
  rw [hg] at hL ⊢
  clear hg
  go_wp2_with fail
  go_loopw [5] (fun i wq => ∃ k : Nat, k ≤ fn ∧ i = .int .i64 k ∧ Hid (∀ j, j < k → m.refs.getD j 0 = (cntL m).getD j 0 ∧ freeAt m j = true) ∧ (Hid (∀ a, wq.cell? a = w2.cell? a) ∧ Below w.heap.size w wq)) (fun i _ => fn - (intOf i).toNat)
  case atStart => exact ⟨0, Nat.zero_le _, rfl, fun j hj => absurd hj (by omega), fun _ => rfl, hbw⟩
  case round =>
    obtain ⟨k, hk, rfl, HA, hsame, hbr⟩ := hrel
    have c0 := (hsame.out _).trans c0
    have c1 := (hsame.out _).trans c1
    have c2 := (hsame.out _).trans c2
    have c3 := (hsame.out _).trans c3
    have c4 := (hsame.out _).trans c4
    by_cases hlk : k < fn
    · have hki : (k : Int) < (fn : Int) := by omega
      have hkm : k < m.slots.length := by rw [H1.out]; exact hlk
      obtain ⟨tv, s1, _⟩ := H2.out k hkm
      have ekd : m.slots[k].1 = kd m.slots k := by unfold kd; simp [List.getD, hkm]
      rw [ekd] at s1
      have s1 := (hbr.cell (p := ⟨sb, so + k * 3, none⟩) hsb).trans s1
      obtain ⟨b, off, rfl, hlt, hcf⟩ := H3.out.cells.2.2.2 k hlk
      have hcf := (hbr.cell (p := ⟨b, off + k, none⟩) hlt).trans hcf
      have hcc := (hsame.out _).trans (hL.cell (by rw [cntL_length, H1.out]; exact hlk))
      obtain ⟨x, hx⟩ : ∃ x, m.refs.getD k 0 = x := ⟨_, rfl⟩
      obtain ⟨y, hy⟩ : ∃ y, (cntL m).getD k 0 = y := ⟨_, rfl⟩
      obtain ⟨z, hz⟩ : ∃ z, kd m.slots k = z := ⟨_, rfl⟩
      have HF : Hid (freeAt m k = ((z == 0) == (y == 0))) := by
        show _ = _
        unfold freeAt
        rw [hy, ← hz]; rfl
      rw [hx] at hcf
      rw [hy] at hcc
      rw [hz] at s1
      have HXY : Hid (m.refs.getD k 0 = x ∧ (cntL m).getD k 0 = y) := ⟨hx, hy⟩
      clear hx hy hz ekd
      by_cases hxy : x = y
      · have hxyb : (x != y) = false := by simp [hxy]
        have HE2 : Hid (x = y) := hxy
        clear hxy
        cases hy0 : y == 0 with
        | true =>
          cases hz0 : z == 0 with
          | true =>
            go_wp2_with fail
            go_quiet (fail)
            go_wp2_with fail
            go_roundw
            case rel => exact ⟨k + 1, by omega, by go_num, fun j hj => by
              by_cases e : j = k
              · subst e; exact ⟨by rw [HXY.out.1, HXY.out.2, HE2.out], by rw [HF.out, hz0, hy0]; rfl⟩
              · exact HA.out j (by omega), fun a => hsame.out a, ⟨hbr.os, hbr.tape, hbr.output, hbr.size, hbr.block⟩⟩
            case measure => simp [intOf]; omega
          | false =>
            have HB : Hid (E = 9) := FB.out k hlk (.inr (by rw [HF.out, hz0, hy0]; rfl))
            go_wp2_with fail
            go_quiet (fail)
            go_wp2_with fail
            go_ret
            exact ⟨ret_int HB.out.symm, ⟨hbr.os, hbr.tape, hbr.output, hbr.size, hbr.block⟩⟩
        | false =>
          cases hz0 : z == 0 with
          | true =>
            have HB : Hid (E = 9) := FB.out k hlk (.inr (by rw [HF.out, hz0, hy0]; rfl))
            go_wp2_with fail
            go_quiet (fail)
            go_wp2_with fail
            go_ret
            exact ⟨ret_int HB.out.symm, ⟨hbr.os, hbr.tape, hbr.output, hbr.size, hbr.block⟩⟩
          | false =>
            go_wp2_with fail
            go_quiet (fail)
            go_wp2_with fail
            go_roundw
            case rel => exact ⟨k + 1, by omega, by go_num, fun j hj => by
              by_cases e : j = k
              · subst e; exact ⟨by rw [HXY.out.1, HXY.out.2, HE2.out], by rw [HF.out, hz0, hy0]; rfl⟩
              · exact HA.out j (by omega), fun a => hsame.out a, ⟨hbr.os, hbr.tape, hbr.output, hbr.size, hbr.block⟩⟩
            case measure => simp [intOf]; omega
      · have hxyb : (x != y) = true := by simp [hxy]
        have HB : Hid (E = 9) := FB.out k hlk (.inl (by rw [HXY.out.1, HXY.out.2]; exact hxy))
        clear hxy
        go_wp2_with fail
        go_quiet (fail)
        go_wp2_with fail
        go_ret
        exact ⟨ret_int HB.out.symm, ⟨hbr.os, hbr.tape, hbr.output, hbr.size, hbr.block⟩⟩
    · have HB : Hid (E = 0) := FG.out (fun n hn => HA.out n (by omega))
      have e5 : k = fn := by omega
      subst e5
      go_wp2_with fail
      go_ret
      exact ⟨ret_int HB.out.symm, hbr⟩

theorem checkImage_is {w : World} {v : Value} {m : ImgD} (h : Img w v m) {E : Int} (hE : checkE m = E) :
    Calls Try.prog 18 #[v] w fun r w' => r = .returned (.int .i64 E) ∧ Below w.heap.size w w' := by
  have h' := h
  obtain ⟨ra, rc, sa, sc, fa, fc, na, nc, rfl, h1, h2, h3, h4⟩ := h.parts
  by_cases h0 : shapeE m = 0
  · obtain ⟨z1, z2, z3, _⟩ := shapeE_zero h0
    obtain ⟨sb, so, sc', e, hcp, hlt, hcell⟩ := h2.open (slotsE_parts z2).1
    simp at e
    obtain ⟨rfl, rfl⟩ := e
    exact checkImage_at m.guest ra _ rc sb so _ sc fa _ fc na _ nc m E w h' rfl hlt hcell h3 z3 h0 hE
  · have e : shapeE m = E := by rw [← hE]; unfold checkE; rw [if_pos h0]
    exact checkImage_bad m.guest ra _ rc sa _ sc fa _ fc na _ nc m E w h' e (by rw [← e]; simpa using h0)

theorem lookR_hole (gm : Int) (ra : Option Addr) (rn rc : Nat) (sa : Option Addr) (sn sc : Nat) (fa : Option Addr) (fn fc : Nat) (na : Option Addr) (nn nc : Nat) (qb qo qn qc n : Nat) (w : World) (hn : n < 16) (hqn : n / 4 < qn) (hqb : qb < w.heap.size) (hc : w.cell? ⟨qb, qo + n / 4, none⟩ = some (.int .i64 0)) :
    Calls Try.prog 52 #[.agg #[.int .i64 gm, .slice ra rn rc, .slice sa sn sc, .slice fa fn fc, .slice na nn nc], .slice (some ⟨qb, qo, none⟩) qn qc, .int .i64 n] w fun r w' => r = .returned (.int .i64 0) ∧ Below w.heap.size w w' := by
  have b0 : Below w.heap.size w (w.alloc (.cells #[.int .i64 gm, .slice ra rn rc, .slice sa sn sc, .slice fa fn fc, .slice na nn nc] 26)) := (Below.refl _ _).alloc (Nat.le_refl _) _
  have cr := (b0.cell (p := ⟨qb, qo + n / 4, none⟩) hqb).trans hc
  have hq : ((n : Int) / 4).toNat = n / 4 := by omega
  go_enter Try.func52, Try.ntmps52
  go_wp2_with fail
  go_ret
  exact ⟨rfl, b0⟩
theorem lookR_tab (gm : Int) (ra : Option Addr) (rn rc : Nat) (sb so : Nat) (sn sc : Nat) (fa : Option Addr) (fn fc : Nat) (na : Option Addr) (nn nc : Nat) (qb qo qn qc n : Nat) (t : Nat) (x : Int) (w : World) (hn : n < 16) (hqn : n / 4 < qn) (hqb : qb < w.heap.size) (hc : w.cell? ⟨qb, qo + n / 4, none⟩ = some (.int .i64 t)) (ht : 0 < t) (hts : t < sn) (hsb : sb < w.heap.size)
    (tb tw tc : Nat) (hct : w.cell? ⟨sb, so + t * 3 + 2, none⟩ = some (.slice (some ⟨tb, tw, none⟩) 4 tc)) (htb : tb < w.heap.size) (hx : w.cell? ⟨tb, tw + n % 4, none⟩ = some (.int .i64 x)) :
    Calls Try.prog 52 #[.agg #[.int .i64 gm, .slice ra rn rc, .slice (some ⟨sb, so, none⟩) sn sc, .slice fa fn fc, .slice na nn nc], .slice (some ⟨qb, qo, none⟩) qn qc, .int .i64 n] w fun r w' => r = .returned (.int .i64 x) ∧ Below w.heap.size w w' := by
  have b0 : Below w.heap.size w (w.alloc (.cells #[.int .i64 gm, .slice ra rn rc, .slice (some ⟨sb, so, none⟩) sn sc, .slice fa fn fc, .slice na nn nc] 26)) := (Below.refl _ _).alloc (Nat.le_refl _) _
  have cr := (b0.cell (p := ⟨qb, qo + n / 4, none⟩) hqb).trans hc
  have ct := (b0.cell (p := ⟨sb, so + t * 3 + 2, none⟩) hsb).trans hct
  have cx := (b0.cell (p := ⟨tb, tw + n % 4, none⟩) htb).trans hx
  have hq : ((n : Int) / 4).toNat = n / 4 := by omega
  have hq2 : ((n : Int) % 4).toNat = n % 4 := by omega
  have hne : ((t : Int) == 0) = false := by simp; omega
  have h4 : n % 4 < 4 := by omega
  go_enter Try.func52, Try.ntmps52
  go_wp2_with fail
  go_ret
  exact ⟨rfl, b0⟩
/-- The entry of page n of a Root that fits. -/
theorem lookR_is {w : World} {v rv : Value} {m : ImgD} {root : List Int} (h : Img w v m) (hr : Sl w rv root) (hs : slotsE m.slots = 0) (hall : root.all (rootE m.slots) = true) (n : Nat) (hn : n < 16) (hl : n / 4 < root.length) {c : Int} (hc : lookV m root n = c) :
    Calls Try.prog 52 #[v, rv, .int .i64 n] w fun r w' => r = .returned (.int .i64 c) ∧ Below w.heap.size w w' := by
  obtain ⟨ra, rc, sa, sc, fa, fc, na, nc, rfl, h1, h2, h3, h4⟩ := h.parts
  have hE2 := all_at hall hl
  obtain ⟨rb, ro, qc, rfl, _, hrb, hcell⟩ := hr.open (by omega)
  have hcr := hcell (n / 4) hl
  unfold lookV at hc
  by_cases hz : root.getD (n / 4) 0 = 0
  · rw [if_pos hz] at hc
    subst hc
    rw [hz] at hcr
    exact lookR_hole m.guest ra _ rc sa _ sc fa _ fc na _ nc rb ro _ qc n w hn hl hrb hcr
  · rw [if_neg hz] at hc
    rw [rootE_x hz] at hE2
    obtain ⟨t, ht, htl, hkd⟩ := isKd_yes hE2
    have hok := okD_tab (slotsE_all hs htl) hkd
    obtain ⟨sb, so, sc', e, _, hsb, hcl⟩ := h2.open (by omega)
    simp at e
    obtain ⟨rfl, rfl⟩ := e
    obtain ⟨tv, _, _, c3, hsl⟩ := hcl t htl
    obtain ⟨tb, tw, tc, rfl, _, htb, htc⟩ := hsl.four hok.1
    rw [ht] at hcr hc hz
    have e4 : tabOf m.slots (t : Int) = m.slots[t].2.2 := by unfold tabOf; simp [List.getD, htl]
    rw [e4] at hc
    have hx := htc (n % 4) (by omega)
    rw [hc] at hx
    exact lookR_tab m.guest ra _ rc sb so _ sc fa _ fc na _ nc rb ro _ qc n t c w hn hl hrb hcr (by omega) htl hsb tb tw tc c3 htb hx

theorem lookErr_bad (gm : Int) (ra : Option Addr) (rn rc : Nat) (sa : Option Addr) (sn sc : Nat) (fa : Option Addr) (fn fc : Nat) (na : Option Addr) (nn nc : Nat) (m : ImgD) (E n : Int) (w : World) (h : Img w (.agg #[.int .i64 gm, .slice ra rn rc, .slice sa sn sc, .slice fa fn fc, .slice na nn nc]) m) (hE : checkE m = E) (hne : (E != 0) = true) :
    Calls Try.prog 17 #[.agg #[.int .i64 gm, .slice ra rn rc, .slice sa sn sc, .slice fa fn fc, .slice na nn nc], .int .i64 n] w fun r w' => r = .returned (.int .i64 E) ∧ Below w.heap.size w w' := by
  have b0 : Below w.heap.size w (w.alloc (.cells #[.int .i64 gm, .slice ra rn rc, .slice sa sn sc, .slice fa fn fc, .slice na nn nc] 26)) := (Below.refl _ _).alloc (Nat.le_refl _) _
  have hcall := checkImage_is (h.below b0) hE
  clear h hE
  go_enter Try.func17, Try.ntmps17
  go_wp2_with (go_at_call 18; refine hcall.mono ?_; rintro e w1 ⟨rfl, b1⟩)
  go_ret
  exact ⟨rfl, Below.on b0 b1⟩
theorem lookErr_at (gm : Nat) (ra : Option Addr) (rn rc : Nat) (sa : Option Addr) (sn sc : Nat) (fa : Option Addr) (fn fc : Nat) (na : Option Addr) (nn nc : Nat) (m : ImgD) (n : Int) (w : World) (h : Img w (.agg #[.int .i64 gm, .slice ra rn rc, .slice sa sn sc, .slice fa fn fc, .slice na nn nc]) m) (hE : checkE m = 0) (hg : gm ≤ 16) {E : Int} (hr : (if 0 ≤ n ∧ n < gm then 0 else 3) = E) :
    Calls Try.prog 17 #[.agg #[.int .i64 gm, .slice ra rn rc, .slice sa sn sc, .slice fa fn fc, .slice na nn nc], .int .i64 n] w fun r w' => r = .returned (.int .i64 E) ∧ Below w.heap.size w w' := by
  have b0 : Below w.heap.size w (w.alloc (.cells #[.int .i64 gm, .slice ra rn rc, .slice sa sn sc, .slice fa fn fc, .slice na nn nc] 26)) := (Below.refl _ _).alloc (Nat.le_refl _) _
  have m0 : (w.alloc (.cells #[.int .i64 gm, .slice ra rn rc, .slice sa sn sc, .slice fa fn fc, .slice na nn nc] 26)).heap[w.heap.size]? = some (.cells #[.int .i64 gm, .slice ra rn rc, .slice sa sn sc, .slice fa fn fc, .slice na nn nc] 26) := World.alloc_heap_new _ _
  have hcall := checkImage_is (h.below b0) hE
  obtain ⟨B, hB⟩ : ∃ B, decide ((0 : Int) ≤ n ∧ n ≤ (gm : Int) - 1) = B := ⟨_, rfl⟩
  have HB : Hid (decide ((0 : Int) ≤ n ∧ n ≤ (gm : Int) - 1) = B) := hB
  have HR : Hid (E = if B = true then 0 else 3) := by
    show _ = _
    rw [← hr, ← hB]
    by_cases hc : 0 ≤ n ∧ n < gm
    · rw [if_pos hc, if_pos (decide_eq_true (by omega))]
    · rw [if_neg hc, if_neg (by rw [decide_eq_false (by omega)]; decide)]
  clear h hE hB hr
  cases B with
  | true =>
    go_enter Try.func17, Try.ntmps17
    go_wp2_with (first | (go_at_call 18; refine hcall.mono ?_; rintro e w1 ⟨rfl, b1⟩; have m1 := cells_below m0 b1 (by simp); obtain ⟨c0, c1, c2, c3, c4⟩ := five m1) | (go_at_call 46; refine (within_any _ _ _ _).mono ?_; rintro e w' ⟨rfl, hw⟩; subst hw; rw [HB.out]))
    go_ret
    exact ⟨by rw [HR.out]; rfl, Below.on b0 b1⟩
  | false =>
    go_enter Try.func17, Try.ntmps17
    go_wp2_with (first | (go_at_call 18; refine hcall.mono ?_; rintro e w1 ⟨rfl, b1⟩; have m1 := cells_below m0 b1 (by simp); obtain ⟨c0, c1, c2, c3, c4⟩ := five m1) | (go_at_call 46; refine (within_any _ _ _ _).mono ?_; rintro e w' ⟨rfl, hw⟩; subst hw; rw [HB.out]))
    go_ret
    exact ⟨by rw [HR.out]; rfl, Below.on b0 b1⟩
theorem lookErr_is {w : World} {v : Value} {m : ImgD} (h : Img w v m) (n : Int) {E : Int} (hE : lookE m n = E) :
    Calls Try.prog 17 #[v, .int .i64 n] w fun r w' => r = .returned (.int .i64 E) ∧ Below w.heap.size w w' := by
  have h' := h
  obtain ⟨ra, rc, sa, sc, fa, fc, na, nc, rfl, h1, h2, h3, h4⟩ := h.parts
  unfold lookE at hE
  by_cases h0 : checkE m = 0
  · rw [if_neg (by simpa using h0)] at hE
    have hg := guest_ok (checkE_shape h0)
    obtain ⟨k, hk⟩ : ∃ k : Nat, m.guest = k := ⟨m.guest.toNat, by omega⟩
    rw [hk] at h' hE ⊢
    exact lookErr_at k ra _ rc sa _ sc fa _ fc na _ nc m n w h' h0 (by omega) hE
  · rw [if_pos h0] at hE
    exact lookErr_bad m.guest ra _ rc sa _ sc fa _ fc na _ nc m E n w h' hE (by rw [← hE]; simpa using h0)
theorem lookOf_at (gm : Int) (ra : Option Addr) (rn rc : Nat) (sa : Option Addr) (sn sc : Nat) (fa : Option Addr) (fn fc : Nat) (na : Option Addr) (nn nc : Nat) (m : ImgD) (n : Nat) (c : Int) (w : World) (h : Img w (.agg #[.int .i64 gm, .slice ra rn rc, .slice sa sn sc, .slice fa fn fc, .slice na nn nc]) m) (hr : Sl w (.slice ra rn rc) m.root) (hs : slotsE m.slots = 0) (hall : m.root.all (rootE m.slots) = true) (hn : n < 16) (hl : n / 4 < m.root.length) (hc : lookV m m.root n = c) :
    Calls Try.prog 50 #[.agg #[.int .i64 gm, .slice ra rn rc, .slice sa sn sc, .slice fa fn fc, .slice na nn nc], .int .i64 n] w fun r w' => r = .returned (.int .i64 c) ∧ Below w.heap.size w w' := by
  have b0 : Below w.heap.size w (w.alloc (.cells #[.int .i64 gm, .slice ra rn rc, .slice sa sn sc, .slice fa fn fc, .slice na nn nc] 26)) := (Below.refl _ _).alloc (Nat.le_refl _) _
  have hcall := lookR_is (h.below b0) (hr.below b0) hs hall n hn hl hc
  clear h hr hs hall hc hl
  go_enter Try.func50, Try.ntmps50
  go_wp2_with (go_at_call 52; refine hcall.mono ?_; rintro e w1 ⟨rfl, b1⟩)
  go_ret
  exact ⟨rfl, Below.on b0 b1⟩
theorem lookOf_is {w : World} {v : Value} {m : ImgD} (h : Img w v m) (n : Int) (hE : lookE m n = 0) {c : Int} (hc : lookV m m.root n.toNat = c) :
    Calls Try.prog 50 #[v, .int .i64 n] w fun r w' => r = .returned (.int .i64 c) ∧ Below w.heap.size w w' := by
  have h' := h
  obtain ⟨ra, rc, sa, sc, fa, fc, na, nc, rfl, h1, h2, h3, h4⟩ := h.parts
  unfold lookE at hE
  split at hE
  · rename_i h0; exact absurd hE h0
  rename_i h0
  have h0 : checkE m = 0 := Classical.not_not.1 h0
  split at hE
  · rename_i hn
    have hsh := checkE_shape h0
    have hg := guest_ok hsh
    have hro := root_ok hsh
    obtain ⟨k, rfl⟩ : ∃ k : Nat, n = k := ⟨n.toNat, by omega⟩
    rw [Int.toNat_natCast] at hc
    exact lookOf_at m.guest ra _ rc sa _ sc fa _ fc na _ nc m k c w h' h1 (shapeE_zero hsh).2.1 hro.2 (by omega) (by omega) hc
  · simp at hE
end Go.Proofs.Ytehleeibgkpjmac
/- Contract of the document's putOf. -/
namespace Go.Proofs.Ytehleeibgkpjmac
open Go.RowKit Go.Shelf
set_option maxRecDepth 20000
set_option linter.unusedVariables false
set_option linter.unusedSimpArgs false

/-- What a function of the document answers: an image, and an error. -/
def AnsJ (w : World) (M : ImgD) (err : Int) (r : Ending) (w' : World) : Prop := ∃ a0 c0 a1 c1 a2 c2 a3 c3, r = .returned (.tuple #[.agg #[.int .i64 M.guest, .slice a0 M.root.length c0, .slice a1 M.slots.length c1, .slice a2 M.refs.length c2, .slice a3 M.snaps.length c3], .int .i64 err]) ∧ (∀ W', (∀ q, w.heap.size ≤ q → W'.heap[q]? = w'.heap[q]?) → Img W' (.agg #[.int .i64 M.guest, .slice a0 M.root.length c0, .slice a1 M.slots.length c1, .slice a2 M.refs.length c2, .slice a3 M.snaps.length c3]) M) ∧ Below w.heap.size w w'
theorem imgZ_im (W : World) : Img W (.agg #[.int .i64 0, .slice none 0 0, .slice none 0 0, .slice none 0 0, .slice none 0 0]) imgZ := (OI.zero W 0).img
theorem OX.four' {W : World} {B : Nat} {val : Nm → Value} {m : ImgD} (h : OX W B val m) : ∃ a0 c0 a1 c1 a2 c2 a3 c3, val .root = .slice a0 m.root.length c0 ∧ val .slots = .slice a1 m.slots.length c1 ∧ val .refs = .slice a2 m.refs.length c2 ∧ val .snaps = .slice a3 m.snaps.length c3 := by
  obtain ⟨a0, c0, h0, _⟩ := h.forms .root (LiveX.root _)
  obtain ⟨a1, c1, h1, _⟩ := h.forms .slots (LiveX.slots _)
  obtain ⟨a2, c2, h2, _⟩ := h.forms .refs (LiveX.refs _)
  obtain ⟨a3, c3, h3, _⟩ := h.forms .snaps (LiveX.snaps _)
  exact ⟨a0, c0, a1, c1, a2, c2, a3, c3, h0, h1, h2, h3⟩
/-- Five cells of a block that is none of the image's. -/
theorem OX.five {W : World} {B D : Nat} {val : Nm → Value} {m : ImgD} (h : OX W B val m) (hf : ∀ a, LiveX m a → (val a).ownBlock ≠ some D) (a0 a1 a2 a3 a4 : Value) : OX (((((W.setCell ⟨D, 0, none⟩ a0).setCell ⟨D, 1, none⟩ a1).setCell ⟨D, 2, none⟩ a2).setCell ⟨D, 3, none⟩ a3).setCell ⟨D, 4, none⟩ a4) B val m := ((((h.far hf).far hf).far hf).far hf).far hf
theorem below_five {w W : World} {B D : Nat} (h : Below B w W) (hD : B ≤ D) (a0 a1 a2 a3 a4 : Value) : Below B w (((((W.setCell ⟨D, 0, none⟩ a0).setCell ⟨D, 1, none⟩ a1).setCell ⟨D, 2, none⟩ a2).setCell ⟨D, 3, none⟩ a3).setCell ⟨D, 4, none⟩ a4) :=
  ((((h.setCell (p := ⟨D, 0, none⟩) hD _).setCell (p := ⟨D, 1, none⟩) hD _).setCell (p := ⟨D, 2, none⟩) hD _).setCell (p := ⟨D, 3, none⟩) hD _).setCell (p := ⟨D, 4, none⟩) hD _
theorem heap_five {W : World} {D : Nat} (a0 a1 a2 a3 a4 : Value) (q : Nat) (hq : q ≠ D) : (((((W.setCell ⟨D, 0, none⟩ a0).setCell ⟨D, 1, none⟩ a1).setCell ⟨D, 2, none⟩ a2).setCell ⟨D, 3, none⟩ a3).setCell ⟨D, 4, none⟩ a4).heap[q]? = W.heap[q]? := by
  rw [Below.heap_setCell _ _ _ q hq, Below.heap_setCell _ _ _ q hq, Below.heap_setCell _ _ _ q hq, Below.heap_setCell _ _ _ q hq, Below.heap_setCell _ _ _ q hq]
theorem tabAt_O {m : ImgD} {k t : Nat} (ht : m.root.getD k 0 = (t : Int)) : tabAt m.slots t = tableO m k := by
  unfold tabAt tableO
  rw [ht]
  by_cases h : t = 0
  · rw [if_pos h, if_pos (by omega)]
  · rw [if_neg h, if_neg (by omega)]
    unfold tabOf
    rw [Int.toNat_natCast]

end Go.Proofs.Ytehleeibgkpjmac
/- The document's WriteOf: what lies in memory between its steps; plain facts. -/
namespace Go.Proofs.Ytehleeibgkpjmac
open Go.RowKit Go.Shelf
set_option maxRecDepth 20000
set_option linter.unusedVariables false

theorem grabOf_wide {v : Value} {L : List SlotD} {w : World} (h : Slots w v L) (h1 : 1 ≤ L.length) (h40 : L.length ≤ 40) {c : Int} (hc : (if grabN L = 40 then (0 : Int) else grabN L) = c) :
    Calls Try.prog 61 #[v] w fun r w' => r = .returned (.int .i64 c) ∧ w' = w := by
  obtain ⟨b, off, cap, rfl, hcp, hlt, hcell⟩ := h.open h1
  exact grabOf_at b off cap _ (grabN L) L w rfl h1 h40 hcell (grabN_at h1) c hc
theorem list_set_same {α : Type} {l : List α} {i : Nat} {x : α} (h : l[i]? = some x) : l.set i x = l := by
  apply List.ext_getElem?
  intro j
  rw [List.getElem?_set]
  split
  · rename_i e
    subst e
    split
    · exact h.symm
    · rename_i hl
      rw [List.getElem?_eq_none (by omega)]
  · rfl
theorem flatS_page {L : List SlotD} {tv : Nat → Value} {t : Nat} (ht : t < L.length) (d : ByteArray) :
    flatS (L.set t ((L.getD t default).1, d, (L.getD t default).2.2)) tv = (flatS L tv).set (t * 3 + 1) (.string d) := by
  obtain ⟨h0, h1, h2⟩ := flatS_get (tv := tv) ht
  rw [flatS_set (tv := tv) (tv' := tv) (t := t) _ d _ (fun _ _ => rfl), list_set_same h0]
  apply list_set_same
  rw [List.getElem?_set_ne (by omega)]
  exact h2
/-- A page's bytes are stored in its slot. -/
theorem OX.setPage {W : World} {B : Nat} {val : Nm → Value} {m : ImgD} (h : OX W B val m) {t : Nat} (ht : t < m.slots.length) {g n cap : Nat} (hv : val .slots = .slice (some ⟨g, 0, none⟩) n cap) (d : ByteArray) :
    OX (W.setCell ⟨g, t * 3 + 1, none⟩ (.string d)) B val { m with slots := m.slots.set t ((m.slots.getD t default).1, d, (m.slots.getD t default).2.2) } := by
  have hg := fun j => getD_setR m.slots t j ((m.slots.getD t default).1, d, (m.slots.getD t default).2.2)
  have htb : ∀ j, tbl { m with slots := m.slots.set t ((m.slots.getD t default).1, d, (m.slots.getD t default).2.2) } j = tbl m j := fun j => by
    show ((m.slots.set t _).getD j default).2.2 = (m.slots.getD j default).2.2
    rw [hg]
    split
    · rename_i e; rw [e.1]
    · rfl
  refine h.store (LiveX.slots m) hv (t * 3 + 1) (.string d) (liveX_iff List.length_set rfl (fun j => by rw [htb])) (fun b hb => ?_) (fun b hb hne => ?_) ?_ (fun j hj e => ?_)
  · rcases hb.cases with rfl | rfl | rfl | rfl | ⟨j, rfl, hj⟩ | ⟨j, rfl, hj⟩
    · rfl
    · exact List.length_set
    · rfl
    · rfl
    · show (tbl _ j).length = (tbl m j).length
      rw [htb]
    · rfl
  · rcases hb.cases with rfl | rfl | rfl | rfl | ⟨j, rfl, hj⟩ | ⟨j, rfl, hj⟩
    · rfl
    · exact absurd rfl hne
    · rfl
    · rfl
    · show ints (tbl _ j) = ints (tbl m j)
      rw [htb]
    · rfl
  · exact flatS_page ht d
  · rw [htb] at e
    have hj : j < (m.slots.set t _).length := hj
    rw [List.length_set] at hj
    exact ⟨hj, e⟩
/-! ### The image in its box -/
theorem five_box {W : World} {D : Nat} {x0 x1 x2 x3 x4 : Value} {T : TypeId} (h : W.heap[D]? = some (.cells #[x0, x1, x2, x3, x4] T)) (a0 a1 a2 a3 a4 : Value) :
    (((((W.setCell ⟨D, 0, none⟩ a0).setCell ⟨D, 1, none⟩ a1).setCell ⟨D, 2, none⟩ a2).setCell ⟨D, 3, none⟩ a3).setCell ⟨D, 4, none⟩ a4).heap[D]? = some (.cells #[a0, a1, a2, a3, a4] T) :=
  cells_set (cells_set (cells_set (cells_set (cells_set h 0 a0) 1 a1) 2 a2) 3 a3) 4 a4
theorem ow_call {V X w' : World} {D : Nat} {val val' : Nm → Value} {m m' : ImgD} {ev : Value} (hbel : Below V.heap.size V X) (hbox : X.heap[D]? = some (.cells #[.int .i64 m.guest, val .root, val .slots, val .refs, val .snaps] 26)) (hge : V.heap.size ≤ D) (hfar : ∀ a, LiveX m a → (val a).ownBlock ≠ some D)
    (hX : OX w' V.heap.size val' m') (b : Below V.heap.size X w') (k : KeepX X w' m val) (s : SrcX X m val ev m' val') (hev : ev.ownBlock ≠ some D) :
    OwR V (((((w'.setCell ⟨D, 0, none⟩ (.int .i64 m'.guest)).setCell ⟨D, 1, none⟩ (val' .root)).setCell ⟨D, 2, none⟩ (val' .slots)).setCell ⟨D, 3, none⟩ (val' .refs)).setCell ⟨D, 4, none⟩ (val' .snaps)) D m' := by
  have hlt : D < X.heap.size := (Array.getElem?_eq_some_iff.1 hbox).1
  have hfar' := s D hlt hev hfar
  exact ⟨⟨val', hX.five hfar' _ _ _ _ _, five_box ((k D hlt hfar).trans hbox) _ _ _ _ _, hfar'⟩, hge, below_five (hbel.trans b) hge _ _ _ _ _⟩
theorem ow_root {V X : World} {D : Nat} {val : Nm → Value} {m : ImgD} (hX : OX X V.heap.size val m) (hbel : Below V.heap.size V X) (hbox : X.heap[D]? = some (.cells #[.int .i64 m.guest, val .root, val .slots, val .refs, val .snaps] 26)) (hge : V.heap.size ≤ D) (hfar : ∀ a, LiveX m a → (val a).ownBlock ≠ some D)
    {g n cap : Nat} (hv : val .root = .slice (some ⟨g, 0, none⟩) n cap) (i : Nat) (x : Int) : OwR V (X.setCell ⟨g, i, none⟩ (.int .i64 x)) D { m with root := m.root.set i x } := by
  have hgD : D ≠ g := fun e => hfar .root (LiveX.root m) (by rw [hv, e]; rfl)
  have hg := ((hX.row .root (LiveX.root m)).lt g (by rw [hv]; rfl)).1
  exact ⟨⟨val, hX.setRoot hv i x, cells_other hbox hgD _ _, fun a ha => hfar a (by
    refine (liveX_iff (m := m) (m' := { m with root := m.root.set i x }) rfl rfl (fun _ => Iff.rfl) a).1 ha)⟩, hge, hbel.setCell (p := ⟨g, i, none⟩) hg _⟩
theorem ow_page {V X : World} {D : Nat} {val : Nm → Value} {m : ImgD} (hX : OX X V.heap.size val m) (hbel : Below V.heap.size V X) (hbox : X.heap[D]? = some (.cells #[.int .i64 m.guest, val .root, val .slots, val .refs, val .snaps] 26)) (hge : V.heap.size ≤ D) (hfar : ∀ a, LiveX m a → (val a).ownBlock ≠ some D)
    {g n cap : Nat} (hv : val .slots = .slice (some ⟨g, 0, none⟩) n cap) {t : Nat} (ht : t < m.slots.length) (d : ByteArray) : OwR V (X.setCell ⟨g, t * 3 + 1, none⟩ (.string d)) D { m with slots := m.slots.set t ((m.slots.getD t default).1, d, (m.slots.getD t default).2.2) } := by
  have hgD : D ≠ g := fun e => hfar .slots (LiveX.slots m) (by rw [hv, e]; rfl)
  have hg := ((hX.row .slots (LiveX.slots m)).lt g (by rw [hv]; rfl)).1
  have htb : ∀ j, tbl { m with slots := m.slots.set t ((m.slots.getD t default).1, d, (m.slots.getD t default).2.2) } j = tbl m j := fun j => by
    show ((m.slots.set t _).getD j default).2.2 = (m.slots.getD j default).2.2
    rw [getD_setR]
    split
    · rename_i e; rw [e.1]
    · rfl
  exact ⟨⟨val, hX.setPage ht hv d, cells_other hbox hgD _ _, fun a ha => hfar a ((liveX_iff (m := m) (m' := { m with slots := m.slots.set t ((m.slots.getD t default).1, d, (m.slots.getD t default).2.2) }) List.length_set rfl (fun j => by rw [htb]) a).1 ha)⟩, hge, hbel.setCell (p := ⟨g, t * 3 + 1, none⟩) hg _⟩
theorem ow_tab {V X : World} {D : Nat} {val : Nm → Value} {m : ImgD} (hX : OX X V.heap.size val m) (hbel : Below V.heap.size V X) (hbox : X.heap[D]? = some (.cells #[.int .i64 m.guest, val .root, val .slots, val .refs, val .snaps] 26)) (hge : V.heap.size ≤ D) (hfar : ∀ a, LiveX m a → (val a).ownBlock ≠ some D)
    {t : Nat} (ht : t < m.slots.length) (hnt : tbl m t ≠ []) {g n cap : Nat} (hv : val (.tab t) = .slice (some ⟨g, 0, none⟩) n cap) (i : Nat) (x : Int) : OwR V (X.setCell ⟨g, i, none⟩ (.int .i64 x)) D { m with slots := m.slots.set t ((m.slots.getD t default).1, (m.slots.getD t default).2.1, (m.slots.getD t default).2.2.set i x) } := by
  have hl : LiveX m (.tab t) := LiveX.tab ⟨ht, hnt⟩
  have hgD : D ≠ g := fun e => hfar (.tab t) hl (by rw [hv, e]; rfl)
  have hg := ((hX.row (.tab t) hl).lt g (by rw [hv]; rfl)).1
  have hgd := fun j => getD_setR m.slots t j ((m.slots.getD t default).1, (m.slots.getD t default).2.1, (m.slots.getD t default).2.2.set i x)
  refine ⟨⟨val, hX.setTab ht hnt hv i x, cells_other hbox hgD _ _, fun a ha => hfar a ?_⟩, hge, hbel.setCell (p := ⟨g, i, none⟩) hg _⟩
  refine (liveX_iff (m := m) (m' := { m with slots := m.slots.set t ((m.slots.getD t default).1, (m.slots.getD t default).2.1, (m.slots.getD t default).2.2.set i x) }) List.length_set rfl (fun j => ?_) a).1 ha
  show ((m.slots.set t _).getD j default).2.2 = [] ↔ (m.slots.getD j default).2.2 = []
  rw [hgd]
  split
  · rename_i e
    rw [← e.1]
    exact ⟨fun z => List.eq_nil_of_length_eq_zero (by have := congrArg List.length z; rwa [List.length_set] at this), fun z => absurd z hnt⟩
  · rfl
/-! ### Plain -/
theorem getD_atS {L : List SlotD} {j : Nat} (h : j < L.length) : L.getD j default = L[j] := by simp [List.getD, h]
theorem slot_tab {m : ImgD} (hs : shapeE m = 0) {t : Nat} (hk : kd m.slots t = 2) : m.slots.getD t default = (2, ⟨#[]⟩, tabOf m.slots t) := by
  have hl := kd_lt (L := m.slots) (j := t) (by rw [hk]; decide)
  have hok := slotsE_all (shapeE_zero hs).2.1 hl
  rw [getD_atS hl]
  unfold tabOf
  rw [Int.toNat_natCast, getD_atS hl]
  unfold kd at hk
  rw [getD_atS hl] at hk
  unfold okD slotOK at hok
  rw [hk] at hok
  simp at hok
  have h0 : m.slots[t].2.1 = ⟨#[]⟩ := hok.2.2
  rw [← h0, ← hk]
theorem lay_set {L : List SlotD} {t d : Nat} {s x : SlotD} (ht : t < L.length) (hne : t ≠ d) : (layS L d s).set t x = layS (L.set t x) d s := by
  unfold layS
  rw [List.length_set]
  split
  · exact List.set_append_left _ _ ht
  · exact List.set_comm _ _ (fun e => hne e.symm)
theorem lay_lay {L : List SlotD} {t : Nat} {a b : SlotD} (ht : t ≤ L.length) : (layS L t a).set t b = layS L t b := by
  unfold layS
  split
  · rename_i e
    subst e
    rw [List.set_append_right _ _ (Nat.le_refl _)]
    simp
  · exact List.set_set ..
/-- The image between the two grabs. -/
def wo1 (m : ImgD) (n : Nat) : ImgD := { m with root := m.root.set (n / 4) (tabN m (n / 4) : Int), slots := tabL m (n / 4) (tableO m (n / 4)) }
theorem wo1_lone {m : ImgD} (hC : checkE m = 0) {n : Nat} (hr : n / 4 < m.root.length) (hl : inPl m (n / 4) = true) : wo1 m n = m := by
  have hs := checkE_shape hC
  obtain ⟨t, ht, t1, tl, _⟩ := inPl_spec hC hr hl
  have htn : tabN m (n / 4) = t := by unfold tabN; rw [if_pos hl, ht]; simp
  have hk : kd m.slots t = 2 := by
    have hm : (t : Int) ∈ flatR m := by rw [flatR_app, ← ht, getD_at hr]; exact List.mem_append_left _ (List.getElem_mem hr)
    exact (told_root hs hm t1).2.1
  have h1 : m.root.set (n / 4) (t : Int) = m.root := list_set_same (by rw [List.getElem?_eq_getElem hr, ← getD_at hr, ht])
  have h2 : tabL m (n / 4) (tableO m (n / 4)) = m.slots := by
    unfold tabL layS
    rw [htn, if_neg (by omega)]
    refine list_set_same ?_
    have e1 : tableO m (n / 4) = tabOf m.slots t := by unfold tableO; rw [ht, if_neg (by omega)]
    rw [e1, ← slot_tab hs hk, List.getElem?_eq_getElem tl, getD_atS tl]
  unfold wo1
  rw [htn, h1, h2]
theorem wo_facts {m : ImgD} (hC : checkE m = 0) {n : Nat} (hn : (n : Int) < m.guest) (h40 : tabN m (n / 4) ≠ 40) :
    1 ≤ (wo1 m n).slots.length ∧ (wo1 m n).slots.length ≤ 40 ∧ tabN m (n / 4) < (wo1 m n).slots.length ∧ 1 ≤ tabN m (n / 4) ∧ (wo1 m n).slots.getD (tabN m (n / 4)) default = (2, ⟨#[]⟩, tableO m (n / 4)) := by
  have hs := checkE_shape hC
  have hgt := guest_ok hs
  have hrt := root_ok hs
  have hr : n / 4 < m.root.length := by omega
  have hp := slotsE_parts (shapeE_zero hs).2.1
  obtain ⟨t1, tl, t40, tk, _⟩ := tabN_spec hC hr h40
  have hle := layS_le (s := ((2, ⟨#[]⟩, tableO m (n / 4)) : SlotD)) tl hp.2 t40
  refine ⟨?_, ?_, ?_, t1, ?_⟩
  · show 1 ≤ (tabL m (n / 4) (tableO m (n / 4))).length
    unfold tabL; omega
  · show (tabL m (n / 4) (tableO m (n / 4))).length ≤ 40
    unfold tabL; omega
  · show tabN m (n / 4) < (tabL m (n / 4) (tableO m (n / 4))).length
    unfold tabL; omega
  · show (tabL m (n / 4) (tableO m (n / 4))).getD _ default = _
    unfold tabL
    rw [layS_get tl, if_pos rfl]
/-- The image that is counted at the end. -/
theorem wo_end {m : ImgD} (hC : checkE m = 0) {n : Nat} (hn : (n : Int) < m.guest) (h40 : tabN m (n / 4) ≠ 40) (hd40 : wD m n ≠ 40) {page : ByteArray} (hp : page.size = 4) :
    wD m n ≤ (wo1 m n).slots.length ∧ 1 ≤ wD m n ∧ tabN m (n / 4) < (layS (wo1 m n).slots (wD m n) (1, page, [])).length ∧ (layS (wo1 m n).slots (wD m n) (1, page, [])).getD (tabN m (n / 4)) default = (2, ⟨#[]⟩, tableO m (n / 4)) ∧
      (layS (wo1 m n).slots (wD m n) (1, page, [])).set (tabN m (n / 4)) (2, ⟨#[]⟩, (tableO m (n / 4)).set (n % 4) (wD m n : Int)) = wL m n page := by
  obtain ⟨f1, f2, f3, f4, f5⟩ := wo_facts hC hn h40
  obtain ⟨hx, hl, hz, hk, d1, d40, hkd, hdt⟩ := write_ext hC hn h40 hd40 hp
  obtain ⟨t1, tl, t40, tk, _⟩ := tabN_spec hC hk h40
  have hdl : wD m n ≤ (wo1 m n).slots.length := (grabN_spec (L := (wo1 m n).slots) f1).2.1
  refine ⟨hdl, d1, ?_, ?_, ?_⟩
  · rw [layS_length]; split <;> omega
  · rw [layS_get hdl, if_neg (fun e => hdt e.symm)]; exact f5
  · rw [lay_set f3 (fun e => hdt e.symm)]
    unfold wL wEs
    congr 1
    exact lay_lay tl
theorem wo_counted {m : ImgD} (hC : checkE m = 0) {n : Nat} (hn : (n : Int) < m.guest) (h40 : tabN m (n / 4) ≠ 40) (hd40 : wD m n ≠ 40) {page : ByteArray} (hp : page.size = 4) :
    shapeE { m with root := m.root.set (n / 4) (tabN m (n / 4) : Int), slots := wL m n page, refs := rfZ (wL m n page) } = 0 := (write_laid hC hn h40 hd40 hp).1.shape
end Go.Proofs.Ytehleeibgkpjmac
/- Contract of the document's WriteOf: in place. -/
namespace Go.Proofs.Ytehleeibgkpjmac
open Go.RowKit Go.Shelf
set_option maxRecDepth 20000
set_option linter.unusedVariables false
set_option linter.unusedSimpArgs false

set_option maxHeartbeats 8000000 in
theorem wo_in (rb ro rc : Nat) (sa : Option Addr) (sc : Nat) (fb fo fc : Nat) (na : Option Addr) (nc : Nat) (m : ImgD) (n : Nat) (page : ByteArray) (w : World) (h : Img w (.agg #[.int .i64 m.guest, .slice (some ⟨rb, ro, none⟩) m.root.length rc, .slice sa m.slots.length sc, .slice (some ⟨fb, fo, none⟩) m.refs.length fc, .slice na m.snaps.length nc]) m) (hrc : ∀ j, j < m.root.length → w.cell? ⟨rb, ro + j, none⟩ = some (.int .i64 (m.root.getD j 0))) (hrl : rb < w.heap.size) (hfc : ∀ j, j < m.refs.length → w.cell? ⟨fb, fo + j, none⟩ = some (.int .i64 (m.refs.getD j 0))) (hfl : fb < w.heap.size) (hC : checkE m = 0) (hn : (n : Int) < m.guest) (hp : page.size = 4) (t : Nat) (ht : m.root.getD (n / 4) 0 = (t : Int)) (e : Int) (he : lookV m m.root n = e) (hin : ∃ en : Nat, 1 ≤ en ∧ e = (en : Int)) (hel : e.toNat < m.slots.length) (hrt1 : m.refs.getD t 0 = 1) (hre1 : m.refs.getD e.toNat 0 = 1) (hke : kd m.slots e.toNat = 1) (htbe : (m.slots.getD e.toNat default).2.2 = []) (M : ImgD) (hM : { m with slots := m.slots.set e.toNat (1, page, []) } = M) :
    Calls Try.prog 27 #[.agg #[.int .i64 m.guest, .slice (some ⟨rb, ro, none⟩) m.root.length rc, .slice sa m.slots.length sc, .slice (some ⟨fb, fo, none⟩) m.refs.length fc, .slice na m.snaps.length nc], .int .i64 (n : Int), .string page] w (AnsJ w M 0) := by
  have b0 : Below w.heap.size w ((w.alloc (.cells #[.int .i64 m.guest, .slice (some ⟨rb, ro, none⟩) m.root.length rc, .slice sa m.slots.length sc, .slice (some ⟨fb, fo, none⟩) m.refs.length fc, .slice na m.snaps.length nc] 26)).alloc (.cells #[.int .i64 0, .slice none 0 0, .slice none 0 0, .slice none 0 0, .slice none 0 0] 26)) := ((Below.refl _ _).alloc (Nat.le_refl _) _).alloc (by simp) _
  have m0 : ((w.alloc (.cells #[.int .i64 m.guest, .slice (some ⟨rb, ro, none⟩) m.root.length rc, .slice sa m.slots.length sc, .slice (some ⟨fb, fo, none⟩) m.refs.length fc, .slice na m.snaps.length nc] 26)).alloc (.cells #[.int .i64 0, .slice none 0 0, .slice none 0 0, .slice none 0 0, .slice none 0 0] 26)).heap[w.heap.size]? = some (.cells #[.int .i64 m.guest, .slice (some ⟨rb, ro, none⟩) m.root.length rc, .slice sa m.slots.length sc, .slice (some ⟨fb, fo, none⟩) m.refs.length fc, .slice na m.snaps.length nc] 26) := cells_alloc (World.alloc_heap_new _ _) _
  have m1 : ((w.alloc (.cells #[.int .i64 m.guest, .slice (some ⟨rb, ro, none⟩) m.root.length rc, .slice sa m.slots.length sc, .slice (some ⟨fb, fo, none⟩) m.refs.length fc, .slice na m.snaps.length nc] 26)).alloc (.cells #[.int .i64 0, .slice none 0 0, .slice none 0 0, .slice none 0 0, .slice none 0 0] 26)).heap[w.heap.size + 1]? = some (.cells #[.int .i64 0, .slice none 0 0, .slice none 0 0, .slice none 0 0, .slice none 0 0] 26) := by have := World.alloc_heap_new (w.alloc (.cells #[.int .i64 m.guest, .slice (some ⟨rb, ro, none⟩) m.root.length rc, .slice sa m.slots.length sc, .slice (some ⟨fb, fo, none⟩) m.refs.length fc, .slice na m.snaps.length nc] 26)) (.cells #[.int .i64 0, .slice none 0 0, .slice none 0 0, .slice none 0 0, .slice none 0 0] 26); simpa using this
  have hsz : w.heap.size + 1 < ((w.alloc (.cells #[.int .i64 m.guest, .slice (some ⟨rb, ro, none⟩) m.root.length rc, .slice sa m.slots.length sc, .slice (some ⟨fb, fo, none⟩) m.refs.length fc, .slice na m.snaps.length nc] 26)).alloc (.cells #[.int .i64 0, .slice none 0 0, .slice none 0 0, .slice none 0 0, .slice none 0 0] 26)).heap.size := by simp
  have hs := checkE_shape hC
  have hgt := guest_ok hs
  have hrt := root_ok hs
  have hr : n / 4 < m.root.length := by omega
  have htl : t < m.slots.length := by obtain ⟨t', ht', h'⟩ := root_nat hs hr; omega
  have hrf : m.refs.length = m.slots.length := (shapeE_zero hs).2.2.1
  have hlen : (tableO m (n / 4)).length = 4 := ckE_len (tableO_ok hs hr).1
  have I0 := h.below b0
  have hlk := lookErr_is I0 (n : Int) (lookE_of hC hn)
  have e4 : ((n / 4 : Nat) : Int) = (n : Int) / 4 := by omega
  have hq1 : ((n : Int) / 4).toNat = n / 4 := by omega
  have hq2 : ((n : Int) % 4).toNat = n % 4 := by omega
  have hri : (n : Int) / 4 < (m.root.length : Int) := by omega
  have h4 : n % 4 < 4 := by omega
  have h4i : (n : Int) % 4 < 4 := by omega
  have h16 : n < 16 := by omega
  have h0q : ¬ (n : Int) / 4 < 0 := by omega
  have h0r : ¬ (n : Int) % 4 < 0 := by omega
  have h0a : 0 ≤ (n : Int) / 4 := by omega
  have h0b : 0 ≤ (n : Int) % 4 := by omega
  have hpz : ((page.size : Int) != 4) = false := by rw [hp]; rfl
  have HR0 : Hid (((w.alloc (.cells #[.int .i64 m.guest, .slice (some ⟨rb, ro, none⟩) m.root.length rc, .slice sa m.slots.length sc, .slice (some ⟨fb, fo, none⟩) m.refs.length fc, .slice na m.snaps.length nc] 26)).alloc (.cells #[.int .i64 0, .slice none 0 0, .slice none 0 0, .slice none 0 0, .slice none 0 0] 26)).cell? ⟨rb, ro + n / 4, none⟩ = some (.int .i64 (t : Int)) ∧ rb < ((w.alloc (.cells #[.int .i64 m.guest, .slice (some ⟨rb, ro, none⟩) m.root.length rc, .slice sa m.slots.length sc, .slice (some ⟨fb, fo, none⟩) m.refs.length fc, .slice na m.snaps.length nc] 26)).alloc (.cells #[.int .i64 0, .slice none 0 0, .slice none 0 0, .slice none 0 0, .slice none 0 0] 26)).heap.size) := ⟨by rw [← ht]; exact (b0.cell (p := ⟨rb, ro + n / 4, none⟩) hrl).trans (hrc (n / 4) hr), Nat.lt_of_lt_of_le hrl b0.size⟩
  have HF0 : Hid (∀ j, j < m.refs.length → ((w.alloc (.cells #[.int .i64 m.guest, .slice (some ⟨rb, ro, none⟩) m.root.length rc, .slice sa m.slots.length sc, .slice (some ⟨fb, fo, none⟩) m.refs.length fc, .slice na m.snaps.length nc] 26)).alloc (.cells #[.int .i64 0, .slice none 0 0, .slice none 0 0, .slice none 0 0, .slice none 0 0] 26)).cell? ⟨fb, fo + j, none⟩ = some (.int .i64 (m.refs.getD j 0)) ∧ fb < ((w.alloc (.cells #[.int .i64 m.guest, .slice (some ⟨rb, ro, none⟩) m.root.length rc, .slice sa m.slots.length sc, .slice (some ⟨fb, fo, none⟩) m.refs.length fc, .slice na m.snaps.length nc] 26)).alloc (.cells #[.int .i64 0, .slice none 0 0, .slice none 0 0, .slice none 0 0, .slice none 0 0] 26)).heap.size) := fun j hj => ⟨(b0.cell (p := ⟨fb, fo + j, none⟩) hfl).trans (hfc j hj), Nat.lt_of_lt_of_le hfl b0.size⟩
  have HP : Hid (checkE m = 0 ∧ shapeE m = 0 ∧ m.root.getD (n / 4) 0 = (t : Int) ∧ lookV m m.root n = e ∧ (n : Int) < m.guest ∧ (tableO m (n / 4)).length = 4 ∧ m.refs.length = m.slots.length ∧ page.size = 4) := ⟨hC, hs, ht, he, hn, hlen, hrf, hp⟩
  clear h hrc hrl hfc hfl hC hs hgt hrt hn ht he hlen hrf hp
  have HM : Hid ({ m with slots := m.slots.set e.toNat ((m.slots.getD e.toNat default).1, page, (m.slots.getD e.toNat default).2.2) } = M) := by
    show _ = M
    rw [htbe, ← hM]
    unfold kd at hke
    rw [hke]
  clear hM hke htbe
  go_enter Try.func27, Try.ntmps27
  obtain ⟨c0, c1, c2, c3, c4⟩ := five m0
  go_wp2_with (go_at_call 17; refine hlk.mono ?_; rintro e1 w1 ⟨rfl, b1⟩)
  clear c0 c1 c2 c3 c4
  have hz1 : w.heap.size + 1 < w1.heap.size := Nat.lt_of_lt_of_le hsz b1.size
  have n0 := cells_below m0 b1 (by omega)
  have n1 := cells_below m1 b1 hsz
  have I1 := I0.below b1
  have bw : Below w.heap.size w w1 := Below.on b0 b1
  have cR : w1.cell? ⟨rb, ro + n / 4, none⟩ = some (.int .i64 (t : Int)) := (b1.cell (p := ⟨rb, ro + n / 4, none⟩) HR0.out.2).trans HR0.out.1
  have rl1 : rb < w1.heap.size := Nat.lt_of_lt_of_le HR0.out.2 b1.size
  have HF : Hid (∀ j, j < m.refs.length → w1.cell? ⟨fb, fo + j, none⟩ = some (.int .i64 (m.refs.getD j 0)) ∧ fb < w1.heap.size) := fun j hj => ⟨(b1.cell (p := ⟨fb, fo + j, none⟩) (HF0.out j hj).2).trans (HF0.out j hj).1, Nat.lt_of_lt_of_le (HF0.out j hj).2 b1.size⟩
  have HLk : Hid (∀ W, Below w1.heap.size w1 W → Calls Try.prog 50 #[.agg #[.int .i64 m.guest, .slice (some ⟨rb, ro, none⟩) m.root.length rc, .slice sa m.slots.length sc, .slice (some ⟨fb, fo, none⟩) m.refs.length fc, .slice na m.snaps.length nc], .int .i64 (n : Int)] W fun r w' => r = .returned (.int .i64 e) ∧ Below W.heap.size W w') := fun W hW => lookOf_is (I1.below hW) (n : Int) (lookE_of HP.out.1 HP.out.2.2.2.2.1) (by rw [Int.toNat_natCast]; exact HP.out.2.2.2.1)
  have HOw : Hid (∀ W, Below w1.heap.size w1 W → Calls Try.prog 60 #[.agg #[.int .i64 m.guest, .slice (some ⟨rb, ro, none⟩) m.root.length rc, .slice sa m.slots.length sc, .slice (some ⟨fb, fo, none⟩) m.refs.length fc, .slice na m.snaps.length nc]] W fun r w' => ∃ val, r = .returned (imgV m.guest val) ∧ OX w' W.heap.size val m ∧ Below W.heap.size W w') := fun W hW => ownImage_is (I1.below hW) HP.out.2.1
  have HTb : Hid (∀ W, Below w1.heap.size w1 W → Calls Try.prog 63 #[.agg #[.int .i64 m.guest, .slice (some ⟨rb, ro, none⟩) m.root.length rc, .slice sa m.slots.length sc, .slice (some ⟨fb, fo, none⟩) m.refs.length fc, .slice na m.snaps.length nc], .int .i64 (t : Int)] W fun r w' => ∃ g cap, r = .returned (.slice (some ⟨g, 0, none⟩) 4 cap) ∧ w'.ownsRow W.heap.size 3 1 (.slice (some ⟨g, 0, none⟩) 4 cap) 4 (ints (tableO m (n / 4))) ∧ W.heap.size ≤ g ∧ Below W.heap.size W w') := fun W hW => by
    have e := tabAt_O HP.out.2.2.1
    refine (tableOf_is (I1.below hW) htl (by rw [e, HP.out.2.2.2.2.2.1]; decide)).mono ?_
    rintro r w' ⟨v, rfl, h1, h2, h3⟩
    rw [e, HP.out.2.2.2.2.2.1] at h1
    obtain ⟨g, cap, rfl⟩ := row_some h1
    exact ⟨g, cap, rfl, h1, h2 g rfl, h3⟩
  clear b0 b1 m0 m1 I0 I1 HR0 HF0 hlk hsz
  refine wp_region_held_drew (S := (fun X : World => X.heap[w.heap.size]? = some (.cells #[.int .i64 m.guest, .slice (some ⟨rb, ro, none⟩) m.root.length rc, .slice sa m.slots.length sc, .slice (some ⟨fb, fo, none⟩) m.refs.length fc, .slice na m.snaps.length nc] 26) ∧ X.cell? ⟨rb, ro + n / 4, none⟩ = some (.int .i64 (t : Int)))) (by kernel_rfl) ⟨n0, cR⟩ (fun hHeld => ?_)
  refine wpAnyH_take (i := 0) (v := .pointer (some ⟨w.heap.size, 1, none⟩)) rfl (by kernel_rfl) (by kernel_rfl) (by kernel_rfl) (fun _ _ _ h => h) (Or.inl ⟨by rfl, fun w' hSw => by obtain ⟨qa, qb⟩ := hSw; obtain ⟨j0, j1, j2, j3, j4⟩ := five qa; go_simp⟩) hHeld ?_
  simp only [Act.put, List.getElem_toArray, List.getElem_cons_succ, List.getElem_cons_zero, List.setIfInBounds_toArray, List.set_cons_zero, List.set_cons_succ]
  refine wpAnyH_take (i := 1) (v := .slice (some ⟨rb, ro, none⟩) m.root.length rc) rfl (by kernel_rfl) (by kernel_rfl) (by kernel_rfl) (fun _ _ _ h => h) (Or.inl ⟨by rfl, fun w' hSw => by obtain ⟨qa, qb⟩ := hSw; obtain ⟨j0, j1, j2, j3, j4⟩ := five qa; go_simp⟩) hHeld ?_
  simp only [Act.put, List.getElem_toArray, List.getElem_cons_succ, List.getElem_cons_zero, List.setIfInBounds_toArray, List.set_cons_zero, List.set_cons_succ]
  refine wpAnyH_take (i := 2) (v := .int .i64 ((n : Int) / 4)) rfl (by kernel_rfl) (by kernel_rfl) (by kernel_rfl) (fun _ _ _ h => h) (Or.inl ⟨by rfl, fun w' hSw => by obtain ⟨qa, qb⟩ := hSw; obtain ⟨j0, j1, j2, j3, j4⟩ := five qa; go_simp⟩) hHeld ?_
  simp only [Act.put, List.getElem_toArray, List.getElem_cons_succ, List.getElem_cons_zero, List.setIfInBounds_toArray, List.set_cons_zero, List.set_cons_succ]
  refine wpAnyH_take (i := 3) (v := .pointer (some ⟨rb, ro + n / 4, none⟩)) rfl (by kernel_rfl) (by kernel_rfl) (by kernel_rfl) (fun _ _ _ h => h) (Or.inl ⟨by rfl, fun w' hSw => by obtain ⟨qa, qb⟩ := hSw; obtain ⟨j0, j1, j2, j3, j4⟩ := five qa; go_simp⟩) hHeld ?_
  simp only [Act.put, List.getElem_toArray, List.getElem_cons_succ, List.getElem_cons_zero, List.setIfInBounds_toArray, List.set_cons_zero, List.set_cons_succ]
  refine wpAnyH_take (i := 4) (v := .int .i64 (t : Int)) rfl (by kernel_rfl) (by kernel_rfl) (by kernel_rfl) (fun _ _ _ h => h) (Or.inl ⟨by rfl, fun w' hSw => by obtain ⟨qa, qb⟩ := hSw; obtain ⟨j0, j1, j2, j3, j4⟩ := five qa; go_simp⟩) hHeld ?_
  simp only [Act.put, List.getElem_toArray, List.getElem_cons_succ, List.getElem_cons_zero, List.setIfInBounds_toArray, List.set_cons_zero, List.set_cons_succ]
  refine wpAnyH_take (i := 5) (v := .agg #[.int .i64 m.guest, .slice (some ⟨rb, ro, none⟩) m.root.length rc, .slice sa m.slots.length sc, .slice (some ⟨fb, fo, none⟩) m.refs.length fc, .slice na m.snaps.length nc]) rfl (by kernel_rfl) (by kernel_rfl) (by kernel_rfl) (fun _ _ _ h => h) (Or.inl ⟨by rfl, fun w' hSw => by obtain ⟨qa, qb⟩ := hSw; obtain ⟨j0, j1, j2, j3, j4⟩ := five qa; go_simp⟩) hHeld ?_
  simp only [Act.put, List.getElem_toArray, List.getElem_cons_succ, List.getElem_cons_zero, List.setIfInBounds_toArray, List.set_cons_zero, List.set_cons_succ]
  refine wpAnyH_take (i := 6) (v := .int .i64 (n : Int)) rfl (by kernel_rfl) (by kernel_rfl) (by kernel_rfl) (fun _ _ _ h => h) (Or.inl ⟨by rfl, fun w' hSw => by obtain ⟨qa, qb⟩ := hSw; obtain ⟨j0, j1, j2, j3, j4⟩ := five qa; go_simp⟩) hHeld ?_
  simp only [Act.put, List.getElem_toArray, List.getElem_cons_succ, List.getElem_cons_zero, List.setIfInBounds_toArray, List.set_cons_zero, List.set_cons_succ]
  refine wpAnyH_ready (rs := [7]) (by kernel_rfl) (by simp) ?_
  refine AllReadyH.cons rfl (fun K hK => ?_) AllReadyH.nil
  clear hHeld
  simp only [Act.put, List.getElem_toArray, List.getElem_cons_succ, List.getElem_cons_zero, List.setIfInBounds_toArray, List.set_cons_zero, List.set_cons_succ]
  rw [if_pos (by rfl)]
  go_wp2_with (go_at_call 50; refine (HLk.out _ (to_drew (Below.refl _ _))).mono ?_; rintro e2 w2 ⟨rfl, b2⟩)
  have b2 : Below w1.heap.size w1 w2 := below_drew b2
  have k0 := cells_below n0 b2 (by omega)
  have cR2 := (b2.cell (p := ⟨rb, ro + n / 4, none⟩) rl1).trans cR
  refine hK.out _ _ ⟨k0, cR2⟩ (fun hHeld => ?_)
  clear hK K
  try simp only [Act.put, List.getElem_toArray, List.getElem_cons_succ, List.getElem_cons_zero, List.setIfInBounds_toArray, List.set_cons_zero, List.set_cons_succ]
  refine wpAnyH_take (i := 8) (v := .int .i64 (t : Int)) rfl (by kernel_rfl) (by kernel_rfl) (by kernel_rfl) (fun _ _ _ h => h) (Or.inl ⟨by rfl, fun w' hSw => by go_simp⟩) hHeld ?_
  simp only [Act.put, List.getElem_toArray, List.getElem_cons_succ, List.getElem_cons_zero, List.setIfInBounds_toArray, List.set_cons_zero, List.set_cons_succ]
  refine wpAnyH_take (i := 9) (v := .int .i64 e) rfl (by kernel_rfl) (by kernel_rfl) (by kernel_rfl) (fun _ _ _ h => h) (Or.inl ⟨by rfl, fun w' hSw => by go_simp⟩) hHeld ?_
  simp only [Act.put, List.getElem_toArray, List.getElem_cons_succ, List.getElem_cons_zero, List.setIfInBounds_toArray, List.set_cons_zero, List.set_cons_succ]
  clear hHeld
  refine wpAnyH_done (by kernel_rfl) ?_ _
  obtain ⟨c0, c1, c2, c3, c4⟩ := five k0
  go_upto_region 9 with (go_at_call 60; refine (HOw.out w2 b2).mono ?_; rintro e3 w3 ⟨val, rfl, hO, b3⟩; obtain ⟨p0, q0, p1, q1, p2, q2, p3, q3, x0, x1, x2, x3⟩ := hO.four'; unfold imgV; rw [x0, x1, x2, x3])
  have s2 := b2.size
  have s3 := b3.size
  have HD0 : Hid (OwR w1 (w3.alloc (.cells #[.int .i64 m.guest, .slice p0 m.root.length q0, .slice p1 m.slots.length q1, .slice p2 m.refs.length q2, .slice p3 m.snaps.length q3] 26)) w3.heap.size m) := ⟨⟨val, (hO.mono s2).alloc _, by rw [x0, x1, x2, x3]; exact World.alloc_heap_new _ _, hO.lt (Nat.le_refl _)⟩, by omega, (b2.trans (b3.mono s2)).alloc (by omega) _⟩
  clear hO x0 x1 x2 x3 c0 c1 c2 c3 c4 k0 cR2 HLk HOw
  have M0 := cells_below n0 HD0.out.bel (by omega)
  obtain ⟨c0, c1, c2, c3, c4⟩ := five M0
  have HF3 : Hid (∀ j, j < m.refs.length → (w3.alloc (.cells #[.int .i64 m.guest, .slice p0 m.root.length q0, .slice p1 m.slots.length q1, .slice p2 m.refs.length q2, .slice p3 m.snaps.length q3] 26)).cell? ⟨fb, fo + j, none⟩ = some (.int .i64 (m.refs.getD j 0))) := fun j hj => (HD0.out.bel.cell (p := ⟨fb, fo + j, none⟩) (HF.out j hj).2).trans (HF.out j hj).1
  clear b2 b3 M0
  have hDw : w1.heap.size ≤ w3.heap.size := HD0.out.ge
  go_cut [54] from 14 (fun s wx => s = .bool true ∧ Hid (OwR w1 wx w3.heap.size m))
  case first =>
    obtain ⟨en, e1, rfl⟩ : ∃ en : Nat, 1 ≤ en ∧ e = (en : Int) := hin; rw [Int.toNat_natCast] at hel hre1
    have g1 : decide (0 < (en : Int)) = true := by simp; omega
    have ct := HF3.out t (by have := HP.out.2.2.2.2.2.2.1; omega)
    rw [hrt1] at ct
    have ce := HF3.out en (by have := HP.out.2.2.2.2.2.2.1; omega)
    rw [hre1] at ce
    have l1 : (t : Int) < (m.refs.length : Int) := by have := HP.out.2.2.2.2.2.2.1; omega
    have l2 : (en : Int) < (m.refs.length : Int) := by have := HP.out.2.2.2.2.2.2.1; omega
    go_wp2_with fail; go_meet; exact ⟨rfl, HD0⟩
  case rest =>
  obtain ⟨rfl, HD1⟩ := hcut
  clear HD0 HF3 c0 c1 c2 c3 c4
  obtain ⟨wa, hwa⟩ : ∃ X, X = wc := ⟨_, rfl⟩
  subst hwa
  go_upto_region 10 with fail
  obtain ⟨en, e1, rfl⟩ : ∃ en : Nat, 1 ≤ en ∧ e = (en : Int) := hin
  rw [Int.toNat_natCast] at hel HM
  go_cut [] from 14 (fun wx => Hid (OwR w1 wx w3.heap.size M))
  case first =>
    obtain ⟨val, hX, hbox, hfar⟩ := HD1.out.ex
    have hbel := HD1.out.bel
    obtain ⟨p0, q0, p1, q1, p2, q2, p3, q3, x0, x1, x2, x3⟩ := hX.four'
    have hbx := hbox
    rw [x0, x1, x2, x3] at hbx
    obtain ⟨d0, d1, d2, d3, d4⟩ := five hbx
    obtain ⟨ao, cap, xs, hg⟩ := hX.forms .slots (LiveX.slots m)
    obtain ⟨sg, rfl⟩ := hg (by show 0 < m.slots.length; omega)
    rw [x1] at xs
    simp only [Value.slice.injEq] at xs
    obtain ⟨rfl, _, _⟩ := xs
    have hrow := hX.row .slots (LiveX.slots m)
    rw [x1] at hrow
    have hrow : wa.ownsRow w1.heap.size 33 3 (.slice (some ⟨sg, 0, none⟩) m.slots.length q1) m.slots.length (flatS m.slots (fun j => val (.tab j))) := hrow
    have hcl := (hrow.cellAt (en * 3 + 1) (by omega)).trans (flatS_get hel).2.1
    have hfz := hrow.frozenAt (en * 3 + 1)
    have l2 : (en : Int) < (m.slots.length : Int) := by omega
    go_wp2_with fail
    go_meet
    rw [← HM.out]
    exact ow_page hX hbel hbox HD1.out.ge hfar x1 hel page
  case rest =>
  have HD9 : Hid (OwR w1 wc w3.heap.size M) := hcut
  clear hcut HD1
  obtain ⟨val, hX, hbox, hfar⟩ := HD9.out.ex
  have hbel := HD9.out.bel
  obtain ⟨p0, q0, p1, q1, p2, q2, p3, q3, x0, x1, x2, x3⟩ := hX.four'
  have hbx := hbox
  rw [x0, x1, x2, x3] at hbx
  obtain ⟨d0, d1, d2, d3, d4⟩ := five hbx
  have z9 := cells_below n1 hbel hz1
  obtain ⟨z0, z1, z2, z3, z4⟩ := five z9
  have y0 := cells_frozen z9 0; have y1 := cells_frozen z9 1; have y2 := cells_frozen z9 2; have y3 := cells_frozen z9 3; have y4 := cells_frozen z9 4
  have nD1 : ¬ w3.heap.size = w.heap.size + 1 := by omega
  have nD2 : ¬ w.heap.size + 1 = w3.heap.size := by omega
  go_wp2_with fail
  have hfr : ∀ a, LiveX M a → (val a).ownBlock ≠ some (w.heap.size + 1) := fun a ha e => by
    have := ((hX.row a ha).lt _ e).1
    omega
  have hI := fun a0 a1 a2 a3 a4 => hX.five hfr a0 a1 a2 a3 a4
  have eI : imgV M.guest val = .agg #[.int .i64 M.guest, .slice p0 M.root.length q0, .slice p1 M.slots.length q1, .slice p2 M.refs.length q2, .slice p3 M.snaps.length q3] := by unfold imgV; rw [x0, x1, x2, x3]
  refine bodyPost_ret (v := .tuple #[.agg #[.int .i64 M.guest, .slice p0 M.root.length q0, .slice p1 M.slots.length q1, .slice p2 M.refs.length q2, .slice p3 M.snaps.length q3], .int .i64 0]) (by simp [results, Try.results27, go_sem, z0, z1, z2, z3, z4]) rfl ⟨p0, q0, p1, q1, p2, q2, p3, q3, rfl, fun W' hW => (by have := ((hI _ _ _ _ _).keep (fun q hq _ => hW q (by omega))).img; rw [eI] at this; exact this), below_five (Below.on bw hbel) (Nat.le_succ _) _ _ _ _ _⟩
end Go.Proofs.Ytehleeibgkpjmac
/- Contract of the document's WriteOf: no slot is left for the table. -/
namespace Go.Proofs.Ytehleeibgkpjmac
open Go.RowKit Go.Shelf
set_option maxRecDepth 20000
set_option linter.unusedVariables false
set_option linter.unusedSimpArgs false

set_option maxHeartbeats 8000000 in
theorem wo_f1 (rb ro rc : Nat) (sa : Option Addr) (sc : Nat) (fb fo fc : Nat) (na : Option Addr) (nc : Nat) (m : ImgD) (n : Nat) (page : ByteArray) (w : World) (h : Img w (.agg #[.int .i64 m.guest, .slice (some ⟨rb, ro, none⟩) m.root.length rc, .slice sa m.slots.length sc, .slice (some ⟨fb, fo, none⟩) m.refs.length fc, .slice na m.snaps.length nc]) m) (hrc : ∀ j, j < m.root.length → w.cell? ⟨rb, ro + j, none⟩ = some (.int .i64 (m.root.getD j 0))) (hrl : rb < w.heap.size) (hfc : ∀ j, j < m.refs.length → w.cell? ⟨fb, fo + j, none⟩ = some (.int .i64 (m.refs.getD j 0))) (hfl : fb < w.heap.size) (hC : checkE m = 0) (hn : (n : Int) < m.guest) (hp : page.size = 4) (t : Nat) (ht : m.root.getD (n / 4) 0 = (t : Int)) (e : Int) (he : lookV m m.root n = e) (hnot : 0 < e → 1 ≤ t) (hmany : 1 ≤ t → 1 < m.refs.getD t 0) (hg : grabN m.slots = 40) :
    Calls Try.prog 27 #[.agg #[.int .i64 m.guest, .slice (some ⟨rb, ro, none⟩) m.root.length rc, .slice sa m.slots.length sc, .slice (some ⟨fb, fo, none⟩) m.refs.length fc, .slice na m.snaps.length nc], .int .i64 (n : Int), .string page] w (AnsJ w imgZ 7) := by
  have b0 : Below w.heap.size w ((w.alloc (.cells #[.int .i64 m.guest, .slice (some ⟨rb, ro, none⟩) m.root.length rc, .slice sa m.slots.length sc, .slice (some ⟨fb, fo, none⟩) m.refs.length fc, .slice na m.snaps.length nc] 26)).alloc (.cells #[.int .i64 0, .slice none 0 0, .slice none 0 0, .slice none 0 0, .slice none 0 0] 26)) := ((Below.refl _ _).alloc (Nat.le_refl _) _).alloc (by simp) _
  have m0 : ((w.alloc (.cells #[.int .i64 m.guest, .slice (some ⟨rb, ro, none⟩) m.root.length rc, .slice sa m.slots.length sc, .slice (some ⟨fb, fo, none⟩) m.refs.length fc, .slice na m.snaps.length nc] 26)).alloc (.cells #[.int .i64 0, .slice none 0 0, .slice none 0 0, .slice none 0 0, .slice none 0 0] 26)).heap[w.heap.size]? = some (.cells #[.int .i64 m.guest, .slice (some ⟨rb, ro, none⟩) m.root.length rc, .slice sa m.slots.length sc, .slice (some ⟨fb, fo, none⟩) m.refs.length fc, .slice na m.snaps.length nc] 26) := cells_alloc (World.alloc_heap_new _ _) _
  have m1 : ((w.alloc (.cells #[.int .i64 m.guest, .slice (some ⟨rb, ro, none⟩) m.root.length rc, .slice sa m.slots.length sc, .slice (some ⟨fb, fo, none⟩) m.refs.length fc, .slice na m.snaps.length nc] 26)).alloc (.cells #[.int .i64 0, .slice none 0 0, .slice none 0 0, .slice none 0 0, .slice none 0 0] 26)).heap[w.heap.size + 1]? = some (.cells #[.int .i64 0, .slice none 0 0, .slice none 0 0, .slice none 0 0, .slice none 0 0] 26) := by have := World.alloc_heap_new (w.alloc (.cells #[.int .i64 m.guest, .slice (some ⟨rb, ro, none⟩) m.root.length rc, .slice sa m.slots.length sc, .slice (some ⟨fb, fo, none⟩) m.refs.length fc, .slice na m.snaps.length nc] 26)) (.cells #[.int .i64 0, .slice none 0 0, .slice none 0 0, .slice none 0 0, .slice none 0 0] 26); simpa using this
  have hsz : w.heap.size + 1 < ((w.alloc (.cells #[.int .i64 m.guest, .slice (some ⟨rb, ro, none⟩) m.root.length rc, .slice sa m.slots.length sc, .slice (some ⟨fb, fo, none⟩) m.refs.length fc, .slice na m.snaps.length nc] 26)).alloc (.cells #[.int .i64 0, .slice none 0 0, .slice none 0 0, .slice none 0 0, .slice none 0 0] 26)).heap.size := by simp
  have hs := checkE_shape hC
  have hgt := guest_ok hs
  have hrt := root_ok hs
  have hr : n / 4 < m.root.length := by omega
  have htl : t < m.slots.length := by obtain ⟨t', ht', h'⟩ := root_nat hs hr; omega
  have hrf : m.refs.length = m.slots.length := (shapeE_zero hs).2.2.1
  have hlen : (tableO m (n / 4)).length = 4 := ckE_len (tableO_ok hs hr).1
  have I0 := h.below b0
  have hlk := lookErr_is I0 (n : Int) (lookE_of hC hn)
  have e4 : ((n / 4 : Nat) : Int) = (n : Int) / 4 := by omega
  have hq1 : ((n : Int) / 4).toNat = n / 4 := by omega
  have hq2 : ((n : Int) % 4).toNat = n % 4 := by omega
  have hri : (n : Int) / 4 < (m.root.length : Int) := by omega
  have h4 : n % 4 < 4 := by omega
  have h4i : (n : Int) % 4 < 4 := by omega
  have h16 : n < 16 := by omega
  have h0q : ¬ (n : Int) / 4 < 0 := by omega
  have h0r : ¬ (n : Int) % 4 < 0 := by omega
  have h0a : 0 ≤ (n : Int) / 4 := by omega
  have h0b : 0 ≤ (n : Int) % 4 := by omega
  have hpz : ((page.size : Int) != 4) = false := by rw [hp]; rfl
  have HR0 : Hid (((w.alloc (.cells #[.int .i64 m.guest, .slice (some ⟨rb, ro, none⟩) m.root.length rc, .slice sa m.slots.length sc, .slice (some ⟨fb, fo, none⟩) m.refs.length fc, .slice na m.snaps.length nc] 26)).alloc (.cells #[.int .i64 0, .slice none 0 0, .slice none 0 0, .slice none 0 0, .slice none 0 0] 26)).cell? ⟨rb, ro + n / 4, none⟩ = some (.int .i64 (t : Int)) ∧ rb < ((w.alloc (.cells #[.int .i64 m.guest, .slice (some ⟨rb, ro, none⟩) m.root.length rc, .slice sa m.slots.length sc, .slice (some ⟨fb, fo, none⟩) m.refs.length fc, .slice na m.snaps.length nc] 26)).alloc (.cells #[.int .i64 0, .slice none 0 0, .slice none 0 0, .slice none 0 0, .slice none 0 0] 26)).heap.size) := ⟨by rw [← ht]; exact (b0.cell (p := ⟨rb, ro + n / 4, none⟩) hrl).trans (hrc (n / 4) hr), Nat.lt_of_lt_of_le hrl b0.size⟩
  have HF0 : Hid (∀ j, j < m.refs.length → ((w.alloc (.cells #[.int .i64 m.guest, .slice (some ⟨rb, ro, none⟩) m.root.length rc, .slice sa m.slots.length sc, .slice (some ⟨fb, fo, none⟩) m.refs.length fc, .slice na m.snaps.length nc] 26)).alloc (.cells #[.int .i64 0, .slice none 0 0, .slice none 0 0, .slice none 0 0, .slice none 0 0] 26)).cell? ⟨fb, fo + j, none⟩ = some (.int .i64 (m.refs.getD j 0)) ∧ fb < ((w.alloc (.cells #[.int .i64 m.guest, .slice (some ⟨rb, ro, none⟩) m.root.length rc, .slice sa m.slots.length sc, .slice (some ⟨fb, fo, none⟩) m.refs.length fc, .slice na m.snaps.length nc] 26)).alloc (.cells #[.int .i64 0, .slice none 0 0, .slice none 0 0, .slice none 0 0, .slice none 0 0] 26)).heap.size) := fun j hj => ⟨(b0.cell (p := ⟨fb, fo + j, none⟩) hfl).trans (hfc j hj), Nat.lt_of_lt_of_le hfl b0.size⟩
  have HP : Hid (checkE m = 0 ∧ shapeE m = 0 ∧ m.root.getD (n / 4) 0 = (t : Int) ∧ lookV m m.root n = e ∧ (n : Int) < m.guest ∧ (tableO m (n / 4)).length = 4 ∧ m.refs.length = m.slots.length ∧ page.size = 4) := ⟨hC, hs, ht, he, hn, hlen, hrf, hp⟩
  clear h hrc hrl hfc hfl hC hs hgt hrt hn ht he hlen hrf hp
  have HG : Hid (grabN m.slots = 40 ∧ 1 ≤ m.slots.length ∧ m.slots.length ≤ 40) := ⟨hg, slotsE_parts (shapeE_zero HP.out.2.1).2.1⟩
  clear hg
  go_enter Try.func27, Try.ntmps27
  obtain ⟨c0, c1, c2, c3, c4⟩ := five m0
  go_wp2_with (go_at_call 17; refine hlk.mono ?_; rintro e1 w1 ⟨rfl, b1⟩)
  clear c0 c1 c2 c3 c4
  have hz1 : w.heap.size + 1 < w1.heap.size := Nat.lt_of_lt_of_le hsz b1.size
  have n0 := cells_below m0 b1 (by omega)
  have n1 := cells_below m1 b1 hsz
  have I1 := I0.below b1
  have bw : Below w.heap.size w w1 := Below.on b0 b1
  have cR : w1.cell? ⟨rb, ro + n / 4, none⟩ = some (.int .i64 (t : Int)) := (b1.cell (p := ⟨rb, ro + n / 4, none⟩) HR0.out.2).trans HR0.out.1
  have rl1 : rb < w1.heap.size := Nat.lt_of_lt_of_le HR0.out.2 b1.size
  have HF : Hid (∀ j, j < m.refs.length → w1.cell? ⟨fb, fo + j, none⟩ = some (.int .i64 (m.refs.getD j 0)) ∧ fb < w1.heap.size) := fun j hj => ⟨(b1.cell (p := ⟨fb, fo + j, none⟩) (HF0.out j hj).2).trans (HF0.out j hj).1, Nat.lt_of_lt_of_le (HF0.out j hj).2 b1.size⟩
  have HLk : Hid (∀ W, Below w1.heap.size w1 W → Calls Try.prog 50 #[.agg #[.int .i64 m.guest, .slice (some ⟨rb, ro, none⟩) m.root.length rc, .slice sa m.slots.length sc, .slice (some ⟨fb, fo, none⟩) m.refs.length fc, .slice na m.snaps.length nc], .int .i64 (n : Int)] W fun r w' => r = .returned (.int .i64 e) ∧ Below W.heap.size W w') := fun W hW => lookOf_is (I1.below hW) (n : Int) (lookE_of HP.out.1 HP.out.2.2.2.2.1) (by rw [Int.toNat_natCast]; exact HP.out.2.2.2.1)
  have HOw : Hid (∀ W, Below w1.heap.size w1 W → Calls Try.prog 60 #[.agg #[.int .i64 m.guest, .slice (some ⟨rb, ro, none⟩) m.root.length rc, .slice sa m.slots.length sc, .slice (some ⟨fb, fo, none⟩) m.refs.length fc, .slice na m.snaps.length nc]] W fun r w' => ∃ val, r = .returned (imgV m.guest val) ∧ OX w' W.heap.size val m ∧ Below W.heap.size W w') := fun W hW => ownImage_is (I1.below hW) HP.out.2.1
  have HTb : Hid (∀ W, Below w1.heap.size w1 W → Calls Try.prog 63 #[.agg #[.int .i64 m.guest, .slice (some ⟨rb, ro, none⟩) m.root.length rc, .slice sa m.slots.length sc, .slice (some ⟨fb, fo, none⟩) m.refs.length fc, .slice na m.snaps.length nc], .int .i64 (t : Int)] W fun r w' => ∃ g cap, r = .returned (.slice (some ⟨g, 0, none⟩) 4 cap) ∧ w'.ownsRow W.heap.size 3 1 (.slice (some ⟨g, 0, none⟩) 4 cap) 4 (ints (tableO m (n / 4))) ∧ W.heap.size ≤ g ∧ Below W.heap.size W w') := fun W hW => by
    have e := tabAt_O HP.out.2.2.1
    refine (tableOf_is (I1.below hW) htl (by rw [e, HP.out.2.2.2.2.2.1]; decide)).mono ?_
    rintro r w' ⟨v, rfl, h1, h2, h3⟩
    rw [e, HP.out.2.2.2.2.2.1] at h1
    obtain ⟨g, cap, rfl⟩ := row_some h1
    exact ⟨g, cap, rfl, h1, h2 g rfl, h3⟩
  clear b0 b1 m0 m1 I0 I1 HR0 HF0 hlk hsz
  refine wp_region_held_drew (S := (fun X : World => X.heap[w.heap.size]? = some (.cells #[.int .i64 m.guest, .slice (some ⟨rb, ro, none⟩) m.root.length rc, .slice sa m.slots.length sc, .slice (some ⟨fb, fo, none⟩) m.refs.length fc, .slice na m.snaps.length nc] 26) ∧ X.cell? ⟨rb, ro + n / 4, none⟩ = some (.int .i64 (t : Int)))) (by kernel_rfl) ⟨n0, cR⟩ (fun hHeld => ?_)
  refine wpAnyH_take (i := 0) (v := .pointer (some ⟨w.heap.size, 1, none⟩)) rfl (by kernel_rfl) (by kernel_rfl) (by kernel_rfl) (fun _ _ _ h => h) (Or.inl ⟨by rfl, fun w' hSw => by obtain ⟨qa, qb⟩ := hSw; obtain ⟨j0, j1, j2, j3, j4⟩ := five qa; go_simp⟩) hHeld ?_
  simp only [Act.put, List.getElem_toArray, List.getElem_cons_succ, List.getElem_cons_zero, List.setIfInBounds_toArray, List.set_cons_zero, List.set_cons_succ]
  refine wpAnyH_take (i := 1) (v := .slice (some ⟨rb, ro, none⟩) m.root.length rc) rfl (by kernel_rfl) (by kernel_rfl) (by kernel_rfl) (fun _ _ _ h => h) (Or.inl ⟨by rfl, fun w' hSw => by obtain ⟨qa, qb⟩ := hSw; obtain ⟨j0, j1, j2, j3, j4⟩ := five qa; go_simp⟩) hHeld ?_
  simp only [Act.put, List.getElem_toArray, List.getElem_cons_succ, List.getElem_cons_zero, List.setIfInBounds_toArray, List.set_cons_zero, List.set_cons_succ]
  refine wpAnyH_take (i := 2) (v := .int .i64 ((n : Int) / 4)) rfl (by kernel_rfl) (by kernel_rfl) (by kernel_rfl) (fun _ _ _ h => h) (Or.inl ⟨by rfl, fun w' hSw => by obtain ⟨qa, qb⟩ := hSw; obtain ⟨j0, j1, j2, j3, j4⟩ := five qa; go_simp⟩) hHeld ?_
  simp only [Act.put, List.getElem_toArray, List.getElem_cons_succ, List.getElem_cons_zero, List.setIfInBounds_toArray, List.set_cons_zero, List.set_cons_succ]
  refine wpAnyH_take (i := 3) (v := .pointer (some ⟨rb, ro + n / 4, none⟩)) rfl (by kernel_rfl) (by kernel_rfl) (by kernel_rfl) (fun _ _ _ h => h) (Or.inl ⟨by rfl, fun w' hSw => by obtain ⟨qa, qb⟩ := hSw; obtain ⟨j0, j1, j2, j3, j4⟩ := five qa; go_simp⟩) hHeld ?_
  simp only [Act.put, List.getElem_toArray, List.getElem_cons_succ, List.getElem_cons_zero, List.setIfInBounds_toArray, List.set_cons_zero, List.set_cons_succ]
  refine wpAnyH_take (i := 4) (v := .int .i64 (t : Int)) rfl (by kernel_rfl) (by kernel_rfl) (by kernel_rfl) (fun _ _ _ h => h) (Or.inl ⟨by rfl, fun w' hSw => by obtain ⟨qa, qb⟩ := hSw; obtain ⟨j0, j1, j2, j3, j4⟩ := five qa; go_simp⟩) hHeld ?_
  simp only [Act.put, List.getElem_toArray, List.getElem_cons_succ, List.getElem_cons_zero, List.setIfInBounds_toArray, List.set_cons_zero, List.set_cons_succ]
  refine wpAnyH_take (i := 5) (v := .agg #[.int .i64 m.guest, .slice (some ⟨rb, ro, none⟩) m.root.length rc, .slice sa m.slots.length sc, .slice (some ⟨fb, fo, none⟩) m.refs.length fc, .slice na m.snaps.length nc]) rfl (by kernel_rfl) (by kernel_rfl) (by kernel_rfl) (fun _ _ _ h => h) (Or.inl ⟨by rfl, fun w' hSw => by obtain ⟨qa, qb⟩ := hSw; obtain ⟨j0, j1, j2, j3, j4⟩ := five qa; go_simp⟩) hHeld ?_
  simp only [Act.put, List.getElem_toArray, List.getElem_cons_succ, List.getElem_cons_zero, List.setIfInBounds_toArray, List.set_cons_zero, List.set_cons_succ]
  refine wpAnyH_take (i := 6) (v := .int .i64 (n : Int)) rfl (by kernel_rfl) (by kernel_rfl) (by kernel_rfl) (fun _ _ _ h => h) (Or.inl ⟨by rfl, fun w' hSw => by obtain ⟨qa, qb⟩ := hSw; obtain ⟨j0, j1, j2, j3, j4⟩ := five qa; go_simp⟩) hHeld ?_
  simp only [Act.put, List.getElem_toArray, List.getElem_cons_succ, List.getElem_cons_zero, List.setIfInBounds_toArray, List.set_cons_zero, List.set_cons_succ]
  refine wpAnyH_ready (rs := [7]) (by kernel_rfl) (by simp) ?_
  refine AllReadyH.cons rfl (fun K hK => ?_) AllReadyH.nil
  clear hHeld
  simp only [Act.put, List.getElem_toArray, List.getElem_cons_succ, List.getElem_cons_zero, List.setIfInBounds_toArray, List.set_cons_zero, List.set_cons_succ]
  rw [if_pos (by rfl)]
  go_wp2_with (go_at_call 50; refine (HLk.out _ (to_drew (Below.refl _ _))).mono ?_; rintro e2 w2 ⟨rfl, b2⟩)
  have b2 : Below w1.heap.size w1 w2 := below_drew b2
  have k0 := cells_below n0 b2 (by omega)
  have cR2 := (b2.cell (p := ⟨rb, ro + n / 4, none⟩) rl1).trans cR
  refine hK.out _ _ ⟨k0, cR2⟩ (fun hHeld => ?_)
  clear hK K
  try simp only [Act.put, List.getElem_toArray, List.getElem_cons_succ, List.getElem_cons_zero, List.setIfInBounds_toArray, List.set_cons_zero, List.set_cons_succ]
  refine wpAnyH_take (i := 8) (v := .int .i64 (t : Int)) rfl (by kernel_rfl) (by kernel_rfl) (by kernel_rfl) (fun _ _ _ h => h) (Or.inl ⟨by rfl, fun w' hSw => by go_simp⟩) hHeld ?_
  simp only [Act.put, List.getElem_toArray, List.getElem_cons_succ, List.getElem_cons_zero, List.setIfInBounds_toArray, List.set_cons_zero, List.set_cons_succ]
  refine wpAnyH_take (i := 9) (v := .int .i64 e) rfl (by kernel_rfl) (by kernel_rfl) (by kernel_rfl) (fun _ _ _ h => h) (Or.inl ⟨by rfl, fun w' hSw => by go_simp⟩) hHeld ?_
  simp only [Act.put, List.getElem_toArray, List.getElem_cons_succ, List.getElem_cons_zero, List.setIfInBounds_toArray, List.set_cons_zero, List.set_cons_succ]
  clear hHeld
  refine wpAnyH_done (by kernel_rfl) ?_ _
  obtain ⟨c0, c1, c2, c3, c4⟩ := five k0
  go_upto_region 9 with (go_at_call 60; refine (HOw.out w2 b2).mono ?_; rintro e3 w3 ⟨val, rfl, hO, b3⟩; obtain ⟨p0, q0, p1, q1, p2, q2, p3, q3, x0, x1, x2, x3⟩ := hO.four'; unfold imgV; rw [x0, x1, x2, x3])
  have s2 := b2.size
  have s3 := b3.size
  have HD0 : Hid (OwR w1 (w3.alloc (.cells #[.int .i64 m.guest, .slice p0 m.root.length q0, .slice p1 m.slots.length q1, .slice p2 m.refs.length q2, .slice p3 m.snaps.length q3] 26)) w3.heap.size m) := ⟨⟨val, (hO.mono s2).alloc _, by rw [x0, x1, x2, x3]; exact World.alloc_heap_new _ _, hO.lt (Nat.le_refl _)⟩, by omega, (b2.trans (b3.mono s2)).alloc (by omega) _⟩
  clear hO x0 x1 x2 x3 c0 c1 c2 c3 c4 k0 cR2 HLk HOw
  have M0 := cells_below n0 HD0.out.bel (by omega)
  obtain ⟨c0, c1, c2, c3, c4⟩ := five M0
  have HF3 : Hid (∀ j, j < m.refs.length → (w3.alloc (.cells #[.int .i64 m.guest, .slice p0 m.root.length q0, .slice p1 m.slots.length q1, .slice p2 m.refs.length q2, .slice p3 m.snaps.length q3] 26)).cell? ⟨fb, fo + j, none⟩ = some (.int .i64 (m.refs.getD j 0))) := fun j hj => (HD0.out.bel.cell (p := ⟨fb, fo + j, none⟩) (HF.out j hj).2).trans (HF.out j hj).1
  clear b2 b3 M0
  have hDw : w1.heap.size ≤ w3.heap.size := HD0.out.ge
  go_cut [54] from 14 (fun s wx => s = .bool false ∧ Hid (OwR w1 wx w3.heap.size m))
  case first =>
    by_cases hpos : 0 < e
    · obtain ⟨en, rfl⟩ := Int.eq_ofNat_of_zero_le (Int.le_of_lt hpos)
      have g1 : decide (0 < (en : Int)) = true := by simpa using hpos
      have ct := HF3.out t (by have := HP.out.2.2.2.2.2.2.1; omega)
      have l1 : (t : Int) < (m.refs.length : Int) := by have := HP.out.2.2.2.2.2.2.1; omega
      obtain ⟨xt, hxt⟩ : ∃ x, m.refs.getD t 0 = x := ⟨_, rfl⟩
      have hrt2 := hmany (hnot hpos)
      rw [hxt] at ct hrt2
      have g3 : (xt == 1) = false := by simp; omega
      clear hxt hrt2 hnot hmany
      go_wp2_with fail; go_meet; exact ⟨rfl, HD0⟩
    · have g1 : decide (0 < e) = false := by simpa using hpos
      go_wp2_with fail; go_meet; exact ⟨rfl, HD0⟩
  case rest =>
  obtain ⟨rfl, HD1⟩ := hcut
  clear HD0 HF3 c0 c1 c2 c3 c4
  obtain ⟨wa, hwa⟩ : ∃ X, X = wc := ⟨_, rfl⟩
  subst hwa
  go_upto_region 12 with fail
  have M0 := cells_below n0 HD1.out.bel (by omega)
  obtain ⟨c0, c1, c2, c3, c4⟩ := five M0
  have HF1 : Hid (∀ j, j < m.refs.length → wa.cell? ⟨fb, fo + j, none⟩ = some (.int .i64 (m.refs.getD j 0))) := fun j hj => (HD1.out.bel.cell (p := ⟨fb, fo + j, none⟩) (HF.out j hj).2).trans (HF.out j hj).1
  go_cut [71] from 14 (fun s wx => s = .bool true ∧ Hid (OwR w1 wx w3.heap.size m))
  case first =>
    rcases Nat.eq_zero_or_pos t with h0 | h1
    · subst h0
      go_wp2_with fail; go_meet; exact ⟨rfl, HD1⟩
    · have g1 : ((t : Int) == 0) = false := by simp; omega
      have ct := HF1.out t (by have := HP.out.2.2.2.2.2.2.1; omega)
      obtain ⟨xt, hxt⟩ : ∃ x, m.refs.getD t 0 = x := ⟨_, rfl⟩
      have hrt2 := hmany h1
      rw [hxt] at ct hrt2
      have l1 : (t : Int) < (m.refs.length : Int) := by have := HP.out.2.2.2.2.2.2.1; omega
      have g3 : decide (1 < xt) = true := by simp; omega
      clear hxt hmany
      go_wp2_with fail; go_meet; exact ⟨rfl, HD1⟩
  case rest =>
  obtain ⟨rfl, HD2⟩ := hcut
  clear HD1 HF1 M0 c0 c1 c2 c3 c4
  obtain ⟨wb, hwb⟩ : ∃ X, X = wc := ⟨_, rfl⟩
  subst hwb
  obtain ⟨val, hX, hbox, hfar⟩ := HD2.out.ex
  have hbel := HD2.out.bel
  obtain ⟨p0, q0, p1, q1, p2, q2, p3, q3, x0, x1, x2, x3⟩ := hX.four'
  have hbx := hbox
  rw [x0, x1, x2, x3] at hbx
  obtain ⟨d0, d1, d2, d3, d4⟩ := five hbx
  have hS : Slots wb (val .slots) m.slots := Img.four (show Img wb (.agg #[_, _, _, _, _]) m from hX.img) |>.2.1
  have hG := grabOf_wide hS HG.out.2.1 HG.out.2.2 (c := 0) (if_pos HG.out.1)
  rw [x1] at hG
  have z9 := cells_below n1 hbel hz1
  obtain ⟨z0, z1, z2, z3, z4⟩ := five z9
  have y0 := cells_frozen z9 0; have y1 := cells_frozen z9 1; have y2 := cells_frozen z9 2; have y3 := cells_frozen z9 3; have y4 := cells_frozen z9 4
  have nD1 : ¬ w3.heap.size = w.heap.size + 1 := by omega
  have nD2 : ¬ w.heap.size + 1 = w3.heap.size := by omega
  clear hX hbox hfar hbx HTb cR rl1 HF
  go_wp2_with (go_at_call 61; refine hG.mono ?_; rintro e4 w4 ⟨rfl, hw⟩; rw [hw]; clear hw)
  have hBz : Below w.heap.size w wb := Below.on bw HD2.out.bel
  refine bodyPost_ret (v := .tuple #[.agg #[.int .i64 0, .slice none 0 0, .slice none 0 0, .slice none 0 0, .slice none 0 0], .int .i64 7]) (by simp [results, Try.results27, go_sem, z0, z1, z2, z3, z4]) rfl ⟨none, 0, none, 0, none, 0, none, 0, rfl, fun W' _ => imgZ_im W', below_five hBz (Nat.le_succ _) _ _ _ _ _⟩
end Go.Proofs.Ytehleeibgkpjmac
