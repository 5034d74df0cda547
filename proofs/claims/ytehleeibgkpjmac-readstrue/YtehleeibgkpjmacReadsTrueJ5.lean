/- Texts joined: RefF, Strs, PChk, PgPlain, Shelf, PgZero, RdA, Pair, RdP, PDec, RBegun. -/
import Derived.Test.YtehleeibgkpjmacReadsTrueJ4
import Derived.Test.YtehleeibgkpjmacReadsTrueJ1
import Derived.Test.YtehleeibgkpjmacRows
import Derived.WalkLawsBesides
import Derived.Deep.QuietTactic
import Derived.BigQuiet
import Derived.Lib.Strings
import Derived.Lib.Join
import Derived.Lib.Repeat
import Derived.Shelf.Strings.Builder1
import Derived.Shelf.Strings.Builder2
import Derived.Shelf.Strings.BuilderF
import Derived.Shelf.Strings.Prefix
import Derived.Shelf.Bits.Mul64
import Derived.Shelf.Strings.Repeat
import Derived.Ground.Names2Prog
import Derived.Shelf.Slices.Clone
import Derived.Ground.SlgnProg
import Derived.Shelf.SlicesE.Clone
import Derived.Test.YtehleeibgkpjmacProg
set_option linter.unusedVariables false
set_option linter.unusedSimpArgs false
/- Contracts of the document's CheckImage, look, LookError, LookOf. -/
namespace Go.Proofs.Ytehleeibgkpjmac
open Go.RowKit Go.Shelf
set_option maxRecDepth 20000

theorem checkImage_bad (gm : Int) (ra : Option Addr) (rn rc : Nat) (sa : Option Addr) (sn sc : Nat) (fa : Option Addr) (fn fc : Nat) (na : Option Addr) (nn nc : Nat) (m : ImgD) (E : Int) (w : World) (h : Img w (.agg #[.int .i64 gm, .slice ra rn rc, .slice sa sn sc, .slice fa fn fc, .slice na nn nc]) m) (hE : shapeE m = E) (hne : (E != 0) = true) :
    Calls Try.prog 18 #[.agg #[.int .i64 gm, .slice ra rn rc, .slice sa sn sc, .slice fa fn fc, .slice na nn nc]] w fun r w' => r = .returned (.int .i64 E) ∧ Below w.heap.size w w' := by
  have b0 : Below w.heap.size w (w.alloc (.cells #[.int .i64 gm, .slice ra rn rc, .slice sa sn sc, .slice fa fn fc, .slice na nn nc] 26)) := (Below.refl _ _).alloc (Nat.le_refl _) _
  have hcall := shapeOf_is (h.below b0) hE
  clear h hE
  go_enter Try.func18, Try.ntmps18
  go_wp2_with (go_at_call 47; refine hcall.mono ?_; rintro e w1 ⟨rfl, b1⟩)
  go_ret
  exact ⟨rfl, Below.on b0 b1⟩

set_option linter.unusedSimpArgs false in
set_option maxHeartbeats 4000000 in
theorem checkImage_at (gm : Int) (ra : Option Addr) (rn rc : Nat) (sb so : Nat) (sn sc : Nat) (fa : Option Addr) (fn fc : Nat) (na : Option Addr) (nn nc : Nat) (m : ImgD) (E : Int) (w : World) (h : Img w (.agg #[.int .i64 gm, .slice ra rn rc, .slice (some ⟨sb, so, none⟩) sn sc, .slice fa fn fc, .slice na nn nc]) m) (hsn : m.slots.length = sn) (hsb : sb < w.heap.size) (hcl : ∀ j, (h : j < m.slots.length) → SlAt w sb (so + j * 3) m.slots[j]) (hf : Sl w (.slice fa fn fc) m.refs) (hfn : fn = sn)
    (h0 : shapeE m = 0) (hE : checkE m = E) :
    Calls Try.prog 18 #[.agg #[.int .i64 gm, .slice ra rn rc, .slice (some ⟨sb, so, none⟩) sn sc, .slice fa fn fc, .slice na nn nc]] w fun r w' => r = .returned (.int .i64 E) ∧ Below w.heap.size w w' := by
  have b0 : Below w.heap.size w (w.alloc (.cells #[.int .i64 gm, .slice ra rn rc, .slice (some ⟨sb, so, none⟩) sn sc, .slice fa fn fc, .slice na nn nc] 26)) := (Below.refl _ _).alloc (Nat.le_refl _) _
  have m0 : (w.alloc (.cells #[.int .i64 gm, .slice ra rn rc, .slice (some ⟨sb, so, none⟩) sn sc, .slice fa fn fc, .slice na nn nc] 26)).heap[w.heap.size]? = some (.cells #[.int .i64 gm, .slice ra rn rc, .slice (some ⟨sb, so, none⟩) sn sc, .slice fa fn fc, .slice na nn nc] 26) := World.alloc_heap_new _ _
  have h40 : sn ≤ 40 := by rw [← hsn]; exact (slotsE_parts (shapeE_zero h0).2.1).2
  have hrl : m.refs.length = sn := by rw [(shapeE_zero h0).2.2.1, hsn]
  have HE : Hid (E = if cntL m ≠ m.refs then 9 else if (List.range m.slots.length).all (freeAt m) = true then 0 else 9) := by
    show _ = _
    rw [← hE]; unfold checkE; rw [if_neg (by simpa using h0)]
  have FB : Hid (∀ n, n < sn → (m.refs.getD n 0 ≠ (cntL m).getD n 0 ∨ freeAt m n = false) → E = 9) := fun n hn hor => by
    rw [HE.out]
    by_cases hq : cntL m ≠ m.refs
    · rw [if_pos hq]
    · rw [if_neg hq, if_neg]
      intro e
      rcases hor with hh | hh
      · exact hh (by rw [Classical.not_not.1 hq])
      · have := List.all_eq_true.1 e n (by rw [hsn]; simpa using hn)
        rw [hh] at this; cases this
  have FG : Hid ((∀ n, n < sn → m.refs.getD n 0 = (cntL m).getD n 0 ∧ freeAt m n = true) → E = 0) := fun hall => by
    rw [HE.out, if_neg, if_pos]
    · rw [List.all_eq_true]; intro j hj; exact (hall j (by rw [← hsn]; simpa using hj)).2
    · rw [Classical.not_not]
      apply List.ext_getElem
      · rw [cntL_length, hrl, hsn]
      · intro j h1 h2
        have := (hall j (by rw [← hrl]; exact h2)).1
        simpa [List.getD, h1, h2] using this.symm
  have hcall := shapeOf_is (h.below b0) h0
  have hcnt := fun W (hW : Below w.heap.size w W) => countsOf_is (h.below hW) h0
  rw [hsn] at hcnt
  have H1 : Hid (m.slots.length = sn) := hsn
  have H2 : Hid (∀ j, (h : j < m.slots.length) → SlAt w sb (so + j * 3) m.slots[j]) := hcl
  have H3 : Hid (Sl w (.slice fa fn fc) m.refs) := hf
  subst hfn
  have H4 : Hid (m.refs.length = fn) := hrl
  clear HE hsn hcl hf hrl h h0 hE
  go_enter Try.func18, Try.ntmps18
  go_wp2_with fail
  refine hcall.mono ?_
  rintro e w1 ⟨rfl, b1⟩
  have m1 := cells_below m0 b1 (by simp)
  obtain ⟨c0, c1, c2, c3, c4⟩ := five m1
  have hb1 := Below.on b0 b1
  have hcnt := hcnt w1 hb1
  clear hcall
  go_wp2_with fail
  refine hcnt.mono ?_
  rintro e w2 ⟨⟨rfl, hL⟩, b2⟩
  have m2 := cells_below m1 b2 (Array.getElem?_eq_some_iff.1 m1).1
  clear c0 c1 c2 c3 c4 hcnt
  obtain ⟨c0, c1, c2, c3, c4⟩ := five m2
  have hbw := Below.on hb1 b2
  obtain ⟨g, hg⟩ : ∃ g, w1.heap.size + 1 = g := ⟨_, rfl⟩
  rw [hg] at hL ⊢
  clear hg
  go_wp2_with fail
  go_loopw [5] (fun i wq => ∃ k : Nat, k ≤ fn ∧ i = .int .i64 k ∧ Hid (∀ j, j < k → m.refs.getD j 0 = (cntL m).getD j 0 ∧ freeAt m j = true) ∧ (Hid (∀ a, wq.cell? a = w2.cell? a) ∧ Below w.heap.size w wq)) (fun i _ => fn - (intOf i).toNat)
  case atStart => exact ⟨0, Nat.zero_le _, rfl, fun j hj => absurd hj (by omega), fun _ => rfl, hbw⟩
  case round =>
    obtain ⟨k, hk, rfl, HA, hsame, hbr⟩ := hrel
    have c0 := (hsame.out _).trans c0
    have c1 := (hsame.out _).trans c1
    have c2 := (hsame.out _).trans c2
    have c3 := (hsame.out _).trans c3
    have c4 := (hsame.out _).trans c4
    by_cases hlk : k < fn
    · have hki : (k : Int) < (fn : Int) := by omega
      have hkm : k < m.slots.length := by rw [H1.out]; exact hlk
      obtain ⟨tv, s1, _⟩ := H2.out k hkm
      have ekd : m.slots[k].1 = kd m.slots k := by unfold kd; simp [List.getD, hkm]
      rw [ekd] at s1
      have s1 := (hbr.cell (p := ⟨sb, so + k * 3, none⟩) hsb).trans s1
      obtain ⟨b, off, rfl, hlt, hcf⟩ := H3.out.cells.2.2.2 k hlk
      have hcf := (hbr.cell (p := ⟨b, off + k, none⟩) hlt).trans hcf
      have hcc := (hsame.out _).trans (hL.cell (by rw [cntL_length, H1.out]; exact hlk))
      obtain ⟨x, hx⟩ : ∃ x, m.refs.getD k 0 = x := ⟨_, rfl⟩
      obtain ⟨y, hy⟩ : ∃ y, (cntL m).getD k 0 = y := ⟨_, rfl⟩
      obtain ⟨z, hz⟩ : ∃ z, kd m.slots k = z := ⟨_, rfl⟩
      have HF : Hid (freeAt m k = ((z == 0) == (y == 0))) := by
        show _ = _
        unfold freeAt
        rw [hy, ← hz]; rfl
      rw [hx] at hcf
      rw [hy] at hcc
      rw [hz] at s1
      have HXY : Hid (m.refs.getD k 0 = x ∧ (cntL m).getD k 0 = y) := ⟨hx, hy⟩
      clear hx hy hz ekd
      by_cases hxy : x = y
      · have hxyb : (x != y) = false := by simp [hxy]
        have HE2 : Hid (x = y) := hxy
        clear hxy
        cases hy0 : y == 0 with
        | true =>
          cases hz0 : z == 0 with
          | true =>
            go_wp2_with fail
            go_quiet (fail)
            go_wp2_with fail
            go_roundw
            case rel => exact ⟨k + 1, by omega, by go_num, fun j hj => by
              by_cases e : j = k
              · subst e; exact ⟨by rw [HXY.out.1, HXY.out.2, HE2.out], by rw [HF.out, hz0, hy0]; rfl⟩
              · exact HA.out j (by omega), fun a => hsame.out a, ⟨hbr.os, hbr.tape, hbr.output, hbr.size, hbr.block⟩⟩
            case measure => simp [intOf]; omega
          | false =>
            have HB : Hid (E = 9) := FB.out k hlk (.inr (by rw [HF.out, hz0, hy0]; rfl))
            go_wp2_with fail
            go_quiet (fail)
            go_wp2_with fail
            go_ret
            exact ⟨ret_int HB.out.symm, ⟨hbr.os, hbr.tape, hbr.output, hbr.size, hbr.block⟩⟩
        | false =>
          cases hz0 : z == 0 with
          | true =>
            have HB : Hid (E = 9) := FB.out k hlk (.inr (by rw [HF.out, hz0, hy0]; rfl))
            go_wp2_with fail
            go_quiet (fail)
            go_wp2_with fail
            go_ret
            exact ⟨ret_int HB.out.symm, ⟨hbr.os, hbr.tape, hbr.output, hbr.size, hbr.block⟩⟩
          | false =>
            go_wp2_with fail
            go_quiet (fail)
            go_wp2_with fail
            go_roundw
            case rel => exact ⟨k + 1, by omega, by go_num, fun j hj => by
              by_cases e : j = k
              · subst e; exact ⟨by rw [HXY.out.1, HXY.out.2, HE2.out], by rw [HF.out, hz0, hy0]; rfl⟩
              · exact HA.out j (by omega), fun a => hsame.out a, ⟨hbr.os, hbr.tape, hbr.output, hbr.size, hbr.block⟩⟩
            case measure => simp [intOf]; omega
      · have hxyb : (x != y) = true := by simp [hxy]
        have HB : Hid (E = 9) := FB.out k hlk (.inl (by rw [HXY.out.1, HXY.out.2]; exact hxy))
        clear hxy
        go_wp2_with fail
        go_quiet (fail)
        go_wp2_with fail
        go_ret
        exact ⟨ret_int HB.out.symm, ⟨hbr.os, hbr.tape, hbr.output, hbr.size, hbr.block⟩⟩
    · have HB : Hid (E = 0) := FG.out (fun n hn => HA.out n (by omega))
      have e5 : k = fn := by omega
      subst e5
      go_wp2_with fail
      go_ret
      exact ⟨ret_int HB.out.symm, hbr⟩

theorem checkImage_is {w : World} {v : Value} {m : ImgD} (h : Img w v m) {E : Int} (hE : checkE m = E) :
    Calls Try.prog 18 #[v] w fun r w' => r = .returned (.int .i64 E) ∧ Below w.heap.size w w' := by
  have h' := h
  obtain ⟨ra, rc, sa, sc, fa, fc, na, nc, rfl, h1, h2, h3, h4⟩ := h.parts
  by_cases h0 : shapeE m = 0
  · obtain ⟨z1, z2, z3, _⟩ := shapeE_zero h0
    obtain ⟨sb, so, sc', e, hcp, hlt, hcell⟩ := h2.open (slotsE_parts z2).1
    simp at e
    obtain ⟨rfl, rfl⟩ := e
    exact checkImage_at m.guest ra _ rc sb so _ sc fa _ fc na _ nc m E w h' rfl hlt hcell h3 z3 h0 hE
  · have e : shapeE m = E := by rw [← hE]; unfold checkE; rw [if_pos h0]
    exact checkImage_bad m.guest ra _ rc sa _ sc fa _ fc na _ nc m E w h' e (by rw [← e]; simpa using h0)

theorem lookR_hole (gm : Int) (ra : Option Addr) (rn rc : Nat) (sa : Option Addr) (sn sc : Nat) (fa : Option Addr) (fn fc : Nat) (na : Option Addr) (nn nc : Nat) (qb qo qn qc n : Nat) (w : World) (hn : n < 16) (hqn : n / 4 < qn) (hqb : qb < w.heap.size) (hc : w.cell? ⟨qb, qo + n / 4, none⟩ = some (.int .i64 0)) :
    Calls Try.prog 52 #[.agg #[.int .i64 gm, .slice ra rn rc, .slice sa sn sc, .slice fa fn fc, .slice na nn nc], .slice (some ⟨qb, qo, none⟩) qn qc, .int .i64 n] w fun r w' => r = .returned (.int .i64 0) ∧ Below w.heap.size w w' := by
  have b0 : Below w.heap.size w (w.alloc (.cells #[.int .i64 gm, .slice ra rn rc, .slice sa sn sc, .slice fa fn fc, .slice na nn nc] 26)) := (Below.refl _ _).alloc (Nat.le_refl _) _
  have cr := (b0.cell (p := ⟨qb, qo + n / 4, none⟩) hqb).trans hc
  have hq : ((n : Int) / 4).toNat = n / 4 := by omega
  go_enter Try.func52, Try.ntmps52
  go_wp2_with fail
  go_ret
  exact ⟨rfl, b0⟩
theorem lookR_tab (gm : Int) (ra : Option Addr) (rn rc : Nat) (sb so : Nat) (sn sc : Nat) (fa : Option Addr) (fn fc : Nat) (na : Option Addr) (nn nc : Nat) (qb qo qn qc n : Nat) (t : Nat) (x : Int) (w : World) (hn : n < 16) (hqn : n / 4 < qn) (hqb : qb < w.heap.size) (hc : w.cell? ⟨qb, qo + n / 4, none⟩ = some (.int .i64 t)) (ht : 0 < t) (hts : t < sn) (hsb : sb < w.heap.size)
    (tb tw tc : Nat) (hct : w.cell? ⟨sb, so + t * 3 + 2, none⟩ = some (.slice (some ⟨tb, tw, none⟩) 4 tc)) (htb : tb < w.heap.size) (hx : w.cell? ⟨tb, tw + n % 4, none⟩ = some (.int .i64 x)) :
    Calls Try.prog 52 #[.agg #[.int .i64 gm, .slice ra rn rc, .slice (some ⟨sb, so, none⟩) sn sc, .slice fa fn fc, .slice na nn nc], .slice (some ⟨qb, qo, none⟩) qn qc, .int .i64 n] w fun r w' => r = .returned (.int .i64 x) ∧ Below w.heap.size w w' := by
  have b0 : Below w.heap.size w (w.alloc (.cells #[.int .i64 gm, .slice ra rn rc, .slice (some ⟨sb, so, none⟩) sn sc, .slice fa fn fc, .slice na nn nc] 26)) := (Below.refl _ _).alloc (Nat.le_refl _) _
  have cr := (b0.cell (p := ⟨qb, qo + n / 4, none⟩) hqb).trans hc
  have ct := (b0.cell (p := ⟨sb, so + t * 3 + 2, none⟩) hsb).trans hct
  have cx := (b0.cell (p := ⟨tb, tw + n % 4, none⟩) htb).trans hx
  have hq : ((n : Int) / 4).toNat = n / 4 := by omega
  have hq2 : ((n : Int) % 4).toNat = n % 4 := by omega
  have hne : ((t : Int) == 0) = false := by simp; omega
  have h4 : n % 4 < 4 := by omega
  go_enter Try.func52, Try.ntmps52
  go_wp2_with fail
  go_ret
  exact ⟨rfl, b0⟩
/-- The entry of page n of a Root that fits. -/
theorem lookR_is {w : World} {v rv : Value} {m : ImgD} {root : List Int} (h : Img w v m) (hr : Sl w rv root) (hs : slotsE m.slots = 0) (hall : root.all (rootE m.slots) = true) (n : Nat) (hn : n < 16) (hl : n / 4 < root.length) {c : Int} (hc : lookV m root n = c) :
    Calls Try.prog 52 #[v, rv, .int .i64 n] w fun r w' => r = .returned (.int .i64 c) ∧ Below w.heap.size w w' := by
  obtain ⟨ra, rc, sa, sc, fa, fc, na, nc, rfl, h1, h2, h3, h4⟩ := h.parts
  have hE2 := all_at hall hl
  obtain ⟨rb, ro, qc, rfl, _, hrb, hcell⟩ := hr.open (by omega)
  have hcr := hcell (n / 4) hl
  unfold lookV at hc
  by_cases hz : root.getD (n / 4) 0 = 0
  · rw [if_pos hz] at hc
    subst hc
    rw [hz] at hcr
    exact lookR_hole m.guest ra _ rc sa _ sc fa _ fc na _ nc rb ro _ qc n w hn hl hrb hcr
  · rw [if_neg hz] at hc
    rw [rootE_x hz] at hE2
    obtain ⟨t, ht, htl, hkd⟩ := isKd_yes hE2
    have hok := okD_tab (slotsE_all hs htl) hkd
    obtain ⟨sb, so, sc', e, _, hsb, hcl⟩ := h2.open (by omega)
    simp at e
    obtain ⟨rfl, rfl⟩ := e
    obtain ⟨tv, _, _, c3, hsl⟩ := hcl t htl
    obtain ⟨tb, tw, tc, rfl, _, htb, htc⟩ := hsl.four hok.1
    rw [ht] at hcr hc hz
    have e4 : tabOf m.slots (t : Int) = m.slots[t].2.2 := by unfold tabOf; simp [List.getD, htl]
    rw [e4] at hc
    have hx := htc (n % 4) (by omega)
    rw [hc] at hx
    exact lookR_tab m.guest ra _ rc sb so _ sc fa _ fc na _ nc rb ro _ qc n t c w hn hl hrb hcr (by omega) htl hsb tb tw tc c3 htb hx

theorem lookErr_bad (gm : Int) (ra : Option Addr) (rn rc : Nat) (sa : Option Addr) (sn sc : Nat) (fa : Option Addr) (fn fc : Nat) (na : Option Addr) (nn nc : Nat) (m : ImgD) (E n : Int) (w : World) (h : Img w (.agg #[.int .i64 gm, .slice ra rn rc, .slice sa sn sc, .slice fa fn fc, .slice na nn nc]) m) (hE : checkE m = E) (hne : (E != 0) = true) :
    Calls Try.prog 17 #[.agg #[.int .i64 gm, .slice ra rn rc, .slice sa sn sc, .slice fa fn fc, .slice na nn nc], .int .i64 n] w fun r w' => r = .returned (.int .i64 E) ∧ Below w.heap.size w w' := by
  have b0 : Below w.heap.size w (w.alloc (.cells #[.int .i64 gm, .slice ra rn rc, .slice sa sn sc, .slice fa fn fc, .slice na nn nc] 26)) := (Below.refl _ _).alloc (Nat.le_refl _) _
  have hcall := checkImage_is (h.below b0) hE
  clear h hE
  go_enter Try.func17, Try.ntmps17
  go_wp2_with (go_at_call 18; refine hcall.mono ?_; rintro e w1 ⟨rfl, b1⟩)
  go_ret
  exact ⟨rfl, Below.on b0 b1⟩
theorem lookErr_at (gm : Nat) (ra : Option Addr) (rn rc : Nat) (sa : Option Addr) (sn sc : Nat) (fa : Option Addr) (fn fc : Nat) (na : Option Addr) (nn nc : Nat) (m : ImgD) (n : Int) (w : World) (h : Img w (.agg #[.int .i64 gm, .slice ra rn rc, .slice sa sn sc, .slice fa fn fc, .slice na nn nc]) m) (hE : checkE m = 0) (hg : gm ≤ 16) {E : Int} (hr : (if 0 ≤ n ∧ n < gm then 0 else 3) = E) :
    Calls Try.prog 17 #[.agg #[.int .i64 gm, .slice ra rn rc, .slice sa sn sc, .slice fa fn fc, .slice na nn nc], .int .i64 n] w fun r w' => r = .returned (.int .i64 E) ∧ Below w.heap.size w w' := by
  have b0 : Below w.heap.size w (w.alloc (.cells #[.int .i64 gm, .slice ra rn rc, .slice sa sn sc, .slice fa fn fc, .slice na nn nc] 26)) := (Below.refl _ _).alloc (Nat.le_refl _) _
  have m0 : (w.alloc (.cells #[.int .i64 gm, .slice ra rn rc, .slice sa sn sc, .slice fa fn fc, .slice na nn nc] 26)).heap[w.heap.size]? = some (.cells #[.int .i64 gm, .slice ra rn rc, .slice sa sn sc, .slice fa fn fc, .slice na nn nc] 26) := World.alloc_heap_new _ _
  have hcall := checkImage_is (h.below b0) hE
  obtain ⟨B, hB⟩ : ∃ B, decide ((0 : Int) ≤ n ∧ n ≤ (gm : Int) - 1) = B := ⟨_, rfl⟩
  have HB : Hid (decide ((0 : Int) ≤ n ∧ n ≤ (gm : Int) - 1) = B) := hB
  have HR : Hid (E = if B = true then 0 else 3) := by
    show _ = _
    rw [← hr, ← hB]
    by_cases hc : 0 ≤ n ∧ n < gm
    · rw [if_pos hc, if_pos (decide_eq_true (by omega))]
    · rw [if_neg hc, if_neg (by rw [decide_eq_false (by omega)]; decide)]
  clear h hE hB hr
  cases B with
  | true =>
    go_enter Try.func17, Try.ntmps17
    go_wp2_with (first | (go_at_call 18; refine hcall.mono ?_; rintro e w1 ⟨rfl, b1⟩; have m1 := cells_below m0 b1 (by simp); obtain ⟨c0, c1, c2, c3, c4⟩ := five m1) | (go_at_call 46; refine (within_any _ _ _ _).mono ?_; rintro e w' ⟨rfl, hw⟩; subst hw; rw [HB.out]))
    go_ret
    exact ⟨by rw [HR.out]; rfl, Below.on b0 b1⟩
  | false =>
    go_enter Try.func17, Try.ntmps17
    go_wp2_with (first | (go_at_call 18; refine hcall.mono ?_; rintro e w1 ⟨rfl, b1⟩; have m1 := cells_below m0 b1 (by simp); obtain ⟨c0, c1, c2, c3, c4⟩ := five m1) | (go_at_call 46; refine (within_any _ _ _ _).mono ?_; rintro e w' ⟨rfl, hw⟩; subst hw; rw [HB.out]))
    go_ret
    exact ⟨by rw [HR.out]; rfl, Below.on b0 b1⟩
theorem lookErr_is {w : World} {v : Value} {m : ImgD} (h : Img w v m) (n : Int) {E : Int} (hE : lookE m n = E) :
    Calls Try.prog 17 #[v, .int .i64 n] w fun r w' => r = .returned (.int .i64 E) ∧ Below w.heap.size w w' := by
  have h' := h
  obtain ⟨ra, rc, sa, sc, fa, fc, na, nc, rfl, h1, h2, h3, h4⟩ := h.parts
  unfold lookE at hE
  by_cases h0 : checkE m = 0
  · rw [if_neg (by simpa using h0)] at hE
    have hg := guest_ok (checkE_shape h0)
    obtain ⟨k, hk⟩ : ∃ k : Nat, m.guest = k := ⟨m.guest.toNat, by omega⟩
    rw [hk] at h' hE ⊢
    exact lookErr_at k ra _ rc sa _ sc fa _ fc na _ nc m n w h' h0 (by omega) hE
  · rw [if_pos h0] at hE
    exact lookErr_bad m.guest ra _ rc sa _ sc fa _ fc na _ nc m E n w h' hE (by rw [← hE]; simpa using h0)
theorem lookOf_at (gm : Int) (ra : Option Addr) (rn rc : Nat) (sa : Option Addr) (sn sc : Nat) (fa : Option Addr) (fn fc : Nat) (na : Option Addr) (nn nc : Nat) (m : ImgD) (n : Nat) (c : Int) (w : World) (h : Img w (.agg #[.int .i64 gm, .slice ra rn rc, .slice sa sn sc, .slice fa fn fc, .slice na nn nc]) m) (hr : Sl w (.slice ra rn rc) m.root) (hs : slotsE m.slots = 0) (hall : m.root.all (rootE m.slots) = true) (hn : n < 16) (hl : n / 4 < m.root.length) (hc : lookV m m.root n = c) :
    Calls Try.prog 50 #[.agg #[.int .i64 gm, .slice ra rn rc, .slice sa sn sc, .slice fa fn fc, .slice na nn nc], .int .i64 n] w fun r w' => r = .returned (.int .i64 c) ∧ Below w.heap.size w w' := by
  have b0 : Below w.heap.size w (w.alloc (.cells #[.int .i64 gm, .slice ra rn rc, .slice sa sn sc, .slice fa fn fc, .slice na nn nc] 26)) := (Below.refl _ _).alloc (Nat.le_refl _) _
  have hcall := lookR_is (h.below b0) (hr.below b0) hs hall n hn hl hc
  clear h hr hs hall hc hl
  go_enter Try.func50, Try.ntmps50
  go_wp2_with (go_at_call 52; refine hcall.mono ?_; rintro e w1 ⟨rfl, b1⟩)
  go_ret
  exact ⟨rfl, Below.on b0 b1⟩
theorem lookOf_is {w : World} {v : Value} {m : ImgD} (h : Img w v m) (n : Int) (hE : lookE m n = 0) {c : Int} (hc : lookV m m.root n.toNat = c) :
    Calls Try.prog 50 #[v, .int .i64 n] w fun r w' => r = .returned (.int .i64 c) ∧ Below w.heap.size w w' := by
  have h' := h
  obtain ⟨ra, rc, sa, sc, fa, fc, na, nc, rfl, h1, h2, h3, h4⟩ := h.parts
  unfold lookE at hE
  split at hE
  · rename_i h0; exact absurd hE h0
  rename_i h0
  have h0 : checkE m = 0 := Classical.not_not.1 h0
  split at hE
  · rename_i hn
    have hsh := checkE_shape h0
    have hg := guest_ok hsh
    have hro := root_ok hsh
    obtain ⟨k, rfl⟩ : ∃ k : Nat, n = k := ⟨n.toNat, by omega⟩
    rw [Int.toNat_natCast] at hc
    exact lookOf_at m.guest ra _ rc sa _ sc fa _ fc na _ nc m k c w h' h1 (shapeE_zero hsh).2.1 hro.2 (by omega) (by omega) hc
  · simp at hE
end Go.Proofs.Ytehleeibgkpjmac
/- Slices of strings: what it means that a slice value holds them in a world. -/
namespace Go.Proofs.Ytehleeibgkpjmac
open Go.RowKit
set_option maxRecDepth 20000

/-- The slice value v holds the strings xs in the world w. -/
def Ss (w : World) (v : Value) (xs : List ByteArray) : Prop :=
  ∃ ao cap, v = .slice ao xs.length cap ∧ xs.length ≤ maxLen ∧ xs.length ≤ cap ∧ (xs ≠ [] → ∃ b off, ao = some ⟨b, off, none⟩ ∧ b < w.heap.size ∧ ∀ j, j < xs.length → w.cell? ⟨b, off + j, none⟩ = some (.string (xs.getD j ByteArray.empty)))

theorem Ss.below {w w1 : World} {v : Value} {xs : List ByteArray} (h : Ss w v xs) (hb : Below w.heap.size w w1) : Ss w1 v xs := by
  obtain ⟨ao, cap, hv, hm, hcp, hc⟩ := h
  refine ⟨ao, cap, hv, hm, hcp, fun hne => ?_⟩
  obtain ⟨b, off, ha, hlt, hcell⟩ := hc hne
  exact ⟨b, off, ha, Nat.lt_of_lt_of_le hlt hb.size, fun j hj => (hb.cell (p := ⟨b, off + j, none⟩) hlt).trans (hcell j hj)⟩

theorem Ss.nil (w : World) : Ss w (.slice none 0 0) [] := ⟨none, 0, rfl, Nat.zero_le _, Nat.zero_le _, fun h => absurd rfl h⟩

theorem Ss.cells {w : World} {ao : Option Addr} {n cap : Nat} {xs : List ByteArray} (h : Ss w (.slice ao n cap) xs) :
    xs.length = n ∧ n ≤ 9223372036854775807 ∧ n ≤ cap ∧ ∀ j, j < n → ∃ b off, ao = some ⟨b, off, none⟩ ∧ b < w.heap.size ∧ w.cell? ⟨b, off + j, none⟩ = some (.string (xs.getD j ByteArray.empty)) := by
  obtain ⟨ao', cap', hv, hm, hcp, hc⟩ := h
  simp only [Value.slice.injEq] at hv
  obtain ⟨rfl, rfl, rfl⟩ := hv
  unfold maxLen at hm
  refine ⟨rfl, by omega, hcp, fun j hj => ?_⟩
  obtain ⟨b, off, rfl, hlt, hcell⟩ := hc (by intro e; rw [e] at hj; simp at hj)
  exact ⟨b, off, rfl, hlt, hcell j hj⟩

theorem Ss.form {w : World} {v : Value} {xs : List ByteArray} (h : Ss w v xs) : ∃ ao cap, v = .slice ao xs.length cap := by
  obtain ⟨ao, cap, hv, _⟩ := h; exact ⟨ao, cap, hv⟩

theorem Ss.at {w : World} {ao : Option Addr} {n cap : Nat} {xs : List ByteArray} (h : Ss w (.slice ao n cap) xs) (hpos : 0 < n) :
    ∃ b off, ao = some ⟨b, off, none⟩ ∧ b < w.heap.size ∧ ∀ j, j < n → w.cell? ⟨b, off + j, none⟩ = some (.string (xs.getD j ByteArray.empty)) := by
  obtain ⟨ao', cap', hv, hm, hcp, hc⟩ := h
  simp only [Value.slice.injEq] at hv
  obtain ⟨rfl, rfl, rfl⟩ := hv
  exact hc (by intro e; rw [e] at hpos; simp at hpos)

theorem Ss_of_own {w : World} {base : Nat} {g n cap : Nat} {xs : List ByteArray} (h : w.ownsRow base 9 1 (.slice (some ⟨g, 0, none⟩) n cap) n (xs.map Value.string)) : Ss w (.slice (some ⟨g, 0, none⟩) n cap) xs := by
  have hl : xs.length = n := by have := h.1; simpa using this
  have hc := fun j => h.cellAt j
  obtain ⟨_, h2⟩ := h
  rcases h2 with ⟨h', _⟩ | ⟨g', cap', cur, h', _, hg, hnc, hcm, _, _⟩
  · simp at h'
  · simp only [Value.slice.injEq, Option.some.injEq, Addr.mk.injEq, and_true, true_and] at h'
    obtain ⟨rfl, rfl⟩ := h'
    refine ⟨_, cap, by rw [hl], by rw [hl]; exact Nat.le_trans hnc hcm, by rw [hl]; exact hnc, fun _ => ⟨g, 0, rfl, (Array.getElem?_eq_some_iff.1 hg).1, fun j hj => ?_⟩⟩
    rw [Nat.zero_add, hc j (by omega)]
    simp [List.getD, hj]

theorem owns_cell {w : World} {base g n cap : Nat} {xs : List ByteArray} (h : w.ownsRow base 9 1 (.slice (some ⟨g, 0, none⟩) n cap) n (xs.map Value.string)) (k : Nat) (hk : k < n) : ∃ u, w.cell? ⟨g, k, none⟩ = some u := by
  rw [h.cellAt k (by omega)]
  have hl : xs.length = n := by have := h.1; simpa using this
  exact ⟨.string (xs[k]), by simp [show k < xs.length by omega]⟩
theorem owns_put {w : World} {base g n cap : Nat} {xs : List ByteArray} (h : w.ownsRow base 9 1 (.slice (some ⟨g, 0, none⟩) n cap) n (xs.map Value.string)) (k : Nat) (e : ByteArray) :
    (w.setCell ⟨g, k, none⟩ (.string e)).ownsRow base 9 1 (.slice (some ⟨g, 0, none⟩) n cap) n ((xs.set k e).map Value.string) := by
  have := (h.stored k (.string e)).1
  rw [List.map_set]; exact this
theorem owns_ge {w : World} {base g n cap : Nat} {xs : List Value} (h : w.ownsRow base 9 1 (.slice (some ⟨g, 0, none⟩) n cap) n xs) : base ≤ g := (h.lt g rfl).1

theorem Ss_new (w : World) (xs : List ByteArray) (n : Nat) (hn : xs.length = n) (hm : n ≤ maxLen) : Ss (w.alloc (.cells (xs.map Value.string).toArray 9)) (.slice (some ⟨w.heap.size, 0, none⟩) n n) xs := by
  subst hn
  refine ⟨_, _, rfl, hm, Nat.le_refl _, fun _ => ⟨w.heap.size, 0, rfl, by simp, fun j hj => ?_⟩⟩
  rw [Nat.zero_add, World.cell?_alloc_at _ _ _ _ rfl]
  simp [List.getD, hj]
theorem Ss.past {w : World} {v : Value} {xs : List ByteArray} (h : Ss w v xs) (o : Obj) : Ss (w.alloc o) v xs := h.below ((Below.refl _ _).alloc (Nat.le_refl _) o)


theorem owns_below {w w1 : World} {B : Nat} {v : Value} {n : Nat} {xs : List Value} (h : w.ownsRow B 9 1 v n xs) (hb : Below w.heap.size w w1) : w1.ownsRow B 9 1 v n xs := by
  refine ⟨h.1, ?_⟩
  rcases h.2 with h' | ⟨g, cap, cur, hv, hg, hh, r⟩
  · exact .inl h'
  · exact .inr ⟨g, cap, cur, hv, hg, (hb.block g (Array.getElem?_eq_some_iff.1 hh).1).trans hh, r⟩
theorem Below.on'' {B : Nat} {w w1 w2 : World} (h : Below B w w1) (k : Below w1.heap.size w1 w2) (hB : B ≤ w1.heap.size) : Below B w w2 := h.trans (k.mono hB)

theorem row_cell {w : World} {b k : Nat} {ys : List ByteArray} {T : TypeId} (h : w.heap[b]? = some (.cells (ys.map Value.string).toArray T (0, 0))) (hk : k < ys.length) : ∃ u, w.cell? ⟨b, k, none⟩ = some u := by
  rw [cell_of_row _ _ _ _ _ _ h]
  exact ⟨.string ys[k], by simp [hk]⟩

/-- Check's answer, of pages. -/
def ckP (xs : List ByteArray) : Int := if xs.length ≤ 16 then (if xs.all (fun p => decide (p.size = 4)) = true then 0 else 1) else 2
theorem ckP_many {xs : List ByteArray} (h : ¬ xs.length ≤ 16) : ckP xs = 2 := by unfold ckP; rw [if_neg h]
theorem ckP_bad {xs : List ByteArray} (h : xs.length ≤ 16) {j : Nat} (hj : j < xs.length) (hb : (xs.getD j ByteArray.empty).size ≠ 4) : ckP xs = 1 := by
  unfold ckP
  rw [if_pos h, if_neg]
  intro ha
  rw [List.all_eq_true] at ha
  have := ha _ (List.getElem_mem hj)
  simp [List.getD, hj] at hb
  simp [hb] at this
theorem ckP_ok {xs : List ByteArray} (h : xs.length ≤ 16) (ha : ∀ j, j < xs.length → (xs.getD j ByteArray.empty).size = 4) : ckP xs = 0 := by
  unfold ckP
  rw [if_pos h, if_pos]
  rw [List.all_eq_true]
  intro x hx
  obtain ⟨j, hj, rfl⟩ := List.getElem_of_mem hx
  have := ha j hj
  simpa [List.getD, hj] using this
theorem ckP_parts {xs : List ByteArray} (h : ckP xs = 0) : xs.length ≤ 16 ∧ ∀ x ∈ xs, x.size = 4 := by
  unfold ckP at h
  split at h
  · rename_i g
    split at h
    · rename_i g'
      rw [List.all_eq_true] at g'
      exact ⟨g, fun x hx => by simpa using g' x hx⟩
    · simp at h
  · simp at h
theorem ckP_012 (xs : List ByteArray) : ckP xs = 0 ∨ ckP xs = 1 ∨ ckP xs = 2 := by
  unfold ckP
  split
  · split <;> simp
  · simp
end Go.Proofs.Ytehleeibgkpjmac
/- Contracts of isPage, Check, and of the document's CheckPages, SamePages, ZeroPage. -/
namespace Go.Proofs.Ytehleeibgkpjmac
open Go.RowKit
set_option maxRecDepth 20000

theorem isPage_any (p : ByteArray) (w : World) : Calls Try.prog 53 #[.string p] w fun r w' => r = .returned (.bool (decide (p.size = 4))) ∧ w' = w := by
  go_enter Try.func53, Try.ntmps53
  go_wp2
  go_ret
  exact ⟨ret_bool (by simp; omega), rfl⟩

theorem zeroPage_any (w : World) : Calls Try.prog 83 #[] w fun r w' => r = .returned (.string ⟨#[0, 0, 0, 0]⟩) ∧ w' = w := by
  go_enter Try.func83, Try.ntmps83
  go_wp2
  go_ret
  exact ⟨rfl, rfl⟩

theorem pcheck_many (ao : Option Addr) (n cap : Nat) (w : World) (hn : (16 : Int) < (n : Int)) : Calls Try.prog 24 #[.slice ao n cap] w fun r w' => r = .returned (.int .i64 2) ∧ w' = w := by
  go_enter Try.func24, Try.ntmps24
  go_wp2
  go_ret; exact ⟨rfl, rfl⟩

theorem pcheck_0 (ao : Option Addr) (cap : Nat) (w : World) : Calls Try.prog 24 #[.slice ao 0 cap] w fun r w' => r = .returned (.int .i64 0) ∧ w' = w := by
  go_enter Try.func24, Try.ntmps24
  go_wp2
  refine wp_loop_rounds 1 ?_
  rw [rounds_succ]
  go_wp2
  go_ret
  exact ⟨rfl, rfl⟩

theorem pcheck_at (b off n cap : Nat) (xs : List ByteArray) (w : World) (hn : xs.length = n) (h16 : n ≤ 16) (hc : ∀ j, j < n → w.cell? ⟨b, off + j, none⟩ = some (.string (xs.getD j ByteArray.empty))) :
    Calls Try.prog 24 #[.slice (some ⟨b, off, none⟩) n cap] w fun r w' => r = .returned (.int .i64 (ckP xs)) ∧ w' = w := by
  have HC : Hid (∀ j, j < n → w.cell? ⟨b, off + j, none⟩ = some (.string (xs.getD j ByteArray.empty))) := hc
  have HN : Hid (xs.length = n) := hn
  clear hc hn
  have g1 : ¬ (16 : Int) < (n : Int) := by omega
  go_enter Try.func24, Try.ntmps24
  go_wp2
  go_loop [10] (fun i => ∃ k : Nat, k ≤ n ∧ i = .int .i64 k ∧ ∀ j, j < k → (xs.getD j ByteArray.empty).size = 4) (fun i => n - (intOf i).toNat)
  case atStart => exact ⟨0, by omega, rfl, fun j hj => absurd hj (by omega)⟩
  case round =>
    obtain ⟨k, hk, rfl, hall⟩ := hrel
    have HA : Hid (∀ j, j < k → (xs.getD j ByteArray.empty).size = 4) := hall
    clear hall
    by_cases hlt : k < n
    · obtain ⟨x, hx⟩ : ∃ x, xs.getD k ByteArray.empty = x := ⟨_, rfl⟩
      have hck := HC.out k hlt
      rw [hx] at hck
      have HX : Hid (xs.getD k ByteArray.empty = x) := hx
      clear hx
      by_cases hE : x.size = 4
      · have hd : decide (x.size = 4) = true := by simp [hE]
        have HE : Hid (x.size = 4) := hE
        clear hE
        go_wp2_with (go_at_call 53; refine (isPage_any _ _).mono ?_; rintro e w' ⟨rfl, hw⟩; subst hw; rw [hd])
        go_round
        case rel => exact ⟨k + 1, by omega, by go_num, fun j hj => by
          by_cases e : j = k
          · subst e; rw [HX.out]; exact HE.out
          · exact HA.out j (by omega)⟩
        case measure => simp [intOf]; omega
      · have hd : decide (x.size = 4) = false := by simp [hE]
        go_wp2_with (go_at_call 53; refine (isPage_any _ _).mono ?_; rintro e w' ⟨rfl, hw⟩; subst hw; rw [hd])
        go_ret
        exact ⟨ret_int (ckP_bad (by rw [HN.out]; exact h16) (j := k) (by rw [HN.out]; exact hlt) (by rw [HX.out]; exact hE)).symm, rfl⟩
    · have e4 : k = n := by omega
      subst e4
      go_wp2
      go_ret
      exact ⟨ret_int (ckP_ok (by rw [HN.out]; exact h16) (by rw [HN.out]; exact HA.out)).symm, rfl⟩

theorem pcheck_any (v : Value) (xs : List ByteArray) (w : World) (h : Ss w v xs) : Calls Try.prog 24 #[v] w fun r w' => r = .returned (.int .i64 (ckP xs)) ∧ w' = w := by
  obtain ⟨ao, cap, rfl⟩ := h.form
  by_cases h16 : xs.length ≤ 16
  · by_cases h0 : xs.length = 0
    · have e : xs = [] := List.eq_nil_of_length_eq_zero h0
      subst e
      exact pcheck_0 ao cap w
    · obtain ⟨b, off, rfl, hlt, hcell⟩ := h.at (by omega)
      exact pcheck_at b off _ cap xs w rfl h16 hcell
  · rw [ckP_many h16]; exact pcheck_many ao _ cap w (by omega)
theorem pcheck_is {v : Value} {xs : List ByteArray} {w : World} (h : Ss w v xs) {c : Int} (hc : ckP xs = c) : Calls Try.prog 24 #[v] w fun r w' => r = .returned (.int .i64 c) ∧ w' = w := by subst hc; exact pcheck_any v xs w h

theorem samePages_at (ao bo : Option Addr) (n cap cap' : Nat) (xs : List ByteArray) (w : World) (hm : n ≤ 9223372036854775807)
    (hc : ∀ j, j < n → ∃ b off, ao = some ⟨b, off, none⟩ ∧ b < w.heap.size ∧ w.cell? ⟨b, off + j, none⟩ = some (.string (xs.getD j ByteArray.empty)))
    (hd : ∀ j, j < n → ∃ b off, bo = some ⟨b, off, none⟩ ∧ b < w.heap.size ∧ w.cell? ⟨b, off + j, none⟩ = some (.string (xs.getD j ByteArray.empty))) :
    Calls Try.prog 23 #[.slice ao n cap, .slice bo n cap'] w fun r w' => r = .returned (.bool true) ∧ Below w.heap.size w w' := by
  have HC : Hid (∀ j, j < n → ∃ b off, ao = some ⟨b, off, none⟩ ∧ b < w.heap.size ∧ w.cell? ⟨b, off + j, none⟩ = some (.string (xs.getD j ByteArray.empty))) := hc
  have HD : Hid (∀ j, j < n → ∃ b off, bo = some ⟨b, off, none⟩ ∧ b < w.heap.size ∧ w.cell? ⟨b, off + j, none⟩ = some (.string (xs.getD j ByteArray.empty))) := hd
  clear hc hd
  go_enter Try.func23, Try.ntmps23
  go_wp2
  go_loopw [5] (fun i wr => ∃ k : Nat, k ≤ n ∧ i = .int .i64 k ∧ Below w.heap.size w wr) (fun i _ => n - (intOf i).toNat)
  case atStart => exact ⟨0, by omega, rfl, Below.refl _ _⟩
  case round =>
    obtain ⟨k, hk, rfl, hbel⟩ := hrel
    by_cases hlt : k < n
    · obtain ⟨x, hx⟩ : ∃ x, xs.getD k ByteArray.empty = x := ⟨_, rfl⟩
      obtain ⟨b, off, hao, hl1, hck⟩ := HC.out k hlt
      obtain ⟨b', off', hbo, hl2, hck'⟩ := HD.out k hlt
      rw [hx] at hck hck'
      clear hx
      have g1 : wr.cell? ⟨b, off + k, none⟩ = some (.string x) := (hbel.cell (p := ⟨b, off + k, none⟩) hl1).trans hck
      have g2 : wr.cell? ⟨b', off' + k, none⟩ = some (.string x) := (hbel.cell (p := ⟨b', off' + k, none⟩) hl2).trans hck'
      have i1 : (k : Int) < (n : Int) := by omega
      go_wp2
      go_quiet (fail)
      go_wp2
      go_roundw
      case rel => exact ⟨k + 1, by omega, by go_num, below_drewN hbel _⟩
      case measure => simp [intOf]; omega
    · have e4 : k = n := by omega
      subst e4
      go_wp2
      go_ret
      exact ⟨rfl, hbel⟩

theorem samePages_any {v u : Value} {xs : List ByteArray} {w : World} (h : Ss w v xs) (k : Ss w u xs) :
    Calls Try.prog 23 #[v, u] w fun r w' => r = .returned (.bool true) ∧ Below w.heap.size w w' := by
  obtain ⟨ao, cap, rfl⟩ := h.form
  obtain ⟨bo, cap', rfl⟩ := k.form
  obtain ⟨hn, hm, _, hc⟩ := h.cells
  obtain ⟨_, _, _, hd⟩ := k.cells
  exact samePages_at ao bo _ cap cap' xs w hm hc hd
end Go.Proofs.Ytehleeibgkpjmac
/- Pages, plainly: which pages some bytes are, and what is joined; lists of bytes alone. -/
namespace Go.Proofs.Ytehleeibgkpjmac
open Go.RowKit
set_option maxRecDepth 20000

def bytes (s : ByteArray) : List UInt8 := s.data.toList
def ofBytes (l : List UInt8) : ByteArray := ⟨l.toArray⟩
theorem bytes_of (l : List UInt8) : bytes (ofBytes l) = l := by simp [bytes, ofBytes]
theorem of_bytes (s : ByteArray) : ofBytes (bytes s) = s := by cases s; rfl
theorem bytes_inj {a b : ByteArray} (h : bytes a = bytes b) : a = b := by rw [← of_bytes a, ← of_bytes b, h]
theorem bytes_size (s : ByteArray) : (bytes s).length = s.size := by cases s; rfl
theorem bytes_append (a b : ByteArray) : bytes (a ++ b) = bytes a ++ bytes b := by simp [bytes]
theorem bytes_extract (s : ByteArray) (a b : Nat) : bytes (s.extract a b) = ((bytes s).drop a).take (b - a) := Lib.extract_data s a b

/-- As many 0 behind as a page wants. -/
def padL (p : List UInt8) : List UInt8 := p ++ List.replicate (4 - p.length) 0
/-- Page k of the bytes l. -/
def pageL (l : List UInt8) (k : Nat) : List UInt8 := padL ((l.drop (4 * k)).take 4)
def pageB (l : List UInt8) (k : Nat) : ByteArray := ofBytes (pageL l k)
def countP (n : Nat) : Nat := (n + 3) / 4
/-- The pages that the bytes l are. -/
def splitP (l : List UInt8) : List ByteArray := (List.range (countP l.length)).map (pageB l)
def splitE (n : Nat) : Int := if n ≤ 64 then 0 else 2
/-- What is answered by Split. -/
def splitA (s : ByteArray) : List ByteArray := if s.size ≤ 64 then splitP (bytes s) else []

theorem padL_length {p : List UInt8} (h : p.length ≤ 4) : (padL p).length = 4 := by unfold padL; simp; omega
theorem padL_full {p : List UInt8} (h : p.length = 4) : padL p = p := by unfold padL; rw [h]; simp
theorem pageL_length (l : List UInt8) (k : Nat) : (pageL l k).length = 4 := padL_length (by simp; omega)
theorem pageB_size (l : List UInt8) (k : Nat) : (pageB l k).size = 4 := by rw [← bytes_size, pageB, bytes_of, pageL_length]
theorem splitP_length (l : List UInt8) : (splitP l).length = countP l.length := by simp [splitP]
theorem range_snoc (l : List UInt8) (k : Nat) : (List.range (k + 1)).map (pageB l) = (List.range k).map (pageB l) ++ [pageB l k] := by simp [List.range_succ]

/-- A whole page at the head of what is left. -/
theorem page_head {l : List UInt8} {t : ByteArray} {k : Nat} (ht : bytes t = l.drop (4 * k)) (h4 : 4 ≤ t.size) : t.extract 0 4 = pageB l k := by
  apply bytes_inj
  rw [bytes_extract, pageB, bytes_of, pageL, ht]
  rw [List.drop_zero]
  have : (l.drop (4 * k)).length = t.size := by rw [← ht, bytes_size]
  rw [padL_full (by simp at this ⊢; omega)]
theorem page_rest {l : List UInt8} {t : ByteArray} {k : Nat} (ht : bytes t = l.drop (4 * k)) : bytes (t.extract 4 t.size) = l.drop (4 * (k + 1)) := by
  rw [bytes_extract, ht, List.drop_drop]
  have : (l.drop (4 * k)).length = t.size := by rw [← ht, bytes_size]
  rw [List.take_of_length_le (by simp at this ⊢; omega)]
  congr 1
/-- The last page, with 0 behind. -/
theorem page_last {l : List UInt8} {t : ByteArray} {k : Nat} (ht : bytes t = l.drop (4 * k)) (h4 : t.size ≤ 4) : t ++ ofBytes (List.replicate (4 - t.size) 0) = pageB l k := by
  apply bytes_inj
  have hl : (l.drop (4 * k)).length = t.size := by rw [← ht, bytes_size]
  rw [bytes_append, bytes_of, pageB, bytes_of, pageL, ht, List.take_of_length_le (by omega)]
  unfold padL
  rw [hl]

/-- The bytes with 0 behind up to a whole number of pages: page k of them. -/
theorem page_padded {l m : List UInt8} {p k : Nat} (hm : m = l ++ List.replicate p 0) (hp : m.length % 4 = 0) (hk : 4 * k < m.length) (hp3 : p ≤ 3) : (m.drop (4 * k)).take 4 = pageL l k := by
  subst hm
  have hlen : (l ++ List.replicate p (0 : UInt8)).length = l.length + p := by simp
  rw [hlen] at hp hk
  unfold pageL padL
  rw [List.drop_append, List.take_append]
  have e1 : 4 * k - l.length = 0 ∨ l.length ≤ 4 * k := by omega
  rcases Nat.lt_or_ge l.length (4 * k) with h | h
  · omega
  · rw [show 4 * k - l.length = 0 by omega, List.drop_zero]
    congr 1
    simp only [List.length_take, List.length_drop]
    rw [List.take_replicate]
    congr 1
    omega

theorem repeat_zero (n : Nat) : Lib.repeatL [0] n = List.replicate n 0 := by
  induction n with
  | zero => rfl
  | succ n ih => rw [Lib.repeatL, ih]; rfl

/-- All pages, one behind the other. -/
def joinB (xs : List ByteArray) : ByteArray := ofBytes (xs.map bytes).flatten
theorem joinB_nil : joinB [] = ByteArray.empty := rfl
theorem joinB_snoc (xs : List ByteArray) (x : ByteArray) : joinB (xs ++ [x]) = joinB xs ++ x := by
  apply bytes_inj
  rw [bytes_append, joinB, joinB, bytes_of, bytes_of]
  simp
theorem join_flat (ls : List (List UInt8)) : Lib.join ls [] = ls.flatten := by
  unfold Lib.join List.intercalate
  induction ls with
  | nil => rfl
  | cons a r ih =>
    cases r with
    | nil => simp
    | cons b t => simp at ih ⊢; exact ih
theorem joinB_size {xs : List ByteArray} (h : ∀ x ∈ xs, x.size = 4) : (joinB xs).size = 4 * xs.length := by
  rw [← bytes_size, joinB, bytes_of]
  induction xs with
  | nil => rfl
  | cons a r ih =>
    rw [List.map_cons, List.flatten_cons, List.length_append, bytes_size, h a (by simp), ih (fun x hx => h x (by simp [hx]))]
    simp; omega
end Go.Proofs.Ytehleeibgkpjmac
/- The library's contracts that are used here, at this program: strings.Repeat, strings.Join. -/
namespace Go.Proofs
open Go.Shelf
def Try.lays105_ren : Go.Shelf.Ren := ⟨fun | 105 => 123 | 212 => 125 | 99 => 126 | 165 => 127 | 166 => 128 | 170 => 129 | 169 => 130 | 263 => 132 | 264 => 133 | 206 => 134 | 240 => 135 | 241 => 136 | 276 => 137 | 277 => 138 | n => n, fun | 9 => 9 | 3 => 3 | 4 => 4 | 20 => 20 | 0 => 0 | 46 => 131 | 109 => 132 | 5 => 5 | 72 => 138 | 76 => 142 | 51 => 146 | 146 => 147 | 53 => 149 | 148 => 150 | 70 => 135 | 37 => 136 | 75 => 141 | 127 => 152 | 164 => 153 | 80 => 96 | n => n, fun | n => n⟩
theorem Try.lays105 : Go.Proofs.Lays.n105 Try.prog Try.lays105_ren := {
  mixed := by kernel_rfl
  f99 := Try.func126.trans (congrArg some (by kernel_rfl))
  f105 := Try.func123.trans (congrArg some (by kernel_rfl))
  f165 := Try.func127.trans (congrArg some (by kernel_rfl))
  f166 := Try.func128.trans (congrArg some (by kernel_rfl))
  f169 := Try.func130.trans (congrArg some (by kernel_rfl))
  f170 := Try.func129.trans (congrArg some (by kernel_rfl))
  f206 := Try.func134.trans (congrArg some (by kernel_rfl))
  f212 := Try.func125.trans (congrArg some (by kernel_rfl))
  f240 := Try.func135.trans (congrArg some (by kernel_rfl))
  f241 := Try.func136.trans (congrArg some (by kernel_rfl))
  f263 := Try.func132.trans (congrArg some (by kernel_rfl))
  f264 := Try.func133.trans (congrArg some (by kernel_rfl))
  f276 := Try.func137.trans (congrArg some (by kernel_rfl))
  f277 := Try.func138.trans (congrArg some (by kernel_rfl))
  t0 := Try.underlying0
  a0 := Try.isAgg0
  z0 := Try.sizeOf0
  v0 := Try.zeroValue0
  t3 := Try.underlying3
  a3 := Try.isAgg3
  z3 := Try.sizeOf3
  v3 := Try.zeroValue3
  t4 := Try.underlying4
  a4 := Try.isAgg4
  z4 := Try.sizeOf4
  v4 := Try.zeroValue4
  t5 := Try.underlying5
  a5 := Try.isAgg5
  z5 := Try.sizeOf5
  v5 := Try.zeroValue5
  t9 := Try.underlying9
  a9 := Try.isAgg9
  z9 := Try.sizeOf9
  v9 := Try.zeroValue9
  t20 := Try.underlying20
  a20 := Try.isAgg20
  z20 := Try.sizeOf20
  v20 := Try.zeroValue20
  t37 := Try.underlying136
  a37 := Try.isAgg136
  z37 := Try.sizeOf136
  v37 := Try.zeroValue136
  t46 := Try.underlying131
  a46 := Try.isAgg131
  z46 := Try.sizeOf131
  v46 := Try.zeroValue131
  t51 := Try.underlying146
  a51 := Try.isAgg146
  z51 := Try.sizeOf146
  v51 := Try.zeroValue146
  t53 := Try.underlying149
  a53 := Try.isAgg149
  z53 := Try.sizeOf149
  v53 := Try.zeroValue149
  t70 := Try.underlying135
  a70 := Try.isAgg135
  z70 := Try.sizeOf135
  v70 := Try.zeroValue135
  t72 := Try.underlying138
  a72 := Try.isAgg138
  z72 := Try.sizeOf138
  v72 := Try.zeroValue138
  t75 := Try.underlying141
  a75 := Try.isAgg141
  z75 := Try.sizeOf141
  v75 := Try.zeroValue141
  t76 := Try.underlying142
  a76 := Try.isAgg142
  z76 := Try.sizeOf142
  v76 := Try.zeroValue142
  t109 := Try.underlying132
  a109 := Try.isAgg132
  z109 := Try.sizeOf132
  v109 := Try.zeroValue132
  t127 := Try.underlying152
  a127 := Try.isAgg152
  z127 := Try.sizeOf152
  v127 := Try.zeroValue152
  t146 := Try.underlying147
  a146 := Try.isAgg147
  z146 := Try.sizeOf147
  v146 := Try.zeroValue147
  t148 := Try.underlying150
  a148 := Try.isAgg150
  z148 := Try.sizeOf150
  v148 := Try.zeroValue150
  t164 := Try.underlying153
  a164 := Try.isAgg153
  z164 := Try.sizeOf153
  v164 := Try.zeroValue153 }
theorem Try.Builder_Extra_105 : Builder.Extra Try.prog Try.lays105_ren := {
  sizeBuilder := by kernel_rfl
  liesBuilder := by kernel_rfl
  t5 := Try.underlying5
  a5 := Try.isAgg5
  z5 := Try.sizeOf5
  v5 := Try.zeroValue5
  infoByte := by kernel_rfl
  cellsByte := by kernel_rfl
  sizeByte := by kernel_rfl
  neB5 := by decide }
open Go.RowKit Go.Lib in
theorem Try.strings_Repeat (s : ByteArray) (c : Nat) (w : World) (hc : c ≤ 9223372036854775807) (hlen : s.size * c ≤ 140737488355328) :
    Calls Try.prog 123 #[.string s, .int .i64 c] w fun e w' => e = .returned (.string ⟨(Lib.repeatL s.data.toList c).toArray⟩) ∧ Below w.heap.size w w' := Any.strings_Repeat Try.lays105 Try.Builder_Extra_105 s c w hc hlen
end Go.Proofs
/- Contracts of zeros and Zero; the law of an append of one string. -/
namespace Go.Proofs.Ytehleeibgkpjmac
open Go.RowKit
set_option maxRecDepth 20000

theorem zeros_any (n : Nat) (w : World) (hn : n ≤ 4) : Calls Try.prog 106 #[.int .i64 n] w fun r w' => r = .returned (.string (ofBytes (List.replicate n 0))) ∧ Below w.heap.size w w' := by
  have h := Try.strings_Repeat ⟨#[0]⟩ n w (by omega) (by show 1 * n ≤ _; omega)
  rw [show (⟨#[0]⟩ : ByteArray).data.toList = [0] from rfl, repeat_zero] at h
  have HH : Hid (Calls Try.prog 123 #[.string ⟨#[0]⟩, .int .i64 n] w fun e w' => e = .returned (.string (ofBytes (List.replicate n 0))) ∧ Below w.heap.size w w') := h
  clear h
  go_enter Try.func106, Try.ntmps106
  go_wp2_with (go_at_call 123; refine (HH.out).mono ?_; rintro e w1 ⟨rfl, b1⟩)
  go_ret
  exact ⟨rfl, b1⟩

/-- How long is the text in a slot? -/
def strLen : Value → Nat | .string s => s.size | _ => 0
theorem zero_any (w : World) : Calls Try.prog 77 #[] w fun r w' => r = .returned (.string Z4) ∧ Below w.heap.size w w' := by
  go_enter Try.func77, Try.ntmps77
  go_wp2_with (go_at_call 106; refine (zeros_any 4 _ (by omega)).mono ?_; rintro e w1 ⟨rfl, b1⟩)
  go_ret
  exact ⟨rfl, b1⟩

theorem Try.info9 : (Try.prog.info? 9).map (fun i => (i.zero, i.size, i.bytes)) = some (some (.string ByteArray.empty), 1, 16) := by kernel_rfl

theorem Ss_of_owns {w : World} {base n : Nat} {v : Value} {xs : List ByteArray} (h : w.ownsRow base 9 1 v n (xs.map Value.string)) : Ss w v xs := by
  have hl : xs.length = n := by have := h.1; simpa using this
  have h' := h
  rcases h.2 with ⟨rfl, rfl⟩ | ⟨g, cap, cur, rfl, _⟩
  · have : xs = [] := List.eq_nil_of_length_eq_zero hl
    subst this
    exact Ss.nil w
  · exact Ss_of_own h'

theorem one_new (w : World) (y : ByteArray) : ∀ (j : Nat) (u : Value), [Value.string y][j]? = some u → (w.alloc (.cells #[.string y] 9)).cell? ((⟨w.heap.size, 0, none⟩ : Addr).add j) = some u := by
  intro j u hj
  match j, hj with
  | 0, hj =>
    simp at hj
    subst hj
    rw [addr_add, World.cell?_alloc_at _ _ _ _ rfl]
    rfl

/-- 'l = append(l, y)' of one string, l nil or the call's own, at its call in a walk. -/
theorem app_str {w0 w : World} {ops : Array Oper} {rest : List Oper} {o : Oper} {a : Act} {Q : Exit → Act → World → Prop} (hgd : o.guard = none) (s x : Operand)
    (ho : o.op = .call { callee := .builtin .append, args := #[s, x], argTypes := #[40, 40] }) (v : Value) (xs : List ByteArray) (y : ByteArray) (B : Nat) (hs : a.eval s = v) (hx : a.eval x = .slice (some ⟨w.heap.size, 0, none⟩) 1 1)
    (hown : w.ownsRow B 9 1 v xs.length (xs.map Value.string)) (hl : xs.length ≤ 1000) (hB : B ≤ w.heap.size) (hbel : Below B w0 w)
    (h : ∀ v' w', Hid (w'.ownsRow B 9 1 v' (xs ++ [y]).length ((xs ++ [y]).map Value.string)) → Below B w0 w' → B ≤ w'.heap.size → wpList Try.prog ops Q rest (a.put o.dst v') w') :
    wpList Try.prog ops Q (o :: rest) a (w.alloc (.cells #[.string y] 9)) := by
  obtain ⟨i0, hi, hz0, hz1, hz2⟩ := info_parts Try.info9
  refine wpList_append_own (w.alloc (.cells #[.string y] 9)) hgd s x 40 ho B 9 i0 (.string ByteArray.empty) 1 16 Try.underlying40 hi hz0 hz1 hz2 rfl (by decide) v xs.length _ hs (hown.alloc _) ⟨w.heap.size, 0, none⟩ 1 1 [.string y] hx rfl (one_new w y) (by intro u hu; simp at hu; subst hu; rfl) (by unfold maxLen; omega) (by omega) (by simp; omega) ?_
  intro v' w' hown' hgrow _
  have hz : w.heap.size ≤ w'.heap.size := Nat.le_trans (by simp) hgrow.size
  refine h v' w' ?_ ((hbel.alloc hB _).grown hgrow (by simp; omega) ?_) (Nat.le_trans hB hz)
  · show w'.ownsRow _ _ _ _ _ _
    rw [List.map_append, List.length_append]; exact hown'
  · intro k hk
    exact (hown.lt k hk).1
end Go.Proofs.Ytehleeibgkpjmac
/- Contracts of reads.page, allPages, Read, All. -/
namespace Go.Proofs.Ytehleeibgkpjmac
open Go.RowKit Go.Shelf
set_option maxRecDepth 20000

def SAt (W : World) (g : Nat) (l : List ByteArray) : Prop := W.heap[g]? = some (.cells (l.map Value.string).toArray 9)
theorem SAt.cell {W : World} {g : Nat} {l : List ByteArray} (h : SAt W g l) {j : Nat} (hj : j < l.length) : W.cell? ⟨g, j, none⟩ = some (.string (l.getD j ByteArray.empty)) := by
  have h' : W.heap[g]? = some (.cells (l.map Value.string).toArray 9) := h
  simp [World.cell?, h', List.getD, hj]
theorem SAt.frozen {W : World} {g : Nat} {l : List ByteArray} (h : SAt W g l) (j : Nat) : W.frozen? ⟨g, j, none⟩ = false := by
  have h' : W.heap[g]? = some (.cells (l.map Value.string).toArray 9) := h
  simp [World.frozen?, h']
theorem SAt.lt {W : World} {g : Nat} {l : List ByteArray} (h : SAt W g l) : g < W.heap.size := (Array.getElem?_eq_some_iff.1 h).1
theorem SAt.set {W : World} {g : Nat} {l : List ByteArray} (h : SAt W g l) (j : Nat) (x : ByteArray) : SAt (W.setCell ⟨g, j, none⟩ (.string x)) g (l.set j x) := by
  obtain ⟨hlt, hk⟩ := Array.getElem?_eq_some_iff.1 h
  show (W.heap.modify g _)[g]? = _
  rw [Array.getElem?_eq_getElem (by rw [Array.size_modify]; exact hlt), Array.getElem_modify_self, hk]
  simp [List.map_set]
theorem SAt.ss {W : World} {g n : Nat} {l : List ByteArray} (h : SAt W g l) (hn : l.length = n) (hm : n ≤ maxLen) : Ss W (.slice (some ⟨g, 0, none⟩) n n) l := by
  subst hn
  exact ⟨_, _, rfl, hm, Nat.le_refl _, fun _ => ⟨g, 0, rfl, h.lt, fun j hj => by rw [Nat.zero_add]; exact h.cell hj⟩⟩
theorem mk_strs (n : Nat) (hn : n ≤ 40) (W : World) : (Instr.makeSlice 40 (.int .i64 (n : Int)) (.int .i64 (n : Int))).run Try.prog W = .ok (.slice (some ⟨W.heap.size, 0, none⟩) n n) (W.alloc (.cells ((List.replicate n ByteArray.empty).map Value.string).toArray 9)) := by
  have hi := Try.info9
  cases h : Try.prog.info? 9 with
  | none => rw [h] at hi; cases hi
  | some i =>
    rw [h] at hi
    simp at hi
    have := run_make (P := Try.prog) W 40 9 i (.string ByteArray.empty) Try.underlying40 h hi.1 .i64 .i64 n n (by omega) (by omega) (by rw [hi.2.2]; omega) (by omega)
    rw [this, hi.2.1]
    have e : madeCells (Value.string ByteArray.empty).cells (((n : Int)).toNat * 1) = ((List.replicate n ByteArray.empty).map Value.string).toArray := by
      apply Array.ext
      · simp [madeCells]
      · intro j h1 h2
        simp [madeCells, Value.cells, Nat.mod_one]
    rw [e]
    simp

theorem page_zero (la : Option Addr) (ln lc : Nat) (e : Int) (w : World) (he : e = 0 ∨ e = -1) :
    Calls Try.prog 42 #[.slice la ln lc, .int .i64 e] w fun r w' => r = .returned (.string Z4) ∧ Below w.heap.size w w' := by
  rcases he with rfl | rfl
  all_goals
    go_enter Try.func42, Try.ntmps42
    go_wp2_with (go_at_call 77; refine (zero_any _).mono ?_; rintro e w1 ⟨rfl, b1⟩)
    go_ret
    exact ⟨rfl, b1⟩
theorem page_slot (lb lo : Nat) (ln lc : Nat) (j : Nat) (d : ByteArray) (w : World) (h1 : 1 ≤ j) (hj : j < ln) (hc : w.cell? ⟨lb, lo + j * 3 + 1, none⟩ = some (.string d)) :
    Calls Try.prog 42 #[.slice (some ⟨lb, lo, none⟩) ln lc, .int .i64 j] w fun r w' => r = .returned (.string d) ∧ Below w.heap.size w w' := by
  have h0 : ((j : Int) == 0) = false := by simp; omega
  have hm : ((j : Int) == -1) = false := by simp <;> omega
  have hji : (j : Int) < (ln : Int) := by omega
  go_enter Try.func42, Try.ntmps42
  go_wp2_with fail
  go_ret
  exact ⟨rfl, Below.refl _ _⟩
theorem page_is {lv : Value} {L : List SlotD} {w : World} (h : Slots w lv L) {e : Int} (he : e = 0 ∨ e = -1 ∨ ∃ j : Nat, e = j ∧ 1 ≤ j ∧ j < L.length) {p : ByteArray} (hp : pageV L e = p) :
    Calls Try.prog 42 #[lv, .int .i64 e] w fun r w' => r = .returned (.string p) ∧ Below w.heap.size w w' := by
  unfold pageV at hp
  have h' := h
  obtain ⟨la, lc, rfl⟩ := h.form
  rcases he with he | he | ⟨j, rfl, h1, hj⟩
  · rw [if_pos (by omega)] at hp; subst hp
    exact page_zero la _ lc e w (.inl he)
  · rw [if_pos (by omega)] at hp; subst hp
    exact page_zero la _ lc e w (.inr he)
  · rw [if_neg (by omega)] at hp
    obtain ⟨sb, so, rfl, hsb, tv, _, c2, _⟩ := h'.at j hj
    have e : L.getD (j : Int).toNat default = L[j] := by simp [List.getD, hj]
    rw [e] at hp
    rw [hp] at c2
    exact page_slot sb so _ lc j p w h1 hj c2

def rowP (m : ImgD) (root : List Int) (g k : Nat) : List ByteArray := (List.range g).map (fun n => if n < k then pageV m.slots (lookV m root n) else ByteArray.empty)
theorem rowP_length (m : ImgD) (root : List Int) (g k : Nat) : (rowP m root g k).length = g := by simp [rowP]
theorem rowP_zero (m : ImgD) (root : List Int) (g : Nat) : rowP m root g 0 = List.replicate g ByteArray.empty := by
  unfold rowP
  apply List.ext_getElem <;> simp
theorem rowP_end (m : ImgD) (root : List Int) (g : Nat) : rowP m root g g = allP m root g := by
  unfold rowP allP
  exact List.map_congr_left fun n hn => by rw [if_pos (List.mem_range.1 hn)]
theorem rowP_set (m : ImgD) (root : List Int) (g k : Nat) : (rowP m root g k).set k (pageV m.slots (lookV m root k)) = rowP m root g (k + 1) := by
  unfold rowP
  apply List.ext_getElem
  · simp
  · intro j h1 h2
    rw [List.getElem_set]
    by_cases e : k = j
    · subst e; simp
    · rw [if_neg e]
      simp only [List.getElem_map, List.getElem_range]
      by_cases c : j < k
      · rw [if_pos c, if_pos (by omega)]
      · rw [if_neg c, if_neg (by omega)]

theorem SAt.below {W W' : World} {g n : Nat} {l : List ByteArray} (h : SAt W g l) (hb : Below n W W') (hg : g < n) : SAt W' g l := (hb.block _ hg).trans h

set_option maxHeartbeats 4000000 in
theorem allPages_at (sa : Option Addr) (sn sc : Nat) (qa : Option Addr) (qn qc : Nat) (g : Nat) (m : ImgD) (root : List Int) (w : World) (hS : Slots w (.slice sa sn sc) m.slots) (hq : Sl w (.slice qa qn qc) root) (hg : g ≤ 16) (hl : (root.length : Int) = ((g : Int) + 3) / 4) (hE : shapeE m = 0) (hall : root.all (rootE m.slots) = true) :
    Calls Try.prog 43 #[.slice sa sn sc, .slice qa qn qc, .int .i64 g] w fun r w' => (r = .returned (.slice (some ⟨w.heap.size, 0, none⟩) g g) ∧ SAt w' w.heap.size (allP m root g)) ∧ Below w.heap.size w w' := by
  have hmk := mk_strs g (by omega)
  obtain ⟨W0, hW0⟩ : ∃ W0, w.alloc (.cells ((List.replicate g ByteArray.empty).map Value.string).toArray 9) = W0 := ⟨_, rfl⟩
  have l0 : SAt W0 w.heap.size (rowP m root g 0) := by
    rw [rowP_zero, ← hW0]; exact World.alloc_heap_new _ _
  have b0 : Below w.heap.size w W0 := by rw [← hW0]; exact (Below.refl _ _).alloc (Nat.le_refl _) _
  have H1 : Hid (Slots w (.slice sa sn sc) m.slots) := hS
  have H2 : Hid (Sl w (.slice qa qn qc) root ∧ root.length = qn) := ⟨hq, hq.cells.1⟩
  have H3 : Hid ((root.length : Int) = ((g : Int) + 3) / 4) := hl
  have H4 : Hid (shapeE m = 0 ∧ root.all (rootE m.slots) = true) := ⟨hE, hall⟩
  have H5 : Hid (m.slots.length = sn) := by
    obtain ⟨_, _, e, _⟩ := hS
    simp at e
    exact e.2.1.symm
  clear hS hq hl hE hall
  go_enter Try.func43, Try.ntmps43
  go_wp2_with fail
  rw [show w.alloc (Obj.cells (Array.replicate g (Value.string ByteArray.empty)) 9) = W0 by rw [← hW0]; simp]
  clear hmk hW0
  go_loopw [8, 9, 10, 15] (fun _ _ _ i wq => ∃ k : Nat, k ≤ g ∧ i = .int .i64 k ∧ SAt wq w.heap.size (rowP m root g k) ∧ Below w.heap.size w wq) (fun _ _ _ i _ => g - (intOf i).toNat)
  case atStart => exact ⟨0, Nat.zero_le _, rfl, l0, b0⟩
  case round =>
    obtain ⟨k, hk, rfl, hL, hbel⟩ := hrel
    by_cases hlk : k < g
    · have hki : (k : Int) < (g : Int) := by omega
      have hkq : k / 4 < root.length := by have := H3.out; omega
      have hqn : k / 4 < qn := by rw [← H2.out.2]; exact hkq
      obtain ⟨b, off, rfl, hlt, hcr⟩ := H2.out.1.cells.2.2.2 (k / 4) hqn
      have hcr := (hbel.cell (p := ⟨b, off + k / 4, none⟩) hlt).trans hcr
      have hq1 : ((k : Int) / 4).toNat = k / 4 := by omega
      have hq2 : ((k : Int) % 4).toNat = k % 4 := by omega
      have hqi : (k : Int) / 4 < (qn : Int) := by omega
      have hent := lookV_ent H4.out.1 H4.out.2 k hkq
      obtain ⟨p, hp⟩ : ∃ p, pageV m.slots (lookV m root k) = p := ⟨_, rfl⟩
      have hcall := fun W (hW : Below w.heap.size w W) => page_is (H1.out.below hW) (hent.imp id (Or.imp id (fun ⟨j, a, b, c, _⟩ => ⟨j, a, b, c⟩))) hp
      have HP : Hid ((rowP m root g k).set k p = rowP m root g (k + 1)) := by show _ = _; rw [← hp]; exact rowP_set m root g k
      have hfx := hL.frozen k
      have hcx := hL.cell (j := k) (by rw [rowP_length]; exact hlk)
      have hzr := hL.lt
      obtain ⟨x, hx⟩ : ∃ x, root.getD (k / 4) 0 = x := ⟨_, rfl⟩
      have HX : Hid (lookV m root k = if x = 0 then 0 else (tabOf m.slots x).getD (k % 4) 0) := by show _ = _; unfold lookV; rw [hx]
      have HXe : Hid (rootE m.slots x = true) := by show _ = _; rw [← hx]; exact all_at H4.out.2 hkq
      rw [hx] at hcr
      clear hp hx hent
      by_cases hx0 : x = 0
      · have hxb : (x != 0) = false := by simp [hx0]
        rw [HX.out, if_pos hx0] at hcall
        clear hx0
        go_wp2_with fail
        refine (hcall _ hbel).mono ?_
        rintro e w1 ⟨rfl, b1⟩
        have hL1 := hL.below b1 hzr
        have hfx := hL1.frozen k
        have hcx := hL1.cell (j := k) (by rw [rowP_length]; exact hlk)
        have hb1 := Below.on hbel b1
        clear hcall
        go_wp2_with fail
        go_roundw
        case rel => exact ⟨k + 1, by omega, by go_num, by rw [← HP.out]; exact hL1.set k p, hb1.setCell (Nat.le_refl _) _⟩
        case measure => simp [intOf]; omega
      · have hxb : (x != 0) = true := by simp [hx0]
        have hkd := HXe.out
        rw [rootE_x hx0] at hkd
        rw [HX.out, if_neg hx0] at hcall
        obtain ⟨t, rfl, htl, hk2⟩ := isKd_yes hkd
        have hok := okD_tab (slotsE_all (shapeE_zero H4.out.1).2.1 htl) hk2
        obtain ⟨sb, so, rfl, hsb, tv, _, _, c3, hsl⟩ := H1.out.at t htl
        obtain ⟨tb, tw, tc, rfl, _, htb, htc⟩ := hsl.four hok.1
        have hts : t < sn := by rw [← H5.out]; exact htl
        have hti : (t : Int) < (sn : Int) := by omega
        have ct : wr.cell? ⟨sb, so + t * 3 + 2, none⟩ = some (.slice (some ⟨tb, tw, none⟩) 4 tc) := (hbel.cell (p := ⟨sb, so + t * 3 + 2, none⟩) hsb).trans c3
        have cx := (hbel.cell (p := ⟨tb, tw + k % 4, none⟩) htb).trans (htc (k % 4) (by omega))
        have etab : m.slots[t].2.2 = tabOf m.slots t := by unfold tabOf; simp [List.getD, htl]
        rw [etab] at cx
        obtain ⟨y, hy⟩ : ∃ y, (tabOf m.slots t).getD (k % 4) 0 = y := ⟨_, rfl⟩
        rw [hy] at cx hcall
        have h4 : k % 4 < 4 := by omega
        clear hx0 hkd hk2 hok hsl htc c3 etab hy
        go_wp2_with fail
        refine (hcall _ hbel).mono ?_
        rintro e w1 ⟨rfl, b1⟩
        have hL1 := hL.below b1 hzr
        have hfx := hL1.frozen k
        have hcx := hL1.cell (j := k) (by rw [rowP_length]; exact hlk)
        have hb1 := Below.on hbel b1
        clear hcall
        go_wp2_with fail
        go_roundw
        case rel => exact ⟨k + 1, by omega, by go_num, by rw [← HP.out]; exact hL1.set k p, hb1.setCell (Nat.le_refl _) _⟩
        case measure => simp [intOf]; omega
    · have e4 : k = g := by omega
      subst e4
      go_wp2_with fail
      go_ret
      exact ⟨⟨rfl, by rw [← rowP_end]; exact hL⟩, hbel⟩
theorem allP_length (m : ImgD) (root : List Int) (g : Nat) : (allP m root g).length = g := by simp [allP]
/-- All pages of a Root that fits. -/
theorem allPages_is {lv rv : Value} {m : ImgD} {g : Int} {root : List Int} {w : World} (hS : Slots w lv m.slots) (hq : Sl w rv root) (hE : shapeE m = 0) (hg : guestOK g = true) (hf : rootFit m.slots g root = true) :
    Calls Try.prog 43 #[lv, rv, .int .i64 g] w fun r w' => (∃ v, r = .returned v ∧ Ss w' v (allP m root g.toNat)) ∧ Below w.heap.size w w' := by
  unfold guestOK at hg
  simp only [decide_eq_true_eq] at hg
  unfold rootFit at hf
  simp only [Bool.and_eq_true, decide_eq_true_eq] at hf
  obtain ⟨k, rfl⟩ : ∃ k : Nat, g = k := ⟨g.toNat, by omega⟩
  obtain ⟨sa, sc, rfl⟩ := hS.form
  obtain ⟨qa, qc, rfl⟩ := hq.form
  rw [Int.toNat_natCast]
  exact (allPages_at sa _ sc qa _ qc k m root w hS hq (by omega) hf.1 hE hf.2.1).mono fun _ _ h => ⟨⟨_, h.1.1, h.1.2.ss (allP_length _ _ _) (by unfold maxLen; omega)⟩, h.2⟩

theorem lookE_parts {m : ImgD} {n : Int} (h : lookE m n = 0) : checkE m = 0 ∧ 0 ≤ n ∧ n < m.guest := by
  unfold lookE at h
  split at h
  · rename_i h0; exact absurd h h0
  rename_i h0
  split at h
  · rename_i hn; exact ⟨Classical.not_not.1 h0, hn⟩
  · simp at h
theorem look_ent {m : ImgD} {n : Int} (h : lookE m n = 0) : lookV m m.root n.toNat = 0 ∨ lookV m m.root n.toNat = -1 ∨ ∃ j : Nat, lookV m m.root n.toNat = j ∧ 1 ≤ j ∧ j < m.slots.length := by
  obtain ⟨h0, h1, h2⟩ := lookE_parts h
  have hs := checkE_shape h0
  have hg := guest_ok hs
  have hr := root_ok hs
  exact (lookV_ent hs hr.2 n.toNat (by omega)).imp id (Or.imp id (fun ⟨j, a, b, c, _⟩ => ⟨j, a, b, c⟩))

theorem read_bad (gm : Int) (ra : Option Addr) (rn rc : Nat) (sa : Option Addr) (sn sc : Nat) (fa : Option Addr) (fn fc : Nat) (na : Option Addr) (nn nc : Nat) (m : ImgD) (n E : Int) (w : World) (h : Img w (.agg #[.int .i64 gm, .slice ra rn rc, .slice sa sn sc, .slice fa fn fc, .slice na nn nc]) m) (hE : lookE m n = E) (hne : (E != 0) = true) :
    Calls Try.prog 14 #[.agg #[.int .i64 gm, .slice ra rn rc, .slice sa sn sc, .slice fa fn fc, .slice na nn nc], .int .i64 n] w fun r w' => r = .returned (.tuple #[.string ⟨#[]⟩, .int .i64 E]) ∧ Below w.heap.size w w' := by
  have b0 : Below w.heap.size w (w.alloc (.cells #[.int .i64 gm, .slice ra rn rc, .slice sa sn sc, .slice fa fn fc, .slice na nn nc] 26)) := (Below.refl _ _).alloc (Nat.le_refl _) _
  have m0 : (w.alloc (.cells #[.int .i64 gm, .slice ra rn rc, .slice sa sn sc, .slice fa fn fc, .slice na nn nc] 26)).heap[w.heap.size]? = some (.cells #[.int .i64 gm, .slice ra rn rc, .slice sa sn sc, .slice fa fn fc, .slice na nn nc] 26) := World.alloc_heap_new _ _
  have z0 : w.heap.size < (w.alloc (.cells #[.int .i64 gm, .slice ra rn rc, .slice sa sn sc, .slice fa fn fc, .slice na nn nc] 26)).heap.size := by simp
  have h1 := look_is (h.below b0) n hE (c := 0) (by rw [if_neg (by intro e; rw [e] at hne; cases hne)])
  clear h hE
  go_enter Try.func14, Try.ntmps14
  go_wp2_with fail
  refine h1.mono ?_
  rintro e w1 ⟨rfl, b1⟩
  go_wp2_with fail
  go_ret2
  exact ⟨rfl, Below.on b0 b1⟩
theorem read_at (gm : Int) (ra : Option Addr) (rn rc : Nat) (sa : Option Addr) (sn sc : Nat) (fa : Option Addr) (fn fc : Nat) (na : Option Addr) (nn nc : Nat) (m : ImgD) (n : Int) (w : World) (h : Img w (.agg #[.int .i64 gm, .slice ra rn rc, .slice sa sn sc, .slice fa fn fc, .slice na nn nc]) m) (hS : Slots w (.slice sa sn sc) m.slots) (hE : lookE m n = 0) (p : ByteArray) (hp : pageV m.slots (lookV m m.root n.toNat) = p) :
    Calls Try.prog 14 #[.agg #[.int .i64 gm, .slice ra rn rc, .slice sa sn sc, .slice fa fn fc, .slice na nn nc], .int .i64 n] w fun r w' => r = .returned (.tuple #[.string p, .int .i64 0]) ∧ Below w.heap.size w w' := by
  have b0 : Below w.heap.size w (w.alloc (.cells #[.int .i64 gm, .slice ra rn rc, .slice sa sn sc, .slice fa fn fc, .slice na nn nc] 26)) := (Below.refl _ _).alloc (Nat.le_refl _) _
  have m0 : (w.alloc (.cells #[.int .i64 gm, .slice ra rn rc, .slice sa sn sc, .slice fa fn fc, .slice na nn nc] 26)).heap[w.heap.size]? = some (.cells #[.int .i64 gm, .slice ra rn rc, .slice sa sn sc, .slice fa fn fc, .slice na nn nc] 26) := World.alloc_heap_new _ _
  have z0 : w.heap.size < (w.alloc (.cells #[.int .i64 gm, .slice ra rn rc, .slice sa sn sc, .slice fa fn fc, .slice na nn nc] 26)).heap.size := by simp
  obtain ⟨c, hc⟩ : ∃ c, lookV m m.root n.toNat = c := ⟨_, rfl⟩
  have h1 := look_is (h.below b0) n hE (c := c) (by rw [if_pos rfl]; exact hc)
  have hent := look_ent hE
  rw [hc] at hent hp
  have h2 := fun W (hW : Below w.heap.size w W) => page_is (hS.below hW) hent hp
  clear h hE hent hp hc hS
  go_enter Try.func14, Try.ntmps14
  go_wp2_with fail
  refine h1.mono ?_
  rintro e w1 ⟨rfl, b1⟩
  have m1 := cells_below m0 b1 z0
  have hB1 := Below.on b0 b1
  obtain ⟨a0, a1, a2, a3, a4⟩ := five m1
  clear h1
  go_wp2_with fail
  refine (h2 _ hB1).mono ?_
  rintro e w2 ⟨rfl, b2⟩
  go_wp2_with fail
  go_ret2
  exact ⟨rfl, Below.on hB1 b2⟩
theorem read_is {w : World} {v : Value} {m : ImgD} (h : Img w v m) (n : Int) {E : Int} {p : ByteArray} (hE : lookE m n = E) (hp : readV m n = p) :
    Calls Try.prog 14 #[v, .int .i64 n] w fun r w' => r = .returned (.tuple #[.string p, .int .i64 E]) ∧ Below w.heap.size w w' := by
  have h' := h
  obtain ⟨ra, rc, sa, sc, fa, fc, na, nc, rfl, h1, h2, h3, h4⟩ := h.parts
  unfold readV at hp
  by_cases h0 : lookE m n = 0
  · rw [if_pos h0] at hp
    rw [h0] at hE
    subst hE
    exact read_at m.guest ra _ rc sa _ sc fa _ fc na _ nc m n w h' h2 h0 p hp
  · rw [if_neg h0] at hp
    subst hp
    exact read_bad m.guest ra _ rc sa _ sc fa _ fc na _ nc m n E w h' hE (by rw [← hE]; simpa using h0)

theorem all_bad (gm : Int) (ra : Option Addr) (rn rc : Nat) (sa : Option Addr) (sn sc : Nat) (fa : Option Addr) (fn fc : Nat) (na : Option Addr) (nn nc : Nat) (m : ImgD) (E : Int) (w : World) (h : Img w (.agg #[.int .i64 gm, .slice ra rn rc, .slice sa sn sc, .slice fa fn fc, .slice na nn nc]) m) (hE : checkE m = E) (hne : (E != 0) = true) :
    Calls Try.prog 15 #[.agg #[.int .i64 gm, .slice ra rn rc, .slice sa sn sc, .slice fa fn fc, .slice na nn nc]] w fun r w' => r = .returned (.tuple #[.slice none 0 0, .int .i64 E]) ∧ Below w.heap.size w w' := by
  have b0 : Below w.heap.size w (w.alloc (.cells #[.int .i64 gm, .slice ra rn rc, .slice sa sn sc, .slice fa fn fc, .slice na nn nc] 26)) := (Below.refl _ _).alloc (Nat.le_refl _) _
  have m0 : (w.alloc (.cells #[.int .i64 gm, .slice ra rn rc, .slice sa sn sc, .slice fa fn fc, .slice na nn nc] 26)).heap[w.heap.size]? = some (.cells #[.int .i64 gm, .slice ra rn rc, .slice sa sn sc, .slice fa fn fc, .slice na nn nc] 26) := World.alloc_heap_new _ _
  have z0 : w.heap.size < (w.alloc (.cells #[.int .i64 gm, .slice ra rn rc, .slice sa sn sc, .slice fa fn fc, .slice na nn nc] 26)).heap.size := by simp
  have h1 := tcheck_is (h.below b0) hE
  clear h hE
  go_enter Try.func15, Try.ntmps15
  go_wp2_with fail
  refine h1.mono ?_
  rintro e w1 ⟨rfl, b1⟩
  go_wp2_with fail
  go_ret2
  exact ⟨rfl, Below.on b0 b1⟩
theorem all_at' (gm : Int) (ra : Option Addr) (rn rc : Nat) (sa : Option Addr) (sn sc : Nat) (fa : Option Addr) (fn fc : Nat) (na : Option Addr) (nn nc : Nat) (m : ImgD) (w : World) (h : Img w (.agg #[.int .i64 gm, .slice ra rn rc, .slice sa sn sc, .slice fa fn fc, .slice na nn nc]) m) (hS : Slots w (.slice sa sn sc) m.slots) (hr : Sl w (.slice ra rn rc) m.root) (hgm : m.guest = gm) (hC : checkE m = 0) :
    Calls Try.prog 15 #[.agg #[.int .i64 gm, .slice ra rn rc, .slice sa sn sc, .slice fa fn fc, .slice na nn nc]] w fun r w' => (∃ v, r = .returned (.tuple #[v, .int .i64 0]) ∧ Ss w' v (allP m m.root m.guest.toNat)) ∧ Below w.heap.size w w' := by
  have b0 : Below w.heap.size w (w.alloc (.cells #[.int .i64 gm, .slice ra rn rc, .slice sa sn sc, .slice fa fn fc, .slice na nn nc] 26)) := (Below.refl _ _).alloc (Nat.le_refl _) _
  have m0 : (w.alloc (.cells #[.int .i64 gm, .slice ra rn rc, .slice sa sn sc, .slice fa fn fc, .slice na nn nc] 26)).heap[w.heap.size]? = some (.cells #[.int .i64 gm, .slice ra rn rc, .slice sa sn sc, .slice fa fn fc, .slice na nn nc] 26) := World.alloc_heap_new _ _
  have z0 : w.heap.size < (w.alloc (.cells #[.int .i64 gm, .slice ra rn rc, .slice sa sn sc, .slice fa fn fc, .slice na nn nc] 26)).heap.size := by simp
  have h1 := tcheck_is (h.below b0) hC
  have hE := checkE_shape hC
  have z5 := List.all_eq_true.1 (shapeE_zero hE).2.2.2.2.1 (⟨#[]⟩, m.guest, m.root) List.mem_cons_self
  have z7 := List.all_eq_true.1 (shapeE_zero hE).2.2.2.2.2.2 (⟨#[]⟩, m.guest, m.root) List.mem_cons_self
  dsimp only at z5 z7
  have h2 := fun W (hW : Below w.heap.size w W) => allPages_is (hS.below hW) (hr.below hW) hE z5 z7
  rw [hgm] at h2 ⊢
  clear h hE z5 z7 hS hr hC
  go_enter Try.func15, Try.ntmps15
  go_wp2_with fail
  refine h1.mono ?_
  rintro e w1 ⟨rfl, b1⟩
  have m1 := cells_below m0 b1 z0
  have hB1 := Below.on b0 b1
  obtain ⟨a0, a1, a2, a3, a4⟩ := five m1
  clear h1
  go_wp2_with fail
  refine (h2 _ hB1).mono ?_
  rintro e w2 ⟨⟨v, rfl, hv⟩, b2⟩
  go_wp2_with fail
  go_ret2
  exact ⟨⟨v, rfl, hv⟩, Below.on hB1 b2⟩
theorem all_is {w : World} {v : Value} {m : ImgD} (h : Img w v m) {E : Int} {l : List ByteArray} (hE : checkE m = E) (hl : allV m = l) :
    Calls Try.prog 15 #[v] w fun r w' => (∃ v, r = .returned (.tuple #[v, .int .i64 E]) ∧ Ss w' v l) ∧ Below w.heap.size w w' := by
  have h' := h
  obtain ⟨ra, rc, sa, sc, fa, fc, na, nc, rfl, h1, h2, h3, h4⟩ := h.parts
  unfold allV at hl
  by_cases h0 : checkE m = 0
  · rw [if_pos h0] at hl
    rw [h0] at hE
    subst hE hl
    exact all_at' m.guest ra _ rc sa _ sc fa _ fc na _ nc m w h' h2 h1 rfl h0
  · rw [if_neg h0] at hl
    subst hl
    exact (all_bad m.guest ra _ rc sa _ sc fa _ fc na _ nc m E w h' hE (by rw [← hE]; simpa using h0)).mono fun _ w' h => ⟨⟨_, h.1, Ss.nil w'⟩, h.2⟩
end Go.Proofs.Ytehleeibgkpjmac
/- Contract of pair: the image that every beginning looks at. -/
namespace Go.Proofs.Ytehleeibgkpjmac
open Go.RowKit Go.Shelf
set_option maxRecDepth 20000

def aaaa : ByteArray := ⟨#[97, 97, 97, 97]⟩
def bbbb : ByteArray := ⟨#[98, 98, 98, 98]⟩
def nOld : ByteArray := ⟨#[111, 108, 100]⟩

/-- The image of pair, where its second table and its Refs may have been changed. -/
def pairD (g : Int) (R T : List Int) : ImgD := ⟨g, [2, 4], [(0, ⟨#[]⟩, []), (1, aaaa, []), (2, ⟨#[]⟩, [1, 0, -1, 1]), (1, bbbb, []), (2, ⟨#[]⟩, T)], R, [(nOld, 4, [2])]⟩
structure PairW (n : Nat) (W : World) (R T : List Int) : Prop where
  root : LAt W (n + 1) [2, 4]
  ta : LAt W (n + 2) [1, 0, -1, 1]
  tb : LAt W (n + 3) T
  slots : W.heap[n + 4]? = some (.cells #[.int .i64 0, .string ⟨#[]⟩, .slice none 0 0, .int .i64 1, .string aaaa, .slice none 0 0, .int .i64 2, .string ⟨#[]⟩, .slice (some ⟨n + 2, 0, none⟩) 4 4, .int .i64 1, .string bbbb, .slice none 0 0, .int .i64 2, .string ⟨#[]⟩, .slice (some ⟨n + 3, 0, none⟩) 4 4] 33)
  refs : LAt W (n + 5) R
  sroot : LAt W (n + 6) [2]
  snaps : W.heap[n + 7]? = some (.cells #[.string nOld, .int .i64 4, .slice (some ⟨n + 6, 0, none⟩) 1 1] 61)

theorem alloc_get (W : World) (o : Obj) (i : Nat) : (W.alloc o).heap[i]? = if i = W.heap.size then some o else W.heap[i]? := by
  show (W.heap.push o)[i]? = _
  rw [Array.getElem?_push]

theorem size_alloc (W : World) (o : Obj) : (W.alloc o).heap.size = W.heap.size + 1 := by simp

set_option linter.unusedSimpArgs false in
theorem pair_at (w : World) : Calls Try.prog 37 #[] w fun r w' => r = .returned (.agg #[.int .i64 6, .slice (some ⟨w.heap.size + 1, 0, none⟩) 2 2, .slice (some ⟨w.heap.size + 4, 0, none⟩) 5 5, .slice (some ⟨w.heap.size + 5, 0, none⟩) 5 5, .slice (some ⟨w.heap.size + 7, 0, none⟩) 1 1]) ∧ PairW w.heap.size w' [0, 2, 2, 1, 1] [3, 0, 0, 0] ∧ Below w.heap.size w w' := by
  go_enter Try.func37, Try.ntmps37
  go_wp2
  refine bodyPost_ret (v := .agg #[.int .i64 6, .slice (some ⟨w.heap.size + 1, 0, none⟩) 2 2, .slice (some ⟨w.heap.size + 4, 0, none⟩) 5 5, .slice (some ⟨w.heap.size + 5, 0, none⟩) 5 5, .slice (some ⟨w.heap.size + 7, 0, none⟩) 1 1]) (by simp [results, Try.results37, go_sem]) rfl ⟨rfl, ⟨?_, ?_, ?_, ?_, ?_, ?_, ?_⟩, ?_⟩
  · show _ = _; simp only [alloc_get, size_alloc, Nat.add_right_cancel_iff, Nat.add_assoc, Nat.reduceAdd, Nat.add_left_cancel_iff, Nat.reduceEqDiff, ↓reduceIte, List.map, Nat.left_eq_add, reduceCtorEq, Nat.add_eq_left, Nat.succ_ne_self]
  · show _ = _; simp only [alloc_get, size_alloc, Nat.add_right_cancel_iff, Nat.add_assoc, Nat.reduceAdd, Nat.add_left_cancel_iff, Nat.reduceEqDiff, ↓reduceIte, List.map, Nat.left_eq_add, reduceCtorEq, Nat.add_eq_left, Nat.succ_ne_self]
  · show _ = _; simp only [alloc_get, size_alloc, Nat.add_right_cancel_iff, Nat.add_assoc, Nat.reduceAdd, Nat.add_left_cancel_iff, Nat.reduceEqDiff, ↓reduceIte, List.map, Nat.left_eq_add, reduceCtorEq, Nat.add_eq_left, Nat.succ_ne_self]
  · show _ = _; simp only [alloc_get, size_alloc, Nat.add_assoc, Nat.reduceAdd, Nat.add_left_cancel_iff, Nat.reduceEqDiff, ↓reduceIte, aaaa, bbbb]
  · show _ = _; simp only [alloc_get, size_alloc, Nat.add_right_cancel_iff, Nat.add_assoc, Nat.reduceAdd, Nat.add_left_cancel_iff, Nat.reduceEqDiff, ↓reduceIte, List.map, Nat.left_eq_add, reduceCtorEq, Nat.add_eq_left, Nat.succ_ne_self]
  · show _ = _; simp only [alloc_get, size_alloc, Nat.add_right_cancel_iff, Nat.add_assoc, Nat.reduceAdd, Nat.add_left_cancel_iff, Nat.reduceEqDiff, ↓reduceIte, List.map, Nat.left_eq_add, reduceCtorEq, Nat.add_eq_left, Nat.succ_ne_self]
  · show _ = _; simp only [alloc_get, size_alloc, Nat.add_assoc, Nat.reduceAdd, Nat.add_left_cancel_iff, Nat.reduceEqDiff, ↓reduceIte, nOld]
  · exact ((((((((Below.refl _ _).alloc (Nat.le_refl _) _).alloc (by simp) _).alloc (by simp; omega) _).alloc (by simp; omega) _).alloc (by simp; omega) _).alloc (by simp; omega) _).alloc (by simp; omega) _).alloc (by simp; omega) _

theorem PairW.below {n : Nat} {W W' : World} {R T : List Int} (h : PairW n W R T) {k : Nat} (hb : Below k W W') (hk : n + 8 ≤ k) : PairW n W' R T :=
  ⟨(hb.block _ (by omega)).trans h.root, (hb.block _ (by omega)).trans h.ta, (hb.block _ (by omega)).trans h.tb, (hb.block _ (by omega)).trans h.slots, (hb.block _ (by omega)).trans h.refs, (hb.block _ (by omega)).trans h.sroot, (hb.block _ (by omega)).trans h.snaps⟩
theorem PairW.size {n : Nat} {W : World} {R T : List Int} (h : PairW n W R T) : n + 8 ≤ W.heap.size := by
  have := (Array.getElem?_eq_some_iff.1 h.snaps).1; omega
theorem cell_of {W : World} {g : Nat} {A : Array Value} {t : TypeId} {fr : Nat × Nat} (h : W.heap[g]? = some (.cells A t fr)) {j : Nat} {v : Value} (hv : A[j]? = some v) : W.cell? ⟨g, j, none⟩ = some v := by
  simp [World.cell?, h, hv]
theorem PairW.img {n : Nat} {W : World} {R T : List Int} (h : PairW n W R T) (hR : R.length = 5) (hT : T.length = 4) (g : Int) :
    Img W (.agg #[.int .i64 g, .slice (some ⟨n + 1, 0, none⟩) 2 2, .slice (some ⟨n + 4, 0, none⟩) 5 5, .slice (some ⟨n + 5, 0, none⟩) 5 5, .slice (some ⟨n + 7, 0, none⟩) 1 1]) (pairD g R T) := by
  refine ⟨_, _, _, _, rfl, h.root.sl rfl (by decide), ⟨some ⟨n + 4, 0, none⟩, 5, rfl, show (5 : Nat) ≤ maxLen by decide, Nat.le_refl _, fun _ => ⟨n + 4, 0, rfl, (Array.getElem?_eq_some_iff.1 h.slots).1, ?_⟩⟩, h.refs.sl hR (by decide), ⟨some ⟨n + 7, 0, none⟩, 1, rfl, show (1 : Nat) ≤ maxLen by decide, Nat.le_refl _, fun _ => ⟨n + 7, 0, rfl, (Array.getElem?_eq_some_iff.1 h.snaps).1, ?_⟩⟩⟩
  · intro j hj
    have h5 : j < 5 := hj
    match j, h5 with
    | 0, _ => exact ⟨_, cell_of h.slots rfl, cell_of h.slots rfl, cell_of h.slots rfl, Sl.nil W⟩
    | 1, _ => exact ⟨_, cell_of h.slots rfl, cell_of h.slots rfl, cell_of h.slots rfl, Sl.nil W⟩
    | 2, _ => exact ⟨_, cell_of h.slots rfl, cell_of h.slots rfl, cell_of h.slots rfl, h.ta.sl rfl (by decide)⟩
    | 3, _ => exact ⟨_, cell_of h.slots rfl, cell_of h.slots rfl, cell_of h.slots rfl, Sl.nil W⟩
    | 4, _ => exact ⟨_, cell_of h.slots rfl, cell_of h.slots rfl, cell_of h.slots rfl, h.tb.sl hT (by decide)⟩
  · intro j hj
    have h1 : j < 1 := hj
    match j, h1 with
    | 0, _ => exact ⟨_, cell_of h.snaps rfl, cell_of h.snaps rfl, cell_of h.snaps rfl, h.sroot.sl rfl (by decide)⟩
theorem LAt.other {W : World} {g g' : Nat} {l : List Int} (h : LAt W g l) (hne : g ≠ g') (j : Nat) (v : Value) : LAt (W.setCell ⟨g', j, none⟩ v) g l := ((Only.set g' W j v).block g hne).trans h
theorem PairW.setRefs {n : Nat} {W : World} {R T : List Int} (h : PairW n W R T) (j : Nat) (x : Int) : PairW n (W.setCell ⟨n + 5, j, none⟩ (.int .i64 x)) (R.set j x) T :=
  ⟨h.root.other (by omega) _ _, h.ta.other (by omega) _ _, h.tb.other (by omega) _ _, ((Only.set (n + 5) W j _).block _ (by omega)).trans h.slots, h.refs.set j x, h.sroot.other (by omega) _ _, ((Only.set (n + 5) W j _).block _ (by omega)).trans h.snaps⟩
theorem PairW.setTab {n : Nat} {W : World} {R T : List Int} (h : PairW n W R T) (j : Nat) (x : Int) : PairW n (W.setCell ⟨n + 3, j, none⟩ (.int .i64 x)) R (T.set j x) :=
  ⟨h.root.other (by omega) _ _, h.ta.other (by omega) _ _, h.tb.set j x, ((Only.set (n + 3) W j _).block _ (by omega)).trans h.slots, h.refs.other (by omega) _ _, h.sroot.other (by omega) _ _, ((Only.set (n + 3) W j _).block _ (by omega)).trans h.snaps⟩
theorem pair_is (w : World) : Calls Try.prog 37 #[] w fun r w' => (∃ v, r = .returned v ∧ Img w' v (pairD 6 [0, 2, 2, 1, 1] [3, 0, 0, 0])) ∧ Below w.heap.size w w' :=
  (pair_at w).mono fun _ _ h => ⟨⟨_, h.1, h.2.1.img rfl rfl 6⟩, h.2.2⟩
end Go.Proofs.Ytehleeibgkpjmac
/- Contracts of slices.IndexFunc over snapshots, and of Past. -/
namespace Go.Proofs.Ytehleeibgkpjmac
open Go.RowKit Go.Shelf
set_option maxRecDepth 20000

def PredN (g : Nat) (lb : Array Value) (p : SnapD → Bool) (w : World) : Prop :=
  ∀ (W : World) (s : SnapD) (tv : Value), Below w.heap.size w W → Sl W tv s.2.2 → Calls Try.prog g (#[.agg #[.string s.1, .int .i64 s.2.1, tv]] ++ lb) W fun e w' => e = .returned (.bool (p s)) ∧ Below W.heap.size W w'
theorem find_hit {p : SnapD → Bool} {L : List SnapD} {k : Nat} (hk : k < L.length) (h : p L[k] = true) (ha : ∀ j, (hj : j < L.length) → j < k → p L[j] = false) : L.findIdx? p = some k := by
  rw [List.findIdx?_eq_some_iff_getElem]
  exact ⟨hk, h, fun j hj => by rw [ha j (by omega) hj]; decide⟩
theorem find_none {p : SnapD → Bool} {L : List SnapD} (ha : ∀ j, (hj : j < L.length) → p L[j] = false) : L.findIdx? p = none := by
  rw [List.findIdx?_eq_none_iff]
  intro x hx
  obtain ⟨j, hj, rfl⟩ := List.getElem_of_mem hx
  exact ha j hj

set_option maxHeartbeats 1000000 in
theorem indexN_at (g : Nat) (lb : Array Value) (eg : ∀ args w, (callFunc g args).run Try.prog w = .ok (.enter g args) w) (p : SnapD → Bool) (ao : Option Addr) (n cap : Nat) (L : List SnapD) (w : World) (hn : L.length = n) (hm : n ≤ 9223372036854775807)
    (hc : ∀ j, (h : j < L.length) → ∃ b off, ao = some ⟨b, off, none⟩ ∧ b < w.heap.size ∧ SnAt w b (off + j * 3) L[j]) (hp : PredN g lb p w) (i : Int) (hi : ixOf (L.findIdx? p) = i) :
    Calls Try.prog 44 #[.slice ao n cap, .func (.func g) #[] lb] w fun r w' => r = .returned (.int .i64 i) ∧ Below w.heap.size w w' := by
  have HN : Hid (L.length = n) := hn
  have HP : Hid (PredN g lb p w) := hp
  have HI : Hid (ixOf (L.findIdx? p) = i) := hi
  have HC : Hid (∀ j, (h : j < L.length) → ∃ b off, ao = some ⟨b, off, none⟩ ∧ b < w.heap.size ∧ SnAt w b (off + j * 3) L[j]) := hc
  clear hn hp hc hi
  go_enter Try.func44, Try.ntmps44
  go_wp2
  go_loopw [5, 8] (fun _ i wr => ∃ k : Nat, k ≤ n ∧ i = .int .i64 k ∧ Hid (∀ j, (h : j < L.length) → j < k → p L[j] = false) ∧ Below w.heap.size w wr) (fun _ i _ => n - (intOf i).toNat)
  case atStart => exact ⟨0, Nat.zero_le _, rfl, fun j h hj => absurd hj (by omega), Below.refl _ _⟩
  case round =>
    obtain ⟨k, hk, rfl, HA, hbel⟩ := hrel
    by_cases hlk : k < n
    · have hkL : k < L.length := by rw [HN.out]; exact hlk
      obtain ⟨b, off, rfl, hlt, hS⟩ := HC.out k hkL
      have hki : (k : Int) < (n : Int) := by omega
      obtain ⟨s, hs⟩ : ∃ s, s = L[k] := ⟨_, rfl⟩
      obtain ⟨kk, dd, tt⟩ := s
      rw [← hs] at hS
      obtain ⟨tv, c1, c2, c3, hsl⟩ := hS
      have HX : Hid ((kk, dd, tt) = L[k]) := hs
      have c1 : wr.cell? ⟨b, off + k * 3, none⟩ = some (.string kk) := (hbel.cell (p := ⟨b, off + k * 3, none⟩) hlt).trans c1
      have c2 : wr.cell? ⟨b, off + k * 3 + 1, none⟩ = some (.int .i64 dd) := (hbel.cell (p := ⟨b, off + k * 3 + 1, none⟩) hlt).trans c2
      have c3 : wr.cell? ⟨b, off + k * 3 + 1 + 1, none⟩ = some tv := (hbel.cell (p := ⟨b, off + k * 3 + 1 + 1, none⟩) hlt).trans c3
      have hcall := HP.out wr (kk, dd, tt) tv hbel (hsl.below hbel)
      dsimp only at hcall
      clear hs hsl
      cases hq : p (kk, dd, tt) with
      | true =>
        rw [hq] at hcall
        go_wp2_with (go_at_fn g; refine hcall.mono ?_; rintro e w1 ⟨rfl, b1⟩)
        go_ret
        exact ⟨by rw [← HI.out, find_hit (p := p) hkL (by rw [← HX.out]; exact hq) HA.out]; rfl, Below.on hbel b1⟩
      | false =>
        rw [hq] at hcall
        go_wp2_with (go_at_fn g; refine hcall.mono ?_; rintro e w1 ⟨rfl, b1⟩)
        go_roundw
        case rel => exact ⟨k + 1, by omega, by go_num, fun j h hj => by
          by_cases e : j = k
          · subst e; rw [← HX.out]; exact hq
          · exact HA.out j h (by omega), Below.on hbel b1⟩
        case measure => simp [intOf]; omega
    · have e4 : k = n := by omega
      subst e4
      go_wp2
      go_ret
      exact ⟨by rw [← HI.out, find_none (p := p) (fun j hj => HA.out j hj (by rw [HN.out] at hj; exact hj))]; rfl, hbel⟩

theorem pastP_any (B : Nat) (nm : ByteArray) (s : SnapD) (ta : Option Addr) (tn tc : Nat) (w : World) (hB : B < w.heap.size) (hc : w.cell? ⟨B, 0, none⟩ = some (.string nm)) :
    Calls Try.prog 45 #[.agg #[.string s.1, .int .i64 s.2.1, .slice ta tn tc], .pointer (some ⟨B, 0, none⟩)] w fun r w' => r = .returned (.bool (s.1.toList == nm.toList)) ∧ Below w.heap.size w w' := by
  obtain ⟨k, d, xs⟩ := s
  dsimp only
  have b0 : Below w.heap.size w (w.alloc (.cells #[.string k, .int .i64 d, .slice ta tn tc] 61)) := (Below.refl _ _).alloc (Nat.le_refl _) _
  have hc1 := (b0.cell (p := ⟨B, 0, none⟩) hB).trans hc
  go_enter Try.func45, Try.ntmps45
  go_wp2
  go_ret
  exact ⟨rfl, b0⟩

theorem past_bad (gm : Int) (ra : Option Addr) (rn rc : Nat) (sa : Option Addr) (sn sc : Nat) (fa : Option Addr) (fn fc : Nat) (na : Option Addr) (nn nc : Nat) (m : ImgD) (nm : ByteArray) (E : Int) (w : World) (h : Img w (.agg #[.int .i64 gm, .slice ra rn rc, .slice sa sn sc, .slice fa fn fc, .slice na nn nc]) m) (hE : checkE m = E) (hne : (E != 0) = true) :
    Calls Try.prog 16 #[.agg #[.int .i64 gm, .slice ra rn rc, .slice sa sn sc, .slice fa fn fc, .slice na nn nc], .string nm] w fun r w' => r = .returned (.tuple #[.slice none 0 0, .int .i64 E]) ∧ Below w.heap.size w w' := by
  have b0 : Below w.heap.size w ((w.alloc (.cells #[.int .i64 gm, .slice ra rn rc, .slice sa sn sc, .slice fa fn fc, .slice na nn nc] 26)).alloc (.cells #[.string nm] 9)) := ((Below.refl _ _).alloc (Nat.le_refl _) _).alloc (by simp) _
  have m0 : ((w.alloc (.cells #[.int .i64 gm, .slice ra rn rc, .slice sa sn sc, .slice fa fn fc, .slice na nn nc] 26)).alloc (.cells #[.string nm] 9)).heap[w.heap.size]? = some (.cells #[.int .i64 gm, .slice ra rn rc, .slice sa sn sc, .slice fa fn fc, .slice na nn nc] 26) := cells_alloc (World.alloc_heap_new _ _) _
  have k0 : ((w.alloc (.cells #[.int .i64 gm, .slice ra rn rc, .slice sa sn sc, .slice fa fn fc, .slice na nn nc] 26)).alloc (.cells #[.string nm] 9)).heap[w.heap.size + 1]? = some (.cells #[.string nm] 9) := by
    have := World.alloc_heap_new (w.alloc (.cells #[.int .i64 gm, .slice ra rn rc, .slice sa sn sc, .slice fa fn fc, .slice na nn nc] 26)) (.cells #[.string nm] 9)
    simpa using this
  have z0 : w.heap.size + 1 < ((w.alloc (.cells #[.int .i64 gm, .slice ra rn rc, .slice sa sn sc, .slice fa fn fc, .slice na nn nc] 26)).alloc (.cells #[.string nm] 9)).heap.size := by simp
  have h1 := tcheck_is (h.below b0) hE
  clear h hE
  go_enter Try.func16, Try.ntmps16
  go_wp2_with fail
  refine h1.mono ?_
  rintro e w1 ⟨rfl, b1⟩
  go_wp2_with fail
  go_ret2
  exact ⟨rfl, Below.on b0 b1⟩
set_option maxHeartbeats 2000000 in
theorem past_at (gm : Int) (ra : Option Addr) (rn rc : Nat) (sa : Option Addr) (sn sc : Nat) (fa : Option Addr) (fn fc : Nat) (na : Option Addr) (nn nc : Nat) (m : ImgD) (nm : ByteArray) (w : World) (h : Img w (.agg #[.int .i64 gm, .slice ra rn rc, .slice sa sn sc, .slice fa fn fc, .slice na nn nc]) m) (hS : Slots w (.slice sa sn sc) m.slots) (hN : Snaps w (.slice na nn nc) m.snaps) (hnn : m.snaps.length = nn) (hC : checkE m = 0) :
    Calls Try.prog 16 #[.agg #[.int .i64 gm, .slice ra rn rc, .slice sa sn sc, .slice fa fn fc, .slice na nn nc], .string nm] w fun r w' => (∃ v, r = .returned (.tuple #[v, .int .i64 (pastE m nm)]) ∧ Ss w' v (pastV m nm)) ∧ Below w.heap.size w w' := by
  have b0 : Below w.heap.size w ((w.alloc (.cells #[.int .i64 gm, .slice ra rn rc, .slice sa sn sc, .slice fa fn fc, .slice na nn nc] 26)).alloc (.cells #[.string nm] 9)) := ((Below.refl _ _).alloc (Nat.le_refl _) _).alloc (by simp) _
  have m0 : ((w.alloc (.cells #[.int .i64 gm, .slice ra rn rc, .slice sa sn sc, .slice fa fn fc, .slice na nn nc] 26)).alloc (.cells #[.string nm] 9)).heap[w.heap.size]? = some (.cells #[.int .i64 gm, .slice ra rn rc, .slice sa sn sc, .slice fa fn fc, .slice na nn nc] 26) := cells_alloc (World.alloc_heap_new _ _) _
  have k0 : ((w.alloc (.cells #[.int .i64 gm, .slice ra rn rc, .slice sa sn sc, .slice fa fn fc, .slice na nn nc] 26)).alloc (.cells #[.string nm] 9)).heap[w.heap.size + 1]? = some (.cells #[.string nm] 9) := by
    have := World.alloc_heap_new (w.alloc (.cells #[.int .i64 gm, .slice ra rn rc, .slice sa sn sc, .slice fa fn fc, .slice na nn nc] 26)) (.cells #[.string nm] 9)
    simpa using this
  have z0 : w.heap.size + 1 < ((w.alloc (.cells #[.int .i64 gm, .slice ra rn rc, .slice sa sn sc, .slice fa fn fc, .slice na nn nc] 26)).alloc (.cells #[.string nm] 9)).heap.size := by simp
  have h1 := tcheck_is (h.below b0) hC
  have hE := checkE_shape hC
  have hn3 : nn ≤ 3 := by rw [← hnn]; exact (shapeE_zero hE).1
  have hix : ∀ W, Below ((w.alloc (.cells #[.int .i64 gm, .slice ra rn rc, .slice sa sn sc, .slice fa fn fc, .slice na nn nc] 26)).alloc (.cells #[.string nm] 9)).heap.size ((w.alloc (.cells #[.int .i64 gm, .slice ra rn rc, .slice sa sn sc, .slice fa fn fc, .slice na nn nc] 26)).alloc (.cells #[.string nm] 9)) W → Calls Try.prog 44 #[.slice na nn nc, .func (.func 45) #[] #[.pointer (some ⟨w.heap.size + 1, 0, none⟩)]] W fun r w' => r = .returned (.int .i64 (ixOf (snapIx m.snaps nm))) ∧ Below W.heap.size W w' := by
    intro W hW
    refine indexN_at 45 #[.pointer (some ⟨w.heap.size + 1, 0, none⟩)] (enters_of Try.func45 (by kernel_rfl) rfl) (fun s => s.1.toList == nm.toList) na nn nc m.snaps W hnn (by omega) (hN.below (Below.on b0 hW)).at (fun W' s tv hb ht => ?_) _ rfl
    obtain ⟨ta, tc, rfl⟩ := ht.form
    have hk := cells_below (cells_below k0 hW z0) hb (Nat.lt_of_lt_of_le z0 hW.size)
    exact pastP_any (w.heap.size + 1) nm s ta _ tc W' (Array.getElem?_eq_some_iff.1 hk).1 (cell_of hk rfl)
  have H1 : Hid (checkE m = 0 ∧ shapeE m = 0) := ⟨hC, hE⟩
  have H2 : Hid (Slots w (.slice sa sn sc) m.slots ∧ Snaps w (.slice na nn nc) m.snaps ∧ m.snaps.length = nn) := ⟨hS, hN, hnn⟩
  clear h hE hS hN hnn hC
  cases hsi : snapIx m.snaps nm with
  | none =>
    have HPE : Hid (pastE m nm = 5) := by show _ = _; unfold pastE; rw [if_neg (by rw [H1.out.1]; simp), hsi]
    have HPV : Hid (pastV m nm = []) := by show _ = _; unfold pastV; rw [if_neg (by rw [H1.out.1]; simp), hsi]
    rw [hsi] at hix
    rw [HPE.out, HPV.out]
    go_enter Try.func16, Try.ntmps16
    go_wp2_with fail
    refine h1.mono ?_
    rintro e w1 ⟨rfl, b1⟩
    have m1 := cells_below m0 b1 (by simp; omega)
    obtain ⟨a0, a1, a2, a3, a4⟩ := five m1
    clear h1
    go_wp2_with fail
    refine (hix _ b1).mono ?_
    rintro e w2 ⟨rfl, b2⟩
    clear hix
    simp only [ixOf]
    go_wp2_with fail
    go_ret2
    exact ⟨⟨_, rfl, Ss.nil _⟩, Below.on' b0 b1 b2⟩
  | some k =>
    have hk := snapIx_some hsi
    have hkn : k < nn := by rw [← H2.out.2.2]; exact hk
    obtain ⟨s, hs⟩ : ∃ s, s = m.snaps[k] := ⟨_, rfl⟩
    obtain ⟨sm, sg, sr⟩ := s
    have eget : m.snaps.getD k default = (sm, sg, sr) := by rw [hs]; simp [List.getD, hk]
    have HPE : Hid (pastE m nm = 0) := by show _ = _; unfold pastE; rw [if_neg (by rw [H1.out.1]; simp), hsi]
    have HPV : Hid (pastV m nm = allP m sr sg.toNat) := by show _ = _; unfold pastV; rw [if_neg (by rw [H1.out.1]; simp), hsi]; dsimp only; rw [eget]
    have hmem : (sm, sg, sr) ∈ rootsOf m := List.mem_cons_of_mem _ (by rw [hs]; exact List.getElem_mem hk)
    have hgg := List.all_eq_true.1 (shapeE_zero H1.out.2).2.2.2.2.1 _ hmem
    have hrr := List.all_eq_true.1 (shapeE_zero H1.out.2).2.2.2.2.2.2 _ hmem
    dsimp only at hgg hrr
    obtain ⟨b, off, rfl, hlt, hSA⟩ := H2.out.2.1.at k hk
    rw [← hs] at hSA
    obtain ⟨rv, s1, s2, s3, hsl⟩ := hSA
    have hcall := fun W (hW : Below w.heap.size w W) => allPages_is (H2.out.1.below hW) (hsl.below hW) H1.out.2 hgg hrr
    obtain ⟨va, vc, rfl⟩ := hsl.form
    have hki : (k : Int) < (nn : Int) := by omega
    have hk0 : ¬ (k : Int) < 0 := by omega
    rw [hsi] at hix
    rw [HPE.out, HPV.out]
    clear hs eget hmem hgg hrr hsl hsi s1
    go_enter Try.func16, Try.ntmps16
    go_wp2_with fail
    refine h1.mono ?_
    rintro e w1 ⟨rfl, b1⟩
    have m1 := cells_below m0 b1 (by simp; omega)
    obtain ⟨a0, a1, a2, a3, a4⟩ := five m1
    clear h1
    go_wp2_with fail
    refine (hix _ b1).mono ?_
    rintro e w2 ⟨rfl, b2⟩
    have m2 := cells_below m1 b2 (Array.getElem?_eq_some_iff.1 m1).1
    have z2 := (Array.getElem?_eq_some_iff.1 m2).1
    clear hix a0 a1 a2 a3 a4
    obtain ⟨c0, c1, c2, c3, c4⟩ := five m2
    have hB2 := Below.on' b0 b1 b2
    have s2 : w2.cell? ⟨b, off + k * 3 + 1, none⟩ = some (.int .i64 sg) := (hB2.cell (p := ⟨b, off + k * 3 + 1, none⟩) hlt).trans s2
    have s3 : w2.cell? ⟨b, off + k * 3 + 2, none⟩ = some (.slice va sr.length vc) := (hB2.cell (p := ⟨b, off + k * 3 + 2, none⟩) hlt).trans s3
    have hbw : b < w2.heap.size := Nat.lt_of_lt_of_le hlt hB2.size
    simp only [ixOf]
    go_wp2_with fail
    go_region_held3 (fun w' => w'.cell? ⟨w.heap.size, 0, none⟩ = some (.int .i64 gm) ∧ w'.cell? ⟨w.heap.size, 0 + 1, none⟩ = some (.slice ra rn rc) ∧ w'.cell? ⟨w.heap.size, 0 + 1 + 1, none⟩ = some (.slice sa sn sc) ∧ w'.cell? ⟨w.heap.size, 0 + 1 + 1 + 1, none⟩ = some (.slice fa fn fc) ∧ w'.cell? ⟨w.heap.size, 0 + 1 + 1 + 1 + 1, none⟩ = some (.slice (some ⟨b, off, none⟩) nn nc) ∧ w'.cell? ⟨b, off + k * 3 + 1, none⟩ = some (.int .i64 sg) ∧ w'.cell? ⟨b, off + k * 3 + 2, none⟩ = some (.slice va sr.length vc)) (first | exact ⟨c0, c1, c2, c3, c4, s2, s3⟩ | exact ⟨d0, d1, d2, d3, d4, e1, e2⟩)
      (first | (go_at_call 43; refine (hcall _ (to_drew hB2)).mono ?_; rintro e w3 ⟨⟨v, rfl, hv⟩, b3⟩; have b3 := below_drew b3; have m3 := cells_below m2 b3 z2; obtain ⟨d0, d1, d2, d3, d4⟩ := five m3; have e1 := (b3.cell (p := ⟨b, off + k * 3 + 1, none⟩) hbw).trans s2; have e2 := (b3.cell (p := ⟨b, off + k * 3 + 2, none⟩) hbw).trans s3))
    go_wp2_with fail
    go_ret2
    exact ⟨⟨v, rfl, hv⟩, Below.on hB2 b3⟩
theorem past_is {w : World} {v : Value} {m : ImgD} (h : Img w v m) (nm : ByteArray) {E : Int} {l : List ByteArray} (hE : pastE m nm = E) (hl : pastV m nm = l) :
    Calls Try.prog 16 #[v, .string nm] w fun r w' => (∃ v, r = .returned (.tuple #[v, .int .i64 E]) ∧ Ss w' v l) ∧ Below w.heap.size w w' := by
  have h' := h
  obtain ⟨ra, rc, sa, sc, fa, fc, na, nc, rfl, h1, h2, h3, h4⟩ := h.parts
  subst hE hl
  by_cases h0 : checkE m = 0
  · exact past_at m.guest ra _ rc sa _ sc fa _ fc na _ nc m nm w h' h2 h4 rfl h0
  · have e1 : pastE m nm = checkE m := by unfold pastE; rw [if_pos h0]
    have e2 : pastV m nm = [] := by unfold pastV; rw [if_pos h0]
    rw [e1, e2]
    exact (past_bad m.guest ra _ rc sa _ sc fa _ fc na _ nc m nm _ w h' rfl (by simpa using h0)).mono fun _ w' h => ⟨⟨_, h.1, Ss.nil w'⟩, h.2⟩
end Go.Proofs.Ytehleeibgkpjmac
/- The image of pair: what is decided of it. -/
namespace Go.Proofs.Ytehleeibgkpjmac
open Go.RowKit Go.Shelf
set_option maxRecDepth 20000

abbrev pD : ImgD := pairD 6 [0, 2, 2, 1, 1] [3, 0, 0, 0]
theorem pD_shape : shapeE pD = 0 := by decide +kernel
theorem pD_check : checkE pD = 0 := by decide +kernel
theorem pD_cnt : cntL pD = [0, 2, 2, 1, 1] := by decide +kernel
theorem pD_look2 : lookE pD 2 = 0 := by decide +kernel
theorem pD_look4 : lookE pD 4 = 0 := by decide +kernel
theorem pD_lv2 : lookV pD pD.root (2 : Int).toNat = -1 := by decide +kernel
theorem pD_lv4 : lookV pD pD.root (4 : Int).toNat = 3 := by decide +kernel
theorem pX_check : checkE (pairD 6 [0, 1, 2, 1, 1] [3, 0, 0, 0]) = 9 := by decide +kernel
theorem pY_shape : shapeE (pairD 5 [0, 2, 2, 1, 1] [3, 3, 0, 0]) = 1 := by decide +kernel

end Go.Proofs.Ytehleeibgkpjmac
/- Contract of readsBegun: it answers true. -/
namespace Go.Proofs.Ytehleeibgkpjmac
open Go.RowKit Go.Shelf
set_option maxRecDepth 20000

theorem pD_look1 : lookE pD 1 = 0 := by decide +kernel
theorem pD_read4 : readV pD 4 = ⟨#[98, 98, 98, 98]⟩ := by decide +kernel
theorem pD_read1 : readV pD 1 = ⟨#[0, 0, 0, 0]⟩ := by decide +kernel
theorem pD_all : allV pD = [⟨#[97, 97, 97, 97]⟩, ⟨#[0, 0, 0, 0]⟩, ⟨#[0, 0, 0, 0]⟩, ⟨#[97, 97, 97, 97]⟩, ⟨#[98, 98, 98, 98]⟩, ⟨#[0, 0, 0, 0]⟩] := by decide +kernel
theorem pD_pastE : pastE pD ⟨#[111, 108, 100]⟩ = 0 := by decide +kernel
theorem pD_pastV : pastV pD ⟨#[111, 108, 100]⟩ = [⟨#[97, 97, 97, 97]⟩, ⟨#[0, 0, 0, 0]⟩, ⟨#[0, 0, 0, 0]⟩, ⟨#[97, 97, 97, 97]⟩] := by decide +kernel
theorem pD_pastN : pastE pD ⟨#[110, 101, 119]⟩ = 5 := by decide +kernel

set_option maxHeartbeats 4000000 in
theorem readsBegun_any (w : World) : Calls Try.prog 22 #[] w fun r w' => r = .returned (.bool true) ∧ Below w.heap.size w w' := by
  go_enter Try.func22, Try.ntmps22
  have hB0 := Below.refl w.heap.size w
  go_wp2_with fail
  refine (pair_is _).mono ?_
  rintro e w1 ⟨⟨v1, rfl, i1⟩, b1⟩
  have hB1 := Below.on hB0 b1
  go_wp2_with fail
  refine (read_is i1 4 pD_look4 pD_read4).mono ?_
  rintro e w2 ⟨rfl, b2⟩
  have hB2 := Below.on hB1 b2
  clear i1
  go_wp2_with fail
  refine (pair_is _).mono ?_
  rintro e w3 ⟨⟨v2, rfl, i2⟩, b3⟩
  have hB3 := Below.on hB2 b3
  go_wp2_with fail
  refine (read_is i2 1 pD_look1 pD_read1).mono ?_
  rintro e w4 ⟨rfl, b4⟩
  have hB4 := Below.on hB3 b4
  clear i2
  go_wp2_with fail
  refine (pair_is _).mono ?_
  rintro e w5 ⟨⟨v3, rfl, i3⟩, b5⟩
  have hB5 := Below.on hB4 b5
  go_wp2_with fail
  refine (all_is i3 pD_check pD_all).mono ?_
  rintro e w6 ⟨⟨l1, rfl, hl1⟩, b6⟩
  have hB6 := Below.on hB5 b6
  clear i3
  go_wp2_with fail
  refine (pair_is _).mono ?_
  rintro e w7 ⟨⟨v4, rfl, i4⟩, b7⟩
  have hB7 := Below.on hB6 b7
  replace hl1 := hl1.below b7
  go_wp2_with fail
  refine (past_is i4 ⟨#[111, 108, 100]⟩ pD_pastE pD_pastV).mono ?_
  rintro e w8 ⟨⟨l2, rfl, hl2⟩, b8⟩
  have hB8 := Below.on hB7 b8
  replace hl1 := hl1.below b8
  clear i4
  go_wp2_with fail
  refine (pair_is _).mono ?_
  rintro e w9 ⟨⟨v5, rfl, i5⟩, b9⟩
  have hB9 := Below.on hB8 b9
  replace hl1 := hl1.below b9
  replace hl2 := hl2.below b9
  go_wp2_with fail
  refine (past_is i5 ⟨#[110, 101, 119]⟩ pD_pastN rfl).mono ?_
  rintro e w10 ⟨⟨l3, rfl, _⟩, b10⟩
  have hB10 := Below.on hB9 b10
  replace hl1 := hl1.below b10
  replace hl2 := hl2.below b10
  clear i5
  obtain ⟨la, lc, rfl⟩ := hl1.form
  obtain ⟨ka, kc, rfl⟩ := hl2.form
  have hn1 := Ss_new w10 [⟨#[97, 97, 97, 97]⟩, ⟨#[0, 0, 0, 0]⟩, ⟨#[0, 0, 0, 0]⟩, ⟨#[97, 97, 97, 97]⟩, ⟨#[98, 98, 98, 98]⟩, ⟨#[0, 0, 0, 0]⟩] 6 rfl (by decide)
  go_wp2_with fail
  refine (samePages_any (hl1.past _) hn1).mono ?_
  rintro e x1 ⟨rfl, y1⟩
  have hl2' := (hl2.past _).below y1
  have hn2 := Ss_new x1 [⟨#[97, 97, 97, 97]⟩, ⟨#[0, 0, 0, 0]⟩, ⟨#[0, 0, 0, 0]⟩, ⟨#[97, 97, 97, 97]⟩] 4 rfl (by decide)
  go_wp2_with fail
  refine (samePages_any (hl2'.past _) hn2).mono ?_
  rintro e x2 ⟨rfl, y2⟩
  go_wp2_with fail
  go_ret
  exact ⟨rfl, Below.on (Below.on' hB10 ((Below.refl _ _).alloc (Nat.le_refl _) _) y1) (Below.on ((Below.refl _ _).alloc (Nat.le_refl _) _) y2)⟩
end Go.Proofs.Ytehleeibgkpjmac
