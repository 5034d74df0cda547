/- Contracts of Check and Look. -/
import Derived.Test.YtehleeibgkpjmabTCheck
namespace Go.Proofs.Ytehleeibgkpjmab
open Go.RowKit Go.Shelf
set_option maxRecDepth 20000

def freeAt (m : ImgD) (i : Nat) : Bool := ((m.slots.getD i default).1 == 0) == ((cntL m).getD i 0 == 0)
def checkE (m : ImgD) : Int := if shapeE m ≠ 0 then shapeE m else if cntL m ≠ m.refs then 9 else if (List.range m.slots.length).all (freeAt m) = true then 0 else 9

theorem tcheck_err (gm : Int) (ra : Option Addr) (rn rc : Nat) (sa : Option Addr) (sn sc : Nat) (fa : Option Addr) (fn fc : Nat) (na : Option Addr) (nn nc : Nat) (m : ImgD) (E : Int) (w : World) (h : Img w (.agg #[.int .i64 gm, .slice ra rn rc, .slice sa sn sc, .slice fa fn fc, .slice na nn nc]) m) (hE : shapeE m = E) (hne : (E != 0) = true) :
    Calls Try.prog 28 #[.agg #[.int .i64 gm, .slice ra rn rc, .slice sa sn sc, .slice fa fn fc, .slice na nn nc]] w fun r w' => r = .returned (.int .i64 E) ∧ Below w.heap.size w w' := by
  have b0 : Below w.heap.size w (w.alloc (.cells #[.int .i64 gm, .slice ra rn rc, .slice sa sn sc, .slice fa fn fc, .slice na nn nc] 44)) := (Below.refl _ _).alloc (Nat.le_refl _) _
  have hcall := counts_err (h.below b0) hE hne
  clear h hE
  go_enter Try.func28, Try.ntmps28
  go_wp2_with (go_at_call 26; refine hcall.mono ?_; rintro e w1 ⟨rfl, b1⟩)
  go_ret
  exact ⟨rfl, Below.on b0 b1⟩

theorem equal_is {w : World} {u v : Value} {xs ys : List Int} (h : Sl w u xs) (k : Sl w v ys) (hl : xs.length = ys.length) {B : Bool} (hB : (xs == ys) = B) :
    Calls Try.prog 51 #[u, v] w fun r w' => r = .returned (.bool B) ∧ Below w.heap.size w w' := by
  subst hB
  obtain ⟨ao, cap, rfl⟩ := h.form
  obtain ⟨bo, cap', rfl⟩ := k.form
  obtain ⟨_, hm, _, hc⟩ := h.cells
  obtain ⟨_, _, _, hd⟩ := k.cells
  rw [← hl] at hd ⊢
  refine equal_at ao bo _ cap cap' xs ys w rfl hl.symm hm (fun j hj => ?_) (fun j hj => ?_)
  · obtain ⟨b, off, e, _, c⟩ := hc j hj
    exact ⟨b, off, e, c⟩
  · obtain ⟨b, off, e, _, c⟩ := hd j hj
    exact ⟨b, off, e, c⟩

set_option maxHeartbeats 2000000 in
theorem tcheck_at (gm : Int) (ra : Option Addr) (rn rc : Nat) (sb so : Nat) (sn sc : Nat) (fa : Option Addr) (fn fc : Nat) (na : Option Addr) (nn nc : Nat) (m : ImgD) (E : Int) (w : World) (h : Img w (.agg #[.int .i64 gm, .slice ra rn rc, .slice (some ⟨sb, so, none⟩) sn sc, .slice fa fn fc, .slice na nn nc]) m)
    (hf : Sl w (.slice fa fn fc) m.refs) (hsn : m.slots.length = sn) (hsb : sb < w.heap.size) (h40 : sn ≤ 40) (hcl : ∀ j, (h : j < m.slots.length) → SlAt w sb (so + j * 3) m.slots[j]) (hE : shapeE m = 0) (hc : checkE m = E) :
    Calls Try.prog 28 #[.agg #[.int .i64 gm, .slice ra rn rc, .slice (some ⟨sb, so, none⟩) sn sc, .slice fa fn fc, .slice na nn nc]] w fun r w' => r = .returned (.int .i64 E) ∧ Below w.heap.size w w' := by
  have b0 : Below w.heap.size w (w.alloc (.cells #[.int .i64 gm, .slice ra rn rc, .slice (some ⟨sb, so, none⟩) sn sc, .slice fa fn fc, .slice na nn nc] 44)) := (Below.refl _ _).alloc (Nat.le_refl _) _
  have m0 : (w.alloc (.cells #[.int .i64 gm, .slice ra rn rc, .slice (some ⟨sb, so, none⟩) sn sc, .slice fa fn fc, .slice na nn nc] 44)).heap[w.heap.size]? = some (.cells #[.int .i64 gm, .slice ra rn rc, .slice (some ⟨sb, so, none⟩) sn sc, .slice fa fn fc, .slice na nn nc] 44) := World.alloc_heap_new _ _
  have hcall := counts_ok (h.below b0) hE
  have hz := (shapeE_zero hE).2.2.1
  have HLr : Hid ((cntL m).length = m.refs.length) := by show _ = _; rw [cntL_length, hz]
  have HN : Hid (m.slots.length = sn) := hsn
  have HCl : Hid (∀ j, (h : j < m.slots.length) → SlAt w sb (so + j * 3) m.slots[j]) := hcl
  have HE : Hid (checkE m = if cntL m ≠ m.refs then 9 else if (List.range m.slots.length).all (freeAt m) = true then 0 else 9) := by
    show _ = _
    unfold checkE
    rw [if_neg (by simpa using hE)]
  have Hc : Hid (checkE m = E) := hc
  clear h hE hz hsn hcl hc
  cases hq : cntL m == m.refs with
  | false =>
    have H9 : Hid (E = 9) := by
      show _ = _
      rw [← Hc.out, HE.out, if_pos (by simpa using hq)]
    go_enter Try.func28, Try.ntmps28
    go_wp2_with fail
    refine hcall.mono ?_
    rintro e w1 ⟨⟨lv, rfl, hlv⟩, b1⟩
    have m1 := cells_below m0 b1 (by simp)
    obtain ⟨c0, c1, c2, c3, c4⟩ := five m1
    have hf1 := hf.below (Below.on b0 b1)
    have hcall2 := equal_is hlv hf1 HLr.out hq
    obtain ⟨la, lc, rfl⟩ := hlv.form
    clear hcall hlv hf1
    go_wp2_with fail
    refine hcall2.mono ?_
    rintro e w2 ⟨rfl, b2⟩
    go_wp2_with fail
    go_ret
    exact ⟨by rw [H9.out]; rfl, Below.on' b0 b1 b2⟩
  | true =>
    have H9 : Hid (E = if (List.range m.slots.length).all (freeAt m) = true then 0 else 9) := by
      show _ = _
      rw [← Hc.out, HE.out, if_neg (by simpa using hq)]
    go_enter Try.func28, Try.ntmps28
    go_wp2_with fail
    refine hcall.mono ?_
    rintro e w1 ⟨⟨lv, rfl, hlv⟩, b1⟩
    have m1 := cells_below m0 b1 (by simp)
    obtain ⟨c0, c1, c2, c3, c4⟩ := five m1
    have hf1 := hf.below (Below.on b0 b1)
    have hcall2 := equal_is hlv hf1 HLr.out hq
    obtain ⟨la, lc, rfl⟩ := hlv.form
    clear hcall hf1
    go_wp2_with fail
    refine hcall2.mono ?_
    rintro e w2 ⟨rfl, b2⟩
    have m2 := cells_below m1 b2 (Array.getElem?_eq_some_iff.1 m1).1
    obtain ⟨d0, d1, d2, d3, d4⟩ := five m2
    have hlv2 := hlv.below b2
    have hbw := Below.on' b0 b1 b2
    obtain ⟨_, hlm, _, hlc⟩ := hlv2.cells
    have HLc : Hid (∀ j, j < (cntL m).length → ∃ b off, la = some ⟨b, off, none⟩ ∧ b < w2.heap.size ∧ w2.cell? ⟨b, off + j, none⟩ = some (.int .i64 ((cntL m).getD j 0))) := hlc
    have hle : (cntL m).length = sn := by rw [cntL_length, HN.out]
    have HLe : Hid ((cntL m).length = sn) := hle
    rw [hle] at HLc ⊢
    clear hcall2 hlv hlv2 hlc c0 c1 c2 c3 c4 hle hlm hf
    go_wp2_with fail
    go_loopw [5, 6, 23] (fun _ _ i wr => ∃ k : Nat, k ≤ sn ∧ i = .int .i64 k ∧ Hid (∀ j, j < k → freeAt m j = true) ∧ Below w2.heap.size w2 wr) (fun _ _ i _ => sn - (intOf i).toNat)
    case atStart => exact ⟨0, Nat.zero_le _, rfl, fun j hj => absurd hj (by omega), Below.refl _ _⟩
    case round =>
      obtain ⟨k, hk, rfl, HA, hbel⟩ := hrel
      by_cases hlk : k < sn
      · have hki : (k : Int) < (sn : Int) := by omega
        have hkm : k < m.slots.length := by rw [HN.out]; exact hlk
        obtain ⟨lb, lo, rfl, hlb, hlc⟩ := HLc.out k hlk
        obtain ⟨s, hs⟩ : ∃ s, s = m.slots[k]'hkm := ⟨_, rfl⟩
        obtain ⟨kk, dd, tt⟩ := s
        have hS : SlAt w sb (so + k * 3) (kk, dd, tt) := by rw [hs]; exact HCl.out k _
        obtain ⟨tv, e1, e2, e3, hsl⟩ := hS
        obtain ⟨ta, tc, rfl⟩ := hsl.form
        have hbr := Below.on hbw hbel
        obtain ⟨c, hc⟩ : ∃ c, (cntL m).getD k 0 = c := ⟨_, rfl⟩
        rw [hc] at hlc
        have e1 : wr.cell? ⟨sb, so + k * 3, none⟩ = some (.int .i64 kk) := (hbr.cell (p := ⟨sb, so + k * 3, none⟩) hsb).trans e1
        have e2 : wr.cell? ⟨sb, so + k * 3 + 1, none⟩ = some (.string dd) := (hbr.cell (p := ⟨sb, so + k * 3 + 1, none⟩) hsb).trans e2
        have e3 : wr.cell? ⟨sb, so + k * 3 + 1 + 1, none⟩ = some (.slice ta tt.length tc) := (hbr.cell (p := ⟨sb, so + k * 3 + 1 + 1, none⟩) hsb).trans e3
        have el : (wr.alloc (.cells #[.int .i64 kk, .string dd, .slice ta tt.length tc] 29)).cell? ⟨lb, lo + k, none⟩ = some (.int .i64 c) := ((hbel.alloc hbel.size _).cell (p := ⟨lb, lo + k, none⟩) hlb).trans hlc
        have HF : Hid (freeAt m k = ((kk == 0) == (c == 0))) := by
          show _ = _
          unfold freeAt
          rw [hc]
          simp [List.getD, hkm, ← hs]
        have hba : Below w2.heap.size w2 (wr.alloc (.cells #[.int .i64 kk, .string dd, .slice ta tt.length tc] 29)) := hbel.alloc hbel.size _
        clear hs hlc hc hsl
        cases hx : kk == 0 with
        | true =>
          cases hy : c == 0 with
          | true =>
            go_wp2_with fail
            go_region
            go_wp2_with fail
            go_roundw
            case rel => exact ⟨k + 1, by omega, by go_num, fun j hj => by
              by_cases e : j = k
              · subst e; rw [HF.out, hx, hy]; rfl
              · exact HA.out j (by omega), ⟨hba.os, hba.tape, hba.output, hba.size, hba.block⟩⟩
            case measure => simp [intOf]; omega
          | false =>
            have HB : Hid (E = 9) := by
              show _ = _
              rw [H9.out, if_neg]
              intro e
              rw [List.all_eq_true] at e
              have := e k (by simpa using hkm)
              rw [HF.out, hx, hy] at this
              cases this
            go_wp2_with fail
            go_region
            go_wp2_with fail
            go_ret
            exact ⟨ret_int HB.out.symm, Below.on hbw ⟨hba.os, hba.tape, hba.output, hba.size, hba.block⟩⟩
        | false =>
          cases hy : c == 0 with
          | true =>
            have HB : Hid (E = 9) := by
              show _ = _
              rw [H9.out, if_neg]
              intro e
              rw [List.all_eq_true] at e
              have := e k (by simpa using hkm)
              rw [HF.out, hx, hy] at this
              cases this
            go_wp2_with fail
            go_region
            go_wp2_with fail
            go_ret
            exact ⟨ret_int HB.out.symm, Below.on hbw ⟨hba.os, hba.tape, hba.output, hba.size, hba.block⟩⟩
          | false =>
            go_wp2_with fail
            go_region
            go_wp2_with fail
            go_roundw
            case rel => exact ⟨k + 1, by omega, by go_num, fun j hj => by
              by_cases e : j = k
              · subst e; rw [HF.out, hx, hy]; rfl
              · exact HA.out j (by omega), ⟨hba.os, hba.tape, hba.output, hba.size, hba.block⟩⟩
            case measure => simp [intOf]; omega
      · have e4 : k = sn := by omega
        subst e4
        go_wp2_with fail
        go_ret
        refine ⟨ret_int ?_, Below.on hbw hbel⟩
        rw [H9.out, if_pos]
        rw [List.all_eq_true]
        intro j hj
        exact HA.out j (by rw [← HN.out]; simpa using hj)

theorem tcheck_is {w : World} {v : Value} {m : ImgD} (h : Img w v m) {E : Int} (hE : checkE m = E) :
    Calls Try.prog 28 #[v] w fun r w' => r = .returned (.int .i64 E) ∧ Below w.heap.size w w' := by
  have h' := h
  obtain ⟨ra, rc, sa, sc, fa, fc, na, nc, rfl, h1, h2, h3, h4⟩ := h.parts
  by_cases h0 : shapeE m = 0
  · have z2 := (shapeE_zero h0).2.1
    have hp := slotsE_parts z2
    obtain ⟨sb, so, sc', e, hcp, hlt, hcell⟩ := h2.open hp.1
    simp at e
    obtain ⟨rfl, rfl⟩ := e
    exact tcheck_at m.guest ra _ rc sb so _ sc fa _ fc na _ nc m E w h' h3 rfl hlt hp.2 hcell h0 hE
  · have e : shapeE m = E := by rw [← hE]; unfold checkE; rw [if_pos h0]
    exact tcheck_err m.guest ra _ rc sa _ sc fa _ fc na _ nc m E w h' e (by rw [← e]; simpa using h0)
end Go.Proofs.Ytehleeibgkpjmab
