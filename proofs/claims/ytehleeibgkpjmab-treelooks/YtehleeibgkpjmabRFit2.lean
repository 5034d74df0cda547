/- Contract of rootFits: a last table; and all ways together. -/
import Derived.Test.YtehleeibgkpjmabRFit
namespace Go.Proofs.Ytehleeibgkpjmab
open Go.RowKit Go.Shelf
set_option maxRecDepth 20000

set_option maxHeartbeats 2000000 in
theorem rootFits_tab (lb lo : Nat) (ln lc : Nat) (L : List SlotD) (nm : ByteArray) (g : Nat) (rb ro : Nat) (rn rc : Nat) (r : List Int) (w : World) (hg : g ≤ 16) (hq1 : 4 * rn ≤ g + 3) (hq2 : g + 3 < 4 * rn + 4) (h0 : 0 < g % 4) (h : Slots w (.slice (some ⟨lb, lo, none⟩) ln lc) L) (hr : Sl w (.slice (some ⟨rb, ro, none⟩) rn rc) r) (hB : (!r.all (rootE L)) = false)
    (hb : rb < w.heap.size) (hbl : lb < w.heap.size) (t : Nat) (ht0 : 0 < t) (ht : t < ln) (hlast : w.cell? ⟨rb, ro + (rn - 1), none⟩ = some (.int .i64 t)) (tb tw tc : Nat) (hcell : w.cell? ⟨lb, lo + t * 3 + 2, none⟩ = some (.slice (some ⟨tb, tw, none⟩) 4 tc)) (htc : 4 ≤ tc)
    (xs : List Int) (hs : Sl w (.slice (some ⟨tb, tw, none⟩) 4 tc) xs) (B : Bool) (hxs : (xs.drop (g % 4)).all (fun k => k == 0) = B) :
    Calls Try.prog 44 #[.slice (some ⟨lb, lo, none⟩) ln lc, .agg #[.string nm, .int .i64 g, .slice (some ⟨rb, ro, none⟩) rn rc]] w fun r w' => r = .returned (.bool B) ∧ Below w.heap.size w w' := by
  have b0 := rfW_below w (.slice (some ⟨lb, lo, none⟩) ln lc) nm g (.slice (some ⟨rb, ro, none⟩) rn rc)
  have hcall := rootAll w (.slice (some ⟨lb, lo, none⟩) ln lc) L nm g (.slice (some ⟨rb, ro, none⟩) rn rc) r h hr hB
  obtain ⟨c0, c1, c2, c3⟩ := boxes2 w (.slice (some ⟨lb, lo, none⟩) ln lc) (.string nm) (.int .i64 g) (.slice (some ⟨rb, ro, none⟩) rn rc) 22 64
  have hl := (b0.cell (p := ⟨rb, ro + (rn - 1), none⟩) hb).trans hlast
  have hd := (hs.drop (k := g % 4) (by omega)).below b0
  have hcell := (b0.cell (p := ⟨lb, lo + t * 3 + 2, none⟩) hbl).trans hcell
  have hne : ((t : Int) == 0) = false := by simp; omega
  have hmod : ((g : Int) % 4).toNat = g % 4 := by omega
  have HX : Hid ((xs.drop (g % 4)).all (fun k => k == 0) = B) := hxs
  have h4 : g % 4 ≤ 4 := by omega
  clear h hr hB hlast hs hxs
  go_enter Try.func44, Try.ntmps44
  go_wp2_with fail
  refine hcall.mono ?_
  rintro e w1 ⟨rfl, b1⟩
  replace c0 := (b1.cell (p := ⟨w.heap.size, 0, none⟩) (by simp; omega)).trans c0
  replace c2 := (b1.cell (p := ⟨w.heap.size + 1, 1, none⟩) (by simp)).trans c2
  replace c3 := (b1.cell (p := ⟨w.heap.size + 1, 2, none⟩) (by simp)).trans c3
  replace hl := (b1.cell (p := ⟨rb, ro + (rn - 1), none⟩) (by simp; omega)).trans hl
  replace hcell := (b1.cell (p := ⟨lb, lo + t * 3 + 2, none⟩) (by simp; omega)).trans hcell
  replace hd := hd.below b1
  have hcall2 := containsI_any (g := 63) (lb := #[]) (enters_of Try.func63 (by kernel_rfl) rfl) hd (p := fun x => !(x == 0))
    (fun W x hb => (holeP_any x W).mono fun e w' hr => ⟨hr.1, hr.2 ▸ Below.refl _ _⟩) (any_not (fun x => x == 0) _)
  rw [HX.out] at hcall2
  clear hcall hd
  go_wp2_with fail
  refine hcall2.mono ?_
  rintro e w2 ⟨rfl, b2⟩
  go_wp2_with fail
  go_ret
  exact ⟨by simp, Below.on' b0 b1 b2⟩

theorem slotsE_all {L : List SlotD} (h : slotsE L = 0) {j : Nat} (hj : j < L.length) : okD L[j] = true := by
  have hp := slotsE_parts h
  unfold slotsE at h
  rw [if_pos hp] at h
  split at h
  · rename_i g
    have := g.1
    rw [List.all_eq_true] at this
    exact this _ (List.getElem_mem hj)
  · simp at h
theorem okD_tab {s : SlotD} (h : okD s = true) (hk : s.1 = 2) : s.2.2.length = 4 ∧ ckE s.2.2 = 0 := by
  unfold okD slotOK at h
  rw [hk] at h
  simp at h
  exact ⟨ckE_len h.1, h.1⟩
theorem isKd_yes {L : List SlotD} {k kind : Int} (h : isKd L k kind = true) : ∃ j : Nat, k = j ∧ ∃ hj : j < L.length, L[j].1 = kind := by
  by_cases hk : 0 ≤ k ∧ k < L.length
  · obtain ⟨j, rfl⟩ : ∃ j : Nat, k = j := ⟨k.toNat, by omega⟩
    have hj : j < L.length := by omega
    rw [isKd_in hj] at h
    exact ⟨j, rfl, hj, by simpa using h⟩
  · rw [isKd_out hk] at h; cases h
theorem all_at {p : Int → Bool} {r : List Int} (h : r.all p = true) {j : Nat} (hj : j < r.length) : p (r.getD j 0) = true := by
  rw [List.all_eq_true] at h
  have := h _ (List.getElem_mem hj)
  simpa [List.getD, hj] using this

theorem rootFits_is {lv : Value} {L : List SlotD} {nm : ByteArray} {g : Int} {rv : Value} {r : List Int} {w : World} (h : Slots w lv L) (hL : slotsE L = 0) (hg : 0 ≤ g ∧ g ≤ 16) (hr : Sl w rv r) {B : Bool} (hB : rootFit L g r = B) :
    Calls Try.prog 44 #[lv, .agg #[.string nm, .int .i64 g, rv]] w fun r w' => r = .returned (.bool B) ∧ Below w.heap.size w w' := by
  subst hB
  obtain ⟨g, rfl⟩ : ∃ k : Nat, g = k := ⟨g.toNat, by omega⟩
  have hs := hr.small
  have hm := h.small
  by_cases hlen : r.length = (g + 3) / 4
  · have e1 : decide ((r.length : Int) = ((g : Int) + 3) / 4) = true := by simp; omega
    unfold rootFit
    rw [e1, Bool.true_and]
    cases hall : r.all (rootE L) with
    | false =>
      rw [Bool.false_and]
      obtain ⟨la, lc, rfl⟩ := h.form
      obtain ⟨ra, rc, rfl⟩ := hr.form
      exact rootFits_bad la _ lc L nm g ra _ rc r w (by omega) (by omega) (by omega) h hr (by rw [hall]; rfl)
    | true =>
      rw [Bool.true_and]
      unfold lastFit
      by_cases h0 : g % 4 = 0
      · have e2 : ((g : Int) % 4 == 0) = true := by simp; omega
        rw [e2, Bool.true_or]
        obtain ⟨la, lc, rfl⟩ := h.form
        obtain ⟨ra, rc, rfl⟩ := hr.form
        exact rootFits_even la _ lc L nm g ra _ rc r w (by omega) (by omega) (by omega) h0 h hr (by rw [hall]; rfl)
      · have e2 : ((g : Int) % 4 == 0) = false := by simp; omega
        rw [e2, Bool.false_or]
        have hrl : 1 ≤ r.length := by omega
        have hr' := hr
        obtain ⟨rb, ro, rc, rfl, hrc, hrb, hcell⟩ := hr.open hrl
        have hlast := hcell (r.length - 1) (by omega)
        by_cases hz : r.getD (r.length - 1) 0 = 0
        · have e3 : (r.getD (r.length - 1) 0 == 0) = true := by simpa using hz
          rw [e3, Bool.true_or]
          rw [hz] at hlast
          obtain ⟨la, lc, rfl⟩ := h.form
          exact rootFits_hole la _ lc L nm g rb ro _ rc r w (by omega) (by omega) (by omega) (by omega) h hr' (by rw [hall]; rfl) hrb hlast
        · have e3 : (r.getD (r.length - 1) 0 == 0) = false := by simpa using hz
          rw [e3, Bool.false_or]
          have hk := all_at hall (j := r.length - 1) (by omega)
          rw [rootE_x hz] at hk
          obtain ⟨t, ht, htl, hkd⟩ := isKd_yes hk
          have hok := okD_tab (slotsE_all hL htl) hkd
          have h' := h
          obtain ⟨lb, lo, lc, rfl, hlc, hlb, hcl⟩ := h.open (by omega)
          obtain ⟨tv, _, _, c3, hsl⟩ := hcl t htl
          obtain ⟨tb, tw, tc, rfl, htc, htb, _⟩ := hsl.four hok.1
          rw [ht] at hlast ⊢
          have e4 : tabOf L (t : Int) = L[t].2.2 := by unfold tabOf; simp [List.getD, htl]
          rw [e4, show ((g : Int) % 4).toNat = g % 4 by omega]
          refine rootFits_tab lb lo _ lc L nm g rb ro _ rc r w (by omega) (by omega) (by omega) (by omega) h' hr' (by rw [hall]; rfl) hrb hlb t (by rw [ht] at hz; omega) htl hlast tb tw tc c3 htc L[t].2.2 hsl _ rfl
  · have e1 : decide ((r.length : Int) = ((g : Int) + 3) / 4) = false := by simp; omega
    unfold rootFit
    rw [e1, Bool.false_and]
    obtain ⟨la, lc, rfl⟩ := h.form
    obtain ⟨ra, rc, rfl⟩ := hr.form
    exact rootFits_len la _ lc nm g ra _ rc w (by omega) hs hlen
end Go.Proofs.Ytehleeibgkpjmab
