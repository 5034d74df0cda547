/- Contract of the document's rootFine. -/
import Derived.Test.YtehleeibgkpjmabRefP
import Derived.Deep.RegionHeld3
namespace Go.Proofs.Ytehleeibgkpjmab
open Go.RowKit Go.Shelf
set_option maxRecDepth 20000

theorem to_drew {n : Nat} {w W : World} (h : Below n w W) : Below n w W.drew := ⟨h.os, h.tape, h.output, h.size, h.block⟩

theorem rootFine_len (gm : Int) (ra : Option Addr) (rn rc : Nat) (sa : Option Addr) (sn sc : Nat) (fa : Option Addr) (fn fc : Nat) (na : Option Addr) (nn nc : Nat) (g : Nat) (qa : Option Addr) (qn qc : Nat) (w : World) (hg : g ≤ 16) (_hq : qn ≤ 9223372036854775807) (hl : qn ≠ (g + 3) / 4) :
    Calls Try.prog 48 #[.agg #[.int .i64 gm, .slice ra rn rc, .slice sa sn sc, .slice fa fn fc, .slice na nn nc], .int .i64 g, .slice qa qn qc] w fun r w' => r = .returned (.bool false) ∧ Below w.heap.size w w' := by
  have b0 : Below w.heap.size w (w.alloc (.cells #[.int .i64 gm, .slice ra rn rc, .slice sa sn sc, .slice fa fn fc, .slice na nn nc] 44)) := (Below.refl _ _).alloc (Nat.le_refl _) _
  have hb : ((qn : Int) != ((g : Int) + 3) / 4) = true := by simp; omega
  clear hl
  go_enter Try.func48, Try.ntmps48
  go_wp2_with (go_at_call 65; refine (wants_any _ _ (by omega)).mono ?_; rintro e w' ⟨rfl, hw⟩; subst hw)
  go_ret
  exact ⟨rfl, b0⟩

set_option maxHeartbeats 2000000 in
theorem rootFine_at (gm : Int) (ra : Option Addr) (rn rc : Nat) (sa : Option Addr) (sn sc : Nat) (fa : Option Addr) (fn fc : Nat) (na : Option Addr) (nn nc : Nat) (m : ImgD) (g : Nat) (qa : Option Addr) (qn qc : Nat) (r : List Int) (B : Bool) (w : World)
    (h : Img w (.agg #[.int .i64 gm, .slice ra rn rc, .slice sa sn sc, .slice fa fn fc, .slice na nn nc]) m) (hsn : m.slots.length = sn) (hcl : ∀ j, (h : j < m.slots.length) → ∃ sb so, sa = some ⟨sb, so, none⟩ ∧ sb < w.heap.size ∧ SlAt w sb (so + j * 3) m.slots[j]) (hs : slotsE m.slots = 0)
    (hqn : r.length = qn) (hg : g ≤ 16) (hq4 : qn ≤ 4) (hl : ((qn : Int) != ((g : Int) + 3) / 4) = false)
    (hq : ∀ j, j < qn → ∃ b off, qa = some ⟨b, off, none⟩ ∧ b < w.heap.size ∧ w.cell? ⟨b, off + j, none⟩ = some (.int .i64 (r.getD j 0)))
    (hB : (List.range r.length).all (fineAt m.slots g r) = B) :
    Calls Try.prog 48 #[.agg #[.int .i64 gm, .slice ra rn rc, .slice sa sn sc, .slice fa fn fc, .slice na nn nc], .int .i64 g, .slice qa qn qc] w fun r w' => r = .returned (.bool B) ∧ Below w.heap.size w w' := by
  have b0 : Below w.heap.size w (w.alloc (.cells #[.int .i64 gm, .slice ra rn rc, .slice sa sn sc, .slice fa fn fc, .slice na nn nc] 44)) := (Below.refl _ _).alloc (Nat.le_refl _) _
  have m0 : (w.alloc (.cells #[.int .i64 gm, .slice ra rn rc, .slice sa sn sc, .slice fa fn fc, .slice na nn nc] 44)).heap[w.heap.size]? = some (.cells #[.int .i64 gm, .slice ra rn rc, .slice sa sn sc, .slice fa fn fc, .slice na nn nc] 44) := World.alloc_heap_new _ _
  have h40 : sn ≤ 40 := by rw [← hsn]; exact (slotsE_parts hs).2
  have H1 : Hid (r.length = qn ∧ m.slots.length = sn) := ⟨hqn, hsn⟩
  have H2 : Hid (∀ j, j < qn → ∃ b off, qa = some ⟨b, off, none⟩ ∧ b < w.heap.size ∧ w.cell? ⟨b, off + j, none⟩ = some (.int .i64 (r.getD j 0))) := hq
  have H3 : Hid (∀ j, (h : j < m.slots.length) → ∃ sb so, sa = some ⟨sb, so, none⟩ ∧ sb < w.heap.size ∧ SlAt w sb (so + j * 3) m.slots[j]) := hcl
  have H4 : Hid (slotsE m.slots = 0) := hs
  have H5 : Hid ((List.range r.length).all (fineAt m.slots g r) = B) := hB
  have H6 : Hid (Img w (.agg #[.int .i64 gm, .slice ra rn rc, .slice sa sn sc, .slice fa fn fc, .slice na nn nc]) m) := h
  have H7 : Hid (∀ k, k < qn → fineAt m.slots g r k = false → B = false) := fun k hk hf => by
    rw [← hB]
    cases e : (List.range r.length).all (fineAt m.slots g r) with
    | false => rfl
    | true =>
      rw [List.all_eq_true] at e
      have := e k (by rw [hqn]; simpa using hk)
      rw [hf] at this; cases this
  clear hqn hsn hq hcl hs hB h
  go_enter Try.func48, Try.ntmps48
  go_wp2_with (go_at_call 65; refine (wants_any _ _ (by omega)).mono ?_; rintro e w' ⟨rfl, hw⟩; subst hw)
  go_loopw [7, 8, 9] (fun k _ _ wr => ∃ q : Nat, q ≤ qn ∧ k = .int .i64 q ∧ Hid (∀ j, j < q → fineAt m.slots g r j = true) ∧ Below (w.alloc (.cells #[.int .i64 gm, .slice ra rn rc, .slice sa sn sc, .slice fa fn fc, .slice na nn nc] 44)).heap.size (w.alloc (.cells #[.int .i64 gm, .slice ra rn rc, .slice sa sn sc, .slice fa fn fc, .slice na nn nc] 44)) wr) (fun k _ _ _ => qn - (intOf k).toNat)
  case atStart => exact ⟨0, Nat.zero_le _, rfl, fun j hj => absurd hj (by omega), Below.refl _ _⟩
  case round =>
    obtain ⟨q, hqq, rfl, HA, hbel⟩ := hrel
    by_cases hlk : q < qn
    · obtain ⟨b, off, rfl, hlt, hcell⟩ := H2.out q hlk
      have hki : (q : Int) < (qn : Int) := by omega
      have hbw := Below.on b0 hbel
      obtain ⟨x, hx⟩ : ∃ x, r.getD q 0 = x := ⟨_, rfl⟩
      rw [hx] at hcell
      have hc1 : wr.cell? ⟨b, off + q, none⟩ = some (.int .i64 x) := (hbw.cell (p := ⟨b, off + q, none⟩) hlt).trans hcell
      have HF : Hid (fineAt m.slots g r q = (x == 0 || (kindN m.slots x == 2 && (List.range 4).all (fun i => decide (((q * 4 + i : Nat) : Int) < g) || (tabOf m.slots x).getD i 0 == 0)))) := by
        show _ = _
        unfold fineAt; rw [hx]
      clear hx hcell
      have mr := cells_below m0 hbel (by simp)
      obtain ⟨c0, c1, c2, c3, c4⟩ := five mr
      by_cases hx0 : x = 0
      · have hx0b : (x == 0) = true := by simp [hx0]
        have HX : Hid (x = 0) := hx0
        clear hx0
        go_wp2_with fail
        go_roundw
        case rel => exact ⟨q + 1, by omega, by go_num, fun j hj => by
          by_cases e : j = q
          · subst e; rw [HF.out, hx0b]; rfl
          · exact HA.out j (by omega), hbel⟩
        case measure => simp [intOf]; omega
      · have hx0b : (x == 0) = false := by simp [hx0]
        have HX : Hid (x ≠ 0) := hx0
        clear hx0
        obtain ⟨K, hK⟩ : ∃ K, kindN m.slots x = K := ⟨_, rfl⟩
        have hszr : w.heap.size < wr.heap.size := (Array.getElem?_eq_some_iff.1 mr).1
        have hbwr : b < wr.heap.size := Nat.lt_of_lt_of_le hlt hbw.size
        have hcall := fun W (hW : Below w.heap.size w W) => kindOf_is (H6.out.below hW) (by rw [H1.out.2]; omega) x hK
        have HK : Hid (kindN m.slots x = K) := hK
        clear hK
        go_wp2_with fail
        go_region_held3 (fun w' => w'.cell? ⟨w.heap.size, 0, none⟩ = some (.int .i64 gm) ∧ w'.cell? ⟨w.heap.size, 0 + 1, none⟩ = some (.slice ra rn rc) ∧ w'.cell? ⟨w.heap.size, 0 + 1 + 1, none⟩ = some (.slice sa sn sc) ∧ w'.cell? ⟨w.heap.size, 0 + 1 + 1 + 1, none⟩ = some (.slice fa fn fc) ∧ w'.cell? ⟨w.heap.size, 0 + 1 + 1 + 1 + 1, none⟩ = some (.slice na nn nc) ∧ w'.cell? ⟨b, off + q, none⟩ = some (.int .i64 x)) (first | exact ⟨c0, c1, c2, c3, c4, hc1⟩ | exact ⟨d0, d1, d2, d3, d4, e1⟩)
          (first | (go_at_call 47; refine (hcall _ (to_drew hbw)).mono ?_; rintro e w1 ⟨rfl, b1⟩; have b1 := below_drew b1; have m1 := cells_below mr b1 hszr; obtain ⟨d0, d1, d2, d3, d4⟩ := five m1; have e1 := (b1.cell (p := ⟨b, off + q, none⟩) hbwr).trans hc1))
        have hw1 := Below.on hbw b1
        have hbel1 := hbel.trans (b1.mono hbel.size)
        clear hcall hc1 c0 c1 c2 c3 c4 hbel hbw
        by_cases hK2 : K = 2
        · have hKb : (K != 2) = false := by simp [hK2]
          have hkd : isKd m.slots x 2 = true := by rw [← kindN_kd HX.out (by decide), HK.out, hK2]; rfl
          obtain ⟨t, ht, htl, hk2⟩ := isKd_yes hkd
          subst ht
          have hok := okD_tab (slotsE_all H4.out htl) hk2
          obtain ⟨sb, so, rfl, hsb, hSA⟩ := H3.out t htl
          obtain ⟨tv, _, _, c3, hsl⟩ := hSA
          obtain ⟨tb, tw, tc, rfl, _, htb, htc⟩ := hsl.four hok.1
          have hts : t < sn := by rw [← H1.out.2]; exact htl
          have hti : (t : Int) < (sn : Int) := by omega
          have ct : w1.cell? ⟨sb, so + t * 3 + 2, none⟩ = some (.slice (some ⟨tb, tw, none⟩) 4 tc) := (hw1.cell (p := ⟨sb, so + t * 3 + 2, none⟩) hsb).trans c3
          have HT : Hid (∀ j, j < 4 → w1.cell? ⟨tb, tw + j, none⟩ = some (.int .i64 ((tabOf m.slots t).getD j 0))) := fun j hj => by
            have := (hw1.cell (p := ⟨tb, tw + j, none⟩) htb).trans (htc j hj)
            rw [this]; unfold tabOf; simp [List.getD, htl]
          have HF2 : Hid (fineAt m.slots g r q = (List.range 4).all (fun i => decide (((q * 4 + i : Nat) : Int) < g) || (tabOf m.slots t).getD i 0 == 0)) := by
            show _ = _
            rw [HF.out, hx0b, HK.out, hK2]; rfl
          have HF3 : Hid (∀ i, i < 4 → ¬ ((q * 4 + i : Nat) : Int) < g → (tabOf m.slots t).getD i 0 ≠ 0 → B = false) := fun i hi h1 h2 => H7.out q hlk (by
            rw [HF2.out]
            cases e : (List.range 4).all (fun i => decide (((q * 4 + i : Nat) : Int) < g) || (tabOf m.slots t).getD i 0 == 0) with
            | false => rfl
            | true =>
              rw [List.all_eq_true] at e
              have := e i (by simpa using hi)
              rw [decide_eq_false h1, Bool.false_or] at this
              exact absurd (by simpa using this) h2)
          clear hsl htc c3 hok hk2 hkd hK2
          go_wp2_with fail
          go_region
          go_wp2_with fail
          go_loopw [9] (fun i wr => ∃ u : Nat, u ≤ 4 ∧ i = .int .i64 u ∧ Hid (∀ j, j < u → (decide (((q * 4 + j : Nat) : Int) < g) || (tabOf m.slots t).getD j 0 == 0) = true) ∧ wr = w1.drew) (fun i _ => 4 - (intOf i).toNat)
          case atStart => exact ⟨0, Nat.zero_le _, rfl, fun j hj => absurd hj (by omega), rfl⟩
          case round =>
            obtain ⟨u, hu, rfl, HI, hw⟩ := hrel
            subst hw
            by_cases hu4 : u < 4
            · have hui : (u : Int) < 4 := by omega
              have cx := HT.out u hu4
              obtain ⟨y, hy⟩ : ∃ y, (tabOf m.slots t).getD u 0 = y := ⟨_, rfl⟩
              rw [hy] at cx
              have HY : Hid ((tabOf m.slots t).getD u 0 = y) := hy
              clear hy
              by_cases hlt : (q : Int) * 4 + u < g
              · have hge : ¬ (g : Int) ≤ (q : Int) * 4 + u := by omega
                go_wp2_with fail
                go_roundw
                case rel => exact ⟨u + 1, by omega, by go_num, fun j hj => by
                  by_cases e : j = u
                  · subst e; rw [decide_eq_true (by omega)]; rfl
                  · exact HI.out j (by omega), trivial⟩
                case measure => simp [intOf]; omega
              · have hge : (g : Int) ≤ (q : Int) * 4 + u := by omega
                by_cases hy0 : y = 0
                · have hyb : (y != 0) = false := by simp [hy0]
                  have HY0 : Hid (y = 0) := hy0
                  clear hy0
                  go_wp2_with fail
                  go_roundw
                  case rel => exact ⟨u + 1, by omega, by go_num, fun j hj => by
                    by_cases e : j = u
                    · subst e; rw [HY.out, HY0.out]; simp
                    · exact HI.out j (by omega), trivial⟩
                  case measure => simp [intOf]; omega
                · have hyb : (y != 0) = true := by simp [hy0]
                  have HY0 : Hid (B = false) := HF3.out u hu4 (by omega) (by rw [HY.out]; exact hy0)
                  clear hy0
                  go_wp2_with fail
                  go_ret
                  exact ⟨ret_boolE HY0.out.symm, to_drew hw1⟩
            · have e4 : u = 4 := by omega
              subst e4
              go_wp2_with fail
              go_roundw
              case rel => exact ⟨q + 1, by omega, by go_num, fun j hj => by
                by_cases e : j = q
                · subst e; rw [HF2.out, List.all_eq_true]; intro i hi; exact HI.out i (by simpa using hi)
                · exact HA.out j (by omega), ⟨hbel1.os, hbel1.tape, hbel1.output, hbel1.size, hbel1.block⟩⟩
              case measure => simp [intOf]; omega
        · have hKb : (K != 2) = true := by simp [hK2]
          have HBf : Hid (B = false) := H7.out q hlk (by rw [HF.out, hx0b, HK.out]; simp [hK2])
          clear hK2
          go_wp2_with fail
          go_ret
          exact ⟨ret_boolE HBf.out.symm, hw1⟩
    · have e4 : q = qn := by omega
      subst e4
      have HE : Hid (B = true) := by
        show _ = _
        rw [← H5.out, List.all_eq_true]
        intro j hj
        exact HA.out j (by rw [← H1.out.1]; simpa using hj)
      go_wp2_with fail
      go_ret
      exact ⟨ret_boolE HE.out.symm, Below.on b0 hbel⟩

theorem Slots.at {w : World} {sa : Option Addr} {n sc : Nat} {L : List SlotD} (h : Slots w (.slice sa n sc) L) : ∀ j, (h : j < L.length) → ∃ sb so, sa = some ⟨sb, so, none⟩ ∧ sb < w.heap.size ∧ SlAt w sb (so + j * 3) L[j] := by
  intro j hj
  obtain ⟨sb, so, sc', e, _, hsb, hcl⟩ := h.open (by omega)
  simp at e
  exact ⟨sb, so, e.1, hsb, hcl j hj⟩
theorem rootFine_is {w : World} {v rv : Value} {m : ImgD} {g : Int} {r : List Int} (h : Img w v m) (hs : slotsE m.slots = 0) (hg : guestOK g = true) (hr : Sl w rv r) {B : Bool} (hB : rootFit m.slots g r = B) :
    Calls Try.prog 48 #[v, .int .i64 g, rv] w fun r w' => r = .returned (.bool B) ∧ Below w.heap.size w w' := by
  rw [← fineR_eq hs hg] at hB
  unfold guestOK at hg
  simp only [decide_eq_true_eq] at hg
  obtain ⟨k, rfl⟩ : ∃ k : Nat, g = k := ⟨g.toNat, by omega⟩
  have h' := h
  obtain ⟨ra, rc, sa, sc, fa, fc, na, nc, rfl, h1, h2, h3, h4⟩ := h.parts
  obtain ⟨qa, qc, rfl⟩ := hr.form
  obtain ⟨_, hm, _, hc⟩ := hr.cells
  unfold fineR at hB
  by_cases hl : (r.length : Int) = ((k : Int) + 3) / 4
  · rw [decide_eq_true hl, Bool.true_and] at hB
    exact rootFine_at m.guest ra _ rc sa _ sc fa _ fc na _ nc m k qa _ qc r B w h' rfl h2.at hs rfl (by omega) (by omega) (by simp [hl]) hc hB
  · rw [decide_eq_false hl, Bool.false_and] at hB
    subst hB
    exact rootFine_len m.guest ra _ rc sa _ sc fa _ fc na _ nc k qa _ qc w (by omega) hm (by omega)
end Go.Proofs.Ytehleeibgkpjmab
