/- The walk of TreeTrue. -/
import Derived.Test.YtehleeibgkpjmacTBegun
import Derived.Test.YtehleeibgkpjmacRtI
namespace Go.Proofs.Ytehleeibgkpjmac
open Go.RowKit Go.Shelf
set_option maxRecDepth 20000

theorem choose_any (c : Int) (n : Nat) (w : World) (h0 : 0 < n) (hn : n ≤ 16) (hlo : -9223372036854775808 ≤ c) (hhi : c ≤ 9223372036854775807) :
    Calls Try.prog 13 #[.int .i64 c, .int .i64 n] w fun r w' => (∃ j : Nat, j < n ∧ r = .returned (.int .i64 j)) ∧ w' = w := by
  have hne : ((n : Int) == 0) = false := by simp; omega
  have hne2 : ¬ (n : Int) = 0 := by omega
  by_cases h : c < 0
  · go_enter Try.func13, Try.ntmps13
    go_wp2
    go_ret
    have h1 : 0 ≤ -(c + 1) := by omega
    refine ⟨⟨(-(c + 1) % (n : Int)).toNat, ?_, ret_int ?_⟩, rfl⟩
    · have := Int.emod_lt_of_pos (-(c + 1)) (show (0 : Int) < n by omega)
      have := Int.emod_nonneg (-(c + 1)) hne2
      omega
    · have := Int.emod_nonneg (-(c + 1)) hne2
      rw [← Int.neg_tmod, Int.tmod_eq_emod_of_nonneg h1]
      omega
  · go_enter Try.func13, Try.ntmps13
    go_wp2
    go_ret
    have h1 : 0 ≤ c := by omega
    refine ⟨⟨(c % (n : Int)).toNat, ?_, ret_int ?_⟩, rfl⟩
    · have := Int.emod_lt_of_pos c (show (0 : Int) < n by omega)
      have := Int.emod_nonneg c hne2
      omega
    · have := Int.emod_nonneg c hne2
      try rw [Int.tmod_eq_emod_of_nonneg h1]
      omega

theorem ttrue_bad (gm : Int) (ra : Option Addr) (rn rc : Nat) (sa : Option Addr) (sn sc : Nat) (fa : Option Addr) (fn fc : Nat) (na : Option Addr) (nn nc : Nat) (m : ImgD) (n : Int) (w : World) (h : Img w (.agg #[.int .i64 gm, .slice ra rn rc, .slice sa sn sc, .slice fa fn fc, .slice na nn nc]) m) (E : Int) (hE : checkE m = E) (hne : (E != 0) = true) :
    Calls Try.prog 3 #[.agg #[.int .i64 gm, .slice ra rn rc, .slice sa sn sc, .slice fa fn fc, .slice na nn nc], .int .i64 n] w fun r w' => r = .returned (.bool true) ∧ Below w.heap.size w w' := by
  have b0 : Below w.heap.size w (w.alloc (.cells #[.int .i64 gm, .slice ra rn rc, .slice sa sn sc, .slice fa fn fc, .slice na nn nc] 26)) := (Below.refl _ _).alloc (Nat.le_refl _) _
  have h1 := tcheck_is (h.below b0) hE
  clear h hE
  go_enter Try.func3, Try.ntmps3
  go_wp2_with fail
  refine h1.mono ?_
  rintro e w1 ⟨rfl, b1⟩
  go_wp2_with fail
  refine (treeBegun_any _).mono ?_
  rintro e w2 ⟨rfl, b2⟩
  go_wp2_with fail
  go_ret
  exact ⟨rfl, Below.on' b0 b1 b2⟩

set_option maxRecDepth 20000 in
set_option maxHeartbeats 8000000 in
theorem ttrue_at (gm : Nat) (ra : Option Addr) (rn rc : Nat) (sb so : Nat) (sn sc : Nat) (fb fo fc : Nat) (na : Option Addr) (nn nc : Nat) (m : ImgD) (n : Int) (w : World) (h : Img w (.agg #[.int .i64 gm, .slice ra rn rc, .slice (some ⟨sb, so, none⟩) sn sc, .slice (some ⟨fb, fo, none⟩) sn fc, .slice na nn nc]) m) (hsn : m.slots.length = sn) (hgm : m.guest = gm) (hsb : sb < w.heap.size) (hfb : fb < w.heap.size) (hcl : ∀ j, (h : j < m.slots.length) → SlAt w sb (so + j * 3) m.slots[j])
    (hrf : ∀ j, j < sn → w.cell? ⟨fb, fo + j, none⟩ = some (.int .i64 (m.refs.getD j 0))) (hC : checkE m = 0) (hlo : -9223372036854775808 ≤ n) (hhi : n ≤ 9223372036854775807) :
    Calls Try.prog 3 #[.agg #[.int .i64 gm, .slice ra rn rc, .slice (some ⟨sb, so, none⟩) sn sc, .slice (some ⟨fb, fo, none⟩) sn fc, .slice na nn nc], .int .i64 n] w fun r w' => r = .returned (.bool true) ∧ Below w.heap.size w w' := by
  have b0 : Below w.heap.size w (w.alloc (.cells #[.int .i64 gm, .slice ra rn rc, .slice (some ⟨sb, so, none⟩) sn sc, .slice (some ⟨fb, fo, none⟩) sn fc, .slice na nn nc] 26)) := (Below.refl _ _).alloc (Nat.le_refl _) _
  have m0 : (w.alloc (.cells #[.int .i64 gm, .slice ra rn rc, .slice (some ⟨sb, so, none⟩) sn sc, .slice (some ⟨fb, fo, none⟩) sn fc, .slice na nn nc] 26)).heap[w.heap.size]? = some (.cells #[.int .i64 gm, .slice ra rn rc, .slice (some ⟨sb, so, none⟩) sn sc, .slice (some ⟨fb, fo, none⟩) sn fc, .slice na nn nc] 26) := World.alloc_heap_new _ _
  have z0 : w.heap.size < (w.alloc (.cells #[.int .i64 gm, .slice ra rn rc, .slice (some ⟨sb, so, none⟩) sn sc, .slice (some ⟨fb, fo, none⟩) sn fc, .slice na nn nc] 26)).heap.size := by simp
  obtain ⟨hE, hcnt, hfree⟩ := checkE_zero hC
  have hp := slotsE_parts (shapeE_zero hE).2.1
  have hg := guest_ok hE
  have hg16 : gm ≤ 16 := by omega
  have h40 : sn ≤ 40 := by omega
  have h1s : 1 ≤ sn := by omega
  have h1 := tcheck_is (h.below b0) hC
  have h2 := fun W (hW : Below w.heap.size w W) => counts_ok (h.below hW) hE
  have H1 : Hid (m.slots.length = sn ∧ m.guest = gm) := ⟨hsn, hgm⟩
  have H2 : Hid (∀ j, (h : j < m.slots.length) → SlAt w sb (so + j * 3) m.slots[j]) := hcl
  have H3 : Hid (∀ j, j < sn → w.cell? ⟨fb, fo + j, none⟩ = some (.int .i64 (m.refs.getD j 0))) := hrf
  have H4 : Hid (cntL m = m.refs ∧ (∀ j, j < m.slots.length → freeAt m j = true) ∧ shapeE m = 0 ∧ checkE m = 0) := ⟨hcnt, hfree, hE, hC⟩
  have H5 : Hid (Img w (.agg #[.int .i64 gm, .slice ra rn rc, .slice (some ⟨sb, so, none⟩) sn sc, .slice (some ⟨fb, fo, none⟩) sn fc, .slice na nn nc]) m) := h
  have hss : ((sn : Int) != (sn : Int)) = false := by simp
  clear h hE hcnt hfree hC hsn hgm hcl hrf hp hg
  go_enter Try.func3, Try.ntmps3
  go_wp2_with fail
  refine h1.mono ?_
  rintro e w1 ⟨rfl, b1⟩
  have m1 := cells_below m0 b1 z0
  have hB1 := Below.on b0 b1
  have z1 := (Array.getElem?_eq_some_iff.1 m1).1
  obtain ⟨a0, a1, a2, a3, a4⟩ := five m1
  clear h1
  go_wp2_with fail
  refine (h2 _ hB1).mono ?_
  rintro e w2 ⟨⟨lv, rfl, hlv⟩, b2⟩
  have m2 := cells_below m1 b2 z1
  have hB2 := Below.on hB1 b2
  have z2 := (Array.getElem?_eq_some_iff.1 m2).1
  clear a0 a1 a2 a3 a4 h2
  obtain ⟨c0, c1, c2, c3, c4⟩ := five m2
  have hlen : (cntL m).length = sn := by rw [cntL_length, H1.out.1]
  obtain ⟨la, lc, rfl⟩ := hlv.form
  obtain ⟨_, _, _, hlc⟩ := hlv.cells
  rw [hlen] at hlc ⊢
  have HLc : Hid (∀ j, j < sn → ∃ b off, la = some ⟨b, off, none⟩ ∧ b < w2.heap.size ∧ w2.cell? ⟨b, off + j, none⟩ = some (.int .i64 ((cntL m).getD j 0))) := hlc
  have HLen : Hid ((cntL m).length = sn) := hlen
  clear hlv hlc hlen
  go_wp2_with fail
  go_loopw [7, 8] (fun t i wq => ∃ k : Nat, k ≤ sn ∧ i = .int .i64 k ∧ t = .int .i64 (tabsN m.slots k) ∧ wq = w2) (fun _ i _ => sn - (intOf i).toNat)
  case atStart => exact ⟨0, Nat.zero_le _, rfl, rfl, rfl⟩
  case round =>
    obtain ⟨k, hk, rfl, rfl, hw⟩ := hrel
    subst hw
    have htle := tabsN_le m.slots k
    by_cases hlk : k < sn
    · have hki : (k : Int) < (sn : Int) := by omega
      have hkm : k < m.slots.length := by rw [H1.out.1]; exact hlk
      obtain ⟨tv, s1, _⟩ := H2.out k hkm
      have ekd : m.slots[k].1 = kd m.slots k := by unfold kd; simp [List.getD, hkm]
      rw [ekd] at s1
      have s1 := (hB2.cell (p := ⟨sb, so + k * 3, none⟩) hsb).trans s1
      obtain ⟨z, hz⟩ : ∃ z, kd m.slots k = z := ⟨_, rfl⟩
      rw [hz] at s1
      obtain ⟨u, hu⟩ : ∃ u, tabsN m.slots k = u := ⟨_, rfl⟩
      have HU : Hid (tabsN m.slots (k + 1) = u + if z = 2 then 1 else 0) := by
        show _ = _
        rw [tabsN_succ, hu, hz]
      rw [hu] at htle ⊢
      clear hu hz ekd
      by_cases hz2 : z = 2
      · have hzb : (z == 2) = true := by simp [hz2]
        have HZ : Hid (tabsN m.slots (k + 1) = u + 1) := by show _ = _; rw [HU.out, if_pos hz2]
        clear hz2 HU
        go_wp2_with fail
        go_roundw
        case rel => exact ⟨k + 1, by omega, by go_num, by rw [HZ.out]; go_num, trivial⟩
        case measure => simp [intOf]; omega
      · have hzb : (z == 2) = false := by simp [hz2]
        have HZ : Hid (tabsN m.slots (k + 1) = u) := by show _ = _; rw [HU.out, if_neg hz2]; rfl
        clear hz2 HU
        go_wp2_with fail
        go_roundw
        case rel => exact ⟨k + 1, by omega, by go_num, by rw [HZ.out], trivial⟩
        case measure => simp [intOf]; omega
    · have e5 : k = sn := by omega
      subst e5
      obtain ⟨T, hT⟩ : ∃ T, tabsN m.slots k = T := ⟨_, rfl⟩
      have HT : Hid (tabsN m.slots k = T) := hT
      rw [hT] at htle ⊢
      clear hT
      obtain ⟨wa, hrn⟩ : ∃ X, X = wr := ⟨_, rfl⟩
      subst hrn
      go_wp2_with fail
      go_loopw [9] (fun i wq => ∃ q : Nat, q ≤ k ∧ i = .int .i64 q ∧ (Hid (∀ a, wq.cell? a = wa.cell? a) ∧ wq.heap = wa.heap ∧ Below w.heap.size w wq)) (fun i _ => k - (intOf i).toNat)
      case atStart => exact ⟨0, Nat.zero_le _, rfl, fun _ => rfl, rfl, hB2⟩
      case round =>
        obtain ⟨q, hq, rfl, hsame, hheap, hbr⟩ := hrel
        have HHeap : Hid (wr.heap = wa.heap) := hheap
        clear hheap
        have c0 := (hsame.out _).trans c0
        have c1 := (hsame.out _).trans c1
        have c2 := (hsame.out _).trans c2
        have c3 := (hsame.out _).trans c3
        have c4 := (hsame.out _).trans c4
        by_cases hlq : q < k
        · have hqi : (q : Int) < (k : Int) := by omega
          have hqm : q < m.slots.length := by rw [H1.out.1]; exact hlq
          obtain ⟨tv, s1, _⟩ := H2.out q hqm
          have ekd : m.slots[q].1 = kd m.slots q := by unfold kd; simp [List.getD, hqm]
          rw [ekd] at s1
          have s1 := (hbr.cell (p := ⟨sb, so + q * 3, none⟩) hsb).trans s1
          have s2 := (hbr.cell (p := ⟨fb, fo + q, none⟩) hfb).trans (H3.out q hlq)
          obtain ⟨b, off, rfl, hlt, s3⟩ := HLc.out q hlq
          have s3 := (hsame.out _).trans s3
          rw [← H4.out.1] at s2
          have hfr := H4.out.2.1 q hqm
          unfold freeAt at hfr
          have hnn := cnt_nonneg m H4.out.2.2.1 q hqm
          have hle := cnt_le H4.out.2.2.1 q hqm
          have hdat := fun hk => cnt_data H4.out.2.2.1 hqm hk
          rw [H1.out.1, HT.out] at hdat
          obtain ⟨z, hz⟩ : ∃ z, kd m.slots q = z := ⟨_, rfl⟩
          have hfr : ((z == 0) == ((cntL m).getD q 0 == 0)) = true := by rw [← hz]; exact hfr
          rw [hz] at s1 hdat
          obtain ⟨x, hx⟩ : ∃ x, (cntL m).getD q 0 = x := ⟨_, rfl⟩
          rw [hx] at s2 s3 hfr hnn hle hdat
          have hxx : (x != x) = false := by simp
          have HD : Hid (z = 1 → x ≤ (T : Int) * 4) := hdat
          clear hx hz ekd hdat
          by_cases hx0 : x = 0
          · have hxd : decide (0 < x) = false := decide_eq_false (by omega)
            have hxn : ¬ 0 < x := by omega
            have hz0 : z = 0 := by
              have e : (x == 0) = true := by simp [hx0]
              rw [e] at hfr
              simpa using hfr
            have hzb : (z != 0) = false := by simp [hz0]
            have hz1 : (z == 1) = false := by simp [hz0]
            clear hfr hx0 hz0
            go_wp2_with fail
            go_quiet (fail)
            go_wp2_with fail
            go_roundw
            case rel => exact ⟨q + 1, by omega, by go_num, fun a => hsame.out a, HHeap.out, ⟨hbr.os, hbr.tape, hbr.output, hbr.size, hbr.block⟩⟩
            case measure => simp [intOf]; omega
          · have hxp : 0 < x := by omega
            have hxd : decide (0 < x) = true := decide_eq_true hxp
            have hz0 : z ≠ 0 := by
              have e : (x == 0) = false := by simp [hx0]
              rw [e] at hfr
              simpa using hfr
            have hzb : (z != 0) = true := by simp [hz0]
            clear hfr hx0 hz0
            by_cases hz1 : z = 1
            · have hz1b : (z == 1) = true := by simp [hz1]
              have hxt := HD.out hz1
              have hxtn : ¬ (T : Int) * 4 < x := by omega
              have hxtd : decide ((T : Int) * 4 < x) = false := decide_eq_false hxtn
              clear hz1
              go_wp2_with fail
              go_quiet (fail)
              go_wp2_with fail
              go_roundw
              case rel => exact ⟨q + 1, by omega, by go_num, fun a => hsame.out a, HHeap.out, ⟨hbr.os, hbr.tape, hbr.output, hbr.size, hbr.block⟩⟩
              case measure => simp [intOf]; omega
            · have hz1b : (z == 1) = false := by simp [hz1]
              clear hz1
              go_wp2_with fail
              go_quiet (fail)
              go_wp2_with fail
              go_roundw
              case rel => exact ⟨q + 1, by omega, by go_num, fun a => hsame.out a, HHeap.out, ⟨hbr.os, hbr.tape, hbr.output, hbr.size, hbr.block⟩⟩
              case measure => simp [intOf]; omega
        · have e6 : q = k := by omega
          subst e6
          have mr : wr.heap[w.heap.size]? = some (.cells #[.int .i64 gm, .slice ra rn rc, .slice (some ⟨sb, so, none⟩) q sc, .slice (some ⟨fb, fo, none⟩) q fc, .slice na nn nc] 26) := by rw [HHeap.out]; exact m2
          have zr := (Array.getElem?_eq_some_iff.1 mr).1
          by_cases hg0 : gm = 0
          · subst hg0
            go_wp2_with fail
            refine (treeBegun_any _).mono ?_
            rintro e w4 ⟨rfl, b4⟩
            go_wp2_with fail
            go_ret
            exact ⟨rfl, Below.on hbr b4⟩
          · have hgb : ((gm : Int) == 0) = false := by simp; omega
            have hgp : 0 < gm := by omega
            have HMax : Hid ((if (1 : Int) < (gm : Int) then (gm : Int) else 1) = gm) := by show _ = _; split <;> omega
            have hlook := fun W (hW : Below w.heap.size w W) (j : Nat) (hj : j < gm) => look_is (H5.out.below hW) (j : Int) (E := 0) (lookE_of H4.out.2.2.2 (by rw [H1.out.2]; omega)) (c := lookV m m.root j) (by rw [if_pos rfl]; rfl)
            go_wp2_with fail
            go_region_held3 (fun w' => w'.cell? ⟨w.heap.size, 0, none⟩ = some (.int .i64 gm) ∧ w'.cell? ⟨w.heap.size, 0 + 1, none⟩ = some (.slice ra rn rc) ∧ w'.cell? ⟨w.heap.size, 0 + 1 + 1, none⟩ = some (.slice (some ⟨sb, so, none⟩) q sc) ∧ w'.cell? ⟨w.heap.size, 0 + 1 + 1 + 1, none⟩ = some (.slice (some ⟨fb, fo, none⟩) q fc) ∧ w'.cell? ⟨w.heap.size, 0 + 1 + 1 + 1 + 1, none⟩ = some (.slice na nn nc)) (first | exact ⟨c0, c1, c2, c3, c4⟩ | exact ⟨d0, d1, d2, d3, d4⟩)
              (first
              | (go_at_call 13; rw [HMax.out]; refine (choose_any n gm _ hgp hg16 hlo hhi).mono ?_; rintro e w3 ⟨⟨j, hj, rfl⟩, hw⟩; rw [hw]; clear hw)
              | (go_at_call 12; refine (hlook _ (to_drew hbr) j hj).mono ?_; rintro e w4 ⟨rfl, b4⟩; have b4 := below_drew b4; have m4 := cells_below mr b4 zr; obtain ⟨d0, d1, d2, d3, d4⟩ := five m4))
            have hB4 := Below.on hbr b4
            have hro := root_ok H4.out.2.2.1
            have hgo := guest_ok H4.out.2.2.1
            have hent := lookV_ent H4.out.2.2.1 hro.2 j (by rw [H1.out.2] at hro; omega)
            obtain ⟨c, hc⟩ : ∃ c, lookV m m.root j = c := ⟨_, rfl⟩
            rw [hc] at hent ⊢
            have z4 := (Array.getElem?_eq_some_iff.1 m4).1
            have hbeg := treeBegun_any w4
            clear hc hlook hro hgo
            rcases hent with rfl | rfl | ⟨t, rfl, ht1, ht2, ht3⟩
            · have hqp : (0 : Int) < (q : Int) := by omega
              have hqn : ¬ (q : Int) ≤ 0 := by omega
              go_wp2_with fail
              refine hbeg.mono ?_
              rintro e w5 ⟨rfl, b5⟩
              go_wp2_with fail
              go_ret
              exact ⟨by simp, Below.on hB4 b5⟩
            · have hqp : (0 : Int) < (q : Int) := by omega
              have hqn : ¬ (q : Int) ≤ -1 := by omega
              go_wp2_with fail
              refine hbeg.mono ?_
              rintro e w5 ⟨rfl, b5⟩
              go_wp2_with fail
              go_ret
              exact ⟨by simp, Below.on hB4 b5⟩
            · obtain ⟨tv, s1, _⟩ := H2.out t ht2
              have ekd : m.slots[t].1 = kd m.slots t := by unfold kd; simp [List.getD, ht2]
              rw [ekd, ht3] at s1
              have htq : t < q := by rw [← H1.out.1]; exact ht2
              have hti : (t : Int) < (q : Int) := by omega
              have htn : ¬ (q : Int) ≤ (t : Int) := by omega
              have ht0 : ¬ (t : Int) ≤ 0 := by omega
              have htm : ¬ (t : Int) < -1 := by omega
              clear ekd
              go_wp2_with fail
              refine hbeg.mono ?_
              rintro e w5 ⟨rfl, b5⟩
              have m5 := cells_below m4 b5 z4
              obtain ⟨g0, g1, g2, g3, g4⟩ := five m5
              have hB5 := Below.on hB4 b5
              have s1 := (hB5.cell (p := ⟨sb, so + t * 3, none⟩) hsb).trans s1
              go_wp2_with fail
              go_ret
              exact ⟨by simp, hB5⟩

theorem ttrue_is {v : Value} {m : ImgD} {w : World} (h : Img w v m) (n : Int) (hlo : -9223372036854775808 ≤ n) (hhi : n ≤ 9223372036854775807) : Calls Try.prog 3 #[v, .int .i64 n] w fun r w' => r = .returned (.bool true) ∧ Below w.heap.size w w' := by
  have h' := h
  obtain ⟨ra, rc, sa, sc, fa, fc, na, nc, rfl, h1, h2, h3, h4⟩ := h.parts
  by_cases h0 : checkE m = 0
  · obtain ⟨hE, hcnt, hfree⟩ := checkE_zero h0
    obtain ⟨z1, z2, z3, _⟩ := shapeE_zero hE
    have hp := slotsE_parts z2
    have hg := guest_ok hE
    obtain ⟨k, hk⟩ : ∃ k : Nat, m.guest = k := ⟨m.guest.toNat, by omega⟩
    obtain ⟨sb, so, sc', e, _, hsb, hcl⟩ := h2.open hp.1
    simp at e
    obtain ⟨rfl, rfl⟩ := e
    rw [z3] at h3
    obtain ⟨fb, fo, fc', e, _, hfb, hcf⟩ := h3.open (by omega)
    rw [z3] at h' hcf e
    simp at e
    obtain ⟨rfl, rfl⟩ := e
    rw [hk] at h' ⊢
    rw [z3]
    exact ttrue_at k ra _ rc sb so _ sc fb fo fc na _ nc m n w h' rfl hk hsb hfb hcl hcf h0 hlo hhi
  · exact ttrue_bad m.guest ra _ rc sa _ sc fa _ fc na _ nc m n w h' _ rfl (by simpa using h0)
end Go.Proofs.Ytehleeibgkpjmac
