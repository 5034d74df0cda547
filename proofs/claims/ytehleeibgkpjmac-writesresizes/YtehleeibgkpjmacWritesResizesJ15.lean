/- Texts joined: RoE, RoG, Pair, PDec, WBegun. -/
import Derived.Test.YtehleeibgkpjmacWritesResizesJ14
import Derived.Test.YtehleeibgkpjmacWritesResizesJ13
import Derived.Test.YtehleeibgkpjmacWritesResizesJ1
/- Contract of the document's ResizeOf, on. -/
namespace Go.Proofs.Ytehleeibgkpjmac
open Go.RowKit Go.Shelf
set_option maxRecDepth 20000
set_option linter.unusedVariables false
set_option linter.unusedSimpArgs false

set_option maxHeartbeats 16000000 in
theorem ro_cut (rb ro : Nat) (rc : Nat) (sa : Option Addr) (sc : Nat) (fa : Option Addr) (fc : Nat) (na : Option Addr) (nc : Nat) (m : ImgD) (g : Nat) (w : World) (h : Img w (.agg #[.int .i64 m.guest, .slice (some ⟨rb, ro, none⟩) m.root.length rc, .slice sa m.slots.length sc, .slice fa m.refs.length fc, .slice na m.snaps.length nc]) m) (hC : checkE m = 0) (hg : g ≤ 16) (hrc : ∀ j, j < m.root.length → w.cell? ⟨rb, ro + j, none⟩ = some (.int .i64 (m.root.getD j 0))) (hrl : rb < w.heap.size) (hgo : g % 4 ≠ 0 ∧ g / 4 < m.root.length) (t : Nat) (HT : Hid (m.root.getD (g / 4) 0 = (t : Int) ∧ t < m.slots.length ∧ (tableO m (g / 4)).length = 4)) (HK : Hid (ckE (tableO m (g / 4)) = 0 ∧ (cutR (tableO m (g / 4)) (g % 4)).length = 4)) (HNe : Hid ((cutR (tableO m (g / 4)) (g % 4)) ≠ tableO m (g / 4))) (HRf : Hid (m.refs.length = m.slots.length ∧ m.slots.length ≤ 40)) (HFu : Hid (¬ (bareL (cutR (tableO m (g / 4)) (g % 4)) = false ∧ tabN m (g / 4) = 40))) (TM : ImgD) (HTM : Hid (tabledM m (g / 4) (cutR (tableO m (g / 4)) (g % 4)) = TM ∧ TM.guest = m.guest)) (MG MR : ImgD) (HMG : Hid ({ TM with guest := (g : Int) } = MG ∧ rerootD TM g = MR)) (HSh : Hid (shapeE { MR with refs := rfZ MR.slots } = 0)) :
    Calls Try.prog 35 #[.agg #[.int .i64 m.guest, .slice (some ⟨rb, ro, none⟩) m.root.length rc, .slice sa m.slots.length sc, .slice fa m.refs.length fc, .slice na m.snaps.length nc], .int .i64 (g : Int)] w (AnsJ w (countedD MR) 0) := by
  have b0 : Below w.heap.size w ((w.alloc (.cells #[.int .i64 m.guest, .slice (some ⟨rb, ro, none⟩) m.root.length rc, .slice sa m.slots.length sc, .slice fa m.refs.length fc, .slice na m.snaps.length nc] 26)).alloc (.cells #[.int .i64 0, .slice none 0 0, .slice none 0 0, .slice none 0 0, .slice none 0 0] 26)) := ((Below.refl _ _).alloc (Nat.le_refl _) _).alloc (by simp) _
  have m0 : ((w.alloc (.cells #[.int .i64 m.guest, .slice (some ⟨rb, ro, none⟩) m.root.length rc, .slice sa m.slots.length sc, .slice fa m.refs.length fc, .slice na m.snaps.length nc] 26)).alloc (.cells #[.int .i64 0, .slice none 0 0, .slice none 0 0, .slice none 0 0, .slice none 0 0] 26)).heap[w.heap.size]? = some (.cells #[.int .i64 m.guest, .slice (some ⟨rb, ro, none⟩) m.root.length rc, .slice sa m.slots.length sc, .slice fa m.refs.length fc, .slice na m.snaps.length nc] 26) := cells_alloc (World.alloc_heap_new _ _) _
  have m1 : ((w.alloc (.cells #[.int .i64 m.guest, .slice (some ⟨rb, ro, none⟩) m.root.length rc, .slice sa m.slots.length sc, .slice fa m.refs.length fc, .slice na m.snaps.length nc] 26)).alloc (.cells #[.int .i64 0, .slice none 0 0, .slice none 0 0, .slice none 0 0, .slice none 0 0] 26)).heap[w.heap.size + 1]? = some (.cells #[.int .i64 0, .slice none 0 0, .slice none 0 0, .slice none 0 0, .slice none 0 0] 26) := by have := World.alloc_heap_new (w.alloc (.cells #[.int .i64 m.guest, .slice (some ⟨rb, ro, none⟩) m.root.length rc, .slice sa m.slots.length sc, .slice fa m.refs.length fc, .slice na m.snaps.length nc] 26)) (.cells #[.int .i64 0, .slice none 0 0, .slice none 0 0, .slice none 0 0, .slice none 0 0] 26); simpa using this
  have hsz : w.heap.size + 1 < ((w.alloc (.cells #[.int .i64 m.guest, .slice (some ⟨rb, ro, none⟩) m.root.length rc, .slice sa m.slots.length sc, .slice fa m.refs.length fc, .slice na m.snaps.length nc] 26)).alloc (.cells #[.int .i64 0, .slice none 0 0, .slice none 0 0, .slice none 0 0, .slice none 0 0] 26)).heap.size := by simp
  have hs := checkE_shape hC
  have I0 := h.below b0
  have hck := checkImage_is I0 hC
  have hd : decide (0 ≤ (g : Int) ∧ (g : Int) ≤ 16) = true := by simp; omega
  have e4 : ((g / 4 : Nat) : Int) = (g : Int) / 4 := by omega
  have e5 : ((g % 4 : Nat) : Int) = (g : Int) % 4 := by omega
  have hq1 : ((g : Int) / 4).toNat = g / 4 := by omega
  have h0q : ¬ (g : Int) / 4 < 0 := by omega
  have h0a : 0 ≤ (g : Int) / 4 := by omega
  have HOw : Hid (∀ W, Below ((w.alloc (.cells #[.int .i64 m.guest, .slice (some ⟨rb, ro, none⟩) m.root.length rc, .slice sa m.slots.length sc, .slice fa m.refs.length fc, .slice na m.snaps.length nc] 26)).alloc (.cells #[.int .i64 0, .slice none 0 0, .slice none 0 0, .slice none 0 0, .slice none 0 0] 26)).heap.size ((w.alloc (.cells #[.int .i64 m.guest, .slice (some ⟨rb, ro, none⟩) m.root.length rc, .slice sa m.slots.length sc, .slice fa m.refs.length fc, .slice na m.snaps.length nc] 26)).alloc (.cells #[.int .i64 0, .slice none 0 0, .slice none 0 0, .slice none 0 0, .slice none 0 0] 26)) W → Calls Try.prog 60 #[.agg #[.int .i64 m.guest, .slice (some ⟨rb, ro, none⟩) m.root.length rc, .slice sa m.slots.length sc, .slice fa m.refs.length fc, .slice na m.snaps.length nc]] W fun r w' => ∃ val, r = .returned (imgV m.guest val) ∧ OX w' W.heap.size val m ∧ Below W.heap.size W w') := fun W hW => ownImage_is (I0.below hW) hs
  have HI0 : Hid (Img ((w.alloc (.cells #[.int .i64 m.guest, .slice (some ⟨rb, ro, none⟩) m.root.length rc, .slice sa m.slots.length sc, .slice fa m.refs.length fc, .slice na m.snaps.length nc] 26)).alloc (.cells #[.int .i64 0, .slice none 0 0, .slice none 0 0, .slice none 0 0, .slice none 0 0] 26)) (.agg #[.int .i64 m.guest, .slice (some ⟨rb, ro, none⟩) m.root.length rc, .slice sa m.slots.length sc, .slice fa m.refs.length fc, .slice na m.snaps.length nc]) m) := I0
  have HP : Hid (checkE m = 0 ∧ shapeE m = 0 ∧ g ≤ 16) := ⟨hC, hs, hg⟩
  have HR0 : Hid (((w.alloc (.cells #[.int .i64 m.guest, .slice (some ⟨rb, ro, none⟩) m.root.length rc, .slice sa m.slots.length sc, .slice fa m.refs.length fc, .slice na m.snaps.length nc] 26)).alloc (.cells #[.int .i64 0, .slice none 0 0, .slice none 0 0, .slice none 0 0, .slice none 0 0] 26)).cell? ⟨rb, ro + g / 4, none⟩ = some (.int .i64 (t : Int)) ∧ rb < ((w.alloc (.cells #[.int .i64 m.guest, .slice (some ⟨rb, ro, none⟩) m.root.length rc, .slice sa m.slots.length sc, .slice fa m.refs.length fc, .slice na m.snaps.length nc] 26)).alloc (.cells #[.int .i64 0, .slice none 0 0, .slice none 0 0, .slice none 0 0, .slice none 0 0] 26)).heap.size) := ⟨by rw [← HT.out.1]; exact (b0.cell (p := ⟨rb, ro + g / 4, none⟩) hrl).trans (hrc (g / 4) hgo.2), Nat.lt_of_lt_of_le hrl b0.size⟩
  clear hrc hrl
  clear h hC hs I0
  go_enter Try.func35, Try.ntmps35
  obtain ⟨c0, c1, c2, c3, c4⟩ := five m0
  go_upto_region 8 with (first
    | (go_at_call 60; refine (HOw.out w1 b1).mono ?_; rintro e3 w3 ⟨val, rfl, hO, b3⟩; obtain ⟨p0, q0, p1, q1, p2, q2, p3, q3, x0, x1, x2, x3⟩ := hO.four'; unfold imgV; rw [x0, x1, x2, x3])
    | (go_at_call 46; refine (within_any _ _ _ _).mono ?_; rintro e2 w' ⟨rfl, hw⟩; rw [hw, hd]; clear hw)
    | (go_at_call 18; refine hck.mono ?_; rintro e1 w1 ⟨rfl, b1⟩; have n0 := cells_below m0 b1 (by omega); obtain ⟨d0, d1, d2, d3, d4⟩ := five n0))
  clear c0 c1 c2 c3 c4
  clear d0 d1 d2 d3 d4
  have hz1 : w.heap.size + 1 < w1.heap.size := Nat.lt_of_lt_of_le hsz b1.size
  have n1 := cells_below m1 b1 hsz
  have bw : Below w.heap.size w w1 := Below.on b0 b1
  have I1 := HI0.out.below b1
  have s3 := b3.size
  have HD0 : Hid (OwR w1 (w3.alloc (.cells #[.int .i64 m.guest, .slice p0 m.root.length q0, .slice p1 m.slots.length q1, .slice p2 m.refs.length q2, .slice p3 m.snaps.length q3] 26)) w3.heap.size m) := ⟨⟨val, hO.alloc _, by rw [x0, x1, x2, x3]; exact World.alloc_heap_new _ _, hO.lt (Nat.le_refl _)⟩, by omega, b3.alloc (by omega) _⟩
  have cR : w1.cell? ⟨rb, ro + g / 4, none⟩ = some (.int .i64 (t : Int)) := (b1.cell (p := ⟨rb, ro + g / 4, none⟩) HR0.out.2).trans HR0.out.1
  have rl1 : rb < w1.heap.size := Nat.lt_of_lt_of_le HR0.out.2 b1.size
  clear hO x0 x1 x2 x3 b0 m0 m1 hck HOw HI0 hsz b1 b3
  have M0 := cells_below n0 HD0.out.bel (by omega)
  obtain ⟨c0, c1, c2, c3, c4⟩ := five M0
  have hDw : w1.heap.size ≤ w3.heap.size := HD0.out.ge
  go_cut [36] from 13 (fun s wx => s = .bool true ∧ Hid (OwR w1 wx w3.heap.size m))
  case first =>
    have g1 : ((g : Int) % 4 != 0) = true := by have := hgo.1; simp; omega
    have g2 : decide ((g : Int) / 4 < (m.root.length : Int)) = true := by have := hgo.2; simp; omega
    go_wp2_with fail; go_meet; exact ⟨rfl, HD0⟩
  case rest =>
  obtain ⟨rfl, HD1⟩ := hcut
  clear HD0 M0 c0 c1 c2 c3 c4
  obtain ⟨wa, hwa⟩ : ∃ X, X = wc := ⟨_, rfl⟩
  subst hwa
  obtain ⟨val, hXa, hboxA, hfar⟩ := HD1.out.ex
  have hbelA := HD1.out.bel
  obtain ⟨p0, q0, p1, q1, p2, q2, p3, q3, x0, x1, x2, x3⟩ := hXa.four'
  have hbxA := hboxA
  rw [x0, x1, x2, x3] at hbxA
  skip
  have MX := cells_below n0 hbelA (by omega)
  have cRa := (hbelA.cell (p := ⟨rb, ro + g / 4, none⟩) rl1).trans cR
  have hri : (g : Int) / 4 < (m.root.length : Int) := by have := hgo.2; omega
  have HTb : Hid (∀ W, Below w1.heap.size w1 W → Calls Try.prog 63 #[.agg #[.int .i64 m.guest, .slice (some ⟨rb, ro, none⟩) m.root.length rc, .slice sa m.slots.length sc, .slice fa m.refs.length fc, .slice na m.snaps.length nc], .int .i64 (t : Int)] W fun r w' => ∃ g' cap, r = .returned (.slice (some ⟨g', 0, none⟩) 4 cap) ∧ w'.ownsRow W.heap.size 3 1 (.slice (some ⟨g', 0, none⟩) 4 cap) 4 (ints (tableO m (g / 4))) ∧ W.heap.size ≤ g' ∧ Below W.heap.size W w') := fun W hW => by
    have e := tabAt_O HT.out.1
    refine (tableOf_is (I1.below hW) HT.out.2.1 (by rw [e, HT.out.2.2]; decide)).mono ?_
    rintro r w' ⟨v, rfl, h1, h2, h3⟩
    rw [e, HT.out.2.2] at h1
    obtain ⟨g', cap, rfl⟩ := row_some h1
    exact ⟨g', cap, rfl, h1, h2 g' rfl, h3⟩
  go_upto_region 9 with fail
  refine wp_region_held_drew (S := (fun X : World => X.heap[w.heap.size]? = some (.cells #[.int .i64 m.guest, .slice (some ⟨rb, ro, none⟩) m.root.length rc, .slice sa m.slots.length sc, .slice fa m.refs.length fc, .slice na m.snaps.length nc] 26) ∧ X.cell? ⟨rb, ro + g / 4, none⟩ = some (.int .i64 (t : Int)))) (by kernel_rfl) ⟨MX, cRa⟩ (fun hHeld => ?_)
  refine wpAnyH_take (i := 0) (v := .agg #[.int .i64 m.guest, .slice (some ⟨rb, ro, none⟩) m.root.length rc, .slice sa m.slots.length sc, .slice fa m.refs.length fc, .slice na m.snaps.length nc]) rfl (by kernel_rfl) (by kernel_rfl) (by kernel_rfl) (fun _ _ _ h => h) (Or.inl ⟨by rfl, fun w' hSw => by obtain ⟨qa, qb⟩ := hSw; obtain ⟨j0, j1, j2, j3, j4⟩ := five qa; go_simp⟩) hHeld ?_
  simp only [Act.put, List.getElem_toArray, List.getElem_cons_succ, List.getElem_cons_zero, List.setIfInBounds_toArray, List.set_cons_zero, List.set_cons_succ]
  refine wpAnyH_take (i := 1) (v := .pointer (some ⟨w.heap.size, 1, none⟩)) rfl (by kernel_rfl) (by kernel_rfl) (by kernel_rfl) (fun _ _ _ h => h) (Or.inl ⟨by rfl, fun w' hSw => by obtain ⟨qa, qb⟩ := hSw; obtain ⟨j0, j1, j2, j3, j4⟩ := five qa; go_simp⟩) hHeld ?_
  simp only [Act.put, List.getElem_toArray, List.getElem_cons_succ, List.getElem_cons_zero, List.setIfInBounds_toArray, List.set_cons_zero, List.set_cons_succ]
  refine wpAnyH_take (i := 2) (v := .slice (some ⟨rb, ro, none⟩) m.root.length rc) rfl (by kernel_rfl) (by kernel_rfl) (by kernel_rfl) (fun _ _ _ h => h) (Or.inl ⟨by rfl, fun w' hSw => by obtain ⟨qa, qb⟩ := hSw; obtain ⟨j0, j1, j2, j3, j4⟩ := five qa; go_simp⟩) hHeld ?_
  simp only [Act.put, List.getElem_toArray, List.getElem_cons_succ, List.getElem_cons_zero, List.setIfInBounds_toArray, List.set_cons_zero, List.set_cons_succ]
  refine wpAnyH_take (i := 3) (v := .int .i64 ((g : Int) / 4)) rfl (by kernel_rfl) (by kernel_rfl) (by kernel_rfl) (fun _ _ _ h => h) (Or.inl ⟨by rfl, fun w' hSw => by obtain ⟨qa, qb⟩ := hSw; obtain ⟨j0, j1, j2, j3, j4⟩ := five qa; go_simp⟩) hHeld ?_
  simp only [Act.put, List.getElem_toArray, List.getElem_cons_succ, List.getElem_cons_zero, List.setIfInBounds_toArray, List.set_cons_zero, List.set_cons_succ]
  refine wpAnyH_take (i := 4) (v := .pointer (some ⟨rb, ro + g / 4, none⟩)) rfl (by kernel_rfl) (by kernel_rfl) (by kernel_rfl) (fun _ _ _ h => h) (Or.inl ⟨by rfl, fun w' hSw => by obtain ⟨qa, qb⟩ := hSw; obtain ⟨j0, j1, j2, j3, j4⟩ := five qa; go_simp⟩) hHeld ?_
  simp only [Act.put, List.getElem_toArray, List.getElem_cons_succ, List.getElem_cons_zero, List.setIfInBounds_toArray, List.set_cons_zero, List.set_cons_succ]
  refine wpAnyH_take (i := 5) (v := .int .i64 (t : Int)) rfl (by kernel_rfl) (by kernel_rfl) (by kernel_rfl) (fun _ _ _ h => h) (Or.inl ⟨by rfl, fun w' hSw => by obtain ⟨qa, qb⟩ := hSw; obtain ⟨j0, j1, j2, j3, j4⟩ := five qa; go_simp⟩) hHeld ?_
  simp only [Act.put, List.getElem_toArray, List.getElem_cons_succ, List.getElem_cons_zero, List.setIfInBounds_toArray, List.set_cons_zero, List.set_cons_succ]
  refine wpAnyH_ready (rs := [6]) (by kernel_rfl) (by simp) ?_
  refine AllReadyH.cons rfl (fun K hK => ?_) AllReadyH.nil
  clear hHeld
  simp only [Act.put, List.getElem_toArray, List.getElem_cons_succ, List.getElem_cons_zero, List.setIfInBounds_toArray, List.set_cons_zero, List.set_cons_succ]
  rw [if_pos (by rfl)]
  go_wp2_with (go_at_call 63; refine (HTb.out _ (to_drew hbelA)).mono ?_; rintro e4' w4 ⟨tg, tc, rfl, hev, hge, b4⟩)
  have b4 : Below wa.heap.size wa w4 := below_drew b4
  have sA := hbelA.size
  have s4 := b4.size
  have MX4 := cells_below MX b4 (by omega)
  have cR4 := (b4.cell (p := ⟨rb, ro + g / 4, none⟩) (Nat.lt_of_lt_of_le rl1 sA)).trans cRa
  refine hK.out _ _ ⟨MX4, cR4⟩ (fun hHeld => ?_)
  clear hK K
  try simp only [Act.put, List.getElem_toArray, List.getElem_cons_succ, List.getElem_cons_zero, List.setIfInBounds_toArray, List.set_cons_zero, List.set_cons_succ]
  refine wpAnyH_take (i := 7) (v := .slice (some ⟨tg, 0, none⟩) 4 tc) rfl (by kernel_rfl) (by kernel_rfl) (by kernel_rfl) (fun _ _ _ h => h) (Or.inl ⟨by rfl, fun w' hSw => by go_simp⟩) hHeld ?_
  simp only [Act.put, List.getElem_toArray, List.getElem_cons_succ, List.getElem_cons_zero, List.setIfInBounds_toArray, List.set_cons_zero, List.set_cons_succ]
  clear hHeld
  refine wpAnyH_done (by kernel_rfl) ?_ _
  have hsl4 : Sl w4 (.slice (some ⟨tg, 0, none⟩) 4 tc) (tableO m (g / 4)) := row_sl (show w4.ownsRow _ 3 1 _ (tableO m (g / 4)).length _ from by rw [HT.out.2.2]; exact hev)
  have hcc := cutOf_own _ _ (g % 4) _ hsl4 HK.out.1 (by omega)
  rw [e5] at hcc
  have HXa : Hid (OX wa w1.heap.size val m ∧ wa.heap[w3.heap.size]? = some (.cells #[.int .i64 m.guest, val .root, val .slots, val .refs, val .snaps] 26) ∧ (∀ a, LiveX m a → (val a).ownBlock ≠ some w3.heap.size) ∧ Below w1.heap.size w1 wa ∧ Below wa.heap.size wa w4) := ⟨hXa, hboxA, hfar, hbelA, b4⟩
  have HXv : Hid (val .root = .slice p0 m.root.length q0 ∧ val .slots = .slice p1 m.slots.length q1 ∧ val .refs = .slice p2 m.refs.length q2 ∧ val .snaps = .slice p3 m.snaps.length q3) := ⟨x0, x1, x2, x3⟩
  clear hXa hboxA hbxA hfar hbelA x0 x1 x2 x3 MX cRa MX4 cR4 HTb hev hge b4
  go_upto_region 13 with (first | (go_at_call 39; refine (sameInts_no hslc hslt (by rw [HK.out.2, HT.out.2.2]) HNe.out).mono ?_; rintro e6 w6 ⟨rfl, b6⟩) | (go_at_call 69; refine hcc.mono ?_; rintro e5' w5 ⟨cg, cc, rfl, hcw, b5⟩; have hslc : Sl w5 (.slice (some ⟨cg, 0, none⟩) 4 cc) (cutR (tableO m (g / 4)) (g % 4)) := row_sl (show w5.ownsRow _ 3 1 _ (cutR (tableO m (g / 4)) (g % 4)).length _ from by rw [HK.out.2]; exact hcw); have hslt := hsl4.below b5))
  have s5 := b5.size
  have s6 := b6.size
  have b46 : Below wa.heap.size wa w6 := ((HXa.out.2.2.2.2).trans (b5.mono s4)).trans (b6.mono (by omega))
  have hX6 : OX w6 w1.heap.size val m := HXa.out.1.below b46
  have hDl : w3.heap.size < wa.heap.size := (Array.getElem?_eq_some_iff.1 HXa.out.2.1).1
  have hbox6 := cells_below HXa.out.2.1 b46 hDl
  have hbel6 : Below w1.heap.size w1 w6 := HXa.out.2.2.2.1.trans (b46.mono sA)
  have hcge : w4.heap.size ≤ cg := (hcw.lt cg rfl).1
  have hrow6 : w6.ownsRow w1.heap.size 3 1 (.slice (some ⟨cg, 0, none⟩) 4 cc) (cutR (tableO m (g / 4)) (g % 4)).length (ints (cutR (tableO m (g / 4)) (g % 4))) := by
    rw [HK.out.2]
    exact row_mono (row_blk hcw (fun q e => b6.block q (by have := (hcw.lt q e).2; omega))) (by omega)
  have hbx := hbox6
  rw [HXv.out.1, HXv.out.2.1, HXv.out.2.2.1, HXv.out.2.2.2] at hbx
  obtain ⟨d0, d1, d2, d3, d4⟩ := five hbx
  have ff0 := cells_frozen hbx 0; have ff1 := cells_frozen hbx 1; have ff2 := cells_frozen hbx 2; have ff3 := cells_frozen hbx 3; have ff4 := cells_frozen hbx 4
  have HKt : Hid (Calls Try.prog 70 #[.agg #[.int .i64 m.guest, .slice p0 m.root.length q0, .slice p1 m.slots.length q1, .slice p2 m.refs.length q2, .slice p3 m.snaps.length q3], .int .i64 ((g : Int) / 4), .slice (some ⟨cg, 0, none⟩) 4 cc] w6 (fun r w' => ∃ val', r = .returned (.tuple #[imgV m.guest val', .bool true]) ∧ OX w' w1.heap.size val' TM ∧ Below w1.heap.size w6 w' ∧ KeepX w6 w' m val ∧ SrcX w6 m val (.slice (some ⟨cg, 0, none⟩) 4 cc) TM val')) := by
    have hc := tabledX_is m.guest (k := g / 4) hX6 (by omega) hgo.2 HT.out.1 HT.out.2.1 hrow6 (fun a b hb _ q hq x => by have h1 := ((HXa.out.1.row b hb).lt q x).2; have hq : cg = q := Option.some.inj hq; omega) HRf.out.1 HRf.out.2
    rw [e4] at hc
    unfold imgV at hc
    rw [HXv.out.1, HXv.out.2.1, HXv.out.2.2.1, HXv.out.2.2.2] at hc
    exact hc.mono (fun r w' hh => by rw [HTM.out.1] at hh; rcases hh with ⟨h1, h2, _⟩ | ⟨_, hok⟩; (exact absurd ⟨h1, h2⟩ HFu.out); exact hok)
  have HX6 : Hid (Below w1.heap.size w1 w6 ∧ w6.heap[w3.heap.size]? = some (.cells #[.int .i64 m.guest, val .root, val .slots, val .refs, val .snaps] 26) ∧ w3.heap.size < w6.heap.size ∧ w6.heap[w3.heap.size]? = some (.cells #[.int .i64 m.guest, .slice p0 m.root.length q0, .slice p1 m.slots.length q1, .slice p2 m.refs.length q2, .slice p3 m.snaps.length q3] 26) ∧ wa.heap.size ≤ cg) := ⟨hbel6, hbox6, by omega, hbx, by omega⟩
  clear hbx hbox6 hbel6 hX6 hrow6 hcw b5 b6 b46 hslc hslt hsl4
  go_upto_region 16 with (go_at_call 70; refine HKt.out.mono ?_; rintro e7 w7 ⟨val', rfl, hX7, b7, k7, s7⟩; obtain ⟨u0, v0, u1, v1, u2, v2, u3, v3, y0, y1, y2, y3⟩ := hX7.four'; have kD7 := (k7 w3.heap.size HX6.out.2.2.1 HXa.out.2.2.1).trans HX6.out.2.2.2.1; obtain ⟨k0, k1, k2, k3, k4⟩ := five kD7; have kf0 := cells_frozen kD7 0; have kf1 := cells_frozen kD7 1; have kf2 := cells_frozen kD7 2; have kf3 := cells_frozen kD7 3; have kf4 := cells_frozen kD7 4; unfold imgV; rw [y0, y1, y2, y3])
  have HDs : Hid (OwR w1 (((((w7.setCell ⟨w3.heap.size, 0, none⟩ (.int .i64 m.guest)).setCell ⟨w3.heap.size, 1, none⟩ (.slice u0 TM.root.length v0)).setCell ⟨w3.heap.size, 2, none⟩ (.slice u1 TM.slots.length v1)).setCell ⟨w3.heap.size, 3, none⟩ (.slice u2 TM.refs.length v2)).setCell ⟨w3.heap.size, 4, none⟩ (.slice u3 TM.snaps.length v3)) w3.heap.size TM) := by
    have hO := ow_call HX6.out.1 HX6.out.2.1 HD1.out.ge HXa.out.2.2.1 hX7 b7 k7 s7 (fun x => by have hx : cg = w3.heap.size := Option.some.inj x; have := HX6.out.2.2.2.2; omega)
    rw [y0, y1, y2, y3, HTM.out.2] at hO
    exact hO
  clear kD7 k0 k1 k2 k3 k4 kf0 kf1 kf2 kf3 kf4 d0 d1 d2 d3 d4 ff0 ff1 ff2 ff3 ff4 hX7 b7 k7 s7 y0 y1 y2 y3
  obtain ⟨XX, hXX⟩ : ∃ X, (((((w7.setCell ⟨w3.heap.size, 0, none⟩ (.int .i64 m.guest)).setCell ⟨w3.heap.size, 1, none⟩ (.slice u0 TM.root.length v0)).setCell ⟨w3.heap.size, 2, none⟩ (.slice u1 TM.slots.length v1)).setCell ⟨w3.heap.size, 3, none⟩ (.slice u2 TM.refs.length v2)).setCell ⟨w3.heap.size, 4, none⟩ (.slice u3 TM.snaps.length v3)) = X := ⟨_, rfl⟩
  rw [hXX] at HDs ⊢
  clear hXX
  go_cut [] from 13 (fun wx => Hid (OwR w1 wx w3.heap.size MG))
  case first =>
    obtain ⟨val, hX, hbox, hfar⟩ := HDs.out.ex
    have hbel := HDs.out.bel
    obtain ⟨p0, q0, p1, q1, p2, q2, p3, q3, x0, x1, x2, x3⟩ := hX.four'
    have hbx := hbox
    rw [x0, x1, x2, x3] at hbx
    obtain ⟨d0, d1, d2, d3, d4⟩ := five hbx
    have ff0 := cells_frozen hbx 0; have ff1 := cells_frozen hbx 1; have ff2 := cells_frozen hbx 2; have ff3 := cells_frozen hbx 3; have ff4 := cells_frozen hbx 4
    go_wp2_with fail
    go_meet
    rw [← HMG.out.1]
    exact ow_guest hX hbel hbox HDs.out.ge hfar (g : Int)
  case rest =>
  have HD5 : Hid (OwR w1 wc w3.heap.size MG) := hcut
  clear hcut
  obtain ⟨wf, hwf⟩ : ∃ X, X = wc := ⟨_, rfl⟩
  subst hwf
  have hw1 : (((g + 3) / 4 : Nat) : Int) = ((g : Int) + 3) / 4 := by omega
  obtain ⟨wn, hwn⟩ : ∃ x : Nat, (g + 3) / 4 = x := ⟨_, rfl⟩
  rw [hwn] at hw1
  have HWn : Hid ((g + 3) / 4 = wn ∧ wn ≤ 4) := ⟨hwn, by have := HP.out.2.2; omega⟩
  have HWa : Hid (∀ W, Calls Try.prog 71 #[.int .i64 (g : Int)] W fun r w' => r = .returned (.int .i64 (wn : Int)) ∧ w' = W) := fun W => by
    have := wants_any (g : Int) W (by have := HP.out.2.2; omega)
    rw [← hw1] at this
    exact this
  clear hwn hw1
  go_wp2_with fail
  go_loopw [] (fun wr => ∃ j : Nat, Hid (OwR w1 wr w3.heap.size { MG with root := MG.root ++ List.replicate j 0 } ∧ (j = 0 ∨ MG.root.length + j ≤ wn))) (fun wr => wn - rlenAt wr w3.heap.size)
  case atStart => exact ⟨0, ⟨by have e : { MG with root := MG.root ++ List.replicate 0 0 } = MG := (by simp); rw [e]; exact HD5.out, .inl rfl⟩⟩
  case round =>
    obtain ⟨j, HR⟩ := hrel
    obtain ⟨X5, hX5⟩ : ∃ X, X = wr := ⟨_, rfl⟩
    subst hX5
    obtain ⟨MJ, hMJ⟩ : ∃ X : ImgD, { MG with root := MG.root ++ List.replicate j 0 } = X := ⟨_, rfl⟩
    have HMJ : Hid (MJ.root = MG.root ++ List.replicate j 0 ∧ { MG with root := MG.root ++ List.replicate j 0 } = MJ ∧ (j = 0 ∨ MG.root.length + j ≤ wn)) := ⟨by rw [← hMJ], hMJ, HR.out.2⟩
    have HO : Hid (OwR w1 X5 w3.heap.size MJ) := by show OwR w1 X5 w3.heap.size MJ; rw [← hMJ]; exact HR.out.1
    clear HR hMJ
    obtain ⟨val, hX, hbox, hfar⟩ := HO.out.ex
    have hbel := HO.out.bel
    obtain ⟨p0, q0, p1, q1, p2, q2, p3, q3, x0, x1, x2, x3⟩ := hX.four'
    have hbx := hbox
    rw [x0, x1, x2, x3] at hbx
    have hrl : rlenAt X5 w3.heap.size = MJ.root.length := rlenAt_is hbx
    by_cases hlt : MJ.root.length < wn
    · have hdl : decide ((MJ.root.length : Int) < (wn : Int)) = true := by simp; omega
      go_upto_region 17 with fail
      refine wp_region_held_drew (S := (fun X : World => X.heap[w3.heap.size]? = some (.cells #[.int .i64 MJ.guest, .slice p0 MJ.root.length q0, .slice p1 MJ.slots.length q1, .slice p2 MJ.refs.length q2, .slice p3 MJ.snaps.length q3] 26))) (by kernel_rfl) hbx (fun hHeld => ?_)
      refine wpAnyH_take (i := 0) (v := .pointer (some ⟨w3.heap.size, 1, none⟩)) rfl (by kernel_rfl) (by kernel_rfl) (by kernel_rfl) (fun _ _ _ h => h) (Or.inl ⟨by rfl, fun w' hSw => by obtain ⟨j0, j1, j2, j3, j4⟩ := five hSw; go_simp⟩) hHeld ?_
      simp only [Act.put, List.getElem_toArray, List.getElem_cons_succ, List.getElem_cons_zero, List.setIfInBounds_toArray, List.set_cons_zero, List.set_cons_succ]
      refine wpAnyH_take (i := 1) (v := .slice p0 MJ.root.length q0) rfl (by kernel_rfl) (by kernel_rfl) (by kernel_rfl) (fun _ _ _ h => h) (Or.inl ⟨by rfl, fun w' hSw => by obtain ⟨j0, j1, j2, j3, j4⟩ := five hSw; go_simp⟩) hHeld ?_
      simp only [Act.put, List.getElem_toArray, List.getElem_cons_succ, List.getElem_cons_zero, List.setIfInBounds_toArray, List.set_cons_zero, List.set_cons_succ]
      refine wpAnyH_take (i := 2) (v := .int .i64 (MJ.root.length : Int)) rfl (by kernel_rfl) (by kernel_rfl) (by kernel_rfl) (fun _ _ _ h => h) (Or.inl ⟨by rfl, fun w' hSw => by obtain ⟨j0, j1, j2, j3, j4⟩ := five hSw; go_simp⟩) hHeld ?_
      simp only [Act.put, List.getElem_toArray, List.getElem_cons_succ, List.getElem_cons_zero, List.setIfInBounds_toArray, List.set_cons_zero, List.set_cons_succ]
      refine wpAnyH_take (i := 3) (v := .int .i64 (g : Int)) rfl (by kernel_rfl) (by kernel_rfl) (by kernel_rfl) (fun _ _ _ h => h) (Or.inl ⟨by rfl, fun w' hSw => by obtain ⟨j0, j1, j2, j3, j4⟩ := five hSw; go_simp⟩) hHeld ?_
      simp only [Act.put, List.getElem_toArray, List.getElem_cons_succ, List.getElem_cons_zero, List.setIfInBounds_toArray, List.set_cons_zero, List.set_cons_succ]
      refine wpAnyH_ready (rs := [4]) (by kernel_rfl) (by simp) ?_
      refine AllReadyH.cons rfl (fun K hK => ?_) AllReadyH.nil
      clear hHeld
      simp only [Act.put, List.getElem_toArray, List.getElem_cons_succ, List.getElem_cons_zero, List.setIfInBounds_toArray, List.set_cons_zero, List.set_cons_succ]
      rw [if_pos (by rfl)]
      go_wp2_with (go_at_call 71; refine (HWa.out _).mono ?_; rintro e9 w9 ⟨rfl, hw⟩; rw [hw]; clear hw)
      refine hK.out _ _ hbx (fun hHeld => ?_)
      clear hK K
      try simp only [Act.put, List.getElem_toArray, List.getElem_cons_succ, List.getElem_cons_zero, List.setIfInBounds_toArray, List.set_cons_zero, List.set_cons_succ]
      refine wpAnyH_take (i := 5) (v := .bool true) rfl (by kernel_rfl) (by kernel_rfl) (by kernel_rfl) (fun _ _ _ h => h) (Or.inl ⟨by rfl, fun w' hSw => by go_simp⟩) hHeld ?_
      simp only [Act.put, List.getElem_toArray, List.getElem_cons_succ, List.getElem_cons_zero, List.setIfInBounds_toArray, List.set_cons_zero, List.set_cons_succ]
      clear hHeld
      refine wpAnyH_done (by kernel_rfl) ?_ _
      have HO6 : Hid (OwR w1 X5.drew w3.heap.size MJ) := HO.out.drew
      clear HO hX hbox hfar hbel x0 x1 x2 x3 hbx hdl
      obtain ⟨X6, hX6⟩ : ∃ X, X5.drew = X := ⟨_, rfl⟩
      rw [hX6] at HO6 ⊢
      clear hX6
      obtain ⟨val, hX, hbox, hfar⟩ := HO6.out.ex
      have hbel := HO6.out.bel
      obtain ⟨p0, q0, p1, q1, p2, q2, p3, q3, x0, x1, x2, x3⟩ := hX.four'
      have hbd := hbox
      rw [x0, x1, x2, x3] at hbd
      have hrow := hX.row .root (LiveX.root _)
      rw [x0] at hrow
      have hrow : X6.ownsRow w1.heap.size 3 1 (.slice p0 MJ.root.length q0) MJ.root.length (ints MJ.root) := hrow
      have A : Hid (X6.ownsRow w1.heap.size 3 1 (.slice p0 MJ.root.length q0) MJ.root.length (ints MJ.root) ∧ MJ.root.length ≤ 1000 ∧ w1.heap.size ≤ X6.heap.size) := ⟨hrow, by have := HWn.out.2; omega, hbel.size⟩
      have hDl : w3.heap.size < X6.heap.size := (Array.getElem?_eq_some_iff.1 hbd).1
      have HF : Hid (∀ a, LiveX MJ a → (val a).ownBlock ≠ some w3.heap.size) := hfar
      have HX : Hid (OX X6 w1.heap.size val MJ ∧ X6.heap[w3.heap.size]? = some (.cells #[.int .i64 MJ.guest, val .root, val .slots, val .refs, val .snaps] 26) ∧ val .root = .slice p0 MJ.root.length q0) := ⟨hX, hbox, x0⟩
      have HB : Hid (Below w1.heap.size w1 X6) := hbel
      have HBd : Hid (X6.heap[w3.heap.size]? = some (.cells #[.int .i64 MJ.guest, .slice p0 MJ.root.length q0, .slice p1 MJ.slots.length q1, .slice p2 MJ.refs.length q2, .slice p3 MJ.snaps.length q3] 26)) := hbd
      obtain ⟨d0, d1, d2, d3, d4⟩ := five hbd
      clear hX hbox hfar x0 x1 x2 x3 hbel hrow hbd
      go_wp2_with (at_builtin; refine wpList_add1 (B := w1.heap.size) (n := MJ.root.length) (v := .slice p0 MJ.root.length q0) (xs := MJ.root) rfl _ _ rfl (by rfl) (N := X6.heap.size) (by rfl) rfl A.out.1 A.out.2.1 A.out.2.2 ?_; intro v' w8 t1 t2 t3; obtain ⟨pa, pc, rfl⟩ := row_slice t1.out; have kb : w8.heap[w3.heap.size]? = some (.cells #[.int .i64 MJ.guest, .slice p0 MJ.root.length q0, .slice p1 MJ.slots.length q1, .slice p2 MJ.refs.length q2, .slice p3 MJ.snaps.length q3] 26) := (t2.out.block w3.heap.size (by simp; omega) (fun e => HF.out .root (LiveX.root _) (by rw [HX.out.2.2]; exact e.symm))).trans (cells_alloc HBd.out _); obtain ⟨k0, k1, k2, k3, k4⟩ := five kb; have kf0 := cells_frozen kb 0; have kf1 := cells_frozen kb 1; have kf2 := cells_frozen kb 2; have kf3 := cells_frozen kb 3; have kf4 := cells_frozen kb 4)
      have hO8 := ow_newroot (V := w1) (W := w8) (r := MJ.root ++ [0]) HX.out.1 HX.out.2.1 HO6.out.ge HF.out (by rw [List.length_append]; exact t1.out) (fun q hq hne => (t2.out.block q (by simp; omega) (fun e => hne (by rw [HX.out.2.2]; exact e.symm))).trans (Below.heap_alloc _ _ q hq)) ((HB.out.alloc A.out.2.2 _).grown t2.out (by simp; have := A.out.2.2; omega) (fun k e => by have h := (HX.out.1.row .root (LiveX.root _)).lt k (by rw [HX.out.2.2]; exact e); exact h.1)) (by
        rcases t3.out with x | x
        · left; rw [HX.out.2.2]; exact x
        · right; intro q hq; rw [x] at hq; have := Option.some.inj hq; omega)
      have hrl8 : rlenAt (w8.setCell ⟨w3.heap.size, 1, none⟩ (.slice pa (MJ.root.length + 1) pc)) w3.heap.size = MJ.root.length + 1 := rlenAt_is (cells_set kb 1 _)
      have hj8 : MG.root.length + (j + 1) ≤ wn := by have h := congrArg List.length HMJ.out.1; rw [List.length_append, List.length_replicate] at h; omega
      have e8 : { MJ with root := MJ.root ++ [0] } = { MG with root := MG.root ++ List.replicate (j + 1) 0 } := by
        rw [HMJ.out.1, List.append_assoc, ← List.replicate_succ']
        rw [← HMJ.out.2.1]
      go_roundw
      case rel => exact ⟨j + 1, ⟨by rw [← e8]; exact hO8, .inr hj8⟩⟩
      case measure => rw [hrl8, hrl]; omega
    · have hdl : decide ((MJ.root.length : Int) < (wn : Int)) = false := by simp; omega
      go_upto_region 17 with fail
      refine wp_region_held_drew (S := (fun X : World => X.heap[w3.heap.size]? = some (.cells #[.int .i64 MJ.guest, .slice p0 MJ.root.length q0, .slice p1 MJ.slots.length q1, .slice p2 MJ.refs.length q2, .slice p3 MJ.snaps.length q3] 26))) (by kernel_rfl) hbx (fun hHeld => ?_)
      refine wpAnyH_take (i := 0) (v := .pointer (some ⟨w3.heap.size, 1, none⟩)) rfl (by kernel_rfl) (by kernel_rfl) (by kernel_rfl) (fun _ _ _ h => h) (Or.inl ⟨by rfl, fun w' hSw => by obtain ⟨j0, j1, j2, j3, j4⟩ := five hSw; go_simp⟩) hHeld ?_
      simp only [Act.put, List.getElem_toArray, List.getElem_cons_succ, List.getElem_cons_zero, List.setIfInBounds_toArray, List.set_cons_zero, List.set_cons_succ]
      refine wpAnyH_take (i := 1) (v := .slice p0 MJ.root.length q0) rfl (by kernel_rfl) (by kernel_rfl) (by kernel_rfl) (fun _ _ _ h => h) (Or.inl ⟨by rfl, fun w' hSw => by obtain ⟨j0, j1, j2, j3, j4⟩ := five hSw; go_simp⟩) hHeld ?_
      simp only [Act.put, List.getElem_toArray, List.getElem_cons_succ, List.getElem_cons_zero, List.setIfInBounds_toArray, List.set_cons_zero, List.set_cons_succ]
      refine wpAnyH_take (i := 2) (v := .int .i64 (MJ.root.length : Int)) rfl (by kernel_rfl) (by kernel_rfl) (by kernel_rfl) (fun _ _ _ h => h) (Or.inl ⟨by rfl, fun w' hSw => by obtain ⟨j0, j1, j2, j3, j4⟩ := five hSw; go_simp⟩) hHeld ?_
      simp only [Act.put, List.getElem_toArray, List.getElem_cons_succ, List.getElem_cons_zero, List.setIfInBounds_toArray, List.set_cons_zero, List.set_cons_succ]
      refine wpAnyH_take (i := 3) (v := .int .i64 (g : Int)) rfl (by kernel_rfl) (by kernel_rfl) (by kernel_rfl) (fun _ _ _ h => h) (Or.inl ⟨by rfl, fun w' hSw => by obtain ⟨j0, j1, j2, j3, j4⟩ := five hSw; go_simp⟩) hHeld ?_
      simp only [Act.put, List.getElem_toArray, List.getElem_cons_succ, List.getElem_cons_zero, List.setIfInBounds_toArray, List.set_cons_zero, List.set_cons_succ]
      refine wpAnyH_ready (rs := [4]) (by kernel_rfl) (by simp) ?_
      refine AllReadyH.cons rfl (fun K hK => ?_) AllReadyH.nil
      clear hHeld
      simp only [Act.put, List.getElem_toArray, List.getElem_cons_succ, List.getElem_cons_zero, List.setIfInBounds_toArray, List.set_cons_zero, List.set_cons_succ]
      rw [if_pos (by rfl)]
      go_wp2_with (go_at_call 71; refine (HWa.out _).mono ?_; rintro e9 w9 ⟨rfl, hw⟩; rw [hw]; clear hw)
      refine hK.out _ _ hbx (fun hHeld => ?_)
      clear hK K
      try simp only [Act.put, List.getElem_toArray, List.getElem_cons_succ, List.getElem_cons_zero, List.setIfInBounds_toArray, List.set_cons_zero, List.set_cons_succ]
      refine wpAnyH_take (i := 5) (v := .bool false) rfl (by kernel_rfl) (by kernel_rfl) (by kernel_rfl) (fun _ _ _ h => h) (Or.inl ⟨by rfl, fun w' hSw => by go_simp⟩) hHeld ?_
      simp only [Act.put, List.getElem_toArray, List.getElem_cons_succ, List.getElem_cons_zero, List.setIfInBounds_toArray, List.set_cons_zero, List.set_cons_succ]
      clear hHeld
      refine wpAnyH_done (by kernel_rfl) ?_ _
      have HO6 : Hid (OwR w1 X5.drew w3.heap.size MJ) := HO.out.drew
      have HMR : Hid ({ MJ with root := MJ.root.take wn } = MR) := by
        show { MJ with root := MJ.root.take wn } = MR
        rw [← HMG.out.2]
        rw [HMJ.out.1, reroot_take (by have h := congrArg List.length HMJ.out.1; rw [List.length_append, List.length_replicate] at h; omega) HMJ.out.2.2, ← HMJ.out.2.1, ← HMG.out.1]
        unfold rerootD
        rw [HWn.out.1]
      clear HO hX hbox hfar hbel x0 x1 x2 x3 hbx hrl hdl HMJ
      obtain ⟨X6, hX6⟩ : ∃ X, X5.drew = X := ⟨_, rfl⟩
      rw [hX6] at HO6 ⊢
      clear hX6
      go_upto_region 19 with fail
      go_cut [] from 13 (fun wx => Hid (OwR w1 wx w3.heap.size MR))
      case first =>
        obtain ⟨val, hX, hbox, hfar⟩ := HO6.out.ex
        have hbel := HO6.out.bel
        obtain ⟨p0, q0, p1, q1, p2, q2, p3, q3, x0, x1, x2, x3⟩ := hX.four'
        have hbx := hbox
        rw [x0, x1, x2, x3] at hbx
        obtain ⟨d0, d1, d2, d3, d4⟩ := five hbx
        have hrow := hX.row .root (LiveX.root _)
        rw [x0] at hrow
        have hrow : X6.ownsRow w1.heap.size 3 1 (.slice p0 MJ.root.length q0) MJ.root.length (ints MJ.root) := hrow
        obtain ⟨htk, hwc⟩ := row_take (k := wn) hrow (by omega)
        have hwl : wn ≤ MJ.root.length := by omega
        have hwci : (wn : Int) ≤ (q0 : Int) := by omega
        have hwcn : ¬ (q0 : Int) < (wn : Int) := by omega
        have hwn0 : ¬ (wn : Int) < 0 := by omega
        have hb6 : X6.drew.heap[w3.heap.size]? = some (.cells #[.int .i64 MJ.guest, .slice p0 MJ.root.length q0, .slice p1 MJ.slots.length q1, .slice p2 MJ.refs.length q2, .slice p3 MJ.snaps.length q3] 26) := hbx
        have ff0 := cells_frozen hb6 0; have ff1 := cells_frozen hb6 1; have ff2 := cells_frozen hb6 2; have ff3 := cells_frozen hb6 3; have ff4 := cells_frozen hb6 4
        refine wp_region_held_drew (S := (fun X : World => True)) (by kernel_rfl) trivial (fun hHeld => ?_)
        refine wpAnyH_take (i := 0) (v := .pointer (some ⟨w3.heap.size, 1, none⟩)) rfl (by kernel_rfl) (by kernel_rfl) (by kernel_rfl) (fun _ _ _ h => h) (Or.inl ⟨by rfl, fun w' hSw => by go_simp⟩) hHeld ?_
        simp only [Act.put, List.getElem_toArray, List.getElem_cons_succ, List.getElem_cons_zero, List.setIfInBounds_toArray, List.set_cons_zero, List.set_cons_succ]
        refine wpAnyH_take (i := 2) (v := .int .i64 (g : Int)) rfl (by kernel_rfl) (by kernel_rfl) (by kernel_rfl) (fun _ _ _ h => h) (Or.inl ⟨by rfl, fun w' hSw => by go_simp⟩) hHeld ?_
        simp only [Act.put, List.getElem_toArray, List.getElem_cons_succ, List.getElem_cons_zero, List.setIfInBounds_toArray, List.set_cons_zero, List.set_cons_succ]
        refine wpAnyH_ready (rs := [1, 3]) (by kernel_rfl) (by simp) ?_
        refine AllReadyH.cons rfl (fun K hK => ?_) (AllReadyH.cons rfl (fun K hK => ?_) AllReadyH.nil)
        · clear hHeld
          simp only [Act.put, List.getElem_toArray, List.getElem_cons_succ, List.getElem_cons_zero, List.setIfInBounds_toArray, List.set_cons_zero, List.set_cons_succ]
          rw [if_pos (by rfl)]
          obtain ⟨v0, v1, v2, v3, v4⟩ := five hb6
          go_simp
          refine hK.out _ _ trivial (fun hHeld => ?_)
          clear hK K
          try simp only [Act.put, List.getElem_toArray, List.getElem_cons_succ, List.getElem_cons_zero, List.setIfInBounds_toArray, List.set_cons_zero, List.set_cons_succ]
          refine wpAnyH_ready (rs := [3]) (by kernel_rfl) (by simp) ?_
          refine AllReadyH.cons rfl (fun K hK => ?_) AllReadyH.nil
          clear hHeld
          simp only [Act.put, List.getElem_toArray, List.getElem_cons_succ, List.getElem_cons_zero, List.setIfInBounds_toArray, List.set_cons_zero, List.set_cons_succ]
          rw [if_pos (by rfl)]
          go_wp2_with (go_at_call 71; refine (HWa.out _).mono ?_; rintro e9 w9 ⟨rfl, hw⟩; rw [hw]; clear hw)
          refine hK.out _ _ trivial (fun hHeld => ?_)
          clear hK K
          try simp only [Act.put, List.getElem_toArray, List.getElem_cons_succ, List.getElem_cons_zero, List.setIfInBounds_toArray, List.set_cons_zero, List.set_cons_succ]
          refine wpAnyH_take (i := 4) (v := .slice p0 wn q0) rfl (by kernel_rfl) (by kernel_rfl) (by kernel_rfl) (fun _ _ _ h => h) (Or.inl ⟨by rfl, fun w' hSw => by go_simp⟩) hHeld ?_
          simp only [Act.put, List.getElem_toArray, List.getElem_cons_succ, List.getElem_cons_zero, List.setIfInBounds_toArray, List.set_cons_zero, List.set_cons_succ]
          refine wpAnyH_take (i := 5) (v := .pointer (some ⟨w3.heap.size, 1, none⟩)) rfl (by kernel_rfl) (by kernel_rfl) (by kernel_rfl) (fun _ _ _ h => h) (Or.inl ⟨by rfl, fun w' hSw => by go_simp⟩) hHeld ?_
          simp only [Act.put, List.getElem_toArray, List.getElem_cons_succ, List.getElem_cons_zero, List.setIfInBounds_toArray, List.set_cons_zero, List.set_cons_succ]
          refine wpAnyH_ready (rs := [6]) (by kernel_rfl) (by simp) ?_
          refine AllReadyH.cons rfl (fun K hK => ?_) AllReadyH.nil
          clear hHeld
          simp only [Act.put, List.getElem_toArray, List.getElem_cons_succ, List.getElem_cons_zero, List.setIfInBounds_toArray, List.set_cons_zero, List.set_cons_succ]
          rw [if_pos (by rfl)]
          obtain ⟨v0, v1, v2, v3, v4⟩ := five hb6
          go_simp
          refine hK.out _ _ trivial (fun hHeld => ?_)
          clear hK K hHeld
          try simp only [Act.put, List.getElem_toArray, List.getElem_cons_succ, List.getElem_cons_zero, List.setIfInBounds_toArray, List.set_cons_zero, List.set_cons_succ]
          refine wpAnyH_done (by kernel_rfl) ?_ _
          go_wp2_with fail
          go_meet
          rw [← HMR.out]
          exact ow_newroot (V := w1) (W := X6.drew) (r := MJ.root.take wn) (OX.drew hX) hbox HO6.out.ge hfar (by rw [List.length_take, Nat.min_eq_left hwl]; exact htk.drew) (fun q hq _ => rfl) (to_drew hbel) (.inl (by rw [x0]; cases p0 <;> rfl))
        · clear hHeld
          simp only [Act.put, List.getElem_toArray, List.getElem_cons_succ, List.getElem_cons_zero, List.setIfInBounds_toArray, List.set_cons_zero, List.set_cons_succ]
          rw [if_pos (by rfl)]
          go_wp2_with (go_at_call 71; refine (HWa.out _).mono ?_; rintro e9 w9 ⟨rfl, hw⟩; rw [hw]; clear hw)
          refine hK.out _ _ trivial (fun hHeld => ?_)
          clear hK K
          try simp only [Act.put, List.getElem_toArray, List.getElem_cons_succ, List.getElem_cons_zero, List.setIfInBounds_toArray, List.set_cons_zero, List.set_cons_succ]
          refine wpAnyH_ready (rs := [1]) (by kernel_rfl) (by simp) ?_
          refine AllReadyH.cons rfl (fun K hK => ?_) AllReadyH.nil
          clear hHeld
          simp only [Act.put, List.getElem_toArray, List.getElem_cons_succ, List.getElem_cons_zero, List.setIfInBounds_toArray, List.set_cons_zero, List.set_cons_succ]
          rw [if_pos (by rfl)]
          obtain ⟨v0, v1, v2, v3, v4⟩ := five hb6
          go_simp
          refine hK.out _ _ trivial (fun hHeld => ?_)
          clear hK K
          try simp only [Act.put, List.getElem_toArray, List.getElem_cons_succ, List.getElem_cons_zero, List.setIfInBounds_toArray, List.set_cons_zero, List.set_cons_succ]
          refine wpAnyH_take (i := 4) (v := .slice p0 wn q0) rfl (by kernel_rfl) (by kernel_rfl) (by kernel_rfl) (fun _ _ _ h => h) (Or.inl ⟨by rfl, fun w' hSw => by go_simp⟩) hHeld ?_
          simp only [Act.put, List.getElem_toArray, List.getElem_cons_succ, List.getElem_cons_zero, List.setIfInBounds_toArray, List.set_cons_zero, List.set_cons_succ]
          refine wpAnyH_take (i := 5) (v := .pointer (some ⟨w3.heap.size, 1, none⟩)) rfl (by kernel_rfl) (by kernel_rfl) (by kernel_rfl) (fun _ _ _ h => h) (Or.inl ⟨by rfl, fun w' hSw => by go_simp⟩) hHeld ?_
          simp only [Act.put, List.getElem_toArray, List.getElem_cons_succ, List.getElem_cons_zero, List.setIfInBounds_toArray, List.set_cons_zero, List.set_cons_succ]
          refine wpAnyH_ready (rs := [6]) (by kernel_rfl) (by simp) ?_
          refine AllReadyH.cons rfl (fun K hK => ?_) AllReadyH.nil
          clear hHeld
          simp only [Act.put, List.getElem_toArray, List.getElem_cons_succ, List.getElem_cons_zero, List.setIfInBounds_toArray, List.set_cons_zero, List.set_cons_succ]
          rw [if_pos (by rfl)]
          obtain ⟨v0, v1, v2, v3, v4⟩ := five hb6
          go_simp
          refine hK.out _ _ trivial (fun hHeld => ?_)
          clear hK K hHeld
          try simp only [Act.put, List.getElem_toArray, List.getElem_cons_succ, List.getElem_cons_zero, List.setIfInBounds_toArray, List.set_cons_zero, List.set_cons_succ]
          refine wpAnyH_done (by kernel_rfl) ?_ _
          go_wp2_with fail
          go_meet
          rw [← HMR.out]
          exact ow_newroot (V := w1) (W := X6.drew) (r := MJ.root.take wn) (OX.drew hX) hbox HO6.out.ge hfar (by rw [List.length_take, Nat.min_eq_left hwl]; exact htk.drew) (fun q hq _ => rfl) (to_drew hbel) (.inl (by rw [x0]; cases p0 <;> rfl))
      case rest =>
      have HD6 : Hid (OwR w1 wc w3.heap.size MR) := hcut
      clear hcut HO6
      obtain ⟨wg, hwg⟩ : ∃ X, X = wc := ⟨_, rfl⟩
      subst hwg
      obtain ⟨val, hX, hbox, hfar⟩ := HD6.out.ex
      have hbel := HD6.out.bel
      obtain ⟨p0, q0, p1, q1, p2, q2, p3, q3, x0, x1, x2, x3⟩ := hX.four'
      have hbx := hbox
      rw [x0, x1, x2, x3] at hbx
      obtain ⟨d0, d1, d2, d3, d4⟩ := five hbx
      have z9 := cells_below n1 hbel hz1
      obtain ⟨z0, z1, z2, z3, z4⟩ := five z9
      have y0 := cells_frozen z9 0; have y1 := cells_frozen z9 1; have y2 := cells_frozen z9 2; have y3 := cells_frozen z9 3; have y4 := cells_frozen z9 4
      have nD1 : ¬ w3.heap.size = w.heap.size + 1 := by omega
      have nD2 : ¬ w.heap.size + 1 = w3.heap.size := by omega
      have hc := countedX_is hX hbel.size HSh.out
      unfold imgV at hc
      rw [x0, x1, x2, x3] at hc
      have HCt : Hid (Calls Try.prog 64 #[.agg #[.int .i64 MR.guest, .slice p0 MR.root.length q0, .slice p1 MR.slots.length q1, .slice p2 MR.refs.length q2, .slice p3 MR.snaps.length q3]] wg fun r w' => ∃ val', r = .returned (imgV MR.guest val') ∧ OX w' w1.heap.size val' (countedD MR) ∧ Below w1.heap.size wg w' ∧ KeepX wg w' MR val ∧ SrcX wg MR val (.slice none 0 0) (countedD MR) val') := hc
      have hzl : w.heap.size + 1 < wg.heap.size := Nat.lt_of_lt_of_le hz1 hbel.size
      have hfz : ∀ a, LiveX MR a → (val a).ownBlock ≠ some (w.heap.size + 1) := fun a ha x => by have := ((hX.row a ha).lt _ x).1; omega
      clear hc
      go_wp2_with (go_at_call 64; refine HCt.out.mono ?_; rintro e7 w7 ⟨val2, rfl, hO7, b7, k7, s7⟩; obtain ⟨u0, v0, u1, v1, u2, v2, u3, v3, j0, j1, j2, j3⟩ := hO7.four'; have k17 := (k7 (w.heap.size + 1) hzl hfz).trans z9; obtain ⟨o0, o1, o2, o3, o4⟩ := five k17; have oo0 := cells_frozen k17 0; have oo1 := cells_frozen k17 1; have oo2 := cells_frozen k17 2; have oo3 := cells_frozen k17 3; have oo4 := cells_frozen k17 4; unfold imgV; rw [j0, j1, j2, j3])
      have hfr : ∀ a, LiveX (countedD MR) a → (val2 a).ownBlock ≠ some (w.heap.size + 1) := fun a ha x => by
        have := ((hO7.row a ha).lt _ x).1
        omega
      have hI := fun x0 x1 x2 x3 x4 => hO7.five hfr x0 x1 x2 x3 x4
      have eI : imgV (countedD MR).guest val2 = .agg #[.int .i64 MR.guest, .slice u0 (countedD MR).root.length v0, .slice u1 (countedD MR).slots.length v1, .slice u2 (countedD MR).refs.length v2, .slice u3 (countedD MR).snaps.length v3] := by unfold imgV; rw [j0, j1, j2, j3]; rfl
      have hB8 : Below w.heap.size w w7 := (Below.on bw hbel).trans (b7.mono (by omega))
      refine bodyPost_ret (v := .tuple #[.agg #[.int .i64 MR.guest, .slice u0 (countedD MR).root.length v0, .slice u1 (countedD MR).slots.length v1, .slice u2 (countedD MR).refs.length v2, .slice u3 (countedD MR).snaps.length v3], .int .i64 0]) (by simp [results, Try.results35, go_sem, o0, o1, o2, o3, o4]) rfl ⟨u0, v0, u1, v1, u2, v2, u3, v3, rfl, fun W' hW => (by have := ((hI _ _ _ _ _).keep (fun q hq _ => hW q (by omega))).img; rw [eI] at this; exact this), below_five hB8 (Nat.le_succ _) _ _ _ _ _⟩
end Go.Proofs.Ytehleeibgkpjmac
/- Contract of the document's ResizeOf: whatever it is handed. -/
namespace Go.Proofs.Ytehleeibgkpjmac
open Go.RowKit Go.Shelf
set_option maxRecDepth 20000
set_option linter.unusedVariables false
set_option linter.unusedSimpArgs false

set_option maxHeartbeats 4000000 in
theorem ro_bad (ra : Option Addr) (rc : Nat) (sa : Option Addr) (sc : Nat) (fa : Option Addr) (fc : Nat) (na : Option Addr) (nc : Nat) (m : ImgD) (g : Int) (w : World) (h : Img w (.agg #[.int .i64 m.guest, .slice ra m.root.length rc, .slice sa m.slots.length sc, .slice fa m.refs.length fc, .slice na m.snaps.length nc]) m) (E : Int) (hE : checkE m = E) (hne : (E != 0) = true) :
    Calls Try.prog 35 #[.agg #[.int .i64 m.guest, .slice ra m.root.length rc, .slice sa m.slots.length sc, .slice fa m.refs.length fc, .slice na m.snaps.length nc], .int .i64 g] w (AnsJ w imgZ E) := by
  have b0 : Below w.heap.size w ((w.alloc (.cells #[.int .i64 m.guest, .slice ra m.root.length rc, .slice sa m.slots.length sc, .slice fa m.refs.length fc, .slice na m.snaps.length nc] 26)).alloc (.cells #[.int .i64 0, .slice none 0 0, .slice none 0 0, .slice none 0 0, .slice none 0 0] 26)) := ((Below.refl _ _).alloc (Nat.le_refl _) _).alloc (by simp) _
  have m0 : ((w.alloc (.cells #[.int .i64 m.guest, .slice ra m.root.length rc, .slice sa m.slots.length sc, .slice fa m.refs.length fc, .slice na m.snaps.length nc] 26)).alloc (.cells #[.int .i64 0, .slice none 0 0, .slice none 0 0, .slice none 0 0, .slice none 0 0] 26)).heap[w.heap.size]? = some (.cells #[.int .i64 m.guest, .slice ra m.root.length rc, .slice sa m.slots.length sc, .slice fa m.refs.length fc, .slice na m.snaps.length nc] 26) := cells_alloc (World.alloc_heap_new _ _) _
  have m1 : ((w.alloc (.cells #[.int .i64 m.guest, .slice ra m.root.length rc, .slice sa m.slots.length sc, .slice fa m.refs.length fc, .slice na m.snaps.length nc] 26)).alloc (.cells #[.int .i64 0, .slice none 0 0, .slice none 0 0, .slice none 0 0, .slice none 0 0] 26)).heap[w.heap.size + 1]? = some (.cells #[.int .i64 0, .slice none 0 0, .slice none 0 0, .slice none 0 0, .slice none 0 0] 26) := by have := World.alloc_heap_new (w.alloc (.cells #[.int .i64 m.guest, .slice ra m.root.length rc, .slice sa m.slots.length sc, .slice fa m.refs.length fc, .slice na m.snaps.length nc] 26)) (.cells #[.int .i64 0, .slice none 0 0, .slice none 0 0, .slice none 0 0, .slice none 0 0] 26); simpa using this
  have hsz : w.heap.size + 1 < ((w.alloc (.cells #[.int .i64 m.guest, .slice ra m.root.length rc, .slice sa m.slots.length sc, .slice fa m.refs.length fc, .slice na m.snaps.length nc] 26)).alloc (.cells #[.int .i64 0, .slice none 0 0, .slice none 0 0, .slice none 0 0, .slice none 0 0] 26)).heap.size := by simp
  obtain ⟨c0, c1, c2, c3, c4⟩ := five m0
  have hck := checkImage_is (h.below b0) hE
  clear h hE
  go_enter Try.func35, Try.ntmps35
  go_wp2_with (go_at_call 18; refine hck.mono ?_; rintro e1 w1 ⟨rfl, b1⟩; have n0 := cells_below m0 b1 (by omega); have n1 := cells_below m1 b1 hsz; obtain ⟨d0, d1, d2, d3, d4⟩ := five n0; obtain ⟨z0, z1, z2, z3, z4⟩ := five n1; have y0 := cells_frozen n1 0; have y1 := cells_frozen n1 1; have y2 := cells_frozen n1 2; have y3 := cells_frozen n1 3; have y4 := cells_frozen n1 4)
  refine bodyPost_ret (v := .tuple #[.agg #[.int .i64 0, .slice none 0 0, .slice none 0 0, .slice none 0 0, .slice none 0 0], .int .i64 E]) (by simp [results, Try.results35, go_sem, z0, z1, z2, z3, z4]) rfl ⟨none, 0, none, 0, none, 0, none, 0, rfl, fun W' _ => imgZ_im W', below_five (Below.on b0 b1) (Nat.le_succ _) _ _ _ _ _⟩

set_option maxHeartbeats 4000000 in
theorem ro_rng (ra : Option Addr) (rc : Nat) (sa : Option Addr) (sc : Nat) (fa : Option Addr) (fc : Nat) (na : Option Addr) (nc : Nat) (m : ImgD) (g : Int) (w : World) (h : Img w (.agg #[.int .i64 m.guest, .slice ra m.root.length rc, .slice sa m.slots.length sc, .slice fa m.refs.length fc, .slice na m.snaps.length nc]) m) (hE : checkE m = 0) (hd : decide (0 ≤ g ∧ g ≤ 16) = false) :
    Calls Try.prog 35 #[.agg #[.int .i64 m.guest, .slice ra m.root.length rc, .slice sa m.slots.length sc, .slice fa m.refs.length fc, .slice na m.snaps.length nc], .int .i64 g] w (AnsJ w imgZ 3) := by
  have b0 : Below w.heap.size w ((w.alloc (.cells #[.int .i64 m.guest, .slice ra m.root.length rc, .slice sa m.slots.length sc, .slice fa m.refs.length fc, .slice na m.snaps.length nc] 26)).alloc (.cells #[.int .i64 0, .slice none 0 0, .slice none 0 0, .slice none 0 0, .slice none 0 0] 26)) := ((Below.refl _ _).alloc (Nat.le_refl _) _).alloc (by simp) _
  have m0 : ((w.alloc (.cells #[.int .i64 m.guest, .slice ra m.root.length rc, .slice sa m.slots.length sc, .slice fa m.refs.length fc, .slice na m.snaps.length nc] 26)).alloc (.cells #[.int .i64 0, .slice none 0 0, .slice none 0 0, .slice none 0 0, .slice none 0 0] 26)).heap[w.heap.size]? = some (.cells #[.int .i64 m.guest, .slice ra m.root.length rc, .slice sa m.slots.length sc, .slice fa m.refs.length fc, .slice na m.snaps.length nc] 26) := cells_alloc (World.alloc_heap_new _ _) _
  have m1 : ((w.alloc (.cells #[.int .i64 m.guest, .slice ra m.root.length rc, .slice sa m.slots.length sc, .slice fa m.refs.length fc, .slice na m.snaps.length nc] 26)).alloc (.cells #[.int .i64 0, .slice none 0 0, .slice none 0 0, .slice none 0 0, .slice none 0 0] 26)).heap[w.heap.size + 1]? = some (.cells #[.int .i64 0, .slice none 0 0, .slice none 0 0, .slice none 0 0, .slice none 0 0] 26) := by have := World.alloc_heap_new (w.alloc (.cells #[.int .i64 m.guest, .slice ra m.root.length rc, .slice sa m.slots.length sc, .slice fa m.refs.length fc, .slice na m.snaps.length nc] 26)) (.cells #[.int .i64 0, .slice none 0 0, .slice none 0 0, .slice none 0 0, .slice none 0 0] 26); simpa using this
  have hsz : w.heap.size + 1 < ((w.alloc (.cells #[.int .i64 m.guest, .slice ra m.root.length rc, .slice sa m.slots.length sc, .slice fa m.refs.length fc, .slice na m.snaps.length nc] 26)).alloc (.cells #[.int .i64 0, .slice none 0 0, .slice none 0 0, .slice none 0 0, .slice none 0 0] 26)).heap.size := by simp
  obtain ⟨c0, c1, c2, c3, c4⟩ := five m0
  have hck := checkImage_is (h.below b0) hE
  clear h hE
  go_enter Try.func35, Try.ntmps35
  go_wp2_with (first | (go_at_call 46; refine (within_any _ _ _ _).mono ?_; rintro e2 w' ⟨rfl, hw⟩; rw [hw, hd]; clear hw) | (go_at_call 18; refine hck.mono ?_; rintro e1 w1 ⟨rfl, b1⟩; have n0 := cells_below m0 b1 (by omega); have n1 := cells_below m1 b1 hsz; obtain ⟨d0, d1, d2, d3, d4⟩ := five n0; obtain ⟨z0, z1, z2, z3, z4⟩ := five n1; have y0 := cells_frozen n1 0; have y1 := cells_frozen n1 1; have y2 := cells_frozen n1 2; have y3 := cells_frozen n1 3; have y4 := cells_frozen n1 4))
  refine bodyPost_ret (v := .tuple #[.agg #[.int .i64 0, .slice none 0 0, .slice none 0 0, .slice none 0 0, .slice none 0 0], .int .i64 3]) (by simp [results, Try.results35, go_sem, z0, z1, z2, z3, z4]) rfl ⟨none, 0, none, 0, none, 0, none, 0, rfl, fun W' _ => imgZ_im W', below_five (Below.on b0 b1) (Nat.le_succ _) _ _ _ _ _⟩

theorem cut_reroot {m : ImgD} {k g : Nat} {es : List Int} (hnf : ¬ (bareL es = false ∧ tabN m k = 40)) : ∃ M, tabledD m k es = some M ∧ countedD (rerootD M g) = countedD (rerootD (tabledM m k es) g) ∧ { rerootD M g with refs := rfZ (rerootD M g).slots } = { rerootD (tabledM m k es) g with refs := rfZ (rerootD (tabledM m k es) g).slots } := by
  by_cases hb : bareL es = true
  · refine ⟨{ m with root := m.root.set k 0 }, by unfold tabledD; rw [if_pos hb], ?_, ?_⟩
    · have e2 : tabledM m k es = { m with root := m.root.set k 0 } := by unfold tabledM; rw [if_pos hb]
      rw [e2]
    · have e2 : tabledM m k es = { m with root := m.root.set k 0 } := by unfold tabledM; rw [if_pos hb]
      rw [e2]
  · have hb' : bareL es = false := by simpa using hb
    have e2 : tabledM m k es = { m with root := m.root.set k (tabN m k : Int), slots := tabL m k es } := by unfold tabledM; rw [if_neg hb]
    refine ⟨tabSet m k (tabN m k) (tabL m k es) (rfZ (tabL m k es)), by unfold tabledD; rw [if_neg hb, if_neg (fun x => hnf ⟨hb', x⟩)], ?_, ?_⟩
    · rw [e2]; rfl
    · rw [e2]; rfl
theorem ro_ok {w : World} {v : Value} {m : ImgD} (h : Img w v m) (hC : checkE m = 0) {g : Nat} (hg : g ≤ 16) :
    Calls Try.prog 35 #[v, .int .i64 (g : Int)] w (AnsJ w ((resizeD m g).getD imgZ) (errO (resizeD m g))) := by
  have h' := h
  obtain ⟨ra, rc, sa, sc, fa, fc, na, nc, rfl, _⟩ := h.parts
  have hs := checkE_shape hC
  have hrf : m.refs.length = m.slots.length := (shapeE_zero hs).2.2.1
  have hsp := slotsE_parts (shapeE_zero hs).2.1
  by_cases hgo : g % 4 ≠ 0 ∧ g / 4 < m.root.length
  · have hr := hgo.2
    obtain ⟨ao, cap, ev, _, _, hcell⟩ := h'.four.1
    obtain ⟨rb, ro, rfl, hrl, hrc⟩ := hcell (by intro x; rw [x] at hr; simp at hr)
    simp only [Value.slice.injEq] at ev
    obtain ⟨rfl, _, rfl⟩ := ev
    obtain ⟨t, ht, htl⟩ := root_nat hs hr
    obtain ⟨ock, oent⟩ := tableO_ok hs hr
    have hlen := ckE_len ock
    have HT : Hid (m.root.getD (g / 4) 0 = (t : Int) ∧ t < m.slots.length ∧ (tableO m (g / 4)).length = 4) := ⟨ht, htl, hlen⟩
    have HK : Hid (ckE (tableO m (g / 4)) = 0 ∧ (cutR (tableO m (g / 4)) (g % 4)).length = 4) := ⟨ock, cutR_len hlen (by omega)⟩
    by_cases hsm : (cutR (tableO m (g / 4)) (g % 4)) = tableO m (g / 4)
    · have e1 : cutD m g = some m := by unfold cutD; rw [if_neg (fun x => x.2.2 hsm)]
      have e2 : resizeD m g = some (countedD (rerootD m g)) := by unfold resizeD; rw [e1]; rfl
      rw [e2]
      exact ro_same rb ro _ sa sc fa fc na nc m g w h' hC hg hrc hrl hgo t HT HK hsm _ _ ⟨rfl, rfl⟩ (shape_rfq (resize_shape hC hg e1))
    · have e1 : cutD m g = tabledD m (g / 4) (cutR (tableO m (g / 4)) (g % 4)) := by unfold cutD; rw [if_pos ⟨hgo.1, hgo.2, hsm⟩]
      by_cases hf : (bareL (cutR (tableO m (g / 4)) (g % 4)) = false ∧ tabN m (g / 4) = 40)
      · have e2 : resizeD m g = none := by unfold resizeD; rw [e1]; unfold tabledD; rw [if_neg (by rw [hf.1]; decide), if_pos hf.2]; rfl
        rw [e2]
        exact ro_full rb ro _ sa sc fa fc na nc m g w h' hC hg hrc hrl hgo t HT HK hsm ⟨hrf, hsp.2⟩ hf
      · obtain ⟨M, hM, hcd, hrr⟩ := cut_reroot (m := m) (k := g / 4) (g := g) (es := (cutR (tableO m (g / 4)) (g % 4))) hf
        have e2 : resizeD m g = some (countedD (rerootD (tabledM m (g / 4) (cutR (tableO m (g / 4)) (g % 4))) g)) := by unfold resizeD; rw [e1, hM, Option.map_some, hcd]
        rw [e2]
        have hsh := shape_rfq (resize_shape hC hg (e1.trans hM))
        rw [hrr] at hsh
        exact ro_cut rb ro _ sa sc fa fc na nc m g w h' hC hg hrc hrl hgo t HT HK hsm ⟨hrf, hsp.2⟩ hf _ ⟨rfl, tabledM_guest _ _ _⟩ _ _ ⟨rfl, rfl⟩ hsh
  · have e1 : cutD m g = some m := by unfold cutD; rw [if_neg (fun x => hgo ⟨x.1, x.2.1⟩)]
    have e2 : resizeD m g = some (countedD (rerootD m g)) := by unfold resizeD; rw [e1]; rfl
    rw [e2]
    have hsk : g % 4 = 0 ∨ m.root.length ≤ g / 4 := by
      by_cases x : g % 4 = 0
      · exact .inl x
      · exact .inr (by have : ¬ g / 4 < m.root.length := fun y => hgo ⟨x, y⟩; omega)
    exact ro_skip ra rc sa sc fa fc na nc m g w h' hC hg hsk _ _ ⟨rfl, rfl⟩ (shape_rfq (resize_shape hC hg e1))
theorem resizeOf_is {w : World} {v : Value} {m : ImgD} (h : Img w v m) (g : Int) {M : ImgD} {E : Int} (hM : rzM m g = M) (hE : rzE m g = E) : Calls Try.prog 35 #[v, .int .i64 g] w (AnsJ w M E) := by
  have h' := h
  obtain ⟨ra, rc, sa, sc, fa, fc, na, nc, rfl, _⟩ := h.parts
  subst hM hE
  unfold rzM rzE
  by_cases hC : checkE m = 0
  · have hne : ¬ checkE m ≠ 0 := by simpa using hC
    rw [if_neg hne, if_neg hne]
    by_cases hr : 0 ≤ g ∧ g ≤ 16
    · rw [if_pos hr, if_pos hr]
      obtain ⟨k, rfl⟩ := Int.eq_ofNat_of_zero_le hr.1
      exact ro_ok h' hC (by omega)
    · rw [if_neg hr, if_neg hr]
      exact ro_rng ra rc sa sc fa fc na nc m g w h' hC (by simpa using hr)
  · rw [if_pos hC, if_pos hC]
    exact ro_bad ra rc sa sc fa fc na nc m g w h' _ rfl (by simpa using hC)
end Go.Proofs.Ytehleeibgkpjmac
/- Contract of pair: the image that every beginning looks at. -/
namespace Go.Proofs.Ytehleeibgkpjmac
open Go.RowKit Go.Shelf
set_option maxRecDepth 20000

def aaaa : ByteArray := ⟨#[97, 97, 97, 97]⟩
def bbbb : ByteArray := ⟨#[98, 98, 98, 98]⟩
def nOld : ByteArray := ⟨#[111, 108, 100]⟩

/-- The image of pair, where its second table and its Refs may have been changed. -/
def pairD (g : Int) (R T : List Int) : ImgD := ⟨g, [2, 4], [(0, ⟨#[]⟩, []), (1, aaaa, []), (2, ⟨#[]⟩, [1, 0, -1, 1]), (1, bbbb, []), (2, ⟨#[]⟩, T)], R, [(nOld, 4, [2])]⟩
structure PairW (n : Nat) (W : World) (R T : List Int) : Prop where
  root : LAt W (n + 1) [2, 4]
  ta : LAt W (n + 2) [1, 0, -1, 1]
  tb : LAt W (n + 3) T
  slots : W.heap[n + 4]? = some (.cells #[.int .i64 0, .string ⟨#[]⟩, .slice none 0 0, .int .i64 1, .string aaaa, .slice none 0 0, .int .i64 2, .string ⟨#[]⟩, .slice (some ⟨n + 2, 0, none⟩) 4 4, .int .i64 1, .string bbbb, .slice none 0 0, .int .i64 2, .string ⟨#[]⟩, .slice (some ⟨n + 3, 0, none⟩) 4 4] 33)
  refs : LAt W (n + 5) R
  sroot : LAt W (n + 6) [2]
  snaps : W.heap[n + 7]? = some (.cells #[.string nOld, .int .i64 4, .slice (some ⟨n + 6, 0, none⟩) 1 1] 61)

theorem alloc_get (W : World) (o : Obj) (i : Nat) : (W.alloc o).heap[i]? = if i = W.heap.size then some o else W.heap[i]? := by
  show (W.heap.push o)[i]? = _
  rw [Array.getElem?_push]

theorem size_alloc (W : World) (o : Obj) : (W.alloc o).heap.size = W.heap.size + 1 := by simp

set_option linter.unusedSimpArgs false in
theorem pair_at (w : World) : Calls Try.prog 37 #[] w fun r w' => r = .returned (.agg #[.int .i64 6, .slice (some ⟨w.heap.size + 1, 0, none⟩) 2 2, .slice (some ⟨w.heap.size + 4, 0, none⟩) 5 5, .slice (some ⟨w.heap.size + 5, 0, none⟩) 5 5, .slice (some ⟨w.heap.size + 7, 0, none⟩) 1 1]) ∧ PairW w.heap.size w' [0, 2, 2, 1, 1] [3, 0, 0, 0] ∧ Below w.heap.size w w' := by
  go_enter Try.func37, Try.ntmps37
  go_wp2
  refine bodyPost_ret (v := .agg #[.int .i64 6, .slice (some ⟨w.heap.size + 1, 0, none⟩) 2 2, .slice (some ⟨w.heap.size + 4, 0, none⟩) 5 5, .slice (some ⟨w.heap.size + 5, 0, none⟩) 5 5, .slice (some ⟨w.heap.size + 7, 0, none⟩) 1 1]) (by simp [results, Try.results37, go_sem]) rfl ⟨rfl, ⟨?_, ?_, ?_, ?_, ?_, ?_, ?_⟩, ?_⟩
  · show _ = _; simp only [alloc_get, size_alloc, Nat.add_right_cancel_iff, Nat.add_assoc, Nat.reduceAdd, Nat.add_left_cancel_iff, Nat.reduceEqDiff, ↓reduceIte, List.map, Nat.left_eq_add, reduceCtorEq, Nat.add_eq_left, Nat.succ_ne_self]
  · show _ = _; simp only [alloc_get, size_alloc, Nat.add_right_cancel_iff, Nat.add_assoc, Nat.reduceAdd, Nat.add_left_cancel_iff, Nat.reduceEqDiff, ↓reduceIte, List.map, Nat.left_eq_add, reduceCtorEq, Nat.add_eq_left, Nat.succ_ne_self]
  · show _ = _; simp only [alloc_get, size_alloc, Nat.add_right_cancel_iff, Nat.add_assoc, Nat.reduceAdd, Nat.add_left_cancel_iff, Nat.reduceEqDiff, ↓reduceIte, List.map, Nat.left_eq_add, reduceCtorEq, Nat.add_eq_left, Nat.succ_ne_self]
  · show _ = _; simp only [alloc_get, size_alloc, Nat.add_assoc, Nat.reduceAdd, Nat.add_left_cancel_iff, Nat.reduceEqDiff, ↓reduceIte, aaaa, bbbb]
  · show _ = _; simp only [alloc_get, size_alloc, Nat.add_right_cancel_iff, Nat.add_assoc, Nat.reduceAdd, Nat.add_left_cancel_iff, Nat.reduceEqDiff, ↓reduceIte, List.map, Nat.left_eq_add, reduceCtorEq, Nat.add_eq_left, Nat.succ_ne_self]
  · show _ = _; simp only [alloc_get, size_alloc, Nat.add_right_cancel_iff, Nat.add_assoc, Nat.reduceAdd, Nat.add_left_cancel_iff, Nat.reduceEqDiff, ↓reduceIte, List.map, Nat.left_eq_add, reduceCtorEq, Nat.add_eq_left, Nat.succ_ne_self]
  · show _ = _; simp only [alloc_get, size_alloc, Nat.add_assoc, Nat.reduceAdd, Nat.add_left_cancel_iff, Nat.reduceEqDiff, ↓reduceIte, nOld]
  · exact ((((((((Below.refl _ _).alloc (Nat.le_refl _) _).alloc (by simp) _).alloc (by simp; omega) _).alloc (by simp; omega) _).alloc (by simp; omega) _).alloc (by simp; omega) _).alloc (by simp; omega) _).alloc (by simp; omega) _

theorem PairW.below {n : Nat} {W W' : World} {R T : List Int} (h : PairW n W R T) {k : Nat} (hb : Below k W W') (hk : n + 8 ≤ k) : PairW n W' R T :=
  ⟨(hb.block _ (by omega)).trans h.root, (hb.block _ (by omega)).trans h.ta, (hb.block _ (by omega)).trans h.tb, (hb.block _ (by omega)).trans h.slots, (hb.block _ (by omega)).trans h.refs, (hb.block _ (by omega)).trans h.sroot, (hb.block _ (by omega)).trans h.snaps⟩
theorem PairW.size {n : Nat} {W : World} {R T : List Int} (h : PairW n W R T) : n + 8 ≤ W.heap.size := by
  have := (Array.getElem?_eq_some_iff.1 h.snaps).1; omega
theorem cell_of {W : World} {g : Nat} {A : Array Value} {t : TypeId} {fr : Nat × Nat} (h : W.heap[g]? = some (.cells A t fr)) {j : Nat} {v : Value} (hv : A[j]? = some v) : W.cell? ⟨g, j, none⟩ = some v := by
  simp [World.cell?, h, hv]
theorem PairW.img {n : Nat} {W : World} {R T : List Int} (h : PairW n W R T) (hR : R.length = 5) (hT : T.length = 4) (g : Int) :
    Img W (.agg #[.int .i64 g, .slice (some ⟨n + 1, 0, none⟩) 2 2, .slice (some ⟨n + 4, 0, none⟩) 5 5, .slice (some ⟨n + 5, 0, none⟩) 5 5, .slice (some ⟨n + 7, 0, none⟩) 1 1]) (pairD g R T) := by
  refine ⟨_, _, _, _, rfl, h.root.sl rfl (by decide), ⟨some ⟨n + 4, 0, none⟩, 5, rfl, show (5 : Nat) ≤ maxLen by decide, Nat.le_refl _, fun _ => ⟨n + 4, 0, rfl, (Array.getElem?_eq_some_iff.1 h.slots).1, ?_⟩⟩, h.refs.sl hR (by decide), ⟨some ⟨n + 7, 0, none⟩, 1, rfl, show (1 : Nat) ≤ maxLen by decide, Nat.le_refl _, fun _ => ⟨n + 7, 0, rfl, (Array.getElem?_eq_some_iff.1 h.snaps).1, ?_⟩⟩⟩
  · intro j hj
    have h5 : j < 5 := hj
    match j, h5 with
    | 0, _ => exact ⟨_, cell_of h.slots rfl, cell_of h.slots rfl, cell_of h.slots rfl, Sl.nil W⟩
    | 1, _ => exact ⟨_, cell_of h.slots rfl, cell_of h.slots rfl, cell_of h.slots rfl, Sl.nil W⟩
    | 2, _ => exact ⟨_, cell_of h.slots rfl, cell_of h.slots rfl, cell_of h.slots rfl, h.ta.sl rfl (by decide)⟩
    | 3, _ => exact ⟨_, cell_of h.slots rfl, cell_of h.slots rfl, cell_of h.slots rfl, Sl.nil W⟩
    | 4, _ => exact ⟨_, cell_of h.slots rfl, cell_of h.slots rfl, cell_of h.slots rfl, h.tb.sl hT (by decide)⟩
  · intro j hj
    have h1 : j < 1 := hj
    match j, h1 with
    | 0, _ => exact ⟨_, cell_of h.snaps rfl, cell_of h.snaps rfl, cell_of h.snaps rfl, h.sroot.sl rfl (by decide)⟩
theorem LAt.other {W : World} {g g' : Nat} {l : List Int} (h : LAt W g l) (hne : g ≠ g') (j : Nat) (v : Value) : LAt (W.setCell ⟨g', j, none⟩ v) g l := ((Only.set g' W j v).block g hne).trans h
theorem PairW.setRefs {n : Nat} {W : World} {R T : List Int} (h : PairW n W R T) (j : Nat) (x : Int) : PairW n (W.setCell ⟨n + 5, j, none⟩ (.int .i64 x)) (R.set j x) T :=
  ⟨h.root.other (by omega) _ _, h.ta.other (by omega) _ _, h.tb.other (by omega) _ _, ((Only.set (n + 5) W j _).block _ (by omega)).trans h.slots, h.refs.set j x, h.sroot.other (by omega) _ _, ((Only.set (n + 5) W j _).block _ (by omega)).trans h.snaps⟩
theorem pair_is (w : World) : Calls Try.prog 37 #[] w fun r w' => (∃ v, r = .returned v ∧ Img w' v (pairD 6 [0, 2, 2, 1, 1] [3, 0, 0, 0])) ∧ Below w.heap.size w w' :=
  (pair_at w).mono fun _ _ h => ⟨⟨_, h.1, h.2.1.img rfl rfl 6⟩, h.2.2⟩
end Go.Proofs.Ytehleeibgkpjmac
/- The image of pair: what is decided of it. -/
namespace Go.Proofs.Ytehleeibgkpjmac
open Go.RowKit Go.Shelf
set_option maxRecDepth 20000

abbrev pD : ImgD := pairD 6 [0, 2, 2, 1, 1] [3, 0, 0, 0]
end Go.Proofs.Ytehleeibgkpjmac
/- Contract of writesBegun: it answers true. -/
namespace Go.Proofs.Ytehleeibgkpjmac
open Go.RowKit Go.Shelf
set_option maxRecDepth 20000

/-- A cell that lies in the world, and stays. -/
def CAt (W : World) (p : Addr) (v : Value) : Prop := W.cell? p = some v ∧ p.block < W.heap.size
theorem CAt.below {W W' : World} {p : Addr} {v : Value} (h : CAt W p v) (bb : Below W.heap.size W W') : CAt W' p v := ⟨(bb.cell h.2).trans h.1, Nat.lt_of_lt_of_le h.2 bb.size⟩
def wbA : ImgD := ⟨6, [2, 4], [(0, ⟨#[]⟩, []), (1, aaaa, []), (2, ⟨#[]⟩, [1, 0, -1, 1]), (1, ⟨#[99, 99, 99, 99]⟩, []), (2, ⟨#[]⟩, [3, 0, 0, 0])], [0, 2, 2, 1, 1], [(nOld, 4, [2])]⟩
theorem wb_ma : wrM pD 4 ⟨#[99, 99, 99, 99]⟩ = wbA := by kernel_rfl
theorem wb_ea : wrE pD 4 ⟨#[99, 99, 99, 99]⟩ = 0 := by decide +kernel
def wbB : ImgD := ⟨6, [5, 4], [(0, ⟨#[]⟩, []), (1, aaaa, []), (2, ⟨#[]⟩, [1, 0, -1, 1]), (1, bbbb, []), (2, ⟨#[]⟩, [3, 0, 0, 0]), (2, ⟨#[]⟩, [6, 0, -1, 1]), (1, ⟨#[100, 100, 100, 100]⟩, [])], [0, 3, 1, 1, 1, 1, 1], [(nOld, 4, [2])]⟩
theorem wb_mb : wrM pD 0 ⟨#[100, 100, 100, 100]⟩ = wbB := by kernel_rfl
theorem wb_eb : wrE pD 0 ⟨#[100, 100, 100, 100]⟩ = 0 := by decide +kernel
def wbC : ImgD := ⟨6, [2, 0], [(0, ⟨#[]⟩, []), (1, aaaa, []), (2, ⟨#[]⟩, [1, 0, -1, 1]), (0, ⟨#[]⟩, []), (0, ⟨#[]⟩, [])], [0, 2, 2, 0, 0], [(nOld, 4, [2])]⟩
theorem wb_mc : puM pD 4 0 = wbC := by kernel_rfl
theorem wb_ec : puE pD 4 0 = 0 := by decide +kernel
def wbD : ImgD := ⟨6, [2, 4], [(0, ⟨#[]⟩, []), (1, aaaa, []), (2, ⟨#[]⟩, [1, 0, -1, 1]), (1, bbbb, []), (2, ⟨#[]⟩, [3, -1, 0, 0])], [0, 2, 2, 1, 1], [(nOld, 4, [2])]⟩
theorem wb_md : puM pD 5 (-1) = wbD := by kernel_rfl
theorem wb_ed : puE pD 5 (-1) = 0 := by decide +kernel
def wbX : ImgD := ⟨3, [5], [(0, ⟨#[]⟩, []), (1, aaaa, []), (2, ⟨#[]⟩, [1, 0, -1, 1]), (0, ⟨#[]⟩, []), (0, ⟨#[]⟩, []), (2, ⟨#[]⟩, [1, 0, -1, 0])], [0, 3, 1, 0, 0, 1], [(nOld, 4, [2])]⟩
theorem wb_mx : rzM pD 3 = wbX := by kernel_rfl
theorem wb_ex : rzE pD 3 = 0 := by decide +kernel

set_option maxHeartbeats 200000000 in
theorem writesBegun_any (w : World) : Calls Try.prog 28 #[] w fun r w' => r = .returned (.bool true) ∧ Below w.heap.size w w' := by
  go_enter Try.func28, Try.ntmps28
  have hB := Below.refl w.heap.size w
  go_wp2_with fail
  refine (pair_is _).mono ?_
  rintro e w1 ⟨⟨v_a, rfl, P_a⟩, bb⟩
  replace hB := Below.on hB bb
  clear bb
  go_wp2_with fail
  refine (write_to P_a 4 ⟨#[99, 99, 99, 99]⟩ wb_ma wb_ea).mono ?_
  intro e w2 hA
  obtain ⟨val, a_r, a_rc, a_s, a_sc, a_f, a_fc, a_n, a_nc, rfl, hO, bb, hI⟩ := hA.open
  dsimp only
  have I_a := hO.img
  rw [hI] at I_a
  clear hA hO hI
  rw [show wbA.guest = 6 from rfl, show wbA.root.length = 2 from rfl, show wbA.slots.length = 5 from rfl, show wbA.refs.length = 5 from rfl, show wbA.snaps.length = 1 from rfl] at I_a ⊢
  replace hB := Below.on hB bb
  replace P_a := P_a.below bb
  clear bb
  clear P_a
  have ba : Below w2.heap.size w2 (w2.alloc (.cells #[.int .i64 6, .slice a_r 2 a_rc, .slice a_s 5 a_sc, .slice a_f 5 a_fc, .slice a_n 1 a_nc] 26)) := (Below.refl _ _).alloc (Nat.le_refl _) _
  replace hB := Below.on hB ba
  replace I_a := I_a.below ba
  clear ba
  have mb_a : (w2.alloc (.cells #[.int .i64 6, .slice a_r 2 a_rc, .slice a_s 5 a_sc, .slice a_f 5 a_fc, .slice a_n 1 a_nc] 26)).heap[w2.heap.size]? = some (.cells #[.int .i64 6, .slice a_r 2 a_rc, .slice a_s 5 a_sc, .slice a_f 5 a_fc, .slice a_n 1 a_nc] 26) := World.alloc_heap_new _ _
  obtain ⟨a0, a1, a2, a3, a4⟩ := five mb_a
  go_wp2_with fail
  refine (pair_is _).mono ?_
  rintro e w3 ⟨⟨v_b, rfl, P_b⟩, bb⟩
  clear a0 a1 a2 a3 a4
  replace mb_a := cells_below mb_a bb (Array.getElem?_eq_some_iff.1 mb_a).1
  replace hB := Below.on hB bb
  replace I_a := I_a.below bb
  clear bb
  obtain ⟨a0, a1, a2, a3, a4⟩ := five mb_a
  go_wp2_with fail
  refine (write_to P_b 0 ⟨#[100, 100, 100, 100]⟩ wb_mb wb_eb).mono ?_
  intro e w4 hA
  obtain ⟨val, b_r, b_rc, b_s, b_sc, b_f, b_fc, b_n, b_nc, rfl, hO, bb, hI⟩ := hA.open
  dsimp only
  have I_b := hO.img
  rw [hI] at I_b
  clear hA hO hI
  rw [show wbB.guest = 6 from rfl, show wbB.root.length = 2 from rfl, show wbB.slots.length = 7 from rfl, show wbB.refs.length = 7 from rfl, show wbB.snaps.length = 1 from rfl] at I_b ⊢
  clear a0 a1 a2 a3 a4
  replace mb_a := cells_below mb_a bb (Array.getElem?_eq_some_iff.1 mb_a).1
  replace hB := Below.on hB bb
  replace I_a := I_a.below bb
  replace P_b := P_b.below bb
  clear bb
  clear P_b
  replace mb_a := cells_alloc mb_a (.cells #[.int .i64 6, .slice b_r 2 b_rc, .slice b_s 7 b_sc, .slice b_f 7 b_fc, .slice b_n 1 b_nc] 26)
  have ba : Below w4.heap.size w4 (w4.alloc (.cells #[.int .i64 6, .slice b_r 2 b_rc, .slice b_s 7 b_sc, .slice b_f 7 b_fc, .slice b_n 1 b_nc] 26)) := (Below.refl _ _).alloc (Nat.le_refl _) _
  replace hB := Below.on hB ba
  replace I_a := I_a.below ba
  replace I_b := I_b.below ba
  clear ba
  have mb_b : (w4.alloc (.cells #[.int .i64 6, .slice b_r 2 b_rc, .slice b_s 7 b_sc, .slice b_f 7 b_fc, .slice b_n 1 b_nc] 26)).heap[w4.heap.size]? = some (.cells #[.int .i64 6, .slice b_r 2 b_rc, .slice b_s 7 b_sc, .slice b_f 7 b_fc, .slice b_n 1 b_nc] 26) := World.alloc_heap_new _ _
  obtain ⟨a0, a1, a2, a3, a4⟩ := five mb_a
  obtain ⟨b0, b1, b2, b3, b4⟩ := five mb_b
  go_wp2_with fail
  refine (pair_is _).mono ?_
  rintro e w5 ⟨⟨v_c, rfl, P_c⟩, bb⟩
  clear a0 a1 a2 a3 a4 b0 b1 b2 b3 b4
  replace mb_a := cells_below mb_a bb (Array.getElem?_eq_some_iff.1 mb_a).1
  replace mb_b := cells_below mb_b bb (Array.getElem?_eq_some_iff.1 mb_b).1
  replace hB := Below.on hB bb
  replace I_a := I_a.below bb
  replace I_b := I_b.below bb
  clear bb
  obtain ⟨a0, a1, a2, a3, a4⟩ := five mb_a
  obtain ⟨b0, b1, b2, b3, b4⟩ := five mb_b
  go_wp2_with fail
  refine (punch_to P_c 4 wb_mc wb_ec).mono ?_
  intro e w6 hA
  obtain ⟨val, c_r, c_rc, c_s, c_sc, c_f, c_fc, c_n, c_nc, rfl, hO, bb, hI⟩ := hA.open
  dsimp only
  have I_c := hO.img
  rw [hI] at I_c
  clear hA hO hI
  rw [show wbC.guest = 6 from rfl, show wbC.root.length = 2 from rfl, show wbC.slots.length = 5 from rfl, show wbC.refs.length = 5 from rfl, show wbC.snaps.length = 1 from rfl] at I_c ⊢
  clear a0 a1 a2 a3 a4 b0 b1 b2 b3 b4
  replace mb_a := cells_below mb_a bb (Array.getElem?_eq_some_iff.1 mb_a).1
  replace mb_b := cells_below mb_b bb (Array.getElem?_eq_some_iff.1 mb_b).1
  replace hB := Below.on hB bb
  replace I_a := I_a.below bb
  replace I_b := I_b.below bb
  replace P_c := P_c.below bb
  clear bb
  clear P_c
  replace mb_a := cells_alloc mb_a (.cells #[.int .i64 6, .slice c_r 2 c_rc, .slice c_s 5 c_sc, .slice c_f 5 c_fc, .slice c_n 1 c_nc] 26)
  replace mb_b := cells_alloc mb_b (.cells #[.int .i64 6, .slice c_r 2 c_rc, .slice c_s 5 c_sc, .slice c_f 5 c_fc, .slice c_n 1 c_nc] 26)
  have ba : Below w6.heap.size w6 (w6.alloc (.cells #[.int .i64 6, .slice c_r 2 c_rc, .slice c_s 5 c_sc, .slice c_f 5 c_fc, .slice c_n 1 c_nc] 26)) := (Below.refl _ _).alloc (Nat.le_refl _) _
  replace hB := Below.on hB ba
  replace I_a := I_a.below ba
  replace I_b := I_b.below ba
  replace I_c := I_c.below ba
  clear ba
  have mb_c : (w6.alloc (.cells #[.int .i64 6, .slice c_r 2 c_rc, .slice c_s 5 c_sc, .slice c_f 5 c_fc, .slice c_n 1 c_nc] 26)).heap[w6.heap.size]? = some (.cells #[.int .i64 6, .slice c_r 2 c_rc, .slice c_s 5 c_sc, .slice c_f 5 c_fc, .slice c_n 1 c_nc] 26) := World.alloc_heap_new _ _
  obtain ⟨a0, a1, a2, a3, a4⟩ := five mb_a
  obtain ⟨b0, b1, b2, b3, b4⟩ := five mb_b
  obtain ⟨c0, c1, c2, c3, c4⟩ := five mb_c
  go_wp2_with fail
  refine (pair_is _).mono ?_
  rintro e w7 ⟨⟨v_d, rfl, P_d⟩, bb⟩
  clear a0 a1 a2 a3 a4 b0 b1 b2 b3 b4 c0 c1 c2 c3 c4
  replace mb_a := cells_below mb_a bb (Array.getElem?_eq_some_iff.1 mb_a).1
  replace mb_b := cells_below mb_b bb (Array.getElem?_eq_some_iff.1 mb_b).1
  replace mb_c := cells_below mb_c bb (Array.getElem?_eq_some_iff.1 mb_c).1
  replace hB := Below.on hB bb
  replace I_a := I_a.below bb
  replace I_b := I_b.below bb
  replace I_c := I_c.below bb
  clear bb
  obtain ⟨a0, a1, a2, a3, a4⟩ := five mb_a
  obtain ⟨b0, b1, b2, b3, b4⟩ := five mb_b
  obtain ⟨c0, c1, c2, c3, c4⟩ := five mb_c
  go_wp2_with fail
  refine (wipe_to P_d 5 wb_md wb_ed).mono ?_
  intro e w8 hA
  obtain ⟨val, d_r, d_rc, d_s, d_sc, d_f, d_fc, d_n, d_nc, rfl, hO, bb, hI⟩ := hA.open
  dsimp only
  have I_d := hO.img
  rw [hI] at I_d
  clear hA hO hI
  rw [show wbD.guest = 6 from rfl, show wbD.root.length = 2 from rfl, show wbD.slots.length = 5 from rfl, show wbD.refs.length = 5 from rfl, show wbD.snaps.length = 1 from rfl] at I_d ⊢
  clear a0 a1 a2 a3 a4 b0 b1 b2 b3 b4 c0 c1 c2 c3 c4
  replace mb_a := cells_below mb_a bb (Array.getElem?_eq_some_iff.1 mb_a).1
  replace mb_b := cells_below mb_b bb (Array.getElem?_eq_some_iff.1 mb_b).1
  replace mb_c := cells_below mb_c bb (Array.getElem?_eq_some_iff.1 mb_c).1
  replace hB := Below.on hB bb
  replace I_a := I_a.below bb
  replace I_b := I_b.below bb
  replace I_c := I_c.below bb
  replace P_d := P_d.below bb
  clear bb
  clear P_d
  replace mb_a := cells_alloc mb_a (.cells #[.int .i64 6, .slice d_r 2 d_rc, .slice d_s 5 d_sc, .slice d_f 5 d_fc, .slice d_n 1 d_nc] 26)
  replace mb_b := cells_alloc mb_b (.cells #[.int .i64 6, .slice d_r 2 d_rc, .slice d_s 5 d_sc, .slice d_f 5 d_fc, .slice d_n 1 d_nc] 26)
  replace mb_c := cells_alloc mb_c (.cells #[.int .i64 6, .slice d_r 2 d_rc, .slice d_s 5 d_sc, .slice d_f 5 d_fc, .slice d_n 1 d_nc] 26)
  have ba : Below w8.heap.size w8 (w8.alloc (.cells #[.int .i64 6, .slice d_r 2 d_rc, .slice d_s 5 d_sc, .slice d_f 5 d_fc, .slice d_n 1 d_nc] 26)) := (Below.refl _ _).alloc (Nat.le_refl _) _
  replace hB := Below.on hB ba
  replace I_a := I_a.below ba
  replace I_b := I_b.below ba
  replace I_c := I_c.below ba
  replace I_d := I_d.below ba
  clear ba
  have mb_d : (w8.alloc (.cells #[.int .i64 6, .slice d_r 2 d_rc, .slice d_s 5 d_sc, .slice d_f 5 d_fc, .slice d_n 1 d_nc] 26)).heap[w8.heap.size]? = some (.cells #[.int .i64 6, .slice d_r 2 d_rc, .slice d_s 5 d_sc, .slice d_f 5 d_fc, .slice d_n 1 d_nc] 26) := World.alloc_heap_new _ _
  obtain ⟨a0, a1, a2, a3, a4⟩ := five mb_a
  obtain ⟨b0, b1, b2, b3, b4⟩ := five mb_b
  obtain ⟨c0, c1, c2, c3, c4⟩ := five mb_c
  obtain ⟨d0, d1, d2, d3, d4⟩ := five mb_d
  go_wp2_with fail
  refine (pair_is _).mono ?_
  rintro e w9 ⟨⟨v_x, rfl, P_x⟩, bb⟩
  clear a0 a1 a2 a3 a4 b0 b1 b2 b3 b4 c0 c1 c2 c3 c4 d0 d1 d2 d3 d4
  replace mb_a := cells_below mb_a bb (Array.getElem?_eq_some_iff.1 mb_a).1
  replace mb_b := cells_below mb_b bb (Array.getElem?_eq_some_iff.1 mb_b).1
  replace mb_c := cells_below mb_c bb (Array.getElem?_eq_some_iff.1 mb_c).1
  replace mb_d := cells_below mb_d bb (Array.getElem?_eq_some_iff.1 mb_d).1
  replace hB := Below.on hB bb
  replace I_a := I_a.below bb
  replace I_b := I_b.below bb
  replace I_c := I_c.below bb
  replace I_d := I_d.below bb
  clear bb
  obtain ⟨a0, a1, a2, a3, a4⟩ := five mb_a
  obtain ⟨b0, b1, b2, b3, b4⟩ := five mb_b
  obtain ⟨c0, c1, c2, c3, c4⟩ := five mb_c
  obtain ⟨d0, d1, d2, d3, d4⟩ := five mb_d
  go_wp2_with fail
  refine (resize_to P_x 3 wb_mx wb_ex).mono ?_
  intro e w10 hA
  obtain ⟨val, x_r, x_rc, x_s, x_sc, x_f, x_fc, x_n, x_nc, rfl, hO, bb, hI⟩ := hA.open
  dsimp only
  have I_x := hO.img
  rw [hI] at I_x
  clear hA hO hI
  rw [show wbX.guest = 3 from rfl, show wbX.root.length = 1 from rfl, show wbX.slots.length = 6 from rfl, show wbX.refs.length = 6 from rfl, show wbX.snaps.length = 1 from rfl] at I_x ⊢
  clear a0 a1 a2 a3 a4 b0 b1 b2 b3 b4 c0 c1 c2 c3 c4 d0 d1 d2 d3 d4
  replace mb_a := cells_below mb_a bb (Array.getElem?_eq_some_iff.1 mb_a).1
  replace mb_b := cells_below mb_b bb (Array.getElem?_eq_some_iff.1 mb_b).1
  replace mb_c := cells_below mb_c bb (Array.getElem?_eq_some_iff.1 mb_c).1
  replace mb_d := cells_below mb_d bb (Array.getElem?_eq_some_iff.1 mb_d).1
  replace hB := Below.on hB bb
  replace I_a := I_a.below bb
  replace I_b := I_b.below bb
  replace I_c := I_c.below bb
  replace I_d := I_d.below bb
  replace P_x := P_x.below bb
  clear bb
  clear P_x
  replace mb_a := cells_alloc mb_a (.cells #[.int .i64 3, .slice x_r 1 x_rc, .slice x_s 6 x_sc, .slice x_f 6 x_fc, .slice x_n 1 x_nc] 26)
  replace mb_b := cells_alloc mb_b (.cells #[.int .i64 3, .slice x_r 1 x_rc, .slice x_s 6 x_sc, .slice x_f 6 x_fc, .slice x_n 1 x_nc] 26)
  replace mb_c := cells_alloc mb_c (.cells #[.int .i64 3, .slice x_r 1 x_rc, .slice x_s 6 x_sc, .slice x_f 6 x_fc, .slice x_n 1 x_nc] 26)
  replace mb_d := cells_alloc mb_d (.cells #[.int .i64 3, .slice x_r 1 x_rc, .slice x_s 6 x_sc, .slice x_f 6 x_fc, .slice x_n 1 x_nc] 26)
  have ba : Below w10.heap.size w10 (w10.alloc (.cells #[.int .i64 3, .slice x_r 1 x_rc, .slice x_s 6 x_sc, .slice x_f 6 x_fc, .slice x_n 1 x_nc] 26)) := (Below.refl _ _).alloc (Nat.le_refl _) _
  replace hB := Below.on hB ba
  replace I_a := I_a.below ba
  replace I_b := I_b.below ba
  replace I_c := I_c.below ba
  replace I_d := I_d.below ba
  replace I_x := I_x.below ba
  clear ba
  have mb_x : (w10.alloc (.cells #[.int .i64 3, .slice x_r 1 x_rc, .slice x_s 6 x_sc, .slice x_f 6 x_fc, .slice x_n 1 x_nc] 26)).heap[w10.heap.size]? = some (.cells #[.int .i64 3, .slice x_r 1 x_rc, .slice x_s 6 x_sc, .slice x_f 6 x_fc, .slice x_n 1 x_nc] 26) := World.alloc_heap_new _ _
  obtain ⟨pa, oa, ta, e, _, la, sa⟩ := I_a.four.2.1.open (by decide)
  simp only [Value.slice.injEq] at e
  obtain ⟨rfl, hh, rfl⟩ := e
  clear hh
  obtain ⟨pb, ob, tb, e, _, lb, sb⟩ := I_b.four.2.1.open (by decide)
  simp only [Value.slice.injEq] at e
  obtain ⟨rfl, hh, rfl⟩ := e
  clear hh
  obtain ⟨pc, oc, tc, e, _, lc, sc⟩ := I_c.four.2.1.open (by decide)
  simp only [Value.slice.injEq] at e
  obtain ⟨rfl, hh, rfl⟩ := e
  clear hh
  obtain ⟨pd, od, td, e, _, ld, sd⟩ := I_d.four.2.1.open (by decide)
  simp only [Value.slice.injEq] at e
  obtain ⟨rfl, hh, rfl⟩ := e
  clear hh
  obtain ⟨px, ox, tx, e, _, lx, sx⟩ := I_x.four.2.1.open (by decide)
  simp only [Value.slice.injEq] at e
  obtain ⟨rfl, hh, rfl⟩ := e
  clear hh
  have ca3 : CAt (w10.alloc (.cells #[.int .i64 3, .slice x_r 1 x_rc, .slice (some ⟨px, ox, none⟩) 6 x_sc, .slice x_f 6 x_fc, .slice x_n 1 x_nc] 26)) ⟨pa, oa + 10, none⟩ (.string ⟨#[99, 99, 99, 99]⟩) := ⟨((sa 3 (by decide))).choose_spec.2.1, la⟩
  obtain ⟨tv, _, _, q2, qs⟩ := sb 5 (by decide)
  obtain ⟨tb5a, tb5c, rfl⟩ := qs.form
  have ctb5 : CAt (w10.alloc (.cells #[.int .i64 3, .slice x_r 1 x_rc, .slice (some ⟨px, ox, none⟩) 6 x_sc, .slice x_f 6 x_fc, .slice x_n 1 x_nc] 26)) ⟨pb, ob + 17, none⟩ (.slice tb5a 4 tb5c) := ⟨q2, lb⟩
  have Stb5 : Sl (w10.alloc (.cells #[.int .i64 3, .slice x_r 1 x_rc, .slice (some ⟨px, ox, none⟩) 6 x_sc, .slice x_f 6 x_fc, .slice x_n 1 x_nc] 26)) (.slice tb5a 4 tb5c) [6, 0, -1, 1] := qs
  clear q2 qs
  have cc3 : CAt (w10.alloc (.cells #[.int .i64 3, .slice x_r 1 x_rc, .slice (some ⟨px, ox, none⟩) 6 x_sc, .slice x_f 6 x_fc, .slice x_n 1 x_nc] 26)) ⟨pc, oc + 9, none⟩ (.int .i64 0) := ⟨((sc 3 (by decide))).choose_spec.1, lc⟩
  obtain ⟨tv, _, _, q2, qs⟩ := sd 4 (by decide)
  obtain ⟨td4a, td4c, rfl⟩ := qs.form
  have ctd4 : CAt (w10.alloc (.cells #[.int .i64 3, .slice x_r 1 x_rc, .slice (some ⟨px, ox, none⟩) 6 x_sc, .slice x_f 6 x_fc, .slice x_n 1 x_nc] 26)) ⟨pd, od + 14, none⟩ (.slice td4a 4 td4c) := ⟨q2, ld⟩
  have Std4 : Sl (w10.alloc (.cells #[.int .i64 3, .slice x_r 1 x_rc, .slice (some ⟨px, ox, none⟩) 6 x_sc, .slice x_f 6 x_fc, .slice x_n 1 x_nc] 26)) (.slice td4a 4 td4c) [3, -1, 0, 0] := qs
  clear q2 qs
  obtain ⟨tv, _, _, q2, qs⟩ := sx 5 (by decide)
  obtain ⟨tx5a, tx5c, rfl⟩ := qs.form
  have ctx5 : CAt (w10.alloc (.cells #[.int .i64 3, .slice x_r 1 x_rc, .slice (some ⟨px, ox, none⟩) 6 x_sc, .slice x_f 6 x_fc, .slice x_n 1 x_nc] 26)) ⟨px, ox + 17, none⟩ (.slice tx5a 4 tx5c) := ⟨q2, lx⟩
  have Stx5 : Sl (w10.alloc (.cells #[.int .i64 3, .slice x_r 1 x_rc, .slice (some ⟨px, ox, none⟩) 6 x_sc, .slice x_f 6 x_fc, .slice x_n 1 x_nc] 26)) (.slice tx5a 4 tx5c) [1, 0, -1, 0] := qs
  clear q2 qs
  have cx4 : CAt (w10.alloc (.cells #[.int .i64 3, .slice x_r 1 x_rc, .slice (some ⟨px, ox, none⟩) 6 x_sc, .slice x_f 6 x_fc, .slice x_n 1 x_nc] 26)) ⟨px, ox + 12, none⟩ (.int .i64 0) := ⟨((sx 4 (by decide))).choose_spec.1, lx⟩
  have Rb := I_b.four.1
  have Fb := I_b.four.2.2.1
  have Rc := I_c.four.1
  have Rx := I_x.four.1
  clear I_a
  clear sa la
  clear I_b
  clear sb lb
  clear I_c
  clear sc lc
  clear I_d
  clear sd ld
  clear I_x
  clear sx lx
  have hnew := Sl_new (w10.alloc (.cells #[.int .i64 3, .slice x_r 1 x_rc, .slice (some ⟨px, ox, none⟩) 6 x_sc, .slice x_f 6 x_fc, .slice x_n 1 x_nc] 26)) [5, 4] 2 rfl (by decide)
  rw [show (w10.alloc (.cells #[.int .i64 3, .slice x_r 1 x_rc, .slice (some ⟨px, ox, none⟩) 6 x_sc, .slice x_f 6 x_fc, .slice x_n 1 x_nc] 26)).heap.size = w10.heap.size + 1 by simp] at hnew
  obtain ⟨a0, a1, a2, a3, a4⟩ := five mb_a
  obtain ⟨b0, b1, b2, b3, b4⟩ := five mb_b
  have q_ca3 := ca3.1
  have hh_mb_a := Hid_mkW mb_a
  have hh_mb_b := Hid_mkW mb_b
  have hh_mb_c := Hid_mkW mb_c
  have hh_mb_d := Hid_mkW mb_d
  have hh_mb_x := Hid_mkW mb_x
  have hh_ca3 := Hid_mkW ca3
  have hh_ctb5 := Hid_mkW ctb5
  have hh_Stb5 := Hid_mkW Stb5
  have hh_cc3 := Hid_mkW cc3
  have hh_ctd4 := Hid_mkW ctd4
  have hh_Std4 := Hid_mkW Std4
  have hh_ctx5 := Hid_mkW ctx5
  have hh_Stx5 := Hid_mkW Stx5
  have hh_cx4 := Hid_mkW cx4
  have hh_Rb := Hid_mkW Rb
  have hh_Fb := Hid_mkW Fb
  have hh_Rc := Hid_mkW Rc
  have hh_Rx := Hid_mkW Rx
  have hh_hB := Hid_mkW hB
  have hh_hnew := Hid_mkW hnew
  clear mb_a mb_b mb_c mb_d mb_x ca3 ctb5 Stb5 cc3 ctd4 Std4 ctx5 Stx5 cx4 Rb Fb Rc Rx hB hnew
  go_wp2_with fail
  clear a0 a1 a2 a3 a4 b0 b1 b2 b3 b4 q_ca3
  have mb_a := hh_mb_a.out
  have mb_b := hh_mb_b.out
  have mb_c := hh_mb_c.out
  have mb_d := hh_mb_d.out
  have mb_x := hh_mb_x.out
  have ca3 := hh_ca3.out
  have ctb5 := hh_ctb5.out
  have Stb5 := hh_Stb5.out
  have cc3 := hh_cc3.out
  have ctd4 := hh_ctd4.out
  have Std4 := hh_Std4.out
  have ctx5 := hh_ctx5.out
  have Stx5 := hh_Stx5.out
  have cx4 := hh_cx4.out
  have Rb := hh_Rb.out
  have Fb := hh_Fb.out
  have Rc := hh_Rc.out
  have Rx := hh_Rx.out
  have hB := hh_hB.out
  have hnew := hh_hnew.out
  clear hh_mb_a hh_mb_b hh_mb_c hh_mb_d hh_mb_x hh_ca3 hh_ctb5 hh_Stb5 hh_cc3 hh_ctd4 hh_Std4 hh_ctx5 hh_Stx5 hh_cx4 hh_Rb hh_Fb hh_Rc hh_Rx hh_hB hh_hnew
  replace mb_a := cells_alloc mb_a (.cells #[.int .i64 5, .int .i64 4] 3)
  replace mb_b := cells_alloc mb_b (.cells #[.int .i64 5, .int .i64 4] 3)
  replace mb_c := cells_alloc mb_c (.cells #[.int .i64 5, .int .i64 4] 3)
  replace mb_d := cells_alloc mb_d (.cells #[.int .i64 5, .int .i64 4] 3)
  replace mb_x := cells_alloc mb_x (.cells #[.int .i64 5, .int .i64 4] 3)
  have ba : Below (w10.alloc (.cells #[.int .i64 3, .slice x_r 1 x_rc, .slice (some ⟨px, ox, none⟩) 6 x_sc, .slice x_f 6 x_fc, .slice x_n 1 x_nc] 26)).heap.size (w10.alloc (.cells #[.int .i64 3, .slice x_r 1 x_rc, .slice (some ⟨px, ox, none⟩) 6 x_sc, .slice x_f 6 x_fc, .slice x_n 1 x_nc] 26)) ((w10.alloc (.cells #[.int .i64 3, .slice x_r 1 x_rc, .slice (some ⟨px, ox, none⟩) 6 x_sc, .slice x_f 6 x_fc, .slice x_n 1 x_nc] 26)).alloc (.cells #[.int .i64 5, .int .i64 4] 3)) := (Below.refl _ _).alloc (Nat.le_refl _) _
  replace hB := Below.on hB ba
  replace ca3 := ca3.below ba
  replace ctb5 := ctb5.below ba
  replace Stb5 := Stb5.below ba
  replace cc3 := cc3.below ba
  replace ctd4 := ctd4.below ba
  replace Std4 := Std4.below ba
  replace ctx5 := ctx5.below ba
  replace Stx5 := Stx5.below ba
  replace cx4 := cx4.below ba
  replace Rb := Rb.below ba
  replace Fb := Fb.below ba
  replace Rc := Rc.below ba
  replace Rx := Rx.below ba
  clear ba
  refine (same_any Rb hnew).mono ?_
  rintro e w11 ⟨rfl, bb⟩
  clear hnew
  replace mb_a := cells_below mb_a bb (Array.getElem?_eq_some_iff.1 mb_a).1
  replace mb_b := cells_below mb_b bb (Array.getElem?_eq_some_iff.1 mb_b).1
  replace mb_c := cells_below mb_c bb (Array.getElem?_eq_some_iff.1 mb_c).1
  replace mb_d := cells_below mb_d bb (Array.getElem?_eq_some_iff.1 mb_d).1
  replace mb_x := cells_below mb_x bb (Array.getElem?_eq_some_iff.1 mb_x).1
  replace hB := Below.on hB bb
  replace ca3 := ca3.below bb
  replace ctb5 := ctb5.below bb
  replace Stb5 := Stb5.below bb
  replace cc3 := cc3.below bb
  replace ctd4 := ctd4.below bb
  replace Std4 := Std4.below bb
  replace ctx5 := ctx5.below bb
  replace Stx5 := Stx5.below bb
  replace cx4 := cx4.below bb
  replace Rb := Rb.below bb
  replace Fb := Fb.below bb
  replace Rc := Rc.below bb
  replace Rx := Rx.below bb
  clear bb
  clear Rb
  clear mb_a
  clear ca3
  have hnew := Sl_new w11 [6, 0, -1, 1] 4 rfl (by decide)
  obtain ⟨b0, b1, b2, b3, b4⟩ := five mb_b
  have q_ctb5 := ctb5.1
  have hh_mb_b := Hid_mkW mb_b
  have hh_mb_c := Hid_mkW mb_c
  have hh_mb_d := Hid_mkW mb_d
  have hh_mb_x := Hid_mkW mb_x
  have hh_ctb5 := Hid_mkW ctb5
  have hh_Stb5 := Hid_mkW Stb5
  have hh_cc3 := Hid_mkW cc3
  have hh_ctd4 := Hid_mkW ctd4
  have hh_Std4 := Hid_mkW Std4
  have hh_ctx5 := Hid_mkW ctx5
  have hh_Stx5 := Hid_mkW Stx5
  have hh_cx4 := Hid_mkW cx4
  have hh_Fb := Hid_mkW Fb
  have hh_Rc := Hid_mkW Rc
  have hh_Rx := Hid_mkW Rx
  have hh_hB := Hid_mkW hB
  have hh_hnew := Hid_mkW hnew
  clear mb_b mb_c mb_d mb_x ctb5 Stb5 cc3 ctd4 Std4 ctx5 Stx5 cx4 Fb Rc Rx hB hnew
  go_wp2_with fail
  clear b0 b1 b2 b3 b4 q_ctb5
  have mb_b := hh_mb_b.out
  have mb_c := hh_mb_c.out
  have mb_d := hh_mb_d.out
  have mb_x := hh_mb_x.out
  have ctb5 := hh_ctb5.out
  have Stb5 := hh_Stb5.out
  have cc3 := hh_cc3.out
  have ctd4 := hh_ctd4.out
  have Std4 := hh_Std4.out
  have ctx5 := hh_ctx5.out
  have Stx5 := hh_Stx5.out
  have cx4 := hh_cx4.out
  have Fb := hh_Fb.out
  have Rc := hh_Rc.out
  have Rx := hh_Rx.out
  have hB := hh_hB.out
  have hnew := hh_hnew.out
  clear hh_mb_b hh_mb_c hh_mb_d hh_mb_x hh_ctb5 hh_Stb5 hh_cc3 hh_ctd4 hh_Std4 hh_ctx5 hh_Stx5 hh_cx4 hh_Fb hh_Rc hh_Rx hh_hB hh_hnew
  replace mb_b := cells_alloc mb_b (.cells #[.int .i64 6, .int .i64 0, .int .i64 (-1), .int .i64 1] 3)
  replace mb_c := cells_alloc mb_c (.cells #[.int .i64 6, .int .i64 0, .int .i64 (-1), .int .i64 1] 3)
  replace mb_d := cells_alloc mb_d (.cells #[.int .i64 6, .int .i64 0, .int .i64 (-1), .int .i64 1] 3)
  replace mb_x := cells_alloc mb_x (.cells #[.int .i64 6, .int .i64 0, .int .i64 (-1), .int .i64 1] 3)
  have ba : Below w11.heap.size w11 (w11.alloc (.cells #[.int .i64 6, .int .i64 0, .int .i64 (-1), .int .i64 1] 3)) := (Below.refl _ _).alloc (Nat.le_refl _) _
  replace hB := Below.on hB ba
  replace ctb5 := ctb5.below ba
  replace Stb5 := Stb5.below ba
  replace cc3 := cc3.below ba
  replace ctd4 := ctd4.below ba
  replace Std4 := Std4.below ba
  replace ctx5 := ctx5.below ba
  replace Stx5 := Stx5.below ba
  replace cx4 := cx4.below ba
  replace Fb := Fb.below ba
  replace Rc := Rc.below ba
  replace Rx := Rx.below ba
  clear ba
  refine (same_any Stb5 hnew).mono ?_
  rintro e w12 ⟨rfl, bb⟩
  clear hnew
  replace mb_b := cells_below mb_b bb (Array.getElem?_eq_some_iff.1 mb_b).1
  replace mb_c := cells_below mb_c bb (Array.getElem?_eq_some_iff.1 mb_c).1
  replace mb_d := cells_below mb_d bb (Array.getElem?_eq_some_iff.1 mb_d).1
  replace mb_x := cells_below mb_x bb (Array.getElem?_eq_some_iff.1 mb_x).1
  replace hB := Below.on hB bb
  replace ctb5 := ctb5.below bb
  replace Stb5 := Stb5.below bb
  replace cc3 := cc3.below bb
  replace ctd4 := ctd4.below bb
  replace Std4 := Std4.below bb
  replace ctx5 := ctx5.below bb
  replace Stx5 := Stx5.below bb
  replace cx4 := cx4.below bb
  replace Fb := Fb.below bb
  replace Rc := Rc.below bb
  replace Rx := Rx.below bb
  clear bb
  clear Stb5
  clear ctb5
  have hnew := Sl_new w12 [0, 3, 1, 1, 1, 1, 1] 7 rfl (by decide)
  obtain ⟨b0, b1, b2, b3, b4⟩ := five mb_b
  have hh_mb_b := Hid_mkW mb_b
  have hh_mb_c := Hid_mkW mb_c
  have hh_mb_d := Hid_mkW mb_d
  have hh_mb_x := Hid_mkW mb_x
  have hh_cc3 := Hid_mkW cc3
  have hh_ctd4 := Hid_mkW ctd4
  have hh_Std4 := Hid_mkW Std4
  have hh_ctx5 := Hid_mkW ctx5
  have hh_Stx5 := Hid_mkW Stx5
  have hh_cx4 := Hid_mkW cx4
  have hh_Fb := Hid_mkW Fb
  have hh_Rc := Hid_mkW Rc
  have hh_Rx := Hid_mkW Rx
  have hh_hB := Hid_mkW hB
  have hh_hnew := Hid_mkW hnew
  clear mb_b mb_c mb_d mb_x cc3 ctd4 Std4 ctx5 Stx5 cx4 Fb Rc Rx hB hnew
  go_wp2_with fail
  clear b0 b1 b2 b3 b4
  have mb_b := hh_mb_b.out
  have mb_c := hh_mb_c.out
  have mb_d := hh_mb_d.out
  have mb_x := hh_mb_x.out
  have cc3 := hh_cc3.out
  have ctd4 := hh_ctd4.out
  have Std4 := hh_Std4.out
  have ctx5 := hh_ctx5.out
  have Stx5 := hh_Stx5.out
  have cx4 := hh_cx4.out
  have Fb := hh_Fb.out
  have Rc := hh_Rc.out
  have Rx := hh_Rx.out
  have hB := hh_hB.out
  have hnew := hh_hnew.out
  clear hh_mb_b hh_mb_c hh_mb_d hh_mb_x hh_cc3 hh_ctd4 hh_Std4 hh_ctx5 hh_Stx5 hh_cx4 hh_Fb hh_Rc hh_Rx hh_hB hh_hnew
  replace mb_b := cells_alloc mb_b (.cells #[.int .i64 0, .int .i64 3, .int .i64 1, .int .i64 1, .int .i64 1, .int .i64 1, .int .i64 1] 3)
  replace mb_c := cells_alloc mb_c (.cells #[.int .i64 0, .int .i64 3, .int .i64 1, .int .i64 1, .int .i64 1, .int .i64 1, .int .i64 1] 3)
  replace mb_d := cells_alloc mb_d (.cells #[.int .i64 0, .int .i64 3, .int .i64 1, .int .i64 1, .int .i64 1, .int .i64 1, .int .i64 1] 3)
  replace mb_x := cells_alloc mb_x (.cells #[.int .i64 0, .int .i64 3, .int .i64 1, .int .i64 1, .int .i64 1, .int .i64 1, .int .i64 1] 3)
  have ba : Below w12.heap.size w12 (w12.alloc (.cells #[.int .i64 0, .int .i64 3, .int .i64 1, .int .i64 1, .int .i64 1, .int .i64 1, .int .i64 1] 3)) := (Below.refl _ _).alloc (Nat.le_refl _) _
  replace hB := Below.on hB ba
  replace cc3 := cc3.below ba
  replace ctd4 := ctd4.below ba
  replace Std4 := Std4.below ba
  replace ctx5 := ctx5.below ba
  replace Stx5 := Stx5.below ba
  replace cx4 := cx4.below ba
  replace Fb := Fb.below ba
  replace Rc := Rc.below ba
  replace Rx := Rx.below ba
  clear ba
  refine (same_any Fb hnew).mono ?_
  rintro e w13 ⟨rfl, bb⟩
  clear hnew
  replace mb_b := cells_below mb_b bb (Array.getElem?_eq_some_iff.1 mb_b).1
  replace mb_c := cells_below mb_c bb (Array.getElem?_eq_some_iff.1 mb_c).1
  replace mb_d := cells_below mb_d bb (Array.getElem?_eq_some_iff.1 mb_d).1
  replace mb_x := cells_below mb_x bb (Array.getElem?_eq_some_iff.1 mb_x).1
  replace hB := Below.on hB bb
  replace cc3 := cc3.below bb
  replace ctd4 := ctd4.below bb
  replace Std4 := Std4.below bb
  replace ctx5 := ctx5.below bb
  replace Stx5 := Stx5.below bb
  replace cx4 := cx4.below bb
  replace Fb := Fb.below bb
  replace Rc := Rc.below bb
  replace Rx := Rx.below bb
  clear bb
  clear Fb
  clear mb_b
  have hnew := Sl_new w13 [2, 0] 2 rfl (by decide)
  obtain ⟨c0, c1, c2, c3, c4⟩ := five mb_c
  have hh_mb_c := Hid_mkW mb_c
  have hh_mb_d := Hid_mkW mb_d
  have hh_mb_x := Hid_mkW mb_x
  have hh_cc3 := Hid_mkW cc3
  have hh_ctd4 := Hid_mkW ctd4
  have hh_Std4 := Hid_mkW Std4
  have hh_ctx5 := Hid_mkW ctx5
  have hh_Stx5 := Hid_mkW Stx5
  have hh_cx4 := Hid_mkW cx4
  have hh_Rc := Hid_mkW Rc
  have hh_Rx := Hid_mkW Rx
  have hh_hB := Hid_mkW hB
  have hh_hnew := Hid_mkW hnew
  clear mb_c mb_d mb_x cc3 ctd4 Std4 ctx5 Stx5 cx4 Rc Rx hB hnew
  go_wp2_with fail
  clear c0 c1 c2 c3 c4
  have mb_c := hh_mb_c.out
  have mb_d := hh_mb_d.out
  have mb_x := hh_mb_x.out
  have cc3 := hh_cc3.out
  have ctd4 := hh_ctd4.out
  have Std4 := hh_Std4.out
  have ctx5 := hh_ctx5.out
  have Stx5 := hh_Stx5.out
  have cx4 := hh_cx4.out
  have Rc := hh_Rc.out
  have Rx := hh_Rx.out
  have hB := hh_hB.out
  have hnew := hh_hnew.out
  clear hh_mb_c hh_mb_d hh_mb_x hh_cc3 hh_ctd4 hh_Std4 hh_ctx5 hh_Stx5 hh_cx4 hh_Rc hh_Rx hh_hB hh_hnew
  replace mb_c := cells_alloc mb_c (.cells #[.int .i64 2, .int .i64 0] 3)
  replace mb_d := cells_alloc mb_d (.cells #[.int .i64 2, .int .i64 0] 3)
  replace mb_x := cells_alloc mb_x (.cells #[.int .i64 2, .int .i64 0] 3)
  have ba : Below w13.heap.size w13 (w13.alloc (.cells #[.int .i64 2, .int .i64 0] 3)) := (Below.refl _ _).alloc (Nat.le_refl _) _
  replace hB := Below.on hB ba
  replace cc3 := cc3.below ba
  replace ctd4 := ctd4.below ba
  replace Std4 := Std4.below ba
  replace ctx5 := ctx5.below ba
  replace Stx5 := Stx5.below ba
  replace cx4 := cx4.below ba
  replace Rc := Rc.below ba
  replace Rx := Rx.below ba
  clear ba
  refine (same_any Rc hnew).mono ?_
  rintro e w14 ⟨rfl, bb⟩
  clear hnew
  replace mb_c := cells_below mb_c bb (Array.getElem?_eq_some_iff.1 mb_c).1
  replace mb_d := cells_below mb_d bb (Array.getElem?_eq_some_iff.1 mb_d).1
  replace mb_x := cells_below mb_x bb (Array.getElem?_eq_some_iff.1 mb_x).1
  replace hB := Below.on hB bb
  replace cc3 := cc3.below bb
  replace ctd4 := ctd4.below bb
  replace Std4 := Std4.below bb
  replace ctx5 := ctx5.below bb
  replace Stx5 := Stx5.below bb
  replace cx4 := cx4.below bb
  replace Rc := Rc.below bb
  replace Rx := Rx.below bb
  clear bb
  clear Rc
  have hnew := Sl_new w14 [3, -1, 0, 0] 4 rfl (by decide)
  obtain ⟨c0, c1, c2, c3, c4⟩ := five mb_c
  obtain ⟨d0, d1, d2, d3, d4⟩ := five mb_d
  have q_cc3 := cc3.1
  have q_ctd4 := ctd4.1
  have hh_mb_c := Hid_mkW mb_c
  have hh_mb_d := Hid_mkW mb_d
  have hh_mb_x := Hid_mkW mb_x
  have hh_cc3 := Hid_mkW cc3
  have hh_ctd4 := Hid_mkW ctd4
  have hh_Std4 := Hid_mkW Std4
  have hh_ctx5 := Hid_mkW ctx5
  have hh_Stx5 := Hid_mkW Stx5
  have hh_cx4 := Hid_mkW cx4
  have hh_Rx := Hid_mkW Rx
  have hh_hB := Hid_mkW hB
  have hh_hnew := Hid_mkW hnew
  clear mb_c mb_d mb_x cc3 ctd4 Std4 ctx5 Stx5 cx4 Rx hB hnew
  go_wp2_with fail
  clear c0 c1 c2 c3 c4 d0 d1 d2 d3 d4 q_cc3 q_ctd4
  have mb_c := hh_mb_c.out
  have mb_d := hh_mb_d.out
  have mb_x := hh_mb_x.out
  have cc3 := hh_cc3.out
  have ctd4 := hh_ctd4.out
  have Std4 := hh_Std4.out
  have ctx5 := hh_ctx5.out
  have Stx5 := hh_Stx5.out
  have cx4 := hh_cx4.out
  have Rx := hh_Rx.out
  have hB := hh_hB.out
  have hnew := hh_hnew.out
  clear hh_mb_c hh_mb_d hh_mb_x hh_cc3 hh_ctd4 hh_Std4 hh_ctx5 hh_Stx5 hh_cx4 hh_Rx hh_hB hh_hnew
  replace mb_c := cells_alloc mb_c (.cells #[.int .i64 3, .int .i64 (-1), .int .i64 0, .int .i64 0] 3)
  replace mb_d := cells_alloc mb_d (.cells #[.int .i64 3, .int .i64 (-1), .int .i64 0, .int .i64 0] 3)
  replace mb_x := cells_alloc mb_x (.cells #[.int .i64 3, .int .i64 (-1), .int .i64 0, .int .i64 0] 3)
  have ba : Below w14.heap.size w14 (w14.alloc (.cells #[.int .i64 3, .int .i64 (-1), .int .i64 0, .int .i64 0] 3)) := (Below.refl _ _).alloc (Nat.le_refl _) _
  replace hB := Below.on hB ba
  replace cc3 := cc3.below ba
  replace ctd4 := ctd4.below ba
  replace Std4 := Std4.below ba
  replace ctx5 := ctx5.below ba
  replace Stx5 := Stx5.below ba
  replace cx4 := cx4.below ba
  replace Rx := Rx.below ba
  clear ba
  refine (same_any Std4 hnew).mono ?_
  rintro e w15 ⟨rfl, bb⟩
  clear hnew
  replace mb_c := cells_below mb_c bb (Array.getElem?_eq_some_iff.1 mb_c).1
  replace mb_d := cells_below mb_d bb (Array.getElem?_eq_some_iff.1 mb_d).1
  replace mb_x := cells_below mb_x bb (Array.getElem?_eq_some_iff.1 mb_x).1
  replace hB := Below.on hB bb
  replace cc3 := cc3.below bb
  replace ctd4 := ctd4.below bb
  replace Std4 := Std4.below bb
  replace ctx5 := ctx5.below bb
  replace Stx5 := Stx5.below bb
  replace cx4 := cx4.below bb
  replace Rx := Rx.below bb
  clear bb
  clear Std4
  clear mb_c
  clear cc3
  clear mb_d
  clear ctd4
  have hnew := Sl_new w15 [5] 1 rfl (by decide)
  obtain ⟨x0, x1, x2, x3, x4⟩ := five mb_x
  have hh_mb_x := Hid_mkW mb_x
  have hh_ctx5 := Hid_mkW ctx5
  have hh_Stx5 := Hid_mkW Stx5
  have hh_cx4 := Hid_mkW cx4
  have hh_Rx := Hid_mkW Rx
  have hh_hB := Hid_mkW hB
  have hh_hnew := Hid_mkW hnew
  clear mb_x ctx5 Stx5 cx4 Rx hB hnew
  go_wp2_with fail
  clear x0 x1 x2 x3 x4
  have mb_x := hh_mb_x.out
  have ctx5 := hh_ctx5.out
  have Stx5 := hh_Stx5.out
  have cx4 := hh_cx4.out
  have Rx := hh_Rx.out
  have hB := hh_hB.out
  have hnew := hh_hnew.out
  clear hh_mb_x hh_ctx5 hh_Stx5 hh_cx4 hh_Rx hh_hB hh_hnew
  replace mb_x := cells_alloc mb_x (.cells #[.int .i64 5] 3)
  have ba : Below w15.heap.size w15 (w15.alloc (.cells #[.int .i64 5] 3)) := (Below.refl _ _).alloc (Nat.le_refl _) _
  replace hB := Below.on hB ba
  replace ctx5 := ctx5.below ba
  replace Stx5 := Stx5.below ba
  replace cx4 := cx4.below ba
  replace Rx := Rx.below ba
  clear ba
  refine (same_any Rx hnew).mono ?_
  rintro e w16 ⟨rfl, bb⟩
  clear hnew
  replace mb_x := cells_below mb_x bb (Array.getElem?_eq_some_iff.1 mb_x).1
  replace hB := Below.on hB bb
  replace ctx5 := ctx5.below bb
  replace Stx5 := Stx5.below bb
  replace cx4 := cx4.below bb
  replace Rx := Rx.below bb
  clear bb
  clear Rx
  have hnew := Sl_new w16 [1, 0, -1, 0] 4 rfl (by decide)
  obtain ⟨x0, x1, x2, x3, x4⟩ := five mb_x
  have q_ctx5 := ctx5.1
  have hh_mb_x := Hid_mkW mb_x
  have hh_ctx5 := Hid_mkW ctx5
  have hh_Stx5 := Hid_mkW Stx5
  have hh_cx4 := Hid_mkW cx4
  have hh_hB := Hid_mkW hB
  have hh_hnew := Hid_mkW hnew
  clear mb_x ctx5 Stx5 cx4 hB hnew
  go_wp2_with fail
  clear x0 x1 x2 x3 x4 q_ctx5
  have mb_x := hh_mb_x.out
  have ctx5 := hh_ctx5.out
  have Stx5 := hh_Stx5.out
  have cx4 := hh_cx4.out
  have hB := hh_hB.out
  have hnew := hh_hnew.out
  clear hh_mb_x hh_ctx5 hh_Stx5 hh_cx4 hh_hB hh_hnew
  replace mb_x := cells_alloc mb_x (.cells #[.int .i64 1, .int .i64 0, .int .i64 (-1), .int .i64 0] 3)
  have ba : Below w16.heap.size w16 (w16.alloc (.cells #[.int .i64 1, .int .i64 0, .int .i64 (-1), .int .i64 0] 3)) := (Below.refl _ _).alloc (Nat.le_refl _) _
  replace hB := Below.on hB ba
  replace ctx5 := ctx5.below ba
  replace Stx5 := Stx5.below ba
  replace cx4 := cx4.below ba
  clear ba
  refine (same_any Stx5 hnew).mono ?_
  rintro e w17 ⟨rfl, bb⟩
  clear hnew
  replace mb_x := cells_below mb_x bb (Array.getElem?_eq_some_iff.1 mb_x).1
  replace hB := Below.on hB bb
  replace ctx5 := ctx5.below bb
  replace Stx5 := Stx5.below bb
  replace cx4 := cx4.below bb
  clear bb
  clear Stx5
  clear ctx5
  obtain ⟨x0, x1, x2, x3, x4⟩ := five mb_x
  have q_cx4 := cx4.1
  have hh_mb_x := Hid_mkW mb_x
  have hh_cx4 := Hid_mkW cx4
  have hh_hB := Hid_mkW hB
  clear mb_x cx4 hB
  go_wp2_with fail
  go_ret
  have hB := hh_hB.out
  exact ⟨rfl, hB⟩
end Go.Proofs.Ytehleeibgkpjmac
