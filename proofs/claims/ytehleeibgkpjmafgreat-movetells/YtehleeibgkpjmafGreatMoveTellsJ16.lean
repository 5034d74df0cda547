/- Texts joined: WoD, WoE. -/
import Derived.Test.YtehleeibgkpjmafGreatMoveTellsJ15
/- Contract of the document's WriteOf: the table elsewhere, no slot for the page. -/
namespace Go.Proofs.YtehleeibgkpjmafGreat
open Go.RowKit Go.Shelf
set_option maxRecDepth 20000
set_option linter.unusedVariables false
set_option linter.unusedSimpArgs false

set_option maxHeartbeats 16000000 in
theorem wo_nf (rb ro rc : Nat) (sa : Option Addr) (sc : Nat) (fb fo fc : Nat) (na : Option Addr) (nc : Nat) (m : ImgD) (n : Nat) (page : ByteArray) (w : World) (h : Img w (.agg #[.int .i64 m.guest, .slice (some ⟨rb, ro, none⟩) m.root.length rc, .slice sa m.slots.length sc, .slice (some ⟨fb, fo, none⟩) m.refs.length fc, .slice na m.snaps.length nc]) m) (hrc : ∀ j, j < m.root.length → w.cell? ⟨rb, ro + j, none⟩ = some (.int .i64 (m.root.getD j 0))) (hrl : rb < w.heap.size) (hfc : ∀ j, j < m.refs.length → w.cell? ⟨fb, fo + j, none⟩ = some (.int .i64 (m.refs.getD j 0))) (hfl : fb < w.heap.size) (hC : checkE m = 0) (hn : (n : Int) < m.guest) (hp : page.size = 4) (t : Nat) (ht : m.root.getD (n / 4) 0 = (t : Int)) (e : Int) (he : lookV m m.root n = e) (tn dn : Nat) (htn : tabN m (n / 4) = tn) (M1 : ImgD) (hM1 : wo1 m n = M1) (hnot : 0 < e → 1 ≤ t) (hmany : 1 ≤ t → 1 < m.refs.getD t 0) (HG : Hid (grabN m.slots = tn ∧ 1 ≤ m.slots.length ∧ m.slots.length ≤ 40 ∧ tn < 40 ∧ 1 ≤ tn ∧ tn ≤ m.slots.length)) (HT : Hid (1 ≤ M1.slots.length ∧ M1.slots.length ≤ 40 ∧ (if grabN M1.slots = 40 then (0 : Int) else grabN M1.slots) = 0)) :
    Calls Tryz.prog 35 #[.agg #[.int .i64 m.guest, .slice (some ⟨rb, ro, none⟩) m.root.length rc, .slice sa m.slots.length sc, .slice (some ⟨fb, fo, none⟩) m.refs.length fc, .slice na m.snaps.length nc], .int .i64 (n : Int), .string page] w (AnsJ w imgZ 7) := by
  have b0 : Below w.heap.size w ((w.alloc (.cells #[.int .i64 m.guest, .slice (some ⟨rb, ro, none⟩) m.root.length rc, .slice sa m.slots.length sc, .slice (some ⟨fb, fo, none⟩) m.refs.length fc, .slice na m.snaps.length nc] 27)).alloc (.cells #[.int .i64 0, .slice none 0 0, .slice none 0 0, .slice none 0 0, .slice none 0 0] 27)) := ((Below.refl _ _).alloc (Nat.le_refl _) _).alloc (by simp) _
  have m0 : ((w.alloc (.cells #[.int .i64 m.guest, .slice (some ⟨rb, ro, none⟩) m.root.length rc, .slice sa m.slots.length sc, .slice (some ⟨fb, fo, none⟩) m.refs.length fc, .slice na m.snaps.length nc] 27)).alloc (.cells #[.int .i64 0, .slice none 0 0, .slice none 0 0, .slice none 0 0, .slice none 0 0] 27)).heap[w.heap.size]? = some (.cells #[.int .i64 m.guest, .slice (some ⟨rb, ro, none⟩) m.root.length rc, .slice sa m.slots.length sc, .slice (some ⟨fb, fo, none⟩) m.refs.length fc, .slice na m.snaps.length nc] 27) := cells_alloc (World.alloc_heap_new _ _) _
  have m1 : ((w.alloc (.cells #[.int .i64 m.guest, .slice (some ⟨rb, ro, none⟩) m.root.length rc, .slice sa m.slots.length sc, .slice (some ⟨fb, fo, none⟩) m.refs.length fc, .slice na m.snaps.length nc] 27)).alloc (.cells #[.int .i64 0, .slice none 0 0, .slice none 0 0, .slice none 0 0, .slice none 0 0] 27)).heap[w.heap.size + 1]? = some (.cells #[.int .i64 0, .slice none 0 0, .slice none 0 0, .slice none 0 0, .slice none 0 0] 27) := by have := World.alloc_heap_new (w.alloc (.cells #[.int .i64 m.guest, .slice (some ⟨rb, ro, none⟩) m.root.length rc, .slice sa m.slots.length sc, .slice (some ⟨fb, fo, none⟩) m.refs.length fc, .slice na m.snaps.length nc] 27)) (.cells #[.int .i64 0, .slice none 0 0, .slice none 0 0, .slice none 0 0, .slice none 0 0] 27); simpa using this
  have hsz : w.heap.size + 1 < ((w.alloc (.cells #[.int .i64 m.guest, .slice (some ⟨rb, ro, none⟩) m.root.length rc, .slice sa m.slots.length sc, .slice (some ⟨fb, fo, none⟩) m.refs.length fc, .slice na m.snaps.length nc] 27)).alloc (.cells #[.int .i64 0, .slice none 0 0, .slice none 0 0, .slice none 0 0, .slice none 0 0] 27)).heap.size := by simp
  have hs := checkE_shape hC
  have hgt := guest_ok hs
  have hrt := root_ok hs
  have hr : n / 4 < m.root.length := by omega
  have htl : t < m.slots.length := by obtain ⟨t', ht', h'⟩ := root_nat hs hr; omega
  have hrf : m.refs.length = m.slots.length := (shapeE_zero hs).2.2.1
  have hlen : (tableO m (n / 4)).length = 4 := ckE_len (tableO_ok hs hr).1
  have I0 := h.below b0
  have hlk := lookErr_is I0 (n : Int) (lookE_of hC hn)
  have e4 : ((n / 4 : Nat) : Int) = (n : Int) / 4 := by omega
  have hq1 : ((n : Int) / 4).toNat = n / 4 := by omega
  have hq2 : ((n : Int) % 4).toNat = n % 4 := by omega
  have hri : (n : Int) / 4 < (m.root.length : Int) := by omega
  have h4 : n % 4 < 4 := by omega
  have h4i : (n : Int) % 4 < 4 := by omega
  have h16 : n < 16 := by omega
  have h0q : ¬ (n : Int) / 4 < 0 := by omega
  have h0r : ¬ (n : Int) % 4 < 0 := by omega
  have h0a : 0 ≤ (n : Int) / 4 := by omega
  have h0b : 0 ≤ (n : Int) % 4 := by omega
  have hpz : ((page.size : Int) != 4) = false := by rw [hp]; rfl
  have HR0 : Hid (((w.alloc (.cells #[.int .i64 m.guest, .slice (some ⟨rb, ro, none⟩) m.root.length rc, .slice sa m.slots.length sc, .slice (some ⟨fb, fo, none⟩) m.refs.length fc, .slice na m.snaps.length nc] 27)).alloc (.cells #[.int .i64 0, .slice none 0 0, .slice none 0 0, .slice none 0 0, .slice none 0 0] 27)).cell? ⟨rb, ro + n / 4, none⟩ = some (.int .i64 (t : Int)) ∧ rb < ((w.alloc (.cells #[.int .i64 m.guest, .slice (some ⟨rb, ro, none⟩) m.root.length rc, .slice sa m.slots.length sc, .slice (some ⟨fb, fo, none⟩) m.refs.length fc, .slice na m.snaps.length nc] 27)).alloc (.cells #[.int .i64 0, .slice none 0 0, .slice none 0 0, .slice none 0 0, .slice none 0 0] 27)).heap.size) := ⟨by rw [← ht]; exact (b0.cell (p := ⟨rb, ro + n / 4, none⟩) hrl).trans (hrc (n / 4) hr), Nat.lt_of_lt_of_le hrl b0.size⟩
  have HF0 : Hid (∀ j, j < m.refs.length → ((w.alloc (.cells #[.int .i64 m.guest, .slice (some ⟨rb, ro, none⟩) m.root.length rc, .slice sa m.slots.length sc, .slice (some ⟨fb, fo, none⟩) m.refs.length fc, .slice na m.snaps.length nc] 27)).alloc (.cells #[.int .i64 0, .slice none 0 0, .slice none 0 0, .slice none 0 0, .slice none 0 0] 27)).cell? ⟨fb, fo + j, none⟩ = some (.int .i64 (m.refs.getD j 0)) ∧ fb < ((w.alloc (.cells #[.int .i64 m.guest, .slice (some ⟨rb, ro, none⟩) m.root.length rc, .slice sa m.slots.length sc, .slice (some ⟨fb, fo, none⟩) m.refs.length fc, .slice na m.snaps.length nc] 27)).alloc (.cells #[.int .i64 0, .slice none 0 0, .slice none 0 0, .slice none 0 0, .slice none 0 0] 27)).heap.size) := fun j hj => ⟨(b0.cell (p := ⟨fb, fo + j, none⟩) hfl).trans (hfc j hj), Nat.lt_of_lt_of_le hfl b0.size⟩
  have HP : Hid (checkE m = 0 ∧ shapeE m = 0 ∧ m.root.getD (n / 4) 0 = (t : Int) ∧ lookV m m.root n = e ∧ (n : Int) < m.guest ∧ (tableO m (n / 4)).length = 4 ∧ m.refs.length = m.slots.length ∧ page.size = 4) := ⟨hC, hs, ht, he, hn, hlen, hrf, hp⟩
  clear h hrc hrl hfc hfl hC hs hgt hrt hn ht he hlen hrf hp
  have HM1 : Hid (wo1 m n = M1 ∧ tabN m (n / 4) = tn) := ⟨hM1, htn⟩
  clear hM1 htn
  go_enter Tryz.func35, Tryz.ntmps35
  obtain ⟨c0, c1, c2, c3, c4⟩ := five m0
  go_wp2_with (go_at_call 63; refine hlk.mono ?_; rintro e1 w1 ⟨rfl, b1⟩)
  clear c0 c1 c2 c3 c4
  have hz1 : w.heap.size + 1 < w1.heap.size := Nat.lt_of_lt_of_le hsz b1.size
  have n0 := cells_below m0 b1 (by omega)
  have n1 := cells_below m1 b1 hsz
  have I1 := I0.below b1
  have bw : Below w.heap.size w w1 := Below.on b0 b1
  have cR : w1.cell? ⟨rb, ro + n / 4, none⟩ = some (.int .i64 (t : Int)) := (b1.cell (p := ⟨rb, ro + n / 4, none⟩) HR0.out.2).trans HR0.out.1
  have rl1 : rb < w1.heap.size := Nat.lt_of_lt_of_le HR0.out.2 b1.size
  have HF : Hid (∀ j, j < m.refs.length → w1.cell? ⟨fb, fo + j, none⟩ = some (.int .i64 (m.refs.getD j 0)) ∧ fb < w1.heap.size) := fun j hj => ⟨(b1.cell (p := ⟨fb, fo + j, none⟩) (HF0.out j hj).2).trans (HF0.out j hj).1, Nat.lt_of_lt_of_le (HF0.out j hj).2 b1.size⟩
  have HLk : Hid (∀ W, Below w1.heap.size w1 W → Calls Tryz.prog 50 #[.agg #[.int .i64 m.guest, .slice (some ⟨rb, ro, none⟩) m.root.length rc, .slice sa m.slots.length sc, .slice (some ⟨fb, fo, none⟩) m.refs.length fc, .slice na m.snaps.length nc], .int .i64 (n : Int)] W fun r w' => r = .returned (.int .i64 e) ∧ Below W.heap.size W w') := fun W hW => lookOf_is (I1.below hW) (n : Int) (lookE_of HP.out.1 HP.out.2.2.2.2.1) (by rw [Int.toNat_natCast]; exact HP.out.2.2.2.1)
  have HOw : Hid (∀ W, Below w1.heap.size w1 W → Calls Tryz.prog 64 #[.agg #[.int .i64 m.guest, .slice (some ⟨rb, ro, none⟩) m.root.length rc, .slice sa m.slots.length sc, .slice (some ⟨fb, fo, none⟩) m.refs.length fc, .slice na m.snaps.length nc]] W fun r w' => ∃ val, r = .returned (imgV m.guest val) ∧ OX w' W.heap.size val m ∧ Below W.heap.size W w') := fun W hW => ownImage_is (I1.below hW) HP.out.2.1
  have HTb : Hid (∀ W, Below w1.heap.size w1 W → Calls Tryz.prog 67 #[.agg #[.int .i64 m.guest, .slice (some ⟨rb, ro, none⟩) m.root.length rc, .slice sa m.slots.length sc, .slice (some ⟨fb, fo, none⟩) m.refs.length fc, .slice na m.snaps.length nc], .int .i64 (t : Int)] W fun r w' => ∃ g cap, r = .returned (.slice (some ⟨g, 0, none⟩) 4 cap) ∧ w'.ownsRow W.heap.size 3 1 (.slice (some ⟨g, 0, none⟩) 4 cap) 4 (ints (tableO m (n / 4))) ∧ W.heap.size ≤ g ∧ Below W.heap.size W w') := fun W hW => by
    have e := tabAt_O HP.out.2.2.1
    refine (tableOf_is (I1.below hW) htl (by rw [e, HP.out.2.2.2.2.2.1]; decide)).mono ?_
    rintro r w' ⟨v, rfl, h1, h2, h3⟩
    rw [e, HP.out.2.2.2.2.2.1] at h1
    obtain ⟨g, cap, rfl⟩ := row_some h1
    exact ⟨g, cap, rfl, h1, h2 g rfl, h3⟩
  clear b0 b1 m0 m1 I0 I1 HR0 HF0 hlk hsz
  refine wp_region_held_drew (S := (fun X : World => X.heap[w.heap.size]? = some (.cells #[.int .i64 m.guest, .slice (some ⟨rb, ro, none⟩) m.root.length rc, .slice sa m.slots.length sc, .slice (some ⟨fb, fo, none⟩) m.refs.length fc, .slice na m.snaps.length nc] 27) ∧ X.cell? ⟨rb, ro + n / 4, none⟩ = some (.int .i64 (t : Int)))) (by kernel_rfl) ⟨n0, cR⟩ (fun hHeld => ?_)
  refine wpAnyH_take (i := 0) (v := .pointer (some ⟨w.heap.size, 1, none⟩)) rfl (by kernel_rfl) (by kernel_rfl) (by kernel_rfl) (fun _ _ _ h => h) (Or.inl ⟨by rfl, fun w' hSw => by obtain ⟨qa, qb⟩ := hSw; obtain ⟨j0, j1, j2, j3, j4⟩ := five qa; go_simp⟩) hHeld ?_
  simp only [Act.put, List.getElem_toArray, List.getElem_cons_succ, List.getElem_cons_zero, List.setIfInBounds_toArray, List.set_cons_zero, List.set_cons_succ]
  refine wpAnyH_take (i := 1) (v := .slice (some ⟨rb, ro, none⟩) m.root.length rc) rfl (by kernel_rfl) (by kernel_rfl) (by kernel_rfl) (fun _ _ _ h => h) (Or.inl ⟨by rfl, fun w' hSw => by obtain ⟨qa, qb⟩ := hSw; obtain ⟨j0, j1, j2, j3, j4⟩ := five qa; go_simp⟩) hHeld ?_
  simp only [Act.put, List.getElem_toArray, List.getElem_cons_succ, List.getElem_cons_zero, List.setIfInBounds_toArray, List.set_cons_zero, List.set_cons_succ]
  refine wpAnyH_take (i := 2) (v := .int .i64 ((n : Int) / 4)) rfl (by kernel_rfl) (by kernel_rfl) (by kernel_rfl) (fun _ _ _ h => h) (Or.inl ⟨by rfl, fun w' hSw => by obtain ⟨qa, qb⟩ := hSw; obtain ⟨j0, j1, j2, j3, j4⟩ := five qa; go_simp⟩) hHeld ?_
  simp only [Act.put, List.getElem_toArray, List.getElem_cons_succ, List.getElem_cons_zero, List.setIfInBounds_toArray, List.set_cons_zero, List.set_cons_succ]
  refine wpAnyH_take (i := 3) (v := .pointer (some ⟨rb, ro + n / 4, none⟩)) rfl (by kernel_rfl) (by kernel_rfl) (by kernel_rfl) (fun _ _ _ h => h) (Or.inl ⟨by rfl, fun w' hSw => by obtain ⟨qa, qb⟩ := hSw; obtain ⟨j0, j1, j2, j3, j4⟩ := five qa; go_simp⟩) hHeld ?_
  simp only [Act.put, List.getElem_toArray, List.getElem_cons_succ, List.getElem_cons_zero, List.setIfInBounds_toArray, List.set_cons_zero, List.set_cons_succ]
  refine wpAnyH_take (i := 4) (v := .int .i64 (t : Int)) rfl (by kernel_rfl) (by kernel_rfl) (by kernel_rfl) (fun _ _ _ h => h) (Or.inl ⟨by rfl, fun w' hSw => by obtain ⟨qa, qb⟩ := hSw; obtain ⟨j0, j1, j2, j3, j4⟩ := five qa; go_simp⟩) hHeld ?_
  simp only [Act.put, List.getElem_toArray, List.getElem_cons_succ, List.getElem_cons_zero, List.setIfInBounds_toArray, List.set_cons_zero, List.set_cons_succ]
  refine wpAnyH_take (i := 5) (v := .agg #[.int .i64 m.guest, .slice (some ⟨rb, ro, none⟩) m.root.length rc, .slice sa m.slots.length sc, .slice (some ⟨fb, fo, none⟩) m.refs.length fc, .slice na m.snaps.length nc]) rfl (by kernel_rfl) (by kernel_rfl) (by kernel_rfl) (fun _ _ _ h => h) (Or.inl ⟨by rfl, fun w' hSw => by obtain ⟨qa, qb⟩ := hSw; obtain ⟨j0, j1, j2, j3, j4⟩ := five qa; go_simp⟩) hHeld ?_
  simp only [Act.put, List.getElem_toArray, List.getElem_cons_succ, List.getElem_cons_zero, List.setIfInBounds_toArray, List.set_cons_zero, List.set_cons_succ]
  refine wpAnyH_take (i := 6) (v := .int .i64 (n : Int)) rfl (by kernel_rfl) (by kernel_rfl) (by kernel_rfl) (fun _ _ _ h => h) (Or.inl ⟨by rfl, fun w' hSw => by obtain ⟨qa, qb⟩ := hSw; obtain ⟨j0, j1, j2, j3, j4⟩ := five qa; go_simp⟩) hHeld ?_
  simp only [Act.put, List.getElem_toArray, List.getElem_cons_succ, List.getElem_cons_zero, List.setIfInBounds_toArray, List.set_cons_zero, List.set_cons_succ]
  refine wpAnyH_ready (rs := [7]) (by kernel_rfl) (by simp) ?_
  refine AllReadyH.cons rfl (fun K hK => ?_) AllReadyH.nil
  clear hHeld
  simp only [Act.put, List.getElem_toArray, List.getElem_cons_succ, List.getElem_cons_zero, List.setIfInBounds_toArray, List.set_cons_zero, List.set_cons_succ]
  rw [if_pos (by rfl)]
  go_wp2_with (go_at_call 50; refine (HLk.out _ (to_drew (Below.refl _ _))).mono ?_; rintro e2 w2 ⟨rfl, b2⟩)
  have b2 : Below w1.heap.size w1 w2 := below_drew b2
  have k0 := cells_below n0 b2 (by omega)
  have cR2 := (b2.cell (p := ⟨rb, ro + n / 4, none⟩) rl1).trans cR
  refine hK.out _ _ ⟨k0, cR2⟩ (fun hHeld => ?_)
  clear hK K
  try simp only [Act.put, List.getElem_toArray, List.getElem_cons_succ, List.getElem_cons_zero, List.setIfInBounds_toArray, List.set_cons_zero, List.set_cons_succ]
  refine wpAnyH_take (i := 8) (v := .int .i64 (t : Int)) rfl (by kernel_rfl) (by kernel_rfl) (by kernel_rfl) (fun _ _ _ h => h) (Or.inl ⟨by rfl, fun w' hSw => by go_simp⟩) hHeld ?_
  simp only [Act.put, List.getElem_toArray, List.getElem_cons_succ, List.getElem_cons_zero, List.setIfInBounds_toArray, List.set_cons_zero, List.set_cons_succ]
  refine wpAnyH_take (i := 9) (v := .int .i64 e) rfl (by kernel_rfl) (by kernel_rfl) (by kernel_rfl) (fun _ _ _ h => h) (Or.inl ⟨by rfl, fun w' hSw => by go_simp⟩) hHeld ?_
  simp only [Act.put, List.getElem_toArray, List.getElem_cons_succ, List.getElem_cons_zero, List.setIfInBounds_toArray, List.set_cons_zero, List.set_cons_succ]
  clear hHeld
  refine wpAnyH_done (by kernel_rfl) ?_ _
  obtain ⟨c0, c1, c2, c3, c4⟩ := five k0
  go_upto_region 9 with (go_at_call 64; refine (HOw.out w2 b2).mono ?_; rintro e3 w3 ⟨val, rfl, hO, b3⟩; obtain ⟨p0, q0, p1, q1, p2, q2, p3, q3, x0, x1, x2, x3⟩ := hO.four'; unfold imgV; rw [x0, x1, x2, x3])
  have s2 := b2.size
  have s3 := b3.size
  have HD0 : Hid (OwR w1 (w3.alloc (.cells #[.int .i64 m.guest, .slice p0 m.root.length q0, .slice p1 m.slots.length q1, .slice p2 m.refs.length q2, .slice p3 m.snaps.length q3] 27)) w3.heap.size m) := ⟨⟨val, (hO.mono s2).alloc _, by rw [x0, x1, x2, x3]; exact World.alloc_heap_new _ _, hO.lt (Nat.le_refl _)⟩, by omega, (b2.trans (b3.mono s2)).alloc (by omega) _⟩
  clear hO x0 x1 x2 x3 c0 c1 c2 c3 c4 k0 cR2 HLk HOw
  have M0 := cells_below n0 HD0.out.bel (by omega)
  obtain ⟨c0, c1, c2, c3, c4⟩ := five M0
  have HF3 : Hid (∀ j, j < m.refs.length → (w3.alloc (.cells #[.int .i64 m.guest, .slice p0 m.root.length q0, .slice p1 m.slots.length q1, .slice p2 m.refs.length q2, .slice p3 m.snaps.length q3] 27)).cell? ⟨fb, fo + j, none⟩ = some (.int .i64 (m.refs.getD j 0))) := fun j hj => (HD0.out.bel.cell (p := ⟨fb, fo + j, none⟩) (HF.out j hj).2).trans (HF.out j hj).1
  clear b2 b3 M0
  have hDw : w1.heap.size ≤ w3.heap.size := HD0.out.ge
  go_cut [54] from 14 (fun s wx => s = .bool false ∧ Hid (OwR w1 wx w3.heap.size m))
  case first =>
    by_cases hpos : 0 < e
    · obtain ⟨en, rfl⟩ := Int.eq_ofNat_of_zero_le (Int.le_of_lt hpos)
      have g1 : decide (0 < (en : Int)) = true := by simpa using hpos
      have ct := HF3.out t (by have := HP.out.2.2.2.2.2.2.1; omega)
      have l1 : (t : Int) < (m.refs.length : Int) := by have := HP.out.2.2.2.2.2.2.1; omega
      obtain ⟨xt, hxt⟩ : ∃ x, m.refs.getD t 0 = x := ⟨_, rfl⟩
      have hrt2 := hmany (hnot hpos)
      rw [hxt] at ct hrt2
      have g3 : (xt == 1) = false := by simp; omega
      clear hxt hrt2 hnot hmany
      go_wp2_with fail; go_meet; exact ⟨rfl, HD0⟩
    · have g1 : decide (0 < e) = false := by simpa using hpos
      go_wp2_with fail; go_meet; exact ⟨rfl, HD0⟩
  case rest =>
  obtain ⟨rfl, HD1⟩ := hcut
  clear HD0 HF3 c0 c1 c2 c3 c4
  obtain ⟨wa, hwa⟩ : ∃ X, X = wc := ⟨_, rfl⟩
  subst hwa
  go_upto_region 12 with fail
  have M0 := cells_below n0 HD1.out.bel (by omega)
  obtain ⟨c0, c1, c2, c3, c4⟩ := five M0
  have HF1 : Hid (∀ j, j < m.refs.length → wa.cell? ⟨fb, fo + j, none⟩ = some (.int .i64 (m.refs.getD j 0))) := fun j hj => (HD1.out.bel.cell (p := ⟨fb, fo + j, none⟩) (HF.out j hj).2).trans (HF.out j hj).1
  go_cut [71] from 14 (fun s wx => s = .bool true ∧ Hid (OwR w1 wx w3.heap.size m))
  case first =>
    rcases Nat.eq_zero_or_pos t with h0 | h1
    · subst h0
      go_wp2_with fail; go_meet; exact ⟨rfl, HD1⟩
    · have g1 : ((t : Int) == 0) = false := by simp; omega
      have ct := HF1.out t (by have := HP.out.2.2.2.2.2.2.1; omega)
      obtain ⟨xt, hxt⟩ : ∃ x, m.refs.getD t 0 = x := ⟨_, rfl⟩
      have hrt2 := hmany h1
      rw [hxt] at ct hrt2
      have l1 : (t : Int) < (m.refs.length : Int) := by have := HP.out.2.2.2.2.2.2.1; omega
      have g3 : decide (1 < xt) = true := by simp; omega
      clear hxt hmany
      go_wp2_with fail; go_meet; exact ⟨rfl, HD1⟩
  case rest =>
  obtain ⟨rfl, HD2⟩ := hcut
  clear HD1 HF1 M0 c0 c1 c2 c3 c4
  obtain ⟨wb, hwb⟩ : ∃ X, X = wc := ⟨_, rfl⟩
  subst hwb
  obtain ⟨val, hX, hbox, hfar⟩ := HD2.out.ex
  have hbel := HD2.out.bel
  obtain ⟨p0, q0, p1, q1, p2, q2, p3, q3, x0, x1, x2, x3⟩ := hX.four'
  have hbx := hbox
  rw [x0, x1, x2, x3] at hbx
  obtain ⟨d0, d1, d2, d3, d4⟩ := five hbx
  have hS : Slots wb (val .slots) m.slots := Img.four (show Img wb (.agg #[_, _, _, _, _]) m from hX.img) |>.2.1
  have hG := grabOf_wide hS HG.out.2.1 HG.out.2.2.1 (c := (tn : Int)) (by rw [HG.out.1, if_neg (by have := HG.out.2.2.2.1; omega)])
  rw [x1] at hG
  have htn0 : ((tn : Int) == 0) = false := by have := HG.out.2.2.2.2.1; simp; omega
  go_upto_region 16 with (go_at_call 65; refine hG.mono ?_; rintro e4 w4 ⟨rfl, hw⟩; rw [hw]; clear hw)
  clear hG hS htn0 d0 d1 d2 d3 d4
  go_cut [] from 14 (fun wx => Hid (OwR w1 wx w3.heap.size { m with slots := tabL m (n / 4) (tableO m (n / 4)) }))
  case first =>
    have hDl : w3.heap.size < wb.heap.size := (Array.getElem?_eq_some_iff.1 hbx).1
    have MX := cells_below n0 hbel (by omega)
    have cRa := (hbel.cell (p := ⟨rb, ro + n / 4, none⟩) rl1).trans cR
    have hsB := hbel.size
    refine wp_region_held_drew (S := (fun X : World => X.heap[w.heap.size]? = some (.cells #[.int .i64 m.guest, .slice (some ⟨rb, ro, none⟩) m.root.length rc, .slice sa m.slots.length sc, .slice (some ⟨fb, fo, none⟩) m.refs.length fc, .slice na m.snaps.length nc] 27) ∧ X.cell? ⟨rb, ro + n / 4, none⟩ = some (.int .i64 (t : Int)))) (by kernel_rfl) ⟨MX, cRa⟩ (fun hHeld => ?_)
    refine wpAnyH_take (i := 1) (v := .int .i64 (tn : Int)) rfl (by kernel_rfl) (by kernel_rfl) (by kernel_rfl) (fun _ _ _ h => h) (Or.inl ⟨by rfl, fun w' hSw => by obtain ⟨qa, qb⟩ := hSw; obtain ⟨j0, j1, j2, j3, j4⟩ := five qa; go_simp⟩) hHeld ?_
    simp only [Act.put, List.getElem_toArray, List.getElem_cons_succ, List.getElem_cons_zero, List.setIfInBounds_toArray, List.set_cons_zero, List.set_cons_succ]
    refine wpAnyH_take (i := 2) (v := .agg #[.int .i64 m.guest, .slice (some ⟨rb, ro, none⟩) m.root.length rc, .slice sa m.slots.length sc, .slice (some ⟨fb, fo, none⟩) m.refs.length fc, .slice na m.snaps.length nc]) rfl (by kernel_rfl) (by kernel_rfl) (by kernel_rfl) (fun _ _ _ h => h) (Or.inl ⟨by rfl, fun w' hSw => by obtain ⟨qa, qb⟩ := hSw; obtain ⟨j0, j1, j2, j3, j4⟩ := five qa; go_simp⟩) hHeld ?_
    simp only [Act.put, List.getElem_toArray, List.getElem_cons_succ, List.getElem_cons_zero, List.setIfInBounds_toArray, List.set_cons_zero, List.set_cons_succ]
    refine wpAnyH_take (i := 3) (v := .pointer (some ⟨w.heap.size, 1, none⟩)) rfl (by kernel_rfl) (by kernel_rfl) (by kernel_rfl) (fun _ _ _ h => h) (Or.inl ⟨by rfl, fun w' hSw => by obtain ⟨qa, qb⟩ := hSw; obtain ⟨j0, j1, j2, j3, j4⟩ := five qa; go_simp⟩) hHeld ?_
    simp only [Act.put, List.getElem_toArray, List.getElem_cons_succ, List.getElem_cons_zero, List.setIfInBounds_toArray, List.set_cons_zero, List.set_cons_succ]
    refine wpAnyH_take (i := 4) (v := .slice (some ⟨rb, ro, none⟩) m.root.length rc) rfl (by kernel_rfl) (by kernel_rfl) (by kernel_rfl) (fun _ _ _ h => h) (Or.inl ⟨by rfl, fun w' hSw => by obtain ⟨qa, qb⟩ := hSw; obtain ⟨j0, j1, j2, j3, j4⟩ := five qa; go_simp⟩) hHeld ?_
    simp only [Act.put, List.getElem_toArray, List.getElem_cons_succ, List.getElem_cons_zero, List.setIfInBounds_toArray, List.set_cons_zero, List.set_cons_succ]
    refine wpAnyH_take (i := 5) (v := .int .i64 ((n : Int) / 4)) rfl (by kernel_rfl) (by kernel_rfl) (by kernel_rfl) (fun _ _ _ h => h) (Or.inl ⟨by rfl, fun w' hSw => by obtain ⟨qa, qb⟩ := hSw; obtain ⟨j0, j1, j2, j3, j4⟩ := five qa; go_simp⟩) hHeld ?_
    simp only [Act.put, List.getElem_toArray, List.getElem_cons_succ, List.getElem_cons_zero, List.setIfInBounds_toArray, List.set_cons_zero, List.set_cons_succ]
    refine wpAnyH_take (i := 6) (v := .pointer (some ⟨rb, ro + n / 4, none⟩)) rfl (by kernel_rfl) (by kernel_rfl) (by kernel_rfl) (fun _ _ _ h => h) (Or.inl ⟨by rfl, fun w' hSw => by obtain ⟨qa, qb⟩ := hSw; obtain ⟨j0, j1, j2, j3, j4⟩ := five qa; go_simp⟩) hHeld ?_
    simp only [Act.put, List.getElem_toArray, List.getElem_cons_succ, List.getElem_cons_zero, List.setIfInBounds_toArray, List.set_cons_zero, List.set_cons_succ]
    refine wpAnyH_take (i := 7) (v := .int .i64 (t : Int)) rfl (by kernel_rfl) (by kernel_rfl) (by kernel_rfl) (fun _ _ _ h => h) (Or.inl ⟨by rfl, fun w' hSw => by obtain ⟨qa, qb⟩ := hSw; obtain ⟨j0, j1, j2, j3, j4⟩ := five qa; go_simp⟩) hHeld ?_
    simp only [Act.put, List.getElem_toArray, List.getElem_cons_succ, List.getElem_cons_zero, List.setIfInBounds_toArray, List.set_cons_zero, List.set_cons_succ]
    refine wpAnyH_ready (rs := [0, 8]) (by kernel_rfl) (by simp) ?_
    refine AllReadyH.cons rfl (fun K hK => ?_) (AllReadyH.cons rfl (fun K hK => ?_) AllReadyH.nil)
    · clear hHeld
      simp only [Act.put, List.getElem_toArray, List.getElem_cons_succ, List.getElem_cons_zero, List.setIfInBounds_toArray, List.set_cons_zero, List.set_cons_succ]
      rw [if_pos (by rfl)]
      have hbd : wb.drew.heap[w3.heap.size]? = some (.cells #[.int .i64 m.guest, .slice p0 m.root.length q0, .slice p1 m.slots.length q1, .slice p2 m.refs.length q2, .slice p3 m.snaps.length q3] 27) := hbx
      obtain ⟨v0, v1, v2, v3, v4⟩ := five hbd
      go_simp
      refine hK.out _ _ ⟨MX, cRa⟩ (fun hHeld => ?_)
      clear hK K v0 v1 v2 v3 v4
      try simp only [Act.put, List.getElem_toArray, List.getElem_cons_succ, List.getElem_cons_zero, List.setIfInBounds_toArray, List.set_cons_zero, List.set_cons_succ]
      refine wpAnyH_ready (rs := [8]) (by kernel_rfl) (by simp) ?_
      refine AllReadyH.cons rfl (fun K hK => ?_) AllReadyH.nil
      clear hHeld
      simp only [Act.put, List.getElem_toArray, List.getElem_cons_succ, List.getElem_cons_zero, List.setIfInBounds_toArray, List.set_cons_zero, List.set_cons_succ]
      rw [if_pos (by rfl)]
      go_wp2_with (go_at_call 67; refine (HTb.out _ (to_drew hbel)).mono ?_; rintro e5 w4 ⟨g, cap, rfl, hev, hge, b4⟩)
      have b4 : Below wb.heap.size wb w4 := below_drew b4
      have hge : wb.heap.size ≤ g := hge
      have hev : w4.ownsRow w1.heap.size 3 1 (.slice (some ⟨g, 0, none⟩) 4 cap) (tableO m (n / 4)).length (ints (tableO m (n / 4))) := by
        rw [HP.out.2.2.2.2.2.1]
        exact row_mono hev (show w1.heap.size ≤ wb.heap.size from hsB)
      have hgl : g < w4.heap.size := (hev.lt g rfl).2
      have s4 := b4.size
      have MX4 := cells_below MX b4 (by omega)
      have D4 := cells_below hbx b4 hDl
      have cR4 := (b4.cell (p := ⟨rb, ro + n / 4, none⟩) (Nat.lt_of_lt_of_le rl1 hsB)).trans cRa
      refine hK.out _ _ ⟨MX4, cR4⟩ (fun hHeld => ?_)
      clear hK K
      try simp only [Act.put, List.getElem_toArray, List.getElem_cons_succ, List.getElem_cons_zero, List.setIfInBounds_toArray, List.set_cons_zero, List.set_cons_succ]
      refine wpAnyH_take (i := 9) (v := .agg #[.int .i64 2, .string ⟨#[]⟩, .slice (some ⟨g, 0, none⟩) 4 cap]) rfl (by kernel_rfl) (by kernel_rfl) (by kernel_rfl) (fun _ _ _ h => h) (Or.inl ⟨by rfl, fun w' hSw => by obtain ⟨qa, qb⟩ := hSw; obtain ⟨j0, j1, j2, j3, j4⟩ := five qa; go_simp⟩) hHeld ?_
      simp only [Act.put, List.getElem_toArray, List.getElem_cons_succ, List.getElem_cons_zero, List.setIfInBounds_toArray, List.set_cons_zero, List.set_cons_succ]
      have hX4 : OX w4 w1.heap.size val m := hX.below b4
      have hL := layX_is m.guest (k := 2) (d := ⟨#[]⟩) hX4 (Nat.le_trans hsB s4) HG.out.2.2.2.2.2 (by have := HG.out.2.2.1; omega) hev (fun b hb _ q hq x => by have h1 := ((hX.row b hb).lt q x).2; have hq : g = q := Option.some.inj hq; omega)
      unfold imgV at hL
      rw [x0, x1, x2, x3] at hL
      have HL : Hid (Calls Tryz.prog 66 #[.agg #[.int .i64 m.guest, .slice p0 m.root.length q0, .slice p1 m.slots.length q1, .slice p2 m.refs.length q2, .slice p3 m.snaps.length q3], .int .i64 (tn : Int), .agg #[.int .i64 2, .string ⟨#[]⟩, .slice (some ⟨g, 0, none⟩) 4 cap]] w4 fun r w' => ∃ val', r = .returned (imgV m.guest val') ∧ OX w' w1.heap.size val' { m with slots := layS m.slots tn (2, ⟨#[]⟩, tableO m (n / 4)) } ∧ Below w1.heap.size w4 w' ∧ KeepX w4 w' m val ∧ SrcX w4 m val (.slice (some ⟨g, 0, none⟩) 4 cap) { m with slots := layS m.slots tn (2, ⟨#[]⟩, tableO m (n / 4)) } val') := hL.mono fun r w' ⟨v, a1, a2, a3, a4, a5, _⟩ => ⟨v, a1, a2, a3, a4, a5⟩
      clear hL
      obtain ⟨MA, hMA⟩ : ∃ X : ImgD, { m with slots := layS m.slots tn (2, ⟨#[]⟩, tableO m (n / 4)) } = X := ⟨_, rfl⟩
      rw [hMA] at HL
      have hMg : MA.guest = m.guest := by rw [← hMA]
      have HMA : Hid ({ m with slots := tabL m (n / 4) (tableO m (n / 4)) } = MA ∧ MA.guest = m.guest) := ⟨by rw [← hMA]; unfold tabL; rw [HM1.out.2], hMg⟩
      clear hMA hMg
      refine wpAnyH_ready (rs := [10]) (by kernel_rfl) (by simp) ?_
      refine AllReadyH.cons rfl (fun K hK => ?_) AllReadyH.nil
      clear hHeld
      simp only [Act.put, List.getElem_toArray, List.getElem_cons_succ, List.getElem_cons_zero, List.setIfInBounds_toArray, List.set_cons_zero, List.set_cons_succ]
      rw [if_pos (by rfl)]
      go_wp2_with (go_at_call 66; refine HL.out.mono ?_; rintro e6 w5 ⟨val', rfl, hX5, b5, k5, s5⟩; obtain ⟨g0, h0, g1, h1, g2, h2, g3, h3, y0, y1, y2, y3⟩ := hX5.four'; unfold imgV; rw [y0, y1, y2, y3])
      have MX5 := cells_below MX4 b5 (by omega)
      have D5 := (k5 w3.heap.size (by omega) hfar).trans D4
      have cR5 := (b5.cell (p := ⟨rb, ro + n / 4, none⟩) rl1).trans cR4
      refine hK.out _ _ ⟨MX5, cR5⟩ (fun hHeld => ?_)
      clear hK K
      try simp only [Act.put, List.getElem_toArray, List.getElem_cons_succ, List.getElem_cons_zero, List.setIfInBounds_toArray, List.set_cons_zero, List.set_cons_succ]
      refine wpAnyH_ready (rs := [11]) (by kernel_rfl) (by simp) ?_
      refine AllReadyH.cons rfl (fun K hK => ?_) AllReadyH.nil
      clear hHeld
      simp only [Act.put, List.getElem_toArray, List.getElem_cons_succ, List.getElem_cons_zero, List.setIfInBounds_toArray, List.set_cons_zero, List.set_cons_succ]
      rw [if_pos (by rfl)]
      have bS := fun a0 a1 a2 a3 a4 => below_five (w := w5) (Below.refl w1.heap.size w5) hDw a0 a1 a2 a3 a4
      obtain ⟨v0, v1, v2, v3, v4⟩ := five D5
      have u0 := cells_frozen D5 0; have u1 := cells_frozen D5 1; have u2 := cells_frozen D5 2; have u3 := cells_frozen D5 3; have u4 := cells_frozen D5 4
      go_simp
      refine hK.out _ _ ⟨(heap_five _ _ _ _ _ _ (by omega)).trans MX5, ((bS _ _ _ _ _).cell (p := ⟨rb, ro + n / 4, none⟩) rl1).trans cR5⟩ (fun hHeld => ?_)
      clear hK K hHeld
      try simp only [Act.put, List.getElem_toArray, List.getElem_cons_succ, List.getElem_cons_zero, List.setIfInBounds_toArray, List.set_cons_zero, List.set_cons_succ]
      refine wpAnyH_done (by kernel_rfl) ?_ _
      go_wp2_with fail
      go_meet
      have hO := ow_call (Below.trans hbel (b4.mono hsB)) (by rw [x0, x1, x2, x3]; exact D4) HD2.out.ge hfar hX5 b5 k5 s5 (fun x => by have hx : g = w3.heap.size := Option.some.inj x; omega)
      rw [y0, y1, y2, y3, HMA.out.2] at hO
      rw [HMA.out.1]
      exact hO
    · clear hHeld
      simp only [Act.put, List.getElem_toArray, List.getElem_cons_succ, List.getElem_cons_zero, List.setIfInBounds_toArray, List.set_cons_zero, List.set_cons_succ]
      rw [if_pos (by rfl)]
      go_wp2_with (go_at_call 67; refine (HTb.out _ (to_drew hbel)).mono ?_; rintro e5 w4 ⟨g, cap, rfl, hev, hge, b4⟩)
      have b4 : Below wb.heap.size wb w4 := below_drew b4
      have hge : wb.heap.size ≤ g := hge
      have hev : w4.ownsRow w1.heap.size 3 1 (.slice (some ⟨g, 0, none⟩) 4 cap) (tableO m (n / 4)).length (ints (tableO m (n / 4))) := by
        rw [HP.out.2.2.2.2.2.1]
        exact row_mono hev (show w1.heap.size ≤ wb.heap.size from hsB)
      have hgl : g < w4.heap.size := (hev.lt g rfl).2
      have s4 := b4.size
      have MX4 := cells_below MX b4 (by omega)
      have D4 := cells_below hbx b4 hDl
      have cR4 := (b4.cell (p := ⟨rb, ro + n / 4, none⟩) (Nat.lt_of_lt_of_le rl1 hsB)).trans cRa
      refine hK.out _ _ ⟨MX4, cR4⟩ (fun hHeld => ?_)
      clear hK K
      try simp only [Act.put, List.getElem_toArray, List.getElem_cons_succ, List.getElem_cons_zero, List.setIfInBounds_toArray, List.set_cons_zero, List.set_cons_succ]
      refine wpAnyH_take (i := 9) (v := .agg #[.int .i64 2, .string ⟨#[]⟩, .slice (some ⟨g, 0, none⟩) 4 cap]) rfl (by kernel_rfl) (by kernel_rfl) (by kernel_rfl) (fun _ _ _ h => h) (Or.inl ⟨by rfl, fun w' hSw => by obtain ⟨qa, qb⟩ := hSw; obtain ⟨j0, j1, j2, j3, j4⟩ := five qa; go_simp⟩) hHeld ?_
      simp only [Act.put, List.getElem_toArray, List.getElem_cons_succ, List.getElem_cons_zero, List.setIfInBounds_toArray, List.set_cons_zero, List.set_cons_succ]
      refine wpAnyH_ready (rs := [0]) (by kernel_rfl) (by simp) ?_
      refine AllReadyH.cons rfl (fun K hK => ?_) AllReadyH.nil
      clear hHeld
      simp only [Act.put, List.getElem_toArray, List.getElem_cons_succ, List.getElem_cons_zero, List.setIfInBounds_toArray, List.set_cons_zero, List.set_cons_succ]
      rw [if_pos (by rfl)]
      obtain ⟨v0, v1, v2, v3, v4⟩ := five D4
      go_simp
      refine hK.out _ _ ⟨MX4, cR4⟩ (fun hHeld => ?_)
      clear hK K v0 v1 v2 v3 v4
      try simp only [Act.put, List.getElem_toArray, List.getElem_cons_succ, List.getElem_cons_zero, List.setIfInBounds_toArray, List.set_cons_zero, List.set_cons_succ]
      have hX4 : OX w4 w1.heap.size val m := hX.below b4
      have hL := layX_is m.guest (k := 2) (d := ⟨#[]⟩) hX4 (Nat.le_trans hsB s4) HG.out.2.2.2.2.2 (by have := HG.out.2.2.1; omega) hev (fun b hb _ q hq x => by have h1 := ((hX.row b hb).lt q x).2; have hq : g = q := Option.some.inj hq; omega)
      unfold imgV at hL
      rw [x0, x1, x2, x3] at hL
      have HL : Hid (Calls Tryz.prog 66 #[.agg #[.int .i64 m.guest, .slice p0 m.root.length q0, .slice p1 m.slots.length q1, .slice p2 m.refs.length q2, .slice p3 m.snaps.length q3], .int .i64 (tn : Int), .agg #[.int .i64 2, .string ⟨#[]⟩, .slice (some ⟨g, 0, none⟩) 4 cap]] w4 fun r w' => ∃ val', r = .returned (imgV m.guest val') ∧ OX w' w1.heap.size val' { m with slots := layS m.slots tn (2, ⟨#[]⟩, tableO m (n / 4)) } ∧ Below w1.heap.size w4 w' ∧ KeepX w4 w' m val ∧ SrcX w4 m val (.slice (some ⟨g, 0, none⟩) 4 cap) { m with slots := layS m.slots tn (2, ⟨#[]⟩, tableO m (n / 4)) } val') := hL.mono fun r w' ⟨v, a1, a2, a3, a4, a5, _⟩ => ⟨v, a1, a2, a3, a4, a5⟩
      clear hL
      obtain ⟨MA, hMA⟩ : ∃ X : ImgD, { m with slots := layS m.slots tn (2, ⟨#[]⟩, tableO m (n / 4)) } = X := ⟨_, rfl⟩
      rw [hMA] at HL
      have hMg : MA.guest = m.guest := by rw [← hMA]
      have HMA : Hid ({ m with slots := tabL m (n / 4) (tableO m (n / 4)) } = MA ∧ MA.guest = m.guest) := ⟨by rw [← hMA]; unfold tabL; rw [HM1.out.2], hMg⟩
      clear hMA hMg
      refine wpAnyH_ready (rs := [10]) (by kernel_rfl) (by simp) ?_
      refine AllReadyH.cons rfl (fun K hK => ?_) AllReadyH.nil
      clear hHeld
      simp only [Act.put, List.getElem_toArray, List.getElem_cons_succ, List.getElem_cons_zero, List.setIfInBounds_toArray, List.set_cons_zero, List.set_cons_succ]
      rw [if_pos (by rfl)]
      go_wp2_with (go_at_call 66; refine HL.out.mono ?_; rintro e6 w5 ⟨val', rfl, hX5, b5, k5, s5⟩; obtain ⟨g0, h0, g1, h1, g2, h2, g3, h3, y0, y1, y2, y3⟩ := hX5.four'; unfold imgV; rw [y0, y1, y2, y3])
      have MX5 := cells_below MX4 b5 (by omega)
      have D5 := (k5 w3.heap.size (by omega) hfar).trans D4
      have cR5 := (b5.cell (p := ⟨rb, ro + n / 4, none⟩) rl1).trans cR4
      refine hK.out _ _ ⟨MX5, cR5⟩ (fun hHeld => ?_)
      clear hK K
      try simp only [Act.put, List.getElem_toArray, List.getElem_cons_succ, List.getElem_cons_zero, List.setIfInBounds_toArray, List.set_cons_zero, List.set_cons_succ]
      refine wpAnyH_ready (rs := [11]) (by kernel_rfl) (by simp) ?_
      refine AllReadyH.cons rfl (fun K hK => ?_) AllReadyH.nil
      clear hHeld
      simp only [Act.put, List.getElem_toArray, List.getElem_cons_succ, List.getElem_cons_zero, List.setIfInBounds_toArray, List.set_cons_zero, List.set_cons_succ]
      rw [if_pos (by rfl)]
      have bS := fun a0 a1 a2 a3 a4 => below_five (w := w5) (Below.refl w1.heap.size w5) hDw a0 a1 a2 a3 a4
      obtain ⟨v0, v1, v2, v3, v4⟩ := five D5
      have u0 := cells_frozen D5 0; have u1 := cells_frozen D5 1; have u2 := cells_frozen D5 2; have u3 := cells_frozen D5 3; have u4 := cells_frozen D5 4
      go_simp
      refine hK.out _ _ ⟨(heap_five _ _ _ _ _ _ (by omega)).trans MX5, ((bS _ _ _ _ _).cell (p := ⟨rb, ro + n / 4, none⟩) rl1).trans cR5⟩ (fun hHeld => ?_)
      clear hK K hHeld
      try simp only [Act.put, List.getElem_toArray, List.getElem_cons_succ, List.getElem_cons_zero, List.setIfInBounds_toArray, List.set_cons_zero, List.set_cons_succ]
      refine wpAnyH_done (by kernel_rfl) ?_ _
      go_wp2_with fail
      go_meet
      have hO := ow_call (Below.trans hbel (b4.mono hsB)) (by rw [x0, x1, x2, x3]; exact D4) HD2.out.ge hfar hX5 b5 k5 s5 (fun x => by have hx : g = w3.heap.size := Option.some.inj x; omega)
      rw [y0, y1, y2, y3, HMA.out.2] at hO
      rw [HMA.out.1]
      exact hO
  case rest =>
  have HD3 : Hid (OwR w1 wc w3.heap.size { m with slots := tabL m (n / 4) (tableO m (n / 4)) }) := hcut
  clear hcut HD2 hX hbox hfar hbel hbx x0 x1 x2 x3
  obtain ⟨wd, hwd⟩ : ∃ X, X = wc := ⟨_, rfl⟩
  subst hwd
  go_upto_region 17 with fail
  go_cut [] from 14 (fun wx => Hid (OwR w1 wx w3.heap.size M1))
  case first =>
    obtain ⟨val, hX, hbox, hfar⟩ := HD3.out.ex
    have hbel := HD3.out.bel
    obtain ⟨p0, q0, p1, q1, p2, q2, p3, q3, x0, x1, x2, x3⟩ := hX.four'
    have hbx := hbox
    rw [x0, x1, x2, x3] at hbx
    obtain ⟨d0, d1, d2, d3, d4⟩ := five hbx
    obtain ⟨ao, cap, xs, hg⟩ := hX.forms .root (LiveX.root _)
    obtain ⟨rg, rfl⟩ := hg (by show 0 < m.root.length; omega)
    rw [x0] at xs
    simp only [Value.slice.injEq] at xs
    obtain ⟨rfl, _, _⟩ := xs
    have hrow := hX.row .root (LiveX.root _)
    rw [x0] at hrow
    have hrow : wd.ownsRow w1.heap.size 3 1 (.slice (some ⟨rg, 0, none⟩) m.root.length q0) m.root.length (ints m.root) := hrow
    have hcl := (hrow.cellAt (n / 4) (by omega)).trans (show (ints m.root)[n / 4]? = some (.int .i64 (t : Int)) by unfold ints; rw [List.getElem?_map, List.getElem?_eq_getElem hr, ← HP.out.2.2.1]; simp [List.getD, hr])
    have hfz := hrow.frozenAt (n / 4)
    go_wp2_with fail
    go_meet
    have hO := ow_root hX hbel hbox HD3.out.ge hfar x0 (n / 4) (tn : Int)
    rw [← HM1.out.1]
    unfold wo1
    rw [HM1.out.2]
    exact hO
  case rest =>
  have HD4 : Hid (OwR w1 wc w3.heap.size M1) := hcut
  clear hcut HD3
  obtain ⟨we, hwe⟩ : ∃ X, X = wc := ⟨_, rfl⟩
  subst hwe
  obtain ⟨val, hX, hbox, hfar⟩ := HD4.out.ex
  have hbel := HD4.out.bel
  obtain ⟨p0, q0, p1, q1, p2, q2, p3, q3, x0, x1, x2, x3⟩ := hX.four'
  have hbx := hbox
  rw [x0, x1, x2, x3] at hbx
  obtain ⟨d0, d1, d2, d3, d4⟩ := five hbx
  have hS : Slots we (val .slots) M1.slots := Img.four (show Img we (.agg #[_, _, _, _, _]) M1 from hX.img) |>.2.1
  have hG := grabOf_wide hS HT.out.1 HT.out.2.1 HT.out.2.2
  rw [x1] at hG
  have z9 := cells_below n1 hbel hz1
  obtain ⟨z0, z1, z2, z3, z4⟩ := five z9
  have y0 := cells_frozen z9 0; have y1 := cells_frozen z9 1; have y2 := cells_frozen z9 2; have y3 := cells_frozen z9 3; have y4 := cells_frozen z9 4
  have nD1 : ¬ w3.heap.size = w.heap.size + 1 := by omega
  have nD2 : ¬ w.heap.size + 1 = w3.heap.size := by omega
  clear hX hbox hfar hbx HTb cR rl1 HF
  go_wp2_with (go_at_call 65; refine hG.mono ?_; rintro e4 w4 ⟨rfl, hw⟩; rw [hw]; clear hw)
  have hBz : Below w.heap.size w we := Below.on bw HD4.out.bel
  refine bodyPost_ret (v := .tuple #[.agg #[.int .i64 0, .slice none 0 0, .slice none 0 0, .slice none 0 0, .slice none 0 0], .int .i64 7]) (by simp [results, Tryz.results35, go_sem, z0, z1, z2, z3, z4]) rfl ⟨none, 0, none, 0, none, 0, none, 0, rfl, fun W' _ => imgZ_im W', below_five hBz (Nat.le_succ _) _ _ _ _ _⟩
end Go.Proofs.YtehleeibgkpjmafGreat
/- Contract of the document's WriteOf: the table elsewhere. -/
namespace Go.Proofs.YtehleeibgkpjmafGreat
open Go.RowKit Go.Shelf
set_option maxRecDepth 20000
set_option linter.unusedVariables false
set_option linter.unusedSimpArgs false

set_option maxHeartbeats 16000000 in
theorem wo_nk (rb ro rc : Nat) (sa : Option Addr) (sc : Nat) (fb fo fc : Nat) (na : Option Addr) (nc : Nat) (m : ImgD) (n : Nat) (page : ByteArray) (w : World) (h : Img w (.agg #[.int .i64 m.guest, .slice (some ⟨rb, ro, none⟩) m.root.length rc, .slice sa m.slots.length sc, .slice (some ⟨fb, fo, none⟩) m.refs.length fc, .slice na m.snaps.length nc]) m) (hrc : ∀ j, j < m.root.length → w.cell? ⟨rb, ro + j, none⟩ = some (.int .i64 (m.root.getD j 0))) (hrl : rb < w.heap.size) (hfc : ∀ j, j < m.refs.length → w.cell? ⟨fb, fo + j, none⟩ = some (.int .i64 (m.refs.getD j 0))) (hfl : fb < w.heap.size) (hC : checkE m = 0) (hn : (n : Int) < m.guest) (hp : page.size = 4) (t : Nat) (ht : m.root.getD (n / 4) 0 = (t : Int)) (e : Int) (he : lookV m m.root n = e) (tn dn : Nat) (htn : tabN m (n / 4) = tn) (M1 : ImgD) (hM1 : wo1 m n = M1) (hnot : 0 < e → 1 ≤ t) (hmany : 1 ≤ t → 1 < m.refs.getD t 0) (HG : Hid (grabN m.slots = tn ∧ 1 ≤ m.slots.length ∧ m.slots.length ≤ 40 ∧ tn < 40 ∧ 1 ≤ tn ∧ tn ≤ m.slots.length)) (HT : Hid (1 ≤ M1.slots.length ∧ M1.slots.length ≤ 40 ∧ (if grabN M1.slots = 40 then (0 : Int) else grabN M1.slots) = (dn : Int))) (HE : Hid (dn ≤ M1.slots.length ∧ 1 ≤ dn ∧ tn < (layS M1.slots dn (1, page, [])).length ∧ (layS M1.slots dn (1, page, [])).getD tn default = (2, ⟨#[]⟩, tableO m (n / 4)) ∧ (layS M1.slots dn (1, page, [])).set tn (2, ⟨#[]⟩, (tableO m (n / 4)).set (n % 4) (dn : Int)) = wL m n page)) (M3 : ImgD) (HM3 : Hid ({ M1 with slots := wL m n page } = M3 ∧ shapeE { M3 with refs := rfZ M3.slots } = 0)) :
    Calls Tryz.prog 35 #[.agg #[.int .i64 m.guest, .slice (some ⟨rb, ro, none⟩) m.root.length rc, .slice sa m.slots.length sc, .slice (some ⟨fb, fo, none⟩) m.refs.length fc, .slice na m.snaps.length nc], .int .i64 (n : Int), .string page] w (AnsJ w (countedD M3) 0) := by
  have b0 : Below w.heap.size w ((w.alloc (.cells #[.int .i64 m.guest, .slice (some ⟨rb, ro, none⟩) m.root.length rc, .slice sa m.slots.length sc, .slice (some ⟨fb, fo, none⟩) m.refs.length fc, .slice na m.snaps.length nc] 27)).alloc (.cells #[.int .i64 0, .slice none 0 0, .slice none 0 0, .slice none 0 0, .slice none 0 0] 27)) := ((Below.refl _ _).alloc (Nat.le_refl _) _).alloc (by simp) _
  have m0 : ((w.alloc (.cells #[.int .i64 m.guest, .slice (some ⟨rb, ro, none⟩) m.root.length rc, .slice sa m.slots.length sc, .slice (some ⟨fb, fo, none⟩) m.refs.length fc, .slice na m.snaps.length nc] 27)).alloc (.cells #[.int .i64 0, .slice none 0 0, .slice none 0 0, .slice none 0 0, .slice none 0 0] 27)).heap[w.heap.size]? = some (.cells #[.int .i64 m.guest, .slice (some ⟨rb, ro, none⟩) m.root.length rc, .slice sa m.slots.length sc, .slice (some ⟨fb, fo, none⟩) m.refs.length fc, .slice na m.snaps.length nc] 27) := cells_alloc (World.alloc_heap_new _ _) _
  have m1 : ((w.alloc (.cells #[.int .i64 m.guest, .slice (some ⟨rb, ro, none⟩) m.root.length rc, .slice sa m.slots.length sc, .slice (some ⟨fb, fo, none⟩) m.refs.length fc, .slice na m.snaps.length nc] 27)).alloc (.cells #[.int .i64 0, .slice none 0 0, .slice none 0 0, .slice none 0 0, .slice none 0 0] 27)).heap[w.heap.size + 1]? = some (.cells #[.int .i64 0, .slice none 0 0, .slice none 0 0, .slice none 0 0, .slice none 0 0] 27) := by have := World.alloc_heap_new (w.alloc (.cells #[.int .i64 m.guest, .slice (some ⟨rb, ro, none⟩) m.root.length rc, .slice sa m.slots.length sc, .slice (some ⟨fb, fo, none⟩) m.refs.length fc, .slice na m.snaps.length nc] 27)) (.cells #[.int .i64 0, .slice none 0 0, .slice none 0 0, .slice none 0 0, .slice none 0 0] 27); simpa using this
  have hsz : w.heap.size + 1 < ((w.alloc (.cells #[.int .i64 m.guest, .slice (some ⟨rb, ro, none⟩) m.root.length rc, .slice sa m.slots.length sc, .slice (some ⟨fb, fo, none⟩) m.refs.length fc, .slice na m.snaps.length nc] 27)).alloc (.cells #[.int .i64 0, .slice none 0 0, .slice none 0 0, .slice none 0 0, .slice none 0 0] 27)).heap.size := by simp
  have hs := checkE_shape hC
  have hgt := guest_ok hs
  have hrt := root_ok hs
  have hr : n / 4 < m.root.length := by omega
  have htl : t < m.slots.length := by obtain ⟨t', ht', h'⟩ := root_nat hs hr; omega
  have hrf : m.refs.length = m.slots.length := (shapeE_zero hs).2.2.1
  have hlen : (tableO m (n / 4)).length = 4 := ckE_len (tableO_ok hs hr).1
  have I0 := h.below b0
  have hlk := lookErr_is I0 (n : Int) (lookE_of hC hn)
  have e4 : ((n / 4 : Nat) : Int) = (n : Int) / 4 := by omega
  have hq1 : ((n : Int) / 4).toNat = n / 4 := by omega
  have hq2 : ((n : Int) % 4).toNat = n % 4 := by omega
  have hri : (n : Int) / 4 < (m.root.length : Int) := by omega
  have h4 : n % 4 < 4 := by omega
  have h4i : (n : Int) % 4 < 4 := by omega
  have h16 : n < 16 := by omega
  have h0q : ¬ (n : Int) / 4 < 0 := by omega
  have h0r : ¬ (n : Int) % 4 < 0 := by omega
  have h0a : 0 ≤ (n : Int) / 4 := by omega
  have h0b : 0 ≤ (n : Int) % 4 := by omega
  have hpz : ((page.size : Int) != 4) = false := by rw [hp]; rfl
  have HR0 : Hid (((w.alloc (.cells #[.int .i64 m.guest, .slice (some ⟨rb, ro, none⟩) m.root.length rc, .slice sa m.slots.length sc, .slice (some ⟨fb, fo, none⟩) m.refs.length fc, .slice na m.snaps.length nc] 27)).alloc (.cells #[.int .i64 0, .slice none 0 0, .slice none 0 0, .slice none 0 0, .slice none 0 0] 27)).cell? ⟨rb, ro + n / 4, none⟩ = some (.int .i64 (t : Int)) ∧ rb < ((w.alloc (.cells #[.int .i64 m.guest, .slice (some ⟨rb, ro, none⟩) m.root.length rc, .slice sa m.slots.length sc, .slice (some ⟨fb, fo, none⟩) m.refs.length fc, .slice na m.snaps.length nc] 27)).alloc (.cells #[.int .i64 0, .slice none 0 0, .slice none 0 0, .slice none 0 0, .slice none 0 0] 27)).heap.size) := ⟨by rw [← ht]; exact (b0.cell (p := ⟨rb, ro + n / 4, none⟩) hrl).trans (hrc (n / 4) hr), Nat.lt_of_lt_of_le hrl b0.size⟩
  have HF0 : Hid (∀ j, j < m.refs.length → ((w.alloc (.cells #[.int .i64 m.guest, .slice (some ⟨rb, ro, none⟩) m.root.length rc, .slice sa m.slots.length sc, .slice (some ⟨fb, fo, none⟩) m.refs.length fc, .slice na m.snaps.length nc] 27)).alloc (.cells #[.int .i64 0, .slice none 0 0, .slice none 0 0, .slice none 0 0, .slice none 0 0] 27)).cell? ⟨fb, fo + j, none⟩ = some (.int .i64 (m.refs.getD j 0)) ∧ fb < ((w.alloc (.cells #[.int .i64 m.guest, .slice (some ⟨rb, ro, none⟩) m.root.length rc, .slice sa m.slots.length sc, .slice (some ⟨fb, fo, none⟩) m.refs.length fc, .slice na m.snaps.length nc] 27)).alloc (.cells #[.int .i64 0, .slice none 0 0, .slice none 0 0, .slice none 0 0, .slice none 0 0] 27)).heap.size) := fun j hj => ⟨(b0.cell (p := ⟨fb, fo + j, none⟩) hfl).trans (hfc j hj), Nat.lt_of_lt_of_le hfl b0.size⟩
  have HP : Hid (checkE m = 0 ∧ shapeE m = 0 ∧ m.root.getD (n / 4) 0 = (t : Int) ∧ lookV m m.root n = e ∧ (n : Int) < m.guest ∧ (tableO m (n / 4)).length = 4 ∧ m.refs.length = m.slots.length ∧ page.size = 4) := ⟨hC, hs, ht, he, hn, hlen, hrf, hp⟩
  clear h hrc hrl hfc hfl hC hs hgt hrt hn ht he hlen hrf hp
  have HM1 : Hid (wo1 m n = M1 ∧ tabN m (n / 4) = tn) := ⟨hM1, htn⟩
  clear hM1 htn
  go_enter Tryz.func35, Tryz.ntmps35
  obtain ⟨c0, c1, c2, c3, c4⟩ := five m0
  go_wp2_with (go_at_call 63; refine hlk.mono ?_; rintro e1 w1 ⟨rfl, b1⟩)
  clear c0 c1 c2 c3 c4
  have hz1 : w.heap.size + 1 < w1.heap.size := Nat.lt_of_lt_of_le hsz b1.size
  have n0 := cells_below m0 b1 (by omega)
  have n1 := cells_below m1 b1 hsz
  have I1 := I0.below b1
  have bw : Below w.heap.size w w1 := Below.on b0 b1
  have cR : w1.cell? ⟨rb, ro + n / 4, none⟩ = some (.int .i64 (t : Int)) := (b1.cell (p := ⟨rb, ro + n / 4, none⟩) HR0.out.2).trans HR0.out.1
  have rl1 : rb < w1.heap.size := Nat.lt_of_lt_of_le HR0.out.2 b1.size
  have HF : Hid (∀ j, j < m.refs.length → w1.cell? ⟨fb, fo + j, none⟩ = some (.int .i64 (m.refs.getD j 0)) ∧ fb < w1.heap.size) := fun j hj => ⟨(b1.cell (p := ⟨fb, fo + j, none⟩) (HF0.out j hj).2).trans (HF0.out j hj).1, Nat.lt_of_lt_of_le (HF0.out j hj).2 b1.size⟩
  have HLk : Hid (∀ W, Below w1.heap.size w1 W → Calls Tryz.prog 50 #[.agg #[.int .i64 m.guest, .slice (some ⟨rb, ro, none⟩) m.root.length rc, .slice sa m.slots.length sc, .slice (some ⟨fb, fo, none⟩) m.refs.length fc, .slice na m.snaps.length nc], .int .i64 (n : Int)] W fun r w' => r = .returned (.int .i64 e) ∧ Below W.heap.size W w') := fun W hW => lookOf_is (I1.below hW) (n : Int) (lookE_of HP.out.1 HP.out.2.2.2.2.1) (by rw [Int.toNat_natCast]; exact HP.out.2.2.2.1)
  have HOw : Hid (∀ W, Below w1.heap.size w1 W → Calls Tryz.prog 64 #[.agg #[.int .i64 m.guest, .slice (some ⟨rb, ro, none⟩) m.root.length rc, .slice sa m.slots.length sc, .slice (some ⟨fb, fo, none⟩) m.refs.length fc, .slice na m.snaps.length nc]] W fun r w' => ∃ val, r = .returned (imgV m.guest val) ∧ OX w' W.heap.size val m ∧ Below W.heap.size W w') := fun W hW => ownImage_is (I1.below hW) HP.out.2.1
  have HTb : Hid (∀ W, Below w1.heap.size w1 W → Calls Tryz.prog 67 #[.agg #[.int .i64 m.guest, .slice (some ⟨rb, ro, none⟩) m.root.length rc, .slice sa m.slots.length sc, .slice (some ⟨fb, fo, none⟩) m.refs.length fc, .slice na m.snaps.length nc], .int .i64 (t : Int)] W fun r w' => ∃ g cap, r = .returned (.slice (some ⟨g, 0, none⟩) 4 cap) ∧ w'.ownsRow W.heap.size 3 1 (.slice (some ⟨g, 0, none⟩) 4 cap) 4 (ints (tableO m (n / 4))) ∧ W.heap.size ≤ g ∧ Below W.heap.size W w') := fun W hW => by
    have e := tabAt_O HP.out.2.2.1
    refine (tableOf_is (I1.below hW) htl (by rw [e, HP.out.2.2.2.2.2.1]; decide)).mono ?_
    rintro r w' ⟨v, rfl, h1, h2, h3⟩
    rw [e, HP.out.2.2.2.2.2.1] at h1
    obtain ⟨g, cap, rfl⟩ := row_some h1
    exact ⟨g, cap, rfl, h1, h2 g rfl, h3⟩
  clear b0 b1 m0 m1 I0 I1 HR0 HF0 hlk hsz
  refine wp_region_held_drew (S := (fun X : World => X.heap[w.heap.size]? = some (.cells #[.int .i64 m.guest, .slice (some ⟨rb, ro, none⟩) m.root.length rc, .slice sa m.slots.length sc, .slice (some ⟨fb, fo, none⟩) m.refs.length fc, .slice na m.snaps.length nc] 27) ∧ X.cell? ⟨rb, ro + n / 4, none⟩ = some (.int .i64 (t : Int)))) (by kernel_rfl) ⟨n0, cR⟩ (fun hHeld => ?_)
  refine wpAnyH_take (i := 0) (v := .pointer (some ⟨w.heap.size, 1, none⟩)) rfl (by kernel_rfl) (by kernel_rfl) (by kernel_rfl) (fun _ _ _ h => h) (Or.inl ⟨by rfl, fun w' hSw => by obtain ⟨qa, qb⟩ := hSw; obtain ⟨j0, j1, j2, j3, j4⟩ := five qa; go_simp⟩) hHeld ?_
  simp only [Act.put, List.getElem_toArray, List.getElem_cons_succ, List.getElem_cons_zero, List.setIfInBounds_toArray, List.set_cons_zero, List.set_cons_succ]
  refine wpAnyH_take (i := 1) (v := .slice (some ⟨rb, ro, none⟩) m.root.length rc) rfl (by kernel_rfl) (by kernel_rfl) (by kernel_rfl) (fun _ _ _ h => h) (Or.inl ⟨by rfl, fun w' hSw => by obtain ⟨qa, qb⟩ := hSw; obtain ⟨j0, j1, j2, j3, j4⟩ := five qa; go_simp⟩) hHeld ?_
  simp only [Act.put, List.getElem_toArray, List.getElem_cons_succ, List.getElem_cons_zero, List.setIfInBounds_toArray, List.set_cons_zero, List.set_cons_succ]
  refine wpAnyH_take (i := 2) (v := .int .i64 ((n : Int) / 4)) rfl (by kernel_rfl) (by kernel_rfl) (by kernel_rfl) (fun _ _ _ h => h) (Or.inl ⟨by rfl, fun w' hSw => by obtain ⟨qa, qb⟩ := hSw; obtain ⟨j0, j1, j2, j3, j4⟩ := five qa; go_simp⟩) hHeld ?_
  simp only [Act.put, List.getElem_toArray, List.getElem_cons_succ, List.getElem_cons_zero, List.setIfInBounds_toArray, List.set_cons_zero, List.set_cons_succ]
  refine wpAnyH_take (i := 3) (v := .pointer (some ⟨rb, ro + n / 4, none⟩)) rfl (by kernel_rfl) (by kernel_rfl) (by kernel_rfl) (fun _ _ _ h => h) (Or.inl ⟨by rfl, fun w' hSw => by obtain ⟨qa, qb⟩ := hSw; obtain ⟨j0, j1, j2, j3, j4⟩ := five qa; go_simp⟩) hHeld ?_
  simp only [Act.put, List.getElem_toArray, List.getElem_cons_succ, List.getElem_cons_zero, List.setIfInBounds_toArray, List.set_cons_zero, List.set_cons_succ]
  refine wpAnyH_take (i := 4) (v := .int .i64 (t : Int)) rfl (by kernel_rfl) (by kernel_rfl) (by kernel_rfl) (fun _ _ _ h => h) (Or.inl ⟨by rfl, fun w' hSw => by obtain ⟨qa, qb⟩ := hSw; obtain ⟨j0, j1, j2, j3, j4⟩ := five qa; go_simp⟩) hHeld ?_
  simp only [Act.put, List.getElem_toArray, List.getElem_cons_succ, List.getElem_cons_zero, List.setIfInBounds_toArray, List.set_cons_zero, List.set_cons_succ]
  refine wpAnyH_take (i := 5) (v := .agg #[.int .i64 m.guest, .slice (some ⟨rb, ro, none⟩) m.root.length rc, .slice sa m.slots.length sc, .slice (some ⟨fb, fo, none⟩) m.refs.length fc, .slice na m.snaps.length nc]) rfl (by kernel_rfl) (by kernel_rfl) (by kernel_rfl) (fun _ _ _ h => h) (Or.inl ⟨by rfl, fun w' hSw => by obtain ⟨qa, qb⟩ := hSw; obtain ⟨j0, j1, j2, j3, j4⟩ := five qa; go_simp⟩) hHeld ?_
  simp only [Act.put, List.getElem_toArray, List.getElem_cons_succ, List.getElem_cons_zero, List.setIfInBounds_toArray, List.set_cons_zero, List.set_cons_succ]
  refine wpAnyH_take (i := 6) (v := .int .i64 (n : Int)) rfl (by kernel_rfl) (by kernel_rfl) (by kernel_rfl) (fun _ _ _ h => h) (Or.inl ⟨by rfl, fun w' hSw => by obtain ⟨qa, qb⟩ := hSw; obtain ⟨j0, j1, j2, j3, j4⟩ := five qa; go_simp⟩) hHeld ?_
  simp only [Act.put, List.getElem_toArray, List.getElem_cons_succ, List.getElem_cons_zero, List.setIfInBounds_toArray, List.set_cons_zero, List.set_cons_succ]
  refine wpAnyH_ready (rs := [7]) (by kernel_rfl) (by simp) ?_
  refine AllReadyH.cons rfl (fun K hK => ?_) AllReadyH.nil
  clear hHeld
  simp only [Act.put, List.getElem_toArray, List.getElem_cons_succ, List.getElem_cons_zero, List.setIfInBounds_toArray, List.set_cons_zero, List.set_cons_succ]
  rw [if_pos (by rfl)]
  go_wp2_with (go_at_call 50; refine (HLk.out _ (to_drew (Below.refl _ _))).mono ?_; rintro e2 w2 ⟨rfl, b2⟩)
  have b2 : Below w1.heap.size w1 w2 := below_drew b2
  have k0 := cells_below n0 b2 (by omega)
  have cR2 := (b2.cell (p := ⟨rb, ro + n / 4, none⟩) rl1).trans cR
  refine hK.out _ _ ⟨k0, cR2⟩ (fun hHeld => ?_)
  clear hK K
  try simp only [Act.put, List.getElem_toArray, List.getElem_cons_succ, List.getElem_cons_zero, List.setIfInBounds_toArray, List.set_cons_zero, List.set_cons_succ]
  refine wpAnyH_take (i := 8) (v := .int .i64 (t : Int)) rfl (by kernel_rfl) (by kernel_rfl) (by kernel_rfl) (fun _ _ _ h => h) (Or.inl ⟨by rfl, fun w' hSw => by go_simp⟩) hHeld ?_
  simp only [Act.put, List.getElem_toArray, List.getElem_cons_succ, List.getElem_cons_zero, List.setIfInBounds_toArray, List.set_cons_zero, List.set_cons_succ]
  refine wpAnyH_take (i := 9) (v := .int .i64 e) rfl (by kernel_rfl) (by kernel_rfl) (by kernel_rfl) (fun _ _ _ h => h) (Or.inl ⟨by rfl, fun w' hSw => by go_simp⟩) hHeld ?_
  simp only [Act.put, List.getElem_toArray, List.getElem_cons_succ, List.getElem_cons_zero, List.setIfInBounds_toArray, List.set_cons_zero, List.set_cons_succ]
  clear hHeld
  refine wpAnyH_done (by kernel_rfl) ?_ _
  obtain ⟨c0, c1, c2, c3, c4⟩ := five k0
  go_upto_region 9 with (go_at_call 64; refine (HOw.out w2 b2).mono ?_; rintro e3 w3 ⟨val, rfl, hO, b3⟩; obtain ⟨p0, q0, p1, q1, p2, q2, p3, q3, x0, x1, x2, x3⟩ := hO.four'; unfold imgV; rw [x0, x1, x2, x3])
  have s2 := b2.size
  have s3 := b3.size
  have HD0 : Hid (OwR w1 (w3.alloc (.cells #[.int .i64 m.guest, .slice p0 m.root.length q0, .slice p1 m.slots.length q1, .slice p2 m.refs.length q2, .slice p3 m.snaps.length q3] 27)) w3.heap.size m) := ⟨⟨val, (hO.mono s2).alloc _, by rw [x0, x1, x2, x3]; exact World.alloc_heap_new _ _, hO.lt (Nat.le_refl _)⟩, by omega, (b2.trans (b3.mono s2)).alloc (by omega) _⟩
  clear hO x0 x1 x2 x3 c0 c1 c2 c3 c4 k0 cR2 HLk HOw
  have M0 := cells_below n0 HD0.out.bel (by omega)
  obtain ⟨c0, c1, c2, c3, c4⟩ := five M0
  have HF3 : Hid (∀ j, j < m.refs.length → (w3.alloc (.cells #[.int .i64 m.guest, .slice p0 m.root.length q0, .slice p1 m.slots.length q1, .slice p2 m.refs.length q2, .slice p3 m.snaps.length q3] 27)).cell? ⟨fb, fo + j, none⟩ = some (.int .i64 (m.refs.getD j 0))) := fun j hj => (HD0.out.bel.cell (p := ⟨fb, fo + j, none⟩) (HF.out j hj).2).trans (HF.out j hj).1
  clear b2 b3 M0
  have hDw : w1.heap.size ≤ w3.heap.size := HD0.out.ge
  go_cut [54] from 14 (fun s wx => s = .bool false ∧ Hid (OwR w1 wx w3.heap.size m))
  case first =>
    by_cases hpos : 0 < e
    · obtain ⟨en, rfl⟩ := Int.eq_ofNat_of_zero_le (Int.le_of_lt hpos)
      have g1 : decide (0 < (en : Int)) = true := by simpa using hpos
      have ct := HF3.out t (by have := HP.out.2.2.2.2.2.2.1; omega)
      have l1 : (t : Int) < (m.refs.length : Int) := by have := HP.out.2.2.2.2.2.2.1; omega
      obtain ⟨xt, hxt⟩ : ∃ x, m.refs.getD t 0 = x := ⟨_, rfl⟩
      have hrt2 := hmany (hnot hpos)
      rw [hxt] at ct hrt2
      have g3 : (xt == 1) = false := by simp; omega
      clear hxt hrt2 hnot hmany
      go_wp2_with fail; go_meet; exact ⟨rfl, HD0⟩
    · have g1 : decide (0 < e) = false := by simpa using hpos
      go_wp2_with fail; go_meet; exact ⟨rfl, HD0⟩
  case rest =>
  obtain ⟨rfl, HD1⟩ := hcut
  clear HD0 HF3 c0 c1 c2 c3 c4
  obtain ⟨wa, hwa⟩ : ∃ X, X = wc := ⟨_, rfl⟩
  subst hwa
  go_upto_region 12 with fail
  have M0 := cells_below n0 HD1.out.bel (by omega)
  obtain ⟨c0, c1, c2, c3, c4⟩ := five M0
  have HF1 : Hid (∀ j, j < m.refs.length → wa.cell? ⟨fb, fo + j, none⟩ = some (.int .i64 (m.refs.getD j 0))) := fun j hj => (HD1.out.bel.cell (p := ⟨fb, fo + j, none⟩) (HF.out j hj).2).trans (HF.out j hj).1
  go_cut [71] from 14 (fun s wx => s = .bool true ∧ Hid (OwR w1 wx w3.heap.size m))
  case first =>
    rcases Nat.eq_zero_or_pos t with h0 | h1
    · subst h0
      go_wp2_with fail; go_meet; exact ⟨rfl, HD1⟩
    · have g1 : ((t : Int) == 0) = false := by simp; omega
      have ct := HF1.out t (by have := HP.out.2.2.2.2.2.2.1; omega)
      obtain ⟨xt, hxt⟩ : ∃ x, m.refs.getD t 0 = x := ⟨_, rfl⟩
      have hrt2 := hmany h1
      rw [hxt] at ct hrt2
      have l1 : (t : Int) < (m.refs.length : Int) := by have := HP.out.2.2.2.2.2.2.1; omega
      have g3 : decide (1 < xt) = true := by simp; omega
      clear hxt hmany
      go_wp2_with fail; go_meet; exact ⟨rfl, HD1⟩
  case rest =>
  obtain ⟨rfl, HD2⟩ := hcut
  clear HD1 HF1 M0 c0 c1 c2 c3 c4
  obtain ⟨wb, hwb⟩ : ∃ X, X = wc := ⟨_, rfl⟩
  subst hwb
  obtain ⟨val, hX, hbox, hfar⟩ := HD2.out.ex
  have hbel := HD2.out.bel
  obtain ⟨p0, q0, p1, q1, p2, q2, p3, q3, x0, x1, x2, x3⟩ := hX.four'
  have hbx := hbox
  rw [x0, x1, x2, x3] at hbx
  obtain ⟨d0, d1, d2, d3, d4⟩ := five hbx
  have hS : Slots wb (val .slots) m.slots := Img.four (show Img wb (.agg #[_, _, _, _, _]) m from hX.img) |>.2.1
  have hG := grabOf_wide hS HG.out.2.1 HG.out.2.2.1 (c := (tn : Int)) (by rw [HG.out.1, if_neg (by have := HG.out.2.2.2.1; omega)])
  rw [x1] at hG
  have htn0 : ((tn : Int) == 0) = false := by have := HG.out.2.2.2.2.1; simp; omega
  go_upto_region 16 with (go_at_call 65; refine hG.mono ?_; rintro e4 w4 ⟨rfl, hw⟩; rw [hw]; clear hw)
  clear hG hS htn0 d0 d1 d2 d3 d4
  go_cut [] from 14 (fun wx => Hid (OwR w1 wx w3.heap.size { m with slots := tabL m (n / 4) (tableO m (n / 4)) }))
  case first =>
    have hDl : w3.heap.size < wb.heap.size := (Array.getElem?_eq_some_iff.1 hbx).1
    have MX := cells_below n0 hbel (by omega)
    have cRa := (hbel.cell (p := ⟨rb, ro + n / 4, none⟩) rl1).trans cR
    have hsB := hbel.size
    refine wp_region_held_drew (S := (fun X : World => X.heap[w.heap.size]? = some (.cells #[.int .i64 m.guest, .slice (some ⟨rb, ro, none⟩) m.root.length rc, .slice sa m.slots.length sc, .slice (some ⟨fb, fo, none⟩) m.refs.length fc, .slice na m.snaps.length nc] 27) ∧ X.cell? ⟨rb, ro + n / 4, none⟩ = some (.int .i64 (t : Int)))) (by kernel_rfl) ⟨MX, cRa⟩ (fun hHeld => ?_)
    refine wpAnyH_take (i := 1) (v := .int .i64 (tn : Int)) rfl (by kernel_rfl) (by kernel_rfl) (by kernel_rfl) (fun _ _ _ h => h) (Or.inl ⟨by rfl, fun w' hSw => by obtain ⟨qa, qb⟩ := hSw; obtain ⟨j0, j1, j2, j3, j4⟩ := five qa; go_simp⟩) hHeld ?_
    simp only [Act.put, List.getElem_toArray, List.getElem_cons_succ, List.getElem_cons_zero, List.setIfInBounds_toArray, List.set_cons_zero, List.set_cons_succ]
    refine wpAnyH_take (i := 2) (v := .agg #[.int .i64 m.guest, .slice (some ⟨rb, ro, none⟩) m.root.length rc, .slice sa m.slots.length sc, .slice (some ⟨fb, fo, none⟩) m.refs.length fc, .slice na m.snaps.length nc]) rfl (by kernel_rfl) (by kernel_rfl) (by kernel_rfl) (fun _ _ _ h => h) (Or.inl ⟨by rfl, fun w' hSw => by obtain ⟨qa, qb⟩ := hSw; obtain ⟨j0, j1, j2, j3, j4⟩ := five qa; go_simp⟩) hHeld ?_
    simp only [Act.put, List.getElem_toArray, List.getElem_cons_succ, List.getElem_cons_zero, List.setIfInBounds_toArray, List.set_cons_zero, List.set_cons_succ]
    refine wpAnyH_take (i := 3) (v := .pointer (some ⟨w.heap.size, 1, none⟩)) rfl (by kernel_rfl) (by kernel_rfl) (by kernel_rfl) (fun _ _ _ h => h) (Or.inl ⟨by rfl, fun w' hSw => by obtain ⟨qa, qb⟩ := hSw; obtain ⟨j0, j1, j2, j3, j4⟩ := five qa; go_simp⟩) hHeld ?_
    simp only [Act.put, List.getElem_toArray, List.getElem_cons_succ, List.getElem_cons_zero, List.setIfInBounds_toArray, List.set_cons_zero, List.set_cons_succ]
    refine wpAnyH_take (i := 4) (v := .slice (some ⟨rb, ro, none⟩) m.root.length rc) rfl (by kernel_rfl) (by kernel_rfl) (by kernel_rfl) (fun _ _ _ h => h) (Or.inl ⟨by rfl, fun w' hSw => by obtain ⟨qa, qb⟩ := hSw; obtain ⟨j0, j1, j2, j3, j4⟩ := five qa; go_simp⟩) hHeld ?_
    simp only [Act.put, List.getElem_toArray, List.getElem_cons_succ, List.getElem_cons_zero, List.setIfInBounds_toArray, List.set_cons_zero, List.set_cons_succ]
    refine wpAnyH_take (i := 5) (v := .int .i64 ((n : Int) / 4)) rfl (by kernel_rfl) (by kernel_rfl) (by kernel_rfl) (fun _ _ _ h => h) (Or.inl ⟨by rfl, fun w' hSw => by obtain ⟨qa, qb⟩ := hSw; obtain ⟨j0, j1, j2, j3, j4⟩ := five qa; go_simp⟩) hHeld ?_
    simp only [Act.put, List.getElem_toArray, List.getElem_cons_succ, List.getElem_cons_zero, List.setIfInBounds_toArray, List.set_cons_zero, List.set_cons_succ]
    refine wpAnyH_take (i := 6) (v := .pointer (some ⟨rb, ro + n / 4, none⟩)) rfl (by kernel_rfl) (by kernel_rfl) (by kernel_rfl) (fun _ _ _ h => h) (Or.inl ⟨by rfl, fun w' hSw => by obtain ⟨qa, qb⟩ := hSw; obtain ⟨j0, j1, j2, j3, j4⟩ := five qa; go_simp⟩) hHeld ?_
    simp only [Act.put, List.getElem_toArray, List.getElem_cons_succ, List.getElem_cons_zero, List.setIfInBounds_toArray, List.set_cons_zero, List.set_cons_succ]
    refine wpAnyH_take (i := 7) (v := .int .i64 (t : Int)) rfl (by kernel_rfl) (by kernel_rfl) (by kernel_rfl) (fun _ _ _ h => h) (Or.inl ⟨by rfl, fun w' hSw => by obtain ⟨qa, qb⟩ := hSw; obtain ⟨j0, j1, j2, j3, j4⟩ := five qa; go_simp⟩) hHeld ?_
    simp only [Act.put, List.getElem_toArray, List.getElem_cons_succ, List.getElem_cons_zero, List.setIfInBounds_toArray, List.set_cons_zero, List.set_cons_succ]
    refine wpAnyH_ready (rs := [0, 8]) (by kernel_rfl) (by simp) ?_
    refine AllReadyH.cons rfl (fun K hK => ?_) (AllReadyH.cons rfl (fun K hK => ?_) AllReadyH.nil)
    · clear hHeld
      simp only [Act.put, List.getElem_toArray, List.getElem_cons_succ, List.getElem_cons_zero, List.setIfInBounds_toArray, List.set_cons_zero, List.set_cons_succ]
      rw [if_pos (by rfl)]
      have hbd : wb.drew.heap[w3.heap.size]? = some (.cells #[.int .i64 m.guest, .slice p0 m.root.length q0, .slice p1 m.slots.length q1, .slice p2 m.refs.length q2, .slice p3 m.snaps.length q3] 27) := hbx
      obtain ⟨v0, v1, v2, v3, v4⟩ := five hbd
      go_simp
      refine hK.out _ _ ⟨MX, cRa⟩ (fun hHeld => ?_)
      clear hK K v0 v1 v2 v3 v4
      try simp only [Act.put, List.getElem_toArray, List.getElem_cons_succ, List.getElem_cons_zero, List.setIfInBounds_toArray, List.set_cons_zero, List.set_cons_succ]
      refine wpAnyH_ready (rs := [8]) (by kernel_rfl) (by simp) ?_
      refine AllReadyH.cons rfl (fun K hK => ?_) AllReadyH.nil
      clear hHeld
      simp only [Act.put, List.getElem_toArray, List.getElem_cons_succ, List.getElem_cons_zero, List.setIfInBounds_toArray, List.set_cons_zero, List.set_cons_succ]
      rw [if_pos (by rfl)]
      go_wp2_with (go_at_call 67; refine (HTb.out _ (to_drew hbel)).mono ?_; rintro e5 w4 ⟨g, cap, rfl, hev, hge, b4⟩)
      have b4 : Below wb.heap.size wb w4 := below_drew b4
      have hge : wb.heap.size ≤ g := hge
      have hev : w4.ownsRow w1.heap.size 3 1 (.slice (some ⟨g, 0, none⟩) 4 cap) (tableO m (n / 4)).length (ints (tableO m (n / 4))) := by
        rw [HP.out.2.2.2.2.2.1]
        exact row_mono hev (show w1.heap.size ≤ wb.heap.size from hsB)
      have hgl : g < w4.heap.size := (hev.lt g rfl).2
      have s4 := b4.size
      have MX4 := cells_below MX b4 (by omega)
      have D4 := cells_below hbx b4 hDl
      have cR4 := (b4.cell (p := ⟨rb, ro + n / 4, none⟩) (Nat.lt_of_lt_of_le rl1 hsB)).trans cRa
      refine hK.out _ _ ⟨MX4, cR4⟩ (fun hHeld => ?_)
      clear hK K
      try simp only [Act.put, List.getElem_toArray, List.getElem_cons_succ, List.getElem_cons_zero, List.setIfInBounds_toArray, List.set_cons_zero, List.set_cons_succ]
      refine wpAnyH_take (i := 9) (v := .agg #[.int .i64 2, .string ⟨#[]⟩, .slice (some ⟨g, 0, none⟩) 4 cap]) rfl (by kernel_rfl) (by kernel_rfl) (by kernel_rfl) (fun _ _ _ h => h) (Or.inl ⟨by rfl, fun w' hSw => by obtain ⟨qa, qb⟩ := hSw; obtain ⟨j0, j1, j2, j3, j4⟩ := five qa; go_simp⟩) hHeld ?_
      simp only [Act.put, List.getElem_toArray, List.getElem_cons_succ, List.getElem_cons_zero, List.setIfInBounds_toArray, List.set_cons_zero, List.set_cons_succ]
      have hX4 : OX w4 w1.heap.size val m := hX.below b4
      have hL := layX_is m.guest (k := 2) (d := ⟨#[]⟩) hX4 (Nat.le_trans hsB s4) HG.out.2.2.2.2.2 (by have := HG.out.2.2.1; omega) hev (fun b hb _ q hq x => by have h1 := ((hX.row b hb).lt q x).2; have hq : g = q := Option.some.inj hq; omega)
      unfold imgV at hL
      rw [x0, x1, x2, x3] at hL
      have HL : Hid (Calls Tryz.prog 66 #[.agg #[.int .i64 m.guest, .slice p0 m.root.length q0, .slice p1 m.slots.length q1, .slice p2 m.refs.length q2, .slice p3 m.snaps.length q3], .int .i64 (tn : Int), .agg #[.int .i64 2, .string ⟨#[]⟩, .slice (some ⟨g, 0, none⟩) 4 cap]] w4 fun r w' => ∃ val', r = .returned (imgV m.guest val') ∧ OX w' w1.heap.size val' { m with slots := layS m.slots tn (2, ⟨#[]⟩, tableO m (n / 4)) } ∧ Below w1.heap.size w4 w' ∧ KeepX w4 w' m val ∧ SrcX w4 m val (.slice (some ⟨g, 0, none⟩) 4 cap) { m with slots := layS m.slots tn (2, ⟨#[]⟩, tableO m (n / 4)) } val') := hL.mono fun r w' ⟨v, a1, a2, a3, a4, a5, _⟩ => ⟨v, a1, a2, a3, a4, a5⟩
      clear hL
      obtain ⟨MA, hMA⟩ : ∃ X : ImgD, { m with slots := layS m.slots tn (2, ⟨#[]⟩, tableO m (n / 4)) } = X := ⟨_, rfl⟩
      rw [hMA] at HL
      have hMg : MA.guest = m.guest := by rw [← hMA]
      have HMA : Hid ({ m with slots := tabL m (n / 4) (tableO m (n / 4)) } = MA ∧ MA.guest = m.guest) := ⟨by rw [← hMA]; unfold tabL; rw [HM1.out.2], hMg⟩
      clear hMA hMg
      refine wpAnyH_ready (rs := [10]) (by kernel_rfl) (by simp) ?_
      refine AllReadyH.cons rfl (fun K hK => ?_) AllReadyH.nil
      clear hHeld
      simp only [Act.put, List.getElem_toArray, List.getElem_cons_succ, List.getElem_cons_zero, List.setIfInBounds_toArray, List.set_cons_zero, List.set_cons_succ]
      rw [if_pos (by rfl)]
      go_wp2_with (go_at_call 66; refine HL.out.mono ?_; rintro e6 w5 ⟨val', rfl, hX5, b5, k5, s5⟩; obtain ⟨g0, h0, g1, h1, g2, h2, g3, h3, y0, y1, y2, y3⟩ := hX5.four'; unfold imgV; rw [y0, y1, y2, y3])
      have MX5 := cells_below MX4 b5 (by omega)
      have D5 := (k5 w3.heap.size (by omega) hfar).trans D4
      have cR5 := (b5.cell (p := ⟨rb, ro + n / 4, none⟩) rl1).trans cR4
      refine hK.out _ _ ⟨MX5, cR5⟩ (fun hHeld => ?_)
      clear hK K
      try simp only [Act.put, List.getElem_toArray, List.getElem_cons_succ, List.getElem_cons_zero, List.setIfInBounds_toArray, List.set_cons_zero, List.set_cons_succ]
      refine wpAnyH_ready (rs := [11]) (by kernel_rfl) (by simp) ?_
      refine AllReadyH.cons rfl (fun K hK => ?_) AllReadyH.nil
      clear hHeld
      simp only [Act.put, List.getElem_toArray, List.getElem_cons_succ, List.getElem_cons_zero, List.setIfInBounds_toArray, List.set_cons_zero, List.set_cons_succ]
      rw [if_pos (by rfl)]
      have bS := fun a0 a1 a2 a3 a4 => below_five (w := w5) (Below.refl w1.heap.size w5) hDw a0 a1 a2 a3 a4
      obtain ⟨v0, v1, v2, v3, v4⟩ := five D5
      have u0 := cells_frozen D5 0; have u1 := cells_frozen D5 1; have u2 := cells_frozen D5 2; have u3 := cells_frozen D5 3; have u4 := cells_frozen D5 4
      go_simp
      refine hK.out _ _ ⟨(heap_five _ _ _ _ _ _ (by omega)).trans MX5, ((bS _ _ _ _ _).cell (p := ⟨rb, ro + n / 4, none⟩) rl1).trans cR5⟩ (fun hHeld => ?_)
      clear hK K hHeld
      try simp only [Act.put, List.getElem_toArray, List.getElem_cons_succ, List.getElem_cons_zero, List.setIfInBounds_toArray, List.set_cons_zero, List.set_cons_succ]
      refine wpAnyH_done (by kernel_rfl) ?_ _
      go_wp2_with fail
      go_meet
      have hO := ow_call (Below.trans hbel (b4.mono hsB)) (by rw [x0, x1, x2, x3]; exact D4) HD2.out.ge hfar hX5 b5 k5 s5 (fun x => by have hx : g = w3.heap.size := Option.some.inj x; omega)
      rw [y0, y1, y2, y3, HMA.out.2] at hO
      rw [HMA.out.1]
      exact hO
    · clear hHeld
      simp only [Act.put, List.getElem_toArray, List.getElem_cons_succ, List.getElem_cons_zero, List.setIfInBounds_toArray, List.set_cons_zero, List.set_cons_succ]
      rw [if_pos (by rfl)]
      go_wp2_with (go_at_call 67; refine (HTb.out _ (to_drew hbel)).mono ?_; rintro e5 w4 ⟨g, cap, rfl, hev, hge, b4⟩)
      have b4 : Below wb.heap.size wb w4 := below_drew b4
      have hge : wb.heap.size ≤ g := hge
      have hev : w4.ownsRow w1.heap.size 3 1 (.slice (some ⟨g, 0, none⟩) 4 cap) (tableO m (n / 4)).length (ints (tableO m (n / 4))) := by
        rw [HP.out.2.2.2.2.2.1]
        exact row_mono hev (show w1.heap.size ≤ wb.heap.size from hsB)
      have hgl : g < w4.heap.size := (hev.lt g rfl).2
      have s4 := b4.size
      have MX4 := cells_below MX b4 (by omega)
      have D4 := cells_below hbx b4 hDl
      have cR4 := (b4.cell (p := ⟨rb, ro + n / 4, none⟩) (Nat.lt_of_lt_of_le rl1 hsB)).trans cRa
      refine hK.out _ _ ⟨MX4, cR4⟩ (fun hHeld => ?_)
      clear hK K
      try simp only [Act.put, List.getElem_toArray, List.getElem_cons_succ, List.getElem_cons_zero, List.setIfInBounds_toArray, List.set_cons_zero, List.set_cons_succ]
      refine wpAnyH_take (i := 9) (v := .agg #[.int .i64 2, .string ⟨#[]⟩, .slice (some ⟨g, 0, none⟩) 4 cap]) rfl (by kernel_rfl) (by kernel_rfl) (by kernel_rfl) (fun _ _ _ h => h) (Or.inl ⟨by rfl, fun w' hSw => by obtain ⟨qa, qb⟩ := hSw; obtain ⟨j0, j1, j2, j3, j4⟩ := five qa; go_simp⟩) hHeld ?_
      simp only [Act.put, List.getElem_toArray, List.getElem_cons_succ, List.getElem_cons_zero, List.setIfInBounds_toArray, List.set_cons_zero, List.set_cons_succ]
      refine wpAnyH_ready (rs := [0]) (by kernel_rfl) (by simp) ?_
      refine AllReadyH.cons rfl (fun K hK => ?_) AllReadyH.nil
      clear hHeld
      simp only [Act.put, List.getElem_toArray, List.getElem_cons_succ, List.getElem_cons_zero, List.setIfInBounds_toArray, List.set_cons_zero, List.set_cons_succ]
      rw [if_pos (by rfl)]
      obtain ⟨v0, v1, v2, v3, v4⟩ := five D4
      go_simp
      refine hK.out _ _ ⟨MX4, cR4⟩ (fun hHeld => ?_)
      clear hK K v0 v1 v2 v3 v4
      try simp only [Act.put, List.getElem_toArray, List.getElem_cons_succ, List.getElem_cons_zero, List.setIfInBounds_toArray, List.set_cons_zero, List.set_cons_succ]
      have hX4 : OX w4 w1.heap.size val m := hX.below b4
      have hL := layX_is m.guest (k := 2) (d := ⟨#[]⟩) hX4 (Nat.le_trans hsB s4) HG.out.2.2.2.2.2 (by have := HG.out.2.2.1; omega) hev (fun b hb _ q hq x => by have h1 := ((hX.row b hb).lt q x).2; have hq : g = q := Option.some.inj hq; omega)
      unfold imgV at hL
      rw [x0, x1, x2, x3] at hL
      have HL : Hid (Calls Tryz.prog 66 #[.agg #[.int .i64 m.guest, .slice p0 m.root.length q0, .slice p1 m.slots.length q1, .slice p2 m.refs.length q2, .slice p3 m.snaps.length q3], .int .i64 (tn : Int), .agg #[.int .i64 2, .string ⟨#[]⟩, .slice (some ⟨g, 0, none⟩) 4 cap]] w4 fun r w' => ∃ val', r = .returned (imgV m.guest val') ∧ OX w' w1.heap.size val' { m with slots := layS m.slots tn (2, ⟨#[]⟩, tableO m (n / 4)) } ∧ Below w1.heap.size w4 w' ∧ KeepX w4 w' m val ∧ SrcX w4 m val (.slice (some ⟨g, 0, none⟩) 4 cap) { m with slots := layS m.slots tn (2, ⟨#[]⟩, tableO m (n / 4)) } val') := hL.mono fun r w' ⟨v, a1, a2, a3, a4, a5, _⟩ => ⟨v, a1, a2, a3, a4, a5⟩
      clear hL
      obtain ⟨MA, hMA⟩ : ∃ X : ImgD, { m with slots := layS m.slots tn (2, ⟨#[]⟩, tableO m (n / 4)) } = X := ⟨_, rfl⟩
      rw [hMA] at HL
      have hMg : MA.guest = m.guest := by rw [← hMA]
      have HMA : Hid ({ m with slots := tabL m (n / 4) (tableO m (n / 4)) } = MA ∧ MA.guest = m.guest) := ⟨by rw [← hMA]; unfold tabL; rw [HM1.out.2], hMg⟩
      clear hMA hMg
      refine wpAnyH_ready (rs := [10]) (by kernel_rfl) (by simp) ?_
      refine AllReadyH.cons rfl (fun K hK => ?_) AllReadyH.nil
      clear hHeld
      simp only [Act.put, List.getElem_toArray, List.getElem_cons_succ, List.getElem_cons_zero, List.setIfInBounds_toArray, List.set_cons_zero, List.set_cons_succ]
      rw [if_pos (by rfl)]
      go_wp2_with (go_at_call 66; refine HL.out.mono ?_; rintro e6 w5 ⟨val', rfl, hX5, b5, k5, s5⟩; obtain ⟨g0, h0, g1, h1, g2, h2, g3, h3, y0, y1, y2, y3⟩ := hX5.four'; unfold imgV; rw [y0, y1, y2, y3])
      have MX5 := cells_below MX4 b5 (by omega)
      have D5 := (k5 w3.heap.size (by omega) hfar).trans D4
      have cR5 := (b5.cell (p := ⟨rb, ro + n / 4, none⟩) rl1).trans cR4
      refine hK.out _ _ ⟨MX5, cR5⟩ (fun hHeld => ?_)
      clear hK K
      try simp only [Act.put, List.getElem_toArray, List.getElem_cons_succ, List.getElem_cons_zero, List.setIfInBounds_toArray, List.set_cons_zero, List.set_cons_succ]
      refine wpAnyH_ready (rs := [11]) (by kernel_rfl) (by simp) ?_
      refine AllReadyH.cons rfl (fun K hK => ?_) AllReadyH.nil
      clear hHeld
      simp only [Act.put, List.getElem_toArray, List.getElem_cons_succ, List.getElem_cons_zero, List.setIfInBounds_toArray, List.set_cons_zero, List.set_cons_succ]
      rw [if_pos (by rfl)]
      have bS := fun a0 a1 a2 a3 a4 => below_five (w := w5) (Below.refl w1.heap.size w5) hDw a0 a1 a2 a3 a4
      obtain ⟨v0, v1, v2, v3, v4⟩ := five D5
      have u0 := cells_frozen D5 0; have u1 := cells_frozen D5 1; have u2 := cells_frozen D5 2; have u3 := cells_frozen D5 3; have u4 := cells_frozen D5 4
      go_simp
      refine hK.out _ _ ⟨(heap_five _ _ _ _ _ _ (by omega)).trans MX5, ((bS _ _ _ _ _).cell (p := ⟨rb, ro + n / 4, none⟩) rl1).trans cR5⟩ (fun hHeld => ?_)
      clear hK K hHeld
      try simp only [Act.put, List.getElem_toArray, List.getElem_cons_succ, List.getElem_cons_zero, List.setIfInBounds_toArray, List.set_cons_zero, List.set_cons_succ]
      refine wpAnyH_done (by kernel_rfl) ?_ _
      go_wp2_with fail
      go_meet
      have hO := ow_call (Below.trans hbel (b4.mono hsB)) (by rw [x0, x1, x2, x3]; exact D4) HD2.out.ge hfar hX5 b5 k5 s5 (fun x => by have hx : g = w3.heap.size := Option.some.inj x; omega)
      rw [y0, y1, y2, y3, HMA.out.2] at hO
      rw [HMA.out.1]
      exact hO
  case rest =>
  have HD3 : Hid (OwR w1 wc w3.heap.size { m with slots := tabL m (n / 4) (tableO m (n / 4)) }) := hcut
  clear hcut HD2 hX hbox hfar hbel hbx x0 x1 x2 x3
  obtain ⟨wd, hwd⟩ : ∃ X, X = wc := ⟨_, rfl⟩
  subst hwd
  go_upto_region 17 with fail
  go_cut [] from 14 (fun wx => Hid (OwR w1 wx w3.heap.size M1))
  case first =>
    obtain ⟨val, hX, hbox, hfar⟩ := HD3.out.ex
    have hbel := HD3.out.bel
    obtain ⟨p0, q0, p1, q1, p2, q2, p3, q3, x0, x1, x2, x3⟩ := hX.four'
    have hbx := hbox
    rw [x0, x1, x2, x3] at hbx
    obtain ⟨d0, d1, d2, d3, d4⟩ := five hbx
    obtain ⟨ao, cap, xs, hg⟩ := hX.forms .root (LiveX.root _)
    obtain ⟨rg, rfl⟩ := hg (by show 0 < m.root.length; omega)
    rw [x0] at xs
    simp only [Value.slice.injEq] at xs
    obtain ⟨rfl, _, _⟩ := xs
    have hrow := hX.row .root (LiveX.root _)
    rw [x0] at hrow
    have hrow : wd.ownsRow w1.heap.size 3 1 (.slice (some ⟨rg, 0, none⟩) m.root.length q0) m.root.length (ints m.root) := hrow
    have hcl := (hrow.cellAt (n / 4) (by omega)).trans (show (ints m.root)[n / 4]? = some (.int .i64 (t : Int)) by unfold ints; rw [List.getElem?_map, List.getElem?_eq_getElem hr, ← HP.out.2.2.1]; simp [List.getD, hr])
    have hfz := hrow.frozenAt (n / 4)
    go_wp2_with fail
    go_meet
    have hO := ow_root hX hbel hbox HD3.out.ge hfar x0 (n / 4) (tn : Int)
    rw [← HM1.out.1]
    unfold wo1
    rw [HM1.out.2]
    exact hO
  case rest =>
  have HD4 : Hid (OwR w1 wc w3.heap.size M1) := hcut
  clear hcut HD3
  obtain ⟨we, hwe⟩ : ∃ X, X = wc := ⟨_, rfl⟩
  subst hwe
  obtain ⟨val, hX, hbox, hfar⟩ := HD4.out.ex
  have hbel := HD4.out.bel
  obtain ⟨p0, q0, p1, q1, p2, q2, p3, q3, x0, x1, x2, x3⟩ := hX.four'
  have hbx := hbox
  rw [x0, x1, x2, x3] at hbx
  obtain ⟨d0, d1, d2, d3, d4⟩ := five hbx
  have hS : Slots we (val .slots) M1.slots := Img.four (show Img we (.agg #[_, _, _, _, _]) M1 from hX.img) |>.2.1
  have hG := grabOf_wide hS HT.out.1 HT.out.2.1 HT.out.2.2
  rw [x1] at hG
  have hdn0 : ((dn : Int) == 0) = false := by have := HE.out.2.1; simp; omega
  go_upto_region 21 with (go_at_call 65; refine hG.mono ?_; rintro e4 w4 ⟨rfl, hw⟩; rw [hw]; clear hw)
  clear hG hS hdn0
  obtain ⟨M2, hM2⟩ : ∃ X : ImgD, { M1 with slots := layS M1.slots dn (1, page, []) } = X := ⟨_, rfl⟩
  have hL := layX_is M1.guest (k := 1) (d := page) (ev := .slice none 0 0) (es := []) hX hbel.size HE.out.1 (by have := HT.out.2.1; omega) (World.ownsRow_nil _ _ _ _) (farX_nil _ _ _ _ _)
  unfold imgV at hL
  rw [x0, x1, x2, x3, hM2] at hL
  have HL : Hid (Calls Tryz.prog 66 #[.agg #[.int .i64 M1.guest, .slice p0 M1.root.length q0, .slice p1 M1.slots.length q1, .slice p2 M1.refs.length q2, .slice p3 M1.snaps.length q3], .int .i64 (dn : Int), .agg #[.int .i64 1, .string page, .slice none 0 0]] we fun r w' => ∃ val', r = .returned (imgV M1.guest val') ∧ OX w' w1.heap.size val' M2 ∧ Below w1.heap.size we w' ∧ KeepX we w' M1 val ∧ SrcX we M1 val (.slice none 0 0) M2 val') := hL.mono fun r w' ⟨v, a1, a2, a3, a4, a5, _⟩ => ⟨v, a1, a2, a3, a4, a5⟩
  clear hL
  have HM2 : Hid ({ M1 with slots := layS M1.slots dn (1, page, []) } = M2 ∧ M2.guest = M1.guest) := ⟨hM2, by rw [← hM2]⟩
  clear hM2
  have hDl : w3.heap.size < we.heap.size := (Array.getElem?_eq_some_iff.1 hbx).1
  go_cut [] from 14 (fun wx => Hid (OwR w1 wx w3.heap.size M2))
  case first =>
    go_wp2_with (go_at_call 66; refine HL.out.mono ?_; rintro e6 w5 ⟨val', rfl, hX5, b5, k5, s5⟩; obtain ⟨g0, h0, g1, h1, g2, h2, g3, h3, y0, y1, y2, y3⟩ := hX5.four'; have D5 := (k5 w3.heap.size hDl hfar).trans hbx; obtain ⟨v0, v1, v2, v3, v4⟩ := five D5; have u0 := cells_frozen D5 0; have u1 := cells_frozen D5 1; have u2 := cells_frozen D5 2; have u3 := cells_frozen D5 3; have u4 := cells_frozen D5 4; unfold imgV; rw [y0, y1, y2, y3])
    go_meet
    have hO := ow_call hbel hbox HD4.out.ge hfar hX5 b5 k5 s5 (fun x => by cases x)
    rw [y0, y1, y2, y3, HM2.out.2] at hO
    exact hO
  case rest =>
  have HD5 : Hid (OwR w1 wc w3.heap.size M2) := hcut
  clear hcut HD4 HL hX hbox hfar hbel hbx x0 x1 x2 x3 d0 d1 d2 d3 d4
  obtain ⟨wf, hwf⟩ : ∃ X, X = wc := ⟨_, rfl⟩
  subst hwf
  go_upto_region 22 with fail
  go_cut [] from 14 (fun wx => Hid (OwR w1 wx w3.heap.size M3))
  case first =>
    obtain ⟨val, hX, hbox, hfar⟩ := HD5.out.ex
    have hbel := HD5.out.bel
    obtain ⟨p0, q0, p1, q1, p2, q2, p3, q3, x0, x1, x2, x3⟩ := hX.four'
    have hbx := hbox
    rw [x0, x1, x2, x3] at hbx
    obtain ⟨d0, d1, d2, d3, d4⟩ := five hbx
    have hsl : M2.slots = layS M1.slots dn (1, page, []) := by rw [← HM2.out.1]
    have htl2 : tn < M2.slots.length := by rw [hsl]; exact HE.out.2.2.1
    have htb : M2.slots.getD tn default = (2, ⟨#[]⟩, tableO m (n / 4)) := by rw [hsl]; exact HE.out.2.2.2.1
    have htbl : tbl M2 tn = tableO m (n / 4) := by show (M2.slots.getD tn default).2.2 = _; rw [htb]
    have hnt : tbl M2 tn ≠ [] := fun x => by have := HP.out.2.2.2.2.2.1; rw [← htbl, x] at this; cases this
    obtain ⟨ao, cap, xs, hg⟩ := hX.forms .slots (LiveX.slots _)
    obtain ⟨sg, rfl⟩ := hg (by show 0 < M2.slots.length; omega)
    rw [x1] at xs
    simp only [Value.slice.injEq] at xs
    obtain ⟨rfl, _, _⟩ := xs
    have hrow := hX.row .slots (LiveX.slots _)
    rw [x1] at hrow
    have hrow : wf.ownsRow w1.heap.size 61 3 (.slice (some ⟨sg, 0, none⟩) M2.slots.length q1) M2.slots.length (flatS M2.slots (fun j => val (.tab j))) := hrow
    have hrt := hX.row (.tab tn) (LiveX.tab ⟨htl2, hnt⟩)
    have hrt : wf.ownsRow w1.heap.size 3 1 (val (.tab tn)) (tbl M2 tn).length (ints (tbl M2 tn)) := hrt
    rw [htbl, HP.out.2.2.2.2.2.1] at hrt
    obtain ⟨tg, tc, xt⟩ := row_some hrt
    rw [xt] at hrt
    have hcs := (hrow.cellAt (tn * 3 + 2) (by omega)).trans (flatS_get htl2).2.2
    have hcs : wf.cell? ⟨sg, tn * 3 + 2, none⟩ = some (.slice (some ⟨tg, 0, none⟩) 4 tc) := hcs.trans (congrArg some xt)
    obtain ⟨xo, hxo⟩ : ∃ x, (tableO m (n / 4)).getD (n % 4) 0 = x := ⟨_, rfl⟩
    have hct : wf.cell? ⟨tg, n % 4, none⟩ = some (.int .i64 xo) := by
      refine (hrt.cellAt (n % 4) (by omega)).trans ?_
      unfold ints
      rw [List.getElem?_map, List.getElem?_eq_getElem (by rw [HP.out.2.2.2.2.2.1]; exact h4), ← hxo]
      simp [List.getD, HP.out.2.2.2.2.2.1, h4]
    have hfz := hrt.frozenAt (n % 4)
    have htl2i : (tn : Int) < (M2.slots.length : Int) := by omega
    have HTB : Hid (M2.slots.getD tn default = (2, ⟨#[]⟩, tableO m (n / 4))) := htb
    clear hxo hsl htb htbl
    go_wp2_with fail
    go_meet
    have htb := HTB.out
    have hO := ow_tab hX hbel hbox HD5.out.ge hfar htl2 hnt xt (n % 4) (dn : Int)
    rw [htb] at hO
    have e3 : { M2 with slots := M2.slots.set tn (2, ⟨#[]⟩, (tableO m (n / 4)).set (n % 4) (dn : Int)) } = M3 := by
      rw [← HM2.out.1]
      show { M1 with slots := (layS M1.slots dn (1, page, [])).set tn (2, ⟨#[]⟩, (tableO m (n / 4)).set (n % 4) (dn : Int)) } = M3
      rw [HE.out.2.2.2.2]
      exact HM3.out.1
    rw [← e3]
    exact hO
  case rest =>
  have HD6 : Hid (OwR w1 wc w3.heap.size M3) := hcut
  clear hcut HD5
  obtain ⟨wg, hwg⟩ : ∃ X, X = wc := ⟨_, rfl⟩
  subst hwg
  obtain ⟨val, hX, hbox, hfar⟩ := HD6.out.ex
  have hbel := HD6.out.bel
  obtain ⟨p0, q0, p1, q1, p2, q2, p3, q3, x0, x1, x2, x3⟩ := hX.four'
  have hbx := hbox
  rw [x0, x1, x2, x3] at hbx
  obtain ⟨d0, d1, d2, d3, d4⟩ := five hbx
  have z9 := cells_below n1 hbel hz1
  obtain ⟨z0, z1, z2, z3, z4⟩ := five z9
  have y0 := cells_frozen z9 0; have y1 := cells_frozen z9 1; have y2 := cells_frozen z9 2; have y3 := cells_frozen z9 3; have y4 := cells_frozen z9 4
  have nD1 : ¬ w3.heap.size = w.heap.size + 1 := by omega
  have nD2 : ¬ w.heap.size + 1 = w3.heap.size := by omega
  have hc := countedX_is hX hbel.size HM3.out.2
  unfold imgV at hc
  rw [x0, x1, x2, x3] at hc
  have HCt : Hid (Calls Tryz.prog 68 #[.agg #[.int .i64 M3.guest, .slice p0 M3.root.length q0, .slice p1 M3.slots.length q1, .slice p2 M3.refs.length q2, .slice p3 M3.snaps.length q3]] wg fun r w' => ∃ val', r = .returned (imgV M3.guest val') ∧ OX w' w1.heap.size val' (countedD M3) ∧ Below w1.heap.size wg w' ∧ KeepX wg w' M3 val ∧ SrcX wg M3 val (.slice none 0 0) (countedD M3) val') := hc
  have hzl : w.heap.size + 1 < wg.heap.size := Nat.lt_of_lt_of_le hz1 hbel.size
  have hfz : ∀ a, LiveX M3 a → (val a).ownBlock ≠ some (w.heap.size + 1) := fun a ha x => by have := ((hX.row a ha).lt _ x).1; omega
  clear hc
  go_wp2_with (go_at_call 68; refine HCt.out.mono ?_; rintro e7 w7 ⟨val2, rfl, hO7, b7, k7, s7⟩; obtain ⟨u0, v0, u1, v1, u2, v2, u3, v3, j0, j1, j2, j3⟩ := hO7.four'; have k17 := (k7 (w.heap.size + 1) hzl hfz).trans z9; obtain ⟨o0, o1, o2, o3, o4⟩ := five k17; have oo0 := cells_frozen k17 0; have oo1 := cells_frozen k17 1; have oo2 := cells_frozen k17 2; have oo3 := cells_frozen k17 3; have oo4 := cells_frozen k17 4; unfold imgV; rw [j0, j1, j2, j3])
  have hfr : ∀ a, LiveX (countedD M3) a → (val2 a).ownBlock ≠ some (w.heap.size + 1) := fun a ha x => by
    have := ((hO7.row a ha).lt _ x).1
    omega
  have hI := fun x0 x1 x2 x3 x4 => hO7.five hfr x0 x1 x2 x3 x4
  have eI : imgV (countedD M3).guest val2 = .agg #[.int .i64 M3.guest, .slice u0 (countedD M3).root.length v0, .slice u1 (countedD M3).slots.length v1, .slice u2 (countedD M3).refs.length v2, .slice u3 (countedD M3).snaps.length v3] := by unfold imgV; rw [j0, j1, j2, j3]; rfl
  have hB8 : Below w.heap.size w w7 := (Below.on bw hbel).trans (b7.mono (by omega))
  refine bodyPost_ret (v := .tuple #[.agg #[.int .i64 M3.guest, .slice u0 (countedD M3).root.length v0, .slice u1 (countedD M3).slots.length v1, .slice u2 (countedD M3).refs.length v2, .slice u3 (countedD M3).snaps.length v3], .int .i64 0]) (by simp [results, Tryz.results35, go_sem, o0, o1, o2, o3, o4]) rfl ⟨u0, v0, u1, v1, u2, v2, u3, v3, rfl, fun W' hW => (by have := ((hI _ _ _ _ _).keep (fun q hq _ => hW q (by omega))).img; rw [eI] at this; exact this), below_five hB8 (Nat.le_succ _) _ _ _ _ _⟩
end Go.Proofs.YtehleeibgkpjmafGreat
