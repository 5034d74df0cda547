/- Texts joined: WoF, WrC0, WrG, WoG, CpyS, SkV, FrI. -/
import Derived.Test.YtehleeibgkpjmaeGreatStackTellsJ13
import Derived.Test.YtehleeibgkpjmaeGreatStackTellsJ6
import Derived.Test.YtehleeibgkpjmaeGreatStackTellsJ14
import Derived.Test.YtehleeibgkpjmaeGreatStackTellsJ5
import Derived.Test.YtehleeibgkpjmaeGreatStackTellsJ11
import Derived.Test.YtehleeibgkpjmaeGreatStackTellsJ10
/- Contract of the document's WriteOf: the table in place. -/
namespace Go.Proofs.YtehleeibgkpjmaeGreat
open Go.RowKit Go.Shelf
set_option maxRecDepth 20000
set_option linter.unusedVariables false
set_option linter.unusedSimpArgs false

set_option maxHeartbeats 16000000 in
theorem wo_lf (rb ro rc : Nat) (sa : Option Addr) (sc : Nat) (fb fo fc : Nat) (na : Option Addr) (nc : Nat) (m : ImgD) (n : Nat) (page : ByteArray) (w : World) (h : Img w (.agg #[.int .i64 m.guest, .slice (some ⟨rb, ro, none⟩) m.root.length rc, .slice sa m.slots.length sc, .slice (some ⟨fb, fo, none⟩) m.refs.length fc, .slice na m.snaps.length nc]) m) (hrc : ∀ j, j < m.root.length → w.cell? ⟨rb, ro + j, none⟩ = some (.int .i64 (m.root.getD j 0))) (hrl : rb < w.heap.size) (hfc : ∀ j, j < m.refs.length → w.cell? ⟨fb, fo + j, none⟩ = some (.int .i64 (m.refs.getD j 0))) (hfl : fb < w.heap.size) (hC : checkE m = 0) (hn : (n : Int) < m.guest) (hp : page.size = 4) (t : Nat) (ht : m.root.getD (n / 4) 0 = (t : Int)) (e : Int) (he : lookV m m.root n = e) (tn dn : Nat) (htn : tabN m (n / 4) = tn) (M1 : ImgD) (hM1 : wo1 m n = M1) (ht1 : 1 ≤ t) (hrt1 : m.refs.getD t 0 = 1) (hnot : 0 < e → e.toNat < m.slots.length ∧ m.refs.getD e.toNat 0 ≠ 1) (hLo : inPl m (n / 4) = true) (htt : t = tn) (HT : Hid (1 ≤ M1.slots.length ∧ M1.slots.length ≤ 40 ∧ (if grabN M1.slots = 40 then (0 : Int) else grabN M1.slots) = 0)) :
    Calls Tryz.prog 21 #[.agg #[.int .i64 m.guest, .slice (some ⟨rb, ro, none⟩) m.root.length rc, .slice sa m.slots.length sc, .slice (some ⟨fb, fo, none⟩) m.refs.length fc, .slice na m.snaps.length nc], .int .i64 (n : Int), .string page] w (AnsJ w imgZ 7) := by
  have b0 : Below w.heap.size w ((w.alloc (.cells #[.int .i64 m.guest, .slice (some ⟨rb, ro, none⟩) m.root.length rc, .slice sa m.slots.length sc, .slice (some ⟨fb, fo, none⟩) m.refs.length fc, .slice na m.snaps.length nc] 27)).alloc (.cells #[.int .i64 0, .slice none 0 0, .slice none 0 0, .slice none 0 0, .slice none 0 0] 27)) := ((Below.refl _ _).alloc (Nat.le_refl _) _).alloc (by simp) _
  have m0 : ((w.alloc (.cells #[.int .i64 m.guest, .slice (some ⟨rb, ro, none⟩) m.root.length rc, .slice sa m.slots.length sc, .slice (some ⟨fb, fo, none⟩) m.refs.length fc, .slice na m.snaps.length nc] 27)).alloc (.cells #[.int .i64 0, .slice none 0 0, .slice none 0 0, .slice none 0 0, .slice none 0 0] 27)).heap[w.heap.size]? = some (.cells #[.int .i64 m.guest, .slice (some ⟨rb, ro, none⟩) m.root.length rc, .slice sa m.slots.length sc, .slice (some ⟨fb, fo, none⟩) m.refs.length fc, .slice na m.snaps.length nc] 27) := cells_alloc (World.alloc_heap_new _ _) _
  have m1 : ((w.alloc (.cells #[.int .i64 m.guest, .slice (some ⟨rb, ro, none⟩) m.root.length rc, .slice sa m.slots.length sc, .slice (some ⟨fb, fo, none⟩) m.refs.length fc, .slice na m.snaps.length nc] 27)).alloc (.cells #[.int .i64 0, .slice none 0 0, .slice none 0 0, .slice none 0 0, .slice none 0 0] 27)).heap[w.heap.size + 1]? = some (.cells #[.int .i64 0, .slice none 0 0, .slice none 0 0, .slice none 0 0, .slice none 0 0] 27) := by have := World.alloc_heap_new (w.alloc (.cells #[.int .i64 m.guest, .slice (some ⟨rb, ro, none⟩) m.root.length rc, .slice sa m.slots.length sc, .slice (some ⟨fb, fo, none⟩) m.refs.length fc, .slice na m.snaps.length nc] 27)) (.cells #[.int .i64 0, .slice none 0 0, .slice none 0 0, .slice none 0 0, .slice none 0 0] 27); simpa using this
  have hsz : w.heap.size + 1 < ((w.alloc (.cells #[.int .i64 m.guest, .slice (some ⟨rb, ro, none⟩) m.root.length rc, .slice sa m.slots.length sc, .slice (some ⟨fb, fo, none⟩) m.refs.length fc, .slice na m.snaps.length nc] 27)).alloc (.cells #[.int .i64 0, .slice none 0 0, .slice none 0 0, .slice none 0 0, .slice none 0 0] 27)).heap.size := by simp
  have hs := checkE_shape hC
  have hgt := guest_ok hs
  have hrt := root_ok hs
  have hr : n / 4 < m.root.length := by omega
  have htl : t < m.slots.length := by obtain ⟨t', ht', h'⟩ := root_nat hs hr; omega
  have hrf : m.refs.length = m.slots.length := (shapeE_zero hs).2.2.1
  have hlen : (tableO m (n / 4)).length = 4 := ckE_len (tableO_ok hs hr).1
  have I0 := h.below b0
  have hlk := lookErr_is I0 (n : Int) (lookE_of hC hn)
  have e4 : ((n / 4 : Nat) : Int) = (n : Int) / 4 := by omega
  have hq1 : ((n : Int) / 4).toNat = n / 4 := by omega
  have hq2 : ((n : Int) % 4).toNat = n % 4 := by omega
  have hri : (n : Int) / 4 < (m.root.length : Int) := by omega
  have h4 : n % 4 < 4 := by omega
  have h4i : (n : Int) % 4 < 4 := by omega
  have h16 : n < 16 := by omega
  have h0q : ¬ (n : Int) / 4 < 0 := by omega
  have h0r : ¬ (n : Int) % 4 < 0 := by omega
  have h0a : 0 ≤ (n : Int) / 4 := by omega
  have h0b : 0 ≤ (n : Int) % 4 := by omega
  have hpz : ((page.size : Int) != 4) = false := by rw [hp]; rfl
  have HR0 : Hid (((w.alloc (.cells #[.int .i64 m.guest, .slice (some ⟨rb, ro, none⟩) m.root.length rc, .slice sa m.slots.length sc, .slice (some ⟨fb, fo, none⟩) m.refs.length fc, .slice na m.snaps.length nc] 27)).alloc (.cells #[.int .i64 0, .slice none 0 0, .slice none 0 0, .slice none 0 0, .slice none 0 0] 27)).cell? ⟨rb, ro + n / 4, none⟩ = some (.int .i64 (t : Int)) ∧ rb < ((w.alloc (.cells #[.int .i64 m.guest, .slice (some ⟨rb, ro, none⟩) m.root.length rc, .slice sa m.slots.length sc, .slice (some ⟨fb, fo, none⟩) m.refs.length fc, .slice na m.snaps.length nc] 27)).alloc (.cells #[.int .i64 0, .slice none 0 0, .slice none 0 0, .slice none 0 0, .slice none 0 0] 27)).heap.size) := ⟨by rw [← ht]; exact (b0.cell (p := ⟨rb, ro + n / 4, none⟩) hrl).trans (hrc (n / 4) hr), Nat.lt_of_lt_of_le hrl b0.size⟩
  have HF0 : Hid (∀ j, j < m.refs.length → ((w.alloc (.cells #[.int .i64 m.guest, .slice (some ⟨rb, ro, none⟩) m.root.length rc, .slice sa m.slots.length sc, .slice (some ⟨fb, fo, none⟩) m.refs.length fc, .slice na m.snaps.length nc] 27)).alloc (.cells #[.int .i64 0, .slice none 0 0, .slice none 0 0, .slice none 0 0, .slice none 0 0] 27)).cell? ⟨fb, fo + j, none⟩ = some (.int .i64 (m.refs.getD j 0)) ∧ fb < ((w.alloc (.cells #[.int .i64 m.guest, .slice (some ⟨rb, ro, none⟩) m.root.length rc, .slice sa m.slots.length sc, .slice (some ⟨fb, fo, none⟩) m.refs.length fc, .slice na m.snaps.length nc] 27)).alloc (.cells #[.int .i64 0, .slice none 0 0, .slice none 0 0, .slice none 0 0, .slice none 0 0] 27)).heap.size) := fun j hj => ⟨(b0.cell (p := ⟨fb, fo + j, none⟩) hfl).trans (hfc j hj), Nat.lt_of_lt_of_le hfl b0.size⟩
  have HP : Hid (checkE m = 0 ∧ shapeE m = 0 ∧ m.root.getD (n / 4) 0 = (t : Int) ∧ lookV m m.root n = e ∧ (n : Int) < m.guest ∧ (tableO m (n / 4)).length = 4 ∧ m.refs.length = m.slots.length ∧ page.size = 4) := ⟨hC, hs, ht, he, hn, hlen, hrf, hp⟩
  clear h hrc hrl hfc hfl hC hs hgt hrt hn ht he hlen hrf hp
  have HM1 : Hid (wo1 m n = M1 ∧ tabN m (n / 4) = tn) := ⟨hM1, htn⟩
  clear hM1 htn
  have HLo : Hid (inPl m (n / 4) = true) := hLo
  have HTT : Hid (t = tn) := htt
  clear hLo htt
  go_enter Tryz.func21, Tryz.ntmps21
  obtain ⟨c0, c1, c2, c3, c4⟩ := five m0
  go_wp2_with (go_at_call 18; refine hlk.mono ?_; rintro e1 w1 ⟨rfl, b1⟩)
  clear c0 c1 c2 c3 c4
  have hz1 : w.heap.size + 1 < w1.heap.size := Nat.lt_of_lt_of_le hsz b1.size
  have n0 := cells_below m0 b1 (by omega)
  have n1 := cells_below m1 b1 hsz
  have I1 := I0.below b1
  have bw : Below w.heap.size w w1 := Below.on b0 b1
  have cR : w1.cell? ⟨rb, ro + n / 4, none⟩ = some (.int .i64 (t : Int)) := (b1.cell (p := ⟨rb, ro + n / 4, none⟩) HR0.out.2).trans HR0.out.1
  have rl1 : rb < w1.heap.size := Nat.lt_of_lt_of_le HR0.out.2 b1.size
  have HF : Hid (∀ j, j < m.refs.length → w1.cell? ⟨fb, fo + j, none⟩ = some (.int .i64 (m.refs.getD j 0)) ∧ fb < w1.heap.size) := fun j hj => ⟨(b1.cell (p := ⟨fb, fo + j, none⟩) (HF0.out j hj).2).trans (HF0.out j hj).1, Nat.lt_of_lt_of_le (HF0.out j hj).2 b1.size⟩
  have HLk : Hid (∀ W, Below w1.heap.size w1 W → Calls Tryz.prog 19 #[.agg #[.int .i64 m.guest, .slice (some ⟨rb, ro, none⟩) m.root.length rc, .slice sa m.slots.length sc, .slice (some ⟨fb, fo, none⟩) m.refs.length fc, .slice na m.snaps.length nc], .int .i64 (n : Int)] W fun r w' => r = .returned (.int .i64 e) ∧ Below W.heap.size W w') := fun W hW => lookOf_is (I1.below hW) (n : Int) (lookE_of HP.out.1 HP.out.2.2.2.2.1) (by rw [Int.toNat_natCast]; exact HP.out.2.2.2.1)
  have HOw : Hid (∀ W, Below w1.heap.size w1 W → Calls Tryz.prog 40 #[.agg #[.int .i64 m.guest, .slice (some ⟨rb, ro, none⟩) m.root.length rc, .slice sa m.slots.length sc, .slice (some ⟨fb, fo, none⟩) m.refs.length fc, .slice na m.snaps.length nc]] W fun r w' => ∃ val, r = .returned (imgV m.guest val) ∧ OX w' W.heap.size val m ∧ Below W.heap.size W w') := fun W hW => ownImage_is (I1.below hW) HP.out.2.1
  have HTb : Hid (∀ W, Below w1.heap.size w1 W → Calls Tryz.prog 43 #[.agg #[.int .i64 m.guest, .slice (some ⟨rb, ro, none⟩) m.root.length rc, .slice sa m.slots.length sc, .slice (some ⟨fb, fo, none⟩) m.refs.length fc, .slice na m.snaps.length nc], .int .i64 (t : Int)] W fun r w' => ∃ g cap, r = .returned (.slice (some ⟨g, 0, none⟩) 4 cap) ∧ w'.ownsRow W.heap.size 3 1 (.slice (some ⟨g, 0, none⟩) 4 cap) 4 (ints (tableO m (n / 4))) ∧ W.heap.size ≤ g ∧ Below W.heap.size W w') := fun W hW => by
    have e := tabAt_O HP.out.2.2.1
    refine (tableOf_is (I1.below hW) htl (by rw [e, HP.out.2.2.2.2.2.1]; decide)).mono ?_
    rintro r w' ⟨v, rfl, h1, h2, h3⟩
    rw [e, HP.out.2.2.2.2.2.1] at h1
    obtain ⟨g, cap, rfl⟩ := row_some h1
    exact ⟨g, cap, rfl, h1, h2 g rfl, h3⟩
  clear b0 b1 m0 m1 I0 I1 HR0 HF0 hlk hsz
  refine wp_region_held_drew (S := (fun X : World => X.heap[w.heap.size]? = some (.cells #[.int .i64 m.guest, .slice (some ⟨rb, ro, none⟩) m.root.length rc, .slice sa m.slots.length sc, .slice (some ⟨fb, fo, none⟩) m.refs.length fc, .slice na m.snaps.length nc] 27) ∧ X.cell? ⟨rb, ro + n / 4, none⟩ = some (.int .i64 (t : Int)))) (by kernel_rfl) ⟨n0, cR⟩ (fun hHeld => ?_)
  refine wpAnyH_take (i := 0) (v := .pointer (some ⟨w.heap.size, 1, none⟩)) rfl (by kernel_rfl) (by kernel_rfl) (by kernel_rfl) (fun _ _ _ h => h) (Or.inl ⟨by rfl, fun w' hSw => by obtain ⟨qa, qb⟩ := hSw; obtain ⟨j0, j1, j2, j3, j4⟩ := five qa; go_simp⟩) hHeld ?_
  simp only [Act.put, List.getElem_toArray, List.getElem_cons_succ, List.getElem_cons_zero, List.setIfInBounds_toArray, List.set_cons_zero, List.set_cons_succ]
  refine wpAnyH_take (i := 1) (v := .slice (some ⟨rb, ro, none⟩) m.root.length rc) rfl (by kernel_rfl) (by kernel_rfl) (by kernel_rfl) (fun _ _ _ h => h) (Or.inl ⟨by rfl, fun w' hSw => by obtain ⟨qa, qb⟩ := hSw; obtain ⟨j0, j1, j2, j3, j4⟩ := five qa; go_simp⟩) hHeld ?_
  simp only [Act.put, List.getElem_toArray, List.getElem_cons_succ, List.getElem_cons_zero, List.setIfInBounds_toArray, List.set_cons_zero, List.set_cons_succ]
  refine wpAnyH_take (i := 2) (v := .int .i64 ((n : Int) / 4)) rfl (by kernel_rfl) (by kernel_rfl) (by kernel_rfl) (fun _ _ _ h => h) (Or.inl ⟨by rfl, fun w' hSw => by obtain ⟨qa, qb⟩ := hSw; obtain ⟨j0, j1, j2, j3, j4⟩ := five qa; go_simp⟩) hHeld ?_
  simp only [Act.put, List.getElem_toArray, List.getElem_cons_succ, List.getElem_cons_zero, List.setIfInBounds_toArray, List.set_cons_zero, List.set_cons_succ]
  refine wpAnyH_take (i := 3) (v := .pointer (some ⟨rb, ro + n / 4, none⟩)) rfl (by kernel_rfl) (by kernel_rfl) (by kernel_rfl) (fun _ _ _ h => h) (Or.inl ⟨by rfl, fun w' hSw => by obtain ⟨qa, qb⟩ := hSw; obtain ⟨j0, j1, j2, j3, j4⟩ := five qa; go_simp⟩) hHeld ?_
  simp only [Act.put, List.getElem_toArray, List.getElem_cons_succ, List.getElem_cons_zero, List.setIfInBounds_toArray, List.set_cons_zero, List.set_cons_succ]
  refine wpAnyH_take (i := 4) (v := .int .i64 (t : Int)) rfl (by kernel_rfl) (by kernel_rfl) (by kernel_rfl) (fun _ _ _ h => h) (Or.inl ⟨by rfl, fun w' hSw => by obtain ⟨qa, qb⟩ := hSw; obtain ⟨j0, j1, j2, j3, j4⟩ := five qa; go_simp⟩) hHeld ?_
  simp only [Act.put, List.getElem_toArray, List.getElem_cons_succ, List.getElem_cons_zero, List.setIfInBounds_toArray, List.set_cons_zero, List.set_cons_succ]
  refine wpAnyH_take (i := 5) (v := .agg #[.int .i64 m.guest, .slice (some ⟨rb, ro, none⟩) m.root.length rc, .slice sa m.slots.length sc, .slice (some ⟨fb, fo, none⟩) m.refs.length fc, .slice na m.snaps.length nc]) rfl (by kernel_rfl) (by kernel_rfl) (by kernel_rfl) (fun _ _ _ h => h) (Or.inl ⟨by rfl, fun w' hSw => by obtain ⟨qa, qb⟩ := hSw; obtain ⟨j0, j1, j2, j3, j4⟩ := five qa; go_simp⟩) hHeld ?_
  simp only [Act.put, List.getElem_toArray, List.getElem_cons_succ, List.getElem_cons_zero, List.setIfInBounds_toArray, List.set_cons_zero, List.set_cons_succ]
  refine wpAnyH_take (i := 6) (v := .int .i64 (n : Int)) rfl (by kernel_rfl) (by kernel_rfl) (by kernel_rfl) (fun _ _ _ h => h) (Or.inl ⟨by rfl, fun w' hSw => by obtain ⟨qa, qb⟩ := hSw; obtain ⟨j0, j1, j2, j3, j4⟩ := five qa; go_simp⟩) hHeld ?_
  simp only [Act.put, List.getElem_toArray, List.getElem_cons_succ, List.getElem_cons_zero, List.setIfInBounds_toArray, List.set_cons_zero, List.set_cons_succ]
  refine wpAnyH_ready (rs := [7]) (by kernel_rfl) (by simp) ?_
  refine AllReadyH.cons rfl (fun K hK => ?_) AllReadyH.nil
  clear hHeld
  simp only [Act.put, List.getElem_toArray, List.getElem_cons_succ, List.getElem_cons_zero, List.setIfInBounds_toArray, List.set_cons_zero, List.set_cons_succ]
  rw [if_pos (by rfl)]
  go_wp2_with (go_at_call 19; refine (HLk.out _ (to_drew (Below.refl _ _))).mono ?_; rintro e2 w2 ⟨rfl, b2⟩)
  have b2 : Below w1.heap.size w1 w2 := below_drew b2
  have k0 := cells_below n0 b2 (by omega)
  have cR2 := (b2.cell (p := ⟨rb, ro + n / 4, none⟩) rl1).trans cR
  refine hK.out _ _ ⟨k0, cR2⟩ (fun hHeld => ?_)
  clear hK K
  try simp only [Act.put, List.getElem_toArray, List.getElem_cons_succ, List.getElem_cons_zero, List.setIfInBounds_toArray, List.set_cons_zero, List.set_cons_succ]
  refine wpAnyH_take (i := 8) (v := .int .i64 (t : Int)) rfl (by kernel_rfl) (by kernel_rfl) (by kernel_rfl) (fun _ _ _ h => h) (Or.inl ⟨by rfl, fun w' hSw => by go_simp⟩) hHeld ?_
  simp only [Act.put, List.getElem_toArray, List.getElem_cons_succ, List.getElem_cons_zero, List.setIfInBounds_toArray, List.set_cons_zero, List.set_cons_succ]
  refine wpAnyH_take (i := 9) (v := .int .i64 e) rfl (by kernel_rfl) (by kernel_rfl) (by kernel_rfl) (fun _ _ _ h => h) (Or.inl ⟨by rfl, fun w' hSw => by go_simp⟩) hHeld ?_
  simp only [Act.put, List.getElem_toArray, List.getElem_cons_succ, List.getElem_cons_zero, List.setIfInBounds_toArray, List.set_cons_zero, List.set_cons_succ]
  clear hHeld
  refine wpAnyH_done (by kernel_rfl) ?_ _
  obtain ⟨c0, c1, c2, c3, c4⟩ := five k0
  go_upto_region 9 with (go_at_call 40; refine (HOw.out w2 b2).mono ?_; rintro e3 w3 ⟨val, rfl, hO, b3⟩; obtain ⟨p0, q0, p1, q1, p2, q2, p3, q3, x0, x1, x2, x3⟩ := hO.four'; unfold imgV; rw [x0, x1, x2, x3])
  have s2 := b2.size
  have s3 := b3.size
  have HD0 : Hid (OwR w1 (w3.alloc (.cells #[.int .i64 m.guest, .slice p0 m.root.length q0, .slice p1 m.slots.length q1, .slice p2 m.refs.length q2, .slice p3 m.snaps.length q3] 27)) w3.heap.size m) := ⟨⟨val, (hO.mono s2).alloc _, by rw [x0, x1, x2, x3]; exact World.alloc_heap_new _ _, hO.lt (Nat.le_refl _)⟩, by omega, (b2.trans (b3.mono s2)).alloc (by omega) _⟩
  clear hO x0 x1 x2 x3 c0 c1 c2 c3 c4 k0 cR2 HLk HOw
  have M0 := cells_below n0 HD0.out.bel (by omega)
  obtain ⟨c0, c1, c2, c3, c4⟩ := five M0
  have HF3 : Hid (∀ j, j < m.refs.length → (w3.alloc (.cells #[.int .i64 m.guest, .slice p0 m.root.length q0, .slice p1 m.slots.length q1, .slice p2 m.refs.length q2, .slice p3 m.snaps.length q3] 27)).cell? ⟨fb, fo + j, none⟩ = some (.int .i64 (m.refs.getD j 0))) := fun j hj => (HD0.out.bel.cell (p := ⟨fb, fo + j, none⟩) (HF.out j hj).2).trans (HF.out j hj).1
  clear b2 b3 M0
  have hDw : w1.heap.size ≤ w3.heap.size := HD0.out.ge
  go_cut [54] from 14 (fun s wx => s = .bool false ∧ Hid (OwR w1 wx w3.heap.size m))
  case first =>
    by_cases hpos : 0 < e
    · obtain ⟨en, rfl⟩ := Int.eq_ofNat_of_zero_le (Int.le_of_lt hpos)
      have g1 : decide (0 < (en : Int)) = true := by simpa using hpos
      have ct := HF3.out t (by have := HP.out.2.2.2.2.2.2.1; omega)
      have l1 : (t : Int) < (m.refs.length : Int) := by have := HP.out.2.2.2.2.2.2.1; omega
      rw [hrt1] at ct
      obtain ⟨hel, hre⟩ := hnot hpos
      rw [Int.toNat_natCast] at hel hre
      have ce := HF3.out en (by have := HP.out.2.2.2.2.2.2.1; omega)
      obtain ⟨xe, hxe⟩ : ∃ x, m.refs.getD en 0 = x := ⟨_, rfl⟩
      rw [hxe] at ce hre
      have l2 : (en : Int) < (m.refs.length : Int) := by have := HP.out.2.2.2.2.2.2.1; omega
      have g3 : (xe == 1) = false := by simpa using hre
      clear hre hxe hnot
      go_wp2_with fail; go_meet; exact ⟨rfl, HD0⟩
    · have g1 : decide (0 < e) = false := by simpa using hpos
      go_wp2_with fail; go_meet; exact ⟨rfl, HD0⟩
  case rest =>
  obtain ⟨rfl, HD1⟩ := hcut
  clear HD0 HF3 c0 c1 c2 c3 c4
  obtain ⟨wa, hwa⟩ : ∃ X, X = wc := ⟨_, rfl⟩
  subst hwa
  go_upto_region 12 with fail
  have M0 := cells_below n0 HD1.out.bel (by omega)
  obtain ⟨c0, c1, c2, c3, c4⟩ := five M0
  have HF1 : Hid (∀ j, j < m.refs.length → wa.cell? ⟨fb, fo + j, none⟩ = some (.int .i64 (m.refs.getD j 0))) := fun j hj => (HD1.out.bel.cell (p := ⟨fb, fo + j, none⟩) (HF.out j hj).2).trans (HF.out j hj).1
  go_cut [71] from 14 (fun s wx => s = .bool false ∧ Hid (OwR w1 wx w3.heap.size m))
  case first =>
    have g1 : ((t : Int) == 0) = false := by simp; omega
    have ct := HF1.out t (by have := HP.out.2.2.2.2.2.2.1; omega)
    rw [hrt1] at ct
    have l1 : (t : Int) < (m.refs.length : Int) := by have := HP.out.2.2.2.2.2.2.1; omega
    go_wp2_with fail; go_meet; exact ⟨rfl, HD1⟩
  case rest =>
  obtain ⟨rfl, HD2⟩ := hcut
  clear HD1 HF1 M0 c0 c1 c2 c3 c4
  obtain ⟨wb, hwb⟩ : ∃ X, X = wc := ⟨_, rfl⟩
  subst hwb
  rw [HTT.out]
  have HD4 : Hid (OwR w1 wb w3.heap.size M1) := by
    show OwR w1 wb w3.heap.size M1
    rw [← HM1.out.1, wo1_lone HP.out.1 hr HLo.out]
    exact HD2.out
  clear HD2
  obtain ⟨we, hwe⟩ : ∃ X, X = wb := ⟨_, rfl⟩
  subst hwe
  obtain ⟨val, hX, hbox, hfar⟩ := HD4.out.ex
  have hbel := HD4.out.bel
  obtain ⟨p0, q0, p1, q1, p2, q2, p3, q3, x0, x1, x2, x3⟩ := hX.four'
  have hbx := hbox
  rw [x0, x1, x2, x3] at hbx
  obtain ⟨d0, d1, d2, d3, d4⟩ := five hbx
  have hS : Slots we (val .slots) M1.slots := Img.four (show Img we (.agg #[_, _, _, _, _]) M1 from hX.img) |>.2.1
  have hG := grabOf_wide hS HT.out.1 HT.out.2.1 HT.out.2.2
  rw [x1] at hG
  have z9 := cells_below n1 hbel hz1
  obtain ⟨z0, z1, z2, z3, z4⟩ := five z9
  have y0 := cells_frozen z9 0; have y1 := cells_frozen z9 1; have y2 := cells_frozen z9 2; have y3 := cells_frozen z9 3; have y4 := cells_frozen z9 4
  have nD1 : ¬ w3.heap.size = w.heap.size + 1 := by omega
  have nD2 : ¬ w.heap.size + 1 = w3.heap.size := by omega
  clear hX hbox hfar hbx HTb cR rl1 HF
  go_wp2_with (go_at_call 41; refine hG.mono ?_; rintro e4 w4 ⟨rfl, hw⟩; rw [hw]; clear hw)
  have hBz : Below w.heap.size w we := Below.on bw HD4.out.bel
  refine bodyPost_ret (v := .tuple #[.agg #[.int .i64 0, .slice none 0 0, .slice none 0 0, .slice none 0 0, .slice none 0 0], .int .i64 7]) (by simp [results, Tryz.results21, go_sem, z0, z1, z2, z3, z4]) rfl ⟨none, 0, none, 0, none, 0, none, 0, rfl, fun W' _ => imgZ_im W', below_five hBz (Nat.le_succ _) _ _ _ _ _⟩

set_option maxHeartbeats 16000000 in
theorem wo_lk (rb ro rc : Nat) (sa : Option Addr) (sc : Nat) (fb fo fc : Nat) (na : Option Addr) (nc : Nat) (m : ImgD) (n : Nat) (page : ByteArray) (w : World) (h : Img w (.agg #[.int .i64 m.guest, .slice (some ⟨rb, ro, none⟩) m.root.length rc, .slice sa m.slots.length sc, .slice (some ⟨fb, fo, none⟩) m.refs.length fc, .slice na m.snaps.length nc]) m) (hrc : ∀ j, j < m.root.length → w.cell? ⟨rb, ro + j, none⟩ = some (.int .i64 (m.root.getD j 0))) (hrl : rb < w.heap.size) (hfc : ∀ j, j < m.refs.length → w.cell? ⟨fb, fo + j, none⟩ = some (.int .i64 (m.refs.getD j 0))) (hfl : fb < w.heap.size) (hC : checkE m = 0) (hn : (n : Int) < m.guest) (hp : page.size = 4) (t : Nat) (ht : m.root.getD (n / 4) 0 = (t : Int)) (e : Int) (he : lookV m m.root n = e) (tn dn : Nat) (htn : tabN m (n / 4) = tn) (M1 : ImgD) (hM1 : wo1 m n = M1) (ht1 : 1 ≤ t) (hrt1 : m.refs.getD t 0 = 1) (hnot : 0 < e → e.toNat < m.slots.length ∧ m.refs.getD e.toNat 0 ≠ 1) (hLo : inPl m (n / 4) = true) (htt : t = tn) (HT : Hid (1 ≤ M1.slots.length ∧ M1.slots.length ≤ 40 ∧ (if grabN M1.slots = 40 then (0 : Int) else grabN M1.slots) = (dn : Int))) (HE : Hid (dn ≤ M1.slots.length ∧ 1 ≤ dn ∧ tn < (layS M1.slots dn (1, page, [])).length ∧ (layS M1.slots dn (1, page, [])).getD tn default = (2, ⟨#[]⟩, tableO m (n / 4)) ∧ (layS M1.slots dn (1, page, [])).set tn (2, ⟨#[]⟩, (tableO m (n / 4)).set (n % 4) (dn : Int)) = wL m n page)) (M3 : ImgD) (HM3 : Hid ({ M1 with slots := wL m n page } = M3 ∧ shapeE { M3 with refs := rfZ M3.slots } = 0)) :
    Calls Tryz.prog 21 #[.agg #[.int .i64 m.guest, .slice (some ⟨rb, ro, none⟩) m.root.length rc, .slice sa m.slots.length sc, .slice (some ⟨fb, fo, none⟩) m.refs.length fc, .slice na m.snaps.length nc], .int .i64 (n : Int), .string page] w (AnsJ w (countedD M3) 0) := by
  have b0 : Below w.heap.size w ((w.alloc (.cells #[.int .i64 m.guest, .slice (some ⟨rb, ro, none⟩) m.root.length rc, .slice sa m.slots.length sc, .slice (some ⟨fb, fo, none⟩) m.refs.length fc, .slice na m.snaps.length nc] 27)).alloc (.cells #[.int .i64 0, .slice none 0 0, .slice none 0 0, .slice none 0 0, .slice none 0 0] 27)) := ((Below.refl _ _).alloc (Nat.le_refl _) _).alloc (by simp) _
  have m0 : ((w.alloc (.cells #[.int .i64 m.guest, .slice (some ⟨rb, ro, none⟩) m.root.length rc, .slice sa m.slots.length sc, .slice (some ⟨fb, fo, none⟩) m.refs.length fc, .slice na m.snaps.length nc] 27)).alloc (.cells #[.int .i64 0, .slice none 0 0, .slice none 0 0, .slice none 0 0, .slice none 0 0] 27)).heap[w.heap.size]? = some (.cells #[.int .i64 m.guest, .slice (some ⟨rb, ro, none⟩) m.root.length rc, .slice sa m.slots.length sc, .slice (some ⟨fb, fo, none⟩) m.refs.length fc, .slice na m.snaps.length nc] 27) := cells_alloc (World.alloc_heap_new _ _) _
  have m1 : ((w.alloc (.cells #[.int .i64 m.guest, .slice (some ⟨rb, ro, none⟩) m.root.length rc, .slice sa m.slots.length sc, .slice (some ⟨fb, fo, none⟩) m.refs.length fc, .slice na m.snaps.length nc] 27)).alloc (.cells #[.int .i64 0, .slice none 0 0, .slice none 0 0, .slice none 0 0, .slice none 0 0] 27)).heap[w.heap.size + 1]? = some (.cells #[.int .i64 0, .slice none 0 0, .slice none 0 0, .slice none 0 0, .slice none 0 0] 27) := by have := World.alloc_heap_new (w.alloc (.cells #[.int .i64 m.guest, .slice (some ⟨rb, ro, none⟩) m.root.length rc, .slice sa m.slots.length sc, .slice (some ⟨fb, fo, none⟩) m.refs.length fc, .slice na m.snaps.length nc] 27)) (.cells #[.int .i64 0, .slice none 0 0, .slice none 0 0, .slice none 0 0, .slice none 0 0] 27); simpa using this
  have hsz : w.heap.size + 1 < ((w.alloc (.cells #[.int .i64 m.guest, .slice (some ⟨rb, ro, none⟩) m.root.length rc, .slice sa m.slots.length sc, .slice (some ⟨fb, fo, none⟩) m.refs.length fc, .slice na m.snaps.length nc] 27)).alloc (.cells #[.int .i64 0, .slice none 0 0, .slice none 0 0, .slice none 0 0, .slice none 0 0] 27)).heap.size := by simp
  have hs := checkE_shape hC
  have hgt := guest_ok hs
  have hrt := root_ok hs
  have hr : n / 4 < m.root.length := by omega
  have htl : t < m.slots.length := by obtain ⟨t', ht', h'⟩ := root_nat hs hr; omega
  have hrf : m.refs.length = m.slots.length := (shapeE_zero hs).2.2.1
  have hlen : (tableO m (n / 4)).length = 4 := ckE_len (tableO_ok hs hr).1
  have I0 := h.below b0
  have hlk := lookErr_is I0 (n : Int) (lookE_of hC hn)
  have e4 : ((n / 4 : Nat) : Int) = (n : Int) / 4 := by omega
  have hq1 : ((n : Int) / 4).toNat = n / 4 := by omega
  have hq2 : ((n : Int) % 4).toNat = n % 4 := by omega
  have hri : (n : Int) / 4 < (m.root.length : Int) := by omega
  have h4 : n % 4 < 4 := by omega
  have h4i : (n : Int) % 4 < 4 := by omega
  have h16 : n < 16 := by omega
  have h0q : ¬ (n : Int) / 4 < 0 := by omega
  have h0r : ¬ (n : Int) % 4 < 0 := by omega
  have h0a : 0 ≤ (n : Int) / 4 := by omega
  have h0b : 0 ≤ (n : Int) % 4 := by omega
  have hpz : ((page.size : Int) != 4) = false := by rw [hp]; rfl
  have HR0 : Hid (((w.alloc (.cells #[.int .i64 m.guest, .slice (some ⟨rb, ro, none⟩) m.root.length rc, .slice sa m.slots.length sc, .slice (some ⟨fb, fo, none⟩) m.refs.length fc, .slice na m.snaps.length nc] 27)).alloc (.cells #[.int .i64 0, .slice none 0 0, .slice none 0 0, .slice none 0 0, .slice none 0 0] 27)).cell? ⟨rb, ro + n / 4, none⟩ = some (.int .i64 (t : Int)) ∧ rb < ((w.alloc (.cells #[.int .i64 m.guest, .slice (some ⟨rb, ro, none⟩) m.root.length rc, .slice sa m.slots.length sc, .slice (some ⟨fb, fo, none⟩) m.refs.length fc, .slice na m.snaps.length nc] 27)).alloc (.cells #[.int .i64 0, .slice none 0 0, .slice none 0 0, .slice none 0 0, .slice none 0 0] 27)).heap.size) := ⟨by rw [← ht]; exact (b0.cell (p := ⟨rb, ro + n / 4, none⟩) hrl).trans (hrc (n / 4) hr), Nat.lt_of_lt_of_le hrl b0.size⟩
  have HF0 : Hid (∀ j, j < m.refs.length → ((w.alloc (.cells #[.int .i64 m.guest, .slice (some ⟨rb, ro, none⟩) m.root.length rc, .slice sa m.slots.length sc, .slice (some ⟨fb, fo, none⟩) m.refs.length fc, .slice na m.snaps.length nc] 27)).alloc (.cells #[.int .i64 0, .slice none 0 0, .slice none 0 0, .slice none 0 0, .slice none 0 0] 27)).cell? ⟨fb, fo + j, none⟩ = some (.int .i64 (m.refs.getD j 0)) ∧ fb < ((w.alloc (.cells #[.int .i64 m.guest, .slice (some ⟨rb, ro, none⟩) m.root.length rc, .slice sa m.slots.length sc, .slice (some ⟨fb, fo, none⟩) m.refs.length fc, .slice na m.snaps.length nc] 27)).alloc (.cells #[.int .i64 0, .slice none 0 0, .slice none 0 0, .slice none 0 0, .slice none 0 0] 27)).heap.size) := fun j hj => ⟨(b0.cell (p := ⟨fb, fo + j, none⟩) hfl).trans (hfc j hj), Nat.lt_of_lt_of_le hfl b0.size⟩
  have HP : Hid (checkE m = 0 ∧ shapeE m = 0 ∧ m.root.getD (n / 4) 0 = (t : Int) ∧ lookV m m.root n = e ∧ (n : Int) < m.guest ∧ (tableO m (n / 4)).length = 4 ∧ m.refs.length = m.slots.length ∧ page.size = 4) := ⟨hC, hs, ht, he, hn, hlen, hrf, hp⟩
  clear h hrc hrl hfc hfl hC hs hgt hrt hn ht he hlen hrf hp
  have HM1 : Hid (wo1 m n = M1 ∧ tabN m (n / 4) = tn) := ⟨hM1, htn⟩
  clear hM1 htn
  have HLo : Hid (inPl m (n / 4) = true) := hLo
  have HTT : Hid (t = tn) := htt
  clear hLo htt
  go_enter Tryz.func21, Tryz.ntmps21
  obtain ⟨c0, c1, c2, c3, c4⟩ := five m0
  go_wp2_with (go_at_call 18; refine hlk.mono ?_; rintro e1 w1 ⟨rfl, b1⟩)
  clear c0 c1 c2 c3 c4
  have hz1 : w.heap.size + 1 < w1.heap.size := Nat.lt_of_lt_of_le hsz b1.size
  have n0 := cells_below m0 b1 (by omega)
  have n1 := cells_below m1 b1 hsz
  have I1 := I0.below b1
  have bw : Below w.heap.size w w1 := Below.on b0 b1
  have cR : w1.cell? ⟨rb, ro + n / 4, none⟩ = some (.int .i64 (t : Int)) := (b1.cell (p := ⟨rb, ro + n / 4, none⟩) HR0.out.2).trans HR0.out.1
  have rl1 : rb < w1.heap.size := Nat.lt_of_lt_of_le HR0.out.2 b1.size
  have HF : Hid (∀ j, j < m.refs.length → w1.cell? ⟨fb, fo + j, none⟩ = some (.int .i64 (m.refs.getD j 0)) ∧ fb < w1.heap.size) := fun j hj => ⟨(b1.cell (p := ⟨fb, fo + j, none⟩) (HF0.out j hj).2).trans (HF0.out j hj).1, Nat.lt_of_lt_of_le (HF0.out j hj).2 b1.size⟩
  have HLk : Hid (∀ W, Below w1.heap.size w1 W → Calls Tryz.prog 19 #[.agg #[.int .i64 m.guest, .slice (some ⟨rb, ro, none⟩) m.root.length rc, .slice sa m.slots.length sc, .slice (some ⟨fb, fo, none⟩) m.refs.length fc, .slice na m.snaps.length nc], .int .i64 (n : Int)] W fun r w' => r = .returned (.int .i64 e) ∧ Below W.heap.size W w') := fun W hW => lookOf_is (I1.below hW) (n : Int) (lookE_of HP.out.1 HP.out.2.2.2.2.1) (by rw [Int.toNat_natCast]; exact HP.out.2.2.2.1)
  have HOw : Hid (∀ W, Below w1.heap.size w1 W → Calls Tryz.prog 40 #[.agg #[.int .i64 m.guest, .slice (some ⟨rb, ro, none⟩) m.root.length rc, .slice sa m.slots.length sc, .slice (some ⟨fb, fo, none⟩) m.refs.length fc, .slice na m.snaps.length nc]] W fun r w' => ∃ val, r = .returned (imgV m.guest val) ∧ OX w' W.heap.size val m ∧ Below W.heap.size W w') := fun W hW => ownImage_is (I1.below hW) HP.out.2.1
  have HTb : Hid (∀ W, Below w1.heap.size w1 W → Calls Tryz.prog 43 #[.agg #[.int .i64 m.guest, .slice (some ⟨rb, ro, none⟩) m.root.length rc, .slice sa m.slots.length sc, .slice (some ⟨fb, fo, none⟩) m.refs.length fc, .slice na m.snaps.length nc], .int .i64 (t : Int)] W fun r w' => ∃ g cap, r = .returned (.slice (some ⟨g, 0, none⟩) 4 cap) ∧ w'.ownsRow W.heap.size 3 1 (.slice (some ⟨g, 0, none⟩) 4 cap) 4 (ints (tableO m (n / 4))) ∧ W.heap.size ≤ g ∧ Below W.heap.size W w') := fun W hW => by
    have e := tabAt_O HP.out.2.2.1
    refine (tableOf_is (I1.below hW) htl (by rw [e, HP.out.2.2.2.2.2.1]; decide)).mono ?_
    rintro r w' ⟨v, rfl, h1, h2, h3⟩
    rw [e, HP.out.2.2.2.2.2.1] at h1
    obtain ⟨g, cap, rfl⟩ := row_some h1
    exact ⟨g, cap, rfl, h1, h2 g rfl, h3⟩
  clear b0 b1 m0 m1 I0 I1 HR0 HF0 hlk hsz
  refine wp_region_held_drew (S := (fun X : World => X.heap[w.heap.size]? = some (.cells #[.int .i64 m.guest, .slice (some ⟨rb, ro, none⟩) m.root.length rc, .slice sa m.slots.length sc, .slice (some ⟨fb, fo, none⟩) m.refs.length fc, .slice na m.snaps.length nc] 27) ∧ X.cell? ⟨rb, ro + n / 4, none⟩ = some (.int .i64 (t : Int)))) (by kernel_rfl) ⟨n0, cR⟩ (fun hHeld => ?_)
  refine wpAnyH_take (i := 0) (v := .pointer (some ⟨w.heap.size, 1, none⟩)) rfl (by kernel_rfl) (by kernel_rfl) (by kernel_rfl) (fun _ _ _ h => h) (Or.inl ⟨by rfl, fun w' hSw => by obtain ⟨qa, qb⟩ := hSw; obtain ⟨j0, j1, j2, j3, j4⟩ := five qa; go_simp⟩) hHeld ?_
  simp only [Act.put, List.getElem_toArray, List.getElem_cons_succ, List.getElem_cons_zero, List.setIfInBounds_toArray, List.set_cons_zero, List.set_cons_succ]
  refine wpAnyH_take (i := 1) (v := .slice (some ⟨rb, ro, none⟩) m.root.length rc) rfl (by kernel_rfl) (by kernel_rfl) (by kernel_rfl) (fun _ _ _ h => h) (Or.inl ⟨by rfl, fun w' hSw => by obtain ⟨qa, qb⟩ := hSw; obtain ⟨j0, j1, j2, j3, j4⟩ := five qa; go_simp⟩) hHeld ?_
  simp only [Act.put, List.getElem_toArray, List.getElem_cons_succ, List.getElem_cons_zero, List.setIfInBounds_toArray, List.set_cons_zero, List.set_cons_succ]
  refine wpAnyH_take (i := 2) (v := .int .i64 ((n : Int) / 4)) rfl (by kernel_rfl) (by kernel_rfl) (by kernel_rfl) (fun _ _ _ h => h) (Or.inl ⟨by rfl, fun w' hSw => by obtain ⟨qa, qb⟩ := hSw; obtain ⟨j0, j1, j2, j3, j4⟩ := five qa; go_simp⟩) hHeld ?_
  simp only [Act.put, List.getElem_toArray, List.getElem_cons_succ, List.getElem_cons_zero, List.setIfInBounds_toArray, List.set_cons_zero, List.set_cons_succ]
  refine wpAnyH_take (i := 3) (v := .pointer (some ⟨rb, ro + n / 4, none⟩)) rfl (by kernel_rfl) (by kernel_rfl) (by kernel_rfl) (fun _ _ _ h => h) (Or.inl ⟨by rfl, fun w' hSw => by obtain ⟨qa, qb⟩ := hSw; obtain ⟨j0, j1, j2, j3, j4⟩ := five qa; go_simp⟩) hHeld ?_
  simp only [Act.put, List.getElem_toArray, List.getElem_cons_succ, List.getElem_cons_zero, List.setIfInBounds_toArray, List.set_cons_zero, List.set_cons_succ]
  refine wpAnyH_take (i := 4) (v := .int .i64 (t : Int)) rfl (by kernel_rfl) (by kernel_rfl) (by kernel_rfl) (fun _ _ _ h => h) (Or.inl ⟨by rfl, fun w' hSw => by obtain ⟨qa, qb⟩ := hSw; obtain ⟨j0, j1, j2, j3, j4⟩ := five qa; go_simp⟩) hHeld ?_
  simp only [Act.put, List.getElem_toArray, List.getElem_cons_succ, List.getElem_cons_zero, List.setIfInBounds_toArray, List.set_cons_zero, List.set_cons_succ]
  refine wpAnyH_take (i := 5) (v := .agg #[.int .i64 m.guest, .slice (some ⟨rb, ro, none⟩) m.root.length rc, .slice sa m.slots.length sc, .slice (some ⟨fb, fo, none⟩) m.refs.length fc, .slice na m.snaps.length nc]) rfl (by kernel_rfl) (by kernel_rfl) (by kernel_rfl) (fun _ _ _ h => h) (Or.inl ⟨by rfl, fun w' hSw => by obtain ⟨qa, qb⟩ := hSw; obtain ⟨j0, j1, j2, j3, j4⟩ := five qa; go_simp⟩) hHeld ?_
  simp only [Act.put, List.getElem_toArray, List.getElem_cons_succ, List.getElem_cons_zero, List.setIfInBounds_toArray, List.set_cons_zero, List.set_cons_succ]
  refine wpAnyH_take (i := 6) (v := .int .i64 (n : Int)) rfl (by kernel_rfl) (by kernel_rfl) (by kernel_rfl) (fun _ _ _ h => h) (Or.inl ⟨by rfl, fun w' hSw => by obtain ⟨qa, qb⟩ := hSw; obtain ⟨j0, j1, j2, j3, j4⟩ := five qa; go_simp⟩) hHeld ?_
  simp only [Act.put, List.getElem_toArray, List.getElem_cons_succ, List.getElem_cons_zero, List.setIfInBounds_toArray, List.set_cons_zero, List.set_cons_succ]
  refine wpAnyH_ready (rs := [7]) (by kernel_rfl) (by simp) ?_
  refine AllReadyH.cons rfl (fun K hK => ?_) AllReadyH.nil
  clear hHeld
  simp only [Act.put, List.getElem_toArray, List.getElem_cons_succ, List.getElem_cons_zero, List.setIfInBounds_toArray, List.set_cons_zero, List.set_cons_succ]
  rw [if_pos (by rfl)]
  go_wp2_with (go_at_call 19; refine (HLk.out _ (to_drew (Below.refl _ _))).mono ?_; rintro e2 w2 ⟨rfl, b2⟩)
  have b2 : Below w1.heap.size w1 w2 := below_drew b2
  have k0 := cells_below n0 b2 (by omega)
  have cR2 := (b2.cell (p := ⟨rb, ro + n / 4, none⟩) rl1).trans cR
  refine hK.out _ _ ⟨k0, cR2⟩ (fun hHeld => ?_)
  clear hK K
  try simp only [Act.put, List.getElem_toArray, List.getElem_cons_succ, List.getElem_cons_zero, List.setIfInBounds_toArray, List.set_cons_zero, List.set_cons_succ]
  refine wpAnyH_take (i := 8) (v := .int .i64 (t : Int)) rfl (by kernel_rfl) (by kernel_rfl) (by kernel_rfl) (fun _ _ _ h => h) (Or.inl ⟨by rfl, fun w' hSw => by go_simp⟩) hHeld ?_
  simp only [Act.put, List.getElem_toArray, List.getElem_cons_succ, List.getElem_cons_zero, List.setIfInBounds_toArray, List.set_cons_zero, List.set_cons_succ]
  refine wpAnyH_take (i := 9) (v := .int .i64 e) rfl (by kernel_rfl) (by kernel_rfl) (by kernel_rfl) (fun _ _ _ h => h) (Or.inl ⟨by rfl, fun w' hSw => by go_simp⟩) hHeld ?_
  simp only [Act.put, List.getElem_toArray, List.getElem_cons_succ, List.getElem_cons_zero, List.setIfInBounds_toArray, List.set_cons_zero, List.set_cons_succ]
  clear hHeld
  refine wpAnyH_done (by kernel_rfl) ?_ _
  obtain ⟨c0, c1, c2, c3, c4⟩ := five k0
  go_upto_region 9 with (go_at_call 40; refine (HOw.out w2 b2).mono ?_; rintro e3 w3 ⟨val, rfl, hO, b3⟩; obtain ⟨p0, q0, p1, q1, p2, q2, p3, q3, x0, x1, x2, x3⟩ := hO.four'; unfold imgV; rw [x0, x1, x2, x3])
  have s2 := b2.size
  have s3 := b3.size
  have HD0 : Hid (OwR w1 (w3.alloc (.cells #[.int .i64 m.guest, .slice p0 m.root.length q0, .slice p1 m.slots.length q1, .slice p2 m.refs.length q2, .slice p3 m.snaps.length q3] 27)) w3.heap.size m) := ⟨⟨val, (hO.mono s2).alloc _, by rw [x0, x1, x2, x3]; exact World.alloc_heap_new _ _, hO.lt (Nat.le_refl _)⟩, by omega, (b2.trans (b3.mono s2)).alloc (by omega) _⟩
  clear hO x0 x1 x2 x3 c0 c1 c2 c3 c4 k0 cR2 HLk HOw
  have M0 := cells_below n0 HD0.out.bel (by omega)
  obtain ⟨c0, c1, c2, c3, c4⟩ := five M0
  have HF3 : Hid (∀ j, j < m.refs.length → (w3.alloc (.cells #[.int .i64 m.guest, .slice p0 m.root.length q0, .slice p1 m.slots.length q1, .slice p2 m.refs.length q2, .slice p3 m.snaps.length q3] 27)).cell? ⟨fb, fo + j, none⟩ = some (.int .i64 (m.refs.getD j 0))) := fun j hj => (HD0.out.bel.cell (p := ⟨fb, fo + j, none⟩) (HF.out j hj).2).trans (HF.out j hj).1
  clear b2 b3 M0
  have hDw : w1.heap.size ≤ w3.heap.size := HD0.out.ge
  go_cut [54] from 14 (fun s wx => s = .bool false ∧ Hid (OwR w1 wx w3.heap.size m))
  case first =>
    by_cases hpos : 0 < e
    · obtain ⟨en, rfl⟩ := Int.eq_ofNat_of_zero_le (Int.le_of_lt hpos)
      have g1 : decide (0 < (en : Int)) = true := by simpa using hpos
      have ct := HF3.out t (by have := HP.out.2.2.2.2.2.2.1; omega)
      have l1 : (t : Int) < (m.refs.length : Int) := by have := HP.out.2.2.2.2.2.2.1; omega
      rw [hrt1] at ct
      obtain ⟨hel, hre⟩ := hnot hpos
      rw [Int.toNat_natCast] at hel hre
      have ce := HF3.out en (by have := HP.out.2.2.2.2.2.2.1; omega)
      obtain ⟨xe, hxe⟩ : ∃ x, m.refs.getD en 0 = x := ⟨_, rfl⟩
      rw [hxe] at ce hre
      have l2 : (en : Int) < (m.refs.length : Int) := by have := HP.out.2.2.2.2.2.2.1; omega
      have g3 : (xe == 1) = false := by simpa using hre
      clear hre hxe hnot
      go_wp2_with fail; go_meet; exact ⟨rfl, HD0⟩
    · have g1 : decide (0 < e) = false := by simpa using hpos
      go_wp2_with fail; go_meet; exact ⟨rfl, HD0⟩
  case rest =>
  obtain ⟨rfl, HD1⟩ := hcut
  clear HD0 HF3 c0 c1 c2 c3 c4
  obtain ⟨wa, hwa⟩ : ∃ X, X = wc := ⟨_, rfl⟩
  subst hwa
  go_upto_region 12 with fail
  have M0 := cells_below n0 HD1.out.bel (by omega)
  obtain ⟨c0, c1, c2, c3, c4⟩ := five M0
  have HF1 : Hid (∀ j, j < m.refs.length → wa.cell? ⟨fb, fo + j, none⟩ = some (.int .i64 (m.refs.getD j 0))) := fun j hj => (HD1.out.bel.cell (p := ⟨fb, fo + j, none⟩) (HF.out j hj).2).trans (HF.out j hj).1
  go_cut [71] from 14 (fun s wx => s = .bool false ∧ Hid (OwR w1 wx w3.heap.size m))
  case first =>
    have g1 : ((t : Int) == 0) = false := by simp; omega
    have ct := HF1.out t (by have := HP.out.2.2.2.2.2.2.1; omega)
    rw [hrt1] at ct
    have l1 : (t : Int) < (m.refs.length : Int) := by have := HP.out.2.2.2.2.2.2.1; omega
    go_wp2_with fail; go_meet; exact ⟨rfl, HD1⟩
  case rest =>
  obtain ⟨rfl, HD2⟩ := hcut
  clear HD1 HF1 M0 c0 c1 c2 c3 c4
  obtain ⟨wb, hwb⟩ : ∃ X, X = wc := ⟨_, rfl⟩
  subst hwb
  rw [HTT.out]
  have HD4 : Hid (OwR w1 wb w3.heap.size M1) := by
    show OwR w1 wb w3.heap.size M1
    rw [← HM1.out.1, wo1_lone HP.out.1 hr HLo.out]
    exact HD2.out
  clear HD2
  obtain ⟨we, hwe⟩ : ∃ X, X = wb := ⟨_, rfl⟩
  subst hwe
  obtain ⟨val, hX, hbox, hfar⟩ := HD4.out.ex
  have hbel := HD4.out.bel
  obtain ⟨p0, q0, p1, q1, p2, q2, p3, q3, x0, x1, x2, x3⟩ := hX.four'
  have hbx := hbox
  rw [x0, x1, x2, x3] at hbx
  obtain ⟨d0, d1, d2, d3, d4⟩ := five hbx
  have hS : Slots we (val .slots) M1.slots := Img.four (show Img we (.agg #[_, _, _, _, _]) M1 from hX.img) |>.2.1
  have hG := grabOf_wide hS HT.out.1 HT.out.2.1 HT.out.2.2
  rw [x1] at hG
  have hdn0 : ((dn : Int) == 0) = false := by have := HE.out.2.1; simp; omega
  go_upto_region 21 with (go_at_call 41; refine hG.mono ?_; rintro e4 w4 ⟨rfl, hw⟩; rw [hw]; clear hw)
  clear hG hS hdn0
  obtain ⟨M2, hM2⟩ : ∃ X : ImgD, { M1 with slots := layS M1.slots dn (1, page, []) } = X := ⟨_, rfl⟩
  have hL := layX_is M1.guest (k := 1) (d := page) (ev := .slice none 0 0) (es := []) hX hbel.size HE.out.1 (by have := HT.out.2.1; omega) (World.ownsRow_nil _ _ _ _) (farX_nil _ _ _ _ _)
  unfold imgV at hL
  rw [x0, x1, x2, x3, hM2] at hL
  have HL : Hid (Calls Tryz.prog 42 #[.agg #[.int .i64 M1.guest, .slice p0 M1.root.length q0, .slice p1 M1.slots.length q1, .slice p2 M1.refs.length q2, .slice p3 M1.snaps.length q3], .int .i64 (dn : Int), .agg #[.int .i64 1, .string page, .slice none 0 0]] we fun r w' => ∃ val', r = .returned (imgV M1.guest val') ∧ OX w' w1.heap.size val' M2 ∧ Below w1.heap.size we w' ∧ KeepX we w' M1 val ∧ SrcX we M1 val (.slice none 0 0) M2 val') := hL.mono fun r w' ⟨v, a1, a2, a3, a4, a5, _⟩ => ⟨v, a1, a2, a3, a4, a5⟩
  clear hL
  have HM2 : Hid ({ M1 with slots := layS M1.slots dn (1, page, []) } = M2 ∧ M2.guest = M1.guest) := ⟨hM2, by rw [← hM2]⟩
  clear hM2
  have hDl : w3.heap.size < we.heap.size := (Array.getElem?_eq_some_iff.1 hbx).1
  go_cut [] from 14 (fun wx => Hid (OwR w1 wx w3.heap.size M2))
  case first =>
    go_wp2_with (go_at_call 42; refine HL.out.mono ?_; rintro e6 w5 ⟨val', rfl, hX5, b5, k5, s5⟩; obtain ⟨g0, h0, g1, h1, g2, h2, g3, h3, y0, y1, y2, y3⟩ := hX5.four'; have D5 := (k5 w3.heap.size hDl hfar).trans hbx; obtain ⟨v0, v1, v2, v3, v4⟩ := five D5; have u0 := cells_frozen D5 0; have u1 := cells_frozen D5 1; have u2 := cells_frozen D5 2; have u3 := cells_frozen D5 3; have u4 := cells_frozen D5 4; unfold imgV; rw [y0, y1, y2, y3])
    go_meet
    have hO := ow_call hbel hbox HD4.out.ge hfar hX5 b5 k5 s5 (fun x => by cases x)
    rw [y0, y1, y2, y3, HM2.out.2] at hO
    exact hO
  case rest =>
  have HD5 : Hid (OwR w1 wc w3.heap.size M2) := hcut
  clear hcut HD4 HL hX hbox hfar hbel hbx x0 x1 x2 x3 d0 d1 d2 d3 d4
  obtain ⟨wf, hwf⟩ : ∃ X, X = wc := ⟨_, rfl⟩
  subst hwf
  go_upto_region 22 with fail
  go_cut [] from 14 (fun wx => Hid (OwR w1 wx w3.heap.size M3))
  case first =>
    obtain ⟨val, hX, hbox, hfar⟩ := HD5.out.ex
    have hbel := HD5.out.bel
    obtain ⟨p0, q0, p1, q1, p2, q2, p3, q3, x0, x1, x2, x3⟩ := hX.four'
    have hbx := hbox
    rw [x0, x1, x2, x3] at hbx
    obtain ⟨d0, d1, d2, d3, d4⟩ := five hbx
    have hsl : M2.slots = layS M1.slots dn (1, page, []) := by rw [← HM2.out.1]
    have htl2 : tn < M2.slots.length := by rw [hsl]; exact HE.out.2.2.1
    have htb : M2.slots.getD tn default = (2, ⟨#[]⟩, tableO m (n / 4)) := by rw [hsl]; exact HE.out.2.2.2.1
    have htbl : tbl M2 tn = tableO m (n / 4) := by show (M2.slots.getD tn default).2.2 = _; rw [htb]
    have hnt : tbl M2 tn ≠ [] := fun x => by have := HP.out.2.2.2.2.2.1; rw [← htbl, x] at this; cases this
    obtain ⟨ao, cap, xs, hg⟩ := hX.forms .slots (LiveX.slots _)
    obtain ⟨sg, rfl⟩ := hg (by show 0 < M2.slots.length; omega)
    rw [x1] at xs
    simp only [Value.slice.injEq] at xs
    obtain ⟨rfl, _, _⟩ := xs
    have hrow := hX.row .slots (LiveX.slots _)
    rw [x1] at hrow
    have hrow : wf.ownsRow w1.heap.size 58 3 (.slice (some ⟨sg, 0, none⟩) M2.slots.length q1) M2.slots.length (flatS M2.slots (fun j => val (.tab j))) := hrow
    have hrt := hX.row (.tab tn) (LiveX.tab ⟨htl2, hnt⟩)
    have hrt : wf.ownsRow w1.heap.size 3 1 (val (.tab tn)) (tbl M2 tn).length (ints (tbl M2 tn)) := hrt
    rw [htbl, HP.out.2.2.2.2.2.1] at hrt
    obtain ⟨tg, tc, xt⟩ := row_some hrt
    rw [xt] at hrt
    have hcs := (hrow.cellAt (tn * 3 + 2) (by omega)).trans (flatS_get htl2).2.2
    have hcs : wf.cell? ⟨sg, tn * 3 + 2, none⟩ = some (.slice (some ⟨tg, 0, none⟩) 4 tc) := hcs.trans (congrArg some xt)
    obtain ⟨xo, hxo⟩ : ∃ x, (tableO m (n / 4)).getD (n % 4) 0 = x := ⟨_, rfl⟩
    have hct : wf.cell? ⟨tg, n % 4, none⟩ = some (.int .i64 xo) := by
      refine (hrt.cellAt (n % 4) (by omega)).trans ?_
      unfold ints
      rw [List.getElem?_map, List.getElem?_eq_getElem (by rw [HP.out.2.2.2.2.2.1]; exact h4), ← hxo]
      simp [List.getD, HP.out.2.2.2.2.2.1, h4]
    have hfz := hrt.frozenAt (n % 4)
    have htl2i : (tn : Int) < (M2.slots.length : Int) := by omega
    have HTB : Hid (M2.slots.getD tn default = (2, ⟨#[]⟩, tableO m (n / 4))) := htb
    clear hxo hsl htb htbl
    go_wp2_with fail
    go_meet
    have htb := HTB.out
    have hO := ow_tab hX hbel hbox HD5.out.ge hfar htl2 hnt xt (n % 4) (dn : Int)
    rw [htb] at hO
    have e3 : { M2 with slots := M2.slots.set tn (2, ⟨#[]⟩, (tableO m (n / 4)).set (n % 4) (dn : Int)) } = M3 := by
      rw [← HM2.out.1]
      show { M1 with slots := (layS M1.slots dn (1, page, [])).set tn (2, ⟨#[]⟩, (tableO m (n / 4)).set (n % 4) (dn : Int)) } = M3
      rw [HE.out.2.2.2.2]
      exact HM3.out.1
    rw [← e3]
    exact hO
  case rest =>
  have HD6 : Hid (OwR w1 wc w3.heap.size M3) := hcut
  clear hcut HD5
  obtain ⟨wg, hwg⟩ : ∃ X, X = wc := ⟨_, rfl⟩
  subst hwg
  obtain ⟨val, hX, hbox, hfar⟩ := HD6.out.ex
  have hbel := HD6.out.bel
  obtain ⟨p0, q0, p1, q1, p2, q2, p3, q3, x0, x1, x2, x3⟩ := hX.four'
  have hbx := hbox
  rw [x0, x1, x2, x3] at hbx
  obtain ⟨d0, d1, d2, d3, d4⟩ := five hbx
  have z9 := cells_below n1 hbel hz1
  obtain ⟨z0, z1, z2, z3, z4⟩ := five z9
  have y0 := cells_frozen z9 0; have y1 := cells_frozen z9 1; have y2 := cells_frozen z9 2; have y3 := cells_frozen z9 3; have y4 := cells_frozen z9 4
  have nD1 : ¬ w3.heap.size = w.heap.size + 1 := by omega
  have nD2 : ¬ w.heap.size + 1 = w3.heap.size := by omega
  have hc := countedX_is hX hbel.size HM3.out.2
  unfold imgV at hc
  rw [x0, x1, x2, x3] at hc
  have HCt : Hid (Calls Tryz.prog 44 #[.agg #[.int .i64 M3.guest, .slice p0 M3.root.length q0, .slice p1 M3.slots.length q1, .slice p2 M3.refs.length q2, .slice p3 M3.snaps.length q3]] wg fun r w' => ∃ val', r = .returned (imgV M3.guest val') ∧ OX w' w1.heap.size val' (countedD M3) ∧ Below w1.heap.size wg w' ∧ KeepX wg w' M3 val ∧ SrcX wg M3 val (.slice none 0 0) (countedD M3) val') := hc
  have hzl : w.heap.size + 1 < wg.heap.size := Nat.lt_of_lt_of_le hz1 hbel.size
  have hfz : ∀ a, LiveX M3 a → (val a).ownBlock ≠ some (w.heap.size + 1) := fun a ha x => by have := ((hX.row a ha).lt _ x).1; omega
  clear hc
  go_wp2_with (go_at_call 44; refine HCt.out.mono ?_; rintro e7 w7 ⟨val2, rfl, hO7, b7, k7, s7⟩; obtain ⟨u0, v0, u1, v1, u2, v2, u3, v3, j0, j1, j2, j3⟩ := hO7.four'; have k17 := (k7 (w.heap.size + 1) hzl hfz).trans z9; obtain ⟨o0, o1, o2, o3, o4⟩ := five k17; have oo0 := cells_frozen k17 0; have oo1 := cells_frozen k17 1; have oo2 := cells_frozen k17 2; have oo3 := cells_frozen k17 3; have oo4 := cells_frozen k17 4; unfold imgV; rw [j0, j1, j2, j3])
  have hfr : ∀ a, LiveX (countedD M3) a → (val2 a).ownBlock ≠ some (w.heap.size + 1) := fun a ha x => by
    have := ((hO7.row a ha).lt _ x).1
    omega
  have hI := fun x0 x1 x2 x3 x4 => hO7.five hfr x0 x1 x2 x3 x4
  have eI : imgV (countedD M3).guest val2 = .agg #[.int .i64 M3.guest, .slice u0 (countedD M3).root.length v0, .slice u1 (countedD M3).slots.length v1, .slice u2 (countedD M3).refs.length v2, .slice u3 (countedD M3).snaps.length v3] := by unfold imgV; rw [j0, j1, j2, j3]; rfl
  have hB8 : Below w.heap.size w w7 := (Below.on bw hbel).trans (b7.mono (by omega))
  refine bodyPost_ret (v := .tuple #[.agg #[.int .i64 M3.guest, .slice u0 (countedD M3).root.length v0, .slice u1 (countedD M3).slots.length v1, .slice u2 (countedD M3).refs.length v2, .slice u3 (countedD M3).snaps.length v3], .int .i64 0]) (by simp [results, Tryz.results21, go_sem, o0, o1, o2, o3, o4]) rfl ⟨u0, v0, u1, v1, u2, v2, u3, v3, rfl, fun W' hW => (by have := ((hI _ _ _ _ _).keep (fun q hq _ => hW q (by omega))).img; rw [eI] at this; exact this), below_five hB8 (Nat.le_succ _) _ _ _ _ _⟩
end Go.Proofs.YtehleeibgkpjmaeGreat
/- Counting slots. Plain lists. -/
namespace Go.Proofs.YtehleeibgkpjmaeGreat
open Go.RowKit Go.Shelf
theorem count_none {l : List Int} {t : Int} (h : t ∉ l) : l.count t = 0 := List.count_eq_zero.2 h
end Go.Proofs.YtehleeibgkpjmaeGreat
/- Writing, in numbers: how the counts change, and how many slots a write takes. Plain lists. -/
namespace Go.Proofs.YtehleeibgkpjmaeGreat
open Go.RowKit Go.Shelf
theorem root_natG {m : ImgD} (hs : shapeE m = 0) {r : Nat} (hr : r < m.root.length) : ∃ t : Nat, m.root.getD r 0 = (t : Int) ∧ t < m.slots.length := by
  have hro := root_ok hs
  have hm : m.root.getD r 0 ∈ m.root := by simp [List.getD, hr]
  have hE := List.all_eq_true.1 hro.2 _ hm
  have hp := slotsE_parts (shapeE_zero hs).2.1
  by_cases h0 : m.root.getD r 0 = 0
  · exact ⟨0, h0, by omega⟩
  · unfold rootE at hE
    have hk : isKd m.slots (m.root.getD r 0) 2 = true := by
      cases hx : isKd m.slots (m.root.getD r 0) 2 with
      | true => rfl
      | false => rw [hx] at hE; simp at hE; exact absurd hE h0
    obtain ⟨j, hj, hjl, _⟩ := isKd_yes hk
    exact ⟨j, hj, hjl⟩
def tC (m : ImgD) (x : Nat) : Nat := (flatR m).count (x : Int)
def pC (m : ImgD) (x : Nat) : Nat := sumT m.slots (flatR m) (x : Int)
theorem kd_one {m : ImgD} (h : shapeE m = 0) {x : Nat} (hk : kd m.slots x ≠ 0) : 1 ≤ x ∧ x < m.slots.length := by
  refine ⟨?_, kd_lt hk⟩
  rcases Nat.eq_zero_or_pos x with e | e
  · rw [e] at hk; exact absurd (slot0 (shapeE_zero h).2.1) hk
  · exact e
theorem cnt_tab {m : ImgD} (h : shapeE m = 0) {x : Nat} (hk : kd m.slots x = 2) : (cntL m).getD x 0 = (tC m x : Int) := by
  obtain ⟨h1, hx⟩ := kd_one h (x := x) (by rw [hk]; decide)
  rw [cntL_get h x hx]
  unfold cntI tC
  rw [if_neg (by omega), sumT_no (shapeE_zero h).2.2.2.2.2.1 _ h1 (by rw [hk]; decide), Nat.add_zero]
theorem tC_none {m : ImgD} (h : shapeE m = 0) {x : Nat} (h1 : 1 ≤ x) (hk : kd m.slots x ≠ 2) : tC m x = 0 :=
  count_none (fun hm => hk (told_root h hm h1).2.1)
theorem cnt_page {m : ImgD} (h : shapeE m = 0) {x : Nat} (hk : kd m.slots x = 1) : (cntL m).getD x 0 = (pC m x : Int) := by
  obtain ⟨h1, hx⟩ := kd_one h (x := x) (by rw [hk]; decide)
  rw [cntL_get h x hx]
  have h0 := tC_none h h1 (by rw [hk]; decide)
  unfold tC at h0
  unfold cntI pC
  rw [if_neg (by omega), h0, Nat.zero_add]
/-! ### What a write takes -/
def lo (m : ImgD) (n : Nat) : Bool := m.root.getD (n / 4) 0 != 0 && tC m (m.root.getD (n / 4) 0).toNat == 1
def so (m : ImgD) (n : Nat) : Bool := decide (0 < lookV m m.root n) && pC m (lookV m m.root n).toNat == 1
def need (m : ImgD) (n : Nat) : Nat := if lo m n = true then (if so m n = true then 0 else 1) else 2

theorem root_facts {m : ImgD} (hC : checkE m = 0) {k : Nat} (hk : k < m.root.length) : ∃ t : Nat, m.root.getD k 0 = (t : Int) ∧ (t = 0 ∨ (1 ≤ t ∧ kd m.slots t = 2 ∧ 1 ≤ tC m t ∧ m.refs.getD t 0 = (tC m t : Int))) := by
  obtain ⟨hs, hr, _⟩ := checkE_zero hC
  obtain ⟨t, ht, _⟩ := root_natG hs hk
  refine ⟨t, ht, ?_⟩
  rcases Nat.eq_zero_or_pos t with e | e
  · exact .inl e
  · have hm : (t : Int) ∈ flatR m := by
      rw [flatR_app, ← ht, getD_at hk]
      exact List.mem_append_left _ (List.getElem_mem hk)
    have h2 := (told_root hs hm e).2.1
    refine .inr ⟨e, h2, List.count_pos_iff.2 hm, ?_⟩
    rw [← hr]; exact cnt_tab hs h2
theorem look_facts {m : ImgD} (hC : checkE m = 0) {n : Nat} (hk : n / 4 < m.root.length) : lookV m m.root n ≤ 0 ∨ ∃ e : Nat, lookV m m.root n = (e : Int) ∧ 1 ≤ e ∧ kd m.slots e = 1 ∧ m.refs.getD e 0 = (pC m e : Int) := by
  obtain ⟨hs, hr, _⟩ := checkE_zero hC
  obtain ⟨ock, oent⟩ := tableO_ok hs hk
  rw [lookV_tableO]
  have h4 : n % 4 < (tableO m (n / 4)).length := by rw [ckE_len ock]; omega
  have hmem : (tableO m (n / 4)).getD (n % 4) 0 ∈ tableO m (n / 4) := by rw [getD_at h4]; exact List.getElem_mem h4
  rcases tabE_cases (oent _ hmem) with e | e | ⟨j, e, _, hkj⟩
  · left; omega
  · left; omega
  · right
    refine ⟨j, e, (kd_one hs (by rw [hkj]; decide)).1, hkj, ?_⟩
    rw [← hr]; exact cnt_page hs hkj
theorem lo_inPl {m : ImgD} (hC : checkE m = 0) {n : Nat} (hk : n / 4 < m.root.length) : lo m n = inPl m (n / 4) := by
  obtain ⟨t, ht, h⟩ := root_facts hC hk
  unfold lo inPl
  rw [ht, Int.toNat_natCast]
  rcases h with h | ⟨_, _, _, h⟩
  · subst h; rfl
  · rw [h]
    congr 1
    rw [Bool.eq_iff_iff]; simp only [beq_iff_eq]; omega
theorem so_wInPl {m : ImgD} (hC : checkE m = 0) {n : Nat} (hk : n / 4 < m.root.length) : wInPl m n = (lo m n && so m n) := by
  rw [lo_inPl hC hk]
  unfold wInPl so
  rcases look_facts hC hk with h | ⟨e, he, h1, _, h2⟩
  · rw [show decide (0 < lookV m m.root n) = false by simp; omega]; simp
  · rw [he, Int.toNat_natCast, h2, show decide (0 < (e : Int)) = true by simp; omega, Bool.true_and, Bool.true_and]
    congr 1
    rw [Bool.eq_iff_iff]; simp only [beq_iff_eq]; omega
/-! ### Used slots -/
end Go.Proofs.YtehleeibgkpjmaeGreat
/- Contract of the document's WriteOf: whatever it is handed. -/
namespace Go.Proofs.YtehleeibgkpjmaeGreat
open Go.RowKit Go.Shelf
set_option maxRecDepth 20000
set_option linter.unusedVariables false
set_option linter.unusedSimpArgs false

set_option maxHeartbeats 4000000 in
theorem wo_bad (ra : Option Addr) (rc : Nat) (sa : Option Addr) (sc : Nat) (fa : Option Addr) (fc : Nat) (na : Option Addr) (nc : Nat) (m : ImgD) (n : Int) (page : ByteArray) (w : World) (h : Img w (.agg #[.int .i64 m.guest, .slice ra m.root.length rc, .slice sa m.slots.length sc, .slice fa m.refs.length fc, .slice na m.snaps.length nc]) m) (E : Int) (hE : lookE m n = E) (hne : (E != 0) = true) :
    Calls Tryz.prog 21 #[.agg #[.int .i64 m.guest, .slice ra m.root.length rc, .slice sa m.slots.length sc, .slice fa m.refs.length fc, .slice na m.snaps.length nc], .int .i64 n, .string page] w (AnsJ w imgZ E) := by
  have b0 : Below w.heap.size w ((w.alloc (.cells #[.int .i64 m.guest, .slice ra m.root.length rc, .slice sa m.slots.length sc, .slice fa m.refs.length fc, .slice na m.snaps.length nc] 27)).alloc (.cells #[.int .i64 0, .slice none 0 0, .slice none 0 0, .slice none 0 0, .slice none 0 0] 27)) := ((Below.refl _ _).alloc (Nat.le_refl _) _).alloc (by simp) _
  have m0 : ((w.alloc (.cells #[.int .i64 m.guest, .slice ra m.root.length rc, .slice sa m.slots.length sc, .slice fa m.refs.length fc, .slice na m.snaps.length nc] 27)).alloc (.cells #[.int .i64 0, .slice none 0 0, .slice none 0 0, .slice none 0 0, .slice none 0 0] 27)).heap[w.heap.size]? = some (.cells #[.int .i64 m.guest, .slice ra m.root.length rc, .slice sa m.slots.length sc, .slice fa m.refs.length fc, .slice na m.snaps.length nc] 27) := cells_alloc (World.alloc_heap_new _ _) _
  have m1 : ((w.alloc (.cells #[.int .i64 m.guest, .slice ra m.root.length rc, .slice sa m.slots.length sc, .slice fa m.refs.length fc, .slice na m.snaps.length nc] 27)).alloc (.cells #[.int .i64 0, .slice none 0 0, .slice none 0 0, .slice none 0 0, .slice none 0 0] 27)).heap[w.heap.size + 1]? = some (.cells #[.int .i64 0, .slice none 0 0, .slice none 0 0, .slice none 0 0, .slice none 0 0] 27) := by have := World.alloc_heap_new (w.alloc (.cells #[.int .i64 m.guest, .slice ra m.root.length rc, .slice sa m.slots.length sc, .slice fa m.refs.length fc, .slice na m.snaps.length nc] 27)) (.cells #[.int .i64 0, .slice none 0 0, .slice none 0 0, .slice none 0 0, .slice none 0 0] 27); simpa using this
  have hsz : w.heap.size + 1 < ((w.alloc (.cells #[.int .i64 m.guest, .slice ra m.root.length rc, .slice sa m.slots.length sc, .slice fa m.refs.length fc, .slice na m.snaps.length nc] 27)).alloc (.cells #[.int .i64 0, .slice none 0 0, .slice none 0 0, .slice none 0 0, .slice none 0 0] 27)).heap.size := by simp
  obtain ⟨c0, c1, c2, c3, c4⟩ := five m0
  have hlk := lookErr_is (h.below b0) n hE
  clear h hE
  go_enter Tryz.func21, Tryz.ntmps21
  go_wp2_with (go_at_call 18; refine hlk.mono ?_; rintro e1 w1 ⟨rfl, b1⟩; have n0 := cells_below m0 b1 (by omega); have n1 := cells_below m1 b1 hsz; obtain ⟨d0, d1, d2, d3, d4⟩ := five n0; obtain ⟨z0, z1, z2, z3, z4⟩ := five n1; have y0 := cells_frozen n1 0; have y1 := cells_frozen n1 1; have y2 := cells_frozen n1 2; have y3 := cells_frozen n1 3; have y4 := cells_frozen n1 4)
  refine bodyPost_ret (v := .tuple #[.agg #[.int .i64 0, .slice none 0 0, .slice none 0 0, .slice none 0 0, .slice none 0 0], .int .i64 E]) (by simp [results, Tryz.results21, go_sem, z0, z1, z2, z3, z4]) rfl ⟨none, 0, none, 0, none, 0, none, 0, rfl, fun W' _ => imgZ_im W', below_five (Below.on b0 b1) (Nat.le_succ _) _ _ _ _ _⟩

set_option maxHeartbeats 4000000 in
theorem wo_len (ra : Option Addr) (rc : Nat) (sa : Option Addr) (sc : Nat) (fa : Option Addr) (fc : Nat) (na : Option Addr) (nc : Nat) (m : ImgD) (n : Int) (page : ByteArray) (w : World) (h : Img w (.agg #[.int .i64 m.guest, .slice ra m.root.length rc, .slice sa m.slots.length sc, .slice fa m.refs.length fc, .slice na m.snaps.length nc]) m) (hE : lookE m n = 0) (hne : ((page.size : Int) != 4) = true) :
    Calls Tryz.prog 21 #[.agg #[.int .i64 m.guest, .slice ra m.root.length rc, .slice sa m.slots.length sc, .slice fa m.refs.length fc, .slice na m.snaps.length nc], .int .i64 n, .string page] w (AnsJ w imgZ 1) := by
  have b0 : Below w.heap.size w ((w.alloc (.cells #[.int .i64 m.guest, .slice ra m.root.length rc, .slice sa m.slots.length sc, .slice fa m.refs.length fc, .slice na m.snaps.length nc] 27)).alloc (.cells #[.int .i64 0, .slice none 0 0, .slice none 0 0, .slice none 0 0, .slice none 0 0] 27)) := ((Below.refl _ _).alloc (Nat.le_refl _) _).alloc (by simp) _
  have m0 : ((w.alloc (.cells #[.int .i64 m.guest, .slice ra m.root.length rc, .slice sa m.slots.length sc, .slice fa m.refs.length fc, .slice na m.snaps.length nc] 27)).alloc (.cells #[.int .i64 0, .slice none 0 0, .slice none 0 0, .slice none 0 0, .slice none 0 0] 27)).heap[w.heap.size]? = some (.cells #[.int .i64 m.guest, .slice ra m.root.length rc, .slice sa m.slots.length sc, .slice fa m.refs.length fc, .slice na m.snaps.length nc] 27) := cells_alloc (World.alloc_heap_new _ _) _
  have m1 : ((w.alloc (.cells #[.int .i64 m.guest, .slice ra m.root.length rc, .slice sa m.slots.length sc, .slice fa m.refs.length fc, .slice na m.snaps.length nc] 27)).alloc (.cells #[.int .i64 0, .slice none 0 0, .slice none 0 0, .slice none 0 0, .slice none 0 0] 27)).heap[w.heap.size + 1]? = some (.cells #[.int .i64 0, .slice none 0 0, .slice none 0 0, .slice none 0 0, .slice none 0 0] 27) := by have := World.alloc_heap_new (w.alloc (.cells #[.int .i64 m.guest, .slice ra m.root.length rc, .slice sa m.slots.length sc, .slice fa m.refs.length fc, .slice na m.snaps.length nc] 27)) (.cells #[.int .i64 0, .slice none 0 0, .slice none 0 0, .slice none 0 0, .slice none 0 0] 27); simpa using this
  have hsz : w.heap.size + 1 < ((w.alloc (.cells #[.int .i64 m.guest, .slice ra m.root.length rc, .slice sa m.slots.length sc, .slice fa m.refs.length fc, .slice na m.snaps.length nc] 27)).alloc (.cells #[.int .i64 0, .slice none 0 0, .slice none 0 0, .slice none 0 0, .slice none 0 0] 27)).heap.size := by simp
  obtain ⟨c0, c1, c2, c3, c4⟩ := five m0
  have hlk := lookErr_is (h.below b0) n hE
  clear h hE
  go_enter Tryz.func21, Tryz.ntmps21
  go_wp2_with (go_at_call 18; refine hlk.mono ?_; rintro e1 w1 ⟨rfl, b1⟩; have n0 := cells_below m0 b1 (by omega); have n1 := cells_below m1 b1 hsz; obtain ⟨d0, d1, d2, d3, d4⟩ := five n0; obtain ⟨z0, z1, z2, z3, z4⟩ := five n1; have y0 := cells_frozen n1 0; have y1 := cells_frozen n1 1; have y2 := cells_frozen n1 2; have y3 := cells_frozen n1 3; have y4 := cells_frozen n1 4)
  refine bodyPost_ret (v := .tuple #[.agg #[.int .i64 0, .slice none 0 0, .slice none 0 0, .slice none 0 0, .slice none 0 0], .int .i64 1]) (by simp [results, Tryz.results21, go_sem, z0, z1, z2, z3, z4]) rfl ⟨none, 0, none, 0, none, 0, none, 0, rfl, fun W' _ => imgZ_im W', below_five (Below.on b0 b1) (Nat.le_succ _) _ _ _ _ _⟩

theorem wo_ok {w : World} {v : Value} {m : ImgD} (h : Img w v m) (hC : checkE m = 0) {n : Nat} (hn : (n : Int) < m.guest) {page : ByteArray} (hp : page.size = 4) :
    Calls Tryz.prog 21 #[v, .int .i64 (n : Int), .string page] w (AnsJ w ((writeD m n page).getD imgZ) (errO (writeD m n page))) := by
  have h' := h
  obtain ⟨ra, rc, sa, sc, fa, fc, na, nc, rfl, _⟩ := h.parts
  have hs := checkE_shape hC
  have hgt := guest_ok hs
  have hrt := root_ok hs
  have hr : n / 4 < m.root.length := by omega
  have hsp := slotsE_parts (shapeE_zero hs).2.1
  have hrf : m.refs.length = m.slots.length := (shapeE_zero hs).2.2.1
  obtain ⟨ao, cap, ev, _, _, hcell⟩ := h'.four.1
  obtain ⟨rb, ro, rfl, hrl, hrc⟩ := hcell (by intro x; rw [x] at hr; simp at hr)
  simp only [Value.slice.injEq] at ev
  obtain ⟨rfl, _, rfl⟩ := ev
  obtain ⟨ao, cap, ev, _, _, hcell⟩ := h'.four.2.2.1
  obtain ⟨fb, fo, rfl, hfl, hfc⟩ := hcell (by intro x; rw [x] at hrf; simp at hrf; omega)
  simp only [Value.slice.injEq] at ev
  obtain ⟨rfl, _, rfl⟩ := ev
  obtain ⟨t, ht, hT⟩ := root_facts hC hr
  have hlo := lo_inPl hC hr
  have hwi := so_wInPl hC hr
  obtain ⟨e, he⟩ : ∃ e, lookV m m.root n = e := ⟨_, rfl⟩
  have hlk := look_facts hC hr
  rw [he] at hlk
  have hpos : 0 < e → 1 ≤ t := fun x => by
    rcases Nat.eq_zero_or_pos t with h0 | h0
    · exfalso
      unfold lookV at he
      rw [ht, h0, if_pos (show ((0 : Nat) : Int) = 0 from rfl)] at he
      omega
    · exact h0
  by_cases hi : wInPl m n = true
  · have e1 : writeD m n page = some { m with slots := m.slots.set e.toNat (1, page, []) } := by unfold writeD; rw [if_pos hi, he]
    rw [e1]
    have hi2 := hi
    unfold wInPl at hi2
    rw [he] at hi2
    simp only [Bool.and_eq_true, decide_eq_true_eq, beq_iff_eq] at hi2
    obtain ⟨p0, pin, pre⟩ := hi2
    rcases hlk with x | ⟨en, hen, en1, hke, _⟩
    · omega
    · have pin2 := pin
      unfold inPl at pin2
      rw [ht, Int.toNat_natCast] at pin2
      simp only [Bool.and_eq_true, bne_iff_ne, beq_iff_eq] at pin2
      have hek : e.toNat = en := by omega
      exact wo_in rb ro _ sa sc fb fo _ na nc m n page w h' hrc hrl hfc hfl hC hn hp t ht e he ⟨en, en1, hen⟩ (by rw [hek]; exact kd_lt (by rw [hke]; decide)) pin2.2 pre (by rw [hek]; exact hke) (by rw [hek]; exact tab_page (shapeE_zero hs).2.1 hke) _ rfl
  · by_cases hin : inPl m (n / 4) = true
    · -- the table is told once
      have pin2 := hin
      unfold inPl at pin2
      rw [ht, Int.toNat_natCast] at pin2
      simp only [Bool.and_eq_true, bne_iff_ne, beq_iff_eq] at pin2
      have t1 : 1 ≤ t := by omega
      have htn : tabN m (n / 4) = t := by unfold tabN; rw [if_pos hin, ht]; simp
      have htl : t < m.slots.length := by obtain ⟨t', ht', h'⟩ := root_nat hs hr; omega
      have h40 : tabN m (n / 4) ≠ 40 := by rw [htn]; omega
      obtain ⟨f1, f2, f3, f4, f5⟩ := wo_facts hC hn h40
      have hnot : 0 < e → e.toNat < m.slots.length ∧ m.refs.getD e.toNat 0 ≠ 1 := fun x => by
        rcases hlk with y | ⟨en, hen, en1, hke, _⟩
        · omega
        · have hek : e.toNat = en := by omega
          refine ⟨by rw [hek]; exact kd_lt (by rw [hke]; decide), fun y => hi ?_⟩
          unfold wInPl
          rw [he, hin, y]
          simp; omega
      by_cases hd : wD m n = 40
      · have e1 : writeD m n page = none := by unfold writeD; rw [if_neg hi, if_neg h40, if_pos hd]
        rw [e1]
        exact wo_lf rb ro _ sa sc fb fo _ na nc m n page w h' hrc hrl hfc hfl hC hn hp t ht e he _ 0 htn _ rfl t1 pin2.2 hnot hin rfl ⟨f1, f2, if_pos hd⟩
      · have e1 : writeD m n page = some (countedD { wo1 m n with slots := wL m n page }) := by unfold writeD; rw [if_neg hi, if_neg h40, if_neg hd]; rfl
        rw [e1]
        have hE := wo_end hC hn h40 hd hp
        rw [htn] at hE
        exact wo_lk rb ro _ sa sc fb fo _ na nc m n page w h' hrc hrl hfc hfl hC hn hp t ht e he _ _ htn _ rfl t1 pin2.2 hnot hin rfl ⟨f1, f2, if_neg hd⟩ hE _ ⟨rfl, wo_counted hC hn h40 hd hp⟩
    · have htn : tabN m (n / 4) = grabN m.slots := by unfold tabN; rw [if_neg hin]
      have hmany : 1 ≤ t → 1 < m.refs.getD t 0 := fun t1 => by
        rcases hT with x | ⟨_, _, hc, hrr⟩
        · omega
        · have : ¬ m.refs.getD t 0 = 1 := fun x => hin (by
            unfold inPl
            rw [ht, Int.toNat_natCast, x]
            simp; omega)
          omega
      by_cases h40 : tabN m (n / 4) = 40
      · have e1 : writeD m n page = none := by unfold writeD; rw [if_neg hi, if_pos h40]
        rw [e1]
        exact wo_f1 rb ro _ sa sc fb fo _ na nc m n page w h' hrc hrl hfc hfl hC hn hp t ht e he hpos hmany (by rw [← htn]; exact h40)
      · obtain ⟨f1, f2, f3, f4, f5⟩ := wo_facts hC hn h40
        obtain ⟨_, tl, t40, _, _⟩ := tabN_spec hC hr h40
        by_cases hd : wD m n = 40
        · have e1 : writeD m n page = none := by unfold writeD; rw [if_neg hi, if_neg h40, if_pos hd]
          rw [e1]
          exact wo_nf rb ro _ sa sc fb fo _ na nc m n page w h' hrc hrl hfc hfl hC hn hp t ht e he _ 0 rfl _ rfl hpos hmany ⟨htn.symm, hsp.1, hsp.2, t40, f4, tl⟩ ⟨f1, f2, if_pos hd⟩
        · have e1 : writeD m n page = some (countedD { wo1 m n with slots := wL m n page }) := by unfold writeD; rw [if_neg hi, if_neg h40, if_neg hd]; rfl
          rw [e1]
          exact wo_nk rb ro _ sa sc fb fo _ na nc m n page w h' hrc hrl hfc hfl hC hn hp t ht e he _ _ rfl _ rfl hpos hmany ⟨htn.symm, hsp.1, hsp.2, t40, f4, tl⟩ ⟨f1, f2, if_neg hd⟩ (wo_end hC hn h40 hd hp) _ ⟨rfl, wo_counted hC hn h40 hd hp⟩
theorem writeOf_is {w : World} {v : Value} {m : ImgD} (h : Img w v m) (n : Int) (page : ByteArray) {M : ImgD} {E : Int} (hM : wrM m n page = M) (hE : wrE m n page = E) : Calls Tryz.prog 21 #[v, .int .i64 n, .string page] w (AnsJ w M E) := by
  have h' := h
  obtain ⟨ra, rc, sa, sc, fa, fc, na, nc, rfl, _⟩ := h.parts
  subst hM hE
  unfold wrM wrE
  by_cases hl : lookE m n = 0
  · have hne : ¬ lookE m n ≠ 0 := by simpa using hl
    rw [if_neg hne, if_neg hne]
    by_cases hp : page.size = 4
    · rw [if_pos hp, if_pos hp]
      obtain ⟨hC, n0, hn⟩ := lookE_prt hl
      obtain ⟨k, rfl⟩ := Int.eq_ofNat_of_zero_le n0
      exact wo_ok h' hC hn hp
    · rw [if_neg hp, if_neg hp]
      exact wo_len ra rc sa sc fa fc na nc m n page w h' hl (by simp; omega)
  · rw [if_pos hl, if_pos hl]
    exact wo_bad ra rc sa sc fa fc na nc m n page w h' _ rfl (by simpa using hl)
end Go.Proofs.YtehleeibgkpjmaeGreat
/- append([]string{}, src...): a copy of one's own. -/
namespace Go.Proofs.YtehleeibgkpjmaeGreat
open Go.RowKit Go.Shelf
set_option maxRecDepth 20000
set_option linter.unusedVariables false
set_option linter.unusedSimpArgs false

theorem run_append_nilS (W : World) (ty : TypeId) (g n c : Nat) (hn : n ≤ c) (c' : Nat) : (Builtin.append_ #[22, 22] ty #[.slice (some ⟨g, 0, none⟩) n c, .slice none 0 c']).run Tryz.prog W = .ok (.slice (some ⟨g, 0, none⟩) n c) W := by
  simp [Builtin.append_, go_sem, hn]
theorem run_copyS {W : World} (ty : TypeId) {g B : Nat} (hg : W.heap[g]? = some (.cells #[] 9)) (hB : B ≤ g) {src : Value} {xs : List ByteArray} (hsl : Ss W src xs) (hlen : xs.length ≤ 1000) :
    ∃ v' w', (Builtin.append_ #[22, 22] ty #[.slice (some ⟨g, 0, none⟩) 0 0, src]).run Tryz.prog W = .ok v' w' ∧ w'.ownsRow B 9 1 v' xs.length (strs xs) ∧ W.grownBy w' (some g) ∧ (v'.ownBlock = some g ∨ v'.ownBlock = some W.heap.size) := by
  have hgl := (Array.getElem?_eq_some_iff.1 hg).1
  obtain ⟨ao, cap, rfl, hm, hcp, hc⟩ := hsl
  cases ao with
  | none =>
    have hx : xs = [] := Classical.byContradiction fun hne => by obtain ⟨_, _, e, _⟩ := hc hne; cases e
    subst hx
    refine ⟨_, W, run_append_nilS W ty g 0 0 (Nat.le_refl _) cap, empty_row hg hB, ⟨rfl, rfl, rfl, Nat.le_refl _, fun _ _ _ => rfl⟩, .inl rfl⟩
  | some a =>
    obtain ⟨i0, hi, hz0, hz1, hz2⟩ := info_parts info9
    have hnews : ∀ j u, (strs xs)[j]? = some u → W.cell? (a.add j) = some u := fun j u hu => by
      have hj : j < xs.length := by
        rcases Nat.lt_or_ge j xs.length with h | h
        · exact h
        · rw [List.getElem?_eq_none (by rw [strs_length]; exact h)] at hu; cases hu
      obtain ⟨b, off, e, _, hcell⟩ := hc (by intro e; rw [e] at hj; simp at hj)
      simp only [Option.some.injEq] at e
      subst e
      rw [addr_add, hcell j hj]
      unfold strs at hu
      rw [List.getElem?_map, List.getElem?_eq_getElem hj] at hu
      simp at hu
      simp [List.getD, hj, hu]
    obtain ⟨v', w', h1, h2, h3, _, h5⟩ := run_append_own_at (P := Tryz.prog) W B 22 ty 9 i0 (.string ByteArray.empty) 1 16 Tryz.underlying22 hi hz0 hz1 hz2 rfl (by decide) (.slice (some ⟨g, 0, none⟩) 0 0) 0 [] (empty_row hg hB) a xs.length cap (strs xs) (by rw [strs_length]; omega) hnews strs_mem (by omega) (by omega) (by omega)
    exact ⟨v', w', h1, by simpa using h2, h3, h5⟩
theorem wp_copyS {W : World} {o : Oper} {a : Act} {K : Act → World → Prop} {Q : Exit → Act → World → Prop} (s x : Operand) (ho : o.op = .call { callee := .builtin .append, args := #[s, x], argTypes := #[22, 22] })
    {g B : Nat} (hs : a.eval s = .slice (some ⟨g, 0, none⟩) 0 0) (hg : W.heap[g]? = some (.cells #[] 9)) (hB : B ≤ g) {src : Value} {xs : List ByteArray} (hx : a.eval x = src) (hsl : Ss W src xs) (hlen : xs.length ≤ 1000)
    (h : ∀ v' w', Hid (w'.ownsRow B 9 1 v' xs.length (strs xs)) → W.grownBy w' (some g) → Hid (v'.ownBlock = some g ∨ v'.ownBlock = some W.heap.size) → K (a.put o.dst v') w') : o.wp Tryz.prog a W K Q := by
  obtain ⟨v', w', hr, h2, h3, h4⟩ := run_copyS o.type hg hB hsl hlen
  unfold Oper.wp execOp
  simp only [ho, resolve, invoke, builtin, Sem.run_bind, Sem.run_pure, Result.andThen_ok, List.map_toArray, List.map_cons, List.map_nil, hs, hx, hr]
  exact h v' w' h2 h3 h4
end Go.Proofs.YtehleeibgkpjmaeGreat
/- Contract of the document's StackWrite. -/
namespace Go.Proofs.YtehleeibgkpjmaeGreat
open Go.RowKit Go.Shelf
set_option maxRecDepth 20000
set_option linter.unusedVariables false
set_option linter.unusedSimpArgs false

/-- What AnsJ says of the answer: it stays whatever happens above what was made. -/
def OI2 (w1 w2 : World) (v : Value) (M : ImgD) : Prop := ∀ W', (∀ q, w1.heap.size ≤ q → W'.heap[q]? = w2.heap[q]?) → Img W' v M
theorem Img.within {W W' : World} {v : Value} {M : ImgD} (h : Img W v M) (hs : W.heap.size ≤ W'.heap.size) (hk : ∀ q, q < W.heap.size → W'.heap[q]? = W.heap[q]?) : Img W' v M := by
  have hb : Below W.heap.size W { W with heap := W'.heap } := ⟨rfl, rfl, rfl, hs, fun g hg => hk g hg⟩
  have h2 := h.below hb
  exact h2
theorem OI2.keep {w1 w2 W' : World} {v : Value} {M : ImgD} (h : OI2 w1 w2 v M) (hs : w2.heap.size ≤ W'.heap.size) (hk : ∀ q, w1.heap.size ≤ q → q < w2.heap.size → W'.heap[q]? = w2.heap[q]?) : Img W' v M := by
  have hx : ∀ q, (W'.heap.extract 0 w2.heap.size)[q]? = if q < w2.heap.size then W'.heap[q]? else none := fun q => by
    by_cases hq : q < w2.heap.size
    · rw [if_pos hq, Array.getElem?_extract]
      simp; omega
    · rw [if_neg hq]
      exact Array.getElem?_eq_none (by simp; omega)
  have hY : Img { W' with heap := W'.heap.extract 0 w2.heap.size } v M := h _ (fun q hq => by
    show (W'.heap.extract 0 w2.heap.size)[q]? = _
    rw [hx]
    by_cases hq2 : q < w2.heap.size
    · rw [if_pos hq2]; exact hk q hq hq2
    · rw [if_neg hq2]; exact (Array.getElem?_eq_none (by omega)).symm)
  refine hY.within (by show (W'.heap.extract 0 w2.heap.size).size ≤ _; simp; omega) (fun q hq => ?_)
  have hq : q < (W'.heap.extract 0 w2.heap.size).size := hq
  show _ = (W'.heap.extract 0 w2.heap.size)[q]?
  rw [hx, if_pos (by simp at hq; omega)]
set_option maxHeartbeats 4000000 in
theorem stkW_bad (ba : Option Addr) (bc : Nat) (ra : Option Addr) (rc : Nat) (sa : Option Addr) (sc : Nat) (fa : Option Addr) (fc : Nat) (na : Option Addr) (nc : Nat) (b : List ByteArray) (m : ImgD) (n : Int) (page : ByteArray) (w : World) (hS : Ss w (.slice ba b.length bc) b) (hI : Img w (.agg #[.int .i64 m.guest, .slice ra m.root.length rc, .slice sa m.slots.length sc, .slice fa m.refs.length fc, .slice na m.snaps.length nc]) m) (E : Int) (hE : scE b m = E) (hne : (E != 0) = true) :
    Calls Tryz.prog 8 #[.agg #[.slice ba b.length bc, .int .i64 m.guest, .slice ra m.root.length rc, .slice sa m.slots.length sc, .slice fa m.refs.length fc, .slice na m.snaps.length nc], .int .i64 n, .string page] w (AnsK w [] imgZ E) := by
  have b0 : Below w.heap.size w ((w.alloc (.cells #[.slice ba b.length bc, .int .i64 m.guest, .slice ra m.root.length rc, .slice sa m.slots.length sc, .slice fa m.refs.length fc, .slice na m.snaps.length nc] 29)).alloc (.cells #[.slice none 0 0, .int .i64 0, .slice none 0 0, .slice none 0 0, .slice none 0 0, .slice none 0 0] 29)) := ((Below.refl _ _).alloc (Nat.le_refl _) _).alloc (by simp) _
  have q0 : ((w.alloc (.cells #[.slice ba b.length bc, .int .i64 m.guest, .slice ra m.root.length rc, .slice sa m.slots.length sc, .slice fa m.refs.length fc, .slice na m.snaps.length nc] 29)).alloc (.cells #[.slice none 0 0, .int .i64 0, .slice none 0 0, .slice none 0 0, .slice none 0 0, .slice none 0 0] 29)).heap[w.heap.size]? = some (.cells #[.slice ba b.length bc, .int .i64 m.guest, .slice ra m.root.length rc, .slice sa m.slots.length sc, .slice fa m.refs.length fc, .slice na m.snaps.length nc] 29) := cells_alloc (World.alloc_heap_new _ _) _
  have r0 : ((w.alloc (.cells #[.slice ba b.length bc, .int .i64 m.guest, .slice ra m.root.length rc, .slice sa m.slots.length sc, .slice fa m.refs.length fc, .slice na m.snaps.length nc] 29)).alloc (.cells #[.slice none 0 0, .int .i64 0, .slice none 0 0, .slice none 0 0, .slice none 0 0, .slice none 0 0] 29)).heap[w.heap.size + 1]? = some (.cells #[.slice none 0 0, .int .i64 0, .slice none 0 0, .slice none 0 0, .slice none 0 0, .slice none 0 0] 29) := by have := World.alloc_heap_new (w.alloc (.cells #[.slice ba b.length bc, .int .i64 m.guest, .slice ra m.root.length rc, .slice sa m.slots.length sc, .slice fa m.refs.length fc, .slice na m.snaps.length nc] 29)) (.cells #[.slice none 0 0, .int .i64 0, .slice none 0 0, .slice none 0 0, .slice none 0 0, .slice none 0 0] 29); simpa using this
  have hsz : w.heap.size + 1 < ((w.alloc (.cells #[.slice ba b.length bc, .int .i64 m.guest, .slice ra m.root.length rc, .slice sa m.slots.length sc, .slice fa m.refs.length fc, .slice na m.snaps.length nc] 29)).alloc (.cells #[.slice none 0 0, .int .i64 0, .slice none 0 0, .slice none 0 0, .slice none 0 0, .slice none 0 0] 29)).heap.size := by simp
  obtain ⟨c0, c1, c2, c3, c4, c5⟩ := six q0
  have hS1 := hS.below b0
  have hI1 := hI.below b0
  have hck := ckStk_is (w := ((w.alloc (.cells #[.slice ba b.length bc, .int .i64 m.guest, .slice ra m.root.length rc, .slice sa m.slots.length sc, .slice fa m.refs.length fc, .slice na m.snaps.length nc] 29)).alloc (.cells #[.slice none 0 0, .int .i64 0, .slice none 0 0, .slice none 0 0, .slice none 0 0, .slice none 0 0] 29))) (v := .agg #[.slice ba b.length bc, .int .i64 m.guest, .slice ra m.root.length rc, .slice sa m.slots.length sc, .slice fa m.refs.length fc, .slice na m.snaps.length nc]) ⟨_, _, _, _, _, rfl, hS1, hI1⟩ hE
  clear hS hI hI1 hS1 hE
  go_enter Tryz.func8, Tryz.ntmps8
  go_wp2_with (go_at_call 11; refine hck.mono ?_; rintro e w1 ⟨rfl, b1⟩; have q1 := cells_below q0 b1 (by omega); have r1 := cells_below r0 b1 hsz; obtain ⟨d0, d1, d2, d3, d4, d5⟩ := six q1; obtain ⟨x0, x1, x2, x3, x4, x5⟩ := six r1; have y0 := cells_frozen r1 0; have y1 := cells_frozen r1 1; have y2 := cells_frozen r1 2; have y3 := cells_frozen r1 3; have y4 := cells_frozen r1 4; have y5 := cells_frozen r1 5)
  refine bodyPost_ret (v := .tuple #[.agg #[.slice none 0 0, .int .i64 0, .slice none 0 0, .slice none 0 0, .slice none 0 0, .slice none 0 0], .int .i64 E]) (by simp [results, Tryz.results8, go_sem, x0, x1, x2, x3, x4, x5]) rfl ⟨_, rfl, Stk.zero _, six_below (Below.on b0 b1) _ _ _ _ _ _⟩
set_option maxHeartbeats 4000000 in
theorem stkW_err (ba : Option Addr) (bc : Nat) (ra : Option Addr) (rc : Nat) (sa : Option Addr) (sc : Nat) (fa : Option Addr) (fc : Nat) (na : Option Addr) (nc : Nat) (b : List ByteArray) (m : ImgD) (n : Int) (page : ByteArray) (w : World) (hS : Ss w (.slice ba b.length bc) b) (hI : Img w (.agg #[.int .i64 m.guest, .slice ra m.root.length rc, .slice sa m.slots.length sc, .slice fa m.refs.length fc, .slice na m.snaps.length nc]) m) (hC : scE b m = 0) (M : ImgD) (E : Int) (hE : wrE m n page = E) (hM : wrM m n page = M) (hne : (E != 0) = true) :
    Calls Tryz.prog 8 #[.agg #[.slice ba b.length bc, .int .i64 m.guest, .slice ra m.root.length rc, .slice sa m.slots.length sc, .slice fa m.refs.length fc, .slice na m.snaps.length nc], .int .i64 n, .string page] w (AnsK w [] imgZ E) := by
  have b0 : Below w.heap.size w ((w.alloc (.cells #[.slice ba b.length bc, .int .i64 m.guest, .slice ra m.root.length rc, .slice sa m.slots.length sc, .slice fa m.refs.length fc, .slice na m.snaps.length nc] 29)).alloc (.cells #[.slice none 0 0, .int .i64 0, .slice none 0 0, .slice none 0 0, .slice none 0 0, .slice none 0 0] 29)) := ((Below.refl _ _).alloc (Nat.le_refl _) _).alloc (by simp) _
  have q0 : ((w.alloc (.cells #[.slice ba b.length bc, .int .i64 m.guest, .slice ra m.root.length rc, .slice sa m.slots.length sc, .slice fa m.refs.length fc, .slice na m.snaps.length nc] 29)).alloc (.cells #[.slice none 0 0, .int .i64 0, .slice none 0 0, .slice none 0 0, .slice none 0 0, .slice none 0 0] 29)).heap[w.heap.size]? = some (.cells #[.slice ba b.length bc, .int .i64 m.guest, .slice ra m.root.length rc, .slice sa m.slots.length sc, .slice fa m.refs.length fc, .slice na m.snaps.length nc] 29) := cells_alloc (World.alloc_heap_new _ _) _
  have r0 : ((w.alloc (.cells #[.slice ba b.length bc, .int .i64 m.guest, .slice ra m.root.length rc, .slice sa m.slots.length sc, .slice fa m.refs.length fc, .slice na m.snaps.length nc] 29)).alloc (.cells #[.slice none 0 0, .int .i64 0, .slice none 0 0, .slice none 0 0, .slice none 0 0, .slice none 0 0] 29)).heap[w.heap.size + 1]? = some (.cells #[.slice none 0 0, .int .i64 0, .slice none 0 0, .slice none 0 0, .slice none 0 0, .slice none 0 0] 29) := by have := World.alloc_heap_new (w.alloc (.cells #[.slice ba b.length bc, .int .i64 m.guest, .slice ra m.root.length rc, .slice sa m.slots.length sc, .slice fa m.refs.length fc, .slice na m.snaps.length nc] 29)) (.cells #[.slice none 0 0, .int .i64 0, .slice none 0 0, .slice none 0 0, .slice none 0 0, .slice none 0 0] 29); simpa using this
  have hsz : w.heap.size + 1 < ((w.alloc (.cells #[.slice ba b.length bc, .int .i64 m.guest, .slice ra m.root.length rc, .slice sa m.slots.length sc, .slice fa m.refs.length fc, .slice na m.snaps.length nc] 29)).alloc (.cells #[.slice none 0 0, .int .i64 0, .slice none 0 0, .slice none 0 0, .slice none 0 0, .slice none 0 0] 29)).heap.size := by simp
  obtain ⟨c0, c1, c2, c3, c4, c5⟩ := six q0
  have hS1 := hS.below b0
  have hI1 := hI.below b0
  have hck := ckStk_is (w := ((w.alloc (.cells #[.slice ba b.length bc, .int .i64 m.guest, .slice ra m.root.length rc, .slice sa m.slots.length sc, .slice fa m.refs.length fc, .slice na m.snaps.length nc] 29)).alloc (.cells #[.slice none 0 0, .int .i64 0, .slice none 0 0, .slice none 0 0, .slice none 0 0, .slice none 0 0] 29))) (v := .agg #[.slice ba b.length bc, .int .i64 m.guest, .slice ra m.root.length rc, .slice sa m.slots.length sc, .slice fa m.refs.length fc, .slice na m.snaps.length nc]) ⟨_, _, _, _, _, rfl, hS1, hI1⟩ hC
  have HWr : Hid (∀ w1, Below ((w.alloc (.cells #[.slice ba b.length bc, .int .i64 m.guest, .slice ra m.root.length rc, .slice sa m.slots.length sc, .slice fa m.refs.length fc, .slice na m.snaps.length nc] 29)).alloc (.cells #[.slice none 0 0, .int .i64 0, .slice none 0 0, .slice none 0 0, .slice none 0 0, .slice none 0 0] 29)).heap.size ((w.alloc (.cells #[.slice ba b.length bc, .int .i64 m.guest, .slice ra m.root.length rc, .slice sa m.slots.length sc, .slice fa m.refs.length fc, .slice na m.snaps.length nc] 29)).alloc (.cells #[.slice none 0 0, .int .i64 0, .slice none 0 0, .slice none 0 0, .slice none 0 0, .slice none 0 0] 29)) w1 → Calls Tryz.prog 21 #[.agg #[.int .i64 m.guest, .slice ra m.root.length rc, .slice sa m.slots.length sc, .slice fa m.refs.length fc, .slice na m.snaps.length nc], .int .i64 n, .string page] w1 (AnsJ w1 M E)) := fun w1 b1 => writeOf_is (hI1.below b1) n page hM hE
  clear hS hI hI1 hS1 hE hM hC
  go_enter Tryz.func8, Tryz.ntmps8
  go_wp2_with (first | (go_at_call 21; refine (HWr.out w1 b1).mono ?_; rintro e w2 ⟨g0, k0, g1, k1, g2, k2, g3, k3, rfl, hst, b2⟩; have q2 := cells_alloc (cells_below q1 b2 (by have := b1.size; omega)) (.cells #[.int .i64 M.guest, .slice g0 M.root.length k0, .slice g1 M.slots.length k1, .slice g2 M.refs.length k2, .slice g3 M.snaps.length k3] 27); have r2 := cells_alloc (cells_below r1 b2 (by have := b1.size; omega)) (.cells #[.int .i64 M.guest, .slice g0 M.root.length k0, .slice g1 M.slots.length k1, .slice g2 M.refs.length k2, .slice g3 M.snaps.length k3] 27); have m2 : (w2.alloc (.cells #[.int .i64 M.guest, .slice g0 M.root.length k0, .slice g1 M.slots.length k1, .slice g2 M.refs.length k2, .slice g3 M.snaps.length k3] 27)).heap[w2.heap.size]? = some (.cells #[.int .i64 M.guest, .slice g0 M.root.length k0, .slice g1 M.slots.length k1, .slice g2 M.refs.length k2, .slice g3 M.snaps.length k3] 27) := World.alloc_heap_new _ _; obtain ⟨f0, f1, f2, f3, f4, f5⟩ := six q2; obtain ⟨x0, x1, x2, x3, x4, x5⟩ := six r2; have y0 := cells_frozen r2 0; have y1 := cells_frozen r2 1; have y2 := cells_frozen r2 2; have y3 := cells_frozen r2 3; have y4 := cells_frozen r2 4; have y5 := cells_frozen r2 5; obtain ⟨m0, m1, m3, m4, m5⟩ := five m2) | (go_at_call 11; refine hck.mono ?_; rintro e w1 ⟨rfl, b1⟩; have q1 := cells_below q0 b1 (by omega); have r1 := cells_below r0 b1 hsz; obtain ⟨d0, d1, d2, d3, d4, d5⟩ := six q1; obtain ⟨x0, x1, x2, x3, x4, x5⟩ := six r1; have y0 := cells_frozen r1 0; have y1 := cells_frozen r1 1; have y2 := cells_frozen r1 2; have y3 := cells_frozen r1 3; have y4 := cells_frozen r1 4; have y5 := cells_frozen r1 5))
  refine bodyPost_ret (v := .tuple #[.agg #[.slice none 0 0, .int .i64 0, .slice none 0 0, .slice none 0 0, .slice none 0 0, .slice none 0 0], .int .i64 E]) (by simp [results, Tryz.results8, go_sem, x0, x1, x2, x3, x4, x5]) rfl ⟨_, rfl, Stk.zero _, six_below ((Below.on (Below.on b0 b1) b2).alloc (by have := b1.size; have := b2.size; omega) _) _ _ _ _ _ _⟩
set_option maxHeartbeats 8000000 in
theorem stkW_ok (ba : Option Addr) (bc : Nat) (ra : Option Addr) (rc : Nat) (sa : Option Addr) (sc : Nat) (fa : Option Addr) (fc : Nat) (na : Option Addr) (nc : Nat) (b : List ByteArray) (m : ImgD) (n : Int) (page : ByteArray) (w : World) (hS : Ss w (.slice ba b.length bc) b) (hI : Img w (.agg #[.int .i64 m.guest, .slice ra m.root.length rc, .slice sa m.slots.length sc, .slice fa m.refs.length fc, .slice na m.snaps.length nc]) m) (hC : scE b m = 0) (M : ImgD) (hE : wrE m n page = 0) (hM : wrM m n page = M) :
    Calls Tryz.prog 8 #[.agg #[.slice ba b.length bc, .int .i64 m.guest, .slice ra m.root.length rc, .slice sa m.slots.length sc, .slice fa m.refs.length fc, .slice na m.snaps.length nc], .int .i64 n, .string page] w (AnsK w b M 0) := by
  have b0 : Below w.heap.size w ((w.alloc (.cells #[.slice ba b.length bc, .int .i64 m.guest, .slice ra m.root.length rc, .slice sa m.slots.length sc, .slice fa m.refs.length fc, .slice na m.snaps.length nc] 29)).alloc (.cells #[.slice none 0 0, .int .i64 0, .slice none 0 0, .slice none 0 0, .slice none 0 0, .slice none 0 0] 29)) := ((Below.refl _ _).alloc (Nat.le_refl _) _).alloc (by simp) _
  have q0 : ((w.alloc (.cells #[.slice ba b.length bc, .int .i64 m.guest, .slice ra m.root.length rc, .slice sa m.slots.length sc, .slice fa m.refs.length fc, .slice na m.snaps.length nc] 29)).alloc (.cells #[.slice none 0 0, .int .i64 0, .slice none 0 0, .slice none 0 0, .slice none 0 0, .slice none 0 0] 29)).heap[w.heap.size]? = some (.cells #[.slice ba b.length bc, .int .i64 m.guest, .slice ra m.root.length rc, .slice sa m.slots.length sc, .slice fa m.refs.length fc, .slice na m.snaps.length nc] 29) := cells_alloc (World.alloc_heap_new _ _) _
  have r0 : ((w.alloc (.cells #[.slice ba b.length bc, .int .i64 m.guest, .slice ra m.root.length rc, .slice sa m.slots.length sc, .slice fa m.refs.length fc, .slice na m.snaps.length nc] 29)).alloc (.cells #[.slice none 0 0, .int .i64 0, .slice none 0 0, .slice none 0 0, .slice none 0 0, .slice none 0 0] 29)).heap[w.heap.size + 1]? = some (.cells #[.slice none 0 0, .int .i64 0, .slice none 0 0, .slice none 0 0, .slice none 0 0, .slice none 0 0] 29) := by have := World.alloc_heap_new (w.alloc (.cells #[.slice ba b.length bc, .int .i64 m.guest, .slice ra m.root.length rc, .slice sa m.slots.length sc, .slice fa m.refs.length fc, .slice na m.snaps.length nc] 29)) (.cells #[.slice none 0 0, .int .i64 0, .slice none 0 0, .slice none 0 0, .slice none 0 0, .slice none 0 0] 29); simpa using this
  have hsz : w.heap.size + 1 < ((w.alloc (.cells #[.slice ba b.length bc, .int .i64 m.guest, .slice ra m.root.length rc, .slice sa m.slots.length sc, .slice fa m.refs.length fc, .slice na m.snaps.length nc] 29)).alloc (.cells #[.slice none 0 0, .int .i64 0, .slice none 0 0, .slice none 0 0, .slice none 0 0, .slice none 0 0] 29)).heap.size := by simp
  obtain ⟨c0, c1, c2, c3, c4, c5⟩ := six q0
  have hS1 := hS.below b0
  have hI1 := hI.below b0
  have hck := ckStk_is (w := ((w.alloc (.cells #[.slice ba b.length bc, .int .i64 m.guest, .slice ra m.root.length rc, .slice sa m.slots.length sc, .slice fa m.refs.length fc, .slice na m.snaps.length nc] 29)).alloc (.cells #[.slice none 0 0, .int .i64 0, .slice none 0 0, .slice none 0 0, .slice none 0 0, .slice none 0 0] 29))) (v := .agg #[.slice ba b.length bc, .int .i64 m.guest, .slice ra m.root.length rc, .slice sa m.slots.length sc, .slice fa m.refs.length fc, .slice na m.snaps.length nc]) ⟨_, _, _, _, _, rfl, hS1, hI1⟩ hC
  have HWr : Hid (∀ w1, Below ((w.alloc (.cells #[.slice ba b.length bc, .int .i64 m.guest, .slice ra m.root.length rc, .slice sa m.slots.length sc, .slice fa m.refs.length fc, .slice na m.snaps.length nc] 29)).alloc (.cells #[.slice none 0 0, .int .i64 0, .slice none 0 0, .slice none 0 0, .slice none 0 0, .slice none 0 0] 29)).heap.size ((w.alloc (.cells #[.slice ba b.length bc, .int .i64 m.guest, .slice ra m.root.length rc, .slice sa m.slots.length sc, .slice fa m.refs.length fc, .slice na m.snaps.length nc] 29)).alloc (.cells #[.slice none 0 0, .int .i64 0, .slice none 0 0, .slice none 0 0, .slice none 0 0, .slice none 0 0] 29)) w1 → Calls Tryz.prog 21 #[.agg #[.int .i64 m.guest, .slice ra m.root.length rc, .slice sa m.slots.length sc, .slice fa m.refs.length fc, .slice na m.snaps.length nc], .int .i64 n, .string page] w1 (AnsJ w1 M 0)) := fun w1 b1 => writeOf_is (hI1.below b1) n page hM hE
  have HLn : Hid (b.length ≤ 1000) := by have := (ckP_parts (scE_zero hC).1).1; show b.length ≤ 1000; omega
  have HS : Hid (∀ {w1 w2 : World} (o : Obj), Below ((w.alloc (.cells #[.slice ba b.length bc, .int .i64 m.guest, .slice ra m.root.length rc, .slice sa m.slots.length sc, .slice fa m.refs.length fc, .slice na m.snaps.length nc] 29)).alloc (.cells #[.slice none 0 0, .int .i64 0, .slice none 0 0, .slice none 0 0, .slice none 0 0, .slice none 0 0] 29)).heap.size ((w.alloc (.cells #[.slice ba b.length bc, .int .i64 m.guest, .slice ra m.root.length rc, .slice sa m.slots.length sc, .slice fa m.refs.length fc, .slice na m.snaps.length nc] 29)).alloc (.cells #[.slice none 0 0, .int .i64 0, .slice none 0 0, .slice none 0 0, .slice none 0 0, .slice none 0 0] 29)) w1 → Below w1.heap.size w1 w2 → Ss ((w2.alloc o).alloc (.cells #[] 9)) (.slice ba b.length bc) b) := fun o b1 b2 => (((hS1.below b1).below b2).below ((Below.refl _ _).alloc (Nat.le_refl _) o)).below ((Below.refl _ _).alloc (Nat.le_refl _) _)
  clear hS hI hI1 hS1 hE hM hC
  go_enter Tryz.func8, Tryz.ntmps8
  go_wp2_with (first | (go_at_call 21; refine (HWr.out w1 b1).mono ?_; rintro e w2 ⟨g0, k0, g1, k1, g2, k2, g3, k3, rfl, hst, b2⟩; have q2 := cells_alloc (cells_below q1 b2 (by have := b1.size; omega)) (.cells #[.int .i64 M.guest, .slice g0 M.root.length k0, .slice g1 M.slots.length k1, .slice g2 M.refs.length k2, .slice g3 M.snaps.length k3] 27); have r2 := cells_alloc (cells_below r1 b2 (by have := b1.size; omega)) (.cells #[.int .i64 M.guest, .slice g0 M.root.length k0, .slice g1 M.slots.length k1, .slice g2 M.refs.length k2, .slice g3 M.snaps.length k3] 27); have m2 : (w2.alloc (.cells #[.int .i64 M.guest, .slice g0 M.root.length k0, .slice g1 M.slots.length k1, .slice g2 M.refs.length k2, .slice g3 M.snaps.length k3] 27)).heap[w2.heap.size]? = some (.cells #[.int .i64 M.guest, .slice g0 M.root.length k0, .slice g1 M.slots.length k1, .slice g2 M.refs.length k2, .slice g3 M.snaps.length k3] 27) := World.alloc_heap_new _ _; obtain ⟨f0, f1, f2, f3, f4, f5⟩ := six q2; obtain ⟨x0, x1, x2, x3, x4, x5⟩ := six r2; have y0 := cells_frozen r2 0; have y1 := cells_frozen r2 1; have y2 := cells_frozen r2 2; have y3 := cells_frozen r2 3; have y4 := cells_frozen r2 4; have y5 := cells_frozen r2 5; obtain ⟨m0, m1, m3, m4, m5⟩ := five m2) | (go_at_call 11; refine hck.mono ?_; rintro e w1 ⟨rfl, b1⟩; have q1 := cells_below q0 b1 (by omega); have r1 := cells_below r0 b1 hsz; obtain ⟨d0, d1, d2, d3, d4, d5⟩ := six q1; obtain ⟨x0, x1, x2, x3, x4, x5⟩ := six r1; have y0 := cells_frozen r1 0; have y1 := cells_frozen r1 1; have y2 := cells_frozen r1 2; have y3 := cells_frozen r1 3; have y4 := cells_frozen r1 4; have y5 := cells_frozen r1 5))
  refine wp_region_held_drew (S := (fun X : World => X.heap[w.heap.size]? = some (.cells #[.slice ba b.length bc, .int .i64 m.guest, .slice ra m.root.length rc, .slice sa m.slots.length sc, .slice fa m.refs.length fc, .slice na m.snaps.length nc] 29) ∧ X.heap[w2.heap.size]? = some (.cells #[.int .i64 M.guest, .slice g0 M.root.length k0, .slice g1 M.slots.length k1, .slice g2 M.refs.length k2, .slice g3 M.snaps.length k3] 27))) (by kernel_rfl) ⟨q2, m2⟩ (fun hHeld => ?_)
  refine wpAnyH_take (i := 1) (v := .pointer (some ⟨w.heap.size, 0, none⟩)) rfl (by kernel_rfl) (by kernel_rfl) (by kernel_rfl) (fun _ _ _ h => h) (Or.inl ⟨by rfl, fun w' hSw => by obtain ⟨qa, qb⟩ := hSw; obtain ⟨j0, j1, j2, j3, j4, j5⟩ := six qa; obtain ⟨i0, i1, i2, i3, i4⟩ := five qb; go_simp⟩) hHeld ?_
  simp only [Act.put, List.getElem_toArray, List.getElem_cons_succ, List.getElem_cons_zero, List.setIfInBounds_toArray, List.set_cons_zero, List.set_cons_succ]
  refine wpAnyH_take (i := 2) (v := .slice ba b.length bc) rfl (by kernel_rfl) (by kernel_rfl) (by kernel_rfl) (fun _ _ _ h => h) (Or.inl ⟨by rfl, fun w' hSw => by obtain ⟨qa, qb⟩ := hSw; obtain ⟨j0, j1, j2, j3, j4, j5⟩ := six qa; obtain ⟨i0, i1, i2, i3, i4⟩ := five qb; go_simp⟩) hHeld ?_
  simp only [Act.put, List.getElem_toArray, List.getElem_cons_succ, List.getElem_cons_zero, List.setIfInBounds_toArray, List.set_cons_zero, List.set_cons_succ]
  refine wpAnyH_take (i := 4) (v := .agg #[.int .i64 M.guest, .slice g0 M.root.length k0, .slice g1 M.slots.length k1, .slice g2 M.refs.length k2, .slice g3 M.snaps.length k3]) rfl (by kernel_rfl) (by kernel_rfl) (by kernel_rfl) (fun _ _ _ h => h) (Or.inl ⟨by rfl, fun w' hSw => by obtain ⟨qa, qb⟩ := hSw; obtain ⟨j0, j1, j2, j3, j4, j5⟩ := six qa; obtain ⟨i0, i1, i2, i3, i4⟩ := five qb; go_simp⟩) hHeld ?_
  simp only [Act.put, List.getElem_toArray, List.getElem_cons_succ, List.getElem_cons_zero, List.setIfInBounds_toArray, List.set_cons_zero, List.set_cons_succ]
  refine wpAnyH_ready (rs := [0]) (by kernel_rfl) (by simp) ?_
  refine AllReadyH.cons rfl (fun K hK => ?_) AllReadyH.nil
  clear hHeld
  simp only [Act.put, List.getElem_toArray, List.getElem_cons_succ, List.getElem_cons_zero, List.setIfInBounds_toArray, List.set_cons_zero, List.set_cons_succ]
  rw [if_pos (by rfl)]
  go_simp
  have q3 := cells_alloc q2 (.cells #[] 9)
  have r3 := cells_alloc r2 (.cells #[] 9)
  have m3' := cells_alloc m2 (.cells #[] 9)
  have n3 : ((w2.alloc (.cells #[.int .i64 M.guest, .slice g0 M.root.length k0, .slice g1 M.slots.length k1, .slice g2 M.refs.length k2, .slice g3 M.snaps.length k3] 27)).alloc (.cells #[] 9)).heap[w2.heap.size + 1]? = some (.cells #[] 9) := by have := World.alloc_heap_new (w2.alloc (.cells #[.int .i64 M.guest, .slice g0 M.root.length k0, .slice g1 M.slots.length k1, .slice g2 M.refs.length k2, .slice g3 M.snaps.length k3] 27)) (.cells #[] 9); simpa using this
  have hS3 : Ss ((w2.alloc (.cells #[.int .i64 M.guest, .slice g0 M.root.length k0, .slice g1 M.slots.length k1, .slice g2 M.refs.length k2, .slice g3 M.snaps.length k3] 27)).alloc (.cells #[] 9)) (.slice ba b.length bc) b := HS.out _ b1 b2
  have b3 : Below w.heap.size w ((w2.alloc (.cells #[.int .i64 M.guest, .slice g0 M.root.length k0, .slice g1 M.slots.length k1, .slice g2 M.refs.length k2, .slice g3 M.snaps.length k3] 27)).alloc (.cells #[] 9)) := ((Below.on (Below.on b0 b1) b2).alloc (by have := b1.size; have := b2.size; omega) _).alloc (by have := b1.size; have := b2.size; simp <;> omega) _
  obtain ⟨X3, hX3⟩ : ∃ Z, ((w2.alloc (.cells #[.int .i64 M.guest, .slice g0 M.root.length k0, .slice g1 M.slots.length k1, .slice g2 M.refs.length k2, .slice g3 M.snaps.length k3] 27)).alloc (.cells #[] 9)).drew = Z := ⟨_, rfl⟩
  replace q3 : X3.heap[w.heap.size]? = some (.cells #[.slice ba b.length bc, .int .i64 m.guest, .slice ra m.root.length rc, .slice sa m.slots.length sc, .slice fa m.refs.length fc, .slice na m.snaps.length nc] 29) := by rw [← hX3]; exact q3
  replace r3 : X3.heap[w.heap.size + 1]? = some (.cells #[.slice none 0 0, .int .i64 0, .slice none 0 0, .slice none 0 0, .slice none 0 0, .slice none 0 0] 29) := by rw [← hX3]; exact r3
  replace m3' : X3.heap[w2.heap.size]? = some (.cells #[.int .i64 M.guest, .slice g0 M.root.length k0, .slice g1 M.slots.length k1, .slice g2 M.refs.length k2, .slice g3 M.snaps.length k3] 27) := by rw [← hX3]; exact m3'
  replace n3 : X3.heap[w2.heap.size + 1]? = some (.cells #[] 9) := by rw [← hX3]; exact n3
  replace hS3 : Ss X3 (.slice ba b.length bc) b := by rw [← hX3]; exact hS3.below (to_drew (Below.refl _ _))
  replace b3 : Below w.heap.size w X3 := by rw [← hX3]; exact to_drew b3
  have hst3 : ∀ W', w2.heap.size ≤ W'.heap.size → (∀ q, w1.heap.size ≤ q → q < w2.heap.size → W'.heap[q]? = X3.heap[q]?) → Img W' (.agg #[.int .i64 M.guest, .slice g0 M.root.length k0, .slice g1 M.slots.length k1, .slice g2 M.refs.length k2, .slice g3 M.snaps.length k3]) M := fun W' hz hW => by
    have hI2 : OI2 w1 w2 (.agg #[.int .i64 M.guest, .slice g0 M.root.length k0, .slice g1 M.slots.length k1, .slice g2 M.refs.length k2, .slice g3 M.snaps.length k3]) M := hst
    exact hI2.keep hz (fun q h1 h2 => (hW q h1 h2).trans (by rw [← hX3]; exact (Below.heap_alloc _ _ q (by simp <;> omega)).trans (Below.heap_alloc _ _ q h2)))
  rw [hX3]
  clear hX3
  refine hK.out _ _ ⟨q3, m3'⟩ (fun hHeld => ?_)
  clear hK K
  try simp only [Act.put, List.getElem_toArray, List.getElem_cons_succ, List.getElem_cons_zero, List.setIfInBounds_toArray, List.set_cons_zero, List.set_cons_succ]
  refine wpAnyH_ready (rs := [3]) (by kernel_rfl) (by simp) ?_
  refine AllReadyH.cons rfl (fun K hK => ?_) AllReadyH.nil
  clear hHeld
  simp only [Act.put, List.getElem_toArray, List.getElem_cons_succ, List.getElem_cons_zero, List.setIfInBounds_toArray, List.set_cons_zero, List.set_cons_succ]
  rw [if_pos (by rfl)]
  refine wp_copyS _ _ (by rfl) (g := w2.heap.size + 1) (B := w2.heap.size + 1) (by rfl) n3 (Nat.le_refl _) (src := .slice ba b.length bc) (by rfl) hS3 HLn.out ?_
  intro v X4 t1 t2 t3
  obtain ⟨pa, pc, rfl⟩ := row_slice t1.out
  have hk4 : ∀ q, q < w2.heap.size + 1 → X4.heap[q]? = X3.heap[q]? := fun q hq => t2.block q (by have := (Array.getElem?_eq_some_iff.1 n3).1; omega) (fun e => by have := Option.some.inj e; omega)
  have q4 := (hk4 w.heap.size (by have := b1.size; have := b2.size; omega)).trans q3
  have r4 := (hk4 (w.heap.size + 1) (by have := b1.size; have := b2.size; omega)).trans r3
  have m4' := (hk4 w2.heap.size (by omega)).trans m3'
  have b4 : Below w.heap.size w X4 := b3.grown t2 b3.size (fun k e => by have := b1.size; have := b2.size; have := Option.some.inj e; omega)
  refine hK.out _ _ ⟨q4, m4'⟩ (fun hHeld => ?_)
  clear hK K
  try simp only [Act.put, List.getElem_toArray, List.getElem_cons_succ, List.getElem_cons_zero, List.setIfInBounds_toArray, List.set_cons_zero, List.set_cons_succ]
  refine wpAnyH_take (i := 5) (v := .agg #[.slice pa b.length pc, .int .i64 M.guest, .slice g0 M.root.length k0, .slice g1 M.slots.length k1, .slice g2 M.refs.length k2, .slice g3 M.snaps.length k3]) rfl (by kernel_rfl) (by kernel_rfl) (by kernel_rfl) (fun _ _ _ h => h) (Or.inl ⟨by rfl, fun w' hSw => by obtain ⟨qa, qb⟩ := hSw; obtain ⟨j0, j1, j2, j3, j4, j5⟩ := six qa; obtain ⟨i0, i1, i2, i3, i4⟩ := five qb; go_simp⟩) hHeld ?_
  simp only [Act.put, List.getElem_toArray, List.getElem_cons_succ, List.getElem_cons_zero, List.setIfInBounds_toArray, List.set_cons_zero, List.set_cons_succ]
  refine wpAnyH_ready (rs := [6]) (by kernel_rfl) (by simp) ?_
  refine AllReadyH.cons rfl (fun K hK => ?_) AllReadyH.nil
  clear hHeld
  simp only [Act.put, List.getElem_toArray, List.getElem_cons_succ, List.getElem_cons_zero, List.setIfInBounds_toArray, List.set_cons_zero, List.set_cons_succ]
  rw [if_pos (by rfl)]
  obtain ⟨x0, x1, x2, x3, x4, x5⟩ := six r4
  have y0 := cells_frozen r4 0; have y1 := cells_frozen r4 1; have y2 := cells_frozen r4 2; have y3 := cells_frozen r4 3; have y4 := cells_frozen r4 4; have y5 := cells_frozen r4 5
  go_simp
  refine hK.out _ _ ⟨(heap_six _ _ _ _ _ _ _ (by omega)).trans q4, (heap_six _ _ _ _ _ _ _ (by have := b1.size; have := b2.size; omega)).trans m4'⟩ (fun hHeld => ?_)
  clear hK K
  try simp only [Act.put, List.getElem_toArray, List.getElem_cons_succ, List.getElem_cons_zero, List.setIfInBounds_toArray, List.set_cons_zero, List.set_cons_succ]
  refine wpAnyH_take (i := 7) (v := .int .i64 0) rfl (by kernel_rfl) (by kernel_rfl) (by kernel_rfl) (fun _ _ _ h => h) (Or.inl ⟨by rfl, fun w' hSw => by go_simp⟩) hHeld ?_
  simp only [Act.put, List.getElem_toArray, List.getElem_cons_succ, List.getElem_cons_zero, List.setIfInBounds_toArray, List.set_cons_zero, List.set_cons_succ]
  clear hHeld
  refine wpAnyH_done (by kernel_rfl) ?_ _
  go_wp2_with fail
  have hrow := fun a0 a1 a2 a3 a4 a5 => six_far (w := w) t1.out (by have := b1.size; have := b2.size; omega) a0 a1 a2 a3 a4 a5
  have hImg := fun a0 a1 a2 a3 a4 a5 => hst3 _ (by simp; have := (Array.getElem?_eq_some_iff.1 m4').1; omega) (fun q h1 h2 => (heap_six (w := w) (W := X4) a0 a1 a2 a3 a4 a5 q (by have := b1.size; omega)).trans (hk4 q (by omega)))
  refine bodyPost_ret (v := .tuple #[.agg #[.slice pa b.length pc, .int .i64 M.guest, .slice g0 M.root.length k0, .slice g1 M.slots.length k1, .slice g2 M.refs.length k2, .slice g3 M.snaps.length k3], .int .i64 0]) (by simp [results, Tryz.results8, go_sem, x0, x1, x2, x3, x4, x5]) rfl ⟨_, rfl, ⟨_, _, _, _, _, rfl, row_ss (hrow _ _ _ _ _ _), hImg _ _ _ _ _ _⟩, six_below b4 _ _ _ _ _ _⟩
theorem stkWrite_is {w : World} {v : Value} {b : List ByteArray} {m : ImgD} (h : Stk w v b m) (n : Int) (page : ByteArray) {B : List ByteArray} {M : ImgD} {E : Int} (hE : skE b m n page = E) (hM : skM b m n page = M) (hB : skB b m n page = B) : Calls Tryz.prog 8 #[v, .int .i64 n, .string page] w (AnsK w B M E) := by
  subst hE hM hB
  obtain ⟨ba, bc, ra, rc, sa, sc, fa, fc, na, nc, rfl, hS, hI⟩ := h.parts
  by_cases hC : scE b m = 0
  · have hne : ¬ scE b m ≠ 0 := by simpa using hC
    have e1 : skE b m n page = wrE m n page := by unfold skE; rw [if_neg hne]
    have e2 : skM b m n page = wrM m n page := by unfold skM; rw [if_neg hne]
    by_cases hW : wrE m n page = 0
    · have e3 : skB b m n page = b := by unfold skB; rw [if_neg (by rw [e1]; simpa using hW)]
      rw [e1, e2, e3, hW]
      exact stkW_ok ba bc ra rc sa sc fa fc na nc b m n page w hS hI hC _ hW rfl
    · have e3 : skB b m n page = [] := by unfold skB; rw [if_pos (by rw [e1]; exact hW)]
      rw [e1, e2, e3, wr_bad hW]
      exact stkW_err ba bc ra rc sa sc fa fc na nc b m n page w hS hI hC _ _ rfl rfl (by simpa using hW)
  · have e1 : skE b m n page = scE b m := by unfold skE; rw [if_pos hC]
    have e2 : skM b m n page = imgZ := by unfold skM; rw [if_pos hC]
    have e3 : skB b m n page = [] := by unfold skB; rw [if_pos (by rw [e1]; exact hC)]
    rw [e1, e2, e3]
    exact stkW_bad ba bc ra rc sa sc fa fc na nc b m n page w hS hI _ rfl (by simpa using hC)
end Go.Proofs.YtehleeibgkpjmaeGreat
/- Contract of fresh.Image: an image to which nothing was written. -/
namespace Go.Proofs.YtehleeibgkpjmaeGreat
open Go.RowKit Go.Shelf
set_option maxRecDepth 20000
set_option linter.unusedVariables false

def zD : ImgD := ⟨0, [], [(0, ⟨#[]⟩, [])], [0], []⟩
def freshD (g : Nat) : ImgD := ⟨g, List.replicate ((g + 3) / 4) 0, [(0, ⟨#[]⟩, [])], [0], []⟩
def frsM (g : Int) : ImgD := rzM zD g
def frsE (g : Int) : Int := rzE zD g
theorem frs_is : ∀ k : Nat, k ≤ 16 → frsM k = freshD k ∧ frsE k = 0 ∧ checkE (freshD k) = 0
  | 0, _ => ⟨by kernel_rfl, by decide +kernel, by decide +kernel⟩
  | 1, _ => ⟨by kernel_rfl, by decide +kernel, by decide +kernel⟩
  | 2, _ => ⟨by kernel_rfl, by decide +kernel, by decide +kernel⟩
  | 3, _ => ⟨by kernel_rfl, by decide +kernel, by decide +kernel⟩
  | 4, _ => ⟨by kernel_rfl, by decide +kernel, by decide +kernel⟩
  | 5, _ => ⟨by kernel_rfl, by decide +kernel, by decide +kernel⟩
  | 6, _ => ⟨by kernel_rfl, by decide +kernel, by decide +kernel⟩
  | 7, _ => ⟨by kernel_rfl, by decide +kernel, by decide +kernel⟩
  | 8, _ => ⟨by kernel_rfl, by decide +kernel, by decide +kernel⟩
  | 9, _ => ⟨by kernel_rfl, by decide +kernel, by decide +kernel⟩
  | 10, _ => ⟨by kernel_rfl, by decide +kernel, by decide +kernel⟩
  | 11, _ => ⟨by kernel_rfl, by decide +kernel, by decide +kernel⟩
  | 12, _ => ⟨by kernel_rfl, by decide +kernel, by decide +kernel⟩
  | 13, _ => ⟨by kernel_rfl, by decide +kernel, by decide +kernel⟩
  | 14, _ => ⟨by kernel_rfl, by decide +kernel, by decide +kernel⟩
  | 15, _ => ⟨by kernel_rfl, by decide +kernel, by decide +kernel⟩
  | 16, _ => ⟨by kernel_rfl, by decide +kernel, by decide +kernel⟩
  | k + 17, h => absurd h (by omega)
theorem al2a (W : World) (a b : Obj) : ((W.alloc a).alloc b).heap[W.heap.size]? = some a := (Below.heap_alloc _ _ _ (by simp)).trans (World.alloc_heap_new W a)
theorem al2b (W : World) (a b : Obj) : ((W.alloc a).alloc b).heap[(W.alloc a).heap.size]? = some b := World.alloc_heap_new _ _
theorem zD_img {W : World} {x y : Nat} (hx : W.heap[x]? = some (.cells #[.int .i64 0, .string ⟨#[]⟩, .slice none 0 0] 58)) (hy : W.heap[y]? = some (.cells #[.int .i64 0] 3)) : Img W (.agg #[.int .i64 0, .slice none 0 0, .slice (some ⟨x, 0, none⟩) 1 1, .slice (some ⟨y, 0, none⟩) 1 1, .slice none 0 0]) zD := by
  refine ⟨_, _, _, _, rfl, Sl.nil W, ?_, ?_, ?_⟩
  · refine ⟨some ⟨x, 0, none⟩, 1, rfl, show (1 : Nat) ≤ maxLen by decide, Nat.le_refl _, fun _ => ⟨x, 0, rfl, (Array.getElem?_eq_some_iff.1 hx).1, ?_⟩⟩
    intro j hj
    have h1 : j < 1 := hj
    match j, h1 with
    | 0, _ => exact ⟨_, cell_of hx rfl, cell_of hx rfl, cell_of hx rfl, Sl.nil W⟩
  · refine ⟨some ⟨y, 0, none⟩, 1, rfl, show (1 : Nat) ≤ maxLen by decide, Nat.le_refl _, fun _ => ⟨y, 0, rfl, (Array.getElem?_eq_some_iff.1 hy).1, fun j hj => ?_⟩⟩
    have h1 : j < 1 := hj
    match j, h1 with
    | 0, _ => exact cell_of hy rfl
  · exact ⟨none, 0, rfl, Nat.zero_le _, Nat.le_refl _, fun x => absurd rfl x⟩

set_option maxHeartbeats 4000000 in
theorem fresh_at (g : Int) (w : World) (M : ImgD) (E : Int) (hM : frsM g = M) (hE : frsE g = E) : Calls Tryz.prog 46 #[.int .i64 g] w (AnsI w w.heap.size M E) := by
  have m0 : (w.alloc (.cells #[.int .i64 0, .slice none 0 0, .slice none 0 0, .slice none 0 0, .slice none 0 0] 27)).heap[w.heap.size]? = some (.cells #[.int .i64 0, .slice none 0 0, .slice none 0 0, .slice none 0 0, .slice none 0 0] 27) := World.alloc_heap_new _ _
  have HR : Hid (∀ (W : World) (x y : Nat), W.heap[x]? = some (.cells #[.int .i64 0, .string ⟨#[]⟩, .slice none 0 0] 58) → W.heap[y]? = some (.cells #[.int .i64 0] 3) → Calls Tryz.prog 64 #[.agg #[.int .i64 0, .slice none 0 0, .slice (some ⟨x, 0, none⟩) 1 1, .slice (some ⟨y, 0, none⟩) 1 1, .slice none 0 0], .int .i64 g] W (AnsI W W.heap.size M E)) := fun W x y hx hy => resize_to (zD_img hx hy) g hM hE
  have hb1 : Below w.heap.size w ((w.alloc (.cells #[.int .i64 0, .slice none 0 0, .slice none 0 0, .slice none 0 0, .slice none 0 0] 27)).alloc (.cells #[.int .i64 0, .string ⟨#[]⟩, .slice none 0 0] 58) |>.alloc (.cells #[.int .i64 0] 3)).drew := ((((Below.refl _ _).alloc (Nat.le_refl _) _).alloc (by simp) _).alloc (by simp; omega) _).drew
  have hb2 : Below w.heap.size w ((w.alloc (.cells #[.int .i64 0, .slice none 0 0, .slice none 0 0, .slice none 0 0, .slice none 0 0] 27)).alloc (.cells #[.int .i64 0] 3) |>.alloc (.cells #[.int .i64 0, .string ⟨#[]⟩, .slice none 0 0] 58)).drew := ((((Below.refl _ _).alloc (Nat.le_refl _) _).alloc (by simp) _).alloc (by simp; omega) _).drew
  clear hM hE
  go_enter Tryz.func46, Tryz.ntmps46
  have hm1 : ∀ w, (Instr.makeSlice 24 (.int .i64 1) (.int .i64 1)).run Tryz.prog w = .ok (.slice (some ⟨w.heap.size, 0, none⟩) 1 1) (w.alloc (.cells #[.int .i64 0, .string ⟨#[]⟩, .slice none 0 0] 58)) := fun _ => by kernel_rfl
  have hm2 : ∀ w, (Instr.makeSlice 23 (.int .i64 1) (.int .i64 1)).run Tryz.prog w = .ok (.slice (some ⟨w.heap.size, 0, none⟩) 1 1) (w.alloc (.cells #[.int .i64 0] 3)) := fun _ => by kernel_rfl
  have x1 : (((w.alloc (.cells #[.int .i64 0, .slice none 0 0, .slice none 0 0, .slice none 0 0, .slice none 0 0] 27)).alloc (.cells #[.int .i64 0, .string ⟨#[]⟩, .slice none 0 0] 58)).alloc (.cells #[.int .i64 0] 3)).heap[w.heap.size + 1]? = some (.cells #[.int .i64 0, .string ⟨#[]⟩, .slice none 0 0] 58) := by have := al2a (w.alloc (.cells #[.int .i64 0, .slice none 0 0, .slice none 0 0, .slice none 0 0, .slice none 0 0] 27)) (.cells #[.int .i64 0, .string ⟨#[]⟩, .slice none 0 0] 58) (.cells #[.int .i64 0] 3); simpa using this
  have y1 : (((w.alloc (.cells #[.int .i64 0, .slice none 0 0, .slice none 0 0, .slice none 0 0, .slice none 0 0] 27)).alloc (.cells #[.int .i64 0, .string ⟨#[]⟩, .slice none 0 0] 58)).alloc (.cells #[.int .i64 0] 3)).heap[w.heap.size + 1 + 1]? = some (.cells #[.int .i64 0] 3) := by have := al2b (w.alloc (.cells #[.int .i64 0, .slice none 0 0, .slice none 0 0, .slice none 0 0, .slice none 0 0] 27)) (.cells #[.int .i64 0, .string ⟨#[]⟩, .slice none 0 0] 58) (.cells #[.int .i64 0] 3); simpa using this
  have x2 : (((w.alloc (.cells #[.int .i64 0, .slice none 0 0, .slice none 0 0, .slice none 0 0, .slice none 0 0] 27)).alloc (.cells #[.int .i64 0] 3)).alloc (.cells #[.int .i64 0, .string ⟨#[]⟩, .slice none 0 0] 58)).heap[w.heap.size + 1 + 1]? = some (.cells #[.int .i64 0, .string ⟨#[]⟩, .slice none 0 0] 58) := by have := al2b (w.alloc (.cells #[.int .i64 0, .slice none 0 0, .slice none 0 0, .slice none 0 0, .slice none 0 0] 27)) (.cells #[.int .i64 0] 3) (.cells #[.int .i64 0, .string ⟨#[]⟩, .slice none 0 0] 58); simpa using this
  have y2 : (((w.alloc (.cells #[.int .i64 0, .slice none 0 0, .slice none 0 0, .slice none 0 0, .slice none 0 0] 27)).alloc (.cells #[.int .i64 0] 3)).alloc (.cells #[.int .i64 0, .string ⟨#[]⟩, .slice none 0 0] 58)).heap[w.heap.size + 1]? = some (.cells #[.int .i64 0] 3) := by have := al2a (w.alloc (.cells #[.int .i64 0, .slice none 0 0, .slice none 0 0, .slice none 0 0, .slice none 0 0] 27)) (.cells #[.int .i64 0] 3) (.cells #[.int .i64 0, .string ⟨#[]⟩, .slice none 0 0] 58); simpa using this
  go_upto_region 1 with fail
  go_region_with (go_at_call 64; refine (HR.out _ _ _ (by first | exact x1 | exact x2) (by first | exact y1 | exact y2)).mono ?_; intro e w2 hA; obtain ⟨val, a1, a2, a3, a4, a5, a6, a7, a8, rfl, hO, bb, hI⟩ := hA.open; have zz := (bb.block w.heap.size (by simp <;> omega)).trans (cells_alloc (cells_alloc m0 _) _); obtain ⟨z0, z1, z2, z3, z4⟩ := five zz; have f0 := cells_frozen zz 0; have f1 := cells_frozen zz 1; have f2 := cells_frozen zz 2; have f3 := cells_frozen zz 3; have f4 := cells_frozen zz 4; have HO : Hid (OI w2 _ val M ∧ _ = imgV M.guest val) := ⟨hO, hI.symm⟩; have HB : Hid (Below w.heap.size w w2) := (by first | exact hb1.trans (bb.mono (by simp <;> omega)) | exact hb2.trans (bb.mono (by simp <;> omega))); clear hA hO hI bb)
  all_goals
    go_wp2_with fail
    have i1 : w.heap.size ≤ w.heap.size := Nat.le_refl _
    have hfr : ∀ a, Live M a → (val a).ownBlock ≠ some w.heap.size := fun a ha e => by
      have := ((HO.out.1.row a ha).lt _ e).1
      simp at this
      omega
    refine bodyPost_ret (v := .tuple #[.agg #[.int .i64 M.guest, .slice a1 M.root.length a2, .slice a3 M.slots.length a4, .slice a5 M.refs.length a6, .slice a7 M.snaps.length a8], .int .i64 E]) (by simp [results, Tryz.results46, go_sem, z0, z1, z2, z3, z4]) rfl ⟨val, by rw [← HO.out.2], OI.mono (((((HO.out.1.far hfr).far hfr).far hfr).far hfr).far hfr) (by simp <;> omega), ((((HB.out.setCell i1 _).setCell i1 _).setCell i1 _).setCell i1 _).setCell i1 _⟩
theorem fresh_is (g : Int) (w : World) {M : ImgD} {E : Int} (hM : frsM g = M) (hE : frsE g = E) : Calls Tryz.prog 46 #[.int .i64 g] w (AnsI w w.heap.size M E) := fresh_at g w M E hM hE
end Go.Proofs.YtehleeibgkpjmaeGreat
