/- Texts joined: WoE, WoF, WrC0, WrG, WoG, CpyS. -/
import Derived.Test.YtehleeibgkpjmaeGreatStackTellsJ12
import Derived.Test.YtehleeibgkpjmaeGreatStackTellsJ1
import Derived.Test.YtehleeibgkpjmaeGreatStackTellsJ6
import Derived.Test.YtehleeibgkpjmaeGreatStackTellsJ5
namespace Go.Proofs.YtehleeibgkpjmaeGreat
open Go.RowKit Go.Shelf
set_option maxRecDepth 20000
set_option linter.unusedVariables false
set_option linter.unusedSimpArgs false
set_option maxHeartbeats 16000000 in
theorem wo_nk (rb ro rc : Nat) (sa : Option Addr) (sc : Nat) (fb fo fc : Nat) (na : Option Addr) (nc : Nat) (m : ImgD) (n : Nat) (page : ByteArray) (w : World) (h : Img w (.agg #[.int .i64 m.guest, .slice (some ⟨rb, ro, none⟩) m.root.length rc, .slice sa m.slots.length sc, .slice (some ⟨fb, fo, none⟩) m.refs.length fc, .slice na m.snaps.length nc]) m) (hrc : ∀ j, j < m.root.length → w.cell? ⟨rb, ro + j, none⟩ = some (.int .i64 (m.root.getD j 0))) (hrl : rb < w.heap.size) (hfc : ∀ j, j < m.refs.length → w.cell? ⟨fb, fo + j, none⟩ = some (.int .i64 (m.refs.getD j 0))) (hfl : fb < w.heap.size) (hC : checkE m = 0) (hn : (n : Int) < m.guest) (hp : page.size = 4) (t : Nat) (ht : m.root.getD (n / 4) 0 = (t : Int)) (e : Int) (he : lookV m m.root n = e) (tn dn : Nat) (htn : tabN m (n / 4) = tn) (M1 : ImgD) (hM1 : wo1 m n = M1) (hnot : 0 < e → 1 ≤ t) (hmany : 1 ≤ t → 1 < m.refs.getD t 0) (HG : Hid (grabN m.slots = tn ∧ 1 ≤ m.slots.length ∧ m.slots.length ≤ 40 ∧ tn < 40 ∧ 1 ≤ tn ∧ tn ≤ m.slots.length)) (HT : Hid (1 ≤ M1.slots.length ∧ M1.slots.length ≤ 40 ∧ (if grabN M1.slots = 40 then (0 : Int) else grabN M1.slots) = (dn : Int))) (HE : Hid (dn ≤ M1.slots.length ∧ 1 ≤ dn ∧ tn < (layS M1.slots dn (1, page, [])).length ∧ (layS M1.slots dn (1, page, [])).getD tn default = (2, ⟨#[]⟩, tableO m (n / 4)) ∧ (layS M1.slots dn (1, page, [])).set tn (2, ⟨#[]⟩, (tableO m (n / 4)).set (n % 4) (dn : Int)) = wL m n page)) (M3 : ImgD) (HM3 : Hid ({ M1 with slots := wL m n page } = M3 ∧ shapeE { M3 with refs := rfZ M3.slots } = 0)) :
  Calls Tryz.prog 21 #[.agg #[.int .i64 m.guest, .slice (some ⟨rb, ro, none⟩) m.root.length rc, .slice sa m.slots.length sc, .slice (some ⟨fb, fo, none⟩) m.refs.length fc, .slice na m.snaps.length nc], .int .i64 (n : Int), .string page] w (AnsJ w (countedD M3) 0) := by
 have b0 : Below w.heap.size w ((w.alloc (.cells #[.int .i64 m.guest, .slice (some ⟨rb, ro, none⟩) m.root.length rc, .slice sa m.slots.length sc, .slice (some ⟨fb, fo, none⟩) m.refs.length fc, .slice na m.snaps.length nc] 27)).alloc (.cells #[.int .i64 0, .slice none 0 0, .slice none 0 0, .slice none 0 0, .slice none 0 0] 27)) := ((Below.refl _ _).alloc (Nat.le_refl _) _).alloc (by simp) _
 have m0 : ((w.alloc (.cells #[.int .i64 m.guest, .slice (some ⟨rb, ro, none⟩) m.root.length rc, .slice sa m.slots.length sc, .slice (some ⟨fb, fo, none⟩) m.refs.length fc, .slice na m.snaps.length nc] 27)).alloc (.cells #[.int .i64 0, .slice none 0 0, .slice none 0 0, .slice none 0 0, .slice none 0 0] 27)).heap[w.heap.size]? = some (.cells #[.int .i64 m.guest, .slice (some ⟨rb, ro, none⟩) m.root.length rc, .slice sa m.slots.length sc, .slice (some ⟨fb, fo, none⟩) m.refs.length fc, .slice na m.snaps.length nc] 27) := cells_alloc (World.alloc_heap_new _ _) _
 have m1 : ((w.alloc (.cells #[.int .i64 m.guest, .slice (some ⟨rb, ro, none⟩) m.root.length rc, .slice sa m.slots.length sc, .slice (some ⟨fb, fo, none⟩) m.refs.length fc, .slice na m.snaps.length nc] 27)).alloc (.cells #[.int .i64 0, .slice none 0 0, .slice none 0 0, .slice none 0 0, .slice none 0 0] 27)).heap[w.heap.size + 1]? = some (.cells #[.int .i64 0, .slice none 0 0, .slice none 0 0, .slice none 0 0, .slice none 0 0] 27) := by have := World.alloc_heap_new (w.alloc (.cells #[.int .i64 m.guest, .slice (some ⟨rb, ro, none⟩) m.root.length rc, .slice sa m.slots.length sc, .slice (some ⟨fb, fo, none⟩) m.refs.length fc, .slice na m.snaps.length nc] 27)) (.cells #[.int .i64 0, .slice none 0 0, .slice none 0 0, .slice none 0 0, .slice none 0 0] 27); simpa using this
 have hsz : w.heap.size + 1 < ((w.alloc (.cells #[.int .i64 m.guest, .slice (some ⟨rb, ro, none⟩) m.root.length rc, .slice sa m.slots.length sc, .slice (some ⟨fb, fo, none⟩) m.refs.length fc, .slice na m.snaps.length nc] 27)).alloc (.cells #[.int .i64 0, .slice none 0 0, .slice none 0 0, .slice none 0 0, .slice none 0 0] 27)).heap.size := by simp
 have hs := checkE_shape hC
 have hgt := guest_ok hs
 have hrt := root_ok hs
 have hr : n / 4 < m.root.length := by omega
 have htl : t < m.slots.length := by obtain ⟨t', ht', h'⟩ := root_nat hs hr; omega
 have hrf : m.refs.length = m.slots.length := (shapeE_zero hs).2.2.1
 have hlen : (tableO m (n / 4)).length = 4 := ckE_len (tableO_ok hs hr).1
 have I0 := h.below b0
 have hlk := lookErr_is I0 (n : Int) (lookE_of hC hn)
 have e4 : ((n / 4 : Nat) : Int) = (n : Int) / 4 := by omega
 have hq1 : ((n : Int) / 4).toNat = n / 4 := by omega
 have hq2 : ((n : Int) % 4).toNat = n % 4 := by omega
 have hri : (n : Int) / 4 < (m.root.length : Int) := by omega
 have h4 : n % 4 < 4 := by omega
 have h4i : (n : Int) % 4 < 4 := by omega
 have h16 : n < 16 := by omega
 have h0q : ¬ (n : Int) / 4 < 0 := by omega
 have h0r : ¬ (n : Int) % 4 < 0 := by omega
 have h0a : 0 ≤ (n : Int) / 4 := by omega
 have h0b : 0 ≤ (n : Int) % 4 := by omega
 have hpz : ((page.size : Int) != 4) = false := by rw [hp]; rfl
 have HR0 : Hid (((w.alloc (.cells #[.int .i64 m.guest, .slice (some ⟨rb, ro, none⟩) m.root.length rc, .slice sa m.slots.length sc, .slice (some ⟨fb, fo, none⟩) m.refs.length fc, .slice na m.snaps.length nc] 27)).alloc (.cells #[.int .i64 0, .slice none 0 0, .slice none 0 0, .slice none 0 0, .slice none 0 0] 27)).cell? ⟨rb, ro + n / 4, none⟩ = some (.int .i64 (t : Int)) ∧ rb < ((w.alloc (.cells #[.int .i64 m.guest, .slice (some ⟨rb, ro, none⟩) m.root.length rc, .slice sa m.slots.length sc, .slice (some ⟨fb, fo, none⟩) m.refs.length fc, .slice na m.snaps.length nc] 27)).alloc (.cells #[.int .i64 0, .slice none 0 0, .slice none 0 0, .slice none 0 0, .slice none 0 0] 27)).heap.size) := ⟨by rw [← ht]; exact (b0.cell (p := ⟨rb, ro + n / 4, none⟩) hrl).trans (hrc (n / 4) hr), Nat.lt_of_lt_of_le hrl b0.size⟩
 have HF0 : Hid (∀ j, j < m.refs.length → ((w.alloc (.cells #[.int .i64 m.guest, .slice (some ⟨rb, ro, none⟩) m.root.length rc, .slice sa m.slots.length sc, .slice (some ⟨fb, fo, none⟩) m.refs.length fc, .slice na m.snaps.length nc] 27)).alloc (.cells #[.int .i64 0, .slice none 0 0, .slice none 0 0, .slice none 0 0, .slice none 0 0] 27)).cell? ⟨fb, fo + j, none⟩ = some (.int .i64 (m.refs.getD j 0)) ∧ fb < ((w.alloc (.cells #[.int .i64 m.guest, .slice (some ⟨rb, ro, none⟩) m.root.length rc, .slice sa m.slots.length sc, .slice (some ⟨fb, fo, none⟩) m.refs.length fc, .slice na m.snaps.length nc] 27)).alloc (.cells #[.int .i64 0, .slice none 0 0, .slice none 0 0, .slice none 0 0, .slice none 0 0] 27)).heap.size) := fun j hj => ⟨(b0.cell (p := ⟨fb, fo + j, none⟩) hfl).trans (hfc j hj), Nat.lt_of_lt_of_le hfl b0.size⟩
 have HP : Hid (checkE m = 0 ∧ shapeE m = 0 ∧ m.root.getD (n / 4) 0 = (t : Int) ∧ lookV m m.root n = e ∧ (n : Int) < m.guest ∧ (tableO m (n / 4)).length = 4 ∧ m.refs.length = m.slots.length ∧ page.size = 4) := ⟨hC, hs, ht, he, hn, hlen, hrf, hp⟩
 clear h hrc hrl hfc hfl hC hs hgt hrt hn ht he hlen hrf hp
 have HM1 : Hid (wo1 m n = M1 ∧ tabN m (n / 4) = tn) := ⟨hM1, htn⟩
 clear hM1 htn
 go_enter Tryz.func21, Tryz.ntmps21
 obtain ⟨c0, c1, c2, c3, c4⟩ := five m0
 go_wp2_with (go_at_call 18; refine hlk.mono ?_; rintro e1 w1 ⟨rfl, b1⟩)
 clear c0 c1 c2 c3 c4
 have hz1 : w.heap.size + 1 < w1.heap.size := Nat.lt_of_lt_of_le hsz b1.size
 have n0 := cells_below m0 b1 (by omega)
 have n1 := cells_below m1 b1 hsz
 have I1 := I0.below b1
 have bw : Below w.heap.size w w1 := Below.on b0 b1
 have cR : w1.cell? ⟨rb, ro + n / 4, none⟩ = some (.int .i64 (t : Int)) := (b1.cell (p := ⟨rb, ro + n / 4, none⟩) HR0.out.2).trans HR0.out.1
 have rl1 : rb < w1.heap.size := Nat.lt_of_lt_of_le HR0.out.2 b1.size
 have HF : Hid (∀ j, j < m.refs.length → w1.cell? ⟨fb, fo + j, none⟩ = some (.int .i64 (m.refs.getD j 0)) ∧ fb < w1.heap.size) := fun j hj => ⟨(b1.cell (p := ⟨fb, fo + j, none⟩) (HF0.out j hj).2).trans (HF0.out j hj).1, Nat.lt_of_lt_of_le (HF0.out j hj).2 b1.size⟩
 have HLk : Hid (∀ W, Below w1.heap.size w1 W → Calls Tryz.prog 19 #[.agg #[.int .i64 m.guest, .slice (some ⟨rb, ro, none⟩) m.root.length rc, .slice sa m.slots.length sc, .slice (some ⟨fb, fo, none⟩) m.refs.length fc, .slice na m.snaps.length nc], .int .i64 (n : Int)] W fun r w' => r = .returned (.int .i64 e) ∧ Below W.heap.size W w') := fun W hW => lookOf_is (I1.below hW) (n : Int) (lookE_of HP.out.1 HP.out.2.2.2.2.1) (by rw [Int.toNat_natCast]; exact HP.out.2.2.2.1)
 have HOw : Hid (∀ W, Below w1.heap.size w1 W → Calls Tryz.prog 40 #[.agg #[.int .i64 m.guest, .slice (some ⟨rb, ro, none⟩) m.root.length rc, .slice sa m.slots.length sc, .slice (some ⟨fb, fo, none⟩) m.refs.length fc, .slice na m.snaps.length nc]] W fun r w' => ∃ val, r = .returned (imgV m.guest val) ∧ OX w' W.heap.size val m ∧ Below W.heap.size W w') := fun W hW => ownImage_is (I1.below hW) HP.out.2.1
 have HTb : Hid (∀ W, Below w1.heap.size w1 W → Calls Tryz.prog 43 #[.agg #[.int .i64 m.guest, .slice (some ⟨rb, ro, none⟩) m.root.length rc, .slice sa m.slots.length sc, .slice (some ⟨fb, fo, none⟩) m.refs.length fc, .slice na m.snaps.length nc], .int .i64 (t : Int)] W fun r w' => ∃ g cap, r = .returned (.slice (some ⟨g, 0, none⟩) 4 cap) ∧ w'.ownsRow W.heap.size 3 1 (.slice (some ⟨g, 0, none⟩) 4 cap) 4 (ints (tableO m (n / 4))) ∧ W.heap.size ≤ g ∧ Below W.heap.size W w') := fun W hW => by
  have e := tabAt_O HP.out.2.2.1
  refine (tableOf_is (I1.below hW) htl (by rw [e, HP.out.2.2.2.2.2.1]; decide)).mono ?_
  rintro r w' ⟨v, rfl, h1, h2, h3⟩
  rw [e, HP.out.2.2.2.2.2.1] at h1
  obtain ⟨g, cap, rfl⟩ := row_some h1
  exact ⟨g, cap, rfl, h1, h2 g rfl, h3⟩
 clear b0 b1 m0 m1 I0 I1 HR0 HF0 hlk hsz
 refine wp_region_held_drew (S := (fun X : World => X.heap[w.heap.size]? = some (.cells #[.int .i64 m.guest, .slice (some ⟨rb, ro, none⟩) m.root.length rc, .slice sa m.slots.length sc, .slice (some ⟨fb, fo, none⟩) m.refs.length fc, .slice na m.snaps.length nc] 27) ∧ X.cell? ⟨rb, ro + n / 4, none⟩ = some (.int .i64 (t : Int)))) (by kernel_rfl) ⟨n0, cR⟩ (fun hHeld => ?_)
 refine tkH 0 (.pointer (some ⟨w.heap.size, 1, none⟩)) rfl (Or.inl ⟨by rfl, fun w' hSw => by obtain ⟨qa, qb⟩ := hSw; obtain ⟨j0, j1, j2, j3, j4⟩ := five qa; go_simp⟩) hHeld ?_
 simp only [lays]
 refine tkH 1 (.slice (some ⟨rb, ro, none⟩) m.root.length rc) rfl (Or.inl ⟨by rfl, fun w' hSw => by obtain ⟨qa, qb⟩ := hSw; obtain ⟨j0, j1, j2, j3, j4⟩ := five qa; go_simp⟩) hHeld ?_
 simp only [lays]
 refine tkH 2 (.int .i64 ((n : Int) / 4)) rfl (Or.inl ⟨by rfl, fun w' hSw => by obtain ⟨qa, qb⟩ := hSw; obtain ⟨j0, j1, j2, j3, j4⟩ := five qa; go_simp⟩) hHeld ?_
 simp only [lays]
 refine tkH 3 (.pointer (some ⟨rb, ro + n / 4, none⟩)) rfl (Or.inl ⟨by rfl, fun w' hSw => by obtain ⟨qa, qb⟩ := hSw; obtain ⟨j0, j1, j2, j3, j4⟩ := five qa; go_simp⟩) hHeld ?_
 simp only [lays]
 refine tkH 4 (.int .i64 (t : Int)) rfl (Or.inl ⟨by rfl, fun w' hSw => by obtain ⟨qa, qb⟩ := hSw; obtain ⟨j0, j1, j2, j3, j4⟩ := five qa; go_simp⟩) hHeld ?_
 simp only [lays]
 refine tkH 5 (.agg #[.int .i64 m.guest, .slice (some ⟨rb, ro, none⟩) m.root.length rc, .slice sa m.slots.length sc, .slice (some ⟨fb, fo, none⟩) m.refs.length fc, .slice na m.snaps.length nc]) rfl (Or.inl ⟨by rfl, fun w' hSw => by obtain ⟨qa, qb⟩ := hSw; obtain ⟨j0, j1, j2, j3, j4⟩ := five qa; go_simp⟩) hHeld ?_
 simp only [lays]
 refine tkH 6 (.int .i64 (n : Int)) rfl (Or.inl ⟨by rfl, fun w' hSw => by obtain ⟨qa, qb⟩ := hSw; obtain ⟨j0, j1, j2, j3, j4⟩ := five qa; go_simp⟩) hHeld ?_
 simp only [lays]
 refine wpAnyH_ready (rs := [7]) (by kernel_rfl) (by simp) ?_
 refine AllReadyH.cons rfl (fun K hK => ?_) AllReadyH.nil
 clear hHeld
 simp only [lays]
 rw [if_pos (by rfl)]
 go_wp2_with (go_at_call 19; refine (HLk.out _ (to_drew (Below.refl _ _))).mono ?_; rintro e2 w2 ⟨rfl, b2⟩)
 have b2 : Below w1.heap.size w1 w2 := below_drew b2
 have k0 := cells_below n0 b2 (by omega)
 have cR2 := (b2.cell (p := ⟨rb, ro + n / 4, none⟩) rl1).trans cR
 refine hK.out _ _ ⟨k0, cR2⟩ (fun hHeld => ?_)
 clear hK K
 try simp only [lays]
 refine tkH 8 (.int .i64 (t : Int)) rfl (Or.inl ⟨by rfl, fun w' hSw => by go_simp⟩) hHeld ?_
 simp only [lays]
 refine tkH 9 (.int .i64 e) rfl (Or.inl ⟨by rfl, fun w' hSw => by go_simp⟩) hHeld ?_
 simp only [lays]
 clear hHeld
 refine wpAnyH_done (by kernel_rfl) ?_ _
 obtain ⟨c0, c1, c2, c3, c4⟩ := five k0
 go_upto_region 9 with (go_at_call 40; refine (HOw.out w2 b2).mono ?_; rintro e3 w3 ⟨val, rfl, hO, b3⟩; obtain ⟨p0, q0, p1, q1, p2, q2, p3, q3, x0, x1, x2, x3⟩ := hO.four'; unfold imgV; rw [x0, x1, x2, x3])
 have s2 := b2.size
 have s3 := b3.size
 have HD0 : Hid (OwR w1 (w3.alloc (.cells #[.int .i64 m.guest, .slice p0 m.root.length q0, .slice p1 m.slots.length q1, .slice p2 m.refs.length q2, .slice p3 m.snaps.length q3] 27)) w3.heap.size m) := ⟨⟨val, (hO.mono s2).alloc _, by rw [x0, x1, x2, x3]; exact World.alloc_heap_new _ _, hO.lt (Nat.le_refl _)⟩, by omega, (b2.trans (b3.mono s2)).alloc (by omega) _⟩
 clear hO x0 x1 x2 x3 c0 c1 c2 c3 c4 k0 cR2 HLk HOw
 have M0 := cells_below n0 HD0.out.bel (by omega)
 obtain ⟨c0, c1, c2, c3, c4⟩ := five M0
 have HF3 : Hid (∀ j, j < m.refs.length → (w3.alloc (.cells #[.int .i64 m.guest, .slice p0 m.root.length q0, .slice p1 m.slots.length q1, .slice p2 m.refs.length q2, .slice p3 m.snaps.length q3] 27)).cell? ⟨fb, fo + j, none⟩ = some (.int .i64 (m.refs.getD j 0))) := fun j hj => (HD0.out.bel.cell (p := ⟨fb, fo + j, none⟩) (HF.out j hj).2).trans (HF.out j hj).1
 clear b2 b3 M0
 have hDw : w1.heap.size ≤ w3.heap.size := HD0.out.ge
 go_cut [54] from 14 (fun s wx => s = .bool false ∧ Hid (OwR w1 wx w3.heap.size m))
 case first =>
  by_cases hpos : 0 < e
  ·obtain ⟨en, rfl⟩ := Int.eq_ofNat_of_zero_le (Int.le_of_lt hpos)
   have g1 : decide (0 < (en : Int)) = true := by simpa using hpos
   have ct := HF3.out t (by have := HP.out.2.2.2.2.2.2.1; omega)
   have l1 : (t : Int) < (m.refs.length : Int) := by have := HP.out.2.2.2.2.2.2.1; omega
   obtain ⟨xt, hxt⟩ : ∃ x, m.refs.getD t 0 = x := ⟨_, rfl⟩
   have hrt2 := hmany (hnot hpos)
   rw [hxt] at ct hrt2
   have g3 : (xt == 1) = false := by simp; omega
   clear hxt hrt2 hnot hmany
   go_wp2_with fail; go_meet; exact ⟨rfl, HD0⟩
  ·have g1 : decide (0 < e) = false := by simpa using hpos
   go_wp2_with fail; go_meet; exact ⟨rfl, HD0⟩
 case rest =>
 obtain ⟨rfl, HD1⟩ := hcut
 clear HD0 HF3 c0 c1 c2 c3 c4
 obtain ⟨wa, hwa⟩ : ∃ X, X = wc := ⟨_, rfl⟩
 subst hwa
 go_upto_region 12 with fail
 have M0 := cells_below n0 HD1.out.bel (by omega)
 obtain ⟨c0, c1, c2, c3, c4⟩ := five M0
 have HF1 : Hid (∀ j, j < m.refs.length → wa.cell? ⟨fb, fo + j, none⟩ = some (.int .i64 (m.refs.getD j 0))) := fun j hj => (HD1.out.bel.cell (p := ⟨fb, fo + j, none⟩) (HF.out j hj).2).trans (HF.out j hj).1
 go_cut [71] from 14 (fun s wx => s = .bool true ∧ Hid (OwR w1 wx w3.heap.size m))
 case first =>
  rcases Nat.eq_zero_or_pos t with h0 | h1
  ·subst h0
   go_wp2_with fail; go_meet; exact ⟨rfl, HD1⟩
  ·have g1 : ((t : Int) == 0) = false := by simp; omega
   have ct := HF1.out t (by have := HP.out.2.2.2.2.2.2.1; omega)
   obtain ⟨xt, hxt⟩ : ∃ x, m.refs.getD t 0 = x := ⟨_, rfl⟩
   have hrt2 := hmany h1
   rw [hxt] at ct hrt2
   have l1 : (t : Int) < (m.refs.length : Int) := by have := HP.out.2.2.2.2.2.2.1; omega
   have g3 : decide (1 < xt) = true := by simp; omega
   clear hxt hmany
   go_wp2_with fail; go_meet; exact ⟨rfl, HD1⟩
 case rest =>
 obtain ⟨rfl, HD2⟩ := hcut
 clear HD1 HF1 M0 c0 c1 c2 c3 c4
 obtain ⟨wb, hwb⟩ : ∃ X, X = wc := ⟨_, rfl⟩
 subst hwb
 obtain ⟨val, hX, hbox, hfar⟩ := HD2.out.ex
 have hbel := HD2.out.bel
 obtain ⟨p0, q0, p1, q1, p2, q2, p3, q3, x0, x1, x2, x3⟩ := hX.four'
 have hbx := hbox
 rw [x0, x1, x2, x3] at hbx
 obtain ⟨d0, d1, d2, d3, d4⟩ := five hbx
 have hS : Slots wb (val .slots) m.slots := Img.four (show Img wb (.agg #[_, _, _, _, _]) m from hX.img) |>.2.1
 have hG := grabOf_wide hS HG.out.2.1 HG.out.2.2.1 (c := (tn : Int)) (by rw [HG.out.1, if_neg (by have := HG.out.2.2.2.1; omega)])
 rw [x1] at hG
 have htn0 : ((tn : Int) == 0) = false := by have := HG.out.2.2.2.2.1; simp; omega
 go_upto_region 16 with (go_at_call 41; refine hG.mono ?_; rintro e4 w4 ⟨rfl, hw⟩; rw [hw]; clear hw)
 clear hG hS htn0 d0 d1 d2 d3 d4
 go_cut [] from 14 (fun wx => Hid (OwR w1 wx w3.heap.size { m with slots := tabL m (n / 4) (tableO m (n / 4)) }))
 case first =>
  have hDl : w3.heap.size < wb.heap.size := (szH hbx)
  have MX := cells_below n0 hbel (by omega)
  have cRa := (hbel.cell (p := ⟨rb, ro + n / 4, none⟩) rl1).trans cR
  have hsB := hbel.size
  refine wp_region_held_drew (S := (fun X : World => X.heap[w.heap.size]? = some (.cells #[.int .i64 m.guest, .slice (some ⟨rb, ro, none⟩) m.root.length rc, .slice sa m.slots.length sc, .slice (some ⟨fb, fo, none⟩) m.refs.length fc, .slice na m.snaps.length nc] 27) ∧ X.cell? ⟨rb, ro + n / 4, none⟩ = some (.int .i64 (t : Int)))) (by kernel_rfl) ⟨MX, cRa⟩ (fun hHeld => ?_)
  refine tkH 1 (.int .i64 (tn : Int)) rfl (Or.inl ⟨by rfl, fun w' hSw => by obtain ⟨qa, qb⟩ := hSw; obtain ⟨j0, j1, j2, j3, j4⟩ := five qa; go_simp⟩) hHeld ?_
  simp only [lays]
  refine tkH 2 (.agg #[.int .i64 m.guest, .slice (some ⟨rb, ro, none⟩) m.root.length rc, .slice sa m.slots.length sc, .slice (some ⟨fb, fo, none⟩) m.refs.length fc, .slice na m.snaps.length nc]) rfl (Or.inl ⟨by rfl, fun w' hSw => by obtain ⟨qa, qb⟩ := hSw; obtain ⟨j0, j1, j2, j3, j4⟩ := five qa; go_simp⟩) hHeld ?_
  simp only [lays]
  refine tkH 3 (.pointer (some ⟨w.heap.size, 1, none⟩)) rfl (Or.inl ⟨by rfl, fun w' hSw => by obtain ⟨qa, qb⟩ := hSw; obtain ⟨j0, j1, j2, j3, j4⟩ := five qa; go_simp⟩) hHeld ?_
  simp only [lays]
  refine tkH 4 (.slice (some ⟨rb, ro, none⟩) m.root.length rc) rfl (Or.inl ⟨by rfl, fun w' hSw => by obtain ⟨qa, qb⟩ := hSw; obtain ⟨j0, j1, j2, j3, j4⟩ := five qa; go_simp⟩) hHeld ?_
  simp only [lays]
  refine tkH 5 (.int .i64 ((n : Int) / 4)) rfl (Or.inl ⟨by rfl, fun w' hSw => by obtain ⟨qa, qb⟩ := hSw; obtain ⟨j0, j1, j2, j3, j4⟩ := five qa; go_simp⟩) hHeld ?_
  simp only [lays]
  refine tkH 6 (.pointer (some ⟨rb, ro + n / 4, none⟩)) rfl (Or.inl ⟨by rfl, fun w' hSw => by obtain ⟨qa, qb⟩ := hSw; obtain ⟨j0, j1, j2, j3, j4⟩ := five qa; go_simp⟩) hHeld ?_
  simp only [lays]
  refine tkH 7 (.int .i64 (t : Int)) rfl (Or.inl ⟨by rfl, fun w' hSw => by obtain ⟨qa, qb⟩ := hSw; obtain ⟨j0, j1, j2, j3, j4⟩ := five qa; go_simp⟩) hHeld ?_
  simp only [lays]
  refine wpAnyH_ready (rs := [0, 8]) (by kernel_rfl) (by simp) ?_
  refine AllReadyH.cons rfl (fun K hK => ?_) (AllReadyH.cons rfl (fun K hK => ?_) AllReadyH.nil)
  ·clear hHeld
   simp only [lays]
   rw [if_pos (by rfl)]
   have hbd : wb.drew.heap[w3.heap.size]? = some (.cells #[.int .i64 m.guest, .slice p0 m.root.length q0, .slice p1 m.slots.length q1, .slice p2 m.refs.length q2, .slice p3 m.snaps.length q3] 27) := hbx
   obtain ⟨v0, v1, v2, v3, v4⟩ := five hbd
   go_simp
   refine hK.out _ _ ⟨MX, cRa⟩ (fun hHeld => ?_)
   clear hK K v0 v1 v2 v3 v4
   try simp only [lays]
   refine wpAnyH_ready (rs := [8]) (by kernel_rfl) (by simp) ?_
   refine AllReadyH.cons rfl (fun K hK => ?_) AllReadyH.nil
   clear hHeld
   simp only [lays]
   rw [if_pos (by rfl)]
   go_wp2_with (go_at_call 43; refine (HTb.out _ (to_drew hbel)).mono ?_; rintro e5 w4 ⟨g, cap, rfl, hev, hge, b4⟩)
   have b4 : Below wb.heap.size wb w4 := below_drew b4
   have hge : wb.heap.size ≤ g := hge
   have hev : w4.ownsRow w1.heap.size 3 1 (.slice (some ⟨g, 0, none⟩) 4 cap) (tableO m (n / 4)).length (ints (tableO m (n / 4))) := by
    rw [HP.out.2.2.2.2.2.1]
    exact row_mono hev (show w1.heap.size ≤ wb.heap.size from hsB)
   have hgl : g < w4.heap.size := (hev.lt g rfl).2
   have s4 := b4.size
   have MX4 := cells_below MX b4 (by omega)
   have D4 := cells_below hbx b4 hDl
   have cR4 := (b4.cell (p := ⟨rb, ro + n / 4, none⟩) (Nat.lt_of_lt_of_le rl1 hsB)).trans cRa
   refine hK.out _ _ ⟨MX4, cR4⟩ (fun hHeld => ?_)
   clear hK K
   try simp only [lays]
   refine tkH 9 (.agg #[.int .i64 2, .string ⟨#[]⟩, .slice (some ⟨g, 0, none⟩) 4 cap]) rfl (Or.inl ⟨by rfl, fun w' hSw => by obtain ⟨qa, qb⟩ := hSw; obtain ⟨j0, j1, j2, j3, j4⟩ := five qa; go_simp⟩) hHeld ?_
   simp only [lays]
   have hX4 : OX w4 w1.heap.size val m := hX.below b4
   have hL := layX_is m.guest (k := 2) (d := ⟨#[]⟩) hX4 (Nat.le_trans hsB s4) HG.out.2.2.2.2.2 (by have := HG.out.2.2.1; omega) hev (fun b hb _ q hq x => by have h1 := ((hX.row b hb).lt q x).2; have hq : g = q := Option.some.inj hq; omega)
   unfold imgV at hL
   rw [x0, x1, x2, x3] at hL
   have HL : Hid (Calls Tryz.prog 42 #[.agg #[.int .i64 m.guest, .slice p0 m.root.length q0, .slice p1 m.slots.length q1, .slice p2 m.refs.length q2, .slice p3 m.snaps.length q3], .int .i64 (tn : Int), .agg #[.int .i64 2, .string ⟨#[]⟩, .slice (some ⟨g, 0, none⟩) 4 cap]] w4 fun r w' => ∃ val', r = .returned (imgV m.guest val') ∧ OX w' w1.heap.size val' { m with slots := layS m.slots tn (2, ⟨#[]⟩, tableO m (n / 4)) } ∧ Below w1.heap.size w4 w' ∧ KeepX w4 w' m val ∧ SrcX w4 m val (.slice (some ⟨g, 0, none⟩) 4 cap) { m with slots := layS m.slots tn (2, ⟨#[]⟩, tableO m (n / 4)) } val') := hL.mono fun r w' ⟨v, a1, a2, a3, a4, a5, _⟩ => ⟨v, a1, a2, a3, a4, a5⟩
   clear hL
   obtain ⟨MA, hMA⟩ : ∃ X : ImgD, { m with slots := layS m.slots tn (2, ⟨#[]⟩, tableO m (n / 4)) } = X := ⟨_, rfl⟩
   rw [hMA] at HL
   have hMg : MA.guest = m.guest := by rw [← hMA]
   have HMA : Hid ({ m with slots := tabL m (n / 4) (tableO m (n / 4)) } = MA ∧ MA.guest = m.guest) := ⟨by rw [← hMA]; unfold tabL; rw [HM1.out.2], hMg⟩
   clear hMA hMg
   refine wpAnyH_ready (rs := [10]) (by kernel_rfl) (by simp) ?_
   refine AllReadyH.cons rfl (fun K hK => ?_) AllReadyH.nil
   clear hHeld
   simp only [lays]
   rw [if_pos (by rfl)]
   go_wp2_with (go_at_call 42; refine HL.out.mono ?_; rintro e6 w5 ⟨val', rfl, hX5, b5, k5, s5⟩; obtain ⟨g0, h0, g1, h1, g2, h2, g3, h3, y0, y1, y2, y3⟩ := hX5.four'; unfold imgV; rw [y0, y1, y2, y3])
   have MX5 := cells_below MX4 b5 (by omega)
   have D5 := (k5 w3.heap.size (by omega) hfar).trans D4
   have cR5 := (b5.cell (p := ⟨rb, ro + n / 4, none⟩) rl1).trans cR4
   refine hK.out _ _ ⟨MX5, cR5⟩ (fun hHeld => ?_)
   clear hK K
   try simp only [lays]
   refine wpAnyH_ready (rs := [11]) (by kernel_rfl) (by simp) ?_
   refine AllReadyH.cons rfl (fun K hK => ?_) AllReadyH.nil
   clear hHeld
   simp only [lays]
   rw [if_pos (by rfl)]
   have bS := fun a0 a1 a2 a3 a4 => below_five (w := w5) (Below.refl w1.heap.size w5) hDw a0 a1 a2 a3 a4
   obtain ⟨v0, v1, v2, v3, v4⟩ := five D5
   have u0 := cells_frozen D5 0; have u1 := cells_frozen D5 1; have u2 := cells_frozen D5 2; have u3 := cells_frozen D5 3; have u4 := cells_frozen D5 4
   go_simp
   refine hK.out _ _ ⟨(heap_five _ _ _ _ _ _ (by omega)).trans MX5, ((bS _ _ _ _ _).cell (p := ⟨rb, ro + n / 4, none⟩) rl1).trans cR5⟩ (fun hHeld => ?_)
   clear hK K hHeld
   try simp only [lays]
   refine wpAnyH_done (by kernel_rfl) ?_ _
   go_wp2_with fail
   go_meet
   have hO := ow_call (Below.trans hbel (b4.mono hsB)) (by rw [x0, x1, x2, x3]; exact D4) HD2.out.ge hfar hX5 b5 k5 s5 (fun x => by have hx : g = w3.heap.size := Option.some.inj x; omega)
   rw [y0, y1, y2, y3, HMA.out.2] at hO
   rw [HMA.out.1]
   exact hO
  ·clear hHeld
   simp only [lays]
   rw [if_pos (by rfl)]
   go_wp2_with (go_at_call 43; refine (HTb.out _ (to_drew hbel)).mono ?_; rintro e5 w4 ⟨g, cap, rfl, hev, hge, b4⟩)
   have b4 : Below wb.heap.size wb w4 := below_drew b4
   have hge : wb.heap.size ≤ g := hge
   have hev : w4.ownsRow w1.heap.size 3 1 (.slice (some ⟨g, 0, none⟩) 4 cap) (tableO m (n / 4)).length (ints (tableO m (n / 4))) := by
    rw [HP.out.2.2.2.2.2.1]
    exact row_mono hev (show w1.heap.size ≤ wb.heap.size from hsB)
   have hgl : g < w4.heap.size := (hev.lt g rfl).2
   have s4 := b4.size
   have MX4 := cells_below MX b4 (by omega)
   have D4 := cells_below hbx b4 hDl
   have cR4 := (b4.cell (p := ⟨rb, ro + n / 4, none⟩) (Nat.lt_of_lt_of_le rl1 hsB)).trans cRa
   refine hK.out _ _ ⟨MX4, cR4⟩ (fun hHeld => ?_)
   clear hK K
   try simp only [lays]
   refine tkH 9 (.agg #[.int .i64 2, .string ⟨#[]⟩, .slice (some ⟨g, 0, none⟩) 4 cap]) rfl (Or.inl ⟨by rfl, fun w' hSw => by obtain ⟨qa, qb⟩ := hSw; obtain ⟨j0, j1, j2, j3, j4⟩ := five qa; go_simp⟩) hHeld ?_
   simp only [lays]
   refine wpAnyH_ready (rs := [0]) (by kernel_rfl) (by simp) ?_
   refine AllReadyH.cons rfl (fun K hK => ?_) AllReadyH.nil
   clear hHeld
   simp only [lays]
   rw [if_pos (by rfl)]
   obtain ⟨v0, v1, v2, v3, v4⟩ := five D4
   go_simp
   refine hK.out _ _ ⟨MX4, cR4⟩ (fun hHeld => ?_)
   clear hK K v0 v1 v2 v3 v4
   try simp only [lays]
   have hX4 : OX w4 w1.heap.size val m := hX.below b4
   have hL := layX_is m.guest (k := 2) (d := ⟨#[]⟩) hX4 (Nat.le_trans hsB s4) HG.out.2.2.2.2.2 (by have := HG.out.2.2.1; omega) hev (fun b hb _ q hq x => by have h1 := ((hX.row b hb).lt q x).2; have hq : g = q := Option.some.inj hq; omega)
   unfold imgV at hL
   rw [x0, x1, x2, x3] at hL
   have HL : Hid (Calls Tryz.prog 42 #[.agg #[.int .i64 m.guest, .slice p0 m.root.length q0, .slice p1 m.slots.length q1, .slice p2 m.refs.length q2, .slice p3 m.snaps.length q3], .int .i64 (tn : Int), .agg #[.int .i64 2, .string ⟨#[]⟩, .slice (some ⟨g, 0, none⟩) 4 cap]] w4 fun r w' => ∃ val', r = .returned (imgV m.guest val') ∧ OX w' w1.heap.size val' { m with slots := layS m.slots tn (2, ⟨#[]⟩, tableO m (n / 4)) } ∧ Below w1.heap.size w4 w' ∧ KeepX w4 w' m val ∧ SrcX w4 m val (.slice (some ⟨g, 0, none⟩) 4 cap) { m with slots := layS m.slots tn (2, ⟨#[]⟩, tableO m (n / 4)) } val') := hL.mono fun r w' ⟨v, a1, a2, a3, a4, a5, _⟩ => ⟨v, a1, a2, a3, a4, a5⟩
   clear hL
   obtain ⟨MA, hMA⟩ : ∃ X : ImgD, { m with slots := layS m.slots tn (2, ⟨#[]⟩, tableO m (n / 4)) } = X := ⟨_, rfl⟩
   rw [hMA] at HL
   have hMg : MA.guest = m.guest := by rw [← hMA]
   have HMA : Hid ({ m with slots := tabL m (n / 4) (tableO m (n / 4)) } = MA ∧ MA.guest = m.guest) := ⟨by rw [← hMA]; unfold tabL; rw [HM1.out.2], hMg⟩
   clear hMA hMg
   refine wpAnyH_ready (rs := [10]) (by kernel_rfl) (by simp) ?_
   refine AllReadyH.cons rfl (fun K hK => ?_) AllReadyH.nil
   clear hHeld
   simp only [lays]
   rw [if_pos (by rfl)]
   go_wp2_with (go_at_call 42; refine HL.out.mono ?_; rintro e6 w5 ⟨val', rfl, hX5, b5, k5, s5⟩; obtain ⟨g0, h0, g1, h1, g2, h2, g3, h3, y0, y1, y2, y3⟩ := hX5.four'; unfold imgV; rw [y0, y1, y2, y3])
   have MX5 := cells_below MX4 b5 (by omega)
   have D5 := (k5 w3.heap.size (by omega) hfar).trans D4
   have cR5 := (b5.cell (p := ⟨rb, ro + n / 4, none⟩) rl1).trans cR4
   refine hK.out _ _ ⟨MX5, cR5⟩ (fun hHeld => ?_)
   clear hK K
   try simp only [lays]
   refine wpAnyH_ready (rs := [11]) (by kernel_rfl) (by simp) ?_
   refine AllReadyH.cons rfl (fun K hK => ?_) AllReadyH.nil
   clear hHeld
   simp only [lays]
   rw [if_pos (by rfl)]
   have bS := fun a0 a1 a2 a3 a4 => below_five (w := w5) (Below.refl w1.heap.size w5) hDw a0 a1 a2 a3 a4
   obtain ⟨v0, v1, v2, v3, v4⟩ := five D5
   have u0 := cells_frozen D5 0; have u1 := cells_frozen D5 1; have u2 := cells_frozen D5 2; have u3 := cells_frozen D5 3; have u4 := cells_frozen D5 4
   go_simp
   refine hK.out _ _ ⟨(heap_five _ _ _ _ _ _ (by omega)).trans MX5, ((bS _ _ _ _ _).cell (p := ⟨rb, ro + n / 4, none⟩) rl1).trans cR5⟩ (fun hHeld => ?_)
   clear hK K hHeld
   try simp only [lays]
   refine wpAnyH_done (by kernel_rfl) ?_ _
   go_wp2_with fail
   go_meet
   have hO := ow_call (Below.trans hbel (b4.mono hsB)) (by rw [x0, x1, x2, x3]; exact D4) HD2.out.ge hfar hX5 b5 k5 s5 (fun x => by have hx : g = w3.heap.size := Option.some.inj x; omega)
   rw [y0, y1, y2, y3, HMA.out.2] at hO
   rw [HMA.out.1]
   exact hO
 case rest =>
 have HD3 : Hid (OwR w1 wc w3.heap.size { m with slots := tabL m (n / 4) (tableO m (n / 4)) }) := hcut
 clear hcut HD2 hX hbox hfar hbel hbx x0 x1 x2 x3
 obtain ⟨wd, hwd⟩ : ∃ X, X = wc := ⟨_, rfl⟩
 subst hwd
 go_upto_region 17 with fail
 go_cut [] from 14 (fun wx => Hid (OwR w1 wx w3.heap.size M1))
 case first =>
  obtain ⟨val, hX, hbox, hfar⟩ := HD3.out.ex
  have hbel := HD3.out.bel
  obtain ⟨p0, q0, p1, q1, p2, q2, p3, q3, x0, x1, x2, x3⟩ := hX.four'
  have hbx := hbox
  rw [x0, x1, x2, x3] at hbx
  obtain ⟨d0, d1, d2, d3, d4⟩ := five hbx
  obtain ⟨ao, cap, xs, hg⟩ := hX.forms .root (LiveX.root _)
  obtain ⟨rg, rfl⟩ := hg (by show 0 < m.root.length; omega)
  rw [x0] at xs
  simp only [Value.slice.injEq] at xs
  obtain ⟨rfl, _, _⟩ := xs
  have hrow := hX.row .root (LiveX.root _)
  rw [x0] at hrow
  have hrow : wd.ownsRow w1.heap.size 3 1 (.slice (some ⟨rg, 0, none⟩) m.root.length q0) m.root.length (ints m.root) := hrow
  have hcl := (hrow.cellAt (n / 4) (by omega)).trans (show (ints m.root)[n / 4]? = some (.int .i64 (t : Int)) by unfold ints; rw [List.getElem?_map, List.getElem?_eq_getElem hr, ← HP.out.2.2.1]; simp [List.getD, hr])
  have hfz := hrow.frozenAt (n / 4)
  go_wp2_with fail
  go_meet
  have hO := ow_root hX hbel hbox HD3.out.ge hfar x0 (n / 4) (tn : Int)
  rw [← HM1.out.1]
  unfold wo1
  rw [HM1.out.2]
  exact hO
 case rest =>
 have HD4 : Hid (OwR w1 wc w3.heap.size M1) := hcut
 clear hcut HD3
 obtain ⟨we, hwe⟩ : ∃ X, X = wc := ⟨_, rfl⟩
 subst hwe
 obtain ⟨val, hX, hbox, hfar⟩ := HD4.out.ex
 have hbel := HD4.out.bel
 obtain ⟨p0, q0, p1, q1, p2, q2, p3, q3, x0, x1, x2, x3⟩ := hX.four'
 have hbx := hbox
 rw [x0, x1, x2, x3] at hbx
 obtain ⟨d0, d1, d2, d3, d4⟩ := five hbx
 have hS : Slots we (val .slots) M1.slots := Img.four (show Img we (.agg #[_, _, _, _, _]) M1 from hX.img) |>.2.1
 have hG := grabOf_wide hS HT.out.1 HT.out.2.1 HT.out.2.2
 rw [x1] at hG
 have hdn0 : ((dn : Int) == 0) = false := by have := HE.out.2.1; simp; omega
 go_upto_region 21 with (go_at_call 41; refine hG.mono ?_; rintro e4 w4 ⟨rfl, hw⟩; rw [hw]; clear hw)
 clear hG hS hdn0
 obtain ⟨M2, hM2⟩ : ∃ X : ImgD, { M1 with slots := layS M1.slots dn (1, page, []) } = X := ⟨_, rfl⟩
 have hL := layX_is M1.guest (k := 1) (d := page) (ev := .slice none 0 0) (es := []) hX hbel.size HE.out.1 (by have := HT.out.2.1; omega) (World.ownsRow_nil _ _ _ _) (farX_nil _ _ _ _ _)
 unfold imgV at hL
 rw [x0, x1, x2, x3, hM2] at hL
 have HL : Hid (Calls Tryz.prog 42 #[.agg #[.int .i64 M1.guest, .slice p0 M1.root.length q0, .slice p1 M1.slots.length q1, .slice p2 M1.refs.length q2, .slice p3 M1.snaps.length q3], .int .i64 (dn : Int), .agg #[.int .i64 1, .string page, .slice none 0 0]] we fun r w' => ∃ val', r = .returned (imgV M1.guest val') ∧ OX w' w1.heap.size val' M2 ∧ Below w1.heap.size we w' ∧ KeepX we w' M1 val ∧ SrcX we M1 val (.slice none 0 0) M2 val') := hL.mono fun r w' ⟨v, a1, a2, a3, a4, a5, _⟩ => ⟨v, a1, a2, a3, a4, a5⟩
 clear hL
 have HM2 : Hid ({ M1 with slots := layS M1.slots dn (1, page, []) } = M2 ∧ M2.guest = M1.guest) := ⟨hM2, by rw [← hM2]⟩
 clear hM2
 have hDl : w3.heap.size < we.heap.size := (szH hbx)
 go_cut [] from 14 (fun wx => Hid (OwR w1 wx w3.heap.size M2))
 case first =>
  go_wp2_with (go_at_call 42; refine HL.out.mono ?_; rintro e6 w5 ⟨val', rfl, hX5, b5, k5, s5⟩; obtain ⟨g0, h0, g1, h1, g2, h2, g3, h3, y0, y1, y2, y3⟩ := hX5.four'; have D5 := (k5 w3.heap.size hDl hfar).trans hbx; obtain ⟨v0, v1, v2, v3, v4⟩ := five D5; have u0 := cells_frozen D5 0; have u1 := cells_frozen D5 1; have u2 := cells_frozen D5 2; have u3 := cells_frozen D5 3; have u4 := cells_frozen D5 4; unfold imgV; rw [y0, y1, y2, y3])
  go_meet
  have hO := ow_call hbel hbox HD4.out.ge hfar hX5 b5 k5 s5 (fun x => by cases x)
  rw [y0, y1, y2, y3, HM2.out.2] at hO
  exact hO
 case rest =>
 have HD5 : Hid (OwR w1 wc w3.heap.size M2) := hcut
 clear hcut HD4 HL hX hbox hfar hbel hbx x0 x1 x2 x3 d0 d1 d2 d3 d4
 obtain ⟨wf, hwf⟩ : ∃ X, X = wc := ⟨_, rfl⟩
 subst hwf
 go_upto_region 22 with fail
 go_cut [] from 14 (fun wx => Hid (OwR w1 wx w3.heap.size M3))
 case first =>
  obtain ⟨val, hX, hbox, hfar⟩ := HD5.out.ex
  have hbel := HD5.out.bel
  obtain ⟨p0, q0, p1, q1, p2, q2, p3, q3, x0, x1, x2, x3⟩ := hX.four'
  have hbx := hbox
  rw [x0, x1, x2, x3] at hbx
  obtain ⟨d0, d1, d2, d3, d4⟩ := five hbx
  have hsl : M2.slots = layS M1.slots dn (1, page, []) := by rw [← HM2.out.1]
  have htl2 : tn < M2.slots.length := by rw [hsl]; exact HE.out.2.2.1
  have htb : M2.slots.getD tn default = (2, ⟨#[]⟩, tableO m (n / 4)) := by rw [hsl]; exact HE.out.2.2.2.1
  have htbl : tbl M2 tn = tableO m (n / 4) := by show (M2.slots.getD tn default).2.2 = _; rw [htb]
  have hnt : tbl M2 tn ≠ [] := fun x => by have := HP.out.2.2.2.2.2.1; rw [← htbl, x] at this; cases this
  obtain ⟨ao, cap, xs, hg⟩ := hX.forms .slots (LiveX.slots _)
  obtain ⟨sg, rfl⟩ := hg (by show 0 < M2.slots.length; omega)
  rw [x1] at xs
  simp only [Value.slice.injEq] at xs
  obtain ⟨rfl, _, _⟩ := xs
  have hrow := hX.row .slots (LiveX.slots _)
  rw [x1] at hrow
  have hrow : wf.ownsRow w1.heap.size 58 3 (.slice (some ⟨sg, 0, none⟩) M2.slots.length q1) M2.slots.length (flatS M2.slots (fun j => val (.tab j))) := hrow
  have hrt := hX.row (.tab tn) (LiveX.tab ⟨htl2, hnt⟩)
  have hrt : wf.ownsRow w1.heap.size 3 1 (val (.tab tn)) (tbl M2 tn).length (ints (tbl M2 tn)) := hrt
  rw [htbl, HP.out.2.2.2.2.2.1] at hrt
  obtain ⟨tg, tc, xt⟩ := row_some hrt
  rw [xt] at hrt
  have hcs := (hrow.cellAt (tn * 3 + 2) (by omega)).trans (flatS_get htl2).2.2
  have hcs : wf.cell? ⟨sg, tn * 3 + 2, none⟩ = some (.slice (some ⟨tg, 0, none⟩) 4 tc) := hcs.trans (congrArg some xt)
  obtain ⟨xo, hxo⟩ : ∃ x, (tableO m (n / 4)).getD (n % 4) 0 = x := ⟨_, rfl⟩
  have hct : wf.cell? ⟨tg, n % 4, none⟩ = some (.int .i64 xo) := by
   refine (hrt.cellAt (n % 4) (by omega)).trans ?_
   unfold ints
   rw [List.getElem?_map, List.getElem?_eq_getElem (by rw [HP.out.2.2.2.2.2.1]; exact h4), ← hxo]
   simp [List.getD, HP.out.2.2.2.2.2.1, h4]
  have hfz := hrt.frozenAt (n % 4)
  have htl2i : (tn : Int) < (M2.slots.length : Int) := by omega
  have HTB : Hid (M2.slots.getD tn default = (2, ⟨#[]⟩, tableO m (n / 4))) := htb
  clear hxo hsl htb htbl
  go_wp2_with fail
  go_meet
  have htb := HTB.out
  have hO := ow_tab hX hbel hbox HD5.out.ge hfar htl2 hnt xt (n % 4) (dn : Int)
  rw [htb] at hO
  have e3 : { M2 with slots := M2.slots.set tn (2, ⟨#[]⟩, (tableO m (n / 4)).set (n % 4) (dn : Int)) } = M3 := by
   rw [← HM2.out.1]
   show { M1 with slots := (layS M1.slots dn (1, page, [])).set tn (2, ⟨#[]⟩, (tableO m (n / 4)).set (n % 4) (dn : Int)) } = M3
   rw [HE.out.2.2.2.2]
   exact HM3.out.1
  rw [← e3]
  exact hO
 case rest =>
 have HD6 : Hid (OwR w1 wc w3.heap.size M3) := hcut
 clear hcut HD5
 obtain ⟨wg, hwg⟩ : ∃ X, X = wc := ⟨_, rfl⟩
 subst hwg
 obtain ⟨val, hX, hbox, hfar⟩ := HD6.out.ex
 have hbel := HD6.out.bel
 obtain ⟨p0, q0, p1, q1, p2, q2, p3, q3, x0, x1, x2, x3⟩ := hX.four'
 have hbx := hbox
 rw [x0, x1, x2, x3] at hbx
 obtain ⟨d0, d1, d2, d3, d4⟩ := five hbx
 have z9 := cells_below n1 hbel hz1
 obtain ⟨z0, z1, z2, z3, z4⟩ := five z9
 have y0 := cells_frozen z9 0; have y1 := cells_frozen z9 1; have y2 := cells_frozen z9 2; have y3 := cells_frozen z9 3; have y4 := cells_frozen z9 4
 have nD1 : ¬ w3.heap.size = w.heap.size + 1 := by omega
 have nD2 : ¬ w.heap.size + 1 = w3.heap.size := by omega
 have hc := countedX_is hX hbel.size HM3.out.2
 unfold imgV at hc
 rw [x0, x1, x2, x3] at hc
 have HCt : Hid (Calls Tryz.prog 44 #[.agg #[.int .i64 M3.guest, .slice p0 M3.root.length q0, .slice p1 M3.slots.length q1, .slice p2 M3.refs.length q2, .slice p3 M3.snaps.length q3]] wg fun r w' => ∃ val', r = .returned (imgV M3.guest val') ∧ OX w' w1.heap.size val' (countedD M3) ∧ Below w1.heap.size wg w' ∧ KeepX wg w' M3 val ∧ SrcX wg M3 val (.slice none 0 0) (countedD M3) val') := hc
 have hzl : w.heap.size + 1 < wg.heap.size := Nat.lt_of_lt_of_le hz1 hbel.size
 have hfz : ∀ a, LiveX M3 a → (val a).ownBlock ≠ some (w.heap.size + 1) := fun a ha x => by have := ((hX.row a ha).lt _ x).1; omega
 clear hc
 go_wp2_with (go_at_call 44; refine HCt.out.mono ?_; rintro e7 w7 ⟨val2, rfl, hO7, b7, k7, s7⟩; obtain ⟨u0, v0, u1, v1, u2, v2, u3, v3, j0, j1, j2, j3⟩ := hO7.four'; have k17 := (k7 (w.heap.size + 1) hzl hfz).trans z9; obtain ⟨o0, o1, o2, o3, o4⟩ := five k17; have oo0 := cells_frozen k17 0; have oo1 := cells_frozen k17 1; have oo2 := cells_frozen k17 2; have oo3 := cells_frozen k17 3; have oo4 := cells_frozen k17 4; unfold imgV; rw [j0, j1, j2, j3])
 have hfr : ∀ a, LiveX (countedD M3) a → (val2 a).ownBlock ≠ some (w.heap.size + 1) := fun a ha x => by
  have := ((hO7.row a ha).lt _ x).1
  omega
 have hI := fun x0 x1 x2 x3 x4 => hO7.five hfr x0 x1 x2 x3 x4
 have eI : imgV (countedD M3).guest val2 = .agg #[.int .i64 M3.guest, .slice u0 (countedD M3).root.length v0, .slice u1 (countedD M3).slots.length v1, .slice u2 (countedD M3).refs.length v2, .slice u3 (countedD M3).snaps.length v3] := by unfold imgV; rw [j0, j1, j2, j3]; rfl
 have hB8 : Below w.heap.size w w7 := (Below.on bw hbel).trans (b7.mono (by omega))
 refine bodyPost_ret (v := .tuple #[.agg #[.int .i64 M3.guest, .slice u0 (countedD M3).root.length v0, .slice u1 (countedD M3).slots.length v1, .slice u2 (countedD M3).refs.length v2, .slice u3 (countedD M3).snaps.length v3], .int .i64 0]) (by simp [results, Tryz.results21, go_sem, o0, o1, o2, o3, o4]) rfl ⟨u0, v0, u1, v1, u2, v2, u3, v3, rfl, fun W' hW => (by have := ((hI _ _ _ _ _).keep (fun q hq _ => hW q (by omega))).img; rw [eI] at this; exact this), below_five hB8 (Nat.le_succ _) _ _ _ _ _⟩
theorem wo_lf (rb ro rc : Nat) (sa : Option Addr) (sc : Nat) (fb fo fc : Nat) (na : Option Addr) (nc : Nat) (m : ImgD) (n : Nat) (page : ByteArray) (w : World) (h : Img w (.agg #[.int .i64 m.guest, .slice (some ⟨rb, ro, none⟩) m.root.length rc, .slice sa m.slots.length sc, .slice (some ⟨fb, fo, none⟩) m.refs.length fc, .slice na m.snaps.length nc]) m) (hrc : ∀ j, j < m.root.length → w.cell? ⟨rb, ro + j, none⟩ = some (.int .i64 (m.root.getD j 0))) (hrl : rb < w.heap.size) (hfc : ∀ j, j < m.refs.length → w.cell? ⟨fb, fo + j, none⟩ = some (.int .i64 (m.refs.getD j 0))) (hfl : fb < w.heap.size) (hC : checkE m = 0) (hn : (n : Int) < m.guest) (hp : page.size = 4) (t : Nat) (ht : m.root.getD (n / 4) 0 = (t : Int)) (e : Int) (he : lookV m m.root n = e) (tn dn : Nat) (htn : tabN m (n / 4) = tn) (M1 : ImgD) (hM1 : wo1 m n = M1) (ht1 : 1 ≤ t) (hrt1 : m.refs.getD t 0 = 1) (hnot : 0 < e → e.toNat < m.slots.length ∧ m.refs.getD e.toNat 0 ≠ 1) (hLo : inPl m (n / 4) = true) (htt : t = tn) (HT : Hid (1 ≤ M1.slots.length ∧ M1.slots.length ≤ 40 ∧ (if grabN M1.slots = 40 then (0 : Int) else grabN M1.slots) = 0)) :
  Calls Tryz.prog 21 #[.agg #[.int .i64 m.guest, .slice (some ⟨rb, ro, none⟩) m.root.length rc, .slice sa m.slots.length sc, .slice (some ⟨fb, fo, none⟩) m.refs.length fc, .slice na m.snaps.length nc], .int .i64 (n : Int), .string page] w (AnsJ w imgZ 7) := by
 have b0 : Below w.heap.size w ((w.alloc (.cells #[.int .i64 m.guest, .slice (some ⟨rb, ro, none⟩) m.root.length rc, .slice sa m.slots.length sc, .slice (some ⟨fb, fo, none⟩) m.refs.length fc, .slice na m.snaps.length nc] 27)).alloc (.cells #[.int .i64 0, .slice none 0 0, .slice none 0 0, .slice none 0 0, .slice none 0 0] 27)) := ((Below.refl _ _).alloc (Nat.le_refl _) _).alloc (by simp) _
 have m0 : ((w.alloc (.cells #[.int .i64 m.guest, .slice (some ⟨rb, ro, none⟩) m.root.length rc, .slice sa m.slots.length sc, .slice (some ⟨fb, fo, none⟩) m.refs.length fc, .slice na m.snaps.length nc] 27)).alloc (.cells #[.int .i64 0, .slice none 0 0, .slice none 0 0, .slice none 0 0, .slice none 0 0] 27)).heap[w.heap.size]? = some (.cells #[.int .i64 m.guest, .slice (some ⟨rb, ro, none⟩) m.root.length rc, .slice sa m.slots.length sc, .slice (some ⟨fb, fo, none⟩) m.refs.length fc, .slice na m.snaps.length nc] 27) := cells_alloc (World.alloc_heap_new _ _) _
 have m1 : ((w.alloc (.cells #[.int .i64 m.guest, .slice (some ⟨rb, ro, none⟩) m.root.length rc, .slice sa m.slots.length sc, .slice (some ⟨fb, fo, none⟩) m.refs.length fc, .slice na m.snaps.length nc] 27)).alloc (.cells #[.int .i64 0, .slice none 0 0, .slice none 0 0, .slice none 0 0, .slice none 0 0] 27)).heap[w.heap.size + 1]? = some (.cells #[.int .i64 0, .slice none 0 0, .slice none 0 0, .slice none 0 0, .slice none 0 0] 27) := by have := World.alloc_heap_new (w.alloc (.cells #[.int .i64 m.guest, .slice (some ⟨rb, ro, none⟩) m.root.length rc, .slice sa m.slots.length sc, .slice (some ⟨fb, fo, none⟩) m.refs.length fc, .slice na m.snaps.length nc] 27)) (.cells #[.int .i64 0, .slice none 0 0, .slice none 0 0, .slice none 0 0, .slice none 0 0] 27); simpa using this
 have hsz : w.heap.size + 1 < ((w.alloc (.cells #[.int .i64 m.guest, .slice (some ⟨rb, ro, none⟩) m.root.length rc, .slice sa m.slots.length sc, .slice (some ⟨fb, fo, none⟩) m.refs.length fc, .slice na m.snaps.length nc] 27)).alloc (.cells #[.int .i64 0, .slice none 0 0, .slice none 0 0, .slice none 0 0, .slice none 0 0] 27)).heap.size := by simp
 have hs := checkE_shape hC
 have hgt := guest_ok hs
 have hrt := root_ok hs
 have hr : n / 4 < m.root.length := by omega
 have htl : t < m.slots.length := by obtain ⟨t', ht', h'⟩ := root_nat hs hr; omega
 have hrf : m.refs.length = m.slots.length := (shapeE_zero hs).2.2.1
 have hlen : (tableO m (n / 4)).length = 4 := ckE_len (tableO_ok hs hr).1
 have I0 := h.below b0
 have hlk := lookErr_is I0 (n : Int) (lookE_of hC hn)
 have e4 : ((n / 4 : Nat) : Int) = (n : Int) / 4 := by omega
 have hq1 : ((n : Int) / 4).toNat = n / 4 := by omega
 have hq2 : ((n : Int) % 4).toNat = n % 4 := by omega
 have hri : (n : Int) / 4 < (m.root.length : Int) := by omega
 have h4 : n % 4 < 4 := by omega
 have h4i : (n : Int) % 4 < 4 := by omega
 have h16 : n < 16 := by omega
 have h0q : ¬ (n : Int) / 4 < 0 := by omega
 have h0r : ¬ (n : Int) % 4 < 0 := by omega
 have h0a : 0 ≤ (n : Int) / 4 := by omega
 have h0b : 0 ≤ (n : Int) % 4 := by omega
 have hpz : ((page.size : Int) != 4) = false := by rw [hp]; rfl
 have HR0 : Hid (((w.alloc (.cells #[.int .i64 m.guest, .slice (some ⟨rb, ro, none⟩) m.root.length rc, .slice sa m.slots.length sc, .slice (some ⟨fb, fo, none⟩) m.refs.length fc, .slice na m.snaps.length nc] 27)).alloc (.cells #[.int .i64 0, .slice none 0 0, .slice none 0 0, .slice none 0 0, .slice none 0 0] 27)).cell? ⟨rb, ro + n / 4, none⟩ = some (.int .i64 (t : Int)) ∧ rb < ((w.alloc (.cells #[.int .i64 m.guest, .slice (some ⟨rb, ro, none⟩) m.root.length rc, .slice sa m.slots.length sc, .slice (some ⟨fb, fo, none⟩) m.refs.length fc, .slice na m.snaps.length nc] 27)).alloc (.cells #[.int .i64 0, .slice none 0 0, .slice none 0 0, .slice none 0 0, .slice none 0 0] 27)).heap.size) := ⟨by rw [← ht]; exact (b0.cell (p := ⟨rb, ro + n / 4, none⟩) hrl).trans (hrc (n / 4) hr), Nat.lt_of_lt_of_le hrl b0.size⟩
 have HF0 : Hid (∀ j, j < m.refs.length → ((w.alloc (.cells #[.int .i64 m.guest, .slice (some ⟨rb, ro, none⟩) m.root.length rc, .slice sa m.slots.length sc, .slice (some ⟨fb, fo, none⟩) m.refs.length fc, .slice na m.snaps.length nc] 27)).alloc (.cells #[.int .i64 0, .slice none 0 0, .slice none 0 0, .slice none 0 0, .slice none 0 0] 27)).cell? ⟨fb, fo + j, none⟩ = some (.int .i64 (m.refs.getD j 0)) ∧ fb < ((w.alloc (.cells #[.int .i64 m.guest, .slice (some ⟨rb, ro, none⟩) m.root.length rc, .slice sa m.slots.length sc, .slice (some ⟨fb, fo, none⟩) m.refs.length fc, .slice na m.snaps.length nc] 27)).alloc (.cells #[.int .i64 0, .slice none 0 0, .slice none 0 0, .slice none 0 0, .slice none 0 0] 27)).heap.size) := fun j hj => ⟨(b0.cell (p := ⟨fb, fo + j, none⟩) hfl).trans (hfc j hj), Nat.lt_of_lt_of_le hfl b0.size⟩
 have HP : Hid (checkE m = 0 ∧ shapeE m = 0 ∧ m.root.getD (n / 4) 0 = (t : Int) ∧ lookV m m.root n = e ∧ (n : Int) < m.guest ∧ (tableO m (n / 4)).length = 4 ∧ m.refs.length = m.slots.length ∧ page.size = 4) := ⟨hC, hs, ht, he, hn, hlen, hrf, hp⟩
 clear h hrc hrl hfc hfl hC hs hgt hrt hn ht he hlen hrf hp
 have HM1 : Hid (wo1 m n = M1 ∧ tabN m (n / 4) = tn) := ⟨hM1, htn⟩
 clear hM1 htn
 have HLo : Hid (inPl m (n / 4) = true) := hLo
 have HTT : Hid (t = tn) := htt
 clear hLo htt
 go_enter Tryz.func21, Tryz.ntmps21
 obtain ⟨c0, c1, c2, c3, c4⟩ := five m0
 go_wp2_with (go_at_call 18; refine hlk.mono ?_; rintro e1 w1 ⟨rfl, b1⟩)
 clear c0 c1 c2 c3 c4
 have hz1 : w.heap.size + 1 < w1.heap.size := Nat.lt_of_lt_of_le hsz b1.size
 have n0 := cells_below m0 b1 (by omega)
 have n1 := cells_below m1 b1 hsz
 have I1 := I0.below b1
 have bw : Below w.heap.size w w1 := Below.on b0 b1
 have cR : w1.cell? ⟨rb, ro + n / 4, none⟩ = some (.int .i64 (t : Int)) := (b1.cell (p := ⟨rb, ro + n / 4, none⟩) HR0.out.2).trans HR0.out.1
 have rl1 : rb < w1.heap.size := Nat.lt_of_lt_of_le HR0.out.2 b1.size
 have HF : Hid (∀ j, j < m.refs.length → w1.cell? ⟨fb, fo + j, none⟩ = some (.int .i64 (m.refs.getD j 0)) ∧ fb < w1.heap.size) := fun j hj => ⟨(b1.cell (p := ⟨fb, fo + j, none⟩) (HF0.out j hj).2).trans (HF0.out j hj).1, Nat.lt_of_lt_of_le (HF0.out j hj).2 b1.size⟩
 have HLk : Hid (∀ W, Below w1.heap.size w1 W → Calls Tryz.prog 19 #[.agg #[.int .i64 m.guest, .slice (some ⟨rb, ro, none⟩) m.root.length rc, .slice sa m.slots.length sc, .slice (some ⟨fb, fo, none⟩) m.refs.length fc, .slice na m.snaps.length nc], .int .i64 (n : Int)] W fun r w' => r = .returned (.int .i64 e) ∧ Below W.heap.size W w') := fun W hW => lookOf_is (I1.below hW) (n : Int) (lookE_of HP.out.1 HP.out.2.2.2.2.1) (by rw [Int.toNat_natCast]; exact HP.out.2.2.2.1)
 have HOw : Hid (∀ W, Below w1.heap.size w1 W → Calls Tryz.prog 40 #[.agg #[.int .i64 m.guest, .slice (some ⟨rb, ro, none⟩) m.root.length rc, .slice sa m.slots.length sc, .slice (some ⟨fb, fo, none⟩) m.refs.length fc, .slice na m.snaps.length nc]] W fun r w' => ∃ val, r = .returned (imgV m.guest val) ∧ OX w' W.heap.size val m ∧ Below W.heap.size W w') := fun W hW => ownImage_is (I1.below hW) HP.out.2.1
 have HTb : Hid (∀ W, Below w1.heap.size w1 W → Calls Tryz.prog 43 #[.agg #[.int .i64 m.guest, .slice (some ⟨rb, ro, none⟩) m.root.length rc, .slice sa m.slots.length sc, .slice (some ⟨fb, fo, none⟩) m.refs.length fc, .slice na m.snaps.length nc], .int .i64 (t : Int)] W fun r w' => ∃ g cap, r = .returned (.slice (some ⟨g, 0, none⟩) 4 cap) ∧ w'.ownsRow W.heap.size 3 1 (.slice (some ⟨g, 0, none⟩) 4 cap) 4 (ints (tableO m (n / 4))) ∧ W.heap.size ≤ g ∧ Below W.heap.size W w') := fun W hW => by
  have e := tabAt_O HP.out.2.2.1
  refine (tableOf_is (I1.below hW) htl (by rw [e, HP.out.2.2.2.2.2.1]; decide)).mono ?_
  rintro r w' ⟨v, rfl, h1, h2, h3⟩
  rw [e, HP.out.2.2.2.2.2.1] at h1
  obtain ⟨g, cap, rfl⟩ := row_some h1
  exact ⟨g, cap, rfl, h1, h2 g rfl, h3⟩
 clear b0 b1 m0 m1 I0 I1 HR0 HF0 hlk hsz
 refine wp_region_held_drew (S := (fun X : World => X.heap[w.heap.size]? = some (.cells #[.int .i64 m.guest, .slice (some ⟨rb, ro, none⟩) m.root.length rc, .slice sa m.slots.length sc, .slice (some ⟨fb, fo, none⟩) m.refs.length fc, .slice na m.snaps.length nc] 27) ∧ X.cell? ⟨rb, ro + n / 4, none⟩ = some (.int .i64 (t : Int)))) (by kernel_rfl) ⟨n0, cR⟩ (fun hHeld => ?_)
 refine tkH 0 (.pointer (some ⟨w.heap.size, 1, none⟩)) rfl (Or.inl ⟨by rfl, fun w' hSw => by obtain ⟨qa, qb⟩ := hSw; obtain ⟨j0, j1, j2, j3, j4⟩ := five qa; go_simp⟩) hHeld ?_
 simp only [lays]
 refine tkH 1 (.slice (some ⟨rb, ro, none⟩) m.root.length rc) rfl (Or.inl ⟨by rfl, fun w' hSw => by obtain ⟨qa, qb⟩ := hSw; obtain ⟨j0, j1, j2, j3, j4⟩ := five qa; go_simp⟩) hHeld ?_
 simp only [lays]
 refine tkH 2 (.int .i64 ((n : Int) / 4)) rfl (Or.inl ⟨by rfl, fun w' hSw => by obtain ⟨qa, qb⟩ := hSw; obtain ⟨j0, j1, j2, j3, j4⟩ := five qa; go_simp⟩) hHeld ?_
 simp only [lays]
 refine tkH 3 (.pointer (some ⟨rb, ro + n / 4, none⟩)) rfl (Or.inl ⟨by rfl, fun w' hSw => by obtain ⟨qa, qb⟩ := hSw; obtain ⟨j0, j1, j2, j3, j4⟩ := five qa; go_simp⟩) hHeld ?_
 simp only [lays]
 refine tkH 4 (.int .i64 (t : Int)) rfl (Or.inl ⟨by rfl, fun w' hSw => by obtain ⟨qa, qb⟩ := hSw; obtain ⟨j0, j1, j2, j3, j4⟩ := five qa; go_simp⟩) hHeld ?_
 simp only [lays]
 refine tkH 5 (.agg #[.int .i64 m.guest, .slice (some ⟨rb, ro, none⟩) m.root.length rc, .slice sa m.slots.length sc, .slice (some ⟨fb, fo, none⟩) m.refs.length fc, .slice na m.snaps.length nc]) rfl (Or.inl ⟨by rfl, fun w' hSw => by obtain ⟨qa, qb⟩ := hSw; obtain ⟨j0, j1, j2, j3, j4⟩ := five qa; go_simp⟩) hHeld ?_
 simp only [lays]
 refine tkH 6 (.int .i64 (n : Int)) rfl (Or.inl ⟨by rfl, fun w' hSw => by obtain ⟨qa, qb⟩ := hSw; obtain ⟨j0, j1, j2, j3, j4⟩ := five qa; go_simp⟩) hHeld ?_
 simp only [lays]
 refine wpAnyH_ready (rs := [7]) (by kernel_rfl) (by simp) ?_
 refine AllReadyH.cons rfl (fun K hK => ?_) AllReadyH.nil
 clear hHeld
 simp only [lays]
 rw [if_pos (by rfl)]
 go_wp2_with (go_at_call 19; refine (HLk.out _ (to_drew (Below.refl _ _))).mono ?_; rintro e2 w2 ⟨rfl, b2⟩)
 have b2 : Below w1.heap.size w1 w2 := below_drew b2
 have k0 := cells_below n0 b2 (by omega)
 have cR2 := (b2.cell (p := ⟨rb, ro + n / 4, none⟩) rl1).trans cR
 refine hK.out _ _ ⟨k0, cR2⟩ (fun hHeld => ?_)
 clear hK K
 try simp only [lays]
 refine tkH 8 (.int .i64 (t : Int)) rfl (Or.inl ⟨by rfl, fun w' hSw => by go_simp⟩) hHeld ?_
 simp only [lays]
 refine tkH 9 (.int .i64 e) rfl (Or.inl ⟨by rfl, fun w' hSw => by go_simp⟩) hHeld ?_
 simp only [lays]
 clear hHeld
 refine wpAnyH_done (by kernel_rfl) ?_ _
 obtain ⟨c0, c1, c2, c3, c4⟩ := five k0
 go_upto_region 9 with (go_at_call 40; refine (HOw.out w2 b2).mono ?_; rintro e3 w3 ⟨val, rfl, hO, b3⟩; obtain ⟨p0, q0, p1, q1, p2, q2, p3, q3, x0, x1, x2, x3⟩ := hO.four'; unfold imgV; rw [x0, x1, x2, x3])
 have s2 := b2.size
 have s3 := b3.size
 have HD0 : Hid (OwR w1 (w3.alloc (.cells #[.int .i64 m.guest, .slice p0 m.root.length q0, .slice p1 m.slots.length q1, .slice p2 m.refs.length q2, .slice p3 m.snaps.length q3] 27)) w3.heap.size m) := ⟨⟨val, (hO.mono s2).alloc _, by rw [x0, x1, x2, x3]; exact World.alloc_heap_new _ _, hO.lt (Nat.le_refl _)⟩, by omega, (b2.trans (b3.mono s2)).alloc (by omega) _⟩
 clear hO x0 x1 x2 x3 c0 c1 c2 c3 c4 k0 cR2 HLk HOw
 have M0 := cells_below n0 HD0.out.bel (by omega)
 obtain ⟨c0, c1, c2, c3, c4⟩ := five M0
 have HF3 : Hid (∀ j, j < m.refs.length → (w3.alloc (.cells #[.int .i64 m.guest, .slice p0 m.root.length q0, .slice p1 m.slots.length q1, .slice p2 m.refs.length q2, .slice p3 m.snaps.length q3] 27)).cell? ⟨fb, fo + j, none⟩ = some (.int .i64 (m.refs.getD j 0))) := fun j hj => (HD0.out.bel.cell (p := ⟨fb, fo + j, none⟩) (HF.out j hj).2).trans (HF.out j hj).1
 clear b2 b3 M0
 have hDw : w1.heap.size ≤ w3.heap.size := HD0.out.ge
 go_cut [54] from 14 (fun s wx => s = .bool false ∧ Hid (OwR w1 wx w3.heap.size m))
 case first =>
  by_cases hpos : 0 < e
  ·obtain ⟨en, rfl⟩ := Int.eq_ofNat_of_zero_le (Int.le_of_lt hpos)
   have g1 : decide (0 < (en : Int)) = true := by simpa using hpos
   have ct := HF3.out t (by have := HP.out.2.2.2.2.2.2.1; omega)
   have l1 : (t : Int) < (m.refs.length : Int) := by have := HP.out.2.2.2.2.2.2.1; omega
   rw [hrt1] at ct
   obtain ⟨hel, hre⟩ := hnot hpos
   rw [Int.toNat_natCast] at hel hre
   have ce := HF3.out en (by have := HP.out.2.2.2.2.2.2.1; omega)
   obtain ⟨xe, hxe⟩ : ∃ x, m.refs.getD en 0 = x := ⟨_, rfl⟩
   rw [hxe] at ce hre
   have l2 : (en : Int) < (m.refs.length : Int) := by have := HP.out.2.2.2.2.2.2.1; omega
   have g3 : (xe == 1) = false := by simpa using hre
   clear hre hxe hnot
   go_wp2_with fail; go_meet; exact ⟨rfl, HD0⟩
  ·have g1 : decide (0 < e) = false := by simpa using hpos
   go_wp2_with fail; go_meet; exact ⟨rfl, HD0⟩
 case rest =>
 obtain ⟨rfl, HD1⟩ := hcut
 clear HD0 HF3 c0 c1 c2 c3 c4
 obtain ⟨wa, hwa⟩ : ∃ X, X = wc := ⟨_, rfl⟩
 subst hwa
 go_upto_region 12 with fail
 have M0 := cells_below n0 HD1.out.bel (by omega)
 obtain ⟨c0, c1, c2, c3, c4⟩ := five M0
 have HF1 : Hid (∀ j, j < m.refs.length → wa.cell? ⟨fb, fo + j, none⟩ = some (.int .i64 (m.refs.getD j 0))) := fun j hj => (HD1.out.bel.cell (p := ⟨fb, fo + j, none⟩) (HF.out j hj).2).trans (HF.out j hj).1
 go_cut [71] from 14 (fun s wx => s = .bool false ∧ Hid (OwR w1 wx w3.heap.size m))
 case first =>
  have g1 : ((t : Int) == 0) = false := by simp; omega
  have ct := HF1.out t (by have := HP.out.2.2.2.2.2.2.1; omega)
  rw [hrt1] at ct
  have l1 : (t : Int) < (m.refs.length : Int) := by have := HP.out.2.2.2.2.2.2.1; omega
  go_wp2_with fail; go_meet; exact ⟨rfl, HD1⟩
 case rest =>
 obtain ⟨rfl, HD2⟩ := hcut
 clear HD1 HF1 M0 c0 c1 c2 c3 c4
 obtain ⟨wb, hwb⟩ : ∃ X, X = wc := ⟨_, rfl⟩
 subst hwb
 rw [HTT.out]
 have HD4 : Hid (OwR w1 wb w3.heap.size M1) := by
  show OwR w1 wb w3.heap.size M1
  rw [← HM1.out.1, wo1_lone HP.out.1 hr HLo.out]
  exact HD2.out
 clear HD2
 obtain ⟨we, hwe⟩ : ∃ X, X = wb := ⟨_, rfl⟩
 subst hwe
 obtain ⟨val, hX, hbox, hfar⟩ := HD4.out.ex
 have hbel := HD4.out.bel
 obtain ⟨p0, q0, p1, q1, p2, q2, p3, q3, x0, x1, x2, x3⟩ := hX.four'
 have hbx := hbox
 rw [x0, x1, x2, x3] at hbx
 obtain ⟨d0, d1, d2, d3, d4⟩ := five hbx
 have hS : Slots we (val .slots) M1.slots := Img.four (show Img we (.agg #[_, _, _, _, _]) M1 from hX.img) |>.2.1
 have hG := grabOf_wide hS HT.out.1 HT.out.2.1 HT.out.2.2
 rw [x1] at hG
 have z9 := cells_below n1 hbel hz1
 obtain ⟨z0, z1, z2, z3, z4⟩ := five z9
 have y0 := cells_frozen z9 0; have y1 := cells_frozen z9 1; have y2 := cells_frozen z9 2; have y3 := cells_frozen z9 3; have y4 := cells_frozen z9 4
 have nD1 : ¬ w3.heap.size = w.heap.size + 1 := by omega
 have nD2 : ¬ w.heap.size + 1 = w3.heap.size := by omega
 clear hX hbox hfar hbx HTb cR rl1 HF
 go_wp2_with (go_at_call 41; refine hG.mono ?_; rintro e4 w4 ⟨rfl, hw⟩; rw [hw]; clear hw)
 have hBz : Below w.heap.size w we := Below.on bw HD4.out.bel
 refine bodyPost_ret (v := .tuple #[.agg #[.int .i64 0, .slice none 0 0, .slice none 0 0, .slice none 0 0, .slice none 0 0], .int .i64 7]) (by simp [results, Tryz.results21, go_sem, z0, z1, z2, z3, z4]) rfl ⟨none, 0, none, 0, none, 0, none, 0, rfl, fun W' _ => imgZ_im W', below_five hBz (Nat.le_succ _) _ _ _ _ _⟩
set_option maxHeartbeats 16000000 in
theorem wo_lk (rb ro rc : Nat) (sa : Option Addr) (sc : Nat) (fb fo fc : Nat) (na : Option Addr) (nc : Nat) (m : ImgD) (n : Nat) (page : ByteArray) (w : World) (h : Img w (.agg #[.int .i64 m.guest, .slice (some ⟨rb, ro, none⟩) m.root.length rc, .slice sa m.slots.length sc, .slice (some ⟨fb, fo, none⟩) m.refs.length fc, .slice na m.snaps.length nc]) m) (hrc : ∀ j, j < m.root.length → w.cell? ⟨rb, ro + j, none⟩ = some (.int .i64 (m.root.getD j 0))) (hrl : rb < w.heap.size) (hfc : ∀ j, j < m.refs.length → w.cell? ⟨fb, fo + j, none⟩ = some (.int .i64 (m.refs.getD j 0))) (hfl : fb < w.heap.size) (hC : checkE m = 0) (hn : (n : Int) < m.guest) (hp : page.size = 4) (t : Nat) (ht : m.root.getD (n / 4) 0 = (t : Int)) (e : Int) (he : lookV m m.root n = e) (tn dn : Nat) (htn : tabN m (n / 4) = tn) (M1 : ImgD) (hM1 : wo1 m n = M1) (ht1 : 1 ≤ t) (hrt1 : m.refs.getD t 0 = 1) (hnot : 0 < e → e.toNat < m.slots.length ∧ m.refs.getD e.toNat 0 ≠ 1) (hLo : inPl m (n / 4) = true) (htt : t = tn) (HT : Hid (1 ≤ M1.slots.length ∧ M1.slots.length ≤ 40 ∧ (if grabN M1.slots = 40 then (0 : Int) else grabN M1.slots) = (dn : Int))) (HE : Hid (dn ≤ M1.slots.length ∧ 1 ≤ dn ∧ tn < (layS M1.slots dn (1, page, [])).length ∧ (layS M1.slots dn (1, page, [])).getD tn default = (2, ⟨#[]⟩, tableO m (n / 4)) ∧ (layS M1.slots dn (1, page, [])).set tn (2, ⟨#[]⟩, (tableO m (n / 4)).set (n % 4) (dn : Int)) = wL m n page)) (M3 : ImgD) (HM3 : Hid ({ M1 with slots := wL m n page } = M3 ∧ shapeE { M3 with refs := rfZ M3.slots } = 0)) :
  Calls Tryz.prog 21 #[.agg #[.int .i64 m.guest, .slice (some ⟨rb, ro, none⟩) m.root.length rc, .slice sa m.slots.length sc, .slice (some ⟨fb, fo, none⟩) m.refs.length fc, .slice na m.snaps.length nc], .int .i64 (n : Int), .string page] w (AnsJ w (countedD M3) 0) := by
 have b0 : Below w.heap.size w ((w.alloc (.cells #[.int .i64 m.guest, .slice (some ⟨rb, ro, none⟩) m.root.length rc, .slice sa m.slots.length sc, .slice (some ⟨fb, fo, none⟩) m.refs.length fc, .slice na m.snaps.length nc] 27)).alloc (.cells #[.int .i64 0, .slice none 0 0, .slice none 0 0, .slice none 0 0, .slice none 0 0] 27)) := ((Below.refl _ _).alloc (Nat.le_refl _) _).alloc (by simp) _
 have m0 : ((w.alloc (.cells #[.int .i64 m.guest, .slice (some ⟨rb, ro, none⟩) m.root.length rc, .slice sa m.slots.length sc, .slice (some ⟨fb, fo, none⟩) m.refs.length fc, .slice na m.snaps.length nc] 27)).alloc (.cells #[.int .i64 0, .slice none 0 0, .slice none 0 0, .slice none 0 0, .slice none 0 0] 27)).heap[w.heap.size]? = some (.cells #[.int .i64 m.guest, .slice (some ⟨rb, ro, none⟩) m.root.length rc, .slice sa m.slots.length sc, .slice (some ⟨fb, fo, none⟩) m.refs.length fc, .slice na m.snaps.length nc] 27) := cells_alloc (World.alloc_heap_new _ _) _
 have m1 : ((w.alloc (.cells #[.int .i64 m.guest, .slice (some ⟨rb, ro, none⟩) m.root.length rc, .slice sa m.slots.length sc, .slice (some ⟨fb, fo, none⟩) m.refs.length fc, .slice na m.snaps.length nc] 27)).alloc (.cells #[.int .i64 0, .slice none 0 0, .slice none 0 0, .slice none 0 0, .slice none 0 0] 27)).heap[w.heap.size + 1]? = some (.cells #[.int .i64 0, .slice none 0 0, .slice none 0 0, .slice none 0 0, .slice none 0 0] 27) := by have := World.alloc_heap_new (w.alloc (.cells #[.int .i64 m.guest, .slice (some ⟨rb, ro, none⟩) m.root.length rc, .slice sa m.slots.length sc, .slice (some ⟨fb, fo, none⟩) m.refs.length fc, .slice na m.snaps.length nc] 27)) (.cells #[.int .i64 0, .slice none 0 0, .slice none 0 0, .slice none 0 0, .slice none 0 0] 27); simpa using this
 have hsz : w.heap.size + 1 < ((w.alloc (.cells #[.int .i64 m.guest, .slice (some ⟨rb, ro, none⟩) m.root.length rc, .slice sa m.slots.length sc, .slice (some ⟨fb, fo, none⟩) m.refs.length fc, .slice na m.snaps.length nc] 27)).alloc (.cells #[.int .i64 0, .slice none 0 0, .slice none 0 0, .slice none 0 0, .slice none 0 0] 27)).heap.size := by simp
 have hs := checkE_shape hC
 have hgt := guest_ok hs
 have hrt := root_ok hs
 have hr : n / 4 < m.root.length := by omega
 have htl : t < m.slots.length := by obtain ⟨t', ht', h'⟩ := root_nat hs hr; omega
 have hrf : m.refs.length = m.slots.length := (shapeE_zero hs).2.2.1
 have hlen : (tableO m (n / 4)).length = 4 := ckE_len (tableO_ok hs hr).1
 have I0 := h.below b0
 have hlk := lookErr_is I0 (n : Int) (lookE_of hC hn)
 have e4 : ((n / 4 : Nat) : Int) = (n : Int) / 4 := by omega
 have hq1 : ((n : Int) / 4).toNat = n / 4 := by omega
 have hq2 : ((n : Int) % 4).toNat = n % 4 := by omega
 have hri : (n : Int) / 4 < (m.root.length : Int) := by omega
 have h4 : n % 4 < 4 := by omega
 have h4i : (n : Int) % 4 < 4 := by omega
 have h16 : n < 16 := by omega
 have h0q : ¬ (n : Int) / 4 < 0 := by omega
 have h0r : ¬ (n : Int) % 4 < 0 := by omega
 have h0a : 0 ≤ (n : Int) / 4 := by omega
 have h0b : 0 ≤ (n : Int) % 4 := by omega
 have hpz : ((page.size : Int) != 4) = false := by rw [hp]; rfl
 have HR0 : Hid (((w.alloc (.cells #[.int .i64 m.guest, .slice (some ⟨rb, ro, none⟩) m.root.length rc, .slice sa m.slots.length sc, .slice (some ⟨fb, fo, none⟩) m.refs.length fc, .slice na m.snaps.length nc] 27)).alloc (.cells #[.int .i64 0, .slice none 0 0, .slice none 0 0, .slice none 0 0, .slice none 0 0] 27)).cell? ⟨rb, ro + n / 4, none⟩ = some (.int .i64 (t : Int)) ∧ rb < ((w.alloc (.cells #[.int .i64 m.guest, .slice (some ⟨rb, ro, none⟩) m.root.length rc, .slice sa m.slots.length sc, .slice (some ⟨fb, fo, none⟩) m.refs.length fc, .slice na m.snaps.length nc] 27)).alloc (.cells #[.int .i64 0, .slice none 0 0, .slice none 0 0, .slice none 0 0, .slice none 0 0] 27)).heap.size) := ⟨by rw [← ht]; exact (b0.cell (p := ⟨rb, ro + n / 4, none⟩) hrl).trans (hrc (n / 4) hr), Nat.lt_of_lt_of_le hrl b0.size⟩
 have HF0 : Hid (∀ j, j < m.refs.length → ((w.alloc (.cells #[.int .i64 m.guest, .slice (some ⟨rb, ro, none⟩) m.root.length rc, .slice sa m.slots.length sc, .slice (some ⟨fb, fo, none⟩) m.refs.length fc, .slice na m.snaps.length nc] 27)).alloc (.cells #[.int .i64 0, .slice none 0 0, .slice none 0 0, .slice none 0 0, .slice none 0 0] 27)).cell? ⟨fb, fo + j, none⟩ = some (.int .i64 (m.refs.getD j 0)) ∧ fb < ((w.alloc (.cells #[.int .i64 m.guest, .slice (some ⟨rb, ro, none⟩) m.root.length rc, .slice sa m.slots.length sc, .slice (some ⟨fb, fo, none⟩) m.refs.length fc, .slice na m.snaps.length nc] 27)).alloc (.cells #[.int .i64 0, .slice none 0 0, .slice none 0 0, .slice none 0 0, .slice none 0 0] 27)).heap.size) := fun j hj => ⟨(b0.cell (p := ⟨fb, fo + j, none⟩) hfl).trans (hfc j hj), Nat.lt_of_lt_of_le hfl b0.size⟩
 have HP : Hid (checkE m = 0 ∧ shapeE m = 0 ∧ m.root.getD (n / 4) 0 = (t : Int) ∧ lookV m m.root n = e ∧ (n : Int) < m.guest ∧ (tableO m (n / 4)).length = 4 ∧ m.refs.length = m.slots.length ∧ page.size = 4) := ⟨hC, hs, ht, he, hn, hlen, hrf, hp⟩
 clear h hrc hrl hfc hfl hC hs hgt hrt hn ht he hlen hrf hp
 have HM1 : Hid (wo1 m n = M1 ∧ tabN m (n / 4) = tn) := ⟨hM1, htn⟩
 clear hM1 htn
 have HLo : Hid (inPl m (n / 4) = true) := hLo
 have HTT : Hid (t = tn) := htt
 clear hLo htt
 go_enter Tryz.func21, Tryz.ntmps21
 obtain ⟨c0, c1, c2, c3, c4⟩ := five m0
 go_wp2_with (go_at_call 18; refine hlk.mono ?_; rintro e1 w1 ⟨rfl, b1⟩)
 clear c0 c1 c2 c3 c4
 have hz1 : w.heap.size + 1 < w1.heap.size := Nat.lt_of_lt_of_le hsz b1.size
 have n0 := cells_below m0 b1 (by omega)
 have n1 := cells_below m1 b1 hsz
 have I1 := I0.below b1
 have bw : Below w.heap.size w w1 := Below.on b0 b1
 have cR : w1.cell? ⟨rb, ro + n / 4, none⟩ = some (.int .i64 (t : Int)) := (b1.cell (p := ⟨rb, ro + n / 4, none⟩) HR0.out.2).trans HR0.out.1
 have rl1 : rb < w1.heap.size := Nat.lt_of_lt_of_le HR0.out.2 b1.size
 have HF : Hid (∀ j, j < m.refs.length → w1.cell? ⟨fb, fo + j, none⟩ = some (.int .i64 (m.refs.getD j 0)) ∧ fb < w1.heap.size) := fun j hj => ⟨(b1.cell (p := ⟨fb, fo + j, none⟩) (HF0.out j hj).2).trans (HF0.out j hj).1, Nat.lt_of_lt_of_le (HF0.out j hj).2 b1.size⟩
 have HLk : Hid (∀ W, Below w1.heap.size w1 W → Calls Tryz.prog 19 #[.agg #[.int .i64 m.guest, .slice (some ⟨rb, ro, none⟩) m.root.length rc, .slice sa m.slots.length sc, .slice (some ⟨fb, fo, none⟩) m.refs.length fc, .slice na m.snaps.length nc], .int .i64 (n : Int)] W fun r w' => r = .returned (.int .i64 e) ∧ Below W.heap.size W w') := fun W hW => lookOf_is (I1.below hW) (n : Int) (lookE_of HP.out.1 HP.out.2.2.2.2.1) (by rw [Int.toNat_natCast]; exact HP.out.2.2.2.1)
 have HOw : Hid (∀ W, Below w1.heap.size w1 W → Calls Tryz.prog 40 #[.agg #[.int .i64 m.guest, .slice (some ⟨rb, ro, none⟩) m.root.length rc, .slice sa m.slots.length sc, .slice (some ⟨fb, fo, none⟩) m.refs.length fc, .slice na m.snaps.length nc]] W fun r w' => ∃ val, r = .returned (imgV m.guest val) ∧ OX w' W.heap.size val m ∧ Below W.heap.size W w') := fun W hW => ownImage_is (I1.below hW) HP.out.2.1
 have HTb : Hid (∀ W, Below w1.heap.size w1 W → Calls Tryz.prog 43 #[.agg #[.int .i64 m.guest, .slice (some ⟨rb, ro, none⟩) m.root.length rc, .slice sa m.slots.length sc, .slice (some ⟨fb, fo, none⟩) m.refs.length fc, .slice na m.snaps.length nc], .int .i64 (t : Int)] W fun r w' => ∃ g cap, r = .returned (.slice (some ⟨g, 0, none⟩) 4 cap) ∧ w'.ownsRow W.heap.size 3 1 (.slice (some ⟨g, 0, none⟩) 4 cap) 4 (ints (tableO m (n / 4))) ∧ W.heap.size ≤ g ∧ Below W.heap.size W w') := fun W hW => by
  have e := tabAt_O HP.out.2.2.1
  refine (tableOf_is (I1.below hW) htl (by rw [e, HP.out.2.2.2.2.2.1]; decide)).mono ?_
  rintro r w' ⟨v, rfl, h1, h2, h3⟩
  rw [e, HP.out.2.2.2.2.2.1] at h1
  obtain ⟨g, cap, rfl⟩ := row_some h1
  exact ⟨g, cap, rfl, h1, h2 g rfl, h3⟩
 clear b0 b1 m0 m1 I0 I1 HR0 HF0 hlk hsz
 refine wp_region_held_drew (S := (fun X : World => X.heap[w.heap.size]? = some (.cells #[.int .i64 m.guest, .slice (some ⟨rb, ro, none⟩) m.root.length rc, .slice sa m.slots.length sc, .slice (some ⟨fb, fo, none⟩) m.refs.length fc, .slice na m.snaps.length nc] 27) ∧ X.cell? ⟨rb, ro + n / 4, none⟩ = some (.int .i64 (t : Int)))) (by kernel_rfl) ⟨n0, cR⟩ (fun hHeld => ?_)
 refine tkH 0 (.pointer (some ⟨w.heap.size, 1, none⟩)) rfl (Or.inl ⟨by rfl, fun w' hSw => by obtain ⟨qa, qb⟩ := hSw; obtain ⟨j0, j1, j2, j3, j4⟩ := five qa; go_simp⟩) hHeld ?_
 simp only [lays]
 refine tkH 1 (.slice (some ⟨rb, ro, none⟩) m.root.length rc) rfl (Or.inl ⟨by rfl, fun w' hSw => by obtain ⟨qa, qb⟩ := hSw; obtain ⟨j0, j1, j2, j3, j4⟩ := five qa; go_simp⟩) hHeld ?_
 simp only [lays]
 refine tkH 2 (.int .i64 ((n : Int) / 4)) rfl (Or.inl ⟨by rfl, fun w' hSw => by obtain ⟨qa, qb⟩ := hSw; obtain ⟨j0, j1, j2, j3, j4⟩ := five qa; go_simp⟩) hHeld ?_
 simp only [lays]
 refine tkH 3 (.pointer (some ⟨rb, ro + n / 4, none⟩)) rfl (Or.inl ⟨by rfl, fun w' hSw => by obtain ⟨qa, qb⟩ := hSw; obtain ⟨j0, j1, j2, j3, j4⟩ := five qa; go_simp⟩) hHeld ?_
 simp only [lays]
 refine tkH 4 (.int .i64 (t : Int)) rfl (Or.inl ⟨by rfl, fun w' hSw => by obtain ⟨qa, qb⟩ := hSw; obtain ⟨j0, j1, j2, j3, j4⟩ := five qa; go_simp⟩) hHeld ?_
 simp only [lays]
 refine tkH 5 (.agg #[.int .i64 m.guest, .slice (some ⟨rb, ro, none⟩) m.root.length rc, .slice sa m.slots.length sc, .slice (some ⟨fb, fo, none⟩) m.refs.length fc, .slice na m.snaps.length nc]) rfl (Or.inl ⟨by rfl, fun w' hSw => by obtain ⟨qa, qb⟩ := hSw; obtain ⟨j0, j1, j2, j3, j4⟩ := five qa; go_simp⟩) hHeld ?_
 simp only [lays]
 refine tkH 6 (.int .i64 (n : Int)) rfl (Or.inl ⟨by rfl, fun w' hSw => by obtain ⟨qa, qb⟩ := hSw; obtain ⟨j0, j1, j2, j3, j4⟩ := five qa; go_simp⟩) hHeld ?_
 simp only [lays]
 refine wpAnyH_ready (rs := [7]) (by kernel_rfl) (by simp) ?_
 refine AllReadyH.cons rfl (fun K hK => ?_) AllReadyH.nil
 clear hHeld
 simp only [lays]
 rw [if_pos (by rfl)]
 go_wp2_with (go_at_call 19; refine (HLk.out _ (to_drew (Below.refl _ _))).mono ?_; rintro e2 w2 ⟨rfl, b2⟩)
 have b2 : Below w1.heap.size w1 w2 := below_drew b2
 have k0 := cells_below n0 b2 (by omega)
 have cR2 := (b2.cell (p := ⟨rb, ro + n / 4, none⟩) rl1).trans cR
 refine hK.out _ _ ⟨k0, cR2⟩ (fun hHeld => ?_)
 clear hK K
 try simp only [lays]
 refine tkH 8 (.int .i64 (t : Int)) rfl (Or.inl ⟨by rfl, fun w' hSw => by go_simp⟩) hHeld ?_
 simp only [lays]
 refine tkH 9 (.int .i64 e) rfl (Or.inl ⟨by rfl, fun w' hSw => by go_simp⟩) hHeld ?_
 simp only [lays]
 clear hHeld
 refine wpAnyH_done (by kernel_rfl) ?_ _
 obtain ⟨c0, c1, c2, c3, c4⟩ := five k0
 go_upto_region 9 with (go_at_call 40; refine (HOw.out w2 b2).mono ?_; rintro e3 w3 ⟨val, rfl, hO, b3⟩; obtain ⟨p0, q0, p1, q1, p2, q2, p3, q3, x0, x1, x2, x3⟩ := hO.four'; unfold imgV; rw [x0, x1, x2, x3])
 have s2 := b2.size
 have s3 := b3.size
 have HD0 : Hid (OwR w1 (w3.alloc (.cells #[.int .i64 m.guest, .slice p0 m.root.length q0, .slice p1 m.slots.length q1, .slice p2 m.refs.length q2, .slice p3 m.snaps.length q3] 27)) w3.heap.size m) := ⟨⟨val, (hO.mono s2).alloc _, by rw [x0, x1, x2, x3]; exact World.alloc_heap_new _ _, hO.lt (Nat.le_refl _)⟩, by omega, (b2.trans (b3.mono s2)).alloc (by omega) _⟩
 clear hO x0 x1 x2 x3 c0 c1 c2 c3 c4 k0 cR2 HLk HOw
 have M0 := cells_below n0 HD0.out.bel (by omega)
 obtain ⟨c0, c1, c2, c3, c4⟩ := five M0
 have HF3 : Hid (∀ j, j < m.refs.length → (w3.alloc (.cells #[.int .i64 m.guest, .slice p0 m.root.length q0, .slice p1 m.slots.length q1, .slice p2 m.refs.length q2, .slice p3 m.snaps.length q3] 27)).cell? ⟨fb, fo + j, none⟩ = some (.int .i64 (m.refs.getD j 0))) := fun j hj => (HD0.out.bel.cell (p := ⟨fb, fo + j, none⟩) (HF.out j hj).2).trans (HF.out j hj).1
 clear b2 b3 M0
 have hDw : w1.heap.size ≤ w3.heap.size := HD0.out.ge
 go_cut [54] from 14 (fun s wx => s = .bool false ∧ Hid (OwR w1 wx w3.heap.size m))
 case first =>
  by_cases hpos : 0 < e
  ·obtain ⟨en, rfl⟩ := Int.eq_ofNat_of_zero_le (Int.le_of_lt hpos)
   have g1 : decide (0 < (en : Int)) = true := by simpa using hpos
   have ct := HF3.out t (by have := HP.out.2.2.2.2.2.2.1; omega)
   have l1 : (t : Int) < (m.refs.length : Int) := by have := HP.out.2.2.2.2.2.2.1; omega
   rw [hrt1] at ct
   obtain ⟨hel, hre⟩ := hnot hpos
   rw [Int.toNat_natCast] at hel hre
   have ce := HF3.out en (by have := HP.out.2.2.2.2.2.2.1; omega)
   obtain ⟨xe, hxe⟩ : ∃ x, m.refs.getD en 0 = x := ⟨_, rfl⟩
   rw [hxe] at ce hre
   have l2 : (en : Int) < (m.refs.length : Int) := by have := HP.out.2.2.2.2.2.2.1; omega
   have g3 : (xe == 1) = false := by simpa using hre
   clear hre hxe hnot
   go_wp2_with fail; go_meet; exact ⟨rfl, HD0⟩
  ·have g1 : decide (0 < e) = false := by simpa using hpos
   go_wp2_with fail; go_meet; exact ⟨rfl, HD0⟩
 case rest =>
 obtain ⟨rfl, HD1⟩ := hcut
 clear HD0 HF3 c0 c1 c2 c3 c4
 obtain ⟨wa, hwa⟩ : ∃ X, X = wc := ⟨_, rfl⟩
 subst hwa
 go_upto_region 12 with fail
 have M0 := cells_below n0 HD1.out.bel (by omega)
 obtain ⟨c0, c1, c2, c3, c4⟩ := five M0
 have HF1 : Hid (∀ j, j < m.refs.length → wa.cell? ⟨fb, fo + j, none⟩ = some (.int .i64 (m.refs.getD j 0))) := fun j hj => (HD1.out.bel.cell (p := ⟨fb, fo + j, none⟩) (HF.out j hj).2).trans (HF.out j hj).1
 go_cut [71] from 14 (fun s wx => s = .bool false ∧ Hid (OwR w1 wx w3.heap.size m))
 case first =>
  have g1 : ((t : Int) == 0) = false := by simp; omega
  have ct := HF1.out t (by have := HP.out.2.2.2.2.2.2.1; omega)
  rw [hrt1] at ct
  have l1 : (t : Int) < (m.refs.length : Int) := by have := HP.out.2.2.2.2.2.2.1; omega
  go_wp2_with fail; go_meet; exact ⟨rfl, HD1⟩
 case rest =>
 obtain ⟨rfl, HD2⟩ := hcut
 clear HD1 HF1 M0 c0 c1 c2 c3 c4
 obtain ⟨wb, hwb⟩ : ∃ X, X = wc := ⟨_, rfl⟩
 subst hwb
 rw [HTT.out]
 have HD4 : Hid (OwR w1 wb w3.heap.size M1) := by
  show OwR w1 wb w3.heap.size M1
  rw [← HM1.out.1, wo1_lone HP.out.1 hr HLo.out]
  exact HD2.out
 clear HD2
 obtain ⟨we, hwe⟩ : ∃ X, X = wb := ⟨_, rfl⟩
 subst hwe
 obtain ⟨val, hX, hbox, hfar⟩ := HD4.out.ex
 have hbel := HD4.out.bel
 obtain ⟨p0, q0, p1, q1, p2, q2, p3, q3, x0, x1, x2, x3⟩ := hX.four'
 have hbx := hbox
 rw [x0, x1, x2, x3] at hbx
 obtain ⟨d0, d1, d2, d3, d4⟩ := five hbx
 have hS : Slots we (val .slots) M1.slots := Img.four (show Img we (.agg #[_, _, _, _, _]) M1 from hX.img) |>.2.1
 have hG := grabOf_wide hS HT.out.1 HT.out.2.1 HT.out.2.2
 rw [x1] at hG
 have hdn0 : ((dn : Int) == 0) = false := by have := HE.out.2.1; simp; omega
 go_upto_region 21 with (go_at_call 41; refine hG.mono ?_; rintro e4 w4 ⟨rfl, hw⟩; rw [hw]; clear hw)
 clear hG hS hdn0
 obtain ⟨M2, hM2⟩ : ∃ X : ImgD, { M1 with slots := layS M1.slots dn (1, page, []) } = X := ⟨_, rfl⟩
 have hL := layX_is M1.guest (k := 1) (d := page) (ev := .slice none 0 0) (es := []) hX hbel.size HE.out.1 (by have := HT.out.2.1; omega) (World.ownsRow_nil _ _ _ _) (farX_nil _ _ _ _ _)
 unfold imgV at hL
 rw [x0, x1, x2, x3, hM2] at hL
 have HL : Hid (Calls Tryz.prog 42 #[.agg #[.int .i64 M1.guest, .slice p0 M1.root.length q0, .slice p1 M1.slots.length q1, .slice p2 M1.refs.length q2, .slice p3 M1.snaps.length q3], .int .i64 (dn : Int), .agg #[.int .i64 1, .string page, .slice none 0 0]] we fun r w' => ∃ val', r = .returned (imgV M1.guest val') ∧ OX w' w1.heap.size val' M2 ∧ Below w1.heap.size we w' ∧ KeepX we w' M1 val ∧ SrcX we M1 val (.slice none 0 0) M2 val') := hL.mono fun r w' ⟨v, a1, a2, a3, a4, a5, _⟩ => ⟨v, a1, a2, a3, a4, a5⟩
 clear hL
 have HM2 : Hid ({ M1 with slots := layS M1.slots dn (1, page, []) } = M2 ∧ M2.guest = M1.guest) := ⟨hM2, by rw [← hM2]⟩
 clear hM2
 have hDl : w3.heap.size < we.heap.size := (szH hbx)
 go_cut [] from 14 (fun wx => Hid (OwR w1 wx w3.heap.size M2))
 case first =>
  go_wp2_with (go_at_call 42; refine HL.out.mono ?_; rintro e6 w5 ⟨val', rfl, hX5, b5, k5, s5⟩; obtain ⟨g0, h0, g1, h1, g2, h2, g3, h3, y0, y1, y2, y3⟩ := hX5.four'; have D5 := (k5 w3.heap.size hDl hfar).trans hbx; obtain ⟨v0, v1, v2, v3, v4⟩ := five D5; have u0 := cells_frozen D5 0; have u1 := cells_frozen D5 1; have u2 := cells_frozen D5 2; have u3 := cells_frozen D5 3; have u4 := cells_frozen D5 4; unfold imgV; rw [y0, y1, y2, y3])
  go_meet
  have hO := ow_call hbel hbox HD4.out.ge hfar hX5 b5 k5 s5 (fun x => by cases x)
  rw [y0, y1, y2, y3, HM2.out.2] at hO
  exact hO
 case rest =>
 have HD5 : Hid (OwR w1 wc w3.heap.size M2) := hcut
 clear hcut HD4 HL hX hbox hfar hbel hbx x0 x1 x2 x3 d0 d1 d2 d3 d4
 obtain ⟨wf, hwf⟩ : ∃ X, X = wc := ⟨_, rfl⟩
 subst hwf
 go_upto_region 22 with fail
 go_cut [] from 14 (fun wx => Hid (OwR w1 wx w3.heap.size M3))
 case first =>
  obtain ⟨val, hX, hbox, hfar⟩ := HD5.out.ex
  have hbel := HD5.out.bel
  obtain ⟨p0, q0, p1, q1, p2, q2, p3, q3, x0, x1, x2, x3⟩ := hX.four'
  have hbx := hbox
  rw [x0, x1, x2, x3] at hbx
  obtain ⟨d0, d1, d2, d3, d4⟩ := five hbx
  have hsl : M2.slots = layS M1.slots dn (1, page, []) := by rw [← HM2.out.1]
  have htl2 : tn < M2.slots.length := by rw [hsl]; exact HE.out.2.2.1
  have htb : M2.slots.getD tn default = (2, ⟨#[]⟩, tableO m (n / 4)) := by rw [hsl]; exact HE.out.2.2.2.1
  have htbl : tbl M2 tn = tableO m (n / 4) := by show (M2.slots.getD tn default).2.2 = _; rw [htb]
  have hnt : tbl M2 tn ≠ [] := fun x => by have := HP.out.2.2.2.2.2.1; rw [← htbl, x] at this; cases this
  obtain ⟨ao, cap, xs, hg⟩ := hX.forms .slots (LiveX.slots _)
  obtain ⟨sg, rfl⟩ := hg (by show 0 < M2.slots.length; omega)
  rw [x1] at xs
  simp only [Value.slice.injEq] at xs
  obtain ⟨rfl, _, _⟩ := xs
  have hrow := hX.row .slots (LiveX.slots _)
  rw [x1] at hrow
  have hrow : wf.ownsRow w1.heap.size 58 3 (.slice (some ⟨sg, 0, none⟩) M2.slots.length q1) M2.slots.length (flatS M2.slots (fun j => val (.tab j))) := hrow
  have hrt := hX.row (.tab tn) (LiveX.tab ⟨htl2, hnt⟩)
  have hrt : wf.ownsRow w1.heap.size 3 1 (val (.tab tn)) (tbl M2 tn).length (ints (tbl M2 tn)) := hrt
  rw [htbl, HP.out.2.2.2.2.2.1] at hrt
  obtain ⟨tg, tc, xt⟩ := row_some hrt
  rw [xt] at hrt
  have hcs := (hrow.cellAt (tn * 3 + 2) (by omega)).trans (flatS_get htl2).2.2
  have hcs : wf.cell? ⟨sg, tn * 3 + 2, none⟩ = some (.slice (some ⟨tg, 0, none⟩) 4 tc) := hcs.trans (congrArg some xt)
  obtain ⟨xo, hxo⟩ : ∃ x, (tableO m (n / 4)).getD (n % 4) 0 = x := ⟨_, rfl⟩
  have hct : wf.cell? ⟨tg, n % 4, none⟩ = some (.int .i64 xo) := by
   refine (hrt.cellAt (n % 4) (by omega)).trans ?_
   unfold ints
   rw [List.getElem?_map, List.getElem?_eq_getElem (by rw [HP.out.2.2.2.2.2.1]; exact h4), ← hxo]
   simp [List.getD, HP.out.2.2.2.2.2.1, h4]
  have hfz := hrt.frozenAt (n % 4)
  have htl2i : (tn : Int) < (M2.slots.length : Int) := by omega
  have HTB : Hid (M2.slots.getD tn default = (2, ⟨#[]⟩, tableO m (n / 4))) := htb
  clear hxo hsl htb htbl
  go_wp2_with fail
  go_meet
  have htb := HTB.out
  have hO := ow_tab hX hbel hbox HD5.out.ge hfar htl2 hnt xt (n % 4) (dn : Int)
  rw [htb] at hO
  have e3 : { M2 with slots := M2.slots.set tn (2, ⟨#[]⟩, (tableO m (n / 4)).set (n % 4) (dn : Int)) } = M3 := by
   rw [← HM2.out.1]
   show { M1 with slots := (layS M1.slots dn (1, page, [])).set tn (2, ⟨#[]⟩, (tableO m (n / 4)).set (n % 4) (dn : Int)) } = M3
   rw [HE.out.2.2.2.2]
   exact HM3.out.1
  rw [← e3]
  exact hO
 case rest =>
 have HD6 : Hid (OwR w1 wc w3.heap.size M3) := hcut
 clear hcut HD5
 obtain ⟨wg, hwg⟩ : ∃ X, X = wc := ⟨_, rfl⟩
 subst hwg
 obtain ⟨val, hX, hbox, hfar⟩ := HD6.out.ex
 have hbel := HD6.out.bel
 obtain ⟨p0, q0, p1, q1, p2, q2, p3, q3, x0, x1, x2, x3⟩ := hX.four'
 have hbx := hbox
 rw [x0, x1, x2, x3] at hbx
 obtain ⟨d0, d1, d2, d3, d4⟩ := five hbx
 have z9 := cells_below n1 hbel hz1
 obtain ⟨z0, z1, z2, z3, z4⟩ := five z9
 have y0 := cells_frozen z9 0; have y1 := cells_frozen z9 1; have y2 := cells_frozen z9 2; have y3 := cells_frozen z9 3; have y4 := cells_frozen z9 4
 have nD1 : ¬ w3.heap.size = w.heap.size + 1 := by omega
 have nD2 : ¬ w.heap.size + 1 = w3.heap.size := by omega
 have hc := countedX_is hX hbel.size HM3.out.2
 unfold imgV at hc
 rw [x0, x1, x2, x3] at hc
 have HCt : Hid (Calls Tryz.prog 44 #[.agg #[.int .i64 M3.guest, .slice p0 M3.root.length q0, .slice p1 M3.slots.length q1, .slice p2 M3.refs.length q2, .slice p3 M3.snaps.length q3]] wg fun r w' => ∃ val', r = .returned (imgV M3.guest val') ∧ OX w' w1.heap.size val' (countedD M3) ∧ Below w1.heap.size wg w' ∧ KeepX wg w' M3 val ∧ SrcX wg M3 val (.slice none 0 0) (countedD M3) val') := hc
 have hzl : w.heap.size + 1 < wg.heap.size := Nat.lt_of_lt_of_le hz1 hbel.size
 have hfz : ∀ a, LiveX M3 a → (val a).ownBlock ≠ some (w.heap.size + 1) := fun a ha x => by have := ((hX.row a ha).lt _ x).1; omega
 clear hc
 go_wp2_with (go_at_call 44; refine HCt.out.mono ?_; rintro e7 w7 ⟨val2, rfl, hO7, b7, k7, s7⟩; obtain ⟨u0, v0, u1, v1, u2, v2, u3, v3, j0, j1, j2, j3⟩ := hO7.four'; have k17 := (k7 (w.heap.size + 1) hzl hfz).trans z9; obtain ⟨o0, o1, o2, o3, o4⟩ := five k17; have oo0 := cells_frozen k17 0; have oo1 := cells_frozen k17 1; have oo2 := cells_frozen k17 2; have oo3 := cells_frozen k17 3; have oo4 := cells_frozen k17 4; unfold imgV; rw [j0, j1, j2, j3])
 have hfr : ∀ a, LiveX (countedD M3) a → (val2 a).ownBlock ≠ some (w.heap.size + 1) := fun a ha x => by
  have := ((hO7.row a ha).lt _ x).1
  omega
 have hI := fun x0 x1 x2 x3 x4 => hO7.five hfr x0 x1 x2 x3 x4
 have eI : imgV (countedD M3).guest val2 = .agg #[.int .i64 M3.guest, .slice u0 (countedD M3).root.length v0, .slice u1 (countedD M3).slots.length v1, .slice u2 (countedD M3).refs.length v2, .slice u3 (countedD M3).snaps.length v3] := by unfold imgV; rw [j0, j1, j2, j3]; rfl
 have hB8 : Below w.heap.size w w7 := (Below.on bw hbel).trans (b7.mono (by omega))
 refine bodyPost_ret (v := .tuple #[.agg #[.int .i64 M3.guest, .slice u0 (countedD M3).root.length v0, .slice u1 (countedD M3).slots.length v1, .slice u2 (countedD M3).refs.length v2, .slice u3 (countedD M3).snaps.length v3], .int .i64 0]) (by simp [results, Tryz.results21, go_sem, o0, o1, o2, o3, o4]) rfl ⟨u0, v0, u1, v1, u2, v2, u3, v3, rfl, fun W' hW => (by have := ((hI _ _ _ _ _).keep (fun q hq _ => hW q (by omega))).img; rw [eI] at this; exact this), below_five hB8 (Nat.le_succ _) _ _ _ _ _⟩
theorem count_none {l : List Int} {t : Int} (h : t ∉ l) : l.count t = 0 := List.count_eq_zero.2 h
theorem root_natG {m : ImgD} (hs : shapeE m = 0) {r : Nat} (hr : r < m.root.length) : ∃ t : Nat, m.root.getD r 0 = (t : Int) ∧ t < m.slots.length := by
 have hro := root_ok hs
 have hm : m.root.getD r 0 ∈ m.root := by simp [List.getD, hr]
 have hE := List.all_eq_true.1 hro.2 _ hm
 have hp := slotsE_parts (shapeE_zero hs).2.1
 by_cases h0 : m.root.getD r 0 = 0
 ·exact ⟨0, h0, by omega⟩
 ·unfold rootE at hE
  have hk : isKd m.slots (m.root.getD r 0) 2 = true := by
   cases hx : isKd m.slots (m.root.getD r 0) 2 with
   | true => rfl
   | false => rw [hx] at hE; simp at hE; exact absurd hE h0
  obtain ⟨j, hj, hjl, _⟩ := isKd_yes hk
  exact ⟨j, hj, hjl⟩
def tC (m : ImgD) (x : Nat) : Nat := (flatR m).count (x : Int)
def pC (m : ImgD) (x : Nat) : Nat := sumT m.slots (flatR m) (x : Int)
theorem kd_one {m : ImgD} (h : shapeE m = 0) {x : Nat} (hk : kd m.slots x ≠ 0) : 1 ≤ x ∧ x < m.slots.length := by
 refine ⟨?_, kd_lt hk⟩
 rcases Nat.eq_zero_or_pos x with e | e
 ·rw [e] at hk; exact absurd (slot0 (shapeE_zero h).2.1) hk
 ·exact e
theorem cnt_tab {m : ImgD} (h : shapeE m = 0) {x : Nat} (hk : kd m.slots x = 2) : (cntL m).getD x 0 = (tC m x : Int) := by
 obtain ⟨h1, hx⟩ := kd_one h (x := x) (by rw [hk]; decide)
 rw [cntL_get h x hx]
 unfold cntI tC
 rw [if_neg (by omega), sumT_no (shapeE_zero h).2.2.2.2.2.1 _ h1 (by rw [hk]; decide), Nat.add_zero]
theorem tC_none {m : ImgD} (h : shapeE m = 0) {x : Nat} (h1 : 1 ≤ x) (hk : kd m.slots x ≠ 2) : tC m x = 0 :=
 count_none (fun hm => hk (told_root h hm h1).2.1)
theorem cnt_page {m : ImgD} (h : shapeE m = 0) {x : Nat} (hk : kd m.slots x = 1) : (cntL m).getD x 0 = (pC m x : Int) := by
 obtain ⟨h1, hx⟩ := kd_one h (x := x) (by rw [hk]; decide)
 rw [cntL_get h x hx]
 have h0 := tC_none h h1 (by rw [hk]; decide)
 unfold tC at h0
 unfold cntI pC
 rw [if_neg (by omega), h0, Nat.zero_add]
def lo (m : ImgD) (n : Nat) : Bool := m.root.getD (n / 4) 0 != 0 && tC m (m.root.getD (n / 4) 0).toNat == 1
def so (m : ImgD) (n : Nat) : Bool := decide (0 < lookV m m.root n) && pC m (lookV m m.root n).toNat == 1
theorem root_facts {m : ImgD} (hC : checkE m = 0) {k : Nat} (hk : k < m.root.length) : ∃ t : Nat, m.root.getD k 0 = (t : Int) ∧ (t = 0 ∨ (1 ≤ t ∧ kd m.slots t = 2 ∧ 1 ≤ tC m t ∧ m.refs.getD t 0 = (tC m t : Int))) := by
 obtain ⟨hs, hr, _⟩ := checkE_zero hC
 obtain ⟨t, ht, _⟩ := root_natG hs hk
 refine ⟨t, ht, ?_⟩
 rcases Nat.eq_zero_or_pos t with e | e
 ·exact .inl e
 ·have hm : (t : Int) ∈ flatR m := by
   rw [flatR_app, ← ht, getD_at hk]
   exact List.mem_append_left _ (List.getElem_mem hk)
  have h2 := (told_root hs hm e).2.1
  refine .inr ⟨e, h2, List.count_pos_iff.2 hm, ?_⟩
  rw [← hr]; exact cnt_tab hs h2
theorem look_facts {m : ImgD} (hC : checkE m = 0) {n : Nat} (hk : n / 4 < m.root.length) : lookV m m.root n ≤ 0 ∨ ∃ e : Nat, lookV m m.root n = (e : Int) ∧ 1 ≤ e ∧ kd m.slots e = 1 ∧ m.refs.getD e 0 = (pC m e : Int) := by
 obtain ⟨hs, hr, _⟩ := checkE_zero hC
 obtain ⟨ock, oent⟩ := tableO_ok hs hk
 rw [lookV_tableO]
 have h4 : n % 4 < (tableO m (n / 4)).length := by rw [ckE_len ock]; omega
 have hmem : (tableO m (n / 4)).getD (n % 4) 0 ∈ tableO m (n / 4) := by rw [getD_at h4]; exact List.getElem_mem h4
 rcases tabE_cases (oent _ hmem) with e | e | ⟨j, e, _, hkj⟩
 ·left; omega
 ·left; omega
 ·right
  refine ⟨j, e, (kd_one hs (by rw [hkj]; decide)).1, hkj, ?_⟩
  rw [← hr]; exact cnt_page hs hkj
theorem lo_inPl {m : ImgD} (hC : checkE m = 0) {n : Nat} (hk : n / 4 < m.root.length) : lo m n = inPl m (n / 4) := by
 obtain ⟨t, ht, h⟩ := root_facts hC hk
 unfold lo inPl
 rw [ht, Int.toNat_natCast]
 rcases h with h | ⟨_, _, _, h⟩
 ·subst h; rfl
 ·rw [h]
  congr 1
  rw [Bool.eq_iff_iff]; simp only [beq_iff_eq]; omega
theorem so_wInPl {m : ImgD} (hC : checkE m = 0) {n : Nat} (hk : n / 4 < m.root.length) : wInPl m n = (lo m n && so m n) := by
 rw [lo_inPl hC hk]
 unfold wInPl so
 rcases look_facts hC hk with h | ⟨e, he, h1, _, h2⟩
 ·rw [show decide (0 < lookV m m.root n) = false by simp; omega]; simp
 ·rw [he, Int.toNat_natCast, h2, show decide (0 < (e : Int)) = true by simp; omega, Bool.true_and, Bool.true_and]
  congr 1
  rw [Bool.eq_iff_iff]; simp only [beq_iff_eq]; omega
set_option maxHeartbeats 4000000 in
theorem wo_bad (ra : Option Addr) (rc : Nat) (sa : Option Addr) (sc : Nat) (fa : Option Addr) (fc : Nat) (na : Option Addr) (nc : Nat) (m : ImgD) (n : Int) (page : ByteArray) (w : World) (h : Img w (.agg #[.int .i64 m.guest, .slice ra m.root.length rc, .slice sa m.slots.length sc, .slice fa m.refs.length fc, .slice na m.snaps.length nc]) m) (E : Int) (hE : lookE m n = E) (hne : (E != 0) = true) :
  Calls Tryz.prog 21 #[.agg #[.int .i64 m.guest, .slice ra m.root.length rc, .slice sa m.slots.length sc, .slice fa m.refs.length fc, .slice na m.snaps.length nc], .int .i64 n, .string page] w (AnsJ w imgZ E) := by
 have b0 : Below w.heap.size w ((w.alloc (.cells #[.int .i64 m.guest, .slice ra m.root.length rc, .slice sa m.slots.length sc, .slice fa m.refs.length fc, .slice na m.snaps.length nc] 27)).alloc (.cells #[.int .i64 0, .slice none 0 0, .slice none 0 0, .slice none 0 0, .slice none 0 0] 27)) := ((Below.refl _ _).alloc (Nat.le_refl _) _).alloc (by simp) _
 have m0 : ((w.alloc (.cells #[.int .i64 m.guest, .slice ra m.root.length rc, .slice sa m.slots.length sc, .slice fa m.refs.length fc, .slice na m.snaps.length nc] 27)).alloc (.cells #[.int .i64 0, .slice none 0 0, .slice none 0 0, .slice none 0 0, .slice none 0 0] 27)).heap[w.heap.size]? = some (.cells #[.int .i64 m.guest, .slice ra m.root.length rc, .slice sa m.slots.length sc, .slice fa m.refs.length fc, .slice na m.snaps.length nc] 27) := cells_alloc (World.alloc_heap_new _ _) _
 have m1 : ((w.alloc (.cells #[.int .i64 m.guest, .slice ra m.root.length rc, .slice sa m.slots.length sc, .slice fa m.refs.length fc, .slice na m.snaps.length nc] 27)).alloc (.cells #[.int .i64 0, .slice none 0 0, .slice none 0 0, .slice none 0 0, .slice none 0 0] 27)).heap[w.heap.size + 1]? = some (.cells #[.int .i64 0, .slice none 0 0, .slice none 0 0, .slice none 0 0, .slice none 0 0] 27) := by have := World.alloc_heap_new (w.alloc (.cells #[.int .i64 m.guest, .slice ra m.root.length rc, .slice sa m.slots.length sc, .slice fa m.refs.length fc, .slice na m.snaps.length nc] 27)) (.cells #[.int .i64 0, .slice none 0 0, .slice none 0 0, .slice none 0 0, .slice none 0 0] 27); simpa using this
 have hsz : w.heap.size + 1 < ((w.alloc (.cells #[.int .i64 m.guest, .slice ra m.root.length rc, .slice sa m.slots.length sc, .slice fa m.refs.length fc, .slice na m.snaps.length nc] 27)).alloc (.cells #[.int .i64 0, .slice none 0 0, .slice none 0 0, .slice none 0 0, .slice none 0 0] 27)).heap.size := by simp
 obtain ⟨c0, c1, c2, c3, c4⟩ := five m0
 have hlk := lookErr_is (h.below b0) n hE
 clear h hE
 go_enter Tryz.func21, Tryz.ntmps21
 go_wp2_with (go_at_call 18; refine hlk.mono ?_; rintro e1 w1 ⟨rfl, b1⟩; have n0 := cells_below m0 b1 (by omega); have n1 := cells_below m1 b1 hsz; obtain ⟨d0, d1, d2, d3, d4⟩ := five n0; obtain ⟨z0, z1, z2, z3, z4⟩ := five n1; have y0 := cells_frozen n1 0; have y1 := cells_frozen n1 1; have y2 := cells_frozen n1 2; have y3 := cells_frozen n1 3; have y4 := cells_frozen n1 4)
 refine bodyPost_ret (v := .tuple #[.agg #[.int .i64 0, .slice none 0 0, .slice none 0 0, .slice none 0 0, .slice none 0 0], .int .i64 E]) (by simp [results, Tryz.results21, go_sem, z0, z1, z2, z3, z4]) rfl ⟨none, 0, none, 0, none, 0, none, 0, rfl, fun W' _ => imgZ_im W', below_five (Below.on b0 b1) (Nat.le_succ _) _ _ _ _ _⟩
set_option maxHeartbeats 4000000 in
theorem wo_len (ra : Option Addr) (rc : Nat) (sa : Option Addr) (sc : Nat) (fa : Option Addr) (fc : Nat) (na : Option Addr) (nc : Nat) (m : ImgD) (n : Int) (page : ByteArray) (w : World) (h : Img w (.agg #[.int .i64 m.guest, .slice ra m.root.length rc, .slice sa m.slots.length sc, .slice fa m.refs.length fc, .slice na m.snaps.length nc]) m) (hE : lookE m n = 0) (hne : ((page.size : Int) != 4) = true) :
  Calls Tryz.prog 21 #[.agg #[.int .i64 m.guest, .slice ra m.root.length rc, .slice sa m.slots.length sc, .slice fa m.refs.length fc, .slice na m.snaps.length nc], .int .i64 n, .string page] w (AnsJ w imgZ 1) := by
 have b0 : Below w.heap.size w ((w.alloc (.cells #[.int .i64 m.guest, .slice ra m.root.length rc, .slice sa m.slots.length sc, .slice fa m.refs.length fc, .slice na m.snaps.length nc] 27)).alloc (.cells #[.int .i64 0, .slice none 0 0, .slice none 0 0, .slice none 0 0, .slice none 0 0] 27)) := ((Below.refl _ _).alloc (Nat.le_refl _) _).alloc (by simp) _
 have m0 : ((w.alloc (.cells #[.int .i64 m.guest, .slice ra m.root.length rc, .slice sa m.slots.length sc, .slice fa m.refs.length fc, .slice na m.snaps.length nc] 27)).alloc (.cells #[.int .i64 0, .slice none 0 0, .slice none 0 0, .slice none 0 0, .slice none 0 0] 27)).heap[w.heap.size]? = some (.cells #[.int .i64 m.guest, .slice ra m.root.length rc, .slice sa m.slots.length sc, .slice fa m.refs.length fc, .slice na m.snaps.length nc] 27) := cells_alloc (World.alloc_heap_new _ _) _
 have m1 : ((w.alloc (.cells #[.int .i64 m.guest, .slice ra m.root.length rc, .slice sa m.slots.length sc, .slice fa m.refs.length fc, .slice na m.snaps.length nc] 27)).alloc (.cells #[.int .i64 0, .slice none 0 0, .slice none 0 0, .slice none 0 0, .slice none 0 0] 27)).heap[w.heap.size + 1]? = some (.cells #[.int .i64 0, .slice none 0 0, .slice none 0 0, .slice none 0 0, .slice none 0 0] 27) := by have := World.alloc_heap_new (w.alloc (.cells #[.int .i64 m.guest, .slice ra m.root.length rc, .slice sa m.slots.length sc, .slice fa m.refs.length fc, .slice na m.snaps.length nc] 27)) (.cells #[.int .i64 0, .slice none 0 0, .slice none 0 0, .slice none 0 0, .slice none 0 0] 27); simpa using this
 have hsz : w.heap.size + 1 < ((w.alloc (.cells #[.int .i64 m.guest, .slice ra m.root.length rc, .slice sa m.slots.length sc, .slice fa m.refs.length fc, .slice na m.snaps.length nc] 27)).alloc (.cells #[.int .i64 0, .slice none 0 0, .slice none 0 0, .slice none 0 0, .slice none 0 0] 27)).heap.size := by simp
 obtain ⟨c0, c1, c2, c3, c4⟩ := five m0
 have hlk := lookErr_is (h.below b0) n hE
 clear h hE
 go_enter Tryz.func21, Tryz.ntmps21
 go_wp2_with (go_at_call 18; refine hlk.mono ?_; rintro e1 w1 ⟨rfl, b1⟩; have n0 := cells_below m0 b1 (by omega); have n1 := cells_below m1 b1 hsz; obtain ⟨d0, d1, d2, d3, d4⟩ := five n0; obtain ⟨z0, z1, z2, z3, z4⟩ := five n1; have y0 := cells_frozen n1 0; have y1 := cells_frozen n1 1; have y2 := cells_frozen n1 2; have y3 := cells_frozen n1 3; have y4 := cells_frozen n1 4)
 refine bodyPost_ret (v := .tuple #[.agg #[.int .i64 0, .slice none 0 0, .slice none 0 0, .slice none 0 0, .slice none 0 0], .int .i64 1]) (by simp [results, Tryz.results21, go_sem, z0, z1, z2, z3, z4]) rfl ⟨none, 0, none, 0, none, 0, none, 0, rfl, fun W' _ => imgZ_im W', below_five (Below.on b0 b1) (Nat.le_succ _) _ _ _ _ _⟩
theorem wo_ok {w : World} {v : Value} {m : ImgD} (h : Img w v m) (hC : checkE m = 0) {n : Nat} (hn : (n : Int) < m.guest) {page : ByteArray} (hp : page.size = 4) :
  Calls Tryz.prog 21 #[v, .int .i64 (n : Int), .string page] w (AnsJ w ((writeD m n page).getD imgZ) (errO (writeD m n page))) := by
 have h' := h
 obtain ⟨ra, rc, sa, sc, fa, fc, na, nc, rfl, _⟩ := h.parts
 have hs := checkE_shape hC
 have hgt := guest_ok hs
 have hrt := root_ok hs
 have hr : n / 4 < m.root.length := by omega
 have hsp := slotsE_parts (shapeE_zero hs).2.1
 have hrf : m.refs.length = m.slots.length := (shapeE_zero hs).2.2.1
 obtain ⟨ao, cap, ev, _, _, hcell⟩ := h'.four.1
 obtain ⟨rb, ro, rfl, hrl, hrc⟩ := hcell (by intro x; rw [x] at hr; simp at hr)
 simp only [Value.slice.injEq] at ev
 obtain ⟨rfl, _, rfl⟩ := ev
 obtain ⟨ao, cap, ev, _, _, hcell⟩ := h'.four.2.2.1
 obtain ⟨fb, fo, rfl, hfl, hfc⟩ := hcell (by intro x; rw [x] at hrf; simp at hrf; omega)
 simp only [Value.slice.injEq] at ev
 obtain ⟨rfl, _, rfl⟩ := ev
 obtain ⟨t, ht, hT⟩ := root_facts hC hr
 have hlo := lo_inPl hC hr
 have hwi := so_wInPl hC hr
 obtain ⟨e, he⟩ : ∃ e, lookV m m.root n = e := ⟨_, rfl⟩
 have hlk := look_facts hC hr
 rw [he] at hlk
 have hpos : 0 < e → 1 ≤ t := fun x => by
  rcases Nat.eq_zero_or_pos t with h0 | h0
  ·exfalso
   unfold lookV at he
   rw [ht, h0, if_pos (show ((0 : Nat) : Int) = 0 from rfl)] at he
   omega
  ·exact h0
 by_cases hi : wInPl m n = true
 ·have e1 : writeD m n page = some { m with slots := m.slots.set e.toNat (1, page, []) } := by unfold writeD; rw [if_pos hi, he]
  rw [e1]
  have hi2 := hi
  unfold wInPl at hi2
  rw [he] at hi2
  simp only [Bool.and_eq_true, decide_eq_true_eq, beq_iff_eq] at hi2
  obtain ⟨p0, pin, pre⟩ := hi2
  rcases hlk with x | ⟨en, hen, en1, hke, _⟩
  ·omega
  ·have pin2 := pin
   unfold inPl at pin2
   rw [ht, Int.toNat_natCast] at pin2
   simp only [Bool.and_eq_true, bne_iff_ne, beq_iff_eq] at pin2
   have hek : e.toNat = en := by omega
   exact wo_in rb ro _ sa sc fb fo _ na nc m n page w h' hrc hrl hfc hfl hC hn hp t ht e he ⟨en, en1, hen⟩ (by rw [hek]; exact kd_lt (by rw [hke]; decide)) pin2.2 pre (by rw [hek]; exact hke) (by rw [hek]; exact tab_page (shapeE_zero hs).2.1 hke) _ rfl
 ·by_cases hin : inPl m (n / 4) = true
  · -- the table is told once
   have pin2 := hin
   unfold inPl at pin2
   rw [ht, Int.toNat_natCast] at pin2
   simp only [Bool.and_eq_true, bne_iff_ne, beq_iff_eq] at pin2
   have t1 : 1 ≤ t := by omega
   have htn : tabN m (n / 4) = t := by unfold tabN; rw [if_pos hin, ht]; simp
   have htl : t < m.slots.length := by obtain ⟨t', ht', h'⟩ := root_nat hs hr; omega
   have h40 : tabN m (n / 4) ≠ 40 := by rw [htn]; omega
   obtain ⟨f1, f2, f3, f4, f5⟩ := wo_facts hC hn h40
   have hnot : 0 < e → e.toNat < m.slots.length ∧ m.refs.getD e.toNat 0 ≠ 1 := fun x => by
    rcases hlk with y | ⟨en, hen, en1, hke, _⟩
    ·omega
    ·have hek : e.toNat = en := by omega
     refine ⟨by rw [hek]; exact kd_lt (by rw [hke]; decide), fun y => hi ?_⟩
     unfold wInPl
     rw [he, hin, y]
     simp; omega
   by_cases hd : wD m n = 40
   ·have e1 : writeD m n page = none := by unfold writeD; rw [if_neg hi, if_neg h40, if_pos hd]
    rw [e1]
    exact wo_lf rb ro _ sa sc fb fo _ na nc m n page w h' hrc hrl hfc hfl hC hn hp t ht e he _ 0 htn _ rfl t1 pin2.2 hnot hin rfl ⟨f1, f2, if_pos hd⟩
   ·have e1 : writeD m n page = some (countedD { wo1 m n with slots := wL m n page }) := by unfold writeD; rw [if_neg hi, if_neg h40, if_neg hd]; rfl
    rw [e1]
    have hE := wo_end hC hn h40 hd hp
    rw [htn] at hE
    exact wo_lk rb ro _ sa sc fb fo _ na nc m n page w h' hrc hrl hfc hfl hC hn hp t ht e he _ _ htn _ rfl t1 pin2.2 hnot hin rfl ⟨f1, f2, if_neg hd⟩ hE _ ⟨rfl, wo_counted hC hn h40 hd hp⟩
  ·have htn : tabN m (n / 4) = grabN m.slots := by unfold tabN; rw [if_neg hin]
   have hmany : 1 ≤ t → 1 < m.refs.getD t 0 := fun t1 => by
    rcases hT with x | ⟨_, _, hc, hrr⟩
    ·omega
    ·have : ¬ m.refs.getD t 0 = 1 := fun x => hin (by
      unfold inPl
      rw [ht, Int.toNat_natCast, x]
      simp; omega)
     omega
   by_cases h40 : tabN m (n / 4) = 40
   ·have e1 : writeD m n page = none := by unfold writeD; rw [if_neg hi, if_pos h40]
    rw [e1]
    exact wo_f1 rb ro _ sa sc fb fo _ na nc m n page w h' hrc hrl hfc hfl hC hn hp t ht e he hpos hmany (by rw [← htn]; exact h40)
   ·obtain ⟨f1, f2, f3, f4, f5⟩ := wo_facts hC hn h40
    obtain ⟨_, tl, t40, _, _⟩ := tabN_spec hC hr h40
    by_cases hd : wD m n = 40
    ·have e1 : writeD m n page = none := by unfold writeD; rw [if_neg hi, if_neg h40, if_pos hd]
     rw [e1]
     exact wo_nf rb ro _ sa sc fb fo _ na nc m n page w h' hrc hrl hfc hfl hC hn hp t ht e he _ 0 rfl _ rfl hpos hmany ⟨htn.symm, hsp.1, hsp.2, t40, f4, tl⟩ ⟨f1, f2, if_pos hd⟩
    ·have e1 : writeD m n page = some (countedD { wo1 m n with slots := wL m n page }) := by unfold writeD; rw [if_neg hi, if_neg h40, if_neg hd]; rfl
     rw [e1]
     exact wo_nk rb ro _ sa sc fb fo _ na nc m n page w h' hrc hrl hfc hfl hC hn hp t ht e he _ _ rfl _ rfl hpos hmany ⟨htn.symm, hsp.1, hsp.2, t40, f4, tl⟩ ⟨f1, f2, if_neg hd⟩ (wo_end hC hn h40 hd hp) _ ⟨rfl, wo_counted hC hn h40 hd hp⟩
theorem writeOf_is {w : World} {v : Value} {m : ImgD} (h : Img w v m) (n : Int) (page : ByteArray) {M : ImgD} {E : Int} (hM : wrM m n page = M) (hE : wrE m n page = E) : Calls Tryz.prog 21 #[v, .int .i64 n, .string page] w (AnsJ w M E) := by
 have h' := h
 obtain ⟨ra, rc, sa, sc, fa, fc, na, nc, rfl, _⟩ := h.parts
 subst hM hE
 unfold wrM wrE
 by_cases hl : lookE m n = 0
 ·have hne : ¬ lookE m n ≠ 0 := by simpa using hl
  rw [if_neg hne, if_neg hne]
  by_cases hp : page.size = 4
  ·rw [if_pos hp, if_pos hp]
   obtain ⟨hC, n0, hn⟩ := lookE_prt hl
   obtain ⟨k, rfl⟩ := Int.eq_ofNat_of_zero_le n0
   exact wo_ok h' hC hn hp
  ·rw [if_neg hp, if_neg hp]
   exact wo_len ra rc sa sc fa fc na nc m n page w h' hl (by simp; omega)
 ·rw [if_pos hl, if_pos hl]
  exact wo_bad ra rc sa sc fa fc na nc m n page w h' _ rfl (by simpa using hl)
theorem run_append_nilS (W : World) (ty : TypeId) (g n c : Nat) (hn : n ≤ c) (c' : Nat) : (Builtin.append_ #[22, 22] ty #[.slice (some ⟨g, 0, none⟩) n c, .slice none 0 c']).run Tryz.prog W = .ok (.slice (some ⟨g, 0, none⟩) n c) W := by
 simp [Builtin.append_, go_sem, hn]
theorem run_copyS {W : World} (ty : TypeId) {g B : Nat} (hg : W.heap[g]? = some (.cells #[] 9)) (hB : B ≤ g) {src : Value} {xs : List ByteArray} (hsl : Ss W src xs) (hlen : xs.length ≤ 1000) :
  ∃ v' w', (Builtin.append_ #[22, 22] ty #[.slice (some ⟨g, 0, none⟩) 0 0, src]).run Tryz.prog W = .ok v' w' ∧ w'.ownsRow B 9 1 v' xs.length (strs xs) ∧ W.grownBy w' (some g) ∧ (v'.ownBlock = some g ∨ v'.ownBlock = some W.heap.size) := by
 have hgl := (szH hg)
 obtain ⟨ao, cap, rfl, hm, hcp, hc⟩ := hsl
 cases ao with
 | none =>
  have hx : xs = [] := Classical.byContradiction fun hne => by obtain ⟨_, _, e, _⟩ := hc hne; cases e
  subst hx
  refine ⟨_, W, run_append_nilS W ty g 0 0 (Nat.le_refl _) cap, empty_row hg hB, ⟨rfl, rfl, rfl, Nat.le_refl _, fun _ _ _ => rfl⟩, .inl rfl⟩
 | some a =>
  obtain ⟨i0, hi, hz0, hz1, hz2⟩ := info_parts info9
  have hnews : ∀ j u, (strs xs)[j]? = some u → W.cell? (a.add j) = some u := fun j u hu => by
   have hj : j < xs.length := by
    rcases Nat.lt_or_ge j xs.length with h | h
    ·exact h
    ·rw [List.getElem?_eq_none (by rw [strs_length]; exact h)] at hu; cases hu
   obtain ⟨b, off, e, _, hcell⟩ := hc (by intro e; rw [e] at hj; simp at hj)
   simp only [Option.some.injEq] at e
   subst e
   rw [addr_add, hcell j hj]
   unfold strs at hu
   rw [List.getElem?_map, List.getElem?_eq_getElem hj] at hu
   simp at hu
   simp [List.getD, hj, hu]
  obtain ⟨v', w', h1, h2, h3, _, h5⟩ := run_append_own_at (P := Tryz.prog) W B 22 ty 9 i0 (.string ByteArray.empty) 1 16 Tryz.underlying22 hi hz0 hz1 hz2 rfl (by decide) (.slice (some ⟨g, 0, none⟩) 0 0) 0 [] (empty_row hg hB) a xs.length cap (strs xs) (by rw [strs_length]; omega) hnews strs_mem (by omega) (by omega) (by omega)
  exact ⟨v', w', h1, by simpa using h2, h3, h5⟩
theorem wp_copyS {W : World} {o : Oper} {a : Act} {K : Act → World → Prop} {Q : Exit → Act → World → Prop} (s x : Operand) (ho : o.op = .call { callee := .builtin .append, args := #[s, x], argTypes := #[22, 22] })
  {g B : Nat} (hs : a.eval s = .slice (some ⟨g, 0, none⟩) 0 0) (hg : W.heap[g]? = some (.cells #[] 9)) (hB : B ≤ g) {src : Value} {xs : List ByteArray} (hx : a.eval x = src) (hsl : Ss W src xs) (hlen : xs.length ≤ 1000)
  (h : ∀ v' w', Hid (w'.ownsRow B 9 1 v' xs.length (strs xs)) → W.grownBy w' (some g) → Hid (v'.ownBlock = some g ∨ v'.ownBlock = some W.heap.size) → K (a.put o.dst v') w') : o.wp Tryz.prog a W K Q := by
 obtain ⟨v', w', hr, h2, h3, h4⟩ := run_copyS o.type hg hB hsl hlen
 unfold Oper.wp execOp
 simp only [ho, resolve, invoke, builtin, Sem.run_bind, Sem.run_pure, Result.andThen_ok, List.map_toArray, List.map_cons, List.map_nil, hs, hx, hr]
 exact h v' w' h2 h3 h4
end Go.Proofs.YtehleeibgkpjmaeGreat
