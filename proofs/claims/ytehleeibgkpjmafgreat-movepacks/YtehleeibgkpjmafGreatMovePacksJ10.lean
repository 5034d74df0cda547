/- Texts joined: WrN, WrO, WrX, WrV, SCheck, WrY, WrW, WrU. -/
import Derived.Test.YtehleeibgkpjmafGreatMovePacksJ9
import Derived.Deep.RegionHeld
import Derived.BigQuiet
import Derived.Test.YtehleeibgkpjmafGreatMovePacksJ8
import Derived.Test.YtehleeibgkpjmafGreatMovePacksJ4
import Derived.Test.YtehleeibgkpjmafGreatMovePacksJ5
import Derived.Deep.RegionWith
set_option linter.unusedVariables false
set_option linter.unusedSimpArgs false
/- What the two turns of a page's table need of the image: plain. -/
namespace Go.Proofs.YtehleeibgkpjmafGreat
open Go.RowKit Go.Shelf
set_option maxRecDepth 20000

theorem lay_shape {m : ImgD} (hC : checkE m = 0) {n : Nat} (hn : (n : Int) < m.guest) {e : Int} (he : e = 0 ∨ e = -1) {M : ImgD} (hM : layP m (n / 4) ((tableO m (n / 4)).set (n % 4) e) = some M) : shapeE M = 0 := by
  have hs := checkE_shape hC
  have hg := guest_ok hs
  have hro := root_ok hs
  have hrl := (shapeE_zero hs).2.2.1
  have hk : n / 4 < m.root.length := by omega
  obtain ⟨hiff, hsome⟩ := layP_tabled hC hk ((tableO m (n / 4)).set (n % 4) e)
  obtain ⟨t1, t2⟩ := tableO_ok hs hk
  have hisE : isE e = true := by rcases he with rfl | rfl <;> decide
  have htE : tabE m.slots e = true := by rcases he with rfl | rfl <;> simp [tabE]
  obtain ⟨M', hM', hkin⟩ := hsome M hM
  have hK := hkin (layP_len hrl hM) (tabled_len hrl hM')
  have hL := (tabled_laid hC hk (set_ck t1 hisE) (fun x hx => by rcases mem_set hx with h | h; exact t2 x h; rw [h]; exact htE) (tail_set (tableO_tail hs _) hn rfl hro.1 e) hM').1
  exact hK.shape.trans hL.shape

theorem wr2_facts {m m1 : ImgD} (hC : checkE m = 0) {n : Nat} (hn : (n : Int) < m.guest) (h1 : wr1 m n = some m1) (hd40 : grabN m1.slots ≠ 40) (page : ByteArray) :
    ∃ t : Nat, (takeD m1 (1, page, [])).root.getD (n / 4) 0 = (t : Int) ∧ t < (takeD m1 (1, page, [])).slots.length ∧ inPl (takeD m1 (1, page, [])) (n / 4) = true ∧ (takeD m1 (1, page, [])).refs.length = (takeD m1 (1, page, [])).slots.length ∧ n / 4 < (takeD m1 (1, page, [])).root.length ∧ ckE (tableO (takeD m1 (1, page, [])) (n / 4)) = 0 ∧ isE (grabN m1.slots : Int) = true := by
  have hs := checkE_shape hC
  have hs1 := lay_shape hC hn (.inr rfl) h1
  have hg4 := grabN_le40 (shapeE_zero hs1).2.1
  have hg := guest_ok hs
  have hro := root_ok hs
  have hk : n / 4 < m.root.length := by omega
  obtain ⟨t1, _⟩ := tableO_ok hs hk
  have h4 := ckE_len t1
  rcases wr1_spec hC hn with ⟨h, _⟩ | ⟨m1', h, h2, hgu, hsn, hrt, hsl, hrl, hrf⟩
  · rw [h1] at h; cases h
  rw [h1] at h
  cases h
  obtain ⟨x1, x2, x3, x4, x5⟩ := tabN_spec hC hk h2
  have hkd : ∀ es, ∀ j, kd (tabL m (n / 4) es) j = if j = tabN m (n / 4) then 2 else kd m.slots j := fun es j => layS_kd x2 j
  have hm1l : 1 ≤ m1.slots.length := (slotsE_parts (shapeE_zero hs1).2.1).1
  have hgs := grabN_spec hm1l
  obtain ⟨d, hd⟩ : ∃ d, grabN m1.slots = d := ⟨_, rfl⟩
  rw [hd] at hgs hd40 hg4 ⊢
  have hdt : d ≠ tabN m (n / 4) := fun e => by
    have := hgs.2.2.2
    rw [hsl, hkd, if_pos e] at this
    cases this
  have hrlt : n / 4 < m1.root.length := by rw [hrt, List.length_set]; exact hk
  have hrv : (takeD m1 (1, page, [])).root.getD (n / 4) 0 = (tabN m (n / 4) : Int) := by
    show m1.root.getD (n / 4) 0 = _
    rw [hrt, getD_setI, if_pos ⟨rfl, hk⟩]
  have hsl2 : (takeD m1 (1, page, [])).slots = layS m1.slots d (1, page, []) := by unfold takeD; rw [hd]
  have hrf2 : (takeD m1 (1, page, [])).refs = layR m1.refs d 1 := by unfold takeD; rw [hd]
  have htl : tabN m (n / 4) < m1.slots.length := by rw [hsl]; unfold tabL; rw [layS_length]; split <;> omega
  have hget : ∀ j, (takeD m1 (1, page, [])).slots.getD j default = if j = d then (1, page, []) else m1.slots.getD j default := fun j => by rw [hsl2]; exact layS_get hgs.2.1 j
  have hget1 : ∀ es, ∀ j, (tabL m (n / 4) es).getD j default = if j = tabN m (n / 4) then (2, ⟨#[]⟩, es) else m.slots.getD j default := fun es j => layS_get x2 j
  have htO : tableO (takeD m1 (1, page, [])) (n / 4) = (tableO m (n / 4)).set (n % 4) (-1) := by
    unfold tableO
    rw [hrv, if_neg (by omega)]
    unfold tabOf
    rw [Int.toNat_natCast, hget, if_neg (fun e => hdt e.symm), hsl, hget1, if_pos rfl]
    rfl
  have htl2 : tabN m (n / 4) < (takeD m1 (1, page, [])).slots.length := by
    have : m1.slots.length ≤ (takeD m1 (1, page, [])).slots.length := by rw [hsl2, layS_length]; split <;> omega
    omega
  have hip : inPl (takeD m1 (1, page, [])) (n / 4) = true := by
    unfold inPl
    rw [hrv, Int.toNat_natCast]
    simp only [Bool.and_eq_true, bne_iff_ne, ne_eq, beq_iff_eq]
    refine ⟨by omega, ?_⟩
    rw [hrf2]
    unfold layR
    split
    · rename_i e
      have : tabN m (n / 4) < m1.refs.length := by rw [hrl]; exact htl
      have e2 : (m1.refs ++ [(1 : Int)]).getD (tabN m (n / 4)) 0 = m1.refs.getD (tabN m (n / 4)) 0 := by simp [List.getD, List.getElem?_append, this]
      rw [e2]; exact hrf
    · rw [getD_setI, if_neg (fun e => hdt e.1)]; exact hrf
  refine ⟨_, hrv, htl2, hip, layR_len hrl _ _ _, hrlt, by rw [htO]; exact set_ck t1 (by decide), ?_⟩
  unfold isE
  have := hgs.1
  simp
  omega
end Go.Proofs.YtehleeibgkpjmafGreat
/- Contracts of writing: Write's closure. -/
namespace Go.Proofs.YtehleeibgkpjmafGreat
open Go.RowKit Go.Shelf
set_option maxRecDepth 20000
set_option linter.unusedSimpArgs false
set_option linter.unusedVariables false

theorem drewN_first {B q : Nat} {W w3 : World} (h : Below B (W.drewN q) w3) : Below B W w3 := ⟨h.os, h.tape, h.output, h.size, h.block⟩
theorem DTo.drewN_first {B D q : Nat} {W w1 : World} {m m1 : ImgD} {val val1 : Nm → Value} {ev : Value} (h : DTo (W.drewN q) w1 B D m val ev m1 val1) : DTo W w1 B D m val ev m1 val1 := ⟨h.dk, Go.Proofs.YtehleeibgkpjmafGreat.drewN_first h.bel, h.keep, h.src⟩

set_option maxHeartbeats 4000000 in
theorem wcore_A_n1 (bk bn bs n d B D : Nat) (k : Int) (page : ByteArray) (W : World) (m m1 m2 M : ImgD) (val : Nm → Value) (g1 : decide (0 < k) = false) (g2 : ¬ 0 < k) (hck : W.cell? ⟨bk, 0, none⟩ = some (.int .i64 k)) (hcn : W.cell? ⟨bn, 0, none⟩ = some (.int .i64 (n : Int))) (HS : Hid (∀ X, Below B W X → (fun X : World => X.cell? ⟨bn, 0, none⟩ = some (.int .i64 (n : Int)) ∧ X.cell? ⟨bs, 0, none⟩ = some (.int .i64 1) ∧ X.cell? ⟨bs, 0 + 1, none⟩ = some (.string page) ∧ X.cell? ⟨bs, 0 + 1 + 1, none⟩ = some (.slice none 0 0)) X)) (HP1 : Hid (∀ q, Calls Tryz.prog 60 #[.pointer (some ⟨D, 0, none⟩), .int .i64 (n : Int), .int .i64 (-1)] (W.drewN q) (Tells (W.drewN q) B D m val nilV none))) :
    Calls Tryz.prog 59 #[.pointer (some ⟨D, 0, none⟩), .pointer (some ⟨bk, 0, none⟩), .pointer (some ⟨bn, 0, none⟩), .pointer (some ⟨bs, 0, none⟩)] W (fun r W' => r = .panicked noSlotP ∧ Below B W W') := by
  go_enter Tryz.func59, Tryz.ntmps59
  try go_wp2_with fail
  go_quiet (fail)
  go_wp2_with (go_at_call 60; refine (HP1.out _).mono ?_; rintro e w3 ⟨rfl, b3⟩; exact ⟨rfl, rfl, drewN_first b3⟩)

set_option maxHeartbeats 4000000 in
theorem wcore_A_n2 (bk bn bs n d B D : Nat) (k : Int) (page : ByteArray) (W : World) (m m1 m2 M : ImgD) (val : Nm → Value) (g1 : decide (0 < k) = false) (g2 : ¬ 0 < k) (hck : W.cell? ⟨bk, 0, none⟩ = some (.int .i64 k)) (hcn : W.cell? ⟨bn, 0, none⟩ = some (.int .i64 (n : Int))) (HS : Hid (∀ X, Below B W X → (fun X : World => X.cell? ⟨bn, 0, none⟩ = some (.int .i64 (n : Int)) ∧ X.cell? ⟨bs, 0, none⟩ = some (.int .i64 1) ∧ X.cell? ⟨bs, 0 + 1, none⟩ = some (.string page) ∧ X.cell? ⟨bs, 0 + 1 + 1, none⟩ = some (.slice none 0 0)) X)) (HP1 : Hid (∀ q, Calls Tryz.prog 60 #[.pointer (some ⟨D, 0, none⟩), .int .i64 (n : Int), .int .i64 (-1)] (W.drewN q) (Tells (W.drewN q) B D m val nilV (some m1)))) (HTK : Hid (∀ (w1 : World) (val1 : Nm → Value), DK w1 B D val1 m1 → Below B W w1 → Calls Tryz.prog 61 #[.pointer (some ⟨D, 0, none⟩), .agg #[.int .i64 1, .string page, .slice none 0 0]] w1 (fun r w2 => r = .panicked noSlotP ∧ Below B W w2))) :
    Calls Tryz.prog 59 #[.pointer (some ⟨D, 0, none⟩), .pointer (some ⟨bk, 0, none⟩), .pointer (some ⟨bn, 0, none⟩), .pointer (some ⟨bs, 0, none⟩)] W (fun r W' => r = .panicked noSlotP ∧ Below B W W') := by
  go_enter Tryz.func59, Tryz.ntmps59
  try go_wp2_with fail
  go_quiet (fail)
  go_wp2_with (go_at_call 60; refine (HP1.out _).mono ?_; rintro e w1 ⟨rfl, val1, hT1⟩; have hT1 := DTo.drewN_first hT1; have HT1 := Hid_mkW hT1; clear hT1)
  clear hck hcn
  refine wp_region_held_drew (S := (fun X : World => X.cell? ⟨bn, 0, none⟩ = some (.int .i64 (n : Int)) ∧ X.cell? ⟨bs, 0, none⟩ = some (.int .i64 1) ∧ X.cell? ⟨bs, 0 + 1, none⟩ = some (.string page) ∧ X.cell? ⟨bs, 0 + 1 + 1, none⟩ = some (.slice none 0 0))) (by kernel_rfl) (HS.out _ (to_drew HT1.out.bel)) (fun hHeld => ?_)
  refine wpAnyH_take (i := 0) (v := .pointer (some ⟨D, 0, none⟩)) rfl (by kernel_rfl) (by kernel_rfl) (by kernel_rfl) (fun _ _ _ h => h) (Or.inl ⟨by rfl, fun w' hSw => by obtain ⟨q1, q2, q3, q4⟩ := hSw; go_simp⟩) hHeld ?_
  simp only [Act.put, List.getElem_toArray, List.getElem_cons_succ, List.getElem_cons_zero, List.setIfInBounds_toArray, List.set_cons_zero, List.set_cons_succ]
  refine wpAnyH_take (i := 1) (v := .int .i64 (n : Int)) rfl (by kernel_rfl) (by kernel_rfl) (by kernel_rfl) (fun _ _ _ h => h) (Or.inl ⟨by rfl, fun w' hSw => by obtain ⟨q1, q2, q3, q4⟩ := hSw; go_simp⟩) hHeld ?_
  simp only [Act.put, List.getElem_toArray, List.getElem_cons_succ, List.getElem_cons_zero, List.setIfInBounds_toArray, List.set_cons_zero, List.set_cons_succ]
  refine wpAnyH_take (i := 2) (v := .pointer (some ⟨D, 0, none⟩)) rfl (by kernel_rfl) (by kernel_rfl) (by kernel_rfl) (fun _ _ _ h => h) (Or.inl ⟨by rfl, fun w' hSw => by obtain ⟨q1, q2, q3, q4⟩ := hSw; go_simp⟩) hHeld ?_
  simp only [Act.put, List.getElem_toArray, List.getElem_cons_succ, List.getElem_cons_zero, List.setIfInBounds_toArray, List.set_cons_zero, List.set_cons_succ]
  refine wpAnyH_take (i := 3) (v := .agg #[.int .i64 1, .string page, .slice none 0 0]) rfl (by kernel_rfl) (by kernel_rfl) (by kernel_rfl) (fun _ _ _ h => h) (Or.inl ⟨by rfl, fun w' hSw => by obtain ⟨q1, q2, q3, q4⟩ := hSw; go_simp⟩) hHeld ?_
  simp only [Act.put, List.getElem_toArray, List.getElem_cons_succ, List.getElem_cons_zero, List.setIfInBounds_toArray, List.set_cons_zero, List.set_cons_succ]
  refine wpAnyH_ready (rs := [4]) (by kernel_rfl) (by simp) ?_
  refine AllReadyH.cons rfl (fun K hK => ?_) AllReadyH.nil
  clear hHeld
  simp only [Act.put, List.getElem_toArray, List.getElem_cons_succ, List.getElem_cons_zero, List.setIfInBounds_toArray, List.set_cons_zero, List.set_cons_succ]
  rw [if_pos (by rfl)]
  clear hK
  go_wp2_with (go_at_call 61; refine (HTK.out _ _ HT1.out.dk.drew (to_drew HT1.out.bel)).mono ?_; rintro e w2 ⟨rfl, b2⟩; exact ⟨rfl, rfl, b2⟩)

set_option maxHeartbeats 4000000 in
theorem wcore_A_n3 (bk bn bs n d B D : Nat) (k : Int) (page : ByteArray) (W : World) (m m1 m2 M : ImgD) (val : Nm → Value) (g1 : decide (0 < k) = false) (g2 : ¬ 0 < k) (hck : W.cell? ⟨bk, 0, none⟩ = some (.int .i64 k)) (hcn : W.cell? ⟨bn, 0, none⟩ = some (.int .i64 (n : Int))) (HS : Hid (∀ X, Below B W X → (fun X : World => X.cell? ⟨bn, 0, none⟩ = some (.int .i64 (n : Int)) ∧ X.cell? ⟨bs, 0, none⟩ = some (.int .i64 1) ∧ X.cell? ⟨bs, 0 + 1, none⟩ = some (.string page) ∧ X.cell? ⟨bs, 0 + 1 + 1, none⟩ = some (.slice none 0 0)) X)) (HP1 : Hid (∀ q, Calls Tryz.prog 60 #[.pointer (some ⟨D, 0, none⟩), .int .i64 (n : Int), .int .i64 (-1)] (W.drewN q) (Tells (W.drewN q) B D m val nilV (some m1)))) (HTK : Hid (∀ (w1 : World) (val1 : Nm → Value), DK w1 B D val1 m1 → Below B W w1 → Calls Tryz.prog 61 #[.pointer (some ⟨D, 0, none⟩), .agg #[.int .i64 1, .string page, .slice none 0 0]] w1 (fun r w2 => r = .returned (.int .i64 (d : Int)) ∧ ∃ val2, DTo w1 w2 B D m1 val1 nilV m2 val2))) (HP2 : Hid (∀ (w2 : World) (val2 : Nm → Value), DK w2 B D val2 m2 → Below B W w2 → Calls Tryz.prog 60 #[.pointer (some ⟨D, 0, none⟩), .int .i64 (n : Int), .int .i64 (d : Int)] w2 (Tells w2 B D m2 val2 nilV none))) :
    Calls Tryz.prog 59 #[.pointer (some ⟨D, 0, none⟩), .pointer (some ⟨bk, 0, none⟩), .pointer (some ⟨bn, 0, none⟩), .pointer (some ⟨bs, 0, none⟩)] W (fun r W' => r = .panicked noSlotP ∧ Below B W W') := by
  go_enter Tryz.func59, Tryz.ntmps59
  try go_wp2_with fail
  go_quiet (fail)
  go_wp2_with (go_at_call 60; refine (HP1.out _).mono ?_; rintro e w1 ⟨rfl, val1, hT1⟩; have hT1 := DTo.drewN_first hT1; have HT1 := Hid_mkW hT1; clear hT1)
  clear hck hcn
  refine wp_region_held_drew (S := (fun X : World => X.cell? ⟨bn, 0, none⟩ = some (.int .i64 (n : Int)) ∧ X.cell? ⟨bs, 0, none⟩ = some (.int .i64 1) ∧ X.cell? ⟨bs, 0 + 1, none⟩ = some (.string page) ∧ X.cell? ⟨bs, 0 + 1 + 1, none⟩ = some (.slice none 0 0))) (by kernel_rfl) (HS.out _ (to_drew HT1.out.bel)) (fun hHeld => ?_)
  refine wpAnyH_take (i := 0) (v := .pointer (some ⟨D, 0, none⟩)) rfl (by kernel_rfl) (by kernel_rfl) (by kernel_rfl) (fun _ _ _ h => h) (Or.inl ⟨by rfl, fun w' hSw => by obtain ⟨q1, q2, q3, q4⟩ := hSw; go_simp⟩) hHeld ?_
  simp only [Act.put, List.getElem_toArray, List.getElem_cons_succ, List.getElem_cons_zero, List.setIfInBounds_toArray, List.set_cons_zero, List.set_cons_succ]
  refine wpAnyH_take (i := 1) (v := .int .i64 (n : Int)) rfl (by kernel_rfl) (by kernel_rfl) (by kernel_rfl) (fun _ _ _ h => h) (Or.inl ⟨by rfl, fun w' hSw => by obtain ⟨q1, q2, q3, q4⟩ := hSw; go_simp⟩) hHeld ?_
  simp only [Act.put, List.getElem_toArray, List.getElem_cons_succ, List.getElem_cons_zero, List.setIfInBounds_toArray, List.set_cons_zero, List.set_cons_succ]
  refine wpAnyH_take (i := 2) (v := .pointer (some ⟨D, 0, none⟩)) rfl (by kernel_rfl) (by kernel_rfl) (by kernel_rfl) (fun _ _ _ h => h) (Or.inl ⟨by rfl, fun w' hSw => by obtain ⟨q1, q2, q3, q4⟩ := hSw; go_simp⟩) hHeld ?_
  simp only [Act.put, List.getElem_toArray, List.getElem_cons_succ, List.getElem_cons_zero, List.setIfInBounds_toArray, List.set_cons_zero, List.set_cons_succ]
  refine wpAnyH_take (i := 3) (v := .agg #[.int .i64 1, .string page, .slice none 0 0]) rfl (by kernel_rfl) (by kernel_rfl) (by kernel_rfl) (fun _ _ _ h => h) (Or.inl ⟨by rfl, fun w' hSw => by obtain ⟨q1, q2, q3, q4⟩ := hSw; go_simp⟩) hHeld ?_
  simp only [Act.put, List.getElem_toArray, List.getElem_cons_succ, List.getElem_cons_zero, List.setIfInBounds_toArray, List.set_cons_zero, List.set_cons_succ]
  refine wpAnyH_ready (rs := [4]) (by kernel_rfl) (by simp) ?_
  refine AllReadyH.cons rfl (fun K hK => ?_) AllReadyH.nil
  clear hHeld
  simp only [Act.put, List.getElem_toArray, List.getElem_cons_succ, List.getElem_cons_zero, List.setIfInBounds_toArray, List.set_cons_zero, List.set_cons_succ]
  rw [if_pos (by rfl)]
  go_wp2_with (go_at_call 61; refine (HTK.out _ _ HT1.out.dk.drew (to_drew HT1.out.bel)).mono ?_; rintro e w2 ⟨rfl, val2, hT2⟩; have HT2 := Hid_mkW (HT1.out.drew.andThen hT2); clear hT2)
  refine hK.out _ _ (HS.out _ HT2.out.bel) (fun hHeld => ?_)
  clear hK hHeld K
  try simp only [Act.put, List.getElem_toArray, List.getElem_cons_succ, List.getElem_cons_zero, List.setIfInBounds_toArray, List.set_cons_zero, List.set_cons_succ]
  refine wpAnyH_ready (rs := [5]) (by kernel_rfl) (by simp) ?_
  refine AllReadyH.cons rfl (fun K hK => ?_) AllReadyH.nil
  simp only [Act.put, List.getElem_toArray, List.getElem_cons_succ, List.getElem_cons_zero, List.setIfInBounds_toArray, List.set_cons_zero, List.set_cons_succ]
  rw [if_pos (by rfl)]
  clear hK
  go_wp2_with (go_at_call 60; refine (HP2.out _ _ HT2.out.dk HT2.out.bel).mono ?_; rintro e w3 ⟨rfl, b3⟩; exact ⟨rfl, rfl, HT2.out.bel.trans b3⟩)

set_option maxHeartbeats 4000000 in
theorem wcore_A_ok (bk bn bs n d B D : Nat) (k : Int) (page : ByteArray) (W : World) (m m1 m2 M : ImgD) (val : Nm → Value) (g1 : decide (0 < k) = false) (g2 : ¬ 0 < k) (hck : W.cell? ⟨bk, 0, none⟩ = some (.int .i64 k)) (hcn : W.cell? ⟨bn, 0, none⟩ = some (.int .i64 (n : Int))) (HS : Hid (∀ X, Below B W X → (fun X : World => X.cell? ⟨bn, 0, none⟩ = some (.int .i64 (n : Int)) ∧ X.cell? ⟨bs, 0, none⟩ = some (.int .i64 1) ∧ X.cell? ⟨bs, 0 + 1, none⟩ = some (.string page) ∧ X.cell? ⟨bs, 0 + 1 + 1, none⟩ = some (.slice none 0 0)) X)) (HP1 : Hid (∀ q, Calls Tryz.prog 60 #[.pointer (some ⟨D, 0, none⟩), .int .i64 (n : Int), .int .i64 (-1)] (W.drewN q) (Tells (W.drewN q) B D m val nilV (some m1)))) (HTK : Hid (∀ (w1 : World) (val1 : Nm → Value), DK w1 B D val1 m1 → Below B W w1 → Calls Tryz.prog 61 #[.pointer (some ⟨D, 0, none⟩), .agg #[.int .i64 1, .string page, .slice none 0 0]] w1 (fun r w2 => r = .returned (.int .i64 (d : Int)) ∧ ∃ val2, DTo w1 w2 B D m1 val1 nilV m2 val2))) (HP2 : Hid (∀ (w2 : World) (val2 : Nm → Value), DK w2 B D val2 m2 → Below B W w2 → Calls Tryz.prog 60 #[.pointer (some ⟨D, 0, none⟩), .int .i64 (n : Int), .int .i64 (d : Int)] w2 (Tells w2 B D m2 val2 nilV (some M)))) :
    Calls Tryz.prog 59 #[.pointer (some ⟨D, 0, none⟩), .pointer (some ⟨bk, 0, none⟩), .pointer (some ⟨bn, 0, none⟩), .pointer (some ⟨bs, 0, none⟩)] W (fun r W' => ∃ val', r = .returned (.tuple #[]) ∧ DTo W W' B D m val nilV M val') := by
  go_enter Tryz.func59, Tryz.ntmps59
  try go_wp2_with fail
  go_quiet (fail)
  go_wp2_with (go_at_call 60; refine (HP1.out _).mono ?_; rintro e w1 ⟨rfl, val1, hT1⟩; have hT1 := DTo.drewN_first hT1; have HT1 := Hid_mkW hT1; clear hT1)
  clear hck hcn
  refine wp_region_held_drew (S := (fun X : World => X.cell? ⟨bn, 0, none⟩ = some (.int .i64 (n : Int)) ∧ X.cell? ⟨bs, 0, none⟩ = some (.int .i64 1) ∧ X.cell? ⟨bs, 0 + 1, none⟩ = some (.string page) ∧ X.cell? ⟨bs, 0 + 1 + 1, none⟩ = some (.slice none 0 0))) (by kernel_rfl) (HS.out _ (to_drew HT1.out.bel)) (fun hHeld => ?_)
  refine wpAnyH_take (i := 0) (v := .pointer (some ⟨D, 0, none⟩)) rfl (by kernel_rfl) (by kernel_rfl) (by kernel_rfl) (fun _ _ _ h => h) (Or.inl ⟨by rfl, fun w' hSw => by obtain ⟨q1, q2, q3, q4⟩ := hSw; go_simp⟩) hHeld ?_
  simp only [Act.put, List.getElem_toArray, List.getElem_cons_succ, List.getElem_cons_zero, List.setIfInBounds_toArray, List.set_cons_zero, List.set_cons_succ]
  refine wpAnyH_take (i := 1) (v := .int .i64 (n : Int)) rfl (by kernel_rfl) (by kernel_rfl) (by kernel_rfl) (fun _ _ _ h => h) (Or.inl ⟨by rfl, fun w' hSw => by obtain ⟨q1, q2, q3, q4⟩ := hSw; go_simp⟩) hHeld ?_
  simp only [Act.put, List.getElem_toArray, List.getElem_cons_succ, List.getElem_cons_zero, List.setIfInBounds_toArray, List.set_cons_zero, List.set_cons_succ]
  refine wpAnyH_take (i := 2) (v := .pointer (some ⟨D, 0, none⟩)) rfl (by kernel_rfl) (by kernel_rfl) (by kernel_rfl) (fun _ _ _ h => h) (Or.inl ⟨by rfl, fun w' hSw => by obtain ⟨q1, q2, q3, q4⟩ := hSw; go_simp⟩) hHeld ?_
  simp only [Act.put, List.getElem_toArray, List.getElem_cons_succ, List.getElem_cons_zero, List.setIfInBounds_toArray, List.set_cons_zero, List.set_cons_succ]
  refine wpAnyH_take (i := 3) (v := .agg #[.int .i64 1, .string page, .slice none 0 0]) rfl (by kernel_rfl) (by kernel_rfl) (by kernel_rfl) (fun _ _ _ h => h) (Or.inl ⟨by rfl, fun w' hSw => by obtain ⟨q1, q2, q3, q4⟩ := hSw; go_simp⟩) hHeld ?_
  simp only [Act.put, List.getElem_toArray, List.getElem_cons_succ, List.getElem_cons_zero, List.setIfInBounds_toArray, List.set_cons_zero, List.set_cons_succ]
  refine wpAnyH_ready (rs := [4]) (by kernel_rfl) (by simp) ?_
  refine AllReadyH.cons rfl (fun K hK => ?_) AllReadyH.nil
  clear hHeld
  simp only [Act.put, List.getElem_toArray, List.getElem_cons_succ, List.getElem_cons_zero, List.setIfInBounds_toArray, List.set_cons_zero, List.set_cons_succ]
  rw [if_pos (by rfl)]
  go_wp2_with (go_at_call 61; refine (HTK.out _ _ HT1.out.dk.drew (to_drew HT1.out.bel)).mono ?_; rintro e w2 ⟨rfl, val2, hT2⟩; have HT2 := Hid_mkW (HT1.out.drew.andThen hT2); clear hT2)
  refine hK.out _ _ (HS.out _ HT2.out.bel) (fun hHeld => ?_)
  clear hK hHeld K
  try simp only [Act.put, List.getElem_toArray, List.getElem_cons_succ, List.getElem_cons_zero, List.setIfInBounds_toArray, List.set_cons_zero, List.set_cons_succ]
  refine wpAnyH_ready (rs := [5]) (by kernel_rfl) (by simp) ?_
  refine AllReadyH.cons rfl (fun K hK => ?_) AllReadyH.nil
  simp only [Act.put, List.getElem_toArray, List.getElem_cons_succ, List.getElem_cons_zero, List.setIfInBounds_toArray, List.set_cons_zero, List.set_cons_succ]
  rw [if_pos (by rfl)]
  go_wp2_with (go_at_call 60; refine (HP2.out _ _ HT2.out.dk HT2.out.bel).mono ?_; rintro e w3 ⟨rfl, val3, hT3⟩; have HT3 := Hid_mkW (HT2.out.andThen hT3); clear hT3)
  refine hK.out _ _ (HS.out _ HT3.out.bel) (fun hHeld => ?_)
  clear hK hHeld K
  refine wpAnyH_done (by kernel_rfl) ?_ _
  go_wp2_with fail
  go_end0
  exact ⟨val3, rfl, HT3.out⟩

set_option maxHeartbeats 4000000 in
theorem wcore_B_n1 (bk bn bs n d B D : Nat) (k : Int) (page : ByteArray) (W : World) (m m1 m2 M : ImgD) (val : Nm → Value) (j fg fc sl : Nat) (x : Int) (g1 : decide (0 < j) = true) (g2 : 0 < j) (g3 : (j : Int) < (sl : Int)) (g4 : j < sl) (d3 : W.cell? ⟨D, 3, none⟩ = some (.slice (some ⟨fg, 0, none⟩) sl fc)) (c2 : W.cell? ⟨fg, j, none⟩ = some (.int .i64 x)) (g5 : (x == 1) = false) (hck : W.cell? ⟨bk, 0, none⟩ = some (.int .i64 (j : Int))) (hcn : W.cell? ⟨bn, 0, none⟩ = some (.int .i64 (n : Int))) (HS : Hid (∀ X, Below B W X → (fun X : World => X.cell? ⟨bn, 0, none⟩ = some (.int .i64 (n : Int)) ∧ X.cell? ⟨bs, 0, none⟩ = some (.int .i64 1) ∧ X.cell? ⟨bs, 0 + 1, none⟩ = some (.string page) ∧ X.cell? ⟨bs, 0 + 1 + 1, none⟩ = some (.slice none 0 0)) X)) (HP1 : Hid (∀ q, Calls Tryz.prog 60 #[.pointer (some ⟨D, 0, none⟩), .int .i64 (n : Int), .int .i64 (-1)] (W.drewN q) (Tells (W.drewN q) B D m val nilV none))) :
    Calls Tryz.prog 59 #[.pointer (some ⟨D, 0, none⟩), .pointer (some ⟨bk, 0, none⟩), .pointer (some ⟨bn, 0, none⟩), .pointer (some ⟨bs, 0, none⟩)] W (fun r W' => r = .panicked noSlotP ∧ Below B W W') := by
  go_enter Tryz.func59, Tryz.ntmps59
  try go_wp2_with fail
  go_quiet (fail)
  go_wp2_with (go_at_call 60; refine (HP1.out _).mono ?_; rintro e w3 ⟨rfl, b3⟩; exact ⟨rfl, rfl, drewN_first b3⟩)

set_option maxHeartbeats 4000000 in
theorem wcore_B_n2 (bk bn bs n d B D : Nat) (k : Int) (page : ByteArray) (W : World) (m m1 m2 M : ImgD) (val : Nm → Value) (j fg fc sl : Nat) (x : Int) (g1 : decide (0 < j) = true) (g2 : 0 < j) (g3 : (j : Int) < (sl : Int)) (g4 : j < sl) (d3 : W.cell? ⟨D, 3, none⟩ = some (.slice (some ⟨fg, 0, none⟩) sl fc)) (c2 : W.cell? ⟨fg, j, none⟩ = some (.int .i64 x)) (g5 : (x == 1) = false) (hck : W.cell? ⟨bk, 0, none⟩ = some (.int .i64 (j : Int))) (hcn : W.cell? ⟨bn, 0, none⟩ = some (.int .i64 (n : Int))) (HS : Hid (∀ X, Below B W X → (fun X : World => X.cell? ⟨bn, 0, none⟩ = some (.int .i64 (n : Int)) ∧ X.cell? ⟨bs, 0, none⟩ = some (.int .i64 1) ∧ X.cell? ⟨bs, 0 + 1, none⟩ = some (.string page) ∧ X.cell? ⟨bs, 0 + 1 + 1, none⟩ = some (.slice none 0 0)) X)) (HP1 : Hid (∀ q, Calls Tryz.prog 60 #[.pointer (some ⟨D, 0, none⟩), .int .i64 (n : Int), .int .i64 (-1)] (W.drewN q) (Tells (W.drewN q) B D m val nilV (some m1)))) (HTK : Hid (∀ (w1 : World) (val1 : Nm → Value), DK w1 B D val1 m1 → Below B W w1 → Calls Tryz.prog 61 #[.pointer (some ⟨D, 0, none⟩), .agg #[.int .i64 1, .string page, .slice none 0 0]] w1 (fun r w2 => r = .panicked noSlotP ∧ Below B W w2))) :
    Calls Tryz.prog 59 #[.pointer (some ⟨D, 0, none⟩), .pointer (some ⟨bk, 0, none⟩), .pointer (some ⟨bn, 0, none⟩), .pointer (some ⟨bs, 0, none⟩)] W (fun r W' => r = .panicked noSlotP ∧ Below B W W') := by
  go_enter Tryz.func59, Tryz.ntmps59
  try go_wp2_with fail
  go_quiet (fail)
  go_wp2_with (go_at_call 60; refine (HP1.out _).mono ?_; rintro e w1 ⟨rfl, val1, hT1⟩; have hT1 := DTo.drewN_first hT1; have HT1 := Hid_mkW hT1; clear hT1)
  clear hck hcn
  refine wp_region_held_drew (S := (fun X : World => X.cell? ⟨bn, 0, none⟩ = some (.int .i64 (n : Int)) ∧ X.cell? ⟨bs, 0, none⟩ = some (.int .i64 1) ∧ X.cell? ⟨bs, 0 + 1, none⟩ = some (.string page) ∧ X.cell? ⟨bs, 0 + 1 + 1, none⟩ = some (.slice none 0 0))) (by kernel_rfl) (HS.out _ (to_drew HT1.out.bel)) (fun hHeld => ?_)
  refine wpAnyH_take (i := 0) (v := .pointer (some ⟨D, 0, none⟩)) rfl (by kernel_rfl) (by kernel_rfl) (by kernel_rfl) (fun _ _ _ h => h) (Or.inl ⟨by rfl, fun w' hSw => by obtain ⟨q1, q2, q3, q4⟩ := hSw; go_simp⟩) hHeld ?_
  simp only [Act.put, List.getElem_toArray, List.getElem_cons_succ, List.getElem_cons_zero, List.setIfInBounds_toArray, List.set_cons_zero, List.set_cons_succ]
  refine wpAnyH_take (i := 1) (v := .int .i64 (n : Int)) rfl (by kernel_rfl) (by kernel_rfl) (by kernel_rfl) (fun _ _ _ h => h) (Or.inl ⟨by rfl, fun w' hSw => by obtain ⟨q1, q2, q3, q4⟩ := hSw; go_simp⟩) hHeld ?_
  simp only [Act.put, List.getElem_toArray, List.getElem_cons_succ, List.getElem_cons_zero, List.setIfInBounds_toArray, List.set_cons_zero, List.set_cons_succ]
  refine wpAnyH_take (i := 2) (v := .pointer (some ⟨D, 0, none⟩)) rfl (by kernel_rfl) (by kernel_rfl) (by kernel_rfl) (fun _ _ _ h => h) (Or.inl ⟨by rfl, fun w' hSw => by obtain ⟨q1, q2, q3, q4⟩ := hSw; go_simp⟩) hHeld ?_
  simp only [Act.put, List.getElem_toArray, List.getElem_cons_succ, List.getElem_cons_zero, List.setIfInBounds_toArray, List.set_cons_zero, List.set_cons_succ]
  refine wpAnyH_take (i := 3) (v := .agg #[.int .i64 1, .string page, .slice none 0 0]) rfl (by kernel_rfl) (by kernel_rfl) (by kernel_rfl) (fun _ _ _ h => h) (Or.inl ⟨by rfl, fun w' hSw => by obtain ⟨q1, q2, q3, q4⟩ := hSw; go_simp⟩) hHeld ?_
  simp only [Act.put, List.getElem_toArray, List.getElem_cons_succ, List.getElem_cons_zero, List.setIfInBounds_toArray, List.set_cons_zero, List.set_cons_succ]
  refine wpAnyH_ready (rs := [4]) (by kernel_rfl) (by simp) ?_
  refine AllReadyH.cons rfl (fun K hK => ?_) AllReadyH.nil
  clear hHeld
  simp only [Act.put, List.getElem_toArray, List.getElem_cons_succ, List.getElem_cons_zero, List.setIfInBounds_toArray, List.set_cons_zero, List.set_cons_succ]
  rw [if_pos (by rfl)]
  clear hK
  go_wp2_with (go_at_call 61; refine (HTK.out _ _ HT1.out.dk.drew (to_drew HT1.out.bel)).mono ?_; rintro e w2 ⟨rfl, b2⟩; exact ⟨rfl, rfl, b2⟩)

set_option maxHeartbeats 4000000 in
theorem wcore_B_n3 (bk bn bs n d B D : Nat) (k : Int) (page : ByteArray) (W : World) (m m1 m2 M : ImgD) (val : Nm → Value) (j fg fc sl : Nat) (x : Int) (g1 : decide (0 < j) = true) (g2 : 0 < j) (g3 : (j : Int) < (sl : Int)) (g4 : j < sl) (d3 : W.cell? ⟨D, 3, none⟩ = some (.slice (some ⟨fg, 0, none⟩) sl fc)) (c2 : W.cell? ⟨fg, j, none⟩ = some (.int .i64 x)) (g5 : (x == 1) = false) (hck : W.cell? ⟨bk, 0, none⟩ = some (.int .i64 (j : Int))) (hcn : W.cell? ⟨bn, 0, none⟩ = some (.int .i64 (n : Int))) (HS : Hid (∀ X, Below B W X → (fun X : World => X.cell? ⟨bn, 0, none⟩ = some (.int .i64 (n : Int)) ∧ X.cell? ⟨bs, 0, none⟩ = some (.int .i64 1) ∧ X.cell? ⟨bs, 0 + 1, none⟩ = some (.string page) ∧ X.cell? ⟨bs, 0 + 1 + 1, none⟩ = some (.slice none 0 0)) X)) (HP1 : Hid (∀ q, Calls Tryz.prog 60 #[.pointer (some ⟨D, 0, none⟩), .int .i64 (n : Int), .int .i64 (-1)] (W.drewN q) (Tells (W.drewN q) B D m val nilV (some m1)))) (HTK : Hid (∀ (w1 : World) (val1 : Nm → Value), DK w1 B D val1 m1 → Below B W w1 → Calls Tryz.prog 61 #[.pointer (some ⟨D, 0, none⟩), .agg #[.int .i64 1, .string page, .slice none 0 0]] w1 (fun r w2 => r = .returned (.int .i64 (d : Int)) ∧ ∃ val2, DTo w1 w2 B D m1 val1 nilV m2 val2))) (HP2 : Hid (∀ (w2 : World) (val2 : Nm → Value), DK w2 B D val2 m2 → Below B W w2 → Calls Tryz.prog 60 #[.pointer (some ⟨D, 0, none⟩), .int .i64 (n : Int), .int .i64 (d : Int)] w2 (Tells w2 B D m2 val2 nilV none))) :
    Calls Tryz.prog 59 #[.pointer (some ⟨D, 0, none⟩), .pointer (some ⟨bk, 0, none⟩), .pointer (some ⟨bn, 0, none⟩), .pointer (some ⟨bs, 0, none⟩)] W (fun r W' => r = .panicked noSlotP ∧ Below B W W') := by
  go_enter Tryz.func59, Tryz.ntmps59
  try go_wp2_with fail
  go_quiet (fail)
  go_wp2_with (go_at_call 60; refine (HP1.out _).mono ?_; rintro e w1 ⟨rfl, val1, hT1⟩; have hT1 := DTo.drewN_first hT1; have HT1 := Hid_mkW hT1; clear hT1)
  clear hck hcn
  refine wp_region_held_drew (S := (fun X : World => X.cell? ⟨bn, 0, none⟩ = some (.int .i64 (n : Int)) ∧ X.cell? ⟨bs, 0, none⟩ = some (.int .i64 1) ∧ X.cell? ⟨bs, 0 + 1, none⟩ = some (.string page) ∧ X.cell? ⟨bs, 0 + 1 + 1, none⟩ = some (.slice none 0 0))) (by kernel_rfl) (HS.out _ (to_drew HT1.out.bel)) (fun hHeld => ?_)
  refine wpAnyH_take (i := 0) (v := .pointer (some ⟨D, 0, none⟩)) rfl (by kernel_rfl) (by kernel_rfl) (by kernel_rfl) (fun _ _ _ h => h) (Or.inl ⟨by rfl, fun w' hSw => by obtain ⟨q1, q2, q3, q4⟩ := hSw; go_simp⟩) hHeld ?_
  simp only [Act.put, List.getElem_toArray, List.getElem_cons_succ, List.getElem_cons_zero, List.setIfInBounds_toArray, List.set_cons_zero, List.set_cons_succ]
  refine wpAnyH_take (i := 1) (v := .int .i64 (n : Int)) rfl (by kernel_rfl) (by kernel_rfl) (by kernel_rfl) (fun _ _ _ h => h) (Or.inl ⟨by rfl, fun w' hSw => by obtain ⟨q1, q2, q3, q4⟩ := hSw; go_simp⟩) hHeld ?_
  simp only [Act.put, List.getElem_toArray, List.getElem_cons_succ, List.getElem_cons_zero, List.setIfInBounds_toArray, List.set_cons_zero, List.set_cons_succ]
  refine wpAnyH_take (i := 2) (v := .pointer (some ⟨D, 0, none⟩)) rfl (by kernel_rfl) (by kernel_rfl) (by kernel_rfl) (fun _ _ _ h => h) (Or.inl ⟨by rfl, fun w' hSw => by obtain ⟨q1, q2, q3, q4⟩ := hSw; go_simp⟩) hHeld ?_
  simp only [Act.put, List.getElem_toArray, List.getElem_cons_succ, List.getElem_cons_zero, List.setIfInBounds_toArray, List.set_cons_zero, List.set_cons_succ]
  refine wpAnyH_take (i := 3) (v := .agg #[.int .i64 1, .string page, .slice none 0 0]) rfl (by kernel_rfl) (by kernel_rfl) (by kernel_rfl) (fun _ _ _ h => h) (Or.inl ⟨by rfl, fun w' hSw => by obtain ⟨q1, q2, q3, q4⟩ := hSw; go_simp⟩) hHeld ?_
  simp only [Act.put, List.getElem_toArray, List.getElem_cons_succ, List.getElem_cons_zero, List.setIfInBounds_toArray, List.set_cons_zero, List.set_cons_succ]
  refine wpAnyH_ready (rs := [4]) (by kernel_rfl) (by simp) ?_
  refine AllReadyH.cons rfl (fun K hK => ?_) AllReadyH.nil
  clear hHeld
  simp only [Act.put, List.getElem_toArray, List.getElem_cons_succ, List.getElem_cons_zero, List.setIfInBounds_toArray, List.set_cons_zero, List.set_cons_succ]
  rw [if_pos (by rfl)]
  go_wp2_with (go_at_call 61; refine (HTK.out _ _ HT1.out.dk.drew (to_drew HT1.out.bel)).mono ?_; rintro e w2 ⟨rfl, val2, hT2⟩; have HT2 := Hid_mkW (HT1.out.drew.andThen hT2); clear hT2)
  refine hK.out _ _ (HS.out _ HT2.out.bel) (fun hHeld => ?_)
  clear hK hHeld K
  try simp only [Act.put, List.getElem_toArray, List.getElem_cons_succ, List.getElem_cons_zero, List.setIfInBounds_toArray, List.set_cons_zero, List.set_cons_succ]
  refine wpAnyH_ready (rs := [5]) (by kernel_rfl) (by simp) ?_
  refine AllReadyH.cons rfl (fun K hK => ?_) AllReadyH.nil
  simp only [Act.put, List.getElem_toArray, List.getElem_cons_succ, List.getElem_cons_zero, List.setIfInBounds_toArray, List.set_cons_zero, List.set_cons_succ]
  rw [if_pos (by rfl)]
  clear hK
  go_wp2_with (go_at_call 60; refine (HP2.out _ _ HT2.out.dk HT2.out.bel).mono ?_; rintro e w3 ⟨rfl, b3⟩; exact ⟨rfl, rfl, HT2.out.bel.trans b3⟩)

set_option maxHeartbeats 4000000 in
theorem wcore_B_ok (bk bn bs n d B D : Nat) (k : Int) (page : ByteArray) (W : World) (m m1 m2 M : ImgD) (val : Nm → Value) (j fg fc sl : Nat) (x : Int) (g1 : decide (0 < j) = true) (g2 : 0 < j) (g3 : (j : Int) < (sl : Int)) (g4 : j < sl) (d3 : W.cell? ⟨D, 3, none⟩ = some (.slice (some ⟨fg, 0, none⟩) sl fc)) (c2 : W.cell? ⟨fg, j, none⟩ = some (.int .i64 x)) (g5 : (x == 1) = false) (hck : W.cell? ⟨bk, 0, none⟩ = some (.int .i64 (j : Int))) (hcn : W.cell? ⟨bn, 0, none⟩ = some (.int .i64 (n : Int))) (HS : Hid (∀ X, Below B W X → (fun X : World => X.cell? ⟨bn, 0, none⟩ = some (.int .i64 (n : Int)) ∧ X.cell? ⟨bs, 0, none⟩ = some (.int .i64 1) ∧ X.cell? ⟨bs, 0 + 1, none⟩ = some (.string page) ∧ X.cell? ⟨bs, 0 + 1 + 1, none⟩ = some (.slice none 0 0)) X)) (HP1 : Hid (∀ q, Calls Tryz.prog 60 #[.pointer (some ⟨D, 0, none⟩), .int .i64 (n : Int), .int .i64 (-1)] (W.drewN q) (Tells (W.drewN q) B D m val nilV (some m1)))) (HTK : Hid (∀ (w1 : World) (val1 : Nm → Value), DK w1 B D val1 m1 → Below B W w1 → Calls Tryz.prog 61 #[.pointer (some ⟨D, 0, none⟩), .agg #[.int .i64 1, .string page, .slice none 0 0]] w1 (fun r w2 => r = .returned (.int .i64 (d : Int)) ∧ ∃ val2, DTo w1 w2 B D m1 val1 nilV m2 val2))) (HP2 : Hid (∀ (w2 : World) (val2 : Nm → Value), DK w2 B D val2 m2 → Below B W w2 → Calls Tryz.prog 60 #[.pointer (some ⟨D, 0, none⟩), .int .i64 (n : Int), .int .i64 (d : Int)] w2 (Tells w2 B D m2 val2 nilV (some M)))) :
    Calls Tryz.prog 59 #[.pointer (some ⟨D, 0, none⟩), .pointer (some ⟨bk, 0, none⟩), .pointer (some ⟨bn, 0, none⟩), .pointer (some ⟨bs, 0, none⟩)] W (fun r W' => ∃ val', r = .returned (.tuple #[]) ∧ DTo W W' B D m val nilV M val') := by
  go_enter Tryz.func59, Tryz.ntmps59
  try go_wp2_with fail
  go_quiet (fail)
  go_wp2_with (go_at_call 60; refine (HP1.out _).mono ?_; rintro e w1 ⟨rfl, val1, hT1⟩; have hT1 := DTo.drewN_first hT1; have HT1 := Hid_mkW hT1; clear hT1)
  clear hck hcn
  refine wp_region_held_drew (S := (fun X : World => X.cell? ⟨bn, 0, none⟩ = some (.int .i64 (n : Int)) ∧ X.cell? ⟨bs, 0, none⟩ = some (.int .i64 1) ∧ X.cell? ⟨bs, 0 + 1, none⟩ = some (.string page) ∧ X.cell? ⟨bs, 0 + 1 + 1, none⟩ = some (.slice none 0 0))) (by kernel_rfl) (HS.out _ (to_drew HT1.out.bel)) (fun hHeld => ?_)
  refine wpAnyH_take (i := 0) (v := .pointer (some ⟨D, 0, none⟩)) rfl (by kernel_rfl) (by kernel_rfl) (by kernel_rfl) (fun _ _ _ h => h) (Or.inl ⟨by rfl, fun w' hSw => by obtain ⟨q1, q2, q3, q4⟩ := hSw; go_simp⟩) hHeld ?_
  simp only [Act.put, List.getElem_toArray, List.getElem_cons_succ, List.getElem_cons_zero, List.setIfInBounds_toArray, List.set_cons_zero, List.set_cons_succ]
  refine wpAnyH_take (i := 1) (v := .int .i64 (n : Int)) rfl (by kernel_rfl) (by kernel_rfl) (by kernel_rfl) (fun _ _ _ h => h) (Or.inl ⟨by rfl, fun w' hSw => by obtain ⟨q1, q2, q3, q4⟩ := hSw; go_simp⟩) hHeld ?_
  simp only [Act.put, List.getElem_toArray, List.getElem_cons_succ, List.getElem_cons_zero, List.setIfInBounds_toArray, List.set_cons_zero, List.set_cons_succ]
  refine wpAnyH_take (i := 2) (v := .pointer (some ⟨D, 0, none⟩)) rfl (by kernel_rfl) (by kernel_rfl) (by kernel_rfl) (fun _ _ _ h => h) (Or.inl ⟨by rfl, fun w' hSw => by obtain ⟨q1, q2, q3, q4⟩ := hSw; go_simp⟩) hHeld ?_
  simp only [Act.put, List.getElem_toArray, List.getElem_cons_succ, List.getElem_cons_zero, List.setIfInBounds_toArray, List.set_cons_zero, List.set_cons_succ]
  refine wpAnyH_take (i := 3) (v := .agg #[.int .i64 1, .string page, .slice none 0 0]) rfl (by kernel_rfl) (by kernel_rfl) (by kernel_rfl) (fun _ _ _ h => h) (Or.inl ⟨by rfl, fun w' hSw => by obtain ⟨q1, q2, q3, q4⟩ := hSw; go_simp⟩) hHeld ?_
  simp only [Act.put, List.getElem_toArray, List.getElem_cons_succ, List.getElem_cons_zero, List.setIfInBounds_toArray, List.set_cons_zero, List.set_cons_succ]
  refine wpAnyH_ready (rs := [4]) (by kernel_rfl) (by simp) ?_
  refine AllReadyH.cons rfl (fun K hK => ?_) AllReadyH.nil
  clear hHeld
  simp only [Act.put, List.getElem_toArray, List.getElem_cons_succ, List.getElem_cons_zero, List.setIfInBounds_toArray, List.set_cons_zero, List.set_cons_succ]
  rw [if_pos (by rfl)]
  go_wp2_with (go_at_call 61; refine (HTK.out _ _ HT1.out.dk.drew (to_drew HT1.out.bel)).mono ?_; rintro e w2 ⟨rfl, val2, hT2⟩; have HT2 := Hid_mkW (HT1.out.drew.andThen hT2); clear hT2)
  refine hK.out _ _ (HS.out _ HT2.out.bel) (fun hHeld => ?_)
  clear hK hHeld K
  try simp only [Act.put, List.getElem_toArray, List.getElem_cons_succ, List.getElem_cons_zero, List.setIfInBounds_toArray, List.set_cons_zero, List.set_cons_succ]
  refine wpAnyH_ready (rs := [5]) (by kernel_rfl) (by simp) ?_
  refine AllReadyH.cons rfl (fun K hK => ?_) AllReadyH.nil
  simp only [Act.put, List.getElem_toArray, List.getElem_cons_succ, List.getElem_cons_zero, List.setIfInBounds_toArray, List.set_cons_zero, List.set_cons_succ]
  rw [if_pos (by rfl)]
  go_wp2_with (go_at_call 60; refine (HP2.out _ _ HT2.out.dk HT2.out.bel).mono ?_; rintro e w3 ⟨rfl, val3, hT3⟩; have HT3 := Hid_mkW (HT2.out.andThen hT3); clear hT3)
  refine hK.out _ _ (HS.out _ HT3.out.bel) (fun hHeld => ?_)
  clear hK hHeld K
  refine wpAnyH_done (by kernel_rfl) ?_ _
  go_wp2_with fail
  go_end0
  exact ⟨val3, rfl, HT3.out⟩

set_option maxHeartbeats 4000000 in
theorem wcore_C_n1 (bk bn bs n d B D : Nat) (k : Int) (page : ByteArray) (W : World) (m m1 m2 M : ImgD) (val : Nm → Value) (j t g cap rl fg fc sl : Nat) (y : Int) (g1 : decide (0 < j) = true) (g2 : 0 < j) (g3 : (j : Int) < (sl : Int)) (g4 : j < sl) (d3 : W.cell? ⟨D, 3, none⟩ = some (.slice (some ⟨fg, 0, none⟩) sl fc)) (c2 : W.cell? ⟨fg, j, none⟩ = some (.int .i64 1)) (d1 : W.cell? ⟨D, 1, none⟩ = some (.slice (some ⟨g, 0, none⟩) rl cap)) (h16 : n < 16) (g6 : n / 4 < rl) (g7 : (n : Int) / 4 < (rl : Int)) (hq : ((n : Int) / 4).toNat = n / 4) (c : W.cell? ⟨g, n / 4, none⟩ = some (.int .i64 (t : Int))) (g8 : (t : Int) < (sl : Int)) (g9 : t < sl) (c3 : W.cell? ⟨fg, t, none⟩ = some (.int .i64 y)) (g5 : (y == 1) = false) (hck : W.cell? ⟨bk, 0, none⟩ = some (.int .i64 (j : Int))) (hcn : W.cell? ⟨bn, 0, none⟩ = some (.int .i64 (n : Int))) (HS : Hid (∀ X, Below B W X → (fun X : World => X.cell? ⟨bn, 0, none⟩ = some (.int .i64 (n : Int)) ∧ X.cell? ⟨bs, 0, none⟩ = some (.int .i64 1) ∧ X.cell? ⟨bs, 0 + 1, none⟩ = some (.string page) ∧ X.cell? ⟨bs, 0 + 1 + 1, none⟩ = some (.slice none 0 0)) X)) (HP1 : Hid (∀ q, Calls Tryz.prog 60 #[.pointer (some ⟨D, 0, none⟩), .int .i64 (n : Int), .int .i64 (-1)] (W.drewN q) (Tells (W.drewN q) B D m val nilV none))) :
    Calls Tryz.prog 59 #[.pointer (some ⟨D, 0, none⟩), .pointer (some ⟨bk, 0, none⟩), .pointer (some ⟨bn, 0, none⟩), .pointer (some ⟨bs, 0, none⟩)] W (fun r W' => r = .panicked noSlotP ∧ Below B W W') := by
  go_enter Tryz.func59, Tryz.ntmps59
  try go_wp2_with fail
  go_quiet (fail)
  go_wp2_with (go_at_call 60; refine (HP1.out _).mono ?_; rintro e w3 ⟨rfl, b3⟩; exact ⟨rfl, rfl, drewN_first b3⟩)

set_option maxHeartbeats 4000000 in
theorem wcore_C_n2 (bk bn bs n d B D : Nat) (k : Int) (page : ByteArray) (W : World) (m m1 m2 M : ImgD) (val : Nm → Value) (j t g cap rl fg fc sl : Nat) (y : Int) (g1 : decide (0 < j) = true) (g2 : 0 < j) (g3 : (j : Int) < (sl : Int)) (g4 : j < sl) (d3 : W.cell? ⟨D, 3, none⟩ = some (.slice (some ⟨fg, 0, none⟩) sl fc)) (c2 : W.cell? ⟨fg, j, none⟩ = some (.int .i64 1)) (d1 : W.cell? ⟨D, 1, none⟩ = some (.slice (some ⟨g, 0, none⟩) rl cap)) (h16 : n < 16) (g6 : n / 4 < rl) (g7 : (n : Int) / 4 < (rl : Int)) (hq : ((n : Int) / 4).toNat = n / 4) (c : W.cell? ⟨g, n / 4, none⟩ = some (.int .i64 (t : Int))) (g8 : (t : Int) < (sl : Int)) (g9 : t < sl) (c3 : W.cell? ⟨fg, t, none⟩ = some (.int .i64 y)) (g5 : (y == 1) = false) (hck : W.cell? ⟨bk, 0, none⟩ = some (.int .i64 (j : Int))) (hcn : W.cell? ⟨bn, 0, none⟩ = some (.int .i64 (n : Int))) (HS : Hid (∀ X, Below B W X → (fun X : World => X.cell? ⟨bn, 0, none⟩ = some (.int .i64 (n : Int)) ∧ X.cell? ⟨bs, 0, none⟩ = some (.int .i64 1) ∧ X.cell? ⟨bs, 0 + 1, none⟩ = some (.string page) ∧ X.cell? ⟨bs, 0 + 1 + 1, none⟩ = some (.slice none 0 0)) X)) (HP1 : Hid (∀ q, Calls Tryz.prog 60 #[.pointer (some ⟨D, 0, none⟩), .int .i64 (n : Int), .int .i64 (-1)] (W.drewN q) (Tells (W.drewN q) B D m val nilV (some m1)))) (HTK : Hid (∀ (w1 : World) (val1 : Nm → Value), DK w1 B D val1 m1 → Below B W w1 → Calls Tryz.prog 61 #[.pointer (some ⟨D, 0, none⟩), .agg #[.int .i64 1, .string page, .slice none 0 0]] w1 (fun r w2 => r = .panicked noSlotP ∧ Below B W w2))) :
    Calls Tryz.prog 59 #[.pointer (some ⟨D, 0, none⟩), .pointer (some ⟨bk, 0, none⟩), .pointer (some ⟨bn, 0, none⟩), .pointer (some ⟨bs, 0, none⟩)] W (fun r W' => r = .panicked noSlotP ∧ Below B W W') := by
  go_enter Tryz.func59, Tryz.ntmps59
  try go_wp2_with fail
  go_quiet (fail)
  go_wp2_with (go_at_call 60; refine (HP1.out _).mono ?_; rintro e w1 ⟨rfl, val1, hT1⟩; have hT1 := DTo.drewN_first hT1; have HT1 := Hid_mkW hT1; clear hT1)
  clear hck hcn
  refine wp_region_held_drew (S := (fun X : World => X.cell? ⟨bn, 0, none⟩ = some (.int .i64 (n : Int)) ∧ X.cell? ⟨bs, 0, none⟩ = some (.int .i64 1) ∧ X.cell? ⟨bs, 0 + 1, none⟩ = some (.string page) ∧ X.cell? ⟨bs, 0 + 1 + 1, none⟩ = some (.slice none 0 0))) (by kernel_rfl) (HS.out _ (to_drew HT1.out.bel)) (fun hHeld => ?_)
  refine wpAnyH_take (i := 0) (v := .pointer (some ⟨D, 0, none⟩)) rfl (by kernel_rfl) (by kernel_rfl) (by kernel_rfl) (fun _ _ _ h => h) (Or.inl ⟨by rfl, fun w' hSw => by obtain ⟨q1, q2, q3, q4⟩ := hSw; go_simp⟩) hHeld ?_
  simp only [Act.put, List.getElem_toArray, List.getElem_cons_succ, List.getElem_cons_zero, List.setIfInBounds_toArray, List.set_cons_zero, List.set_cons_succ]
  refine wpAnyH_take (i := 1) (v := .int .i64 (n : Int)) rfl (by kernel_rfl) (by kernel_rfl) (by kernel_rfl) (fun _ _ _ h => h) (Or.inl ⟨by rfl, fun w' hSw => by obtain ⟨q1, q2, q3, q4⟩ := hSw; go_simp⟩) hHeld ?_
  simp only [Act.put, List.getElem_toArray, List.getElem_cons_succ, List.getElem_cons_zero, List.setIfInBounds_toArray, List.set_cons_zero, List.set_cons_succ]
  refine wpAnyH_take (i := 2) (v := .pointer (some ⟨D, 0, none⟩)) rfl (by kernel_rfl) (by kernel_rfl) (by kernel_rfl) (fun _ _ _ h => h) (Or.inl ⟨by rfl, fun w' hSw => by obtain ⟨q1, q2, q3, q4⟩ := hSw; go_simp⟩) hHeld ?_
  simp only [Act.put, List.getElem_toArray, List.getElem_cons_succ, List.getElem_cons_zero, List.setIfInBounds_toArray, List.set_cons_zero, List.set_cons_succ]
  refine wpAnyH_take (i := 3) (v := .agg #[.int .i64 1, .string page, .slice none 0 0]) rfl (by kernel_rfl) (by kernel_rfl) (by kernel_rfl) (fun _ _ _ h => h) (Or.inl ⟨by rfl, fun w' hSw => by obtain ⟨q1, q2, q3, q4⟩ := hSw; go_simp⟩) hHeld ?_
  simp only [Act.put, List.getElem_toArray, List.getElem_cons_succ, List.getElem_cons_zero, List.setIfInBounds_toArray, List.set_cons_zero, List.set_cons_succ]
  refine wpAnyH_ready (rs := [4]) (by kernel_rfl) (by simp) ?_
  refine AllReadyH.cons rfl (fun K hK => ?_) AllReadyH.nil
  clear hHeld
  simp only [Act.put, List.getElem_toArray, List.getElem_cons_succ, List.getElem_cons_zero, List.setIfInBounds_toArray, List.set_cons_zero, List.set_cons_succ]
  rw [if_pos (by rfl)]
  clear hK
  go_wp2_with (go_at_call 61; refine (HTK.out _ _ HT1.out.dk.drew (to_drew HT1.out.bel)).mono ?_; rintro e w2 ⟨rfl, b2⟩; exact ⟨rfl, rfl, b2⟩)

set_option maxHeartbeats 4000000 in
theorem wcore_C_n3 (bk bn bs n d B D : Nat) (k : Int) (page : ByteArray) (W : World) (m m1 m2 M : ImgD) (val : Nm → Value) (j t g cap rl fg fc sl : Nat) (y : Int) (g1 : decide (0 < j) = true) (g2 : 0 < j) (g3 : (j : Int) < (sl : Int)) (g4 : j < sl) (d3 : W.cell? ⟨D, 3, none⟩ = some (.slice (some ⟨fg, 0, none⟩) sl fc)) (c2 : W.cell? ⟨fg, j, none⟩ = some (.int .i64 1)) (d1 : W.cell? ⟨D, 1, none⟩ = some (.slice (some ⟨g, 0, none⟩) rl cap)) (h16 : n < 16) (g6 : n / 4 < rl) (g7 : (n : Int) / 4 < (rl : Int)) (hq : ((n : Int) / 4).toNat = n / 4) (c : W.cell? ⟨g, n / 4, none⟩ = some (.int .i64 (t : Int))) (g8 : (t : Int) < (sl : Int)) (g9 : t < sl) (c3 : W.cell? ⟨fg, t, none⟩ = some (.int .i64 y)) (g5 : (y == 1) = false) (hck : W.cell? ⟨bk, 0, none⟩ = some (.int .i64 (j : Int))) (hcn : W.cell? ⟨bn, 0, none⟩ = some (.int .i64 (n : Int))) (HS : Hid (∀ X, Below B W X → (fun X : World => X.cell? ⟨bn, 0, none⟩ = some (.int .i64 (n : Int)) ∧ X.cell? ⟨bs, 0, none⟩ = some (.int .i64 1) ∧ X.cell? ⟨bs, 0 + 1, none⟩ = some (.string page) ∧ X.cell? ⟨bs, 0 + 1 + 1, none⟩ = some (.slice none 0 0)) X)) (HP1 : Hid (∀ q, Calls Tryz.prog 60 #[.pointer (some ⟨D, 0, none⟩), .int .i64 (n : Int), .int .i64 (-1)] (W.drewN q) (Tells (W.drewN q) B D m val nilV (some m1)))) (HTK : Hid (∀ (w1 : World) (val1 : Nm → Value), DK w1 B D val1 m1 → Below B W w1 → Calls Tryz.prog 61 #[.pointer (some ⟨D, 0, none⟩), .agg #[.int .i64 1, .string page, .slice none 0 0]] w1 (fun r w2 => r = .returned (.int .i64 (d : Int)) ∧ ∃ val2, DTo w1 w2 B D m1 val1 nilV m2 val2))) (HP2 : Hid (∀ (w2 : World) (val2 : Nm → Value), DK w2 B D val2 m2 → Below B W w2 → Calls Tryz.prog 60 #[.pointer (some ⟨D, 0, none⟩), .int .i64 (n : Int), .int .i64 (d : Int)] w2 (Tells w2 B D m2 val2 nilV none))) :
    Calls Tryz.prog 59 #[.pointer (some ⟨D, 0, none⟩), .pointer (some ⟨bk, 0, none⟩), .pointer (some ⟨bn, 0, none⟩), .pointer (some ⟨bs, 0, none⟩)] W (fun r W' => r = .panicked noSlotP ∧ Below B W W') := by
  go_enter Tryz.func59, Tryz.ntmps59
  try go_wp2_with fail
  go_quiet (fail)
  go_wp2_with (go_at_call 60; refine (HP1.out _).mono ?_; rintro e w1 ⟨rfl, val1, hT1⟩; have hT1 := DTo.drewN_first hT1; have HT1 := Hid_mkW hT1; clear hT1)
  clear hck hcn
  refine wp_region_held_drew (S := (fun X : World => X.cell? ⟨bn, 0, none⟩ = some (.int .i64 (n : Int)) ∧ X.cell? ⟨bs, 0, none⟩ = some (.int .i64 1) ∧ X.cell? ⟨bs, 0 + 1, none⟩ = some (.string page) ∧ X.cell? ⟨bs, 0 + 1 + 1, none⟩ = some (.slice none 0 0))) (by kernel_rfl) (HS.out _ (to_drew HT1.out.bel)) (fun hHeld => ?_)
  refine wpAnyH_take (i := 0) (v := .pointer (some ⟨D, 0, none⟩)) rfl (by kernel_rfl) (by kernel_rfl) (by kernel_rfl) (fun _ _ _ h => h) (Or.inl ⟨by rfl, fun w' hSw => by obtain ⟨q1, q2, q3, q4⟩ := hSw; go_simp⟩) hHeld ?_
  simp only [Act.put, List.getElem_toArray, List.getElem_cons_succ, List.getElem_cons_zero, List.setIfInBounds_toArray, List.set_cons_zero, List.set_cons_succ]
  refine wpAnyH_take (i := 1) (v := .int .i64 (n : Int)) rfl (by kernel_rfl) (by kernel_rfl) (by kernel_rfl) (fun _ _ _ h => h) (Or.inl ⟨by rfl, fun w' hSw => by obtain ⟨q1, q2, q3, q4⟩ := hSw; go_simp⟩) hHeld ?_
  simp only [Act.put, List.getElem_toArray, List.getElem_cons_succ, List.getElem_cons_zero, List.setIfInBounds_toArray, List.set_cons_zero, List.set_cons_succ]
  refine wpAnyH_take (i := 2) (v := .pointer (some ⟨D, 0, none⟩)) rfl (by kernel_rfl) (by kernel_rfl) (by kernel_rfl) (fun _ _ _ h => h) (Or.inl ⟨by rfl, fun w' hSw => by obtain ⟨q1, q2, q3, q4⟩ := hSw; go_simp⟩) hHeld ?_
  simp only [Act.put, List.getElem_toArray, List.getElem_cons_succ, List.getElem_cons_zero, List.setIfInBounds_toArray, List.set_cons_zero, List.set_cons_succ]
  refine wpAnyH_take (i := 3) (v := .agg #[.int .i64 1, .string page, .slice none 0 0]) rfl (by kernel_rfl) (by kernel_rfl) (by kernel_rfl) (fun _ _ _ h => h) (Or.inl ⟨by rfl, fun w' hSw => by obtain ⟨q1, q2, q3, q4⟩ := hSw; go_simp⟩) hHeld ?_
  simp only [Act.put, List.getElem_toArray, List.getElem_cons_succ, List.getElem_cons_zero, List.setIfInBounds_toArray, List.set_cons_zero, List.set_cons_succ]
  refine wpAnyH_ready (rs := [4]) (by kernel_rfl) (by simp) ?_
  refine AllReadyH.cons rfl (fun K hK => ?_) AllReadyH.nil
  clear hHeld
  simp only [Act.put, List.getElem_toArray, List.getElem_cons_succ, List.getElem_cons_zero, List.setIfInBounds_toArray, List.set_cons_zero, List.set_cons_succ]
  rw [if_pos (by rfl)]
  go_wp2_with (go_at_call 61; refine (HTK.out _ _ HT1.out.dk.drew (to_drew HT1.out.bel)).mono ?_; rintro e w2 ⟨rfl, val2, hT2⟩; have HT2 := Hid_mkW (HT1.out.drew.andThen hT2); clear hT2)
  refine hK.out _ _ (HS.out _ HT2.out.bel) (fun hHeld => ?_)
  clear hK hHeld K
  try simp only [Act.put, List.getElem_toArray, List.getElem_cons_succ, List.getElem_cons_zero, List.setIfInBounds_toArray, List.set_cons_zero, List.set_cons_succ]
  refine wpAnyH_ready (rs := [5]) (by kernel_rfl) (by simp) ?_
  refine AllReadyH.cons rfl (fun K hK => ?_) AllReadyH.nil
  simp only [Act.put, List.getElem_toArray, List.getElem_cons_succ, List.getElem_cons_zero, List.setIfInBounds_toArray, List.set_cons_zero, List.set_cons_succ]
  rw [if_pos (by rfl)]
  clear hK
  go_wp2_with (go_at_call 60; refine (HP2.out _ _ HT2.out.dk HT2.out.bel).mono ?_; rintro e w3 ⟨rfl, b3⟩; exact ⟨rfl, rfl, HT2.out.bel.trans b3⟩)

set_option maxHeartbeats 4000000 in
theorem wcore_C_ok (bk bn bs n d B D : Nat) (k : Int) (page : ByteArray) (W : World) (m m1 m2 M : ImgD) (val : Nm → Value) (j t g cap rl fg fc sl : Nat) (y : Int) (g1 : decide (0 < j) = true) (g2 : 0 < j) (g3 : (j : Int) < (sl : Int)) (g4 : j < sl) (d3 : W.cell? ⟨D, 3, none⟩ = some (.slice (some ⟨fg, 0, none⟩) sl fc)) (c2 : W.cell? ⟨fg, j, none⟩ = some (.int .i64 1)) (d1 : W.cell? ⟨D, 1, none⟩ = some (.slice (some ⟨g, 0, none⟩) rl cap)) (h16 : n < 16) (g6 : n / 4 < rl) (g7 : (n : Int) / 4 < (rl : Int)) (hq : ((n : Int) / 4).toNat = n / 4) (c : W.cell? ⟨g, n / 4, none⟩ = some (.int .i64 (t : Int))) (g8 : (t : Int) < (sl : Int)) (g9 : t < sl) (c3 : W.cell? ⟨fg, t, none⟩ = some (.int .i64 y)) (g5 : (y == 1) = false) (hck : W.cell? ⟨bk, 0, none⟩ = some (.int .i64 (j : Int))) (hcn : W.cell? ⟨bn, 0, none⟩ = some (.int .i64 (n : Int))) (HS : Hid (∀ X, Below B W X → (fun X : World => X.cell? ⟨bn, 0, none⟩ = some (.int .i64 (n : Int)) ∧ X.cell? ⟨bs, 0, none⟩ = some (.int .i64 1) ∧ X.cell? ⟨bs, 0 + 1, none⟩ = some (.string page) ∧ X.cell? ⟨bs, 0 + 1 + 1, none⟩ = some (.slice none 0 0)) X)) (HP1 : Hid (∀ q, Calls Tryz.prog 60 #[.pointer (some ⟨D, 0, none⟩), .int .i64 (n : Int), .int .i64 (-1)] (W.drewN q) (Tells (W.drewN q) B D m val nilV (some m1)))) (HTK : Hid (∀ (w1 : World) (val1 : Nm → Value), DK w1 B D val1 m1 → Below B W w1 → Calls Tryz.prog 61 #[.pointer (some ⟨D, 0, none⟩), .agg #[.int .i64 1, .string page, .slice none 0 0]] w1 (fun r w2 => r = .returned (.int .i64 (d : Int)) ∧ ∃ val2, DTo w1 w2 B D m1 val1 nilV m2 val2))) (HP2 : Hid (∀ (w2 : World) (val2 : Nm → Value), DK w2 B D val2 m2 → Below B W w2 → Calls Tryz.prog 60 #[.pointer (some ⟨D, 0, none⟩), .int .i64 (n : Int), .int .i64 (d : Int)] w2 (Tells w2 B D m2 val2 nilV (some M)))) :
    Calls Tryz.prog 59 #[.pointer (some ⟨D, 0, none⟩), .pointer (some ⟨bk, 0, none⟩), .pointer (some ⟨bn, 0, none⟩), .pointer (some ⟨bs, 0, none⟩)] W (fun r W' => ∃ val', r = .returned (.tuple #[]) ∧ DTo W W' B D m val nilV M val') := by
  go_enter Tryz.func59, Tryz.ntmps59
  try go_wp2_with fail
  go_quiet (fail)
  go_wp2_with (go_at_call 60; refine (HP1.out _).mono ?_; rintro e w1 ⟨rfl, val1, hT1⟩; have hT1 := DTo.drewN_first hT1; have HT1 := Hid_mkW hT1; clear hT1)
  clear hck hcn
  refine wp_region_held_drew (S := (fun X : World => X.cell? ⟨bn, 0, none⟩ = some (.int .i64 (n : Int)) ∧ X.cell? ⟨bs, 0, none⟩ = some (.int .i64 1) ∧ X.cell? ⟨bs, 0 + 1, none⟩ = some (.string page) ∧ X.cell? ⟨bs, 0 + 1 + 1, none⟩ = some (.slice none 0 0))) (by kernel_rfl) (HS.out _ (to_drew HT1.out.bel)) (fun hHeld => ?_)
  refine wpAnyH_take (i := 0) (v := .pointer (some ⟨D, 0, none⟩)) rfl (by kernel_rfl) (by kernel_rfl) (by kernel_rfl) (fun _ _ _ h => h) (Or.inl ⟨by rfl, fun w' hSw => by obtain ⟨q1, q2, q3, q4⟩ := hSw; go_simp⟩) hHeld ?_
  simp only [Act.put, List.getElem_toArray, List.getElem_cons_succ, List.getElem_cons_zero, List.setIfInBounds_toArray, List.set_cons_zero, List.set_cons_succ]
  refine wpAnyH_take (i := 1) (v := .int .i64 (n : Int)) rfl (by kernel_rfl) (by kernel_rfl) (by kernel_rfl) (fun _ _ _ h => h) (Or.inl ⟨by rfl, fun w' hSw => by obtain ⟨q1, q2, q3, q4⟩ := hSw; go_simp⟩) hHeld ?_
  simp only [Act.put, List.getElem_toArray, List.getElem_cons_succ, List.getElem_cons_zero, List.setIfInBounds_toArray, List.set_cons_zero, List.set_cons_succ]
  refine wpAnyH_take (i := 2) (v := .pointer (some ⟨D, 0, none⟩)) rfl (by kernel_rfl) (by kernel_rfl) (by kernel_rfl) (fun _ _ _ h => h) (Or.inl ⟨by rfl, fun w' hSw => by obtain ⟨q1, q2, q3, q4⟩ := hSw; go_simp⟩) hHeld ?_
  simp only [Act.put, List.getElem_toArray, List.getElem_cons_succ, List.getElem_cons_zero, List.setIfInBounds_toArray, List.set_cons_zero, List.set_cons_succ]
  refine wpAnyH_take (i := 3) (v := .agg #[.int .i64 1, .string page, .slice none 0 0]) rfl (by kernel_rfl) (by kernel_rfl) (by kernel_rfl) (fun _ _ _ h => h) (Or.inl ⟨by rfl, fun w' hSw => by obtain ⟨q1, q2, q3, q4⟩ := hSw; go_simp⟩) hHeld ?_
  simp only [Act.put, List.getElem_toArray, List.getElem_cons_succ, List.getElem_cons_zero, List.setIfInBounds_toArray, List.set_cons_zero, List.set_cons_succ]
  refine wpAnyH_ready (rs := [4]) (by kernel_rfl) (by simp) ?_
  refine AllReadyH.cons rfl (fun K hK => ?_) AllReadyH.nil
  clear hHeld
  simp only [Act.put, List.getElem_toArray, List.getElem_cons_succ, List.getElem_cons_zero, List.setIfInBounds_toArray, List.set_cons_zero, List.set_cons_succ]
  rw [if_pos (by rfl)]
  go_wp2_with (go_at_call 61; refine (HTK.out _ _ HT1.out.dk.drew (to_drew HT1.out.bel)).mono ?_; rintro e w2 ⟨rfl, val2, hT2⟩; have HT2 := Hid_mkW (HT1.out.drew.andThen hT2); clear hT2)
  refine hK.out _ _ (HS.out _ HT2.out.bel) (fun hHeld => ?_)
  clear hK hHeld K
  try simp only [Act.put, List.getElem_toArray, List.getElem_cons_succ, List.getElem_cons_zero, List.setIfInBounds_toArray, List.set_cons_zero, List.set_cons_succ]
  refine wpAnyH_ready (rs := [5]) (by kernel_rfl) (by simp) ?_
  refine AllReadyH.cons rfl (fun K hK => ?_) AllReadyH.nil
  simp only [Act.put, List.getElem_toArray, List.getElem_cons_succ, List.getElem_cons_zero, List.setIfInBounds_toArray, List.set_cons_zero, List.set_cons_succ]
  rw [if_pos (by rfl)]
  go_wp2_with (go_at_call 60; refine (HP2.out _ _ HT2.out.dk HT2.out.bel).mono ?_; rintro e w3 ⟨rfl, val3, hT3⟩; have HT3 := Hid_mkW (HT2.out.andThen hT3); clear hT3)
  refine hK.out _ _ (HS.out _ HT3.out.bel) (fun hHeld => ?_)
  clear hK hHeld K
  refine wpAnyH_done (by kernel_rfl) ?_ _
  go_wp2_with fail
  go_end0
  exact ⟨val3, rfl, HT3.out⟩

end Go.Proofs.YtehleeibgkpjmafGreat
/- Contracts of writing: Write's closure, in place; joined. -/
namespace Go.Proofs.YtehleeibgkpjmafGreat
open Go.RowKit Go.Shelf
set_option maxRecDepth 20000
set_option linter.unusedSimpArgs false
set_option linter.unusedVariables false

theorem DTo.drew_first {B D : Nat} {W w1 : World} {m m1 : ImgD} {val val1 : Nm → Value} {ev : Value} (h : DTo W.drew w1 B D m val ev m1 val1) : DTo W w1 B D m val ev m1 val1 := ⟨h.dk, ⟨h.bel.os, h.bel.tape, h.bel.output, h.bel.size, h.bel.block⟩, h.keep, h.src⟩
theorem DK.drewN {W : World} {B D : Nat} {val : Nm → Value} {m : ImgD} (h : DK W B D val m) (q : Nat) : DK (W.drewN q) B D val m := h.below (below_drewN (Below.refl _ _) q)

set_option maxHeartbeats 4000000 in
theorem wcore_D (bk bn bs n j t B D : Nat) (page : ByteArray) (W : World) (m : ImgD) (val : Nm → Value) (hK : DK W B D val m) (hck : W.cell? ⟨bk, 0, none⟩ = some (.int .i64 (j : Int))) (hcn : W.cell? ⟨bn, 0, none⟩ = some (.int .i64 (n : Int))) (s0 : W.cell? ⟨bs, 0, none⟩ = some (.int .i64 1)) (s1 : W.cell? ⟨bs, 1, none⟩ = some (.string page)) (s2 : W.cell? ⟨bs, 2, none⟩ = some (.slice none 0 0)) (ls : bs < B) (lk : bk < B) (h16 : n < 16) (hr : n / 4 < m.root.length) (ht : m.root.getD (n / 4) 0 = (t : Int)) (htl : t < m.slots.length) (hrl : m.refs.length = m.slots.length) (hrt : m.refs.getD t 0 = 1) (hj1 : 1 ≤ j) (hjl : j < m.slots.length) (hrj : m.refs.getD j 0 = 1) :
    Calls Tryz.prog 59 #[.pointer (some ⟨D, 0, none⟩), .pointer (some ⟨bk, 0, none⟩), .pointer (some ⟨bn, 0, none⟩), .pointer (some ⟨bs, 0, none⟩)] W (fun r W' => ∃ val', r = .returned (.tuple #[]) ∧ DTo W W' B D m val nilV { m with slots := m.slots.set j (1, page, []) } val') := by
  obtain ⟨g, cap, e, c, _⟩ := hK.rootAt hr
  rw [ht] at c
  have d1 := hK.root5 e
  obtain ⟨fg, fc, e2, c2, _⟩ := hK.refsAt (r := j) (by omega)
  obtain ⟨fg', fc', e2', c3, _⟩ := hK.refsAt (r := t) (by omega)
  rw [e2] at e2'
  simp only [Value.slice.injEq, Option.some.injEq, Addr.mk.injEq, and_true, true_and] at e2'
  obtain ⟨rfl, rfl⟩ := e2'
  rw [hrj] at c2
  rw [hrt] at c3
  rw [hrl] at e2
  have d3 := hK.refs5 e2
  obtain ⟨sg, sc, e3, t0, t1, t2, sf, hsB, hsl, hsD, _⟩ := hK.slotAt hjl
  have d2 := hK.slots5 e3
  have f0 := sf (j * 3)
  have f1 := sf (j * 3 + 1)
  have f2 := sf (j * 3 + 2)
  have hq : ((n : Int) / 4).toNat = n / 4 := by omega
  have g1 : decide (0 < j) = true := by simp; omega
  have g2 : 0 < j := by omega
  have g3 : (j : Int) < (m.slots.length : Int) := by omega
  have g7 : (n : Int) / 4 < (m.root.length : Int) := by omega
  have g8 : (t : Int) < (m.slots.length : Int) := by omega
  have nDS : ¬ D = sg := fun x => hsD x.symm
  have nSD : ¬ sg = D := hsD
  have nbS : ¬ bs = sg := by omega
  have nSb : ¬ sg = bs := by omega
  have nkS : ¬ bk = sg := by omega
  have nSk : ¬ sg = bk := by omega
  have HF : Hid (∀ q, DTo W ((((W.drewN q).drew.setCell ⟨sg, j * 3, none⟩ (.int .i64 1)).setCell ⟨sg, j * 3 + 1, none⟩ (.string page)).setCell ⟨sg, j * 3 + 2, none⟩ (.slice none 0 0)) B D m val nilV { m with slots := m.slots.set j (1, page, []) } (upd val (.tab j) nilV)) := fun q => DTo.drewN_first (DTo.drew_first ((DTo.refl ((hK.drewN q).drew) nilV).setSlot hjl e3 1 page [] (World.ownsRow_nil _ _ _ _) (fun b hb _ q hq => (by cases hq)) (by intro x; cases x) (fun q x => (by cases x))))
  have k2 := (five (cells_other (cells_other (cells_other hK.box nDS (j * 3) (.int .i64 1)) nDS (j * 3 + 1) (.string page)) nDS (j * 3 + 2) (.slice none 0 0))).2.2.1
  rw [e3] at k2
  have hcS : ∀ i v, W.cell? ⟨bs, i, none⟩ = some v → (((W.setCell ⟨sg, j * 3, none⟩ (.int .i64 1)).setCell ⟨sg, j * 3 + 1, none⟩ (.string page)).setCell ⟨sg, j * 3 + 2, none⟩ (.slice none 0 0)).cell? ⟨bs, i, none⟩ = some v := fun i v hv => by
    rw [World.cell?_setCell_far _ _ _ _ nSb, World.cell?_setCell_far _ _ _ _ nSb, World.cell?_setCell_far _ _ _ _ nSb]; exact hv
  have hcK : ∀ i v, bk < B → W.cell? ⟨bk, i, none⟩ = some v → (((W.setCell ⟨sg, j * 3, none⟩ (.int .i64 1)).setCell ⟨sg, j * 3 + 1, none⟩ (.string page)).setCell ⟨sg, j * 3 + 2, none⟩ (.slice none 0 0)).cell? ⟨bk, i, none⟩ = some v := fun i v hb hv => by
    have nSk : ¬ sg = bk := by omega
    rw [World.cell?_setCell_far _ _ _ _ nSk, World.cell?_setCell_far _ _ _ _ nSk, World.cell?_setCell_far _ _ _ _ nSk]; exact hv
  have KK := Hid_mkW (And.intro k2 (And.intro (hcS _ _ s0) (And.intro (hcS _ _ s1) (And.intro (hcS _ _ s2) (hcK _ _ lk hck)))))
  clear hcS hcK k2 hK ht hrt hrj hrl e e2 e3 sf
  go_enter Tryz.func59, Tryz.ntmps59
  try go_wp2_with fail
  go_quiet (fail)
  go_wp2_with fail
  go_region_held3 (fun X => X.cell? ⟨D, 0 + 1 + 1, none⟩ = some (.slice (some ⟨sg, 0, none⟩) m.slots.length sc) ∧ X.cell? ⟨bs, 0, none⟩ = some (.int .i64 1) ∧ X.cell? ⟨bs, 0 + 1, none⟩ = some (.string page) ∧ X.cell? ⟨bs, 0 + 1 + 1, none⟩ = some (.slice none 0 0) ∧ X.cell? ⟨bk, 0, none⟩ = some (.int .i64 (j : Int))) (first | exact ⟨d2, s0, s1, s2, hck⟩ | exact KK.out) (fail)
  go_wp2_with fail
  refine bodyPost_ret (results_none rfl _ _ _) rfl ?_
  exact ⟨_, rfl, HF.out _⟩

theorem write_turn {w : World} {m : ImgD} {n bk bn bs : Nat} {k : Int} {page : ByteArray} (ck : w.cell? ⟨bk, 0, none⟩ = some (.int .i64 k)) (cn : w.cell? ⟨bn, 0, none⟩ = some (.int .i64 (n : Int))) (s0 : w.cell? ⟨bs, 0, none⟩ = some (.int .i64 1)) (s1 : w.cell? ⟨bs, 1, none⟩ = some (.string page)) (s2 : w.cell? ⟨bs, 2, none⟩ = some (.slice none 0 0)) (lk : bk < w.heap.size) (ln : bn < w.heap.size) (ls : bs < w.heap.size) (hC : checkE m = 0) (hn : (n : Int) < m.guest) (hk : lookV m m.root n = k) : Turns w 59 #[.pointer (some ⟨bk, 0, none⟩), .pointer (some ⟨bn, 0, none⟩), .pointer (some ⟨bs, 0, none⟩)] m (wrP m n page) := by
  intro W D B val hb h1' h2 hK
  have ck := (hb.cell (p := ⟨bk, 0, none⟩) lk).trans ck
  have cn := (hb.cell (p := ⟨bn, 0, none⟩) ln).trans cn
  have s0 := (hb.cell (p := ⟨bs, 0, none⟩) ls).trans s0
  have s1 := (hb.cell (p := ⟨bs, 1, none⟩) ls).trans s1
  have s2 := (hb.cell (p := ⟨bs, 2, none⟩) ls).trans s2
  show Calls Tryz.prog 59 #[.pointer (some ⟨D, 0, none⟩), .pointer (some ⟨bk, 0, none⟩), .pointer (some ⟨bn, 0, none⟩), .pointer (some ⟨bs, 0, none⟩)] W _
  have hs := checkE_shape hC
  have hg := guest_ok hs
  have hro := root_ok hs
  have hrl := (shapeE_zero hs).2.2.1
  have hr : n / 4 < m.root.length := by omega
  have h16 : n < 16 := by omega
  obtain ⟨t, ht, htl⟩ := root_nat hs hr
  have hts := tableO_ok hs hr
  have HS : Hid (∀ X, Below B W X → (fun X : World => X.cell? ⟨bn, 0, none⟩ = some (.int .i64 (n : Int)) ∧ X.cell? ⟨bs, 0, none⟩ = some (.int .i64 1) ∧ X.cell? ⟨bs, 0 + 1, none⟩ = some (.string page) ∧ X.cell? ⟨bs, 0 + 1 + 1, none⟩ = some (.slice none 0 0)) X) := fun X hX => ⟨(hX.cell (p := ⟨bn, 0, none⟩) (Nat.lt_of_lt_of_le ln h1')).trans cn, (hX.cell (p := ⟨bs, 0, none⟩) (Nat.lt_of_lt_of_le ls h1')).trans s0, (hX.cell (p := ⟨bs, 1, none⟩) (Nat.lt_of_lt_of_le ls h1')).trans s1, (hX.cell (p := ⟨bs, 2, none⟩) (Nat.lt_of_lt_of_le ls h1')).trans s2⟩
  have HP1 : ∀ q, Calls Tryz.prog 60 #[.pointer (some ⟨D, 0, none⟩), .int .i64 (n : Int), .int .i64 (-1)] (W.drewN q) (Tells (W.drewN q) B D m val nilV (wr1 m n)) := fun q => put_is (hK.drewN q) h2 h16 hr ht htl (.inr (shapeE_zero hs).2.1) hrl hts.1 (by decide)
  unfold wrP
  by_cases hw : wInPl m n = true
  · rw [if_pos hw]
    unfold wInPl inPl at hw
    rw [hk, ht] at hw
    simp only [Bool.and_eq_true, decide_eq_true_eq, bne_iff_ne, ne_eq, beq_iff_eq, Int.toNat_natCast] at hw
    obtain ⟨a1, ⟨a2, a3⟩, a4⟩ := hw
    rcases lookV_ent hs hro.2 n hr with h | h | ⟨j, hj, j1, jl, _⟩
    · rw [hk] at h; omega
    · rw [hk] at h; omega
    · have ekj : k = (j : Int) := hk.symm.trans hj
      subst ekj
      rw [Int.toNat_natCast] at a4
      rw [hk, Int.toNat_natCast]
      exact wcore_D bk bn bs n j t B D page W m val hK ck cn s0 s1 s2 (by omega) (by omega) h16 hr ht htl hrl a3 j1 jl a4
  · rw [if_neg hw]
    have hgd : (¬ 0 < k) ∨ (∃ (j fg fc : Nat) (x : Int), k = (j : Int) ∧ 0 < j ∧ j < m.slots.length ∧ W.cell? ⟨D, 3, none⟩ = some (.slice (some ⟨fg, 0, none⟩) m.slots.length fc) ∧ W.cell? ⟨fg, j, none⟩ = some (.int .i64 x) ∧ (x == 1) = false) ∨ (∃ (j g cap fg fc : Nat) (y : Int), k = (j : Int) ∧ 0 < j ∧ j < m.slots.length ∧ W.cell? ⟨D, 3, none⟩ = some (.slice (some ⟨fg, 0, none⟩) m.slots.length fc) ∧ W.cell? ⟨fg, j, none⟩ = some (.int .i64 1) ∧ W.cell? ⟨D, 1, none⟩ = some (.slice (some ⟨g, 0, none⟩) m.root.length cap) ∧ W.cell? ⟨g, n / 4, none⟩ = some (.int .i64 (t : Int)) ∧ W.cell? ⟨fg, t, none⟩ = some (.int .i64 y) ∧ (y == 1) = false) := by
      by_cases h0 : 0 < k
      · right
        rcases lookV_ent hs hro.2 n hr with h | h | ⟨j, hj, j1, jl, _⟩
        · rw [hk] at h; omega
        · rw [hk] at h; omega
        · have ekj : k = (j : Int) := hk.symm.trans hj
          obtain ⟨fg, fc, e2, c2, _⟩ := hK.refsAt (r := j) (by omega)
          have d3 := hK.refs5 e2
          rw [hrl] at d3
          cases hx : m.refs.getD j 0 == 1 with
          | false => exact .inl ⟨j, fg, fc, _, ekj, by omega, jl, d3, c2, hx⟩
          | true =>
            obtain ⟨fg', fc', e2', c3, _⟩ := hK.refsAt (r := t) (by omega)
            rw [e2] at e2'
            simp only [Value.slice.injEq, Option.some.injEq, Addr.mk.injEq, and_true, true_and] at e2'
            obtain ⟨rfl, rfl⟩ := e2'
            obtain ⟨g, cap, e, c, _⟩ := hK.rootAt hr
            rw [ht] at c
            have hx1 : m.refs.getD j 0 = 1 := by simpa using hx
            rw [hx1] at c2
            refine .inr ⟨j, g, cap, fg, fc, _, ekj, by omega, jl, d3, c2, hK.root5 e, c, c3, ?_⟩
            cases hy : m.refs.getD t 0 == 1 with
            | false => rfl
            | true =>
              refine absurd ?_ hw
              have ht0 : ¬ (t : Int) = 0 := fun x => by
                have hk' := hk
                unfold lookV at hk'
                rw [ht, if_pos x] at hk'
                omega
              unfold wInPl inPl
              rw [hj, ht, Int.toNat_natCast, Int.toNat_natCast, hx, hy]
              simp
              omega
      · exact .inl h0
    cases h1 : wr1 m n with
    | none =>
      rcases hgd with g | ⟨j, fg, fc, x, rfl, j1, jl, d3, c2, g5⟩ | ⟨j, g, cap, fg, fc, y, rfl, j1, jl, d3, c2, d1, c, c3, g5⟩
      · exact wcore_A_n1 bk bn bs n 0 B D k page W m m m m val (by simp; omega) g ck cn HS (fun q => by have := HP1 q; rw [h1] at this; exact this)
      · exact wcore_B_n1 bk bn bs n 0 B D 0 page W m m m m val j fg fc m.slots.length x (by simp; omega) j1 (by omega) jl d3 c2 g5 ck cn HS (fun q => by have := HP1 q; rw [h1] at this; exact this)
      · exact wcore_C_n1 bk bn bs n 0 B D 0 page W m m m m val j t g cap m.root.length fg fc m.slots.length y (by simp; omega) j1 (by omega) jl d3 c2 d1 h16 hr (by omega) (by omega) c (by omega) htl c3 g5 ck cn HS (fun q => by have := HP1 q; rw [h1] at this; exact this)
    | some m1 =>
      dsimp only
      have hsh := lay_shape hC hn (.inr rfl) h1
      have hs1 := (shapeE_zero hsh).2.1
      have hrl1 := (shapeE_zero hsh).2.2.1
      by_cases hg40 : grabN m1.slots = 40
      · rw [if_pos hg40]
        have HTN : Hid (∀ (w1 : World) (val1 : Nm → Value), DK w1 B D val1 m1 → Below B W w1 → Calls Tryz.prog 61 #[.pointer (some ⟨D, 0, none⟩), .agg #[.int .i64 1, .string page, .slice none 0 0]] w1 (fun r w2 => r = .panicked noSlotP ∧ Below B W w2)) := fun w1 val1 hk1 hb1 => (take_none (es := []) hk1 hs1 hg40 (World.ownsRow_nil _ _ _ _)).mono (fun e w2 h => ⟨h.1, hb1.trans (h.2.mono (Nat.le_trans h2 hb1.size))⟩)
        rcases hgd with g | ⟨j, fg, fc, x, rfl, j1, jl, d3, c2, g5⟩ | ⟨j, g, cap, fg, fc, y, rfl, j1, jl, d3, c2, d1, c, c3, g5⟩
        · exact wcore_A_n2 bk bn bs n 0 B D k page W m m1 m m val (by simp; omega) g ck cn HS (fun q => by have := HP1 q; rw [h1] at this; exact this) HTN
        · exact wcore_B_n2 bk bn bs n 0 B D 0 page W m m1 m m val j fg fc m.slots.length x (by simp; omega) j1 (by omega) jl d3 c2 g5 ck cn HS (fun q => by have := HP1 q; rw [h1] at this; exact this) HTN
        · exact wcore_C_n2 bk bn bs n 0 B D 0 page W m m1 m m val j t g cap m.root.length fg fc m.slots.length y (by simp; omega) j1 (by omega) jl d3 c2 d1 h16 hr (by omega) (by omega) c (by omega) htl c3 g5 ck cn HS (fun q => by have := HP1 q; rw [h1] at this; exact this) HTN
      · rw [if_neg hg40]
        obtain ⟨t2, ht2, htl2, hip, hrl2, hr2, hck2, hE2⟩ := wr2_facts hC hn h1 hg40 page
        have HTK : Hid (∀ (w1 : World) (val1 : Nm → Value), DK w1 B D val1 m1 → Below B W w1 → Calls Tryz.prog 61 #[.pointer (some ⟨D, 0, none⟩), .agg #[.int .i64 1, .string page, .slice none 0 0]] w1 (fun r w2 => r = .returned (.int .i64 (grabN m1.slots : Int)) ∧ ∃ val2, DTo w1 w2 B D m1 val1 nilV (takeD m1 (1, page, [])) val2)) := fun w1 val1 hk1 hb1 => (take_ok (es := []) hk1 (Nat.le_trans h2 hb1.size) hs1 hrl1 rfl hg40 (World.ownsRow_nil _ _ _ _) (fun a ha q hq => by cases hq) (by intro x; cases x)).mono (fun e w2 h => by obtain ⟨a, val2, hT, _⟩ := h; exact ⟨a, val2, hT⟩)
        have HP2 : ∀ (w2 : World) (val2 : Nm → Value), DK w2 B D val2 (takeD m1 (1, page, [])) → Below B W w2 → Calls Tryz.prog 60 #[.pointer (some ⟨D, 0, none⟩), .int .i64 (n : Int), .int .i64 (grabN m1.slots : Int)] w2 (Tells w2 B D (takeD m1 (1, page, [])) val2 nilV (layP (takeD m1 (1, page, [])) (n / 4) ((tableO (takeD m1 (1, page, [])) (n / 4)).set (n % 4) (grabN m1.slots : Int)))) := fun w2 val2 hk2 hb2 => put_is hk2 (Nat.le_trans h2 hb2.size) h16 hr2 ht2 htl2 (.inl hip) hrl2 hck2 hE2
        cases ho : layP (takeD m1 (1, page, [])) (n / 4) ((tableO (takeD m1 (1, page, [])) (n / 4)).set (n % 4) (grabN m1.slots : Int)) with
        | none =>
          rcases hgd with g | ⟨j, fg, fc, x, rfl, j1, jl, d3, c2, g5⟩ | ⟨j, g, cap, fg, fc, y, rfl, j1, jl, d3, c2, d1, c, c3, g5⟩
          · exact wcore_A_n3 bk bn bs n (grabN m1.slots) B D k page W m m1 (takeD m1 (1, page, [])) m val (by simp; omega) g ck cn HS (fun q => by have := HP1 q; rw [h1] at this; exact this) HTK (fun w2 val2 hk2 hb2 => by have := HP2 w2 val2 hk2 hb2; rw [ho] at this; exact this)
          · exact wcore_B_n3 bk bn bs n (grabN m1.slots) B D 0 page W m m1 (takeD m1 (1, page, [])) m val j fg fc m.slots.length x (by simp; omega) j1 (by omega) jl d3 c2 g5 ck cn HS (fun q => by have := HP1 q; rw [h1] at this; exact this) HTK (fun w2 val2 hk2 hb2 => by have := HP2 w2 val2 hk2 hb2; rw [ho] at this; exact this)
          · exact wcore_C_n3 bk bn bs n (grabN m1.slots) B D 0 page W m m1 (takeD m1 (1, page, [])) m val j t g cap m.root.length fg fc m.slots.length y (by simp; omega) j1 (by omega) jl d3 c2 d1 h16 hr (by omega) (by omega) c (by omega) htl c3 g5 ck cn HS (fun q => by have := HP1 q; rw [h1] at this; exact this) HTK (fun w2 val2 hk2 hb2 => by have := HP2 w2 val2 hk2 hb2; rw [ho] at this; exact this)
        | some M =>
          rcases hgd with g | ⟨j, fg, fc, x, rfl, j1, jl, d3, c2, g5⟩ | ⟨j, g, cap, fg, fc, y, rfl, j1, jl, d3, c2, d1, c, c3, g5⟩
          · exact wcore_A_ok bk bn bs n (grabN m1.slots) B D k page W m m1 (takeD m1 (1, page, [])) M val (by simp; omega) g ck cn HS (fun q => by have := HP1 q; rw [h1] at this; exact this) HTK (fun w2 val2 hk2 hb2 => by have := HP2 w2 val2 hk2 hb2; rw [ho] at this; exact this)
          · exact wcore_B_ok bk bn bs n (grabN m1.slots) B D 0 page W m m1 (takeD m1 (1, page, [])) M val j fg fc m.slots.length x (by simp; omega) j1 (by omega) jl d3 c2 g5 ck cn HS (fun q => by have := HP1 q; rw [h1] at this; exact this) HTK (fun w2 val2 hk2 hb2 => by have := HP2 w2 val2 hk2 hb2; rw [ho] at this; exact this)
          · exact wcore_C_ok bk bn bs n (grabN m1.slots) B D 0 page W m m1 (takeD m1 (1, page, [])) M val j t g cap m.root.length fg fc m.slots.length y (by simp; omega) j1 (by omega) jl d3 c2 d1 h16 hr (by omega) (by omega) c (by omega) htl c3 g5 ck cn HS (fun q => by have := HP1 q; rw [h1] at this; exact this) HTK (fun w2 val2 hk2 hb2 => by have := HP2 w2 val2 hk2 hb2; rw [ho] at this; exact this)

end Go.Proofs.YtehleeibgkpjmafGreat
/- Contracts of writing: vacate, Wipe, Punch. -/
namespace Go.Proofs.YtehleeibgkpjmafGreat
open Go.RowKit Go.Shelf
set_option maxRecDepth 20000

theorem lookE_prt {m : ImgD} {n : Int} (h : lookE m n = 0) : checkE m = 0 ∧ 0 ≤ n ∧ n < m.guest := by
  unfold lookE at h
  by_cases h0 : checkE m = 0
  · rw [if_neg (by simp [h0])] at h
    by_cases h1 : 0 ≤ n ∧ n < m.guest
    · exact ⟨h0, h1.1, h1.2⟩
    · rw [if_neg h1] at h; cases h
  · rw [if_pos h0] at h; exact absurd h h0
theorem one {W : World} {B : Nat} {a0 : Value} {t : TypeId} (h : W.heap[B]? = some (.cells #[a0] t)) : W.cell? ⟨B, 0, none⟩ = some a0 := by simp [World.cell?, h]

end Go.Proofs.YtehleeibgkpjmafGreat
/- Contract of slots.Check. -/
namespace Go.Proofs.YtehleeibgkpjmafGreat
open Go.RowKit
set_option maxRecDepth 20000

def slotE (k : Int) (d : ByteArray) (xs : List Int) : Int := if slotOK k d xs = true then 0 else 1

theorem below_of_drew {w w1 : World} {o : Obj} (h : Below (w.alloc o).drew.heap.size (w.alloc o).drew w1) : Below (w.heap.size + 1) (w.alloc o) w1 :=
  ⟨h.os, h.tape, h.output, h.size, fun k hk => h.block k (by simp; exact hk)⟩
theorem box_cells {w w1 : World} {x y z : Value} {T : TypeId} (h : Below (w.heap.size + 1) (w.alloc (.cells #[x, y, z] T)) w1) :
    w1.cell? ⟨w.heap.size, 0, none⟩ = some x ∧ w1.cell? ⟨w.heap.size, 1, none⟩ = some y ∧ w1.cell? ⟨w.heap.size, 2, none⟩ = some z := by
  refine ⟨(h.cell (p := ⟨w.heap.size, 0, none⟩) (by simp)).trans ?_, (h.cell (p := ⟨w.heap.size, 1, none⟩) (by simp)).trans ?_, (h.cell (p := ⟨w.heap.size, 2, none⟩) (by simp)).trans ?_⟩ <;> rw [World.cell?_alloc_at _ _ _ _ rfl] <;> rfl
theorem rules_at (w : World) (N : Nat) (hN : w.heap.size = N) : Calls Tryz.prog 90 #[] w fun r w' => r = .returned (.map (some N)) ∧ Hid (w'.heap[N]? = some (.map RULES 3)) ∧ Below w.heap.size w w' := by
  subst hN
  exact (rules_any w).mono fun e w' h => ⟨h.1, h.2.1, h.2.2.1⟩

set_option maxHeartbeats 1000000 in
theorem scheck_at (k : Int) (d : ByteArray) (ta : Option Addr) (tn tc : Nat) (xs : List Int) (w : World) (h : Sl w (.slice ta tn tc) xs) :
    Calls Tryz.prog 58 #[.agg #[.int .i64 k, .string d, .slice ta tn tc]] w fun r w' => r = .returned (.int .i64 (slotE k d xs)) ∧ Below w.heap.size w w' := by
  have hs := h.past (.cells #[.int .i64 k, .string d, .slice ta tn tc] 61)
  have b0 : Below w.heap.size w (w.alloc (.cells #[.int .i64 k, .string d, .slice ta tn tc] 61)) := (Below.refl _ _).alloc (Nat.le_refl _) _
  cases hE : slotOK k d xs with
  | true =>
    have HE : Hid (slotE k d xs = 0) := by show _ = _; unfold slotE; rw [if_pos hE]
    go_enter Tryz.func58, Tryz.ntmps58
    go_wp2
    go_region_with (first | (go_at_call 90; refine (rules_at _ (w.heap.size + 1) (by simp)).mono ?_; rintro e w1 ⟨rfl, HR, b1⟩; have b1 : Below (w.heap.size + 1) (w.alloc (.cells #[.int .i64 k, .string d, .slice ta tn tc] 61)) w1 := (below_of_drew b1); obtain ⟨c1, c2, c3⟩ := box_cells b1) | (go_at_call 89; refine (isRight_any _ 3 k d _ xs _ ?_ ?_).mono ?_; (first | exact HR.out | skip); (first | exact hs.below (by simpa using b1) | skip); rintro e w2 ⟨rfl, b2⟩))
    all_goals
      go_wp2
      go_ret
      exact ⟨ret_int HE.out.symm, Below.on (b0.trans (b1.mono (Nat.le_succ _))) b2⟩
  | false =>
    have HE : Hid (slotE k d xs = 1) := by show _ = _; unfold slotE; rw [if_neg (by simp [hE])]
    go_enter Tryz.func58, Tryz.ntmps58
    go_wp2
    go_region_with (first | (go_at_call 90; refine (rules_at _ (w.heap.size + 1) (by simp)).mono ?_; rintro e w1 ⟨rfl, HR, b1⟩; have b1 : Below (w.heap.size + 1) (w.alloc (.cells #[.int .i64 k, .string d, .slice ta tn tc] 61)) w1 := (below_of_drew b1); obtain ⟨c1, c2, c3⟩ := box_cells b1) | (go_at_call 89; refine (isRight_any _ 3 k d _ xs _ ?_ ?_).mono ?_; (first | exact HR.out | skip); (first | exact hs.below (by simpa using b1) | skip); rintro e w2 ⟨rfl, b2⟩))
    all_goals
      go_wp2
      go_ret
      exact ⟨ret_int HE.out.symm, Below.on (b0.trans (b1.mono (Nat.le_succ _))) b2⟩

theorem scheck_any (k : Int) (d : ByteArray) (tv : Value) (xs : List Int) (w : World) (h : Sl w tv xs) :
    Calls Tryz.prog 58 #[.agg #[.int .i64 k, .string d, tv]] w fun r w' => r = .returned (.int .i64 (slotE k d xs)) ∧ Below w.heap.size w w' := by
  obtain ⟨ao, cap, rfl⟩ := h.form
  exact scheck_at k d ao _ cap xs w h
theorem scheck_is {k : Int} {d : ByteArray} {tv : Value} {xs : List Int} {w : World} (h : Sl w tv xs) {c : Int} (hc : slotE k d xs = c) :
    Calls Tryz.prog 58 #[.agg #[.int .i64 k, .string d, tv]] w fun r w' => r = .returned (.int .i64 c) ∧ Below w.heap.size w w' := by subst hc; exact scheck_any k d tv xs w h
end Go.Proofs.YtehleeibgkpjmafGreat
/- Contracts of writing: Write. -/
namespace Go.Proofs.YtehleeibgkpjmafGreat
open Go.RowKit Go.Shelf
set_option maxRecDepth 20000
set_option linter.unusedVariables false

theorem slot_page {page : ByteArray} (h : page.size = 4) : slotE 1 page [] = 0 := by
  unfold slotE slotOK
  simp [h]
theorem slot_nopage {page : ByteArray} (h : page.size ≠ 4) : slotE 1 page [] = 1 := by
  unfold slotE slotOK
  simp [h]

set_option maxHeartbeats 4000000 in
theorem write_bad_at (m : ImgD) (ra : Option Addr) (rn rc : Nat) (sa : Option Addr) (sn sc : Nat) (fa : Option Addr) (fn fc : Nat) (na : Option Addr) (nn nc : Nat) (n E : Int) (page : ByteArray) (w : World) (h : Img w (.agg #[.int .i64 m.guest, .slice ra rn rc, .slice sa sn sc, .slice fa fn fc, .slice na nn nc]) m) (hl : lookE m n = E) (hE : (E != 0) = true) :
    Calls Tryz.prog 31 #[.agg #[.int .i64 m.guest, .slice ra rn rc, .slice sa sn sc, .slice fa fn fc, .slice na nn nc], .int .i64 n, .string page] w (AnsI w w.heap.size imgZ E) := by
  have b0 : Below w.heap.size w (((w.alloc (.cells #[.int .i64 m.guest, .slice ra rn rc, .slice sa sn sc, .slice fa fn fc, .slice na nn nc] 27)).alloc (.cells #[.int .i64 n] 3)).alloc (.cells #[.int .i64 0, .slice none 0 0, .slice none 0 0, .slice none 0 0, .slice none 0 0] 27)) := (((Below.refl _ _).alloc (by simp; try omega) _).alloc (by simp; try omega) _).alloc (by simp; try omega) _
  have q0 : (w.alloc (.cells #[.int .i64 m.guest, .slice ra rn rc, .slice sa sn sc, .slice fa fn fc, .slice na nn nc] 27)).heap[w.heap.size]? = some (.cells #[.int .i64 m.guest, .slice ra rn rc, .slice sa sn sc, .slice fa fn fc, .slice na nn nc] 27) := by have := World.alloc_heap_new w (.cells #[.int .i64 m.guest, .slice ra rn rc, .slice sa sn sc, .slice fa fn fc, .slice na nn nc] 27); simpa using this
  have m0 : (((w.alloc (.cells #[.int .i64 m.guest, .slice ra rn rc, .slice sa sn sc, .slice fa fn fc, .slice na nn nc] 27)).alloc (.cells #[.int .i64 n] 3)).alloc (.cells #[.int .i64 0, .slice none 0 0, .slice none 0 0, .slice none 0 0, .slice none 0 0] 27)).heap[w.heap.size]? = some (.cells #[.int .i64 m.guest, .slice ra rn rc, .slice sa sn sc, .slice fa fn fc, .slice na nn nc] 27) := (cells_alloc (cells_alloc q0 _) _)
  have q1 : ((w.alloc (.cells #[.int .i64 m.guest, .slice ra rn rc, .slice sa sn sc, .slice fa fn fc, .slice na nn nc] 27)).alloc (.cells #[.int .i64 n] 3)).heap[w.heap.size + 1]? = some (.cells #[.int .i64 n] 3) := by have := World.alloc_heap_new (w.alloc (.cells #[.int .i64 m.guest, .slice ra rn rc, .slice sa sn sc, .slice fa fn fc, .slice na nn nc] 27)) (.cells #[.int .i64 n] 3); simpa using this
  have m1 : (((w.alloc (.cells #[.int .i64 m.guest, .slice ra rn rc, .slice sa sn sc, .slice fa fn fc, .slice na nn nc] 27)).alloc (.cells #[.int .i64 n] 3)).alloc (.cells #[.int .i64 0, .slice none 0 0, .slice none 0 0, .slice none 0 0, .slice none 0 0] 27)).heap[w.heap.size + 1]? = some (.cells #[.int .i64 n] 3) := (cells_alloc q1 _)
  have q2 : (((w.alloc (.cells #[.int .i64 m.guest, .slice ra rn rc, .slice sa sn sc, .slice fa fn fc, .slice na nn nc] 27)).alloc (.cells #[.int .i64 n] 3)).alloc (.cells #[.int .i64 0, .slice none 0 0, .slice none 0 0, .slice none 0 0, .slice none 0 0] 27)).heap[w.heap.size + 1 + 1]? = some (.cells #[.int .i64 0, .slice none 0 0, .slice none 0 0, .slice none 0 0, .slice none 0 0] 27) := by have := World.alloc_heap_new ((w.alloc (.cells #[.int .i64 m.guest, .slice ra rn rc, .slice sa sn sc, .slice fa fn fc, .slice na nn nc] 27)).alloc (.cells #[.int .i64 n] 3)) (.cells #[.int .i64 0, .slice none 0 0, .slice none 0 0, .slice none 0 0, .slice none 0 0] 27); simpa using this
  have m2 : (((w.alloc (.cells #[.int .i64 m.guest, .slice ra rn rc, .slice sa sn sc, .slice fa fn fc, .slice na nn nc] 27)).alloc (.cells #[.int .i64 n] 3)).alloc (.cells #[.int .i64 0, .slice none 0 0, .slice none 0 0, .slice none 0 0, .slice none 0 0] 27)).heap[w.heap.size + 1 + 1]? = some (.cells #[.int .i64 0, .slice none 0 0, .slice none 0 0, .slice none 0 0, .slice none 0 0] 27) := q2
  have hz : (((w.alloc (.cells #[.int .i64 m.guest, .slice ra rn rc, .slice sa sn sc, .slice fa fn fc, .slice na nn nc] 27)).alloc (.cells #[.int .i64 n] 3)).alloc (.cells #[.int .i64 0, .slice none 0 0, .slice none 0 0, .slice none 0 0, .slice none 0 0] 27)).heap.size = w.heap.size + 1 + 1 + 1 := by simp
  clear q0 q1 q2
  have hE0 : ¬ E = 0 := by simpa using hE
  have hlook := look_is (h.below b0) n hl (if_neg hE0)
  obtain ⟨c0, c1, c2, c3, c4⟩ := five m0
  have cn := one m1
  have HM : Hid ((((w.alloc (.cells #[.int .i64 m.guest, .slice ra rn rc, .slice sa sn sc, .slice fa fn fc, .slice na nn nc] 27)).alloc (.cells #[.int .i64 n] 3)).alloc (.cells #[.int .i64 0, .slice none 0 0, .slice none 0 0, .slice none 0 0, .slice none 0 0] 27)).heap[w.heap.size + 1 + 1]? = some (.cells #[.int .i64 0, .slice none 0 0, .slice none 0 0, .slice none 0 0, .slice none 0 0] 27) ∧ Below w.heap.size w (((w.alloc (.cells #[.int .i64 m.guest, .slice ra rn rc, .slice sa sn sc, .slice fa fn fc, .slice na nn nc] 27)).alloc (.cells #[.int .i64 n] 3)).alloc (.cells #[.int .i64 0, .slice none 0 0, .slice none 0 0, .slice none 0 0, .slice none 0 0] 27)) ∧ (((w.alloc (.cells #[.int .i64 m.guest, .slice ra rn rc, .slice sa sn sc, .slice fa fn fc, .slice na nn nc] 27)).alloc (.cells #[.int .i64 n] 3)).alloc (.cells #[.int .i64 0, .slice none 0 0, .slice none 0 0, .slice none 0 0, .slice none 0 0] 27)).heap.size = w.heap.size + 1 + 1 + 1) := ⟨m2, b0, hz⟩
  clear h m0 m1 m2 hz hl b0
  go_enter Tryz.func31, Tryz.ntmps31
  go_wp2_with (go_at_call 52; refine hlook.mono ?_; rintro e w1 ⟨rfl, b1⟩; have k3 := cells_alloc (cells_below HM.out.1 b1 (by rw [HM.out.2.2]; omega)) (.cells #[.int .i64 0] 3); obtain ⟨z0, z1, z2, z3, z4⟩ := five k3; have y0 := cells_frozen k3 0; have y1 := cells_frozen k3 1; have y2 := cells_frozen k3 2; have y3 := cells_frozen k3 3; have y4 := cells_frozen k3 4; have hsz : w.heap.size + 1 + 1 + 1 ≤ w1.heap.size := (by have := b1.size; rw [HM.out.2.2] at this; exact this); have HB : Hid (Below w.heap.size w (w1.alloc (.cells #[.int .i64 0] 3))) := (Below.on HM.out.2.1 b1).alloc (by omega) _; clear b1 k3)
  have i1 : w.heap.size ≤ w.heap.size + 1 + 1 := by omega
  refine bodyPost_ret (v := .tuple #[.agg #[.int .i64 0, .slice none 0 0, .slice none 0 0, .slice none 0 0, .slice none 0 0], .int .i64 E]) (by simp [results, Tryz.results31, go_sem, z0, z1, z2, z3, z4]) rfl (AnsI.bad E (((((HB.out.setCell i1 _).setCell i1 _).setCell i1 _).setCell i1 _).setCell i1 _))

set_option maxHeartbeats 4000000 in
theorem write_form_at (m : ImgD) (ra : Option Addr) (rn rc : Nat) (sa : Option Addr) (sn sc : Nat) (fa : Option Addr) (fn fc : Nat) (na : Option Addr) (nn nc : Nat) (n : Nat) (page : ByteArray) (w : World) (h : Img w (.agg #[.int .i64 m.guest, .slice ra rn rc, .slice sa sn sc, .slice fa fn fc, .slice na nn nc]) m) (hl : lookE m (n : Int) = 0) (hp : page.size ≠ 4) (k : Int) (hk : lookV m m.root n = k) :
    Calls Tryz.prog 31 #[.agg #[.int .i64 m.guest, .slice ra rn rc, .slice sa sn sc, .slice fa fn fc, .slice na nn nc], .int .i64 (n : Int), .string page] w (AnsI w w.heap.size imgZ 1) := by
  have b0 : Below w.heap.size w (((w.alloc (.cells #[.int .i64 m.guest, .slice ra rn rc, .slice sa sn sc, .slice fa fn fc, .slice na nn nc] 27)).alloc (.cells #[.int .i64 (n : Int)] 3)).alloc (.cells #[.int .i64 0, .slice none 0 0, .slice none 0 0, .slice none 0 0, .slice none 0 0] 27)) := (((Below.refl _ _).alloc (by simp; try omega) _).alloc (by simp; try omega) _).alloc (by simp; try omega) _
  have q0 : (w.alloc (.cells #[.int .i64 m.guest, .slice ra rn rc, .slice sa sn sc, .slice fa fn fc, .slice na nn nc] 27)).heap[w.heap.size]? = some (.cells #[.int .i64 m.guest, .slice ra rn rc, .slice sa sn sc, .slice fa fn fc, .slice na nn nc] 27) := by have := World.alloc_heap_new w (.cells #[.int .i64 m.guest, .slice ra rn rc, .slice sa sn sc, .slice fa fn fc, .slice na nn nc] 27); simpa using this
  have m0 : (((w.alloc (.cells #[.int .i64 m.guest, .slice ra rn rc, .slice sa sn sc, .slice fa fn fc, .slice na nn nc] 27)).alloc (.cells #[.int .i64 (n : Int)] 3)).alloc (.cells #[.int .i64 0, .slice none 0 0, .slice none 0 0, .slice none 0 0, .slice none 0 0] 27)).heap[w.heap.size]? = some (.cells #[.int .i64 m.guest, .slice ra rn rc, .slice sa sn sc, .slice fa fn fc, .slice na nn nc] 27) := (cells_alloc (cells_alloc q0 _) _)
  have q1 : ((w.alloc (.cells #[.int .i64 m.guest, .slice ra rn rc, .slice sa sn sc, .slice fa fn fc, .slice na nn nc] 27)).alloc (.cells #[.int .i64 (n : Int)] 3)).heap[w.heap.size + 1]? = some (.cells #[.int .i64 (n : Int)] 3) := by have := World.alloc_heap_new (w.alloc (.cells #[.int .i64 m.guest, .slice ra rn rc, .slice sa sn sc, .slice fa fn fc, .slice na nn nc] 27)) (.cells #[.int .i64 (n : Int)] 3); simpa using this
  have m1 : (((w.alloc (.cells #[.int .i64 m.guest, .slice ra rn rc, .slice sa sn sc, .slice fa fn fc, .slice na nn nc] 27)).alloc (.cells #[.int .i64 (n : Int)] 3)).alloc (.cells #[.int .i64 0, .slice none 0 0, .slice none 0 0, .slice none 0 0, .slice none 0 0] 27)).heap[w.heap.size + 1]? = some (.cells #[.int .i64 (n : Int)] 3) := (cells_alloc q1 _)
  have q2 : (((w.alloc (.cells #[.int .i64 m.guest, .slice ra rn rc, .slice sa sn sc, .slice fa fn fc, .slice na nn nc] 27)).alloc (.cells #[.int .i64 (n : Int)] 3)).alloc (.cells #[.int .i64 0, .slice none 0 0, .slice none 0 0, .slice none 0 0, .slice none 0 0] 27)).heap[w.heap.size + 1 + 1]? = some (.cells #[.int .i64 0, .slice none 0 0, .slice none 0 0, .slice none 0 0, .slice none 0 0] 27) := by have := World.alloc_heap_new ((w.alloc (.cells #[.int .i64 m.guest, .slice ra rn rc, .slice sa sn sc, .slice fa fn fc, .slice na nn nc] 27)).alloc (.cells #[.int .i64 (n : Int)] 3)) (.cells #[.int .i64 0, .slice none 0 0, .slice none 0 0, .slice none 0 0, .slice none 0 0] 27); simpa using this
  have m2 : (((w.alloc (.cells #[.int .i64 m.guest, .slice ra rn rc, .slice sa sn sc, .slice fa fn fc, .slice na nn nc] 27)).alloc (.cells #[.int .i64 (n : Int)] 3)).alloc (.cells #[.int .i64 0, .slice none 0 0, .slice none 0 0, .slice none 0 0, .slice none 0 0] 27)).heap[w.heap.size + 1 + 1]? = some (.cells #[.int .i64 0, .slice none 0 0, .slice none 0 0, .slice none 0 0, .slice none 0 0] 27) := q2
  have hz : (((w.alloc (.cells #[.int .i64 m.guest, .slice ra rn rc, .slice sa sn sc, .slice fa fn fc, .slice na nn nc] 27)).alloc (.cells #[.int .i64 (n : Int)] 3)).alloc (.cells #[.int .i64 0, .slice none 0 0, .slice none 0 0, .slice none 0 0, .slice none 0 0] 27)).heap.size = w.heap.size + 1 + 1 + 1 := by simp
  clear q0 q1 q2
  have hlook := look_is (c := k) (h.below b0) (n : Int) hl (by rw [if_pos rfl, Int.toNat_natCast]; exact hk)
  obtain ⟨c0, c1, c2, c3, c4⟩ := five m0
  have cn := one m1
  have HC : Hid (∀ w1 : World, Calls Tryz.prog 58 #[.agg #[.int .i64 1, .string page, .slice none 0 0]] ((w1.alloc (.cells #[.int .i64 k] 3)).alloc (.cells #[.int .i64 1, .string page, .slice none 0 0] 61)) fun r w' => r = .returned (.int .i64 1) ∧ Below ((w1.alloc (.cells #[.int .i64 k] 3)).alloc (.cells #[.int .i64 1, .string page, .slice none 0 0] 61)).heap.size ((w1.alloc (.cells #[.int .i64 k] 3)).alloc (.cells #[.int .i64 1, .string page, .slice none 0 0] 61)) w') := fun w1 => scheck_is (Sl.nil _) (slot_nopage hp)
  have HM : Hid ((((w.alloc (.cells #[.int .i64 m.guest, .slice ra rn rc, .slice sa sn sc, .slice fa fn fc, .slice na nn nc] 27)).alloc (.cells #[.int .i64 (n : Int)] 3)).alloc (.cells #[.int .i64 0, .slice none 0 0, .slice none 0 0, .slice none 0 0, .slice none 0 0] 27)).heap[w.heap.size + 1 + 1]? = some (.cells #[.int .i64 0, .slice none 0 0, .slice none 0 0, .slice none 0 0, .slice none 0 0] 27) ∧ Below w.heap.size w (((w.alloc (.cells #[.int .i64 m.guest, .slice ra rn rc, .slice sa sn sc, .slice fa fn fc, .slice na nn nc] 27)).alloc (.cells #[.int .i64 (n : Int)] 3)).alloc (.cells #[.int .i64 0, .slice none 0 0, .slice none 0 0, .slice none 0 0, .slice none 0 0] 27)) ∧ (((w.alloc (.cells #[.int .i64 m.guest, .slice ra rn rc, .slice sa sn sc, .slice fa fn fc, .slice na nn nc] 27)).alloc (.cells #[.int .i64 (n : Int)] 3)).alloc (.cells #[.int .i64 0, .slice none 0 0, .slice none 0 0, .slice none 0 0, .slice none 0 0] 27)).heap.size = w.heap.size + 1 + 1 + 1) := ⟨m2, b0, hz⟩
  clear h m0 m1 m2 hz hl b0 hk hp
  go_enter Tryz.func31, Tryz.ntmps31
  go_wp2_with (first | (go_at_call 58; refine hck.mono ?_; rintro e w2 ⟨rfl, b2⟩; have k3 := cells_below HW.out.1 b2 HW.out.2.2; obtain ⟨z0, z1, z2, z3, z4⟩ := five k3; have y0 := cells_frozen k3 0; have y1 := cells_frozen k3 1; have y2 := cells_frozen k3 2; have y3 := cells_frozen k3 3; have y4 := cells_frozen k3 4; have HB : Hid (Below w.heap.size w w2) := Below.on HW.out.2.1 b2; clear b2 k3) | (go_at_call 52; refine hlook.mono ?_; rintro e w1 ⟨rfl, b1⟩; have hsz : w.heap.size + 1 + 1 + 1 ≤ w1.heap.size := (by have := b1.size; rw [HM.out.2.2] at this; exact this); have hz1 : ((w1.alloc (.cells #[.int .i64 k] 3)).alloc (.cells #[.int .i64 1, .string page, .slice none 0 0] 61)).heap.size = w1.heap.size + 1 + 1 := (by simp); have HW : Hid (((w1.alloc (.cells #[.int .i64 k] 3)).alloc (.cells #[.int .i64 1, .string page, .slice none 0 0] 61)).heap[w.heap.size + 1 + 1]? = some (.cells #[.int .i64 0, .slice none 0 0, .slice none 0 0, .slice none 0 0, .slice none 0 0] 27) ∧ Below w.heap.size w ((w1.alloc (.cells #[.int .i64 k] 3)).alloc (.cells #[.int .i64 1, .string page, .slice none 0 0] 61)) ∧ w.heap.size + 1 + 1 < ((w1.alloc (.cells #[.int .i64 k] 3)).alloc (.cells #[.int .i64 1, .string page, .slice none 0 0] 61)).heap.size) := (⟨cells_alloc (cells_alloc (cells_below HM.out.1 b1 (by rw [HM.out.2.2]; omega)) _) _, ((Below.on HM.out.2.1 b1).alloc (by omega) _).alloc (by simp; omega) _, by rw [hz1]; omega⟩); have qq : ((w1.alloc (.cells #[.int .i64 k] 3)).alloc (.cells #[.int .i64 1, .string page, .slice none 0 0] 61)).heap[w1.heap.size + 1]? = some (.cells #[.int .i64 1, .string page, .slice none 0 0] 61) := (by have := World.alloc_heap_new (w1.alloc (.cells #[.int .i64 k] 3)) (.cells #[.int .i64 1, .string page, .slice none 0 0] 61); simpa using this); obtain ⟨u0, u1, u2⟩ := three qq; have hck := HC.out w1; clear b1 hz1 hsz qq))
  have i1 : w.heap.size ≤ w.heap.size + 1 + 1 := by omega
  refine bodyPost_ret (v := .tuple #[.agg #[.int .i64 0, .slice none 0 0, .slice none 0 0, .slice none 0 0, .slice none 0 0], .int .i64 1]) (by simp [results, Tryz.results31, go_sem, z0, z1, z2, z3, z4]) rfl (AnsI.bad 1 (((((HB.out.setCell i1 _).setCell i1 _).setCell i1 _).setCell i1 _).setCell i1 _))

set_option maxHeartbeats 4000000 in
theorem write_ok_at (m : ImgD) (ra : Option Addr) (rn rc : Nat) (sa : Option Addr) (sn sc : Nat) (fa : Option Addr) (fn fc : Nat) (na : Option Addr) (nn nc : Nat) (n : Nat) (page : ByteArray) (w : World) (h : Img w (.agg #[.int .i64 m.guest, .slice ra rn rc, .slice sa sn sc, .slice fa fn fc, .slice na nn nc]) m) (hF : Fits m) (hl : lookE m (n : Int) = 0) (hp : page.size = 4) (k : Int) (hk : lookV m m.root n = k) (M : ImgD) (hM : ofM (wrP m n page) = M) (er : Int) (her : ofE (wrP m n page) = er) :
    Calls Tryz.prog 31 #[.agg #[.int .i64 m.guest, .slice ra rn rc, .slice sa sn sc, .slice fa fn fc, .slice na nn nc], .int .i64 (n : Int), .string page] w (AnsI w w.heap.size M er) := by
  have b0 : Below w.heap.size w (((w.alloc (.cells #[.int .i64 m.guest, .slice ra rn rc, .slice sa sn sc, .slice fa fn fc, .slice na nn nc] 27)).alloc (.cells #[.int .i64 (n : Int)] 3)).alloc (.cells #[.int .i64 0, .slice none 0 0, .slice none 0 0, .slice none 0 0, .slice none 0 0] 27)) := (((Below.refl _ _).alloc (by simp; try omega) _).alloc (by simp; try omega) _).alloc (by simp; try omega) _
  have q0 : (w.alloc (.cells #[.int .i64 m.guest, .slice ra rn rc, .slice sa sn sc, .slice fa fn fc, .slice na nn nc] 27)).heap[w.heap.size]? = some (.cells #[.int .i64 m.guest, .slice ra rn rc, .slice sa sn sc, .slice fa fn fc, .slice na nn nc] 27) := by have := World.alloc_heap_new w (.cells #[.int .i64 m.guest, .slice ra rn rc, .slice sa sn sc, .slice fa fn fc, .slice na nn nc] 27); simpa using this
  have m0 : (((w.alloc (.cells #[.int .i64 m.guest, .slice ra rn rc, .slice sa sn sc, .slice fa fn fc, .slice na nn nc] 27)).alloc (.cells #[.int .i64 (n : Int)] 3)).alloc (.cells #[.int .i64 0, .slice none 0 0, .slice none 0 0, .slice none 0 0, .slice none 0 0] 27)).heap[w.heap.size]? = some (.cells #[.int .i64 m.guest, .slice ra rn rc, .slice sa sn sc, .slice fa fn fc, .slice na nn nc] 27) := (cells_alloc (cells_alloc q0 _) _)
  have q1 : ((w.alloc (.cells #[.int .i64 m.guest, .slice ra rn rc, .slice sa sn sc, .slice fa fn fc, .slice na nn nc] 27)).alloc (.cells #[.int .i64 (n : Int)] 3)).heap[w.heap.size + 1]? = some (.cells #[.int .i64 (n : Int)] 3) := by have := World.alloc_heap_new (w.alloc (.cells #[.int .i64 m.guest, .slice ra rn rc, .slice sa sn sc, .slice fa fn fc, .slice na nn nc] 27)) (.cells #[.int .i64 (n : Int)] 3); simpa using this
  have m1 : (((w.alloc (.cells #[.int .i64 m.guest, .slice ra rn rc, .slice sa sn sc, .slice fa fn fc, .slice na nn nc] 27)).alloc (.cells #[.int .i64 (n : Int)] 3)).alloc (.cells #[.int .i64 0, .slice none 0 0, .slice none 0 0, .slice none 0 0, .slice none 0 0] 27)).heap[w.heap.size + 1]? = some (.cells #[.int .i64 (n : Int)] 3) := (cells_alloc q1 _)
  have q2 : (((w.alloc (.cells #[.int .i64 m.guest, .slice ra rn rc, .slice sa sn sc, .slice fa fn fc, .slice na nn nc] 27)).alloc (.cells #[.int .i64 (n : Int)] 3)).alloc (.cells #[.int .i64 0, .slice none 0 0, .slice none 0 0, .slice none 0 0, .slice none 0 0] 27)).heap[w.heap.size + 1 + 1]? = some (.cells #[.int .i64 0, .slice none 0 0, .slice none 0 0, .slice none 0 0, .slice none 0 0] 27) := by have := World.alloc_heap_new ((w.alloc (.cells #[.int .i64 m.guest, .slice ra rn rc, .slice sa sn sc, .slice fa fn fc, .slice na nn nc] 27)).alloc (.cells #[.int .i64 (n : Int)] 3)) (.cells #[.int .i64 0, .slice none 0 0, .slice none 0 0, .slice none 0 0, .slice none 0 0] 27); simpa using this
  have m2 : (((w.alloc (.cells #[.int .i64 m.guest, .slice ra rn rc, .slice sa sn sc, .slice fa fn fc, .slice na nn nc] 27)).alloc (.cells #[.int .i64 (n : Int)] 3)).alloc (.cells #[.int .i64 0, .slice none 0 0, .slice none 0 0, .slice none 0 0, .slice none 0 0] 27)).heap[w.heap.size + 1 + 1]? = some (.cells #[.int .i64 0, .slice none 0 0, .slice none 0 0, .slice none 0 0, .slice none 0 0] 27) := q2
  have hz : (((w.alloc (.cells #[.int .i64 m.guest, .slice ra rn rc, .slice sa sn sc, .slice fa fn fc, .slice na nn nc] 27)).alloc (.cells #[.int .i64 (n : Int)] 3)).alloc (.cells #[.int .i64 0, .slice none 0 0, .slice none 0 0, .slice none 0 0, .slice none 0 0] 27)).heap.size = w.heap.size + 1 + 1 + 1 := by simp
  clear q0 q1 q2
  obtain ⟨hC, _, hn⟩ := lookE_prt hl
  have hlook := look_is (c := k) (h.below b0) (n : Int) hl (by rw [if_pos rfl, Int.toNat_natCast]; exact hk)
  obtain ⟨c0, c1, c2, c3, c4⟩ := five m0
  have cn := one m1
  have HC : Hid (∀ w1 : World, Calls Tryz.prog 58 #[.agg #[.int .i64 1, .string page, .slice none 0 0]] ((w1.alloc (.cells #[.int .i64 k] 3)).alloc (.cells #[.int .i64 1, .string page, .slice none 0 0] 61)) fun r w' => r = .returned (.int .i64 0) ∧ Below ((w1.alloc (.cells #[.int .i64 k] 3)).alloc (.cells #[.int .i64 1, .string page, .slice none 0 0] 61)).heap.size ((w1.alloc (.cells #[.int .i64 k] 3)).alloc (.cells #[.int .i64 1, .string page, .slice none 0 0] 61)) w') := fun w1 => scheck_is (Sl.nil _) (slot_page hp)
  have HO : Hid (∀ w1 w2, Below (((w.alloc (.cells #[.int .i64 m.guest, .slice ra rn rc, .slice sa sn sc, .slice fa fn fc, .slice na nn nc] 27)).alloc (.cells #[.int .i64 (n : Int)] 3)).alloc (.cells #[.int .i64 0, .slice none 0 0, .slice none 0 0, .slice none 0 0, .slice none 0 0] 27)).heap.size (((w.alloc (.cells #[.int .i64 m.guest, .slice ra rn rc, .slice sa sn sc, .slice fa fn fc, .slice na nn nc] 27)).alloc (.cells #[.int .i64 (n : Int)] 3)).alloc (.cells #[.int .i64 0, .slice none 0 0, .slice none 0 0, .slice none 0 0, .slice none 0 0] 27)) w1 → Below ((w1.alloc (.cells #[.int .i64 k] 3)).alloc (.cells #[.int .i64 1, .string page, .slice none 0 0] 61)).heap.size ((w1.alloc (.cells #[.int .i64 k] 3)).alloc (.cells #[.int .i64 1, .string page, .slice none 0 0] 61)) w2 → Calls Tryz.prog 39 #[.agg #[.int .i64 m.guest, .slice ra rn rc, .slice sa sn sc, .slice fa fn fc, .slice na nn nc], .func (.func 59) #[] #[.pointer (some ⟨w1.heap.size, 0, none⟩), .pointer (some ⟨w.heap.size + 1, 0, none⟩), .pointer (some ⟨w1.heap.size + 1, 0, none⟩)]] w2 (AnsI w2 w2.heap.size M er)) := fun w1 w2 b1 b2 => by
    have hsz : w.heap.size + 1 + 1 + 1 ≤ w1.heap.size := (by have := b1.size; rw [hz] at this; exact this)
    have hz1 : ((w1.alloc (.cells #[.int .i64 k] 3)).alloc (.cells #[.int .i64 1, .string page, .slice none 0 0] 61)).heap.size = w1.heap.size + 1 + 1 := by simp
    have q0 : ((w1.alloc (.cells #[.int .i64 k] 3)).alloc (.cells #[.int .i64 1, .string page, .slice none 0 0] 61)).heap[w1.heap.size]? = some (.cells #[.int .i64 k] 3) := cells_alloc (World.alloc_heap_new _ _) _
    have qq : ((w1.alloc (.cells #[.int .i64 k] 3)).alloc (.cells #[.int .i64 1, .string page, .slice none 0 0] 61)).heap[w1.heap.size + 1]? = some (.cells #[.int .i64 1, .string page, .slice none 0 0] 61) := by have := World.alloc_heap_new (w1.alloc (.cells #[.int .i64 k] 3)) (.cells #[.int .i64 1, .string page, .slice none 0 0] 61); simpa using this
    have qn := cells_alloc (cells_alloc (cells_below m1 b1 (by rw [hz]; omega)) (.cells #[.int .i64 k] 3)) (.cells #[.int .i64 1, .string page, .slice none 0 0] 61)
    have r0 := one (cells_below q0 b2 (by rw [hz1]; omega))
    have rn := one (cells_below qn b2 (by rw [hz1]; omega))
    obtain ⟨r1, r2, r3⟩ := three (cells_below qq b2 (by rw [hz1]; omega))
    have hsz2 : w1.heap.size + 1 + 1 ≤ w2.heap.size := by have := b2.size; rw [hz1] at this; exact this
    have bb : Below w.heap.size w ((w1.alloc (.cells #[.int .i64 k] 3)).alloc (.cells #[.int .i64 1, .string page, .slice none 0 0] 61)) := ((Below.on b0 b1).alloc (by omega) _).alloc (by simp; omega) _
    rw [← hM, ← her]
    exact of_is (h.below (Below.on bb b2)) hF (enters_of Tryz.func59 (by kernel_rfl) rfl) (write_turn r0 rn r1 r2 r3 (by omega) (by omega) (by omega) hC hn hk)
  have HM : Hid ((((w.alloc (.cells #[.int .i64 m.guest, .slice ra rn rc, .slice sa sn sc, .slice fa fn fc, .slice na nn nc] 27)).alloc (.cells #[.int .i64 (n : Int)] 3)).alloc (.cells #[.int .i64 0, .slice none 0 0, .slice none 0 0, .slice none 0 0, .slice none 0 0] 27)).heap[w.heap.size]? = some (.cells #[.int .i64 m.guest, .slice ra rn rc, .slice sa sn sc, .slice fa fn fc, .slice na nn nc] 27) ∧ (((w.alloc (.cells #[.int .i64 m.guest, .slice ra rn rc, .slice sa sn sc, .slice fa fn fc, .slice na nn nc] 27)).alloc (.cells #[.int .i64 (n : Int)] 3)).alloc (.cells #[.int .i64 0, .slice none 0 0, .slice none 0 0, .slice none 0 0, .slice none 0 0] 27)).heap[w.heap.size + 1 + 1]? = some (.cells #[.int .i64 0, .slice none 0 0, .slice none 0 0, .slice none 0 0, .slice none 0 0] 27) ∧ Below w.heap.size w (((w.alloc (.cells #[.int .i64 m.guest, .slice ra rn rc, .slice sa sn sc, .slice fa fn fc, .slice na nn nc] 27)).alloc (.cells #[.int .i64 (n : Int)] 3)).alloc (.cells #[.int .i64 0, .slice none 0 0, .slice none 0 0, .slice none 0 0, .slice none 0 0] 27)) ∧ (((w.alloc (.cells #[.int .i64 m.guest, .slice ra rn rc, .slice sa sn sc, .slice fa fn fc, .slice na nn nc] 27)).alloc (.cells #[.int .i64 (n : Int)] 3)).alloc (.cells #[.int .i64 0, .slice none 0 0, .slice none 0 0, .slice none 0 0, .slice none 0 0] 27)).heap.size = w.heap.size + 1 + 1 + 1) := ⟨m0, m2, b0, hz⟩
  clear h m0 m1 m2 hz hl b0 hC hn hk hM her hF hp
  go_enter Tryz.func31, Tryz.ntmps31
  go_wp2_with (first | (go_at_call 58; refine hck.mono ?_; rintro e w2 ⟨rfl, b2⟩; have d0 := cells_below HW.out.2.2.2.1 b2 (by have := HW.out.2.2.1; omega); obtain ⟨d1, d2, d3, d4, d5⟩ := five d0; have hof := HO.out w1 w2 HW.out.2.2.2.2 b2; have HV : Hid (Below w.heap.size w w2 ∧ w2.heap[w.heap.size + 1 + 1]? = some (.cells #[.int .i64 0, .slice none 0 0, .slice none 0 0, .slice none 0 0, .slice none 0 0] 27) ∧ w.heap.size + 1 + 1 < w2.heap.size) := (⟨Below.on HW.out.2.1 b2, cells_below HW.out.1 b2 HW.out.2.2.1, Nat.lt_of_lt_of_le HW.out.2.2.1 b2.size⟩); clear b2 d0) | (go_at_call 52; refine hlook.mono ?_; rintro e w1 ⟨rfl, b1⟩; have hsz : w.heap.size + 1 + 1 + 1 ≤ w1.heap.size := (by have := b1.size; rw [HM.out.2.2.2] at this; exact this); have hz1 : ((w1.alloc (.cells #[.int .i64 k] 3)).alloc (.cells #[.int .i64 1, .string page, .slice none 0 0] 61)).heap.size = w1.heap.size + 1 + 1 := (by simp); have HW : Hid (((w1.alloc (.cells #[.int .i64 k] 3)).alloc (.cells #[.int .i64 1, .string page, .slice none 0 0] 61)).heap[w.heap.size + 1 + 1]? = some (.cells #[.int .i64 0, .slice none 0 0, .slice none 0 0, .slice none 0 0, .slice none 0 0] 27) ∧ Below w.heap.size w ((w1.alloc (.cells #[.int .i64 k] 3)).alloc (.cells #[.int .i64 1, .string page, .slice none 0 0] 61)) ∧ w.heap.size + 1 + 1 < ((w1.alloc (.cells #[.int .i64 k] 3)).alloc (.cells #[.int .i64 1, .string page, .slice none 0 0] 61)).heap.size ∧ ((w1.alloc (.cells #[.int .i64 k] 3)).alloc (.cells #[.int .i64 1, .string page, .slice none 0 0] 61)).heap[w.heap.size]? = some (.cells #[.int .i64 m.guest, .slice ra rn rc, .slice sa sn sc, .slice fa fn fc, .slice na nn nc] 27) ∧ Below (((w.alloc (.cells #[.int .i64 m.guest, .slice ra rn rc, .slice sa sn sc, .slice fa fn fc, .slice na nn nc] 27)).alloc (.cells #[.int .i64 (n : Int)] 3)).alloc (.cells #[.int .i64 0, .slice none 0 0, .slice none 0 0, .slice none 0 0, .slice none 0 0] 27)).heap.size (((w.alloc (.cells #[.int .i64 m.guest, .slice ra rn rc, .slice sa sn sc, .slice fa fn fc, .slice na nn nc] 27)).alloc (.cells #[.int .i64 (n : Int)] 3)).alloc (.cells #[.int .i64 0, .slice none 0 0, .slice none 0 0, .slice none 0 0, .slice none 0 0] 27)) w1) := (⟨cells_alloc (cells_alloc (cells_below HM.out.2.1 b1 (by rw [HM.out.2.2.2]; omega)) _) _, ((Below.on HM.out.2.2.1 b1).alloc (by omega) _).alloc (by simp; omega) _, by rw [hz1]; omega, cells_alloc (cells_alloc (cells_below HM.out.1 b1 (by rw [HM.out.2.2.2]; omega)) _) _, b1⟩); have qq : ((w1.alloc (.cells #[.int .i64 k] 3)).alloc (.cells #[.int .i64 1, .string page, .slice none 0 0] 61)).heap[w1.heap.size + 1]? = some (.cells #[.int .i64 1, .string page, .slice none 0 0] 61) := (by have := World.alloc_heap_new (w1.alloc (.cells #[.int .i64 k] 3)) (.cells #[.int .i64 1, .string page, .slice none 0 0] 61); simpa using this); obtain ⟨u0, u1, u2⟩ := three qq; have hck := HC.out w1; clear b1 hz1 hsz qq))
  refine hof.mono ?_
  intro e w3 hA
  obtain ⟨val, ga, gc, la, lc, oa, oc, ta, tc, rfl, hO, b1, hI⟩ := hA.open
  dsimp only
  have k3 := cells_below HV.out.2.1 b1 HV.out.2.2
  obtain ⟨z0, z1, z2, z3, z4⟩ := five k3
  have y0 := cells_frozen k3 0
  have y1 := cells_frozen k3 1
  have y2 := cells_frozen k3 2
  have y3 := cells_frozen k3 3
  have y4 := cells_frozen k3 4
  have HP : Hid (OI w3 w2.heap.size val M) := hO
  have HB : Hid (Below w.heap.size w w3) := Below.on HV.out.1 b1
  have HI : Hid (imgV M.guest val = .agg #[.int .i64 M.guest, .slice ga M.root.length gc, .slice la M.slots.length lc, .slice oa M.refs.length oc, .slice ta M.snaps.length tc]) := hI
  clear hO b1 hI hof hA
  go_wp2_with fail
  have i1 : w.heap.size ≤ w.heap.size + 1 + 1 := by omega
  have hf1 : ∀ a, Live M a → (val a).ownBlock ≠ some (w.heap.size + 1 + 1) := fun a ha e => by have := ((HP.out.row a ha).lt _ e).1; have := HV.out.2.2; omega
  refine bodyPost_ret (v := .tuple #[.agg #[.int .i64 M.guest, .slice ga M.root.length gc, .slice la M.slots.length lc, .slice oa M.refs.length oc, .slice ta M.snaps.length tc], .int .i64 er]) (by simp [results, Tryz.results31, go_sem, z0, z1, z2, z3, z4]) rfl ⟨val, by rw [HI.out], OI.mono (((((HP.out.far hf1).far hf1).far hf1).far hf1).far hf1) (by have := HV.out.2.2; omega), ((((HB.out.setCell i1 _).setCell i1 _).setCell i1 _).setCell i1 _).setCell i1 _⟩

def wrE (m : ImgD) (n : Int) (page : ByteArray) : Int := if lookE m n ≠ 0 then lookE m n else if page.size = 4 then errO (writeD m n.toNat page) else 1
def wrM (m : ImgD) (n : Int) (page : ByteArray) : ImgD := if lookE m n ≠ 0 then imgZ else if page.size = 4 then (writeD m n.toNat page).getD imgZ else imgZ
theorem write_is {w : World} {v : Value} {m : ImgD} (h : Img w v m) (n : Int) (page : ByteArray) :
    Calls Tryz.prog 31 #[v, .int .i64 n, .string page] w (AnsI w w.heap.size (wrM m n page) (wrE m n page)) := by
  have h' := h
  obtain ⟨ra, rc, sa, sc, fa, fc, na, nc, rfl, _⟩ := h.parts
  unfold wrM wrE
  by_cases hl : lookE m n = 0
  · have hl0 : ¬ lookE m n ≠ 0 := fun x => x hl
    rw [if_neg hl0, if_neg hl0]
    obtain ⟨hC, h0, hn⟩ := lookE_prt hl
    obtain ⟨j, rfl⟩ := Int.eq_ofNat_of_zero_le h0
    rw [Int.toNat_natCast]
    by_cases hp : page.size = 4
    · rw [if_pos hp, if_pos hp]
      have hM := wrP_meets hC hn hp
      exact write_ok_at m ra _ rc sa _ sc fa _ fc na _ nc j page w h' (fits_of_shape (checkE_shape hC)) hl hp _ rfl _ hM.m _ hM.e
    · rw [if_neg hp, if_neg hp]
      exact write_form_at m ra _ rc sa _ sc fa _ fc na _ nc j page w h' hl hp _ rfl
  · rw [if_pos hl, if_pos hl]
    exact write_bad_at m ra _ rc sa _ sc fa _ fc na _ nc n _ page w h' rfl (by simp [hl])
end Go.Proofs.YtehleeibgkpjmafGreat
/- Contracts of writing: Wipe, Punch. -/
namespace Go.Proofs.YtehleeibgkpjmafGreat
open Go.RowKit Go.Shelf
end Go.Proofs.YtehleeibgkpjmafGreat
/- What the program resizes on its desk is what the document asks: the plain part of Resize. -/
namespace Go.Proofs.YtehleeibgkpjmafGreat
open Go.RowKit Go.Shelf
set_option maxRecDepth 20000

def cutP (m : ImgD) (g : Nat) : Option ImgD := if g / 4 < m.root.length ∧ cutR (tableO m (g / 4)) (g % 4) ≠ tableO m (g / 4) then layP m (g / 4) (cutR (tableO m (g / 4)) (g % 4)) else some m
def rzP (m : ImgD) (g : Nat) : Option ImgD := (cutP m g).map (fun M => rerootD M g)
theorem Kin.reroot {a b : ImgD} (h : Kin a b) (g : Nat) : Kin (rerootD a g) (rerootD b g) := by
  refine ⟨rfl, ?_, h.slots, h.snaps, h.refs⟩
  show List.take _ _ = List.take _ _
  rw [h.root]
theorem rzP_meets {m : ImgD} (hC : checkE m = 0) {g : Nat} (hg : g ≤ 16) : Meets (rzP m g) (resizeD m g) := by
  have hs := checkE_shape hC
  have hrl := (shapeE_zero hs).2.2.1
  unfold rzP resizeD
  by_cases h0 : g % 4 = 0
  · have hcd : cutD m g = some m := by unfold cutD; rw [if_neg (fun x => x.1 h0)]
    have hsh := resize_shape hC hg hcd
    rw [hcd]
    have hrr : ∀ M, cutP m g = some M → rerootD M g = rerootD m g := fun M hM => by
      unfold cutP at hM
      split at hM
      · rename_i hc
        have hz : cutR (tableO m (g / 4)) (g % 4) = [0, 0, 0, 0] := by rw [h0]; unfold cutR; simp [List.replicate]
        rw [hz] at hM
        have hM : layP m (g / 4) [0, 0, 0, 0] = some { m with root := m.root.set (g / 4) 0 } := by unfold layP; rw [if_pos (by decide)]
        rename_i hM'
        rw [hM] at hM'
        cases hM'
        unfold rerootD
        have e : (g + 3) / 4 = g / 4 := by omega
        simp only [ImgD.mk.injEq, true_and, and_true]
        rw [List.length_set, e]
        have hl := hc.1
        rw [show g / 4 - m.root.length = 0 by omega]
        simp only [List.replicate_zero, List.append_nil]
        rw [List.take_set_of_le (Nat.le_refl _)]
      · cases hM; rfl
    have hne : cutP m g ≠ none := by
      unfold cutP
      split
      · have hz : cutR (tableO m (g / 4)) (g % 4) = [0, 0, 0, 0] := by rw [h0]; unfold cutR; simp [List.replicate]
        rw [hz]
        unfold layP
        rw [if_pos (by decide)]
        simp
      · simp
    cases hc : cutP m g with
    | none => exact absurd hc hne
    | some M =>
      refine ⟨fun x => (by cases x), fun X hX => ?_⟩
      simp only [Option.map_some, Option.some.injEq] at hX
      rw [← hX, hrr M hc]
      exact ⟨hsh, rfl⟩
  · have e : cutP m g = if g / 4 < m.root.length ∧ cutR (tableO m (g / 4)) (g % 4) ≠ tableO m (g / 4) then layP m (g / 4) (cutR (tableO m (g / 4)) (g % 4)) else some m := rfl
    by_cases hc : g / 4 < m.root.length ∧ cutR (tableO m (g / 4)) (g % 4) ≠ tableO m (g / 4)
    · rw [e, if_pos hc]
      have hcd : cutD m g = tabledD m (g / 4) (cutR (tableO m (g / 4)) (g % 4)) := by unfold cutD; rw [if_pos ⟨h0, hc⟩]
      obtain ⟨hiff, hsome⟩ := layP_tabled hC hc.1 (cutR (tableO m (g / 4)) (g % 4))
      cases hl : layP m (g / 4) (cutR (tableO m (g / 4)) (g % 4)) with
      | none =>
        rw [hcd, hiff.1 hl]
        exact ⟨fun _ => rfl, fun M hM => (by cases hM)⟩
      | some M =>
        obtain ⟨M', hM', hkin⟩ := hsome M hl
        have hK := (hkin (layP_len hrl hl) (tabled_len hrl hM')).reroot g
        have hsh := resize_shape hC hg (hcd.trans hM')
        rw [hcd, hM']
        refine ⟨fun x => (by cases x), fun X hX => ?_⟩
        simp only [Option.map_some, Option.some.injEq] at hX
        subst hX
        exact ⟨hK.shape.trans hsh, by simp only [Option.map_some]; rw [hK.counted]⟩
    · rw [e, if_neg hc]
      have hcd : cutD m g = some m := by unfold cutD; rw [if_neg (fun x => hc x.2)]
      have hsh := resize_shape hC hg hcd
      rw [hcd]
      refine ⟨fun x => (by cases x), fun X hX => ?_⟩
      simp only [Option.map_some, Option.some.injEq] at hX
      subst hX
      exact ⟨hsh, rfl⟩
end Go.Proofs.YtehleeibgkpjmafGreat
