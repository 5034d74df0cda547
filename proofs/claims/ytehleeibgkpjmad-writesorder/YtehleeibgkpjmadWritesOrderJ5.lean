/- Texts joined: WrOd, OwnI, OwnJ, CopyI, LayI, TabI, CtdI, DeskI, SetI, ClnI. -/
import Derived.Test.YtehleeibgkpjmadWritesOrderJ4
import Derived.Test.YtehleeibgkpjmadWritesOrderJ1
import Derived.OneCell
import Derived.Laws.OwnMore
import Derived.Test.YtehleeibgkpjmadWritesOrderJ3
import Derived.Maps.AppendAt
import Derived.Deep.AppendLies
import Derived.Lib.SliceRun
/- Two writes, whichever comes first: as many slots are used. Plain lists. -/
namespace Go.Proofs.Ytehleeibgkpjmad
open Go.RowKit Go.Shelf
set_option maxRecDepth 20000
set_option linter.unusedVariables false

def nb (b : Bool) : Nat := if b = true then 0 else 1
theorem need_nb (m : ImgD) (n : Nat) : need m n = if lo m n = true then nb (so m n) else 2 := rfl
theorem pC_pos {m : ImgD} (hC : checkE m = 0) {e : Nat} (hk : kd m.slots e = 1) : 1 ≤ pC m e := by
  have hs := checkE_shape hC
  have h3 := (checkE_zero hC).2.2 e (kd_one hs (by rw [hk]; decide)).2
  unfold freeAt at h3
  rw [cnt_page hs hk] at h3
  unfold kd at hk
  rw [hk] at h3
  simp at h3
  omega
theorem same_two {m : ImgD} (hC : checkE m = 0) {i j : Nat} (hi : i < m.root.length) (hj : j < m.root.length) (hne : i ≠ j) {r : Nat} (h1 : m.root.getD i 0 = (r : Int)) (h2 : m.root.getD j 0 = (r : Int)) : 2 ≤ tC m r := by
  unfold tC
  rw [flatR_app, List.count_append]
  rcases Nat.lt_or_gt_of_ne hne with h | h
  · have := count_two (t := (r : Int)) m.root i j h hj h1 h2; omega
  · have := count_two (t := (r : Int)) m.root j i h hi h2 h1; omega
/-- What a write leaves of the need elsewhere, side by side. -/
structure Side (m A : ImgD) (n k : Nat) : Prop where
  here : n / 4 = k / 4 → lo A k = true
  lone : n / 4 ≠ k / 4 → lo m n = true → lo A k = lo m k
  much : n / 4 ≠ k / 4 → lo m n = false → m.root.getD (n / 4) 0 ≠ m.root.getD (k / 4) 0 → lo A k = lo m k
  both : n / 4 ≠ k / 4 → lo m n = false → ∀ r : Nat, 1 ≤ r → m.root.getD (n / 4) 0 = (r : Int) → m.root.getD (k / 4) 0 = (r : Int) → (lo A k = true ↔ tC m r = 2)
  none : lookV m m.root k ≤ 0 → so A k = false
  page : ∀ e : Nat, 1 ≤ e → lookV m m.root k = (e : Int) → (so A k = true ↔ pC A e = 1)
  kept : lo m n = true → so m n = true → so A k = so m k
  less : lo m n = true → so m n = false → ∀ e : Nat, 1 ≤ e → lookV m m.root k = (e : Int) → pC A e + (if lookV m m.root n = (e : Int) then 1 else 0) = pC m e
  more : lo m n = false → ∀ e : Nat, 1 ≤ e → lookV m m.root k = (e : Int) → pC A e + (if lookV m m.root n = (e : Int) then 1 else 0) = pC m e + (tableO m (n / 4)).count (e : Int)
theorem side_of {m A : ImgD} (hC : checkE m = 0) {n k t d : Nat} (hn : (n : Int) < m.guest) (hk : (k : Int) < m.guest) (hne : n ≠ k) (S : Step m A n t d) : Side m A n k := by
  have hs := checkE_shape hC
  have hr := root_ok hs
  have hg := guest_ok hs
  have ln : n / 4 < m.root.length := by omega
  have lk : k / 4 < m.root.length := by omega
  have hlk := S.look k lk (fun x => hne x.symm)
  obtain ⟨r, er, hR⟩ := root_facts hC ln
  obtain ⟨s, es, hS⟩ := root_facts hC lk
  have hroot := S.root (k / 4) lk
  have hpos : ∀ e : Nat, lookV m m.root k = (e : Int) → 1 ≤ e → 1 ≤ pC m e ∧ e < m.slots.length ∧ d ≠ e ∨ (lo m n = true ∧ so m n = true ∧ e < m.slots.length) := fun e he e1 => by
    rcases look_facts hC lk with h | ⟨e', he', _, hke, _⟩
    · omega
    · have : e' = e := by omega
      subst this
      have hp := pC_pos hC hke
      have hl := (kd_one hs (x := e') (by rw [hke]; decide)).2
      by_cases h : lo m n = true ∧ so m n = true
      · exact .inr ⟨h.1, h.2, hl⟩
      · left
        refine ⟨hp, hl, fun x => ?_⟩
        have := S.dfresh h
        rw [x] at this
        omega
  have hpage : ∀ e : Nat, 1 ≤ e → lookV m m.root k = (e : Int) → (so A k = true ↔ pC A e = 1) := fun e e1 he => by
    unfold so
    rw [hlk, he, Int.toNat_natCast, show decide (0 < (e : Int)) = true by simp; omega, Bool.true_and]
    exact beq_iff_eq
  refine ⟨fun h => ?_, fun h hl => ?_, fun h hl hd => ?_, fun h hl r' r1 h1 h2 => ?_, fun h => ?_, hpage, fun hl hso => ?_, fun hl hso e e1 he => ?_, fun hl e e1 he => ?_⟩
  · have htc := S.tc t S.t1
    have t1 := S.t1
    rw [if_pos rfl] at htc
    unfold lo
    rw [hroot, if_pos h.symm, Int.toNat_natCast]
    have e1 : ((t : Int) != 0) = true := by simp; omega
    rw [e1, Bool.true_and, beq_iff_eq]
    cases hl : lo m n with
    | true =>
      have := S.tlone hl
      rw [if_pos this] at htc
      have h2 := hl
      unfold lo at h2
      rw [this, Int.toNat_natCast, e1, Bool.true_and, beq_iff_eq] at h2
      omega
    | false =>
      have h0 := S.tfresh hl
      have : m.root.getD (n / 4) 0 ≠ (t : Int) := fun x => by
        rw [er] at x
        rcases hR with h | h
        · omega
        · have : r = t := by omega
          subst this
          omega
      rw [if_neg this] at htc
      omega
  · have htcs : 1 ≤ s → tC A s = tC m s := fun s1 => by
      have htc := S.tc s s1
      rw [S.tlone hl, ← ite_cast t s] at htc
      omega
    unfold lo
    rw [hroot, if_neg (fun x => h x.symm), es, Int.toNat_natCast]
    rcases hS with h0 | h1
    · subst h0; rfl
    · rw [htcs h1.1]
  · unfold lo
    rw [hroot, if_neg (fun x => h x.symm), es, Int.toNat_natCast]
    rcases hS with h0 | h1
    · subst h0; rfl
    · have htc := S.tc s h1.1
      have h0 := S.tfresh hl
      rw [es] at hd
      rw [if_neg hd, if_neg (fun x => by subst x; omega)] at htc
      rw [show tC A s = tC m s by omega]
  · have htc := S.tc r' r1
    have h0 := S.tfresh hl
    have h3 := same_two hC ln lk h h1 h2
    rw [if_pos h1, if_neg (fun x => by subst x; omega)] at htc
    unfold lo
    rw [hroot, if_neg (fun x => h x.symm), h2, Int.toNat_natCast, show ((r' : Int) != 0) = true by simp; omega, Bool.true_and, beq_iff_eq]
    omega
  · unfold so
    rw [hlk, show decide (0 < lookV m m.root k) = false by simp; omega, Bool.false_and]
  · rcases look_facts hC lk with h | ⟨e, he, e1, hke, _⟩
    · unfold so
      rw [hlk, show decide (0 < lookV m m.root k) = false by simp; omega, Bool.false_and, Bool.false_and]
    · have hl' := (kd_one hs (x := e) (by rw [hke]; decide)).2
      have hp := S.pc e e1 hl'
      rw [if_pos hl, S.dsame hl hso, ← ite_cast d e] at hp
      unfold so
      rw [hlk, he, Int.toNat_natCast, show pC A e = pC m e by omega]
  · rcases hpos e he e1 with ⟨_, hl', hde⟩ | ⟨_, h2, _⟩
    · have hp := S.pc e e1 hl'
      rw [if_pos hl, if_neg hde] at hp
      omega
    · rw [hso] at h2; cases h2
  · rcases hpos e he e1 with ⟨_, hl', hde⟩ | ⟨h2, _, _⟩
    · have hp := S.pc e e1 hl'
      rw [hl, if_neg (show ¬ false = true by decide), if_neg hde] at hp
      omega
    · rw [hl] at h2; cases h2
theorem count_ge {l : List Int} {x : Int} {i : Nat} (hi : i < l.length) (h : l.getD i 0 = x) : 1 ≤ l.count x := List.count_pos_iff.2 (by rw [← h, getD_at hi]; exact List.getElem_mem hi)
/-- One page is told by two entries of a table. -/
theorem count_ge2 {l : List Int} {x y : Int} {i j : Nat} (hi : i < l.length) (hj : j < l.length) (hne : i ≠ j) (h : l.getD i 0 = x) (hy : l.getD j 0 = y) : 1 + (if y = x then 1 else 0) ≤ l.count x := by
  by_cases e : y = x
  · rw [if_pos e]
    rcases Nat.lt_or_gt_of_ne hne with g | g
    · exact count_two l i j g hj h (hy.trans e)
    · exact count_two l j i g hi (hy.trans e) h
  · rw [if_neg e]; exact count_ge hi h
theorem so_some {m : ImgD} {n : Nat} (h : so m n = true) : 0 < lookV m m.root n ∧ pC m (lookV m m.root n).toNat = 1 := by
  unfold so at h
  simpa using h
theorem half {m A B : ImgD} (hC : checkE m = 0) {n k : Nat} (hn : (n : Int) < m.guest) (hk : (k : Int) < m.guest) (hne : n ≠ k) (SA : Side m A n k) (SB : Side m B k n) (hl : lo m n = true) (hlk : lo m k = true) (hd : n / 4 = k / 4 ∨ n / 4 ≠ k / 4) : need m n + need A k = need m k + need B n := by
  have hs := checkE_shape hC
  have hr := root_ok hs
  have hg := guest_ok hs
  have ln : n / 4 < m.root.length := by omega
  have lk : k / 4 < m.root.length := by omega
  have hA : lo A k = true := by
    rcases hd with h | h
    · exact SA.here h
    · rw [SA.lone h hl]; exact hlk
  have hB : lo B n = true := by
    rcases hd with h | h
    · exact SB.here h.symm
    · rw [SB.lone (fun x => h x.symm) hlk]; exact hl
  rw [need_nb, need_nb, need_nb, need_nb, if_pos hl, if_pos hlk, if_pos hA, if_pos hB]
  have hno : ∀ {p q : Nat} {X : ImgD}, (p : Int) < m.guest → q / 4 < m.root.length → p ≠ q → lo m p = true → so m p = true → lookV m m.root q ≠ lookV m m.root p := fun {p q X} hp hq hpq h1 h2 => by
    have hw := so_wInPl hC (n := p) (by omega)
    rw [h1, h2] at hw
    obtain ⟨e, he, _, _, _, h, _⟩ := inplace_only hC hp hw
    rw [he]
    exact h q hq (fun x => hpq x.symm)
  cases h1 : so m n with
  | true =>
    rw [SA.kept hl h1]
    cases h2 : so m k with
    | true => rw [SB.kept hlk h2, h1]
    | false =>
      have hx := hno (X := m) hn lk hne hl h1
      obtain ⟨hpos, hone⟩ := so_some h1
      obtain ⟨e, he⟩ := Int.eq_ofNat_of_zero_le (Int.le_of_lt hpos)
      rw [he, Int.toNat_natCast] at hone
      have e1 : 1 ≤ e := by omega
      have hless := SB.less hlk h2 e e1 he
      rw [if_neg (by rw [← he]; exact hx)] at hless
      have : so B n = true := (SB.page e e1 he).2 (by omega)
      rw [this]; rfl
  | false =>
    cases h2 : so m k with
    | true =>
      rw [SB.kept hlk h2, h1]
      have hx := hno (X := m) hk ln (fun x => hne x.symm) hlk h2
      obtain ⟨hpos, hone⟩ := so_some h2
      obtain ⟨e, he⟩ := Int.eq_ofNat_of_zero_le (Int.le_of_lt hpos)
      rw [he, Int.toNat_natCast] at hone
      have e1 : 1 ≤ e := by omega
      have hless := SA.less hl h1 e e1 he
      rw [if_neg (by rw [← he]; exact hx)] at hless
      have : so A k = true := (SA.page e e1 he).2 (by omega)
      rw [this]; rfl
    | false =>
      congr 2
      -- neither is told once
      have hA0 : lookV m m.root n ≠ lookV m m.root k → so A k = false := fun hx => by
        rcases look_facts hC lk with h | ⟨e, he, e1, hke, _⟩
        · exact SA.none h
        · cases h3 : so A k with
          | false => rfl
          | true =>
            have h4 := (SA.page e e1 he).1 h3
            have hless := SA.less hl h1 e e1 he
            rw [if_neg (by rw [← he]; exact hx)] at hless
            have : so m k = true := by
              unfold so
              rw [he, Int.toNat_natCast, show decide (0 < (e : Int)) = true by simp; omega, Bool.true_and, beq_iff_eq]
              omega
            rw [this] at h2; cases h2
      have hB0 : lookV m m.root n ≠ lookV m m.root k → so B n = false := fun hx => by
        rcases look_facts hC ln with h | ⟨e, he, e1, hke, _⟩
        · exact SB.none h
        · cases h3 : so B n with
          | false => rfl
          | true =>
            have h4 := (SB.page e e1 he).1 h3
            have hless := SB.less hlk h2 e e1 he
            rw [if_neg (by rw [← he]; exact fun y => hx y.symm)] at hless
            have : so m n = true := by
              unfold so
              rw [he, Int.toNat_natCast, show decide (0 < (e : Int)) = true by simp; omega, Bool.true_and, beq_iff_eq]
              omega
            rw [this] at h1; cases h1
      by_cases hx : lookV m m.root n = lookV m m.root k
      · rcases look_facts hC lk with h | ⟨e, he, e1, hke, _⟩
        · rw [SA.none h, SB.none (by omega)]
        · have a1 := SA.less hl h1 e e1 he
          have a2 := SB.less hlk h2 e e1 (hx.trans he)
          rw [if_pos (hx.trans he)] at a1
          rw [if_pos he] at a2
          rw [Bool.eq_iff_iff, SA.page e e1 he, SB.page e e1 (hx.trans he)]
          omega
      · rw [hA0 hx, hB0 hx]
/-- One table is told once, the other not. -/
theorem mixed {m A B : ImgD} (hC : checkE m = 0) {n k : Nat} (hn : (n : Int) < m.guest) (hk : (k : Int) < m.guest) (hne : n ≠ k) (SA : Side m A n k) (SB : Side m B k n) (hl : lo m n = true) (hlk : lo m k = false) : need m n + need A k = need m k + need B n := by
  have hs := checkE_shape hC
  have hr := root_ok hs
  have hg := guest_ok hs
  have ln : n / 4 < m.root.length := by omega
  have lk : k / 4 < m.root.length := by omega
  have hd : n / 4 ≠ k / 4 := fun x => by
    unfold lo at hl hlk
    rw [x, hlk] at hl
    cases hl
  obtain ⟨r, er, hR⟩ := root_facts hC ln
  have hrs : m.root.getD (k / 4) 0 ≠ m.root.getD (n / 4) 0 := fun x => by
    have h2 := same_two hC ln lk hd er (x.trans er)
    unfold lo at hl
    rw [er, Int.toNat_natCast] at hl
    simp at hl
    omega
  have hA : lo A k = false := by rw [SA.lone hd hl]; exact hlk
  have hB : lo B n = true := by rw [SB.much (fun x => hd x.symm) hlk hrs]; exact hl
  rw [need_nb, need_nb, need_nb, need_nb, if_pos hl, if_neg (by rw [hA]; decide), if_neg (by rw [hlk]; decide), if_pos hB]
  obtain ⟨ock, _⟩ := tableO_ok hs lk
  have hlen := ckE_len ock
  have : so B n = so m n := by
    rcases look_facts hC ln with h | ⟨e, he, e1, hke, _⟩
    · rw [SB.none h]
      unfold so
      rw [show decide (0 < lookV m m.root n) = false by simp; omega, Bool.false_and]
    · have hm := SB.more hlk e e1 he
      have hcnt : (if lookV m m.root k = (e : Int) then 1 else 0) ≤ (tableO m (k / 4)).count (e : Int) := by
        by_cases h : lookV m m.root k = (e : Int)
        · rw [if_pos h]
          rw [lookV_tableO] at h
          exact count_ge (by omega) h
        · rw [if_neg h]; exact Nat.zero_le _
      cases h1 : so m n with
      | true =>
        have hone := (so_some h1).2
        rw [he, Int.toNat_natCast] at hone
        have hw := so_wInPl hC ln
        rw [hl, h1] at hw
        obtain ⟨e', he', _, _, _, hall, _⟩ := inplace_only hC hn hw
        have e0 : (tableO m (k / 4)).count (e : Int) = 0 := count_none (fun hm => by
          obtain ⟨i, hi, hie⟩ := List.mem_iff_getElem.1 hm
          rw [hlen] at hi
          have := hall (4 * (k / 4) + i) (by omega) (by omega)
          rw [lookV_tableO, show (4 * (k / 4) + i) / 4 = k / 4 by omega, show (4 * (k / 4) + i) % 4 = i by omega, getD_at (by omega), hie, ← he', he] at this
          exact this rfl)
        rw [e0] at hm hcnt
        exact (SB.page e e1 he).2 (by omega)
      | false =>
        cases h3 : so B n with
        | false => rfl
        | true =>
          exfalso
          have h4 := (SB.page e e1 he).1 h3
          have hp := pC_pos hC hke
          have : pC m e ≠ 1 := fun x => by
            unfold so at h1
            rw [he, Int.toNat_natCast, show decide (0 < (e : Int)) = true by simp; omega, Bool.true_and, x] at h1
            cases h1
          omega
  rw [this]; omega
theorem order_need {m A B : ImgD} (hC : checkE m = 0) {n k t d t' d' : Nat} (hn : (n : Int) < m.guest) (hk : (k : Int) < m.guest) (hne : n ≠ k) (S1 : Step m A n t d) (S2 : Step m B k t' d') : need m n + need A k = need m k + need B n := by
  have SA := side_of hC hn hk hne S1
  have SB := side_of hC hk hn (fun x => hne x.symm) S2
  have hs := checkE_shape hC
  have hr := root_ok hs
  have hg := guest_ok hs
  have ln : n / 4 < m.root.length := by omega
  have lk : k / 4 < m.root.length := by omega
  have lenN := ckE_len (tableO_ok hs ln).1
  have lenK := ckE_len (tableO_ok hs lk).1
  cases hl : lo m n with
  | true =>
    cases hlk : lo m k with
    | true => exact half hC hn hk hne SA SB hl hlk (Nat.lt_or_ge 0 0 |>.elim (fun _ => by omega) (fun _ => by omega))
    | false => exact mixed hC hn hk hne SA SB hl hlk
  | false =>
    cases hlk : lo m k with
    | true => exact (mixed hC hk hn (fun x => hne x.symm) SB SA hlk hl).symm
    | false =>
      have e1 : need m n = 2 := by rw [need_nb, hl, if_neg (by decide)]
      have e2 : need m k = 2 := by rw [need_nb, hlk, if_neg (by decide)]
      rw [e1, e2]
      -- an entry that stands at another place of a copied table is told twice then
      have hA0 : tableO m (n / 4) = tableO m (k / 4) → n % 4 ≠ k % 4 → so A k = false := fun htb hm4 => by
        rcases look_facts hC lk with h | ⟨e, he, e1, hke, _⟩
        · exact SA.none h
        · cases h3 : so A k with
          | false => rfl
          | true =>
            exfalso
            have h4 := (SA.page e e1 he).1 h3
            have hp := pC_pos hC hke
            have hm := SA.more hl e e1 he
            have hc := count_ge2 (l := tableO m (n / 4)) (x := (e : Int)) (y := lookV m m.root n) (i := k % 4) (j := n % 4) (by omega) (by omega) (fun x => hm4 x.symm) (by rw [htb, ← lookV_tableO]; exact he) (lookV_tableO m n).symm
            omega
      have hB0 : tableO m (n / 4) = tableO m (k / 4) → n % 4 ≠ k % 4 → so B n = false := fun htb hm4 => by
        rcases look_facts hC ln with h | ⟨e, he, e1, hke, _⟩
        · exact SB.none h
        · cases h3 : so B n with
          | false => rfl
          | true =>
            exfalso
            have h4 := (SB.page e e1 he).1 h3
            have hp := pC_pos hC hke
            have hm := SB.more hlk e e1 he
            have hc := count_ge2 (l := tableO m (k / 4)) (x := (e : Int)) (y := lookV m m.root k) (i := n % 4) (j := k % 4) (by omega) (by omega) hm4 (by rw [← htb, ← lookV_tableO]; exact he) (lookV_tableO m k).symm
            omega
      congr 1
      by_cases hd : n / 4 = k / 4
      · have hm4 : n % 4 ≠ k % 4 := by omega
        rw [need_nb, need_nb, if_pos (SA.here hd), if_pos (SB.here hd.symm), hA0 (by rw [hd]) hm4, hB0 (by rw [hd]) hm4]
      · by_cases hrs : m.root.getD (n / 4) 0 = m.root.getD (k / 4) 0
        · obtain ⟨r, er, hR⟩ := root_facts hC ln
          have htb : tableO m (n / 4) = tableO m (k / 4) := by unfold tableO; rw [hrs]
          rcases Nat.eq_zero_or_pos r with r0 | r1
          · have hA : lo A k = false := by
              cases h : lo A k with
              | false => rfl
              | true =>
                have := S1.root (k / 4) lk
                rw [if_neg (fun x => hd x.symm), ← hrs, er, r0] at this
                unfold lo at h
                rw [this] at h
                cases h
            have hB : lo B n = false := by
              cases h : lo B n with
              | false => rfl
              | true =>
                have := S2.root (n / 4) ln
                rw [if_neg hd, er, r0] at this
                unfold lo at h
                rw [this] at h
                cases h
            rw [need_nb, need_nb, hA, hB]
            rfl
          · have bA := SA.both hd hl r r1 er (hrs.symm.trans er)
            have bB := SB.both (fun x => hd x.symm) hlk r r1 (hrs.symm.trans er) er
            have hAB : lo A k = lo B n := by rw [Bool.eq_iff_iff, bA, bB]
            rw [need_nb, need_nb, hAB]
            by_cases hm4 : n % 4 = k % 4
            · have hlk2 : lookV m m.root n = lookV m m.root k := by rw [lookV_tableO, lookV_tableO, htb, hm4]
              have : so A k = so B n := by
                rcases look_facts hC lk with h | ⟨e, he, e1, hke, _⟩
                · rw [SA.none h, SB.none (by omega)]
                · have a1 := SA.more hl e e1 he
                  have a2 := SB.more hlk e e1 (hlk2.trans he)
                  rw [if_pos (hlk2.trans he)] at a1
                  rw [if_pos he] at a2
                  rw [htb] at a1
                  rw [Bool.eq_iff_iff, SA.page e e1 he, SB.page e e1 (hlk2.trans he)]
                  omega
              rw [this]
            · rw [hA0 htb hm4, hB0 htb hm4]
        · rw [need_nb, need_nb, SA.much hd hl hrs, hlk, SB.much (fun x => hd x.symm) hlk (fun x => hrs x.symm), hl, if_neg (by decide), if_neg (by decide)]
/-- Two writes: refused alike, as many slots used, read alike. -/
theorem order_is {m A B : ImgD} (hC : checkE m = 0) {n k : Nat} (hn : (n : Int) < m.guest) (hk : (k : Int) < m.guest) (hne : n ≠ k) {one two : ByteArray} (h1 : one.size = 4) (h2 : two.size = 4) (hA : writeD m n one = some A) (hB : writeD m k two = some B) :
    (writeD A k two = none ↔ writeD B n one = none) ∧ ∀ X Y, writeD A k two = some X → writeD B n one = some Y → usedN X.slots = usedN Y.slots ∧ allV X = allV Y := by
  obtain ⟨t, d, S1⟩ := step_write hC hn h1 hA
  obtain ⟨t', d', S2⟩ := step_write hC hk h2 hB
  have hN := order_need hC hn hk hne S1 S2
  have hkA : (k : Int) < A.guest := by rw [S1.guest]; exact hk
  have hnB : (n : Int) < B.guest := by rw [S2.guest]; exact hn
  have u1 := S1.used
  have u2 := S2.used
  refine ⟨?_, fun X Y hX hY => ⟨?_, ?_⟩⟩
  · rw [write_none S1.right hkA, write_none S2.right hnB]
    omega
  · obtain ⟨_, _, S3⟩ := step_write S1.right hkA h2 hX
    obtain ⟨_, _, S4⟩ := step_write S2.right hnB h1 hY
    have u3 := S3.used
    have u4 := S4.used
    omega
  · have a1 := (wrote_write hC hn h1 hA).all
    have a2 := (wrote_write hC hk h2 hB).all
    have a3 := (wrote_write S1.right hkA h2 hX).all
    have a4 := (wrote_write S2.right hnB h1 hY).all
    rw [a3, a4, a1, a2]
    exact List.set_comm _ _ hne
end Go.Proofs.Ytehleeibgkpjmad
/- An image of one's own: each of its lists, each table and each snapshot's Root lies in a row of its own, in memory that came since B. What stays, and what turns, when something is stored. -/
namespace Go.Proofs.Ytehleeibgkpjmad
open Go.RowKit
set_option maxRecDepth 20000

/-- The lists of an image, by name: Root, Slots, Refs, Snaps, a slot's table, a snapshot's Root. -/
structure Nm where
  kind : Nat
  ix : Nat
abbrev Nm.root : Nm := ⟨0, 0⟩
abbrev Nm.slots : Nm := ⟨1, 0⟩
abbrev Nm.refs : Nm := ⟨2, 0⟩
abbrev Nm.snaps : Nm := ⟨3, 0⟩
abbrev Nm.tab (j : Nat) : Nm := ⟨4, j⟩
abbrev Nm.sr (j : Nat) : Nm := ⟨5, j⟩
def Live (m : ImgD) (a : Nm) : Prop := (a.kind < 4 ∧ a.ix = 0) ∨ (a.kind = 4 ∧ a.ix < m.slots.length) ∨ (a.kind = 5 ∧ a.ix < m.snaps.length)
theorem Live.cases {m : ImgD} {a : Nm} (h : Live m a) : a = .root ∨ a = .slots ∨ a = .refs ∨ a = .snaps ∨ (∃ j, a = .tab j ∧ j < m.slots.length) ∨ ∃ j, a = .sr j ∧ j < m.snaps.length := by
  obtain ⟨k, j⟩ := a
  rcases h with ⟨h1, h2⟩ | ⟨h1, h2⟩ | ⟨h1, h2⟩
  · dsimp only at h1 h2
    subst h2
    match k, h1 with
    | 0, _ => exact .inl rfl
    | 1, _ => exact .inr (.inl rfl)
    | 2, _ => exact .inr (.inr (.inl rfl))
    | 3, _ => exact .inr (.inr (.inr (.inl rfl)))
  · dsimp only at h1 h2; subst h1; exact .inr (.inr (.inr (.inr (.inl ⟨j, rfl, h2⟩))))
  · dsimp only at h1 h2; subst h1; exact .inr (.inr (.inr (.inr (.inr ⟨j, rfl, h2⟩))))
theorem Live.root (m : ImgD) : Live m .root := .inl ⟨by decide, rfl⟩
theorem Live.slots (m : ImgD) : Live m .slots := .inl ⟨by decide, rfl⟩
theorem Live.refs (m : ImgD) : Live m .refs := .inl ⟨by decide, rfl⟩
theorem Live.snaps (m : ImgD) : Live m .snaps := .inl ⟨by decide, rfl⟩
theorem Live.tab {m : ImgD} {j : Nat} (h : j < m.slots.length) : Live m (.tab j) := .inr (.inl ⟨rfl, h⟩)
theorem Live.sr {m : ImgD} {j : Nat} (h : j < m.snaps.length) : Live m (.sr j) := .inr (.inr ⟨rfl, h⟩)
theorem live_iff {m m' : ImgD} (h1 : m'.slots.length = m.slots.length) (h2 : m'.snaps.length = m.snaps.length) (b : Nm) : Live m' b ↔ Live m b := by unfold Live; rw [h1, h2]
def flatS (L : List SlotD) (tv : Nat → Value) : List Value := (List.range L.length).flatMap (fun j => [.int .i64 (L.getD j default).1, .string (L.getD j default).2.1, tv j])
def flatN (S : List SnapD) (qv : Nat → Value) : List Value := (List.range S.length).flatMap (fun j => [.string (S.getD j default).1, .int .i64 (S.getD j default).2.1, qv j])
def ints (l : List Int) : List Value := l.map (Value.int .i64)
/-- What row a holds. -/
def rowT (a : Nm) : TypeId := match a.kind with | 1 => 52 | 3 => 72 | _ => 3
def rowS (a : Nm) : Nat := match a.kind with | 1 => 3 | 3 => 3 | _ => 1
def rowN (m : ImgD) (a : Nm) : Nat := match a.kind with
  | 0 => m.root.length
  | 1 => m.slots.length
  | 2 => m.refs.length
  | 3 => m.snaps.length
  | 4 => (m.slots.getD a.ix default).2.2.length
  | _ => (m.snaps.getD a.ix default).2.2.length
def rowV (m : ImgD) (val : Nm → Value) (a : Nm) : List Value := match a.kind with
  | 0 => ints m.root
  | 1 => flatS m.slots (fun j => val (.tab j))
  | 2 => ints m.refs
  | 3 => flatN m.snaps (fun j => val (.sr j))
  | 4 => ints (m.slots.getD a.ix default).2.2
  | _ => ints (m.snaps.getD a.ix default).2.2
def imgV (g : Int) (val : Nm → Value) : Value := .agg #[.int .i64 g, val .root, val .slots, val .refs, val .snaps]

structure OI (W : World) (B : Nat) (val : Nm → Value) (m : ImgD) : Prop where
  row : ∀ a, Live m a → W.ownsRow B (rowT a) (rowS a) (val a) (rowN m a) (rowV m val a)
  apart : ∀ a b, Live m a → Live m b → a ≠ b → ∀ g, (val a).ownBlock = some g → (val b).ownBlock ≠ some g

theorem OI.keep {W W' : World} {B : Nat} {val : Nm → Value} {m : ImgD} (h : OI W B val m) (hk : ∀ g, B ≤ g → g < W.heap.size → W'.heap[g]? = W.heap[g]?) : OI W' B val m := by
  refine ⟨fun a ha => ?_, h.apart⟩
  have hr := h.row a ha
  refine ⟨hr.1, ?_⟩
  rcases hr.2 with hn | ⟨g, cap, cur, hv, hb, hg, rest⟩
  · exact .inl hn
  · exact .inr ⟨g, cap, cur, hv, hb, (hk g hb (Array.getElem?_eq_some_iff.1 hg).1).trans hg, rest⟩
theorem OI.below {W W' : World} {B : Nat} {val : Nm → Value} {m : ImgD} (h : OI W B val m) (hb : Below W.heap.size W W') : OI W' B val m := h.keep fun g _ hg => hb.block g hg
theorem OI.alloc {W : World} {B : Nat} {val : Nm → Value} {m : ImgD} (h : OI W B val m) (o : Obj) : OI (W.alloc o) B val m := h.below ((Below.refl _ _).alloc (Nat.le_refl _) o)
theorem OI.drew {W : World} {B : Nat} {val : Nm → Value} {m : ImgD} (h : OI W B val m) : OI W.drew B val m := ⟨fun a ha => (h.row a ha).drew, h.apart⟩

/-! ### From rows to images -/
theorem ints_length (l : List Int) : (ints l).length = l.length := by simp [ints]
theorem row_sl {W : World} {B : Nat} {v : Value} {l : List Int} (h : W.ownsRow B 3 1 v l.length (ints l)) : Sl W v l := by
  rcases h.2 with ⟨rfl, hn⟩ | ⟨g, cap, cur, rfl, _⟩
  · have : l = [] := List.eq_nil_of_length_eq_zero hn
    subst this; exact Sl.nil W
  · exact Sl_of_own h
theorem flat3_get (f : Nat → Value × Value × Value) : ∀ (n j i : Nat), j < n → i < 3 → ((List.range n).flatMap (fun j => [(f j).1, (f j).2.1, (f j).2.2]))[j * 3 + i]? = some (if i = 0 then (f j).1 else if i = 1 then (f j).2.1 else (f j).2.2)
  | 0, j, i, hj, _ => absurd hj (by omega)
  | n + 1, j, i, hj, hi => by
    have hl : ∀ n, ((List.range n).flatMap (fun j => [(f j).1, (f j).2.1, (f j).2.2])).length = n * 3 := fun n => by
      induction n with
      | zero => rfl
      | succ n ih => rw [List.range_succ, List.flatMap_append, List.length_append, ih]; simp; omega
    rw [List.range_succ, List.flatMap_append]
    by_cases e : j < n
    · rw [List.getElem?_append_left (by rw [hl]; omega)]
      exact flat3_get f n j i e hi
    · have : j = n := by omega
      subst this
      rw [List.getElem?_append_right (by rw [hl]; omega), hl]
      match i, hi with
      | 0, _ => simp
      | 1, _ => simp
      | 2, _ => simp
theorem flatS_get {L : List SlotD} {tv : Nat → Value} {j : Nat} (hj : j < L.length) : (flatS L tv)[j * 3]? = some (.int .i64 (L.getD j default).1) ∧ (flatS L tv)[j * 3 + 1]? = some (.string (L.getD j default).2.1) ∧ (flatS L tv)[j * 3 + 2]? = some (tv j) := by
  have h := fun i hi => flat3_get (fun j => (.int .i64 (L.getD j default).1, .string (L.getD j default).2.1, tv j)) L.length j i hj hi
  exact ⟨h 0 (by omega), h 1 (by omega), h 2 (by omega)⟩
theorem flatN_get {S : List SnapD} {qv : Nat → Value} {j : Nat} (hj : j < S.length) : (flatN S qv)[j * 3]? = some (.string (S.getD j default).1) ∧ (flatN S qv)[j * 3 + 1]? = some (.int .i64 (S.getD j default).2.1) ∧ (flatN S qv)[j * 3 + 2]? = some (qv j) := by
  have h := fun i hi => flat3_get (fun j => (.string (S.getD j default).1, .int .i64 (S.getD j default).2.1, qv j)) S.length j i hj hi
  exact ⟨h 0 (by omega), h 1 (by omega), h 2 (by omega)⟩
theorem row_lt {W : World} {B : Nat} {e : TypeId} {size g n cap : Nat} {xs : List Value} (h : W.ownsRow B e size (.slice (some ⟨g, 0, none⟩) n cap) n xs) : B ≤ g ∧ g < W.heap.size ∧ n ≤ cap ∧ cap ≤ maxLen := by
  rcases h.2 with ⟨h', _⟩ | ⟨g', cap', cur, h', hb, hg, hnc, hcm, _⟩
  · simp at h'
  · simp only [Value.slice.injEq, Option.some.injEq, Addr.mk.injEq, and_true, true_and] at h'
    obtain ⟨rfl, rfl⟩ := h'
    exact ⟨hb, (Array.getElem?_eq_some_iff.1 hg).1, hnc, hcm⟩
theorem row_form {W : World} {B : Nat} {e : TypeId} {size n : Nat} {v : Value} {xs : List Value} (h : W.ownsRow B e size v n xs) : (v = .slice none 0 0 ∧ n = 0) ∨ ∃ g cap, v = .slice (some ⟨g, 0, none⟩) n cap ∧ B ≤ g ∧ g < W.heap.size ∧ n ≤ cap ∧ cap ≤ maxLen := by
  have h' := h
  rcases h.2 with hn | ⟨g, cap, cur, rfl, _⟩
  · exact .inl hn
  · exact .inr ⟨g, cap, rfl, row_lt h'⟩
theorem row_slots {W : World} {B : Nat} {v : Value} {L : List SlotD} {tv : Nat → Value} (h : W.ownsRow B 52 3 v L.length (flatS L tv)) (ht : ∀ j, j < L.length → Sl W (tv j) (L.getD j default).2.2) : Slots W v L := by
  have h' := h
  rcases row_form h with ⟨rfl, hn⟩ | ⟨g, cap, rfl, hb, hg, hnc, hcm⟩
  · have : L = [] := List.eq_nil_of_length_eq_zero hn
    subst this; exact ⟨none, 0, rfl, Nat.zero_le _, Nat.zero_le _, fun h => absurd rfl h⟩
  · refine ⟨_, cap, rfl, Nat.le_trans hnc hcm, hnc, fun _ => ⟨g, 0, rfl, hg, fun j hj => ?_⟩⟩
    have hc := fun i (hi : i < 3) => h'.cellAt (j * 3 + i) (by omega)
    obtain ⟨g0, g1, g2⟩ := flatS_get (tv := tv) hj
    have e : L[j] = L.getD j default := by simp [List.getD, hj]
    rw [e, Nat.zero_add]
    exact ⟨tv j, (hc 0 (by omega)).trans g0, (hc 1 (by omega)).trans g1, (hc 2 (by omega)).trans g2, ht j hj⟩
theorem row_snaps {W : World} {B : Nat} {v : Value} {S : List SnapD} {qv : Nat → Value} (h : W.ownsRow B 72 3 v S.length (flatN S qv)) (ht : ∀ j, j < S.length → Sl W (qv j) (S.getD j default).2.2) : Snaps W v S := by
  have h' := h
  rcases row_form h with ⟨rfl, hn⟩ | ⟨g, cap, rfl, hb, hg, hnc, hcm⟩
  · have : S = [] := List.eq_nil_of_length_eq_zero hn
    subst this; exact ⟨none, 0, rfl, Nat.zero_le _, Nat.zero_le _, fun h => absurd rfl h⟩
  · refine ⟨_, cap, rfl, Nat.le_trans hnc hcm, hnc, fun _ => ⟨g, 0, rfl, hg, fun j hj => ?_⟩⟩
    have hc := fun i (hi : i < 3) => h'.cellAt (j * 3 + i) (by omega)
    obtain ⟨g0, g1, g2⟩ := flatN_get (qv := qv) hj
    have e : S[j] = S.getD j default := by simp [List.getD, hj]
    rw [e, Nat.zero_add]
    exact ⟨qv j, (hc 0 (by omega)).trans g0, (hc 1 (by omega)).trans g1, (hc 2 (by omega)).trans g2, ht j hj⟩
/-- It is an image. -/
theorem OI.img {W : World} {B : Nat} {val : Nm → Value} {m : ImgD} (h : OI W B val m) : Img W (imgV m.guest val) m :=
  ⟨_, _, _, _, rfl, row_sl (h.row .root (Live.root m)), row_slots (h.row .slots (Live.slots m)) (fun j hj => row_sl (h.row (.tab j) (Live.tab hj))), row_sl (h.row .refs (Live.refs m)), row_snaps (h.row .snaps (Live.snaps m)) (fun j hj => row_sl (h.row (.sr j) (Live.sr hj)))⟩

/-! ### What turns -/
/-- One cell of row a is stored. -/
theorem OI.store {W : World} {B : Nat} {val : Nm → Value} {m m' : ImgD} (h : OI W B val m) {a : Nm} (ha : Live m a) {g n cap : Nat} (hv : val a = .slice (some ⟨g, 0, none⟩) n cap) (i : Nat) (u : Value)
    (hlive : ∀ b, Live m' b ↔ Live m b) (hn : ∀ b, Live m b → rowN m' b = rowN m b) (hsame : ∀ b, Live m b → b ≠ a → rowV m' val b = rowV m val b) (hset : rowV m' val a = (rowV m val a).set i u) : OI (W.setCell ⟨g, i, none⟩ u) B val m' := by
  refine ⟨fun b hb => ?_, fun b c hb hc => h.apart b c ((hlive b).1 hb) ((hlive c).1 hc)⟩
  have hb := (hlive b).1 hb
  rw [hn b hb]
  by_cases e : b = a
  · subst e
    have hr := h.row b hb
    rw [hset]
    have hnn : n = rowN m b := by
      rcases row_form hr with ⟨e, _⟩ | ⟨g', cap', e, _⟩
      · rw [hv] at e; simp at e
      · rw [hv] at e; simp at e; exact e.2.1
    subst hnn
    rw [hv] at hr ⊢
    exact (hr.stored i u).1
  · rw [hsame b hb e]
    exact ownsRow_setCell_other (h.row b hb) (h.apart a b ha hb (fun x => e x.symm) g (by rw [hv]; rfl)) u
theorem getD_setR (l : List SlotD) (i j : Nat) (s : SlotD) : (l.set i s).getD j default = if i = j ∧ j < l.length then s else l.getD j default := by
  by_cases hj : j < l.length
  · by_cases e : i = j
    · subst e; simp [List.getD, hj]
    · simp [List.getD, e]
  · simp [List.getD, hj]
theorem ints_set (l : List Int) (i : Nat) (x : Int) : ints (l.set i x) = (ints l).set i (.int .i64 x) := by unfold ints; rw [List.map_set]
theorem OI.setRoot {W : World} {B : Nat} {val : Nm → Value} {m : ImgD} (h : OI W B val m) {g n cap : Nat} (hv : val .root = .slice (some ⟨g, 0, none⟩) n cap) (i : Nat) (x : Int) : OI (W.setCell ⟨g, i, none⟩ (.int .i64 x)) B val { m with root := m.root.set i x } := by
  refine h.store (a := .root) (Live.root m) hv i _ (live_iff rfl rfl) (fun b hb => ?_) (fun b hb hne => ?_) (ints_set _ _ _)
  · rcases hb.cases with rfl | rfl | rfl | rfl | ⟨j, rfl, hj⟩ | ⟨j, rfl, hj⟩ <;> first | rfl | exact List.length_set
  · rcases hb.cases with rfl | rfl | rfl | rfl | ⟨j, rfl, hj⟩ | ⟨j, rfl, hj⟩ <;> first | rfl | exact absurd rfl hne
theorem OI.setRefs {W : World} {B : Nat} {val : Nm → Value} {m : ImgD} (h : OI W B val m) {g n cap : Nat} (hv : val .refs = .slice (some ⟨g, 0, none⟩) n cap) (i : Nat) (x : Int) : OI (W.setCell ⟨g, i, none⟩ (.int .i64 x)) B val { m with refs := m.refs.set i x } := by
  refine h.store (a := .refs) (Live.refs m) hv i _ (live_iff rfl rfl) (fun b hb => ?_) (fun b hb hne => ?_) (ints_set _ _ _)
  · rcases hb.cases with rfl | rfl | rfl | rfl | ⟨j, rfl, hj⟩ | ⟨j, rfl, hj⟩ <;> first | rfl | exact List.length_set
  · rcases hb.cases with rfl | rfl | rfl | rfl | ⟨j, rfl, hj⟩ | ⟨j, rfl, hj⟩ <;> first | rfl | exact absurd rfl hne
end Go.Proofs.Ytehleeibgkpjmad
/- An image of one's own: whole slots that are stored, slots that are put behind, lists that are exchanged. -/
namespace Go.Proofs.Ytehleeibgkpjmad
open Go.RowKit
set_option maxRecDepth 20000

def upd (val : Nm → Value) (a : Nm) (v : Value) : Nm → Value := fun b => if b.kind = a.kind ∧ b.ix = a.ix then v else val b
theorem upd_same (val : Nm → Value) (a : Nm) (v : Value) : upd val a v a = v := by unfold upd; rw [if_pos ⟨rfl, rfl⟩]
theorem upd_other (val : Nm → Value) {a b : Nm} (v : Value) (h : b ≠ a) : upd val a v b = val b := by
  unfold upd
  rw [if_neg]
  intro e
  apply h
  obtain ⟨k, i⟩ := a
  obtain ⟨k', i'⟩ := b
  obtain ⟨e1, e2⟩ := e
  dsimp only at e1 e2
  rw [e1, e2]
/-- v's block is nobody's else. -/
def Far (m : ImgD) (val : Nm → Value) (a : Nm) (v : Value) : Prop := ∀ b, Live m b → b ≠ a → ∀ g, v.ownBlock = some g → (val b).ownBlock ≠ some g
theorem far_new {W : World} {B : Nat} {val : Nm → Value} {m : ImgD} (h : OI W B val m) (a : Nm) {v : Value} (hv : ∀ g, v.ownBlock = some g → W.heap.size ≤ g) : Far m val a v := fun b hb _ g hg e => by
  have := ((h.row b hb).lt g e).2
  have := hv g hg
  omega
theorem far_nil (m : ImgD) (val : Nm → Value) (a : Nm) (n cap : Nat) : Far m val a (.slice none n cap) := fun _ _ _ g hg => by cases hg

/-- Row a is another one. -/
theorem OI.swap {W : World} {B : Nat} {val : Nm → Value} {m m' : ImgD} (h : OI W B val m) {a : Nm} (ha : Live m a) {v : Value} (hv : W.ownsRow B (rowT a) (rowS a) v (rowN m' a) (rowV m' (upd val a v) a)) (hfar : Far m val a v)
    (hlive : ∀ b, Live m' b ↔ Live m b) (hsame : ∀ b, Live m b → b ≠ a → rowN m' b = rowN m b ∧ rowV m' (upd val a v) b = rowV m val b) : OI W B (upd val a v) m' := by
  refine ⟨fun b hb => ?_, fun b c hb hc hne g hg => ?_⟩
  · have hb := (hlive b).1 hb
    by_cases e : b = a
    · subst e; rw [upd_same]; exact hv
    · rw [upd_other val v e, (hsame b hb e).1, (hsame b hb e).2]; exact h.row b hb
  · have hb := (hlive b).1 hb
    have hc := (hlive c).1 hc
    by_cases e : b = a
    · subst e
      rw [upd_same] at hg
      rw [upd_other val v (fun x => hne x.symm)]
      exact hfar c hc (fun x => hne x.symm) g hg
    · rw [upd_other val v e] at hg
      by_cases e2 : c = a
      · subst e2
        rw [upd_same]
        exact fun x => hfar b hb e g x hg
      · rw [upd_other val v e2]; exact h.apart b c hb hc hne g hg
theorem OI.swapRoot {W : World} {B : Nat} {val : Nm → Value} {m : ImgD} (h : OI W B val m) {v : Value} {r : List Int} (hv : W.ownsRow B 3 1 v r.length (ints r)) (hfar : Far m val .root v) (g : Int) : OI W B (upd val .root v) { m with guest := g, root := r } := by
  refine h.swap (a := .root) (Live.root m) hv hfar (live_iff rfl rfl) (fun b hb hne => ?_)
  rcases hb.cases with rfl | rfl | rfl | rfl | ⟨j, rfl, hj⟩ | ⟨j, rfl, hj⟩ <;> first | exact ⟨rfl, rfl⟩ | exact absurd rfl hne
theorem OI.swapRefs {W : World} {B : Nat} {val : Nm → Value} {m : ImgD} (h : OI W B val m) {v : Value} {r : List Int} (hv : W.ownsRow B 3 1 v r.length (ints r)) (hfar : Far m val .refs v) : OI W B (upd val .refs v) { m with refs := r } := by
  refine h.swap (a := .refs) (Live.refs m) hv hfar (live_iff rfl rfl) (fun b hb hne => ?_)
  rcases hb.cases with rfl | rfl | rfl | rfl | ⟨j, rfl, hj⟩ | ⟨j, rfl, hj⟩ <;> first | exact ⟨rfl, rfl⟩ | exact absurd rfl hne

/-! ### A slot is stored -/
theorem flat3_length (f : Nat → Value × Value × Value) (n : Nat) : ((List.range n).flatMap (fun j => [(f j).1, (f j).2.1, (f j).2.2])).length = n * 3 := by
  induction n with
  | zero => rfl
  | succ n ih => rw [List.range_succ, List.flatMap_append, List.length_append, ih]; simp; omega
theorem flatS_length (L : List SlotD) (tv : Nat → Value) : (flatS L tv).length = L.length * 3 := flat3_length (fun j => (.int .i64 (L.getD j default).1, .string (L.getD j default).2.1, tv j)) L.length
theorem flatN_length (S : List SnapD) (qv : Nat → Value) : (flatN S qv).length = S.length * 3 := flat3_length (fun j => (.string (S.getD j default).1, .int .i64 (S.getD j default).2.1, qv j)) S.length
theorem flatS_set {L : List SlotD} {tv tv' : Nat → Value} {t : Nat} (k : Int) (d : ByteArray) (es : List Int) (htv : ∀ j, j ≠ t → tv' j = tv j) :
    flatS (L.set t (k, d, es)) tv' = (((flatS L tv).set (t * 3) (.int .i64 k)).set (t * 3 + 1) (.string d)).set (t * 3 + 2) (tv' t) := by
  apply List.ext_getElem?
  intro i
  rcases Nat.lt_or_ge i (L.length * 3) with hi | hi
  · obtain ⟨j, r, hj, hr, rfl⟩ : ∃ j r, j < L.length ∧ r < 3 ∧ i = j * 3 + r := ⟨i / 3, i % 3, by omega, Nat.mod_lt _ (by decide), by omega⟩
    obtain ⟨a0, a1, a2⟩ := flatS_get (L := L.set t (k, d, es)) (tv := tv') (j := j) (by rw [List.length_set]; exact hj)
    obtain ⟨b0, b1, b2⟩ := flatS_get (L := L) (tv := tv) hj
    rw [getD_setR] at a0 a1
    have hlen := flatS_length L tv
    by_cases e : t = j
    · subst e
      rw [if_pos ⟨rfl, hj⟩] at a0 a1
      match r, hr with
      | 0, _ => rw [Nat.add_zero, a0, List.getElem?_set_ne (by omega), List.getElem?_set_ne (by omega), List.getElem?_set_self (by rw [hlen]; omega)]
      | 1, _ => rw [a1, List.getElem?_set_ne (by omega), List.getElem?_set_self (by rw [List.length_set, hlen]; omega)]
      | 2, _ => rw [a2, List.getElem?_set_self (by rw [List.length_set, List.length_set, hlen]; omega)]
    · rw [if_neg (fun x => e x.1)] at a0 a1
      rw [htv j (fun x => e x.symm)] at a2
      rw [List.getElem?_set_ne (by omega), List.getElem?_set_ne (by omega), List.getElem?_set_ne (by omega)]
      match r, hr with
      | 0, _ => rw [Nat.add_zero, a0, b0]
      | 1, _ => rw [a1, b1]
      | 2, _ => rw [a2, b2]
  · rw [List.getElem?_eq_none (by rw [flatS_length, List.length_set]; exact hi), List.getElem?_eq_none (by rw [List.length_set, List.length_set, List.length_set, flatS_length]; exact hi)]
theorem OI.setSlot {W : World} {B : Nat} {val : Nm → Value} {m : ImgD} (h : OI W B val m) {t : Nat} (ht : t < m.slots.length) {g n cap : Nat} (hv : val .slots = .slice (some ⟨g, 0, none⟩) n cap) (k : Int) (d : ByteArray) (es : List Int) {ev : Value}
    (hev : W.ownsRow B 3 1 ev es.length (ints es)) (hfar : Far m val (.tab t) ev) :
    OI (((W.setCell ⟨g, t * 3, none⟩ (.int .i64 k)).setCell ⟨g, t * 3 + 1, none⟩ (.string d)).setCell ⟨g, t * 3 + 2, none⟩ ev) B (upd val (.tab t) ev) { m with slots := m.slots.set t (k, d, es) } := by
  have hgd := fun j => getD_setR m.slots t j (k, d, es)
  have hnn : n = m.slots.length := by
    rcases row_form (h.row .slots (Live.slots m)) with ⟨e, _⟩ | ⟨g', cap', e, _⟩
    · rw [hv] at e; simp at e
    · rw [hv] at e; simp at e; exact e.2.1
  have hoth : ∀ {e : TypeId} {size : Nat} {v : Value} {q : Nat} {xs : List Value}, W.ownsRow B e size v q xs → v.ownBlock ≠ some g →
      (((W.setCell ⟨g, t * 3, none⟩ (.int .i64 k)).setCell ⟨g, t * 3 + 1, none⟩ (.string d)).setCell ⟨g, t * 3 + 2, none⟩ ev).ownsRow B e size v q xs := fun hr hne =>
    ownsRow_setCell_other (ownsRow_setCell_other (ownsRow_setCell_other hr hne _) hne _) hne _
  refine ⟨fun b hb => ?_, fun b c hb hc hne q hq => ?_⟩
  · have hb' : Live m b := (live_iff (m := m) (m' := { m with slots := m.slots.set t (k, d, es) }) List.length_set rfl b).1 hb
    by_cases es0 : b = .slots
    · subst es0
      rw [upd_other val ev (by intro x; cases x)]
      have hr := h.row .slots hb'
      have e1 : rowV { m with slots := m.slots.set t (k, d, es) } (upd val (.tab t) ev) .slots = (((rowV m val .slots).set (t * 3) (.int .i64 k)).set (t * 3 + 1) (.string d)).set (t * 3 + 2) ev := by
        have := flatS_set (L := m.slots) (tv := fun j => val (.tab j)) (tv' := fun j => upd val (.tab t) ev (.tab j)) (t := t) k d es (fun j hj => upd_other val ev (by intro x; apply hj; injection x))
        rw [upd_same] at this
        exact this
      have e2 : rowN { m with slots := m.slots.set t (k, d, es) } .slots = rowN m .slots := List.length_set
      rw [e1, e2]
      have hN : rowN m .slots = n := hnn.symm
      rw [hN] at hr ⊢
      rw [hv] at hr ⊢
      exact ((((hr.stored (t * 3) (.int .i64 k)).1).stored (t * 3 + 1) (.string d)).1.stored (t * 3 + 2) ev).1
    · have hbg : (val b).ownBlock ≠ some g := h.apart .slots b (Live.slots m) hb' (fun x => es0 x.symm) g (by rw [hv]; rfl)
      by_cases et : b = .tab t
      · subst et
        rw [upd_same]
        have e1 : rowV { m with slots := m.slots.set t (k, d, es) } (upd val (.tab t) ev) (.tab t) = ints es := by
          show ints ((m.slots.set t (k, d, es)).getD t default).2.2 = _
          rw [hgd, if_pos ⟨rfl, ht⟩]
        have e2 : rowN { m with slots := m.slots.set t (k, d, es) } (.tab t) = es.length := by
          show ((m.slots.set t (k, d, es)).getD t default).2.2.length = _
          rw [hgd, if_pos ⟨rfl, ht⟩]
        rw [e1, e2]
        exact hoth hev (fun x => hfar .slots (Live.slots m) (by intro y; cases y) g x (by rw [hv]; rfl))
      · rw [upd_other val ev et]
        have e1 : rowV { m with slots := m.slots.set t (k, d, es) } (upd val (.tab t) ev) b = rowV m val b ∧ rowN { m with slots := m.slots.set t (k, d, es) } b = rowN m b := by
          rcases hb'.cases with rfl | rfl | rfl | rfl | ⟨j, rfl, hj⟩ | ⟨j, rfl, hj⟩
          · exact ⟨rfl, rfl⟩
          · exact absurd rfl es0
          · exact ⟨rfl, rfl⟩
          · exact ⟨rfl, rfl⟩
          · have hjt : t ≠ j := fun x => et (by rw [x])
            constructor
            · show ints ((m.slots.set t (k, d, es)).getD j default).2.2 = ints (m.slots.getD j default).2.2
              rw [hgd, if_neg (fun x => hjt x.1)]
            · show ((m.slots.set t (k, d, es)).getD j default).2.2.length = (m.slots.getD j default).2.2.length
              rw [hgd, if_neg (fun x => hjt x.1)]
          · exact ⟨rfl, rfl⟩
        rw [e1.1, e1.2]
        exact hoth (h.row b hb') hbg
  · have hb' : Live m b := (live_iff (m := m) (m' := { m with slots := m.slots.set t (k, d, es) }) List.length_set rfl b).1 hb
    have hc' : Live m c := (live_iff (m := m) (m' := { m with slots := m.slots.set t (k, d, es) }) List.length_set rfl c).1 hc
    by_cases e : b = .tab t
    · subst e
      rw [upd_same] at hq
      rw [upd_other val ev (fun x => hne x.symm)]
      exact hfar c hc' (fun x => hne x.symm) q hq
    · rw [upd_other val ev e] at hq
      by_cases e2 : c = .tab t
      · subst e2; rw [upd_same]; exact fun x => hfar b hb' e q x hq
      · rw [upd_other val ev e2]; exact h.apart b c hb' hc' hne q hq

/-! ### A slot is put behind -/
theorem flatS_snoc (L : List SlotD) (tv tv' : Nat → Value) (s : SlotD) (htv : ∀ j, j < L.length → tv' j = tv j) : flatS (L ++ [s]) tv' = flatS L tv ++ [.int .i64 s.1, .string s.2.1, tv' L.length] := by
  unfold flatS
  rw [List.length_append, List.length_singleton, List.range_succ, List.flatMap_append]
  have e1 : (List.range L.length).flatMap (fun j => [Value.int .i64 ((L ++ [s]).getD j default).1, .string ((L ++ [s]).getD j default).2.1, tv' j]) = (List.range L.length).flatMap (fun j => [Value.int .i64 (L.getD j default).1, .string (L.getD j default).2.1, tv j]) := by
    refine congrArg List.flatten (List.map_congr_left fun j hj => ?_)
    have hj := List.mem_range.1 hj
    have e : (L ++ [s]).getD j default = L.getD j default := by simp [List.getD, List.getElem?_append, hj]
    rw [e, htv j hj]
  rw [e1]
  simp
end Go.Proofs.Ytehleeibgkpjmad
/- A list of integers is put behind a new empty one: a copy of one's own. A slot, a snapshot, is put behind. -/
namespace Go.Proofs.Ytehleeibgkpjmad
open Go.RowKit
/-! ### A slot, a snapshot, behind a row of one's own -/
theorem infoSlot : (Try.prog.info? 52).map (fun i => (i.zero, i.size, i.bytes)) = some (some (.agg #[.int .i64 0, .string ByteArray.empty, .slice none 0 0]), 3, 48) := by kernel_rfl
theorem infoSnap : (Try.prog.info? 72).map (fun i => (i.zero, i.size, i.bytes)) = some (some (.agg #[.string ByteArray.empty, .int .i64 0, .slice none 0 0]), 3, 48) := by kernel_rfl
end Go.Proofs.Ytehleeibgkpjmad
/- Contract of the document's lay: a slot is stored, or put behind. -/
namespace Go.Proofs.Ytehleeibgkpjmad
open Go.RowKit Go.Shelf
set_option maxRecDepth 20000

/-- A cell of nobody's row is stored. -/
theorem OI.far {W : World} {B : Nat} {val : Nm → Value} {m : ImgD} (h : OI W B val m) {g i : Nat} {u : Value} (hg : ∀ a, Live m a → (val a).ownBlock ≠ some g) : OI (W.setCell ⟨g, i, none⟩ u) B val m :=
  ⟨fun a ha => ownsRow_setCell_other (h.row a ha) (hg a ha) u, h.apart⟩
theorem OI.lt {W : World} {B : Nat} {val : Nm → Value} {m : ImgD} (h : OI W B val m) {g : Nat} (hg : W.heap.size ≤ g) : ∀ a, Live m a → (val a).ownBlock ≠ some g := fun a ha e => by
  have := ((h.row a ha).lt g e).2
  omega

theorem row_some {W : World} {B : Nat} {e : TypeId} {size n : Nat} {v : Value} {xs : List Value} (h : W.ownsRow B e size v (n + 1) xs) : ∃ g cap, v = .slice (some ⟨g, 0, none⟩) (n + 1) cap := by
  rcases row_form h with ⟨_, e⟩ | ⟨g, cap, e, _⟩
  · cases e
  · exact ⟨g, cap, e⟩
theorem cells_frozen {W : World} {b : Nat} {A : Array Value} {t : TypeId} (h : W.heap[b]? = some (.cells A t)) (i : Nat) : W.frozen? ⟨b, i, none⟩ = false := by simp [World.frozen?, h]
/-- Nothing but the image's own rows has turned. -/
def OKeep (w w' : World) (m : ImgD) (val : Nm → Value) : Prop := ∀ q, q < w.heap.size → (∀ a, Live m a → (val a).ownBlock ≠ some q) → w'.heap[q]? = w.heap[q]?
theorem OKeep.refl (w : World) (m : ImgD) (val : Nm → Value) : OKeep w w m val := fun _ _ _ => rfl
theorem OKeep.alloc {w W : World} {m : ImgD} {val : Nm → Value} (h : OKeep w W m val) (hs : w.heap.size ≤ W.heap.size) (o : Obj) : OKeep w (W.alloc o) m val := fun q hq hn => (Below.heap_alloc W o q (by omega)).trans (h q hq hn)
theorem OKeep.own {w W : World} {m : ImgD} {val : Nm → Value} (h : OKeep w W m val) {a : Nm} (ha : Live m a) {g n c : Nat} (hg : val a = .slice (some ⟨g, 0, none⟩) n c) {i : Nat} {v : Value} : OKeep w (W.setCell ⟨g, i, none⟩ v) m val := fun q hq hn =>
  (Below.heap_setCell W ⟨g, i, none⟩ v q (fun e => hn a ha (by rw [hg]; exact congrArg some e.symm))).trans (h q hq hn)
theorem OKeep.new {w W : World} {m : ImgD} {val : Nm → Value} (h : OKeep w W m val) {g i : Nat} (hg : w.heap.size ≤ g) {v : Value} : OKeep w (W.setCell ⟨g, i, none⟩ v) m val := fun q hq hn =>
  (Below.heap_setCell W ⟨g, i, none⟩ v q (fun e => by have e : q = g := e; omega)).trans (h q hq hn)
theorem OKeep.grown {w W W' : World} {m : ImgD} {val : Nm → Value} (h : OKeep w W m val) (hs : w.heap.size ≤ W.heap.size) {a : Nm} (ha : Live m a) {v : Value} (hv : val a = v) (hg : W.grownBy W' v.ownBlock) : OKeep w W' m val := fun q hq hn =>
  (hg.block q (by omega) (fun e => hn a ha (by rw [hv]; exact e.symm))).trans (h q hq hn)
theorem OKeep.below {w W W' : World} {m : ImgD} {val : Nm → Value} (h : OKeep w W m val) {n : Nat} (hs : w.heap.size ≤ n) (hg : Below n W W') : OKeep w W' m val := fun q hq hn => (hg.block q (by omega)).trans (h q hq hn)

theorem OI.forms {W : World} {B : Nat} {val : Nm → Value} {m : ImgD} (h : OI W B val m) (a : Nm) (ha : Live m a) : ∃ ao cap, val a = .slice ao (rowN m a) cap ∧ (0 < rowN m a → ∃ g, ao = some ⟨g, 0, none⟩) := by
  rcases row_form (h.row a ha) with ⟨e, hn⟩ | ⟨g, cap, e, _⟩
  · exact ⟨none, 0, by rw [e, hn], fun hp => absurd hp (by omega)⟩
  · exact ⟨_, cap, e, fun _ => ⟨g, rfl⟩⟩
end Go.Proofs.Ytehleeibgkpjmad
/- Contract of the document's tableOf: a table of one's own. -/
namespace Go.Proofs.Ytehleeibgkpjmad
open Go.RowKit Go.Shelf
end Go.Proofs.Ytehleeibgkpjmad
/- Contract of the document's counted. -/
namespace Go.Proofs.Ytehleeibgkpjmad
open Go.RowKit Go.Shelf
set_option maxRecDepth 20000

def frT (m : ImgD) (k : Nat) : ImgD := { m with refs := cntL m, slots := (List.range m.slots.length).map (fun j => if j < k ∧ (cntL m).getD j 0 = 0 then slotZ else m.slots.getD j default) }
theorem frT_length (m : ImgD) (k : Nat) : (frT m k).slots.length = m.slots.length := by simp [frT]
theorem frT_get (m : ImgD) (k : Nat) {j : Nat} (hj : j < m.slots.length) : (frT m k).slots.getD j default = if j < k ∧ (cntL m).getD j 0 = 0 then slotZ else m.slots.getD j default := by
  unfold frT
  simp only [List.getD, List.getElem?_map, List.getElem?_range hj, Option.map_some, Option.getD_some]
theorem slots_ext {L M : List SlotD} (hl : L.length = M.length) (h : ∀ j, j < L.length → L.getD j default = M.getD j default) : L = M := by
  apply List.ext_getElem hl
  intro j h1 h2
  have := h j h1
  simpa [List.getD, h1, h2] using this
theorem frT_zero (m : ImgD) : frT m 0 = { m with refs := cntL m } := by
  have e : (frT m 0).slots = m.slots := slots_ext (frT_length m 0) (fun j hj => by
    rw [frT_length] at hj
    rw [frT_get m 0 hj, if_neg (by omega)])
  show ImgD.mk _ _ (frT m 0).slots _ _ = _
  rw [e]
theorem frT_end (m : ImgD) : frT m m.slots.length = countedD m := by
  have e : (frT m m.slots.length).slots = freeUn m.slots (cntL m) := slots_ext (by rw [frT_length, freeUn_length]) (fun j hj => by
    rw [frT_length] at hj
    rw [frT_get m _ hj, freeUn_get hj]
    by_cases c : (cntL m).getD j 0 = 0
    · rw [if_pos ⟨hj, c⟩, if_pos c]
    · rw [if_neg (fun x => c x.2), if_neg c])
  show ImgD.mk _ _ (frT m m.slots.length).slots _ _ = _
  rw [e]; rfl
theorem frT_gone (m : ImgD) {k : Nat} (hc : (cntL m).getD k 0 = 0) : frT m (k + 1) = { frT m k with slots := (frT m k).slots.set k slotZ } := by
  have e : (frT m (k + 1)).slots = (frT m k).slots.set k slotZ := slots_ext (by rw [List.length_set, frT_length, frT_length]) (fun j hj => by
    rw [frT_length] at hj
    rw [getD_setR, frT_get m _ hj, frT_length]
    by_cases e : k = j
    · subst e; rw [if_pos ⟨by omega, hc⟩, if_pos ⟨rfl, hj⟩]
    · rw [show (if k = j ∧ j < m.slots.length then slotZ else (frT m k).slots.getD j default) = (frT m k).slots.getD j default from if_neg (fun x => e x.1), frT_get m k hj]
      by_cases c : (cntL m).getD j 0 = 0
      · by_cases l : j < k
        · rw [if_pos ⟨by omega, c⟩, if_pos ⟨l, c⟩]
        · rw [if_neg (by omega), if_neg (fun x => l x.1)]
      · rw [if_neg (fun x => c x.2), if_neg (fun x => c x.2)])
  show ImgD.mk _ _ (frT m (k + 1)).slots _ _ = _
  rw [e]; rfl
theorem frT_kept (m : ImgD) {k : Nat} (hc : (cntL m).getD k 0 ≠ 0) : frT m (k + 1) = frT m k := by
  have e : (frT m (k + 1)).slots = (frT m k).slots := slots_ext (by rw [frT_length, frT_length]) (fun j hj => by
    rw [frT_length] at hj
    rw [frT_get m _ hj, frT_get m _ hj]
    by_cases c : (cntL m).getD j 0 = 0
    · have : j ≠ k := fun x => hc (by rw [← x]; exact c)
      by_cases l : j < k
      · rw [if_pos ⟨by omega, c⟩, if_pos ⟨l, c⟩]
      · rw [if_neg (by omega), if_neg (fun x => l x.1)]
    · rw [if_neg (fun x => c x.2), if_neg (fun x => c x.2)])
  show ImgD.mk _ _ (frT m (k + 1)).slots _ _ = _
  rw [e]; rfl
theorem cells_set {W : World} {b : Nat} {A : Array Value} {t : TypeId} (h : W.heap[b]? = some (.cells A t)) (i : Nat) (v : Value) : (W.setCell ⟨b, i, none⟩ v).heap[b]? = some (.cells (A.setIfInBounds i v) t) := by
  obtain ⟨hlt, hk⟩ := Array.getElem?_eq_some_iff.1 h
  show (W.heap.modify b _)[b]? = _
  rw [Array.getElem?_eq_getElem (by rw [Array.size_modify]; exact hlt), Array.getElem_modify_self, hk]
  simp
theorem cells_other {W : World} {b : Nat} {o : Option Obj} (h : W.heap[b]? = o) {g : Nat} (hg : b ≠ g) (i : Nat) (v : Value) : (W.setCell ⟨g, i, none⟩ v).heap[b]? = o := (Below.heap_setCell W ⟨g, i, none⟩ v b hg).trans h
theorem row_LAt {W : World} {g : Nat} {l : List Int} (h : LAt W g l) {B : Nat} (hB : B ≤ g) (hl : l.length ≤ 1000) : W.ownsRow B 3 1 (.slice (some ⟨g, 0, none⟩) l.length l.length) l.length (ints l) :=
  ⟨by simp [ints_length], .inr ⟨g, l.length, (ints l).toArray, rfl, hB, h, Nat.le_refl _, by unfold maxLen; omega, by simp [ints_length], by rw [Nat.mul_one]; exact List.take_of_length_le (by simp [ints_length])⟩⟩
end Go.Proofs.Ytehleeibgkpjmad
/- The desk: five cells, and an image's own rows. What stays, and what turns. -/
namespace Go.Proofs.Ytehleeibgkpjmad
open Go.RowKit Go.Shelf
set_option maxRecDepth 20000

theorem Img.four {w : World} {m : ImgD} {a b c d e : Value} (h : Img w (.agg #[a, b, c, d, e]) m) : Sl w b m.root ∧ Slots w c m.slots ∧ Sl w d m.refs ∧ Snaps w e m.snaps := by
  obtain ⟨_, _, _, _, e, h1, h2, h3, h4⟩ := h
  simp only [Value.agg.injEq, Array.mk.injEq, List.cons.injEq, and_true] at e
  obtain ⟨_, rfl, rfl, rfl, rfl⟩ := e
  exact ⟨h1, h2, h3, h4⟩
/-- The desk lies in block D: an image of one's own, and where its lists are. -/
structure DK (W : World) (B D : Nat) (val : Nm → Value) (m : ImgD) : Prop where
  own : OI W B val m
  box : W.heap[D]? = some (.cells #[.int .i64 m.guest, val .root, val .slots, val .refs, val .snaps] 57)
  ge : B ≤ D
  far : ∀ a, Live m a → (val a).ownBlock ≠ some D
theorem DK.lt {W : World} {B D : Nat} {val : Nm → Value} {m : ImgD} (h : DK W B D val m) : D < W.heap.size := (Array.getElem?_eq_some_iff.1 h.box).1
theorem DK.below {W W' : World} {B D : Nat} {val : Nm → Value} {m : ImgD} (h : DK W B D val m) (hb : Below W.heap.size W W') : DK W' B D val m := ⟨h.own.below hb, (hb.block D h.lt).trans h.box, h.ge, h.far⟩
theorem DK.drew {W : World} {B D : Nat} {val : Nm → Value} {m : ImgD} (h : DK W B D val m) : DK W.drew B D val m := ⟨h.own.drew, h.box, h.ge, h.far⟩
theorem DK.alloc {W : World} {B D : Nat} {val : Nm → Value} {m : ImgD} (h : DK W B D val m) (o : Obj) : DK (W.alloc o) B D val m := h.below ((Below.refl _ _).alloc (Nat.le_refl _) o)

/-- From one world to another the image on the desk has become m': nothing but the desk and its rows has turned, and its rows are old ones of its own, what was handed in, or new. -/
structure DTo (w w' : World) (B D : Nat) (m : ImgD) (val : Nm → Value) (ev : Value) (m' : ImgD) (val' : Nm → Value) : Prop where
  dk : DK w' B D val' m'
  bel : Below B w w'
  keep : ∀ q, q < w.heap.size → q ≠ D → ev.ownBlock ≠ some q → (∀ a, Live m a → (val a).ownBlock ≠ some q) → w'.heap[q]? = w.heap[q]?
  src : ∀ q, q < w.heap.size → ev.ownBlock ≠ some q → (∀ b, Live m b → (val b).ownBlock ≠ some q) → ∀ a, Live m' a → (val' a).ownBlock ≠ some q
abbrev nilV : Value := .slice none 0 0
theorem nilV_own (q : Nat) : nilV.ownBlock ≠ some q := by intro e; cases e

theorem DTo.refl {w : World} {B D : Nat} {m : ImgD} {val : Nm → Value} (h : DK w B D val m) (ev : Value) : DTo w w B D m val ev m val := ⟨h, Below.refl _ _, fun _ _ _ _ _ => rfl, fun _ _ _ hm => hm⟩
theorem DTo.trans {w w1 w2 : World} {B D : Nat} {m m1 m2 : ImgD} {val val1 val2 : Nm → Value} {ev ev' : Value} (h : DTo w w1 B D m val ev m1 val1) (k : DTo w1 w2 B D m1 val1 ev' m2 val2) (he : ∀ q, ev'.ownBlock = some q → ev.ownBlock = some q ∨ w.heap.size ≤ q ∨ ∃ a, Live m a ∧ (val a).ownBlock = some q) : DTo w w2 B D m val ev m2 val2 := by
  have hx : ∀ q, q < w.heap.size → ev.ownBlock ≠ some q → (∀ b, Live m b → (val b).ownBlock ≠ some q) → ev'.ownBlock ≠ some q := fun q hq hev hm e => by
    rcases he q e with x | x | ⟨a, ha, x⟩
    · exact hev x
    · omega
    · exact hm a ha x
  refine ⟨k.dk, h.bel.trans k.bel, fun q hq hD hev hm => ?_, fun q hq hev hm => ?_⟩
  · exact (k.keep q (Nat.lt_of_lt_of_le hq h.bel.size) hD (hx q hq hev hm) (h.src q hq hev hm)).trans (h.keep q hq hD hev hm)
  · exact k.src q (Nat.lt_of_lt_of_le hq h.bel.size) (hx q hq hev hm) (h.src q hq hev hm)
/-- One step behind another, with nothing handed in. -/
theorem DTo.andThen {w w1 w2 : World} {B D : Nat} {m m1 m2 : ImgD} {val val1 val2 : Nm → Value} (h : DTo w w1 B D m val nilV m1 val1) (k : DTo w1 w2 B D m1 val1 nilV m2 val2) : DTo w w2 B D m val nilV m2 val2 :=
  h.trans k (fun q e => by cases e)
/-- Ahead of it only new things came; what is handed in is one of them. -/
theorem DTo.first {w w1 w2 : World} {B D : Nat} {m m1 : ImgD} {val val1 : Nm → Value} {ev : Value} (hb : Below w.heap.size w w1) (hB : B ≤ w.heap.size) (h : DTo w1 w2 B D m val ev m1 val1) (he : ∀ q, ev.ownBlock = some q → w.heap.size ≤ q) : DTo w w2 B D m val nilV m1 val1 :=
  ⟨h.dk, (hb.mono hB).trans h.bel, fun q hq hD _ hm => (h.keep q (Nat.lt_of_lt_of_le hq hb.size) hD (fun e => by have := he q e; omega) hm).trans (hb.block q hq), fun q hq _ hm => h.src q (Nat.lt_of_lt_of_le hq hb.size) (fun e => by have := he q e; omega) hm⟩
theorem DTo.below {w w1 w2 : World} {B D : Nat} {m m1 : ImgD} {val val1 : Nm → Value} {ev : Value} (h : DTo w w1 B D m val ev m1 val1) (hB : B ≤ w.heap.size) (hb : Below w1.heap.size w1 w2) : DTo w w2 B D m val ev m1 val1 :=
  ⟨h.dk.below hb, h.bel.trans (hb.mono (Nat.le_trans hB h.bel.size)), fun q hq hD hev hm => (hb.block q (Nat.lt_of_lt_of_le hq h.bel.size)).trans (h.keep q hq hD hev hm), h.src⟩
theorem DTo.drew {w w1 : World} {B D : Nat} {m m1 : ImgD} {val val1 : Nm → Value} {ev : Value} (h : DTo w w1 B D m val ev m1 val1) : DTo w w1.drew B D m val ev m1 val1 := ⟨h.dk.drew, h.bel.drew, h.keep, h.src⟩
theorem DTo.alloc {w w1 : World} {B D : Nat} {m m1 : ImgD} {val val1 : Nm → Value} {ev : Value} (h : DTo w w1 B D m val ev m1 val1) (hB : B ≤ w.heap.size) (o : Obj) : DTo w (w1.alloc o) B D m val ev m1 val1 := h.below hB ((Below.refl _ _).alloc (Nat.le_refl _) o)
/-- A block of one's own, which is none of the desk's, is stored to. -/
theorem DK.setFar {W : World} {B D : Nat} {val : Nm → Value} {m : ImgD} (h : DK W B D val m) {g i : Nat} {u : Value} (hD : D ≠ g) (hg : ∀ a, Live m a → (val a).ownBlock ≠ some g) : DK (W.setCell ⟨g, i, none⟩ u) B D val m := ⟨h.own.far hg, cells_other h.box hD _ _, h.ge, h.far⟩
theorem DTo.setNew {w w1 : World} {B D : Nat} {m m1 : ImgD} {val val1 : Nm → Value} {ev : Value} (h : DTo w w1 B D m val ev m1 val1) (hB : B ≤ w.heap.size) {g i : Nat} {u : Value} (hg : w.heap.size ≤ g) (hD : D ≠ g) (hf : ∀ a, Live m1 a → (val1 a).ownBlock ≠ some g) : DTo w (w1.setCell ⟨g, i, none⟩ u) B D m val ev m1 val1 :=
  ⟨h.dk.setFar hD hf, h.bel.setCell (Nat.le_trans hB hg) _, fun q hq hqD hev hm => (Below.heap_setCell w1 ⟨g, i, none⟩ u q (fun e => by have e : q = g := e; omega)).trans (h.keep q hq hqD hev hm), h.src⟩
/-- What lies elsewhere, and is no row, is where it was. -/
theorem DTo.cells {w w1 : World} {B D : Nat} {m m1 : ImgD} {val val1 : Nm → Value} {ev : Value} (h : DTo w w1 B D m val ev m1 val1) {q : Nat} {A : Array Value} {t : TypeId} (hq : w.heap[q]? = some (.cells A t)) (hD : q ≠ D) (hev : ev.ownBlock ≠ some q) (hm : ∀ a, Live m a → (val a).ownBlock ≠ some q) : w1.heap[q]? = some (.cells A t) :=
  (h.keep q (Array.getElem?_eq_some_iff.1 hq).1 hD hev hm).trans hq

/-! ### The desk's own cells -/
theorem DK.five {W : World} {B D : Nat} {val : Nm → Value} {m : ImgD} (h : DK W B D val m) : W.cell? ⟨D, 0, none⟩ = some (.int .i64 m.guest) ∧ W.cell? ⟨D, 1, none⟩ = some (val .root) ∧ W.cell? ⟨D, 2, none⟩ = some (val .slots) ∧ W.cell? ⟨D, 3, none⟩ = some (val .refs) ∧ W.cell? ⟨D, 4, none⟩ = some (val .snaps) := Go.Proofs.Ytehleeibgkpjmad.five h.box
theorem DK.frozen {W : World} {B D : Nat} {val : Nm → Value} {m : ImgD} (h : DK W B D val m) (i : Nat) : W.frozen? ⟨D, i, none⟩ = false := cells_frozen h.box i
theorem DK.swapRefs {W : World} {B D : Nat} {val : Nm → Value} {m : ImgD} (h : DK W B D val m) {v : Value} {r : List Int} (hv : W.ownsRow B 3 1 v r.length (ints r)) (hfar : Far m val .refs v) (hD : v.ownBlock ≠ some D) : DK (W.setCell ⟨D, 3, none⟩ v) B D (upd val .refs v) { m with refs := r } := by
  have hf : ∀ a, Live m a → (upd val .refs v a).ownBlock ≠ some D := fun a ha => by
    by_cases e : a = .refs
    · subst e; rw [upd_same]; exact hD
    · rw [upd_other _ _ e]; exact h.far a ha
  refine ⟨(h.own.swapRefs hv hfar).far hf, ?_, h.ge, hf⟩
  have := cells_set h.box 3 v
  rw [upd_same, upd_other _ _ (by intro x; cases x), upd_other _ _ (by intro x; cases x), upd_other _ _ (by intro x; cases x)]
  exact this
theorem DK.swapRoot {W : World} {B D : Nat} {val : Nm → Value} {m : ImgD} (h : DK W B D val m) {v : Value} {r : List Int} (hv : W.ownsRow B 3 1 v r.length (ints r)) (hfar : Far m val .root v) (hD : v.ownBlock ≠ some D) : DK (W.setCell ⟨D, 1, none⟩ v) B D (upd val .root v) { m with root := r } := by
  have hf : ∀ a, Live m a → (upd val .root v a).ownBlock ≠ some D := fun a ha => by
    by_cases e : a = .root
    · subst e; rw [upd_same]; exact hD
    · rw [upd_other _ _ e]; exact h.far a ha
  refine ⟨(h.own.swapRoot hv hfar m.guest).far hf, ?_, h.ge, hf⟩
  have := cells_set h.box 1 v
  rw [upd_same, upd_other _ _ (by intro x; cases x), upd_other _ _ (by intro x; cases x), upd_other _ _ (by intro x; cases x)]
  exact this
theorem OI.reguest {W : World} {B : Nat} {val : Nm → Value} {m : ImgD} (h : OI W B val m) (g : Int) : OI W B val { m with guest := g } := ⟨fun a ha => h.row a ha, fun a b ha hb => h.apart a b ha hb⟩
theorem DK.setGuest {W : World} {B D : Nat} {val : Nm → Value} {m : ImgD} (h : DK W B D val m) (g : Int) : DK (W.setCell ⟨D, 0, none⟩ (.int .i64 g)) B D val { m with guest := g } :=
  ⟨(h.own.reguest g).far h.far, cells_set h.box 0 _, h.ge, h.far⟩
/-! ### Steps -/
/-- A cell of the desk, or of one of its rows, is stored. -/
theorem DTo.setOwn {w w1 : World} {B D : Nat} {m m1 m2 : ImgD} {val val1 val2 : Nm → Value} {ev : Value} (h : DTo w w1 B D m val ev m1 val1) {a : Nm} (ha : Live m1 a) {g n cap : Nat} (hv : val1 a = .slice (some ⟨g, 0, none⟩) n cap) {i : Nat} {u : Value} (hdk : DK (w1.setCell ⟨g, i, none⟩ u) B D val2 m2) (hs : ∀ q, ev.ownBlock ≠ some q → (∀ b, Live m1 b → (val1 b).ownBlock ≠ some q) → q < w.heap.size → ∀ b, Live m2 b → (val2 b).ownBlock ≠ some q) : DTo w (w1.setCell ⟨g, i, none⟩ u) B D m val ev m2 val2 := by
  have hg := ((h.dk.own.row a ha).lt g (by rw [hv]; rfl)).1
  refine ⟨hdk, h.bel.setCell hg _, fun q hq hD hev hm => ?_, fun q hq hev hm => hs q hev (h.src q hq hev hm) hq⟩
  exact (Below.heap_setCell w1 ⟨g, i, none⟩ u q (fun e => h.src q hq hev hm a ha (by rw [hv]; exact congrArg some e.symm))).trans (h.keep q hq hD hev hm)
theorem DTo.setDesk {w w1 : World} {B D : Nat} {m m1 m2 : ImgD} {val val1 val2 : Nm → Value} {ev : Value} (h : DTo w w1 B D m val ev m1 val1) {i : Nat} {u : Value} (hdk : DK (w1.setCell ⟨D, i, none⟩ u) B D val2 m2) (hs : ∀ q, ev.ownBlock ≠ some q → (∀ b, Live m1 b → (val1 b).ownBlock ≠ some q) → q < w.heap.size → ∀ b, Live m2 b → (val2 b).ownBlock ≠ some q) : DTo w (w1.setCell ⟨D, i, none⟩ u) B D m val ev m2 val2 :=
  ⟨hdk, h.bel.setCell h.dk.ge _, fun q hq hD hev hm => (Below.heap_setCell w1 ⟨D, i, none⟩ u q hD).trans (h.keep q hq hD hev hm), fun q hq hev hm => hs q hev (h.src q hq hev hm) hq⟩
theorem DK.setRoot {W : World} {B D : Nat} {val : Nm → Value} {m : ImgD} (h : DK W B D val m) {g n cap : Nat} (hv : val .root = .slice (some ⟨g, 0, none⟩) n cap) (i : Nat) (x : Int) : DK (W.setCell ⟨g, i, none⟩ (.int .i64 x)) B D val { m with root := m.root.set i x } :=
  ⟨h.own.setRoot hv i x, cells_other h.box (fun e => h.far .root (Live.root m) (by rw [hv, e]; rfl)) _ _, h.ge, h.far⟩
theorem DK.setRefs {W : World} {B D : Nat} {val : Nm → Value} {m : ImgD} (h : DK W B D val m) {g n cap : Nat} (hv : val .refs = .slice (some ⟨g, 0, none⟩) n cap) (i : Nat) (x : Int) : DK (W.setCell ⟨g, i, none⟩ (.int .i64 x)) B D val { m with refs := m.refs.set i x } :=
  ⟨h.own.setRefs hv i x, cells_other h.box (fun e => h.far .refs (Live.refs m) (by rw [hv, e]; rfl)) _ _, h.ge, h.far⟩
theorem DTo.setRoot {w w1 : World} {B D : Nat} {m m1 : ImgD} {val val1 : Nm → Value} {ev : Value} (h : DTo w w1 B D m val ev m1 val1) {g n cap : Nat} (hv : val1 .root = .slice (some ⟨g, 0, none⟩) n cap) (i : Nat) (x : Int) : DTo w (w1.setCell ⟨g, i, none⟩ (.int .i64 x)) B D m val ev { m1 with root := m1.root.set i x } val1 :=
  h.setOwn (Live.root m1) hv (h.dk.setRoot hv i x) (fun _ _ hm _ => hm)
theorem DTo.setRefs {w w1 : World} {B D : Nat} {m m1 : ImgD} {val val1 : Nm → Value} {ev : Value} (h : DTo w w1 B D m val ev m1 val1) {g n cap : Nat} (hv : val1 .refs = .slice (some ⟨g, 0, none⟩) n cap) (i : Nat) (x : Int) : DTo w (w1.setCell ⟨g, i, none⟩ (.int .i64 x)) B D m val ev { m1 with refs := m1.refs.set i x } val1 :=
  h.setOwn (Live.refs m1) hv (h.dk.setRefs hv i x) (fun _ _ hm _ => hm)
theorem DTo.setGuest {w w1 : World} {B D : Nat} {m m1 : ImgD} {val val1 : Nm → Value} {ev : Value} (h : DTo w w1 B D m val ev m1 val1) (x : Int) : DTo w (w1.setCell ⟨D, 0, none⟩ (.int .i64 x)) B D m val ev { m1 with guest := x } val1 :=
  h.setDesk (h.dk.setGuest x) (fun _ _ hm _ => hm)
theorem upd_src {m1 m2 : ImgD} {val1 : Nm → Value} {ev v : Value} {a : Nm} {n : Nat} (hl : ∀ b, Live m2 b → b ≠ a → Live m1 b) (hv : ∀ q, v.ownBlock = some q → ev.ownBlock = some q ∨ n ≤ q) : ∀ q, ev.ownBlock ≠ some q → (∀ b, Live m1 b → (val1 b).ownBlock ≠ some q) → q < n → ∀ b, Live m2 b → (upd val1 a v b).ownBlock ≠ some q := fun q hev hm hq b hb => by
  by_cases e : b = a
  · subst e
    rw [upd_same]
    intro x
    rcases hv q x with y | y
    · exact hev y
    · omega
  · rw [upd_other _ _ e]; exact hm b (hl b hb e)
theorem DTo.swapRoot {w w1 : World} {B D : Nat} {m m1 : ImgD} {val val1 : Nm → Value} {ev : Value} (h : DTo w w1 B D m val ev m1 val1) {v : Value} {r : List Int} (hv : w1.ownsRow B 3 1 v r.length (ints r)) (hfar : Far m1 val1 .root v) (hD : v.ownBlock ≠ some D) (hs : ∀ q, v.ownBlock = some q → ev.ownBlock = some q ∨ w.heap.size ≤ q) : DTo w (w1.setCell ⟨D, 1, none⟩ v) B D m val ev { m1 with root := r } (upd val1 .root v) :=
  h.setDesk (h.dk.swapRoot hv hfar hD) (upd_src (fun _ hb _ => hb) hs)
theorem DTo.swapRefs {w w1 : World} {B D : Nat} {m m1 : ImgD} {val val1 : Nm → Value} {ev : Value} (h : DTo w w1 B D m val ev m1 val1) {v : Value} {r : List Int} (hv : w1.ownsRow B 3 1 v r.length (ints r)) (hfar : Far m1 val1 .refs v) (hD : v.ownBlock ≠ some D) (hs : ∀ q, v.ownBlock = some q → ev.ownBlock = some q ∨ w.heap.size ≤ q) : DTo w (w1.setCell ⟨D, 3, none⟩ v) B D m val ev { m1 with refs := r } (upd val1 .refs v) :=
  h.setDesk (h.dk.swapRefs hv hfar hD) (upd_src (fun _ hb _ => hb) hs)
theorem DTo.setSlot {w w1 : World} {B D : Nat} {m m1 : ImgD} {val val1 : Nm → Value} {ev : Value} (h : DTo w w1 B D m val ev m1 val1) {t : Nat} (ht : t < m1.slots.length) {g n cap : Nat} (hv : val1 .slots = .slice (some ⟨g, 0, none⟩) n cap) (k : Int) (d : ByteArray) (es : List Int) {e2 : Value}
    (hev : w1.ownsRow B 3 1 e2 es.length (ints es)) (hfar : Far m1 val1 (.tab t) e2) (hD : e2.ownBlock ≠ some D) (hs : ∀ q, e2.ownBlock = some q → ev.ownBlock = some q ∨ w.heap.size ≤ q) :
    DTo w (((w1.setCell ⟨g, t * 3, none⟩ (.int .i64 k)).setCell ⟨g, t * 3 + 1, none⟩ (.string d)).setCell ⟨g, t * 3 + 2, none⟩ e2) B D m val ev { m1 with slots := m1.slots.set t (k, d, es) } (upd val1 (.tab t) e2) := by
  have hDg : D ≠ g := fun e => h.dk.far .slots (Live.slots m1) (by rw [hv, e]; rfl)
  have hg := ((h.dk.own.row .slots (Live.slots m1)).lt g (by rw [hv]; rfl)).1
  have hl : ∀ b, Live { m1 with slots := m1.slots.set t (k, d, es) } b → Live m1 b := fun b hb => (live_iff (m := m1) (m' := { m1 with slots := m1.slots.set t (k, d, es) }) List.length_set rfl b).1 hb
  have hu : ∀ q, ev.ownBlock ≠ some q → (∀ b, Live m1 b → (val1 b).ownBlock ≠ some q) → q < w.heap.size → ∀ b, Live { m1 with slots := m1.slots.set t (k, d, es) } b → (upd val1 (.tab t) e2 b).ownBlock ≠ some q := upd_src (fun b hb _ => hl b hb) hs
  refine ⟨⟨h.dk.own.setSlot ht hv k d es hev hfar, ?_, h.dk.ge, fun a ha => ?_⟩, ((h.bel.setCell hg _).setCell hg _).setCell hg _, fun q hq hqD hev' hm => ?_, fun q hq hev' hm => hu q hev' (h.src q hq hev' hm) hq⟩
  · rw [upd_other _ _ (by intro x; cases x), upd_other _ _ (by intro x; cases x), upd_other _ _ (by intro x; cases x), upd_other _ _ (by intro x; cases x)]
    exact cells_other (cells_other (cells_other h.dk.box hDg _ _) hDg _ _) hDg _ _
  · by_cases e : a = .tab t
    · subst e; rw [upd_same]; exact hD
    · rw [upd_other _ _ e]; exact h.dk.far a (hl a ha)
  · have hqg : q ≠ g := fun e => h.src q hq hev' hm .slots (Live.slots m1) (by rw [hv]; exact congrArg some e.symm)
    exact (cells_other (cells_other (cells_other rfl hqg _ _) hqg _ _) hqg _ _).trans (h.keep q hq hqD hev' hm)
/-- An image of one's own, as it is answered. -/
def AnsI (w : World) (B : Nat) (m : ImgD) (err : Int) (r : Ending) (w' : World) : Prop := ∃ val, r = .returned (.tuple #[imgV m.guest val, .int .i64 err]) ∧ OI w' B val m ∧ Below B w w'
def imgZ : ImgD := ⟨0, [], [], [], []⟩
def valZ : Nm → Value := fun _ => nilV
theorem OI.zero (W : World) (B : Nat) : OI W B valZ imgZ := ⟨fun a ha => by
  rcases ha.cases with rfl | rfl | rfl | rfl | ⟨j, rfl, hj⟩ | ⟨j, rfl, hj⟩
  · exact World.ownsRow_nil _ _ _ _
  · exact World.ownsRow_nil _ _ _ _
  · exact World.ownsRow_nil _ _ _ _
  · exact World.ownsRow_nil _ _ _ _
  · exact absurd hj (Nat.not_lt_zero _)
  · exact absurd hj (Nat.not_lt_zero _), fun _ _ _ _ _ g hg => by cases hg⟩
theorem AnsI.bad {w w' : World} {B : Nat} (err : Int) (hb : Below B w w') : AnsI w B imgZ err (.returned (.tuple #[.agg #[.int .i64 0, nilV, nilV, nilV, nilV], .int .i64 err])) w' := ⟨valZ, rfl, OI.zero _ _, hb⟩
end Go.Proofs.Ytehleeibgkpjmad
/- Contract of settled: the counts are told, and what nothing tells is free. -/
namespace Go.Proofs.Ytehleeibgkpjmad
open Go.RowKit Go.Shelf
set_option maxRecDepth 20000

/-- What holds in the loop: from world v on. -/
def SetR (v wr : World) (B D : Nat) (m : ImgD) (val : Nm → Value) (q k : Nat) : Prop :=
  ∃ vk, DTo v wr B D m val nilV (frT m k) vk ∧ vk .root = val .root ∧ vk .slots = val .slots ∧ vk .refs = .slice (some ⟨q, 0, none⟩) m.slots.length m.slots.length ∧ vk .snaps = val .snaps

set_option maxHeartbeats 4000000 in
theorem settled_at (m : ImgD) (ra : Option Addr) (rn rc : Nat) (g sc : Nat) (fa : Option Addr) (fn fc : Nat) (na : Option Addr) (nn nc : Nat) (B D : Nat) (val : Nm → Value) (w : World) (hK : DK w B D val m) (e0 : val .root = .slice ra rn rc) (e1 : val .slots = .slice (some ⟨g, 0, none⟩) m.slots.length sc) (e2 : val .refs = .slice fa fn fc) (e3 : val .snaps = .slice na nn nc) (hB : B ≤ w.heap.size) (hE : shapeE m = 0) :
    Calls Try.prog 68 #[.pointer (some ⟨D, 0, none⟩)] w fun r w' => ∃ val', r = .returned (.tuple #[imgV m.guest val', .int .i64 0]) ∧ DTo w w' B D m val nilV (countedD m) val' := by
  have h40 : m.slots.length ≤ 40 := (slotsE_parts (shapeE_zero hE).2.1).2
  have h1s : 1 ≤ m.slots.length := (slotsE_parts (shapeE_zero hE).2.1).1
  have hlc : (cntL m).length = m.slots.length := cntL_length m
  have hDlt := hK.lt
  have hgr := hK.own.row .slots (Live.slots m)
  rw [e1] at hgr
  have hgl := hgr.lt g rfl
  have hDg : g ≠ D := fun e => hK.far .slots (Live.slots m) (by rw [e1, e]; rfl)
  clear hgr
  have hK1 : DK (w.alloc (.cells #[.int .i64 0, .slice none 0 0, .slice none 0 0, .slice none 0 0, .slice none 0 0] 26)) B D val m := hK.alloc _
  obtain ⟨d0, d1, d2, d3, d4⟩ := hK1.five
  have f3 := hK1.frozen 3
  rw [e0] at d1
  rw [e1] at d2
  rw [e2] at d3
  rw [e3] at d4
  have hcall := counts_own hK1.own.img hE
  unfold imgV at hcall
  rw [e0, e1, e2, e3] at hcall
  have hz1 : (w.alloc (.cells #[.int .i64 0, .slice none 0 0, .slice none 0 0, .slice none 0 0, .slice none 0 0] 26)).heap.size = w.heap.size + 1 := by simp
  have mR : (w.alloc (.cells #[.int .i64 0, .slice none 0 0, .slice none 0 0, .slice none 0 0, .slice none 0 0] 26)).heap[w.heap.size]? = some (.cells #[.int .i64 0, .slice none 0 0, .slice none 0 0, .slice none 0 0, .slice none 0 0] 26) := World.alloc_heap_new _ _
  have D1 : ¬ D = w.heap.size := by omega
  have D2 : ¬ w.heap.size = D := by omega
  go_enter Try.func68, Try.ntmps68
  go_wp2_with (go_at_call 40; refine hcall.mono ?_; rintro e w2 ⟨⟨q, hq, rfl, hL⟩, hb2⟩; have hK2 := hK1.below hb2; obtain ⟨c0, c1, c2, c3, c4⟩ := hK2.five; have f2 := hK2.frozen 3; rw [e0] at c1; rw [e1] at c2; rw [e2] at c3; rw [e3] at c4)
  have hb2' : Below (w.alloc (.cells #[.int .i64 0, .slice none 0 0, .slice none 0 0, .slice none 0 0, .slice none 0 0] 26)).heap.size (w.alloc (.cells #[.int .i64 0, .slice none 0 0, .slice none 0 0, .slice none 0 0, .slice none 0 0] 26)) w2 := hb2
  have hq0 := hq
  have hq : w.heap.size + 1 ≤ q := by rw [hz1] at hq; exact hq
  have hrow : w2.ownsRow B 3 1 (.slice (some ⟨q, 0, none⟩) m.slots.length m.slots.length) (cntL m).length (ints (cntL m)) := by
    have := row_LAt hL (B := B) (by omega) (by rw [hlc]; omega)
    rw [hlc] at this ⊢
    exact this
  have hS := (DTo.refl hK1 nilV).below (by rw [hz1]; omega) hb2'
  have hS := hS.swapRefs hrow (far_new hK1.own .refs (fun p e => by cases e; rw [hz1]; exact hq)) (fun e => by have e : q = D := Option.some.inj e; omega) (fun p e => by cases e; rw [hz1]; exact .inr hq)
  have HS : Hid (SetR (w.alloc (.cells #[.int .i64 0, .slice none 0 0, .slice none 0 0, .slice none 0 0, .slice none 0 0] 26)) (w2.setCell ⟨D, 3, none⟩ (.slice (some ⟨q, 0, none⟩) m.slots.length m.slots.length)) B D m val q 0) := by
    refine ⟨upd val .refs (.slice (some ⟨q, 0, none⟩) m.slots.length m.slots.length), ?_, upd_other _ _ (by intro x; cases x), upd_other _ _ (by intro x; cases x), upd_same _ _ _, upd_other _ _ (by intro x; cases x)⟩
    rw [frT_zero]
    exact hS
  have HV : Hid (val .root = .slice ra rn rc ∧ val .slots = .slice (some ⟨g, 0, none⟩) m.slots.length sc ∧ val .snaps = .slice na nn nc) := ⟨e0, e1, e3⟩
  have HK : Hid (DK w B D val m) := hK
  clear hb2' hb2 hrow hS hL hq0 hK1 hK2 c0 c1 c2 c3 c4 d0 d1 d2 d3 d4 f2 f3 hcall hE e0 e1 e2 e3 hK mR hz1
  go_loopw [27] (fun i wr => ∃ k : Nat, k ≤ m.slots.length ∧ i = .int .i64 k ∧ Hid (SetR (w.alloc (.cells #[.int .i64 0, .slice none 0 0, .slice none 0 0, .slice none 0 0, .slice none 0 0] 26)) wr B D m val q k)) (fun i _ => m.slots.length - (intOf i).toNat)
  case atStart => exact ⟨0, Nat.zero_le _, rfl, HS⟩
  case round =>
    obtain ⟨k, hk, rfl, HC⟩ := hrel
    obtain ⟨vk, hT, v0, v1, v2, v3⟩ := HC.out
    obtain ⟨e0, e1, e3⟩ := HV.out
    rw [e0] at v0
    rw [e1] at v1
    rw [e3] at v3
    obtain ⟨d0, d1, d2, d3, d4⟩ := hT.dk.five
    have d0 : wr.cell? ⟨D, 0, none⟩ = some (.int .i64 m.guest) := d0
    rw [v0] at d1
    rw [v1] at d2
    rw [v2] at d3
    rw [v3] at d4
    have hls := frT_length m k
    by_cases hlk : k < m.slots.length
    · have hki : (k : Int) < (m.slots.length : Int) := by omega
      obtain ⟨x, hx⟩ : ∃ x, x = (cntL m).getD k 0 := ⟨_, rfl⟩
      have cx : wr.cell? ⟨q, k, none⟩ = some (.int .i64 x) := by
        have hr := hT.dk.own.row .refs (Live.refs _)
        rw [v2] at hr
        have hr : wr.ownsRow B 3 1 (.slice (some ⟨q, 0, none⟩) m.slots.length m.slots.length) (cntL m).length (ints (cntL m)) := hr
        rw [hlc] at hr
        rw [hx]
        refine (hr.cellAt k (by omega)).trans ?_
        unfold ints
        rw [List.getElem?_map, List.getElem?_eq_getElem (by rw [hlc]; exact hlk)]
        simp [List.getD, hlc, hlk]
      have HX : Hid (x = (cntL m).getD k 0) := hx
      clear hx
      by_cases h0 : x = 0
      · have h0' : (x == 0) = true := by simp [h0]
        have H0 : Hid ((cntL m).getD k 0 = 0) := HX.out.symm.trans h0
        clear h0
        have hr := hT.dk.own.row .slots (Live.slots _)
        rw [v1] at hr
        obtain ⟨s0, s1, s2⟩ := flatS_get (L := (frT m k).slots) (tv := fun j => vk (.tab j)) (j := k) (by rw [hls]; exact hlk)
        have hr : wr.ownsRow B 52 3 (.slice (some ⟨g, 0, none⟩) m.slots.length sc) m.slots.length (flatS (frT m k).slots (fun j => vk (.tab j))) := by rw [← hls]; rw [← hls] at hr; exact hr
        have t0 : wr.cell? ⟨g, k * 3, none⟩ = some _ := (hr.cellAt (k * 3) (by omega)).trans s0
        have t1 : wr.cell? ⟨g, k * 3 + 1, none⟩ = some _ := (hr.cellAt (k * 3 + 1) (by omega)).trans s1
        have t2 : wr.cell? ⟨g, k * 3 + 2, none⟩ = some _ := (hr.cellAt (k * 3 + 2) (by omega)).trans s2
        have u0 := hr.frozenAt (k * 3)
        have u1 := hr.frozenAt (k * 3 + 1)
        have u2 := hr.frozenAt (k * 3 + 2)
        have HN : Hid (SetR (w.alloc (.cells #[.int .i64 0, .slice none 0 0, .slice none 0 0, .slice none 0 0, .slice none 0 0] 26)) (((wr.setCell ⟨g, k * 3, none⟩ (.int .i64 0)).setCell ⟨g, k * 3 + 1, none⟩ (.string ⟨#[]⟩)).setCell ⟨g, k * 3 + 2, none⟩ (.slice none 0 0)) B D m val q (k + 1)) := by
          have hN := hT.setSlot (t := k) (by rw [hls]; exact hlk) v1 0 ⟨#[]⟩ [] (e2 := .slice none 0 0) (World.ownsRow_nil _ _ _ _) (far_nil _ _ _ _ _) (nilV_own _) (fun p e => by cases e)
          refine ⟨upd vk (.tab k) (.slice none 0 0), ?_, (upd_other _ _ (by intro x; cases x)).trans (v0.trans e0.symm), (upd_other _ _ (by intro x; cases x)).trans (v1.trans e1.symm), (upd_other _ _ (by intro x; cases x)).trans v2, (upd_other _ _ (by intro x; cases x)).trans (v3.trans e3.symm)⟩
          rw [frT_gone m H0.out]; exact hN
        clear hT hr s0 s1 s2 e0 e1 e3 v0 v1 v2 v3 HC HX H0 hls
        go_wp2_with fail
        go_roundw
        case rel => exact ⟨k + 1, by omega, by go_num, HN⟩
        case measure => simp [intOf]; omega
      · have h0' : (x == 0) = false := by simp [h0]
        have HN : Hid (SetR (w.alloc (.cells #[.int .i64 0, .slice none 0 0, .slice none 0 0, .slice none 0 0, .slice none 0 0] 26)) wr B D m val q (k + 1)) := by
          refine ⟨vk, ?_, v0.trans e0.symm, v1.trans e1.symm, v2, v3.trans e3.symm⟩
          rw [frT_kept m (fun e => h0 (HX.out.trans e))]
          exact hT
        clear hT e0 e1 e3 v0 v1 v2 v3 HC HX hls
        go_wp2_with fail
        go_roundw
        case rel => exact ⟨k + 1, by omega, by go_num, HN⟩
        case measure => simp [intOf]; omega
    · have ek : k = m.slots.length := by omega
      subst ek
      have hR : wr.heap[w.heap.size]? = some (.cells #[.int .i64 0, .slice none 0 0, .slice none 0 0, .slice none 0 0, .slice none 0 0] 26) := hT.cells (World.alloc_heap_new _ _) (by omega) (nilV_own _) (HK.out.own.lt (Nat.le_refl _))
      obtain ⟨z0, z1, z2, z3, z4⟩ := five hR
      have y0 := cells_frozen hR 0
      have y1 := cells_frozen hR 1
      have y2 := cells_frozen hR 2
      have y3 := cells_frozen hR 3
      have y4 := cells_frozen hR 4
      rw [frT_end] at hT
      have hfr : ∀ a, Live (countedD m) a → (vk a).ownBlock ≠ some w.heap.size := hT.src w.heap.size (by simp) (nilV_own _) (HK.out.own.lt (Nat.le_refl _))
      have HF : Hid (DTo w wr B D m val nilV (countedD m) vk) := DTo.first ((Below.refl _ _).alloc (Nat.le_refl _) _) hB hT (fun p e => by cases e)
      clear hT HC hls
      go_wp2_with fail
      have hn : w.heap.size ≤ w.heap.size := Nat.le_refl _
      refine bodyPost_ret (v := .tuple #[.agg #[.int .i64 m.guest, .slice ra rn rc, .slice (some ⟨g, 0, none⟩) m.slots.length sc, .slice (some ⟨q, 0, none⟩) m.slots.length m.slots.length, .slice na nn nc], .int .i64 0]) (by simp [results, Try.results68, go_sem, z0, z1, z2, z3, z4]) rfl ⟨vk, ?_, ((((HF.out.setNew hB hn D1 hfr).setNew hB hn D1 hfr).setNew hB hn D1 hfr).setNew hB hn D1 hfr).setNew hB hn D1 hfr⟩
      unfold imgV
      rw [v0, v1, v2, v3]

set_option maxHeartbeats 4000000 in
theorem settled_err (m : ImgD) (E : Int) (ra : Option Addr) (rn rc : Nat) (sa : Option Addr) (sn sc : Nat) (fa : Option Addr) (fn fc : Nat) (na : Option Addr) (nn nc : Nat) (B D : Nat) (val : Nm → Value) (w : World) (hK : DK w B D val m) (e0 : val .root = .slice ra rn rc) (e1 : val .slots = .slice sa sn sc) (e2 : val .refs = .slice fa fn fc) (e3 : val .snaps = .slice na nn nc) (hE : shapeE m = E) (hne : (E != 0) = true) :
    Calls Try.prog 68 #[.pointer (some ⟨D, 0, none⟩)] w fun r w' => r = .returned (.tuple #[.agg #[.int .i64 0, nilV, nilV, nilV, nilV], .int .i64 E]) ∧ Below w.heap.size w w' := by
  have hDlt := hK.lt
  have hK1 : DK (w.alloc (.cells #[.int .i64 0, .slice none 0 0, .slice none 0 0, .slice none 0 0, .slice none 0 0] 26)) B D val m := hK.alloc _
  obtain ⟨d0, d1, d2, d3, d4⟩ := hK1.five
  rw [e0] at d1
  rw [e1] at d2
  rw [e2] at d3
  rw [e3] at d4
  have hcall := counts_err hK1.own.img hE hne
  unfold imgV at hcall
  rw [e0, e1, e2, e3] at hcall
  have mR : (w.alloc (.cells #[.int .i64 0, .slice none 0 0, .slice none 0 0, .slice none 0 0, .slice none 0 0] 26)).heap[w.heap.size]? = some (.cells #[.int .i64 0, .slice none 0 0, .slice none 0 0, .slice none 0 0, .slice none 0 0] 26) := World.alloc_heap_new _ _
  have b0 : Below w.heap.size w (w.alloc (.cells #[.int .i64 0, .slice none 0 0, .slice none 0 0, .slice none 0 0, .slice none 0 0] 26)) := (Below.refl _ _).alloc (Nat.le_refl _) _
  clear hE
  go_enter Try.func68, Try.ntmps68
  go_wp2_with (go_at_call 40; refine hcall.mono ?_; rintro e w2 ⟨rfl, hb2⟩; have hR := cells_below mR hb2 (by simp); obtain ⟨z0, z1, z2, z3, z4⟩ := five hR; have y0 := cells_frozen hR 0; have y1 := cells_frozen hR 1; have y2 := cells_frozen hR 2; have y3 := cells_frozen hR 3; have y4 := cells_frozen hR 4)
  have hb := Below.on b0 hb2
  have hn : w.heap.size ≤ w.heap.size := Nat.le_refl _
  refine bodyPost_ret (v := .tuple #[.agg #[.int .i64 0, nilV, nilV, nilV, nilV], .int .i64 E]) (by simp [results, Try.results68, go_sem, z0, z1, z2, z3, z4]) rfl ⟨rfl, ((((hb.setCell hn _).setCell hn _).setCell hn _).setCell hn _).setCell hn _⟩
theorem settled_bad {m : ImgD} {E : Int} {B D : Nat} {val : Nm → Value} {w : World} (hK : DK w B D val m) (hE : shapeE m = E) (hne : E ≠ 0) :
    Calls Try.prog 68 #[.pointer (some ⟨D, 0, none⟩)] w fun r w' => r = .returned (.tuple #[.agg #[.int .i64 0, nilV, nilV, nilV, nilV], .int .i64 E]) ∧ Below w.heap.size w w' := by
  obtain ⟨ra, rc, e0, _⟩ := hK.own.forms .root (Live.root m)
  obtain ⟨sa, sc, e1, _⟩ := hK.own.forms .slots (Live.slots m)
  obtain ⟨fa, fc, e2, _⟩ := hK.own.forms .refs (Live.refs m)
  obtain ⟨na, nc, e3, _⟩ := hK.own.forms .snaps (Live.snaps m)
  exact settled_err m E ra _ rc sa _ sc fa _ fc na _ nc B D val w hK e0 e1 e2 e3 hE (by simpa using hne)
theorem settled_ok {m : ImgD} {B D : Nat} {val : Nm → Value} {w : World} (hK : DK w B D val m) (hB : B ≤ w.heap.size) (hE : shapeE m = 0) :
    Calls Try.prog 68 #[.pointer (some ⟨D, 0, none⟩)] w fun r w' => ∃ val', r = .returned (.tuple #[imgV m.guest val', .int .i64 0]) ∧ DTo w w' B D m val nilV (countedD m) val' := by
  have h1s : 1 ≤ m.slots.length := (slotsE_parts (shapeE_zero hE).2.1).1
  obtain ⟨ra, rc, e0, _⟩ := hK.own.forms .root (Live.root m)
  obtain ⟨sa, sc, e1, hs⟩ := hK.own.forms .slots (Live.slots m)
  obtain ⟨fa, fc, e2, _⟩ := hK.own.forms .refs (Live.refs m)
  obtain ⟨na, nc, e3, _⟩ := hK.own.forms .snaps (Live.snaps m)
  obtain ⟨g, rfl⟩ := hs (by show 0 < m.slots.length; omega)
  exact settled_at m ra _ rc g sc fa _ fc na _ nc B D val w hK e0 e1 e2 e3 hB hE
end Go.Proofs.Ytehleeibgkpjmad
/- Contracts of slices.Clone: a list of one's own. -/
namespace Go.Proofs.Ytehleeibgkpjmad
open Go.RowKit Go.Shelf
set_option maxRecDepth 20000

theorem ints_mem {xs : List Int} : ∀ u ∈ ints xs, u.oneCell' = true := ints_oneCell .i64 xs
theorem sl_form1 {W : World} {v : Value} {xs : List Int} (h : Sl W v xs) : v.oneCell' = true := by obtain ⟨ao, cap, rfl, _⟩ := h; rfl
theorem flatS_mem {L : List SlotD} {tv : Nat → Value} (h : ∀ j, j < L.length → (tv j).oneCell' = true) : ∀ u ∈ flatS L tv, u.oneCell' = true := fun u hu => by
  unfold flatS at hu
  rw [List.mem_flatMap] at hu
  obtain ⟨j, hj, hu⟩ := hu
  rw [List.mem_range] at hj
  simp only [List.mem_cons, List.not_mem_nil, or_false] at hu
  rcases hu with rfl | rfl | rfl
  · rfl
  · rfl
  · exact h j hj
theorem flatN_mem {L : List SnapD} {tv : Nat → Value} (h : ∀ j, j < L.length → (tv j).oneCell' = true) : ∀ u ∈ flatN L tv, u.oneCell' = true := fun u hu => by
  unfold flatN at hu
  rw [List.mem_flatMap] at hu
  obtain ⟨j, hj, hu⟩ := hu
  rw [List.mem_range] at hj
  simp only [List.mem_cons, List.not_mem_nil, or_false] at hu
  rcases hu with rfl | rfl | rfl
  · rfl
  · rfl
  · exact h j hj
def room : Nat := 140737488355328
theorem room_is : room = 140737488355328 := rfl
theorem maxLen_of_room {n b : Nat} (hb : 0 < b) (h : n * b ≤ room) : n ≤ maxLen := by
  have := Nat.le_trans (Nat.le_mul_of_pos_right n hb) h
  rw [room_is] at this
  unfold maxLen
  omega

theorem clnI_nil (n c : Nat) (w : World) : Calls Try.prog 53 #[.slice none n c] w fun r w' => r = .returned (.slice none 0 0) ∧ w' = w := by
  have q22 : ∀ (w : World) (a : Option Addr) (n c n' c' : Nat), (binOp .eql 22 (.slice a n c) (.slice none n' c')).run Try.prog w = .ok (.bool a.isNone) w := fun w a n c n' c' => Lib.run_eql_slice_nil w _ _ a n c n' c' Try.underlying22
  go_enter Try.func53, Try.ntmps53
  go_wp2
  go_ret
  exact ⟨rfl, rfl⟩
set_option maxHeartbeats 1000000 in
theorem clnI_at (a : Addr) (n c : Nat) (news : List Value) (w : World) (hl : news.length = n * 1) (hbig : n * 8 ≤ room) (hc : ∀ j u, news[j]? = some u → w.cell? (a.add j) = some u) (h1 : ∀ u ∈ news, u.oneCell' = true) :
    Calls Try.prog 53 #[.slice (some a) n c] w fun r w' => ∃ v', r = .returned v' ∧ w'.ownsRow w.heap.size 3 1 v' n news ∧ Below w.heap.size w w' := by
  have q22 : ∀ (w : World) (a : Option Addr) (n c n' c' : Nat), (binOp .eql 22 (.slice a n c) (.slice none n' c')).run Try.prog w = .ok (.bool a.isNone) w := fun w a n c n' c' => Lib.run_eql_slice_nil w _ _ a n c n' c' Try.underlying22
  obtain ⟨i0, hi, hz0, hz1, hz2⟩ := info_parts info3
  have A : Hid ((∀ j u, news[j]? = some u → w.cell? (a.add j) = some u) ∧ news.length = n * 1 ∧ n * 8 ≤ room ∧ (∀ u ∈ news, u.oneCell' = true) ∧ Try.prog.info? 3 = some i0 ∧ i0.zero = some (.int .i64 0) ∧ i0.size = 1 ∧ i0.bytes = 8) := ⟨hc, hl, hbig, h1, hi, hz0, hz1, hz2⟩
  clear hc hl hbig h1 hi hz0 hz1 hz2
  go_enter Try.func53, Try.ntmps53
  go_wp2_with (at_builtin; refine wpList_append_own _ rfl _ _ 22 rfl w.heap.size 3 i0 (.int .i64 0) 1 8 Try.underlying22 A.out.2.2.2.2.1 A.out.2.2.2.2.2.1 A.out.2.2.2.2.2.2.1 A.out.2.2.2.2.2.2.2 rfl (by decide) _ _ _ rfl (World.ownsRow_made w #[] 0 (Nat.le_refl _) (Nat.zero_le _) (by simp)) a n c news rfl A.out.2.1 ?qc2 A.out.2.2.2.1 ?qc4 ?qc5 ?qc6 ?_)
  case qc2 =>
    intro j u hj
    exact Lib.cell?_alloc_some _ (A.out.1 j u hj)
  case qc4 => rw [Nat.zero_add]; exact maxLen_of_room (by decide) A.out.2.2.1
  case qc5 => rw [Nat.zero_add]; exact A.out.2.2.1
  case qc6 => simp
  intro v' w1 hown hgrow hnil
  have HO : Hid (w1.ownsRow w.heap.size 3 1 v' n news) := hown
  have HG : Hid (Below w.heap.size w w1) := ((Below.refl _ w).alloc (Nat.le_refl _) _).grown hgrow (by simp) (by intro k hk; simp [Value.ownBlock] at hk; omega)
  clear hown hgrow hnil
  go_wp2
  go_ret
  exact ⟨v', rfl, HO.out, HG.out⟩
theorem clone_ints {w : World} {v : Value} {xs : List Int} (h : Sl w v xs) (hb : xs.length * 8 ≤ room) :
    Calls Try.prog 53 #[v] w fun r w' => ∃ v', r = .returned v' ∧ w'.ownsRow w.heap.size 3 1 v' xs.length (ints xs) ∧ Below w.heap.size w w' := by
  obtain ⟨ao, cap, rfl, hm, hcp, hc⟩ := h
  cases ao with
  | none =>
    have hx : xs = [] := Classical.byContradiction fun hne => by obtain ⟨_, _, e, _⟩ := hc hne; cases e
    subst hx
    refine (clnI_nil _ _ w).mono ?_
    rintro e w' ⟨rfl, rfl⟩
    exact ⟨_, rfl, World.ownsRow_nil _ _ _ _, Below.refl _ _⟩
  | some a =>
    refine clnI_at a xs.length cap (ints xs) w (by rw [ints_length]; omega) hb (fun j u hu => ?_) ints_mem
    have hj : j < xs.length := by
      rcases Nat.lt_or_ge j xs.length with h | h
      · exact h
      · rw [List.getElem?_eq_none (by rw [ints_length]; exact h)] at hu; cases hu
    obtain ⟨b, off, e, _, hcell⟩ := hc (by intro e; rw [e] at hj; simp at hj)
    simp only [Option.some.injEq] at e
    subst e
    rw [addr_add, hcell j hj]
    unfold ints at hu
    rw [List.getElem?_map, List.getElem?_eq_getElem hj] at hu
    simp at hu
    simp [List.getD, hj, hu]
abbrev nilS : Value := .slice none 0 0
theorem choose_ltV {p : Nat → Value → Prop} {n : Nat} (h : ∀ i, i < n → ∃ s, p i s) : ∃ f : Nat → Value, ∀ i, i < n → p i (f i) :=
  ⟨fun i => if hi : i < n then (h i hi).choose else .slice none 0 0, fun i hi => by simp only [dif_pos hi]; exact (h i hi).choose_spec⟩

theorem clnS_nil (n c : Nat) (w : World) : Calls Try.prog 96 #[.slice none n c] w fun r w' => r = .returned (.slice none 0 0) ∧ w' = w := by
  have q22 : ∀ (w : World) (a : Option Addr) (n c n' c' : Nat), (binOp .eql 23 (.slice a n c) (.slice none n' c')).run Try.prog w = .ok (.bool a.isNone) w := fun w a n c n' c' => Lib.run_eql_slice_nil w _ _ a n c n' c' Try.underlying23
  go_enter Try.func96, Try.ntmps96
  go_wp2
  go_ret
  exact ⟨rfl, rfl⟩
set_option maxHeartbeats 1000000 in
theorem clnS_at (a : Addr) (n c : Nat) (news : List Value) (w : World) (hl : news.length = n * 3) (hbig : n * 48 ≤ room) (hc : ∀ j u, news[j]? = some u → w.cell? (a.add j) = some u) (h1 : ∀ u ∈ news, u.oneCell' = true) :
    Calls Try.prog 96 #[.slice (some a) n c] w fun r w' => ∃ v', r = .returned v' ∧ w'.ownsRow w.heap.size 52 3 v' n news ∧ Below w.heap.size w w' := by
  have q22 : ∀ (w : World) (a : Option Addr) (n c n' c' : Nat), (binOp .eql 23 (.slice a n c) (.slice none n' c')).run Try.prog w = .ok (.bool a.isNone) w := fun w a n c n' c' => Lib.run_eql_slice_nil w _ _ a n c n' c' Try.underlying23
  obtain ⟨i0, hi, hz0, hz1, hz2⟩ := info_parts infoSlot
  have A : Hid ((∀ j u, news[j]? = some u → w.cell? (a.add j) = some u) ∧ news.length = n * 3 ∧ n * 48 ≤ room ∧ (∀ u ∈ news, u.oneCell' = true) ∧ Try.prog.info? 52 = some i0 ∧ i0.zero = some (.agg #[.int .i64 0, .string ByteArray.empty, .slice none 0 0]) ∧ i0.size = 3 ∧ i0.bytes = 48) := ⟨hc, hl, hbig, h1, hi, hz0, hz1, hz2⟩
  clear hc hl hbig h1 hi hz0 hz1 hz2
  go_enter Try.func96, Try.ntmps96
  go_wp2_with (at_builtin; refine wpList_append_own _ rfl _ _ 23 rfl w.heap.size 52 i0 (.agg #[.int .i64 0, .string ByteArray.empty, .slice none 0 0]) 3 48 Try.underlying23 A.out.2.2.2.2.1 A.out.2.2.2.2.2.1 A.out.2.2.2.2.2.2.1 A.out.2.2.2.2.2.2.2 rfl (by decide) _ _ _ rfl (World.ownsRow_made w #[] 0 (Nat.le_refl _) (Nat.zero_le _) (by simp)) a n c news rfl A.out.2.1 ?qc2 A.out.2.2.2.1 ?qc4 ?qc5 ?qc6 ?_)
  case qc2 =>
    intro j u hj
    exact Lib.cell?_alloc_some _ (A.out.1 j u hj)
  case qc4 => rw [Nat.zero_add]; exact maxLen_of_room (by decide) A.out.2.2.1
  case qc5 => rw [Nat.zero_add]; exact A.out.2.2.1
  case qc6 => simp
  intro v' w1 hown hgrow hnil
  have HO : Hid (w1.ownsRow w.heap.size 52 3 v' n news) := hown
  have HG : Hid (Below w.heap.size w w1) := ((Below.refl _ w).alloc (Nat.le_refl _) _).grown hgrow (by simp) (by intro k hk; simp [Value.ownBlock] at hk; omega)
  clear hown hgrow hnil
  go_wp2
  go_ret
  exact ⟨v', rfl, HO.out, HG.out⟩
theorem clone_slots {w : World} {v : Value} {L : List SlotD} (h : Slots w v L) (hb : L.length * 48 ≤ room) :
    ∃ tv : Nat → Value, (∀ j, j < L.length → Sl w (tv j) (L.getD j default).2.2) ∧ ∀ W, Below w.heap.size w W → Calls Try.prog 96 #[v] W fun r w' => ∃ v', r = .returned v' ∧ w'.ownsRow W.heap.size 52 3 v' L.length (flatS L tv) ∧ Below W.heap.size W w' := by
  obtain ⟨ao, cap, rfl, hm, hcp, hc⟩ := h
  cases ao with
  | none =>
    have hx : L = [] := Classical.byContradiction fun hne => by obtain ⟨_, _, e, _⟩ := hc hne; cases e
    subst hx
    refine ⟨fun _ => nilS, fun j hj => absurd hj (Nat.not_lt_zero _), fun W _ => (clnS_nil _ _ W).mono ?_⟩
    rintro e w' ⟨rfl, rfl⟩
    exact ⟨_, rfl, World.ownsRow_nil _ _ _ _, Below.refl _ _⟩
  | some a =>
    have hx : ∀ j, j < L.length → ∃ tv, Sl w tv (L.getD j default).2.2 ∧ ∀ W, Below w.heap.size w W → W.cell? (a.add (j * 3)) = some (.int .i64 (L.getD j default).1) ∧ W.cell? (a.add (j * 3 + 1)) = some (.string (L.getD j default).2.1) ∧ W.cell? (a.add (j * 3 + 2)) = some tv := fun j hj => by
      obtain ⟨b, off, e, hlt, hcell⟩ := hc (by intro e; rw [e] at hj; simp at hj)
      simp only [Option.some.injEq] at e
      subst e
      obtain ⟨tv, c1, c2, c3, hs⟩ := hcell j hj
      have eg : L[j] = L.getD j default := by simp [List.getD, hj]
      rw [eg] at c1 c2 hs
      exact ⟨tv, hs, fun W hW => ⟨by rw [addr_add]; exact (hW.cell (p := ⟨b, off + j * 3, none⟩) hlt).trans c1, by rw [addr_add]; exact (hW.cell (p := ⟨b, off + j * 3 + 1, none⟩) hlt).trans c2, by rw [addr_add]; exact (hW.cell (p := ⟨b, off + j * 3 + 1 + 1, none⟩) hlt).trans c3⟩⟩
    obtain ⟨tv, htv⟩ := choose_ltV hx
    refine ⟨tv, fun j hj => (htv j hj).1, fun W hW => clnS_at a L.length cap (flatS L tv) W (flatS_length L tv) hb (fun i u hu => ?_) (flatS_mem (fun j hj => sl_form1 (htv j hj).1))⟩
    have hi : i < L.length * 3 := by
      rcases Nat.lt_or_ge i (L.length * 3) with h | h
      · exact h
      · rw [List.getElem?_eq_none (by rw [flatS_length]; exact h)] at hu; cases hu
    obtain ⟨j, r, hj, hr, rfl⟩ : ∃ j r, j < L.length ∧ r < 3 ∧ i = j * 3 + r := ⟨i / 3, i % 3, by omega, Nat.mod_lt _ (by decide), by omega⟩
    obtain ⟨g0, g1, g2⟩ := flatS_get (tv := tv) hj
    obtain ⟨c0, c1, c2⟩ := (htv j hj).2 W hW
    match r, hr with
    | 0, _ => rw [Nat.add_zero] at hu ⊢; rw [g0] at hu; cases hu; exact c0
    | 1, _ => rw [g1] at hu; cases hu; exact c1
    | 2, _ => rw [g2] at hu; cases hu; exact c2

theorem clnN_nil (n c : Nat) (w : World) : Calls Try.prog 97 #[.slice none n c] w fun r w' => r = .returned (.slice none 0 0) ∧ w' = w := by
  have q22 : ∀ (w : World) (a : Option Addr) (n c n' c' : Nat), (binOp .eql 24 (.slice a n c) (.slice none n' c')).run Try.prog w = .ok (.bool a.isNone) w := fun w a n c n' c' => Lib.run_eql_slice_nil w _ _ a n c n' c' Try.underlying24
  go_enter Try.func97, Try.ntmps97
  go_wp2
  go_ret
  exact ⟨rfl, rfl⟩
set_option maxHeartbeats 1000000 in
theorem clnN_at (a : Addr) (n c : Nat) (news : List Value) (w : World) (hl : news.length = n * 3) (hbig : n * 48 ≤ room) (hc : ∀ j u, news[j]? = some u → w.cell? (a.add j) = some u) (h1 : ∀ u ∈ news, u.oneCell' = true) :
    Calls Try.prog 97 #[.slice (some a) n c] w fun r w' => ∃ v', r = .returned v' ∧ w'.ownsRow w.heap.size 72 3 v' n news ∧ Below w.heap.size w w' := by
  have q22 : ∀ (w : World) (a : Option Addr) (n c n' c' : Nat), (binOp .eql 24 (.slice a n c) (.slice none n' c')).run Try.prog w = .ok (.bool a.isNone) w := fun w a n c n' c' => Lib.run_eql_slice_nil w _ _ a n c n' c' Try.underlying24
  obtain ⟨i0, hi, hz0, hz1, hz2⟩ := info_parts infoSnap
  have A : Hid ((∀ j u, news[j]? = some u → w.cell? (a.add j) = some u) ∧ news.length = n * 3 ∧ n * 48 ≤ room ∧ (∀ u ∈ news, u.oneCell' = true) ∧ Try.prog.info? 72 = some i0 ∧ i0.zero = some (.agg #[.string ByteArray.empty, .int .i64 0, .slice none 0 0]) ∧ i0.size = 3 ∧ i0.bytes = 48) := ⟨hc, hl, hbig, h1, hi, hz0, hz1, hz2⟩
  clear hc hl hbig h1 hi hz0 hz1 hz2
  go_enter Try.func97, Try.ntmps97
  go_wp2_with (at_builtin; refine wpList_append_own _ rfl _ _ 24 rfl w.heap.size 72 i0 (.agg #[.string ByteArray.empty, .int .i64 0, .slice none 0 0]) 3 48 Try.underlying24 A.out.2.2.2.2.1 A.out.2.2.2.2.2.1 A.out.2.2.2.2.2.2.1 A.out.2.2.2.2.2.2.2 rfl (by decide) _ _ _ rfl (World.ownsRow_made w #[] 0 (Nat.le_refl _) (Nat.zero_le _) (by simp)) a n c news rfl A.out.2.1 ?qc2 A.out.2.2.2.1 ?qc4 ?qc5 ?qc6 ?_)
  case qc2 =>
    intro j u hj
    exact Lib.cell?_alloc_some _ (A.out.1 j u hj)
  case qc4 => rw [Nat.zero_add]; exact maxLen_of_room (by decide) A.out.2.2.1
  case qc5 => rw [Nat.zero_add]; exact A.out.2.2.1
  case qc6 => simp
  intro v' w1 hown hgrow hnil
  have HO : Hid (w1.ownsRow w.heap.size 72 3 v' n news) := hown
  have HG : Hid (Below w.heap.size w w1) := ((Below.refl _ w).alloc (Nat.le_refl _) _).grown hgrow (by simp) (by intro k hk; simp [Value.ownBlock] at hk; omega)
  clear hown hgrow hnil
  go_wp2
  go_ret
  exact ⟨v', rfl, HO.out, HG.out⟩
theorem clone_snaps {w : World} {v : Value} {L : List SnapD} (h : Snaps w v L) (hb : L.length * 48 ≤ room) :
    ∃ tv : Nat → Value, (∀ j, j < L.length → Sl w (tv j) (L.getD j default).2.2) ∧ ∀ W, Below w.heap.size w W → Calls Try.prog 97 #[v] W fun r w' => ∃ v', r = .returned v' ∧ w'.ownsRow W.heap.size 72 3 v' L.length (flatN L tv) ∧ Below W.heap.size W w' := by
  obtain ⟨ao, cap, rfl, hm, hcp, hc⟩ := h
  cases ao with
  | none =>
    have hx : L = [] := Classical.byContradiction fun hne => by obtain ⟨_, _, e, _⟩ := hc hne; cases e
    subst hx
    refine ⟨fun _ => nilS, fun j hj => absurd hj (Nat.not_lt_zero _), fun W _ => (clnN_nil _ _ W).mono ?_⟩
    rintro e w' ⟨rfl, rfl⟩
    exact ⟨_, rfl, World.ownsRow_nil _ _ _ _, Below.refl _ _⟩
  | some a =>
    have hx : ∀ j, j < L.length → ∃ tv, Sl w tv (L.getD j default).2.2 ∧ ∀ W, Below w.heap.size w W → W.cell? (a.add (j * 3)) = some (.string (L.getD j default).1) ∧ W.cell? (a.add (j * 3 + 1)) = some (.int .i64 (L.getD j default).2.1) ∧ W.cell? (a.add (j * 3 + 2)) = some tv := fun j hj => by
      obtain ⟨b, off, e, hlt, hcell⟩ := hc (by intro e; rw [e] at hj; simp at hj)
      simp only [Option.some.injEq] at e
      subst e
      obtain ⟨tv, c1, c2, c3, hs⟩ := hcell j hj
      have eg : L[j] = L.getD j default := by simp [List.getD, hj]
      rw [eg] at c1 c2 hs
      exact ⟨tv, hs, fun W hW => ⟨by rw [addr_add]; exact (hW.cell (p := ⟨b, off + j * 3, none⟩) hlt).trans c1, by rw [addr_add]; exact (hW.cell (p := ⟨b, off + j * 3 + 1, none⟩) hlt).trans c2, by rw [addr_add]; exact (hW.cell (p := ⟨b, off + j * 3 + 1 + 1, none⟩) hlt).trans c3⟩⟩
    obtain ⟨tv, htv⟩ := choose_ltV hx
    refine ⟨tv, fun j hj => (htv j hj).1, fun W hW => clnN_at a L.length cap (flatN L tv) W (flatN_length L tv) hb (fun i u hu => ?_) (flatN_mem (fun j hj => sl_form1 (htv j hj).1))⟩
    have hi : i < L.length * 3 := by
      rcases Nat.lt_or_ge i (L.length * 3) with h | h
      · exact h
      · rw [List.getElem?_eq_none (by rw [flatN_length]; exact h)] at hu; cases hu
    obtain ⟨j, r, hj, hr, rfl⟩ : ∃ j r, j < L.length ∧ r < 3 ∧ i = j * 3 + r := ⟨i / 3, i % 3, by omega, Nat.mod_lt _ (by decide), by omega⟩
    obtain ⟨g0, g1, g2⟩ := flatN_get (qv := tv) hj
    obtain ⟨c0, c1, c2⟩ := (htv j hj).2 W hW
    match r, hr with
    | 0, _ => rw [Nat.add_zero] at hu ⊢; rw [g0] at hu; cases hu; exact c0
    | 1, _ => rw [g1] at hu; cases hu; exact c1
    | 2, _ => rw [g2] at hu; cases hu; exact c2
theorem row_slice {W : World} {B : Nat} {e : TypeId} {size n : Nat} {v : Value} {xs : List Value} (h : W.ownsRow B e size v n xs) : ∃ ao cap, v = .slice ao n cap := by
  rcases row_form h with ⟨rfl, rfl⟩ | ⟨g, cap, rfl, _⟩
  · exact ⟨none, 0, rfl⟩
  · exact ⟨_, cap, rfl⟩
end Go.Proofs.Ytehleeibgkpjmad
