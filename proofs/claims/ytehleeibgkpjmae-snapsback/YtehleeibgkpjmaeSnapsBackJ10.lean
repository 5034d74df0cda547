/- Texts joined: WrX, WrV, SCheck, WrY, WrW, WrU, Cut, WrE, WrZ, WrRz, WrB, WrC0, SnB, PChk, PgPlain, Shelf, PgZero, RdA, RdP, RBegun, RdB, RdC, FlFirst, PgSplit, FlOps, RWalk. -/
import Derived.Test.YtehleeibgkpjmaeSnapsBackJ9
import Derived.Test.YtehleeibgkpjmaeSnapsBackJ7
import Derived.Test.YtehleeibgkpjmaeSnapsBackJ3
import Derived.Deep.RegionWith
import Derived.Test.YtehleeibgkpjmaeSnapsBackJ8
import Derived.BigQuiet
import Derived.Laws.CopyRow
import Derived.Laws.IdiomCopy
import Derived.Test.YtehleeibgkpjmaeSnapsBackJ6
import Derived.Test.YtehleeibgkpjmaeRows
import Derived.WalkLawsBesides
import Derived.Deep.QuietTactic
import Derived.Lib.Strings
import Derived.Lib.Join
import Derived.Lib.Repeat
import Derived.Shelf.Strings.Builder1
import Derived.Shelf.Strings.Builder2
import Derived.Shelf.Small.Strs
import Derived.Shelf.Strings.BuilderF
import Derived.Shelf.Strings.Prefix
import Derived.Shelf.Bits.Mul64
import Derived.Shelf.Strings.Repeat
import Derived.Test.YtehleeibgkpjmaeProg
import Derived.Test.YtehleeibgkpjmaeSnapsBackJ1
import Derived.Deep.AppendLies
import Derived.Laws.CopyOwn
import Derived.Deep.OwnRows
/- Contracts of writing: Write's closure, in place; joined. -/
namespace Go.Proofs.Ytehleeibgkpjmae
open Go.RowKit Go.Shelf
set_option maxRecDepth 20000
set_option linter.unusedSimpArgs false
set_option linter.unusedVariables false

theorem DTo.drew_first {B D : Nat} {W w1 : World} {m m1 : ImgD} {val val1 : Nm → Value} {ev : Value} (h : DTo W.drew w1 B D m val ev m1 val1) : DTo W w1 B D m val ev m1 val1 := ⟨h.dk, ⟨h.bel.os, h.bel.tape, h.bel.output, h.bel.size, h.bel.block⟩, h.keep, h.src⟩
theorem DK.drewN {W : World} {B D : Nat} {val : Nm → Value} {m : ImgD} (h : DK W B D val m) (q : Nat) : DK (W.drewN q) B D val m := h.below (below_drewN (Below.refl _ _) q)

set_option maxHeartbeats 4000000 in
theorem wcore_D (bk bn bs n j t B D : Nat) (page : ByteArray) (W : World) (m : ImgD) (val : Nm → Value) (hK : DK W B D val m) (hck : W.cell? ⟨bk, 0, none⟩ = some (.int .i64 (j : Int))) (hcn : W.cell? ⟨bn, 0, none⟩ = some (.int .i64 (n : Int))) (s0 : W.cell? ⟨bs, 0, none⟩ = some (.int .i64 1)) (s1 : W.cell? ⟨bs, 1, none⟩ = some (.string page)) (s2 : W.cell? ⟨bs, 2, none⟩ = some (.slice none 0 0)) (ls : bs < B) (lk : bk < B) (h16 : n < 16) (hr : n / 4 < m.root.length) (ht : m.root.getD (n / 4) 0 = (t : Int)) (htl : t < m.slots.length) (hrl : m.refs.length = m.slots.length) (hrt : m.refs.getD t 0 = 1) (hj1 : 1 ≤ j) (hjl : j < m.slots.length) (hrj : m.refs.getD j 0 = 1) :
    Calls Try.prog 48 #[.pointer (some ⟨D, 0, none⟩), .pointer (some ⟨bk, 0, none⟩), .pointer (some ⟨bn, 0, none⟩), .pointer (some ⟨bs, 0, none⟩)] W (fun r W' => ∃ val', r = .returned (.tuple #[]) ∧ DTo W W' B D m val nilV { m with slots := m.slots.set j (1, page, []) } val') := by
  obtain ⟨g, cap, e, c, _⟩ := hK.rootAt hr
  rw [ht] at c
  have d1 := hK.root5 e
  obtain ⟨fg, fc, e2, c2, _⟩ := hK.refsAt (r := j) (by omega)
  obtain ⟨fg', fc', e2', c3, _⟩ := hK.refsAt (r := t) (by omega)
  rw [e2] at e2'
  simp only [Value.slice.injEq, Option.some.injEq, Addr.mk.injEq, and_true, true_and] at e2'
  obtain ⟨rfl, rfl⟩ := e2'
  rw [hrj] at c2
  rw [hrt] at c3
  rw [hrl] at e2
  have d3 := hK.refs5 e2
  obtain ⟨sg, sc, e3, t0, t1, t2, sf, hsB, hsl, hsD, _⟩ := hK.slotAt hjl
  have d2 := hK.slots5 e3
  have f0 := sf (j * 3)
  have f1 := sf (j * 3 + 1)
  have f2 := sf (j * 3 + 2)
  have hq : ((n : Int) / 4).toNat = n / 4 := by omega
  have g1 : decide (0 < j) = true := by simp; omega
  have g2 : 0 < j := by omega
  have g3 : (j : Int) < (m.slots.length : Int) := by omega
  have g7 : (n : Int) / 4 < (m.root.length : Int) := by omega
  have g8 : (t : Int) < (m.slots.length : Int) := by omega
  have nDS : ¬ D = sg := fun x => hsD x.symm
  have nSD : ¬ sg = D := hsD
  have nbS : ¬ bs = sg := by omega
  have nSb : ¬ sg = bs := by omega
  have nkS : ¬ bk = sg := by omega
  have nSk : ¬ sg = bk := by omega
  have HF : Hid (∀ q, DTo W ((((W.drewN q).drew.setCell ⟨sg, j * 3, none⟩ (.int .i64 1)).setCell ⟨sg, j * 3 + 1, none⟩ (.string page)).setCell ⟨sg, j * 3 + 2, none⟩ (.slice none 0 0)) B D m val nilV { m with slots := m.slots.set j (1, page, []) } (upd val (.tab j) nilV)) := fun q => DTo.drewN_first (DTo.drew_first ((DTo.refl ((hK.drewN q).drew) nilV).setSlot hjl e3 1 page [] (World.ownsRow_nil _ _ _ _) (fun b hb _ q hq => (by cases hq)) (by intro x; cases x) (fun q x => (by cases x))))
  have k2 := (five (cells_other (cells_other (cells_other hK.box nDS (j * 3) (.int .i64 1)) nDS (j * 3 + 1) (.string page)) nDS (j * 3 + 2) (.slice none 0 0))).2.2.1
  rw [e3] at k2
  have hcS : ∀ i v, W.cell? ⟨bs, i, none⟩ = some v → (((W.setCell ⟨sg, j * 3, none⟩ (.int .i64 1)).setCell ⟨sg, j * 3 + 1, none⟩ (.string page)).setCell ⟨sg, j * 3 + 2, none⟩ (.slice none 0 0)).cell? ⟨bs, i, none⟩ = some v := fun i v hv => by
    rw [World.cell?_setCell_far _ _ _ _ nSb, World.cell?_setCell_far _ _ _ _ nSb, World.cell?_setCell_far _ _ _ _ nSb]; exact hv
  have hcK : ∀ i v, bk < B → W.cell? ⟨bk, i, none⟩ = some v → (((W.setCell ⟨sg, j * 3, none⟩ (.int .i64 1)).setCell ⟨sg, j * 3 + 1, none⟩ (.string page)).setCell ⟨sg, j * 3 + 2, none⟩ (.slice none 0 0)).cell? ⟨bk, i, none⟩ = some v := fun i v hb hv => by
    have nSk : ¬ sg = bk := by omega
    rw [World.cell?_setCell_far _ _ _ _ nSk, World.cell?_setCell_far _ _ _ _ nSk, World.cell?_setCell_far _ _ _ _ nSk]; exact hv
  have KK := Hid_mkW (And.intro k2 (And.intro (hcS _ _ s0) (And.intro (hcS _ _ s1) (And.intro (hcS _ _ s2) (hcK _ _ lk hck)))))
  clear hcS hcK k2 hK ht hrt hrj hrl e e2 e3 sf
  go_enter Try.func48, Try.ntmps48
  try go_wp2_with fail
  go_quiet (fail)
  go_wp2_with fail
  go_region_held3 (fun X => X.cell? ⟨D, 0 + 1 + 1, none⟩ = some (.slice (some ⟨sg, 0, none⟩) m.slots.length sc) ∧ X.cell? ⟨bs, 0, none⟩ = some (.int .i64 1) ∧ X.cell? ⟨bs, 0 + 1, none⟩ = some (.string page) ∧ X.cell? ⟨bs, 0 + 1 + 1, none⟩ = some (.slice none 0 0) ∧ X.cell? ⟨bk, 0, none⟩ = some (.int .i64 (j : Int))) (first | exact ⟨d2, s0, s1, s2, hck⟩ | exact KK.out) (fail)
  go_wp2_with fail
  refine bodyPost_ret (results_none rfl _ _ _) rfl ?_
  exact ⟨_, rfl, HF.out _⟩

theorem write_turn {w : World} {m : ImgD} {n bk bn bs : Nat} {k : Int} {page : ByteArray} (ck : w.cell? ⟨bk, 0, none⟩ = some (.int .i64 k)) (cn : w.cell? ⟨bn, 0, none⟩ = some (.int .i64 (n : Int))) (s0 : w.cell? ⟨bs, 0, none⟩ = some (.int .i64 1)) (s1 : w.cell? ⟨bs, 1, none⟩ = some (.string page)) (s2 : w.cell? ⟨bs, 2, none⟩ = some (.slice none 0 0)) (lk : bk < w.heap.size) (ln : bn < w.heap.size) (ls : bs < w.heap.size) (hC : checkE m = 0) (hn : (n : Int) < m.guest) (hk : lookV m m.root n = k) : Turns w 48 #[.pointer (some ⟨bk, 0, none⟩), .pointer (some ⟨bn, 0, none⟩), .pointer (some ⟨bs, 0, none⟩)] m (wrP m n page) := by
  intro W D B val hb h1' h2 hK
  have ck := (hb.cell (p := ⟨bk, 0, none⟩) lk).trans ck
  have cn := (hb.cell (p := ⟨bn, 0, none⟩) ln).trans cn
  have s0 := (hb.cell (p := ⟨bs, 0, none⟩) ls).trans s0
  have s1 := (hb.cell (p := ⟨bs, 1, none⟩) ls).trans s1
  have s2 := (hb.cell (p := ⟨bs, 2, none⟩) ls).trans s2
  show Calls Try.prog 48 #[.pointer (some ⟨D, 0, none⟩), .pointer (some ⟨bk, 0, none⟩), .pointer (some ⟨bn, 0, none⟩), .pointer (some ⟨bs, 0, none⟩)] W _
  have hs := checkE_shape hC
  have hg := guest_ok hs
  have hro := root_ok hs
  have hrl := (shapeE_zero hs).2.2.1
  have hr : n / 4 < m.root.length := by omega
  have h16 : n < 16 := by omega
  obtain ⟨t, ht, htl⟩ := root_nat hs hr
  have hts := tableO_ok hs hr
  have HS : Hid (∀ X, Below B W X → (fun X : World => X.cell? ⟨bn, 0, none⟩ = some (.int .i64 (n : Int)) ∧ X.cell? ⟨bs, 0, none⟩ = some (.int .i64 1) ∧ X.cell? ⟨bs, 0 + 1, none⟩ = some (.string page) ∧ X.cell? ⟨bs, 0 + 1 + 1, none⟩ = some (.slice none 0 0)) X) := fun X hX => ⟨(hX.cell (p := ⟨bn, 0, none⟩) (Nat.lt_of_lt_of_le ln h1')).trans cn, (hX.cell (p := ⟨bs, 0, none⟩) (Nat.lt_of_lt_of_le ls h1')).trans s0, (hX.cell (p := ⟨bs, 1, none⟩) (Nat.lt_of_lt_of_le ls h1')).trans s1, (hX.cell (p := ⟨bs, 2, none⟩) (Nat.lt_of_lt_of_le ls h1')).trans s2⟩
  have HP1 : ∀ q, Calls Try.prog 49 #[.pointer (some ⟨D, 0, none⟩), .int .i64 (n : Int), .int .i64 (-1)] (W.drewN q) (Tells (W.drewN q) B D m val nilV (wr1 m n)) := fun q => put_is (hK.drewN q) h2 h16 hr ht htl (.inr (shapeE_zero hs).2.1) hrl hts.1 (by decide)
  unfold wrP
  by_cases hw : wInPl m n = true
  · rw [if_pos hw]
    unfold wInPl inPl at hw
    rw [hk, ht] at hw
    simp only [Bool.and_eq_true, decide_eq_true_eq, bne_iff_ne, ne_eq, beq_iff_eq, Int.toNat_natCast] at hw
    obtain ⟨a1, ⟨a2, a3⟩, a4⟩ := hw
    rcases lookV_ent hs hro.2 n hr with h | h | ⟨j, hj, j1, jl, _⟩
    · rw [hk] at h; omega
    · rw [hk] at h; omega
    · have ekj : k = (j : Int) := hk.symm.trans hj
      subst ekj
      rw [Int.toNat_natCast] at a4
      rw [hk, Int.toNat_natCast]
      exact wcore_D bk bn bs n j t B D page W m val hK ck cn s0 s1 s2 (by omega) (by omega) h16 hr ht htl hrl a3 j1 jl a4
  · rw [if_neg hw]
    have hgd : (¬ 0 < k) ∨ (∃ (j fg fc : Nat) (x : Int), k = (j : Int) ∧ 0 < j ∧ j < m.slots.length ∧ W.cell? ⟨D, 3, none⟩ = some (.slice (some ⟨fg, 0, none⟩) m.slots.length fc) ∧ W.cell? ⟨fg, j, none⟩ = some (.int .i64 x) ∧ (x == 1) = false) ∨ (∃ (j g cap fg fc : Nat) (y : Int), k = (j : Int) ∧ 0 < j ∧ j < m.slots.length ∧ W.cell? ⟨D, 3, none⟩ = some (.slice (some ⟨fg, 0, none⟩) m.slots.length fc) ∧ W.cell? ⟨fg, j, none⟩ = some (.int .i64 1) ∧ W.cell? ⟨D, 1, none⟩ = some (.slice (some ⟨g, 0, none⟩) m.root.length cap) ∧ W.cell? ⟨g, n / 4, none⟩ = some (.int .i64 (t : Int)) ∧ W.cell? ⟨fg, t, none⟩ = some (.int .i64 y) ∧ (y == 1) = false) := by
      by_cases h0 : 0 < k
      · right
        rcases lookV_ent hs hro.2 n hr with h | h | ⟨j, hj, j1, jl, _⟩
        · rw [hk] at h; omega
        · rw [hk] at h; omega
        · have ekj : k = (j : Int) := hk.symm.trans hj
          obtain ⟨fg, fc, e2, c2, _⟩ := hK.refsAt (r := j) (by omega)
          have d3 := hK.refs5 e2
          rw [hrl] at d3
          cases hx : m.refs.getD j 0 == 1 with
          | false => exact .inl ⟨j, fg, fc, _, ekj, by omega, jl, d3, c2, hx⟩
          | true =>
            obtain ⟨fg', fc', e2', c3, _⟩ := hK.refsAt (r := t) (by omega)
            rw [e2] at e2'
            simp only [Value.slice.injEq, Option.some.injEq, Addr.mk.injEq, and_true, true_and] at e2'
            obtain ⟨rfl, rfl⟩ := e2'
            obtain ⟨g, cap, e, c, _⟩ := hK.rootAt hr
            rw [ht] at c
            have hx1 : m.refs.getD j 0 = 1 := by simpa using hx
            rw [hx1] at c2
            refine .inr ⟨j, g, cap, fg, fc, _, ekj, by omega, jl, d3, c2, hK.root5 e, c, c3, ?_⟩
            cases hy : m.refs.getD t 0 == 1 with
            | false => rfl
            | true =>
              refine absurd ?_ hw
              have ht0 : ¬ (t : Int) = 0 := fun x => by
                have hk' := hk
                unfold lookV at hk'
                rw [ht, if_pos x] at hk'
                omega
              unfold wInPl inPl
              rw [hj, ht, Int.toNat_natCast, Int.toNat_natCast, hx, hy]
              simp
              omega
      · exact .inl h0
    cases h1 : wr1 m n with
    | none =>
      rcases hgd with g | ⟨j, fg, fc, x, rfl, j1, jl, d3, c2, g5⟩ | ⟨j, g, cap, fg, fc, y, rfl, j1, jl, d3, c2, d1, c, c3, g5⟩
      · exact wcore_A_n1 bk bn bs n 0 B D k page W m m m m val (by simp; omega) g ck cn HS (fun q => by have := HP1 q; rw [h1] at this; exact this)
      · exact wcore_B_n1 bk bn bs n 0 B D 0 page W m m m m val j fg fc m.slots.length x (by simp; omega) j1 (by omega) jl d3 c2 g5 ck cn HS (fun q => by have := HP1 q; rw [h1] at this; exact this)
      · exact wcore_C_n1 bk bn bs n 0 B D 0 page W m m m m val j t g cap m.root.length fg fc m.slots.length y (by simp; omega) j1 (by omega) jl d3 c2 d1 h16 hr (by omega) (by omega) c (by omega) htl c3 g5 ck cn HS (fun q => by have := HP1 q; rw [h1] at this; exact this)
    | some m1 =>
      dsimp only
      have hsh := lay_shape hC hn (.inr rfl) h1
      have hs1 := (shapeE_zero hsh).2.1
      have hrl1 := (shapeE_zero hsh).2.2.1
      by_cases hg40 : grabN m1.slots = 40
      · rw [if_pos hg40]
        have HTN : Hid (∀ (w1 : World) (val1 : Nm → Value), DK w1 B D val1 m1 → Below B W w1 → Calls Try.prog 50 #[.pointer (some ⟨D, 0, none⟩), .agg #[.int .i64 1, .string page, .slice none 0 0]] w1 (fun r w2 => r = .panicked noSlotP ∧ Below B W w2)) := fun w1 val1 hk1 hb1 => (take_none (es := []) hk1 hs1 hg40 (World.ownsRow_nil _ _ _ _)).mono (fun e w2 h => ⟨h.1, hb1.trans (h.2.mono (Nat.le_trans h2 hb1.size))⟩)
        rcases hgd with g | ⟨j, fg, fc, x, rfl, j1, jl, d3, c2, g5⟩ | ⟨j, g, cap, fg, fc, y, rfl, j1, jl, d3, c2, d1, c, c3, g5⟩
        · exact wcore_A_n2 bk bn bs n 0 B D k page W m m1 m m val (by simp; omega) g ck cn HS (fun q => by have := HP1 q; rw [h1] at this; exact this) HTN
        · exact wcore_B_n2 bk bn bs n 0 B D 0 page W m m1 m m val j fg fc m.slots.length x (by simp; omega) j1 (by omega) jl d3 c2 g5 ck cn HS (fun q => by have := HP1 q; rw [h1] at this; exact this) HTN
        · exact wcore_C_n2 bk bn bs n 0 B D 0 page W m m1 m m val j t g cap m.root.length fg fc m.slots.length y (by simp; omega) j1 (by omega) jl d3 c2 d1 h16 hr (by omega) (by omega) c (by omega) htl c3 g5 ck cn HS (fun q => by have := HP1 q; rw [h1] at this; exact this) HTN
      · rw [if_neg hg40]
        obtain ⟨t2, ht2, htl2, hip, hrl2, hr2, hck2, hE2⟩ := wr2_facts hC hn h1 hg40 page
        have HTK : Hid (∀ (w1 : World) (val1 : Nm → Value), DK w1 B D val1 m1 → Below B W w1 → Calls Try.prog 50 #[.pointer (some ⟨D, 0, none⟩), .agg #[.int .i64 1, .string page, .slice none 0 0]] w1 (fun r w2 => r = .returned (.int .i64 (grabN m1.slots : Int)) ∧ ∃ val2, DTo w1 w2 B D m1 val1 nilV (takeD m1 (1, page, [])) val2)) := fun w1 val1 hk1 hb1 => (take_ok (es := []) hk1 (Nat.le_trans h2 hb1.size) hs1 hrl1 rfl hg40 (World.ownsRow_nil _ _ _ _) (fun a ha q hq => by cases hq) (by intro x; cases x)).mono (fun e w2 h => by obtain ⟨a, val2, hT, _⟩ := h; exact ⟨a, val2, hT⟩)
        have HP2 : ∀ (w2 : World) (val2 : Nm → Value), DK w2 B D val2 (takeD m1 (1, page, [])) → Below B W w2 → Calls Try.prog 49 #[.pointer (some ⟨D, 0, none⟩), .int .i64 (n : Int), .int .i64 (grabN m1.slots : Int)] w2 (Tells w2 B D (takeD m1 (1, page, [])) val2 nilV (layP (takeD m1 (1, page, [])) (n / 4) ((tableO (takeD m1 (1, page, [])) (n / 4)).set (n % 4) (grabN m1.slots : Int)))) := fun w2 val2 hk2 hb2 => put_is hk2 (Nat.le_trans h2 hb2.size) h16 hr2 ht2 htl2 (.inl hip) hrl2 hck2 hE2
        cases ho : layP (takeD m1 (1, page, [])) (n / 4) ((tableO (takeD m1 (1, page, [])) (n / 4)).set (n % 4) (grabN m1.slots : Int)) with
        | none =>
          rcases hgd with g | ⟨j, fg, fc, x, rfl, j1, jl, d3, c2, g5⟩ | ⟨j, g, cap, fg, fc, y, rfl, j1, jl, d3, c2, d1, c, c3, g5⟩
          · exact wcore_A_n3 bk bn bs n (grabN m1.slots) B D k page W m m1 (takeD m1 (1, page, [])) m val (by simp; omega) g ck cn HS (fun q => by have := HP1 q; rw [h1] at this; exact this) HTK (fun w2 val2 hk2 hb2 => by have := HP2 w2 val2 hk2 hb2; rw [ho] at this; exact this)
          · exact wcore_B_n3 bk bn bs n (grabN m1.slots) B D 0 page W m m1 (takeD m1 (1, page, [])) m val j fg fc m.slots.length x (by simp; omega) j1 (by omega) jl d3 c2 g5 ck cn HS (fun q => by have := HP1 q; rw [h1] at this; exact this) HTK (fun w2 val2 hk2 hb2 => by have := HP2 w2 val2 hk2 hb2; rw [ho] at this; exact this)
          · exact wcore_C_n3 bk bn bs n (grabN m1.slots) B D 0 page W m m1 (takeD m1 (1, page, [])) m val j t g cap m.root.length fg fc m.slots.length y (by simp; omega) j1 (by omega) jl d3 c2 d1 h16 hr (by omega) (by omega) c (by omega) htl c3 g5 ck cn HS (fun q => by have := HP1 q; rw [h1] at this; exact this) HTK (fun w2 val2 hk2 hb2 => by have := HP2 w2 val2 hk2 hb2; rw [ho] at this; exact this)
        | some M =>
          rcases hgd with g | ⟨j, fg, fc, x, rfl, j1, jl, d3, c2, g5⟩ | ⟨j, g, cap, fg, fc, y, rfl, j1, jl, d3, c2, d1, c, c3, g5⟩
          · exact wcore_A_ok bk bn bs n (grabN m1.slots) B D k page W m m1 (takeD m1 (1, page, [])) M val (by simp; omega) g ck cn HS (fun q => by have := HP1 q; rw [h1] at this; exact this) HTK (fun w2 val2 hk2 hb2 => by have := HP2 w2 val2 hk2 hb2; rw [ho] at this; exact this)
          · exact wcore_B_ok bk bn bs n (grabN m1.slots) B D 0 page W m m1 (takeD m1 (1, page, [])) M val j fg fc m.slots.length x (by simp; omega) j1 (by omega) jl d3 c2 g5 ck cn HS (fun q => by have := HP1 q; rw [h1] at this; exact this) HTK (fun w2 val2 hk2 hb2 => by have := HP2 w2 val2 hk2 hb2; rw [ho] at this; exact this)
          · exact wcore_C_ok bk bn bs n (grabN m1.slots) B D 0 page W m m1 (takeD m1 (1, page, [])) M val j t g cap m.root.length fg fc m.slots.length y (by simp; omega) j1 (by omega) jl d3 c2 d1 h16 hr (by omega) (by omega) c (by omega) htl c3 g5 ck cn HS (fun q => by have := HP1 q; rw [h1] at this; exact this) HTK (fun w2 val2 hk2 hb2 => by have := HP2 w2 val2 hk2 hb2; rw [ho] at this; exact this)

end Go.Proofs.Ytehleeibgkpjmae
/- Contracts of writing: vacate, Wipe, Punch. -/
namespace Go.Proofs.Ytehleeibgkpjmae
open Go.RowKit Go.Shelf
set_option maxRecDepth 20000

theorem lookE_prt {m : ImgD} {n : Int} (h : lookE m n = 0) : checkE m = 0 ∧ 0 ≤ n ∧ n < m.guest := by
  unfold lookE at h
  by_cases h0 : checkE m = 0
  · rw [if_neg (by simp [h0])] at h
    by_cases h1 : 0 ≤ n ∧ n < m.guest
    · exact ⟨h0, h1.1, h1.2⟩
    · rw [if_neg h1] at h; cases h
  · rw [if_pos h0] at h; exact absurd h h0
theorem one {W : World} {B : Nat} {a0 : Value} {t : TypeId} (h : W.heap[B]? = some (.cells #[a0] t)) : W.cell? ⟨B, 0, none⟩ = some a0 := by simp [World.cell?, h]

end Go.Proofs.Ytehleeibgkpjmae
/- Contract of slots.Check. -/
namespace Go.Proofs.Ytehleeibgkpjmae
open Go.RowKit
set_option maxRecDepth 20000

def slotE (k : Int) (d : ByteArray) (xs : List Int) : Int := if slotOK k d xs = true then 0 else 1

theorem below_of_drew {w w1 : World} {o : Obj} (h : Below (w.alloc o).drew.heap.size (w.alloc o).drew w1) : Below (w.heap.size + 1) (w.alloc o) w1 :=
  ⟨h.os, h.tape, h.output, h.size, fun k hk => h.block k (by simp; exact hk)⟩
theorem box_cells {w w1 : World} {x y z : Value} {T : TypeId} (h : Below (w.heap.size + 1) (w.alloc (.cells #[x, y, z] T)) w1) :
    w1.cell? ⟨w.heap.size, 0, none⟩ = some x ∧ w1.cell? ⟨w.heap.size, 1, none⟩ = some y ∧ w1.cell? ⟨w.heap.size, 2, none⟩ = some z := by
  refine ⟨(h.cell (p := ⟨w.heap.size, 0, none⟩) (by simp)).trans ?_, (h.cell (p := ⟨w.heap.size, 1, none⟩) (by simp)).trans ?_, (h.cell (p := ⟨w.heap.size, 2, none⟩) (by simp)).trans ?_⟩ <;> rw [World.cell?_alloc_at _ _ _ _ rfl] <;> rfl
theorem rules_at (w : World) (N : Nat) (hN : w.heap.size = N) : Calls Try.prog 74 #[] w fun r w' => r = .returned (.map (some N)) ∧ Hid (w'.heap[N]? = some (.map RULES 3)) ∧ Below w.heap.size w w' := by
  subst hN
  exact (rules_any w).mono fun e w' h => ⟨h.1, h.2.1, h.2.2.1⟩

set_option maxHeartbeats 1000000 in
theorem scheck_at (k : Int) (d : ByteArray) (ta : Option Addr) (tn tc : Nat) (xs : List Int) (w : World) (h : Sl w (.slice ta tn tc) xs) :
    Calls Try.prog 47 #[.agg #[.int .i64 k, .string d, .slice ta tn tc]] w fun r w' => r = .returned (.int .i64 (slotE k d xs)) ∧ Below w.heap.size w w' := by
  have hs := h.past (.cells #[.int .i64 k, .string d, .slice ta tn tc] 72)
  have b0 : Below w.heap.size w (w.alloc (.cells #[.int .i64 k, .string d, .slice ta tn tc] 72)) := (Below.refl _ _).alloc (Nat.le_refl _) _
  cases hE : slotOK k d xs with
  | true =>
    have HE : Hid (slotE k d xs = 0) := by show _ = _; unfold slotE; rw [if_pos hE]
    go_enter Try.func47, Try.ntmps47
    go_wp2
    go_region_with (first | (go_at_call 74; refine (rules_at _ (w.heap.size + 1) (by simp)).mono ?_; rintro e w1 ⟨rfl, HR, b1⟩; have b1 : Below (w.heap.size + 1) (w.alloc (.cells #[.int .i64 k, .string d, .slice ta tn tc] 72)) w1 := (below_of_drew b1); obtain ⟨c1, c2, c3⟩ := box_cells b1) | (go_at_call 75; refine (isRight_any _ 3 k d _ xs _ ?_ ?_).mono ?_; (first | exact HR.out | skip); (first | exact hs.below (by simpa using b1) | skip); rintro e w2 ⟨rfl, b2⟩))
    all_goals
      go_wp2
      go_ret
      exact ⟨ret_int HE.out.symm, Below.on (b0.trans (b1.mono (Nat.le_succ _))) b2⟩
  | false =>
    have HE : Hid (slotE k d xs = 1) := by show _ = _; unfold slotE; rw [if_neg (by simp [hE])]
    go_enter Try.func47, Try.ntmps47
    go_wp2
    go_region_with (first | (go_at_call 74; refine (rules_at _ (w.heap.size + 1) (by simp)).mono ?_; rintro e w1 ⟨rfl, HR, b1⟩; have b1 : Below (w.heap.size + 1) (w.alloc (.cells #[.int .i64 k, .string d, .slice ta tn tc] 72)) w1 := (below_of_drew b1); obtain ⟨c1, c2, c3⟩ := box_cells b1) | (go_at_call 75; refine (isRight_any _ 3 k d _ xs _ ?_ ?_).mono ?_; (first | exact HR.out | skip); (first | exact hs.below (by simpa using b1) | skip); rintro e w2 ⟨rfl, b2⟩))
    all_goals
      go_wp2
      go_ret
      exact ⟨ret_int HE.out.symm, Below.on (b0.trans (b1.mono (Nat.le_succ _))) b2⟩

theorem scheck_any (k : Int) (d : ByteArray) (tv : Value) (xs : List Int) (w : World) (h : Sl w tv xs) :
    Calls Try.prog 47 #[.agg #[.int .i64 k, .string d, tv]] w fun r w' => r = .returned (.int .i64 (slotE k d xs)) ∧ Below w.heap.size w w' := by
  obtain ⟨ao, cap, rfl⟩ := h.form
  exact scheck_at k d ao _ cap xs w h
theorem scheck_is {k : Int} {d : ByteArray} {tv : Value} {xs : List Int} {w : World} (h : Sl w tv xs) {c : Int} (hc : slotE k d xs = c) :
    Calls Try.prog 47 #[.agg #[.int .i64 k, .string d, tv]] w fun r w' => r = .returned (.int .i64 c) ∧ Below w.heap.size w w' := by subst hc; exact scheck_any k d tv xs w h
end Go.Proofs.Ytehleeibgkpjmae
/- Contracts of writing: Write. -/
namespace Go.Proofs.Ytehleeibgkpjmae
open Go.RowKit Go.Shelf
set_option maxRecDepth 20000
set_option linter.unusedVariables false

theorem slot_page {page : ByteArray} (h : page.size = 4) : slotE 1 page [] = 0 := by
  unfold slotE slotOK
  simp [h]
theorem slot_nopage {page : ByteArray} (h : page.size ≠ 4) : slotE 1 page [] = 1 := by
  unfold slotE slotOK
  simp [h]

set_option maxHeartbeats 4000000 in
theorem write_bad_at (m : ImgD) (ra : Option Addr) (rn rc : Nat) (sa : Option Addr) (sn sc : Nat) (fa : Option Addr) (fn fc : Nat) (na : Option Addr) (nn nc : Nat) (n E : Int) (page : ByteArray) (w : World) (h : Img w (.agg #[.int .i64 m.guest, .slice ra rn rc, .slice sa sn sc, .slice fa fn fc, .slice na nn nc]) m) (hl : lookE m n = E) (hE : (E != 0) = true) :
    Calls Try.prog 17 #[.agg #[.int .i64 m.guest, .slice ra rn rc, .slice sa sn sc, .slice fa fn fc, .slice na nn nc], .int .i64 n, .string page] w (AnsI w w.heap.size imgZ E) := by
  have b0 : Below w.heap.size w (((w.alloc (.cells #[.int .i64 m.guest, .slice ra rn rc, .slice sa sn sc, .slice fa fn fc, .slice na nn nc] 26)).alloc (.cells #[.int .i64 n] 3)).alloc (.cells #[.int .i64 0, .slice none 0 0, .slice none 0 0, .slice none 0 0, .slice none 0 0] 26)) := (((Below.refl _ _).alloc (by simp; try omega) _).alloc (by simp; try omega) _).alloc (by simp; try omega) _
  have q0 : (w.alloc (.cells #[.int .i64 m.guest, .slice ra rn rc, .slice sa sn sc, .slice fa fn fc, .slice na nn nc] 26)).heap[w.heap.size]? = some (.cells #[.int .i64 m.guest, .slice ra rn rc, .slice sa sn sc, .slice fa fn fc, .slice na nn nc] 26) := by have := World.alloc_heap_new w (.cells #[.int .i64 m.guest, .slice ra rn rc, .slice sa sn sc, .slice fa fn fc, .slice na nn nc] 26); simpa using this
  have m0 : (((w.alloc (.cells #[.int .i64 m.guest, .slice ra rn rc, .slice sa sn sc, .slice fa fn fc, .slice na nn nc] 26)).alloc (.cells #[.int .i64 n] 3)).alloc (.cells #[.int .i64 0, .slice none 0 0, .slice none 0 0, .slice none 0 0, .slice none 0 0] 26)).heap[w.heap.size]? = some (.cells #[.int .i64 m.guest, .slice ra rn rc, .slice sa sn sc, .slice fa fn fc, .slice na nn nc] 26) := (cells_alloc (cells_alloc q0 _) _)
  have q1 : ((w.alloc (.cells #[.int .i64 m.guest, .slice ra rn rc, .slice sa sn sc, .slice fa fn fc, .slice na nn nc] 26)).alloc (.cells #[.int .i64 n] 3)).heap[w.heap.size + 1]? = some (.cells #[.int .i64 n] 3) := by have := World.alloc_heap_new (w.alloc (.cells #[.int .i64 m.guest, .slice ra rn rc, .slice sa sn sc, .slice fa fn fc, .slice na nn nc] 26)) (.cells #[.int .i64 n] 3); simpa using this
  have m1 : (((w.alloc (.cells #[.int .i64 m.guest, .slice ra rn rc, .slice sa sn sc, .slice fa fn fc, .slice na nn nc] 26)).alloc (.cells #[.int .i64 n] 3)).alloc (.cells #[.int .i64 0, .slice none 0 0, .slice none 0 0, .slice none 0 0, .slice none 0 0] 26)).heap[w.heap.size + 1]? = some (.cells #[.int .i64 n] 3) := (cells_alloc q1 _)
  have q2 : (((w.alloc (.cells #[.int .i64 m.guest, .slice ra rn rc, .slice sa sn sc, .slice fa fn fc, .slice na nn nc] 26)).alloc (.cells #[.int .i64 n] 3)).alloc (.cells #[.int .i64 0, .slice none 0 0, .slice none 0 0, .slice none 0 0, .slice none 0 0] 26)).heap[w.heap.size + 1 + 1]? = some (.cells #[.int .i64 0, .slice none 0 0, .slice none 0 0, .slice none 0 0, .slice none 0 0] 26) := by have := World.alloc_heap_new ((w.alloc (.cells #[.int .i64 m.guest, .slice ra rn rc, .slice sa sn sc, .slice fa fn fc, .slice na nn nc] 26)).alloc (.cells #[.int .i64 n] 3)) (.cells #[.int .i64 0, .slice none 0 0, .slice none 0 0, .slice none 0 0, .slice none 0 0] 26); simpa using this
  have m2 : (((w.alloc (.cells #[.int .i64 m.guest, .slice ra rn rc, .slice sa sn sc, .slice fa fn fc, .slice na nn nc] 26)).alloc (.cells #[.int .i64 n] 3)).alloc (.cells #[.int .i64 0, .slice none 0 0, .slice none 0 0, .slice none 0 0, .slice none 0 0] 26)).heap[w.heap.size + 1 + 1]? = some (.cells #[.int .i64 0, .slice none 0 0, .slice none 0 0, .slice none 0 0, .slice none 0 0] 26) := q2
  have hz : (((w.alloc (.cells #[.int .i64 m.guest, .slice ra rn rc, .slice sa sn sc, .slice fa fn fc, .slice na nn nc] 26)).alloc (.cells #[.int .i64 n] 3)).alloc (.cells #[.int .i64 0, .slice none 0 0, .slice none 0 0, .slice none 0 0, .slice none 0 0] 26)).heap.size = w.heap.size + 1 + 1 + 1 := by simp
  clear q0 q1 q2
  have hE0 : ¬ E = 0 := by simpa using hE
  have hlook := look_is (h.below b0) n hl (if_neg hE0)
  obtain ⟨c0, c1, c2, c3, c4⟩ := five m0
  have cn := one m1
  have HM : Hid ((((w.alloc (.cells #[.int .i64 m.guest, .slice ra rn rc, .slice sa sn sc, .slice fa fn fc, .slice na nn nc] 26)).alloc (.cells #[.int .i64 n] 3)).alloc (.cells #[.int .i64 0, .slice none 0 0, .slice none 0 0, .slice none 0 0, .slice none 0 0] 26)).heap[w.heap.size + 1 + 1]? = some (.cells #[.int .i64 0, .slice none 0 0, .slice none 0 0, .slice none 0 0, .slice none 0 0] 26) ∧ Below w.heap.size w (((w.alloc (.cells #[.int .i64 m.guest, .slice ra rn rc, .slice sa sn sc, .slice fa fn fc, .slice na nn nc] 26)).alloc (.cells #[.int .i64 n] 3)).alloc (.cells #[.int .i64 0, .slice none 0 0, .slice none 0 0, .slice none 0 0, .slice none 0 0] 26)) ∧ (((w.alloc (.cells #[.int .i64 m.guest, .slice ra rn rc, .slice sa sn sc, .slice fa fn fc, .slice na nn nc] 26)).alloc (.cells #[.int .i64 n] 3)).alloc (.cells #[.int .i64 0, .slice none 0 0, .slice none 0 0, .slice none 0 0, .slice none 0 0] 26)).heap.size = w.heap.size + 1 + 1 + 1) := ⟨m2, b0, hz⟩
  clear h m0 m1 m2 hz hl b0
  go_enter Try.func17, Try.ntmps17
  go_wp2_with (go_at_call 46; refine hlook.mono ?_; rintro e w1 ⟨rfl, b1⟩; have k3 := cells_alloc (cells_below HM.out.1 b1 (by rw [HM.out.2.2]; omega)) (.cells #[.int .i64 0] 3); obtain ⟨z0, z1, z2, z3, z4⟩ := five k3; have y0 := cells_frozen k3 0; have y1 := cells_frozen k3 1; have y2 := cells_frozen k3 2; have y3 := cells_frozen k3 3; have y4 := cells_frozen k3 4; have hsz : w.heap.size + 1 + 1 + 1 ≤ w1.heap.size := (by have := b1.size; rw [HM.out.2.2] at this; exact this); have HB : Hid (Below w.heap.size w (w1.alloc (.cells #[.int .i64 0] 3))) := (Below.on HM.out.2.1 b1).alloc (by omega) _; clear b1 k3)
  have i1 : w.heap.size ≤ w.heap.size + 1 + 1 := by omega
  refine bodyPost_ret (v := .tuple #[.agg #[.int .i64 0, .slice none 0 0, .slice none 0 0, .slice none 0 0, .slice none 0 0], .int .i64 E]) (by simp [results, Try.results17, go_sem, z0, z1, z2, z3, z4]) rfl (AnsI.bad E (((((HB.out.setCell i1 _).setCell i1 _).setCell i1 _).setCell i1 _).setCell i1 _))

set_option maxHeartbeats 4000000 in
theorem write_form_at (m : ImgD) (ra : Option Addr) (rn rc : Nat) (sa : Option Addr) (sn sc : Nat) (fa : Option Addr) (fn fc : Nat) (na : Option Addr) (nn nc : Nat) (n : Nat) (page : ByteArray) (w : World) (h : Img w (.agg #[.int .i64 m.guest, .slice ra rn rc, .slice sa sn sc, .slice fa fn fc, .slice na nn nc]) m) (hl : lookE m (n : Int) = 0) (hp : page.size ≠ 4) (k : Int) (hk : lookV m m.root n = k) :
    Calls Try.prog 17 #[.agg #[.int .i64 m.guest, .slice ra rn rc, .slice sa sn sc, .slice fa fn fc, .slice na nn nc], .int .i64 (n : Int), .string page] w (AnsI w w.heap.size imgZ 1) := by
  have b0 : Below w.heap.size w (((w.alloc (.cells #[.int .i64 m.guest, .slice ra rn rc, .slice sa sn sc, .slice fa fn fc, .slice na nn nc] 26)).alloc (.cells #[.int .i64 (n : Int)] 3)).alloc (.cells #[.int .i64 0, .slice none 0 0, .slice none 0 0, .slice none 0 0, .slice none 0 0] 26)) := (((Below.refl _ _).alloc (by simp; try omega) _).alloc (by simp; try omega) _).alloc (by simp; try omega) _
  have q0 : (w.alloc (.cells #[.int .i64 m.guest, .slice ra rn rc, .slice sa sn sc, .slice fa fn fc, .slice na nn nc] 26)).heap[w.heap.size]? = some (.cells #[.int .i64 m.guest, .slice ra rn rc, .slice sa sn sc, .slice fa fn fc, .slice na nn nc] 26) := by have := World.alloc_heap_new w (.cells #[.int .i64 m.guest, .slice ra rn rc, .slice sa sn sc, .slice fa fn fc, .slice na nn nc] 26); simpa using this
  have m0 : (((w.alloc (.cells #[.int .i64 m.guest, .slice ra rn rc, .slice sa sn sc, .slice fa fn fc, .slice na nn nc] 26)).alloc (.cells #[.int .i64 (n : Int)] 3)).alloc (.cells #[.int .i64 0, .slice none 0 0, .slice none 0 0, .slice none 0 0, .slice none 0 0] 26)).heap[w.heap.size]? = some (.cells #[.int .i64 m.guest, .slice ra rn rc, .slice sa sn sc, .slice fa fn fc, .slice na nn nc] 26) := (cells_alloc (cells_alloc q0 _) _)
  have q1 : ((w.alloc (.cells #[.int .i64 m.guest, .slice ra rn rc, .slice sa sn sc, .slice fa fn fc, .slice na nn nc] 26)).alloc (.cells #[.int .i64 (n : Int)] 3)).heap[w.heap.size + 1]? = some (.cells #[.int .i64 (n : Int)] 3) := by have := World.alloc_heap_new (w.alloc (.cells #[.int .i64 m.guest, .slice ra rn rc, .slice sa sn sc, .slice fa fn fc, .slice na nn nc] 26)) (.cells #[.int .i64 (n : Int)] 3); simpa using this
  have m1 : (((w.alloc (.cells #[.int .i64 m.guest, .slice ra rn rc, .slice sa sn sc, .slice fa fn fc, .slice na nn nc] 26)).alloc (.cells #[.int .i64 (n : Int)] 3)).alloc (.cells #[.int .i64 0, .slice none 0 0, .slice none 0 0, .slice none 0 0, .slice none 0 0] 26)).heap[w.heap.size + 1]? = some (.cells #[.int .i64 (n : Int)] 3) := (cells_alloc q1 _)
  have q2 : (((w.alloc (.cells #[.int .i64 m.guest, .slice ra rn rc, .slice sa sn sc, .slice fa fn fc, .slice na nn nc] 26)).alloc (.cells #[.int .i64 (n : Int)] 3)).alloc (.cells #[.int .i64 0, .slice none 0 0, .slice none 0 0, .slice none 0 0, .slice none 0 0] 26)).heap[w.heap.size + 1 + 1]? = some (.cells #[.int .i64 0, .slice none 0 0, .slice none 0 0, .slice none 0 0, .slice none 0 0] 26) := by have := World.alloc_heap_new ((w.alloc (.cells #[.int .i64 m.guest, .slice ra rn rc, .slice sa sn sc, .slice fa fn fc, .slice na nn nc] 26)).alloc (.cells #[.int .i64 (n : Int)] 3)) (.cells #[.int .i64 0, .slice none 0 0, .slice none 0 0, .slice none 0 0, .slice none 0 0] 26); simpa using this
  have m2 : (((w.alloc (.cells #[.int .i64 m.guest, .slice ra rn rc, .slice sa sn sc, .slice fa fn fc, .slice na nn nc] 26)).alloc (.cells #[.int .i64 (n : Int)] 3)).alloc (.cells #[.int .i64 0, .slice none 0 0, .slice none 0 0, .slice none 0 0, .slice none 0 0] 26)).heap[w.heap.size + 1 + 1]? = some (.cells #[.int .i64 0, .slice none 0 0, .slice none 0 0, .slice none 0 0, .slice none 0 0] 26) := q2
  have hz : (((w.alloc (.cells #[.int .i64 m.guest, .slice ra rn rc, .slice sa sn sc, .slice fa fn fc, .slice na nn nc] 26)).alloc (.cells #[.int .i64 (n : Int)] 3)).alloc (.cells #[.int .i64 0, .slice none 0 0, .slice none 0 0, .slice none 0 0, .slice none 0 0] 26)).heap.size = w.heap.size + 1 + 1 + 1 := by simp
  clear q0 q1 q2
  have hlook := look_is (c := k) (h.below b0) (n : Int) hl (by rw [if_pos rfl, Int.toNat_natCast]; exact hk)
  obtain ⟨c0, c1, c2, c3, c4⟩ := five m0
  have cn := one m1
  have HC : Hid (∀ w1 : World, Calls Try.prog 47 #[.agg #[.int .i64 1, .string page, .slice none 0 0]] ((w1.alloc (.cells #[.int .i64 k] 3)).alloc (.cells #[.int .i64 1, .string page, .slice none 0 0] 72)) fun r w' => r = .returned (.int .i64 1) ∧ Below ((w1.alloc (.cells #[.int .i64 k] 3)).alloc (.cells #[.int .i64 1, .string page, .slice none 0 0] 72)).heap.size ((w1.alloc (.cells #[.int .i64 k] 3)).alloc (.cells #[.int .i64 1, .string page, .slice none 0 0] 72)) w') := fun w1 => scheck_is (Sl.nil _) (slot_nopage hp)
  have HM : Hid ((((w.alloc (.cells #[.int .i64 m.guest, .slice ra rn rc, .slice sa sn sc, .slice fa fn fc, .slice na nn nc] 26)).alloc (.cells #[.int .i64 (n : Int)] 3)).alloc (.cells #[.int .i64 0, .slice none 0 0, .slice none 0 0, .slice none 0 0, .slice none 0 0] 26)).heap[w.heap.size + 1 + 1]? = some (.cells #[.int .i64 0, .slice none 0 0, .slice none 0 0, .slice none 0 0, .slice none 0 0] 26) ∧ Below w.heap.size w (((w.alloc (.cells #[.int .i64 m.guest, .slice ra rn rc, .slice sa sn sc, .slice fa fn fc, .slice na nn nc] 26)).alloc (.cells #[.int .i64 (n : Int)] 3)).alloc (.cells #[.int .i64 0, .slice none 0 0, .slice none 0 0, .slice none 0 0, .slice none 0 0] 26)) ∧ (((w.alloc (.cells #[.int .i64 m.guest, .slice ra rn rc, .slice sa sn sc, .slice fa fn fc, .slice na nn nc] 26)).alloc (.cells #[.int .i64 (n : Int)] 3)).alloc (.cells #[.int .i64 0, .slice none 0 0, .slice none 0 0, .slice none 0 0, .slice none 0 0] 26)).heap.size = w.heap.size + 1 + 1 + 1) := ⟨m2, b0, hz⟩
  clear h m0 m1 m2 hz hl b0 hk hp
  go_enter Try.func17, Try.ntmps17
  go_wp2_with (first | (go_at_call 47; refine hck.mono ?_; rintro e w2 ⟨rfl, b2⟩; have k3 := cells_below HW.out.1 b2 HW.out.2.2; obtain ⟨z0, z1, z2, z3, z4⟩ := five k3; have y0 := cells_frozen k3 0; have y1 := cells_frozen k3 1; have y2 := cells_frozen k3 2; have y3 := cells_frozen k3 3; have y4 := cells_frozen k3 4; have HB : Hid (Below w.heap.size w w2) := Below.on HW.out.2.1 b2; clear b2 k3) | (go_at_call 46; refine hlook.mono ?_; rintro e w1 ⟨rfl, b1⟩; have hsz : w.heap.size + 1 + 1 + 1 ≤ w1.heap.size := (by have := b1.size; rw [HM.out.2.2] at this; exact this); have hz1 : ((w1.alloc (.cells #[.int .i64 k] 3)).alloc (.cells #[.int .i64 1, .string page, .slice none 0 0] 72)).heap.size = w1.heap.size + 1 + 1 := (by simp); have HW : Hid (((w1.alloc (.cells #[.int .i64 k] 3)).alloc (.cells #[.int .i64 1, .string page, .slice none 0 0] 72)).heap[w.heap.size + 1 + 1]? = some (.cells #[.int .i64 0, .slice none 0 0, .slice none 0 0, .slice none 0 0, .slice none 0 0] 26) ∧ Below w.heap.size w ((w1.alloc (.cells #[.int .i64 k] 3)).alloc (.cells #[.int .i64 1, .string page, .slice none 0 0] 72)) ∧ w.heap.size + 1 + 1 < ((w1.alloc (.cells #[.int .i64 k] 3)).alloc (.cells #[.int .i64 1, .string page, .slice none 0 0] 72)).heap.size) := (⟨cells_alloc (cells_alloc (cells_below HM.out.1 b1 (by rw [HM.out.2.2]; omega)) _) _, ((Below.on HM.out.2.1 b1).alloc (by omega) _).alloc (by simp; omega) _, by rw [hz1]; omega⟩); have qq : ((w1.alloc (.cells #[.int .i64 k] 3)).alloc (.cells #[.int .i64 1, .string page, .slice none 0 0] 72)).heap[w1.heap.size + 1]? = some (.cells #[.int .i64 1, .string page, .slice none 0 0] 72) := (by have := World.alloc_heap_new (w1.alloc (.cells #[.int .i64 k] 3)) (.cells #[.int .i64 1, .string page, .slice none 0 0] 72); simpa using this); obtain ⟨u0, u1, u2⟩ := three qq; have hck := HC.out w1; clear b1 hz1 hsz qq))
  have i1 : w.heap.size ≤ w.heap.size + 1 + 1 := by omega
  refine bodyPost_ret (v := .tuple #[.agg #[.int .i64 0, .slice none 0 0, .slice none 0 0, .slice none 0 0, .slice none 0 0], .int .i64 1]) (by simp [results, Try.results17, go_sem, z0, z1, z2, z3, z4]) rfl (AnsI.bad 1 (((((HB.out.setCell i1 _).setCell i1 _).setCell i1 _).setCell i1 _).setCell i1 _))

set_option maxHeartbeats 4000000 in
theorem write_ok_at (m : ImgD) (ra : Option Addr) (rn rc : Nat) (sa : Option Addr) (sn sc : Nat) (fa : Option Addr) (fn fc : Nat) (na : Option Addr) (nn nc : Nat) (n : Nat) (page : ByteArray) (w : World) (h : Img w (.agg #[.int .i64 m.guest, .slice ra rn rc, .slice sa sn sc, .slice fa fn fc, .slice na nn nc]) m) (hF : Fits m) (hl : lookE m (n : Int) = 0) (hp : page.size = 4) (k : Int) (hk : lookV m m.root n = k) (M : ImgD) (hM : ofM (wrP m n page) = M) (er : Int) (her : ofE (wrP m n page) = er) :
    Calls Try.prog 17 #[.agg #[.int .i64 m.guest, .slice ra rn rc, .slice sa sn sc, .slice fa fn fc, .slice na nn nc], .int .i64 (n : Int), .string page] w (AnsI w w.heap.size M er) := by
  have b0 : Below w.heap.size w (((w.alloc (.cells #[.int .i64 m.guest, .slice ra rn rc, .slice sa sn sc, .slice fa fn fc, .slice na nn nc] 26)).alloc (.cells #[.int .i64 (n : Int)] 3)).alloc (.cells #[.int .i64 0, .slice none 0 0, .slice none 0 0, .slice none 0 0, .slice none 0 0] 26)) := (((Below.refl _ _).alloc (by simp; try omega) _).alloc (by simp; try omega) _).alloc (by simp; try omega) _
  have q0 : (w.alloc (.cells #[.int .i64 m.guest, .slice ra rn rc, .slice sa sn sc, .slice fa fn fc, .slice na nn nc] 26)).heap[w.heap.size]? = some (.cells #[.int .i64 m.guest, .slice ra rn rc, .slice sa sn sc, .slice fa fn fc, .slice na nn nc] 26) := by have := World.alloc_heap_new w (.cells #[.int .i64 m.guest, .slice ra rn rc, .slice sa sn sc, .slice fa fn fc, .slice na nn nc] 26); simpa using this
  have m0 : (((w.alloc (.cells #[.int .i64 m.guest, .slice ra rn rc, .slice sa sn sc, .slice fa fn fc, .slice na nn nc] 26)).alloc (.cells #[.int .i64 (n : Int)] 3)).alloc (.cells #[.int .i64 0, .slice none 0 0, .slice none 0 0, .slice none 0 0, .slice none 0 0] 26)).heap[w.heap.size]? = some (.cells #[.int .i64 m.guest, .slice ra rn rc, .slice sa sn sc, .slice fa fn fc, .slice na nn nc] 26) := (cells_alloc (cells_alloc q0 _) _)
  have q1 : ((w.alloc (.cells #[.int .i64 m.guest, .slice ra rn rc, .slice sa sn sc, .slice fa fn fc, .slice na nn nc] 26)).alloc (.cells #[.int .i64 (n : Int)] 3)).heap[w.heap.size + 1]? = some (.cells #[.int .i64 (n : Int)] 3) := by have := World.alloc_heap_new (w.alloc (.cells #[.int .i64 m.guest, .slice ra rn rc, .slice sa sn sc, .slice fa fn fc, .slice na nn nc] 26)) (.cells #[.int .i64 (n : Int)] 3); simpa using this
  have m1 : (((w.alloc (.cells #[.int .i64 m.guest, .slice ra rn rc, .slice sa sn sc, .slice fa fn fc, .slice na nn nc] 26)).alloc (.cells #[.int .i64 (n : Int)] 3)).alloc (.cells #[.int .i64 0, .slice none 0 0, .slice none 0 0, .slice none 0 0, .slice none 0 0] 26)).heap[w.heap.size + 1]? = some (.cells #[.int .i64 (n : Int)] 3) := (cells_alloc q1 _)
  have q2 : (((w.alloc (.cells #[.int .i64 m.guest, .slice ra rn rc, .slice sa sn sc, .slice fa fn fc, .slice na nn nc] 26)).alloc (.cells #[.int .i64 (n : Int)] 3)).alloc (.cells #[.int .i64 0, .slice none 0 0, .slice none 0 0, .slice none 0 0, .slice none 0 0] 26)).heap[w.heap.size + 1 + 1]? = some (.cells #[.int .i64 0, .slice none 0 0, .slice none 0 0, .slice none 0 0, .slice none 0 0] 26) := by have := World.alloc_heap_new ((w.alloc (.cells #[.int .i64 m.guest, .slice ra rn rc, .slice sa sn sc, .slice fa fn fc, .slice na nn nc] 26)).alloc (.cells #[.int .i64 (n : Int)] 3)) (.cells #[.int .i64 0, .slice none 0 0, .slice none 0 0, .slice none 0 0, .slice none 0 0] 26); simpa using this
  have m2 : (((w.alloc (.cells #[.int .i64 m.guest, .slice ra rn rc, .slice sa sn sc, .slice fa fn fc, .slice na nn nc] 26)).alloc (.cells #[.int .i64 (n : Int)] 3)).alloc (.cells #[.int .i64 0, .slice none 0 0, .slice none 0 0, .slice none 0 0, .slice none 0 0] 26)).heap[w.heap.size + 1 + 1]? = some (.cells #[.int .i64 0, .slice none 0 0, .slice none 0 0, .slice none 0 0, .slice none 0 0] 26) := q2
  have hz : (((w.alloc (.cells #[.int .i64 m.guest, .slice ra rn rc, .slice sa sn sc, .slice fa fn fc, .slice na nn nc] 26)).alloc (.cells #[.int .i64 (n : Int)] 3)).alloc (.cells #[.int .i64 0, .slice none 0 0, .slice none 0 0, .slice none 0 0, .slice none 0 0] 26)).heap.size = w.heap.size + 1 + 1 + 1 := by simp
  clear q0 q1 q2
  obtain ⟨hC, _, hn⟩ := lookE_prt hl
  have hlook := look_is (c := k) (h.below b0) (n : Int) hl (by rw [if_pos rfl, Int.toNat_natCast]; exact hk)
  obtain ⟨c0, c1, c2, c3, c4⟩ := five m0
  have cn := one m1
  have HC : Hid (∀ w1 : World, Calls Try.prog 47 #[.agg #[.int .i64 1, .string page, .slice none 0 0]] ((w1.alloc (.cells #[.int .i64 k] 3)).alloc (.cells #[.int .i64 1, .string page, .slice none 0 0] 72)) fun r w' => r = .returned (.int .i64 0) ∧ Below ((w1.alloc (.cells #[.int .i64 k] 3)).alloc (.cells #[.int .i64 1, .string page, .slice none 0 0] 72)).heap.size ((w1.alloc (.cells #[.int .i64 k] 3)).alloc (.cells #[.int .i64 1, .string page, .slice none 0 0] 72)) w') := fun w1 => scheck_is (Sl.nil _) (slot_page hp)
  have HO : Hid (∀ w1 w2, Below (((w.alloc (.cells #[.int .i64 m.guest, .slice ra rn rc, .slice sa sn sc, .slice fa fn fc, .slice na nn nc] 26)).alloc (.cells #[.int .i64 (n : Int)] 3)).alloc (.cells #[.int .i64 0, .slice none 0 0, .slice none 0 0, .slice none 0 0, .slice none 0 0] 26)).heap.size (((w.alloc (.cells #[.int .i64 m.guest, .slice ra rn rc, .slice sa sn sc, .slice fa fn fc, .slice na nn nc] 26)).alloc (.cells #[.int .i64 (n : Int)] 3)).alloc (.cells #[.int .i64 0, .slice none 0 0, .slice none 0 0, .slice none 0 0, .slice none 0 0] 26)) w1 → Below ((w1.alloc (.cells #[.int .i64 k] 3)).alloc (.cells #[.int .i64 1, .string page, .slice none 0 0] 72)).heap.size ((w1.alloc (.cells #[.int .i64 k] 3)).alloc (.cells #[.int .i64 1, .string page, .slice none 0 0] 72)) w2 → Calls Try.prog 31 #[.agg #[.int .i64 m.guest, .slice ra rn rc, .slice sa sn sc, .slice fa fn fc, .slice na nn nc], .func (.func 48) #[] #[.pointer (some ⟨w1.heap.size, 0, none⟩), .pointer (some ⟨w.heap.size + 1, 0, none⟩), .pointer (some ⟨w1.heap.size + 1, 0, none⟩)]] w2 (AnsI w2 w2.heap.size M er)) := fun w1 w2 b1 b2 => by
    have hsz : w.heap.size + 1 + 1 + 1 ≤ w1.heap.size := (by have := b1.size; rw [hz] at this; exact this)
    have hz1 : ((w1.alloc (.cells #[.int .i64 k] 3)).alloc (.cells #[.int .i64 1, .string page, .slice none 0 0] 72)).heap.size = w1.heap.size + 1 + 1 := by simp
    have q0 : ((w1.alloc (.cells #[.int .i64 k] 3)).alloc (.cells #[.int .i64 1, .string page, .slice none 0 0] 72)).heap[w1.heap.size]? = some (.cells #[.int .i64 k] 3) := cells_alloc (World.alloc_heap_new _ _) _
    have qq : ((w1.alloc (.cells #[.int .i64 k] 3)).alloc (.cells #[.int .i64 1, .string page, .slice none 0 0] 72)).heap[w1.heap.size + 1]? = some (.cells #[.int .i64 1, .string page, .slice none 0 0] 72) := by have := World.alloc_heap_new (w1.alloc (.cells #[.int .i64 k] 3)) (.cells #[.int .i64 1, .string page, .slice none 0 0] 72); simpa using this
    have qn := cells_alloc (cells_alloc (cells_below m1 b1 (by rw [hz]; omega)) (.cells #[.int .i64 k] 3)) (.cells #[.int .i64 1, .string page, .slice none 0 0] 72)
    have r0 := one (cells_below q0 b2 (by rw [hz1]; omega))
    have rn := one (cells_below qn b2 (by rw [hz1]; omega))
    obtain ⟨r1, r2, r3⟩ := three (cells_below qq b2 (by rw [hz1]; omega))
    have hsz2 : w1.heap.size + 1 + 1 ≤ w2.heap.size := by have := b2.size; rw [hz1] at this; exact this
    have bb : Below w.heap.size w ((w1.alloc (.cells #[.int .i64 k] 3)).alloc (.cells #[.int .i64 1, .string page, .slice none 0 0] 72)) := ((Below.on b0 b1).alloc (by omega) _).alloc (by simp; omega) _
    rw [← hM, ← her]
    exact of_is (h.below (Below.on bb b2)) hF (enters_of Try.func48 (by kernel_rfl) rfl) (write_turn r0 rn r1 r2 r3 (by omega) (by omega) (by omega) hC hn hk)
  have HM : Hid ((((w.alloc (.cells #[.int .i64 m.guest, .slice ra rn rc, .slice sa sn sc, .slice fa fn fc, .slice na nn nc] 26)).alloc (.cells #[.int .i64 (n : Int)] 3)).alloc (.cells #[.int .i64 0, .slice none 0 0, .slice none 0 0, .slice none 0 0, .slice none 0 0] 26)).heap[w.heap.size]? = some (.cells #[.int .i64 m.guest, .slice ra rn rc, .slice sa sn sc, .slice fa fn fc, .slice na nn nc] 26) ∧ (((w.alloc (.cells #[.int .i64 m.guest, .slice ra rn rc, .slice sa sn sc, .slice fa fn fc, .slice na nn nc] 26)).alloc (.cells #[.int .i64 (n : Int)] 3)).alloc (.cells #[.int .i64 0, .slice none 0 0, .slice none 0 0, .slice none 0 0, .slice none 0 0] 26)).heap[w.heap.size + 1 + 1]? = some (.cells #[.int .i64 0, .slice none 0 0, .slice none 0 0, .slice none 0 0, .slice none 0 0] 26) ∧ Below w.heap.size w (((w.alloc (.cells #[.int .i64 m.guest, .slice ra rn rc, .slice sa sn sc, .slice fa fn fc, .slice na nn nc] 26)).alloc (.cells #[.int .i64 (n : Int)] 3)).alloc (.cells #[.int .i64 0, .slice none 0 0, .slice none 0 0, .slice none 0 0, .slice none 0 0] 26)) ∧ (((w.alloc (.cells #[.int .i64 m.guest, .slice ra rn rc, .slice sa sn sc, .slice fa fn fc, .slice na nn nc] 26)).alloc (.cells #[.int .i64 (n : Int)] 3)).alloc (.cells #[.int .i64 0, .slice none 0 0, .slice none 0 0, .slice none 0 0, .slice none 0 0] 26)).heap.size = w.heap.size + 1 + 1 + 1) := ⟨m0, m2, b0, hz⟩
  clear h m0 m1 m2 hz hl b0 hC hn hk hM her hF hp
  go_enter Try.func17, Try.ntmps17
  go_wp2_with (first | (go_at_call 47; refine hck.mono ?_; rintro e w2 ⟨rfl, b2⟩; have d0 := cells_below HW.out.2.2.2.1 b2 (by have := HW.out.2.2.1; omega); obtain ⟨d1, d2, d3, d4, d5⟩ := five d0; have hof := HO.out w1 w2 HW.out.2.2.2.2 b2; have HV : Hid (Below w.heap.size w w2 ∧ w2.heap[w.heap.size + 1 + 1]? = some (.cells #[.int .i64 0, .slice none 0 0, .slice none 0 0, .slice none 0 0, .slice none 0 0] 26) ∧ w.heap.size + 1 + 1 < w2.heap.size) := (⟨Below.on HW.out.2.1 b2, cells_below HW.out.1 b2 HW.out.2.2.1, Nat.lt_of_lt_of_le HW.out.2.2.1 b2.size⟩); clear b2 d0) | (go_at_call 46; refine hlook.mono ?_; rintro e w1 ⟨rfl, b1⟩; have hsz : w.heap.size + 1 + 1 + 1 ≤ w1.heap.size := (by have := b1.size; rw [HM.out.2.2.2] at this; exact this); have hz1 : ((w1.alloc (.cells #[.int .i64 k] 3)).alloc (.cells #[.int .i64 1, .string page, .slice none 0 0] 72)).heap.size = w1.heap.size + 1 + 1 := (by simp); have HW : Hid (((w1.alloc (.cells #[.int .i64 k] 3)).alloc (.cells #[.int .i64 1, .string page, .slice none 0 0] 72)).heap[w.heap.size + 1 + 1]? = some (.cells #[.int .i64 0, .slice none 0 0, .slice none 0 0, .slice none 0 0, .slice none 0 0] 26) ∧ Below w.heap.size w ((w1.alloc (.cells #[.int .i64 k] 3)).alloc (.cells #[.int .i64 1, .string page, .slice none 0 0] 72)) ∧ w.heap.size + 1 + 1 < ((w1.alloc (.cells #[.int .i64 k] 3)).alloc (.cells #[.int .i64 1, .string page, .slice none 0 0] 72)).heap.size ∧ ((w1.alloc (.cells #[.int .i64 k] 3)).alloc (.cells #[.int .i64 1, .string page, .slice none 0 0] 72)).heap[w.heap.size]? = some (.cells #[.int .i64 m.guest, .slice ra rn rc, .slice sa sn sc, .slice fa fn fc, .slice na nn nc] 26) ∧ Below (((w.alloc (.cells #[.int .i64 m.guest, .slice ra rn rc, .slice sa sn sc, .slice fa fn fc, .slice na nn nc] 26)).alloc (.cells #[.int .i64 (n : Int)] 3)).alloc (.cells #[.int .i64 0, .slice none 0 0, .slice none 0 0, .slice none 0 0, .slice none 0 0] 26)).heap.size (((w.alloc (.cells #[.int .i64 m.guest, .slice ra rn rc, .slice sa sn sc, .slice fa fn fc, .slice na nn nc] 26)).alloc (.cells #[.int .i64 (n : Int)] 3)).alloc (.cells #[.int .i64 0, .slice none 0 0, .slice none 0 0, .slice none 0 0, .slice none 0 0] 26)) w1) := (⟨cells_alloc (cells_alloc (cells_below HM.out.2.1 b1 (by rw [HM.out.2.2.2]; omega)) _) _, ((Below.on HM.out.2.2.1 b1).alloc (by omega) _).alloc (by simp; omega) _, by rw [hz1]; omega, cells_alloc (cells_alloc (cells_below HM.out.1 b1 (by rw [HM.out.2.2.2]; omega)) _) _, b1⟩); have qq : ((w1.alloc (.cells #[.int .i64 k] 3)).alloc (.cells #[.int .i64 1, .string page, .slice none 0 0] 72)).heap[w1.heap.size + 1]? = some (.cells #[.int .i64 1, .string page, .slice none 0 0] 72) := (by have := World.alloc_heap_new (w1.alloc (.cells #[.int .i64 k] 3)) (.cells #[.int .i64 1, .string page, .slice none 0 0] 72); simpa using this); obtain ⟨u0, u1, u2⟩ := three qq; have hck := HC.out w1; clear b1 hz1 hsz qq))
  refine hof.mono ?_
  intro e w3 hA
  obtain ⟨val, ga, gc, la, lc, oa, oc, ta, tc, rfl, hO, b1, hI⟩ := hA.open
  dsimp only
  have k3 := cells_below HV.out.2.1 b1 HV.out.2.2
  obtain ⟨z0, z1, z2, z3, z4⟩ := five k3
  have y0 := cells_frozen k3 0
  have y1 := cells_frozen k3 1
  have y2 := cells_frozen k3 2
  have y3 := cells_frozen k3 3
  have y4 := cells_frozen k3 4
  have HP : Hid (OI w3 w2.heap.size val M) := hO
  have HB : Hid (Below w.heap.size w w3) := Below.on HV.out.1 b1
  have HI : Hid (imgV M.guest val = .agg #[.int .i64 M.guest, .slice ga M.root.length gc, .slice la M.slots.length lc, .slice oa M.refs.length oc, .slice ta M.snaps.length tc]) := hI
  clear hO b1 hI hof hA
  go_wp2_with fail
  have i1 : w.heap.size ≤ w.heap.size + 1 + 1 := by omega
  have hf1 : ∀ a, Live M a → (val a).ownBlock ≠ some (w.heap.size + 1 + 1) := fun a ha e => by have := ((HP.out.row a ha).lt _ e).1; have := HV.out.2.2; omega
  refine bodyPost_ret (v := .tuple #[.agg #[.int .i64 M.guest, .slice ga M.root.length gc, .slice la M.slots.length lc, .slice oa M.refs.length oc, .slice ta M.snaps.length tc], .int .i64 er]) (by simp [results, Try.results17, go_sem, z0, z1, z2, z3, z4]) rfl ⟨val, by rw [HI.out], OI.mono (((((HP.out.far hf1).far hf1).far hf1).far hf1).far hf1) (by have := HV.out.2.2; omega), ((((HB.out.setCell i1 _).setCell i1 _).setCell i1 _).setCell i1 _).setCell i1 _⟩

def wrE (m : ImgD) (n : Int) (page : ByteArray) : Int := if lookE m n ≠ 0 then lookE m n else if page.size = 4 then errO (writeD m n.toNat page) else 1
def wrM (m : ImgD) (n : Int) (page : ByteArray) : ImgD := if lookE m n ≠ 0 then imgZ else if page.size = 4 then (writeD m n.toNat page).getD imgZ else imgZ
theorem write_is {w : World} {v : Value} {m : ImgD} (h : Img w v m) (n : Int) (page : ByteArray) :
    Calls Try.prog 17 #[v, .int .i64 n, .string page] w (AnsI w w.heap.size (wrM m n page) (wrE m n page)) := by
  have h' := h
  obtain ⟨ra, rc, sa, sc, fa, fc, na, nc, rfl, _⟩ := h.parts
  unfold wrM wrE
  by_cases hl : lookE m n = 0
  · have hl0 : ¬ lookE m n ≠ 0 := fun x => x hl
    rw [if_neg hl0, if_neg hl0]
    obtain ⟨hC, h0, hn⟩ := lookE_prt hl
    obtain ⟨j, rfl⟩ := Int.eq_ofNat_of_zero_le h0
    rw [Int.toNat_natCast]
    by_cases hp : page.size = 4
    · rw [if_pos hp, if_pos hp]
      have hM := wrP_meets hC hn hp
      exact write_ok_at m ra _ rc sa _ sc fa _ fc na _ nc j page w h' (fits_of_shape (checkE_shape hC)) hl hp _ rfl _ hM.m _ hM.e
    · rw [if_neg hp, if_neg hp]
      exact write_form_at m ra _ rc sa _ sc fa _ fc na _ nc j page w h' hl hp _ rfl
  · rw [if_pos hl, if_pos hl]
    exact write_bad_at m ra _ rc sa _ sc fa _ fc na _ nc n _ page w h' rfl (by simp [hl])
end Go.Proofs.Ytehleeibgkpjmae
/- Contracts of writing: Wipe, Punch. -/
namespace Go.Proofs.Ytehleeibgkpjmae
open Go.RowKit Go.Shelf
end Go.Proofs.Ytehleeibgkpjmae
/- What the program resizes on its desk is what the document asks: the plain part of Resize. -/
namespace Go.Proofs.Ytehleeibgkpjmae
open Go.RowKit Go.Shelf
end Go.Proofs.Ytehleeibgkpjmae
/- Contracts of Cut, and of the document's WithOf and CutOf. -/
namespace Go.Proofs.Ytehleeibgkpjmae
open Go.RowKit
end Go.Proofs.Ytehleeibgkpjmae
/- Contracts of writing: slices.Equal at entries, Cut with its row, cut. -/
namespace Go.Proofs.Ytehleeibgkpjmae
open Go.RowKit Go.Shelf
end Go.Proofs.Ytehleeibgkpjmae
/- Contracts of writing: Resize. -/
namespace Go.Proofs.Ytehleeibgkpjmae
open Go.RowKit Go.Shelf
end Go.Proofs.Ytehleeibgkpjmae
/- Contracts of writing: Resize. -/
namespace Go.Proofs.Ytehleeibgkpjmae
open Go.RowKit Go.Shelf
end Go.Proofs.Ytehleeibgkpjmae
/- What Write, Wipe, Punch and Resize answer, errors too, and what it is to the image that was handed in. -/
namespace Go.Proofs.Ytehleeibgkpjmae
open Go.RowKit Go.Shelf
theorem write_to {w : World} {v : Value} {m : ImgD} (h : Img w v m) (n : Int) (page : ByteArray) {M : ImgD} {E : Int} (hM : wrM m n page = M) (hE : wrE m n page = E) :
    Calls Try.prog 17 #[v, .int .i64 n, .string page] w (AnsI w w.heap.size M E) := by
  subst hM hE; exact write_is h n page
theorem errO_zero {o : Option ImgD} (h : errO o = 0) : ∃ M, o = some M := by
  cases o with
  | none => exact absurd h (by decide)
  | some M => exact ⟨M, rfl⟩
theorem wr_ok {m : ImgD} {n : Int} {page : ByteArray} (he : wrE m n page = 0) : lookE m n = 0 ∧ page.size = 4 ∧ writeD m n.toNat page = some (wrM m n page) ∧ Wrote m (wrM m n page) n.toNat page 2 := by
  unfold wrE at he
  by_cases hl : lookE m n = 0
  · rw [if_neg (by simpa using hl)] at he
    by_cases hp : page.size = 4
    · rw [if_pos hp] at he
      obtain ⟨M, hM⟩ := errO_zero he
      have e : wrM m n page = M := by unfold wrM; rw [if_neg (by simpa using hl), if_pos hp, hM]; rfl
      obtain ⟨hC, h0, hn⟩ := lookE_prt hl
      rw [e]
      exact ⟨hl, hp, hM, wrote_write hC (by omega) hp hM⟩
    · rw [if_neg hp] at he; exact absurd he (by decide)
  · rw [if_pos hl] at he; exact absurd he hl
end Go.Proofs.Ytehleeibgkpjmae
/- Counting slots. Plain lists. -/
namespace Go.Proofs.Ytehleeibgkpjmae
open Go.RowKit Go.Shelf
theorem used_kd (L : List SlotD) : usedN L = (List.range L.length).countP (fun j => kd L j != 0) := by
  unfold usedN
  have hl : L = (List.range L.length).map (fun j => L.getD j default) := by
    apply List.ext_getElem
    · simp
    · intro j h1 h2; simp [List.getD, h1]
  conv => lhs; rw [hl]
  rw [List.countP_map]
  rfl
end Go.Proofs.Ytehleeibgkpjmae
/- Created, written, reverted, deleted: an image is what it was. Plain lists. -/
namespace Go.Proofs.Ytehleeibgkpjmae
open Go.RowKit Go.Shelf
set_option maxRecDepth 20000
set_option linter.unusedVariables false
set_option linter.unusedSimpArgs false

def Told (m : ImgD) (j : Nat) : Prop := 1 ≤ j ∧ ((j : Int) ∈ flatR m ∨ ∃ t : Nat, 1 ≤ t ∧ (t : Int) ∈ flatR m ∧ (j : Int) ∈ tabOf m.slots t)
theorem used_told {m : ImgD} (hC : checkE m = 0) (j : Nat) : kd m.slots j ≠ 0 ↔ Told m j := by
  have h := checkE_shape hC
  constructor
  · intro hk
    have hj := kd_lt hk
    have hc : (cntL m).getD j 0 ≠ 0 := fun hz => by
      have e0 : freeUn m.slots (cntL m) = m.slots := congrArg ImgD.slots (counted_same hC)
      have e := freeUn_gone (L := m.slots) hj hz
      rw [e0] at e
      apply hk
      unfold kd
      rw [e]; rfl
    obtain ⟨j1, hcase⟩ := cnt_told h hj hc
    rcases hcase with ⟨_, hm⟩ | ⟨_, k, k1, hkm, _, hjm⟩
    · exact ⟨j1, .inl hm⟩
    · exact ⟨j1, .inr ⟨k, k1, hkm, hjm⟩⟩
  · rintro ⟨j1, hm | ⟨t, t1, htm, hjm⟩⟩
    · rw [(told_root h hm j1).2.1]; decide
    · rw [(told_ent h htm t1 hjm j1).2.1]; decide
theorem count_pad {f : Nat → Bool} {n : Nat} : ∀ d, (∀ j, n ≤ j → f j = false) → (List.range (n + d)).countP f = (List.range n).countP f
  | 0, _ => rfl
  | d + 1, h => by
    rw [← Nat.add_assoc, List.range_succ, List.countP_append, count_pad d h]
    simp [h (n + d) (by omega)]
theorem used_pad {L : List SlotD} {n : Nat} (h : L.length ≤ n) : usedN L = (List.range n).countP (fun j => kd L j != 0) := by
  rw [used_kd]
  obtain ⟨d, rfl⟩ : ∃ d, n = L.length + d := ⟨n - L.length, by omega⟩
  refine (count_pad d fun j hj => ?_).symm
  have : kd L j = 0 := Classical.byContradiction fun x => by have := kd_lt x; omega
  simp [this]
theorem used_same {m d : ImgD} (hC : checkE m = 0) (hD : checkE d = 0) (h : ∀ j, Told d j ↔ Told m j) : usedN d.slots = usedN m.slots := by
  have l1 := (slotsE_parts (shapeE_zero (checkE_shape hC)).2.1).2
  have l2 := (slotsE_parts (shapeE_zero (checkE_shape hD)).2.1).2
  rw [used_pad (n := 40) (by omega), used_pad (n := 40) (L := m.slots) (by omega)]
  refine List.countP_congr fun j _ => ?_
  have e := ((used_told hD j).trans (h j)).trans (used_told hC j).symm
  simp only [bne_iff_ne]
  exact e
theorem write_keeps {a b : ImgD} (hC : checkE a = 0) {n : Nat} (hn : (n : Int) < a.guest) {page : ByteArray} (hp : page.size = 4) (hb : writeD a n page = some b) :
    b.snaps = a.snaps ∧ ∀ s ∈ a.snaps, ∀ j : Nat, 1 ≤ j → (j : Int) ∈ s.2.2 → tabOf b.slots j = tabOf a.slots j := by
  have hs := checkE_shape hC
  unfold writeD at hb
  split at hb
  · rename_i hi
    have hb := Option.some.inj hb
    subst hb
    have hw := hi
    unfold wInPl at hw
    simp only [Bool.and_eq_true, decide_eq_true_eq] at hw
    have hr : n / 4 < a.root.length := by have := (root_ok hs).1; omega
    rcases lookV_ent hs (root_ok hs).2 n hr with e | e | ⟨j, e, j1, jl, hk⟩
    · omega
    · omega
    · refine ⟨rfl, fun s _ t _ _ => ?_⟩
      rw [e, Int.toNat_natCast]
      exact tab_setP (shapeE_zero hs).2.1 hk _
  · split at hb
    · cases hb
    rename_i h40
    split at hb
    · cases hb
    · rename_i hd40
      have hb := Option.some.inj hb
      obtain ⟨hx, hl, hz, hk, d1, d40, hkd, hdt⟩ := write_ext hC hn h40 hd40 hp
      have hsh := (laid_ext hs hk hx hl (rf := rfZ (wL a n page)) (by simp [rfZ]) hz).shape
      subst hb
      refine ⟨rfl, fun s hsm j j1 hj => ?_⟩
      have hjt : j ≠ tabN a (n / 4) := fun e => hl.snap s hsm (e ▸ hj)
      have hja : (j : Int) ∈ flatR a := List.mem_flatMap.2 ⟨s, List.mem_cons_of_mem _ hsm, hj⟩
      have hka := (told_root hs hja j1).2.1
      have hjM : (j : Int) ∈ flatR (tabSet a (n / 4) (tabN a (n / 4)) (wL a n page) (rfZ (wL a n page))) := List.mem_flatMap.2 ⟨s, List.mem_cons_of_mem _ hsm, hj⟩
      obtain ⟨hlt, _, hcc⟩ := told_root hsh hjM j1
      rw [tab_kept hlt hcc]
      exact tabOf_eq (hx.keep j hjt (by rw [hka]; decide))
theorem snapIx_ins {S : List SnapD} {p : Nat} {s : SnapD} {nm : ByteArray} (hp : p ≤ S.length) (h : s.1.toList = nm.toList) (hn : snapIx S nm = none) : snapIx (insN p S s) nm = some p := by
  have e : (s.1.toList == nm.toList) = true := by simpa using h
  have ht : (S.take p).length = p := by rw [List.length_take]; omega
  have hnt : (S.take p).findIdx? (fun s : SnapD => s.1.toList == nm.toList) = none := by
    rw [List.findIdx?_eq_none_iff]
    intro x hx
    have := snapIx_none hn x (List.mem_of_mem_take hx)
    simpa using this
  unfold snapIx insN
  rw [List.findIdx?_append, hnt, List.findIdx?_cons, e, ht]
  simp
theorem erase_ins {S : List SnapD} {p : Nat} {s : SnapD} (hp : p ≤ S.length) : (insN p S s).eraseIdx p = S := by
  have ht : (S.take p).length = p := by rw [List.length_take]; omega
  unfold insN
  rw [List.eraseIdx_append_of_length_le (by omega), ht, Nat.sub_self, List.eraseIdx_cons_zero, List.take_append_drop]

theorem back_gen {m a b c d : ImgD} {nm : ByteArray} {n : Int} {page : ByteArray} (ha : crM m nm = a) (hb : wrM a n page = b) (hc : rvM b nm = c) (hd : dlM c nm = d) (he : crE m nm = 0) (hf : wrE a n page = 0) :
    pastE b nm = 0 ∧ pastE c nm = 0 ∧ checkE d = 0 ∧ usedN d.slots = usedN m.slots ∧ allV d = allV m ∧ d.root = m.root ∧ d.snaps.length = m.snaps.length := by
  have K1 := cr_ok he
  have K2 := cr_reads he
  rw [ha] at K1 K2
  obtain ⟨hC, hn, hx, h3, ea, hs, hR, hsl⟩ := K1
  obtain ⟨ra, rp, rn, _⟩ := K2
  have K3 := wr_ok hf
  rw [hb] at K3
  obtain ⟨hlk, hp, hw, W⟩ := K3
  have g1 : pastE b nm = 0 := by rw [W.pastE]; exact rp
  have K4 := rv_ok g1
  have K5 := rv_reads g1
  rw [hc] at K4 K5
  obtain ⟨hCb, k, hk, hkl, ec, hsc, hRc, _⟩ := K4
  obtain ⟨rv1, rv2⟩ := K5
  have g2 : pastE c nm = 0 := by rw [(rv2 nm).2]; exact g1
  have K6 := dl_ok g2
  have K7 := dl_reads g2
  rw [hd] at K6 K7
  obtain ⟨hCc, k', hk', hkl', ed, hsd, hRd, _⟩ := K6
  obtain ⟨dl1, _⟩ := K7
  clear ha hb hc hd
  have hasn : a.snaps = insN (posS m.snaps nm) m.snaps (nm, m.guest, m.root) := by rw [ea]; show (createM m nm).snaps = _; rw [createM_insN]; rfl
  have hpl := posS_le m.snaps nm
  obtain ⟨_, hn0, hng⟩ := lookE_prt hlk
  obtain ⟨hbs, hbk⟩ := write_keeps hR (n := n.toNat) (by omega) hp hw
  have hix : snapIx a.snaps nm = some (posS m.snaps nm) := by rw [hasn]; exact snapIx_ins hpl rfl hx
  have hkp : k = posS m.snaps nm := by rw [hbs, hix] at hk; exact (Option.some.inj hk).symm
  have hcs : c.snaps = a.snaps := by rw [ec]; exact hbs
  have hkp' : k' = posS m.snaps nm := by rw [hcs, hix] at hk'; exact (Option.some.inj hk').symm
  have hget : a.snaps.getD (posS m.snaps nm) default = (nm, m.guest, m.root) := by rw [hasn, getD_ins _ hpl, if_pos rfl]
  have hcr : c.root = m.root := by rw [ec]; show (b.snaps.getD k default).2.2 = _; rw [hbs, hkp, hget]
  have hdr : d.root = m.root := by rw [ed]; exact hcr
  have hds : d.snaps = m.snaps := by rw [ed]; show c.snaps.eraseIdx k' = _; rw [hcs, hasn, hkp', erase_ins hpl]
  have hfl : flatR d = flatR m := by rw [flatR_app, flatR_app, hdr, hds]
  -- what m tells is told by a snapshot of a
  have hin : ∀ j : Int, j ∈ flatR m → ∃ s ∈ a.snaps, j ∈ s.2.2 := fun j hj => by
    rw [flatR_app] at hj
    rcases List.mem_append.1 hj with hj | hj
    · exact ⟨(nm, m.guest, m.root), by rw [← hget]; rw [hasn]; have hl : posS m.snaps nm < (insN (posS m.snaps nm) m.snaps (nm, m.guest, m.root)).length := by rw [insN_length _ hpl]; omega
                                       rw [show (insN (posS m.snaps nm) m.snaps (nm, m.guest, m.root)).getD (posS m.snaps nm) default = (insN (posS m.snaps nm) m.snaps (nm, m.guest, m.root))[posS m.snaps nm] by simp [List.getD, hl]]; exact List.getElem_mem hl, hj⟩
    · obtain ⟨s, hsm, hj⟩ := List.mem_flatMap.1 hj
      refine ⟨s, ?_, hj⟩
      rw [hasn, show insN (posS m.snaps nm) m.snaps (nm, m.guest, m.root) = insS m.snaps (nm, m.guest, m.root) from (insS_insN m.snaps (nm, m.guest, m.root)).symm]
      exact mem_insS.2 (.inr hsm)
  have htab : ∀ t : Nat, 1 ≤ t → (t : Int) ∈ flatR m → tabOf d.slots t = tabOf m.slots t := fun t t1 ht => by
    obtain ⟨s, hsm, hst⟩ := hin t ht
    have e1 := hbk s hsm t t1 hst
    rw [hsl] at e1
    have hc1 : (t : Int) ∈ flatR (revertM b k) := List.mem_flatMap.2 ⟨s, List.mem_cons_of_mem _ (by show s ∈ b.snaps; rw [hbs]; exact hsm), hst⟩
    obtain ⟨l1, _, n1⟩ := told_root hsc hc1 t1
    have e2 : tabOf c.slots t = tabOf b.slots t := by rw [ec]; exact tab_kept l1 n1
    have hd1 : (t : Int) ∈ flatR (deleteM c k') := by
      have : flatR (deleteM c k') = flatR d := by rw [ed]; rfl
      rw [this, hfl]; exact ht
    obtain ⟨l2, _, n2⟩ := told_root hsd hd1 t1
    have e3 : tabOf d.slots t = tabOf c.slots t := by rw [ed]; exact tab_kept l2 n2
    rw [e3, e2, e1]
  refine ⟨g1, g2, hRd, used_same hC hRd fun j => ?_, ?_, hdr, by rw [hds]⟩
  · unfold Told
    rw [hfl]
    refine and_congr_right fun _ => or_congr_right ⟨?_, ?_⟩
    · rintro ⟨t, t1, ht, hj⟩; exact ⟨t, t1, ht, by rw [← htab t t1 ht]; exact hj⟩
    · rintro ⟨t, t1, ht, hj⟩; exact ⟨t, t1, ht, by rw [htab t t1 ht]; exact hj⟩
  · rw [dl1, rv1, W.pastV, rn]
end Go.Proofs.Ytehleeibgkpjmae
/- Contracts of isPage, Check, and of the document's CheckPages, SamePages, ZeroPage. -/
namespace Go.Proofs.Ytehleeibgkpjmae
open Go.RowKit
theorem samePages_at (ao bo : Option Addr) (n cap cap' : Nat) (xs : List ByteArray) (w : World) (hm : n ≤ 9223372036854775807)
    (hc : ∀ j, j < n → ∃ b off, ao = some ⟨b, off, none⟩ ∧ b < w.heap.size ∧ w.cell? ⟨b, off + j, none⟩ = some (.string (xs.getD j ByteArray.empty)))
    (hd : ∀ j, j < n → ∃ b off, bo = some ⟨b, off, none⟩ ∧ b < w.heap.size ∧ w.cell? ⟨b, off + j, none⟩ = some (.string (xs.getD j ByteArray.empty))) :
    Calls Try.prog 16 #[.slice ao n cap, .slice bo n cap'] w fun r w' => r = .returned (.bool true) ∧ Below w.heap.size w w' := by
  have HC : Hid (∀ j, j < n → ∃ b off, ao = some ⟨b, off, none⟩ ∧ b < w.heap.size ∧ w.cell? ⟨b, off + j, none⟩ = some (.string (xs.getD j ByteArray.empty))) := hc
  have HD : Hid (∀ j, j < n → ∃ b off, bo = some ⟨b, off, none⟩ ∧ b < w.heap.size ∧ w.cell? ⟨b, off + j, none⟩ = some (.string (xs.getD j ByteArray.empty))) := hd
  clear hc hd
  go_enter Try.func16, Try.ntmps16
  go_wp2
  go_loopw [5] (fun i wr => ∃ k : Nat, k ≤ n ∧ i = .int .i64 k ∧ Below w.heap.size w wr) (fun i _ => n - (intOf i).toNat)
  case atStart => exact ⟨0, by omega, rfl, Below.refl _ _⟩
  case round =>
    obtain ⟨k, hk, rfl, hbel⟩ := hrel
    by_cases hlt : k < n
    · obtain ⟨x, hx⟩ : ∃ x, xs.getD k ByteArray.empty = x := ⟨_, rfl⟩
      obtain ⟨b, off, hao, hl1, hck⟩ := HC.out k hlt
      obtain ⟨b', off', hbo, hl2, hck'⟩ := HD.out k hlt
      rw [hx] at hck hck'
      clear hx
      have g1 : wr.cell? ⟨b, off + k, none⟩ = some (.string x) := (hbel.cell (p := ⟨b, off + k, none⟩) hl1).trans hck
      have g2 : wr.cell? ⟨b', off' + k, none⟩ = some (.string x) := (hbel.cell (p := ⟨b', off' + k, none⟩) hl2).trans hck'
      have i1 : (k : Int) < (n : Int) := by omega
      go_wp2
      go_quiet (fail)
      go_wp2
      go_roundw
      case rel => exact ⟨k + 1, by omega, by go_num, below_drewN hbel _⟩
      case measure => simp [intOf]; omega
    · have e4 : k = n := by omega
      subst e4
      go_wp2
      go_ret
      exact ⟨rfl, hbel⟩

theorem samePages_any {v u : Value} {xs : List ByteArray} {w : World} (h : Ss w v xs) (k : Ss w u xs) :
    Calls Try.prog 16 #[v, u] w fun r w' => r = .returned (.bool true) ∧ Below w.heap.size w w' := by
  obtain ⟨ao, cap, rfl⟩ := h.form
  obtain ⟨bo, cap', rfl⟩ := k.form
  obtain ⟨hn, hm, _, hc⟩ := h.cells
  obtain ⟨_, _, _, hd⟩ := k.cells
  exact samePages_at ao bo _ cap cap' xs w hm hc hd
end Go.Proofs.Ytehleeibgkpjmae
/- Pages, plainly: which pages some bytes are, and what is joined; lists of bytes alone. -/
namespace Go.Proofs.Ytehleeibgkpjmae
open Go.RowKit
def ofBytes (l : List UInt8) : ByteArray := ⟨l.toArray⟩
theorem repeat_zero (n : Nat) : Lib.repeatL [0] n = List.replicate n 0 := by
  induction n with
  | zero => rfl
  | succ n ih => rw [Lib.repeatL, ih]; rfl

end Go.Proofs.Ytehleeibgkpjmae
/- The library's contracts that are used here, at this program: strings.Repeat, strings.Join. -/
namespace Go.Proofs
open Go.Shelf
def Try.lays105_ren : Go.Shelf.Ren := ⟨fun | 105 => 119 | 212 => 122 | 99 => 123 | 165 => 124 | 166 => 125 | 170 => 126 | 169 => 127 | 263 => 128 | 264 => 129 | 206 => 130 | 240 => 131 | 241 => 132 | 276 => 133 | 277 => 134 | n => n, fun | 9 => 9 | 3 => 3 | 4 => 4 | 20 => 20 | 0 => 0 | 46 => 114 | 109 => 137 | 5 => 5 | 72 => 143 | 76 => 147 | 51 => 150 | 146 => 151 | 53 => 153 | 148 => 154 | 70 => 140 | 37 => 141 | 75 => 146 | 127 => 156 | 164 => 157 | 80 => 111 | n => n, fun | n => n⟩
theorem Try.lays105 : Go.Proofs.Lays.n105 Try.prog Try.lays105_ren := {
  mixed := by kernel_rfl
  f99 := Try.func123.trans (congrArg some (by kernel_rfl))
  f105 := Try.func119.trans (congrArg some (by kernel_rfl))
  f165 := Try.func124.trans (congrArg some (by kernel_rfl))
  f166 := Try.func125.trans (congrArg some (by kernel_rfl))
  f169 := Try.func127.trans (congrArg some (by kernel_rfl))
  f170 := Try.func126.trans (congrArg some (by kernel_rfl))
  f206 := Try.func130.trans (congrArg some (by kernel_rfl))
  f212 := Try.func122.trans (congrArg some (by kernel_rfl))
  f240 := Try.func131.trans (congrArg some (by kernel_rfl))
  f241 := Try.func132.trans (congrArg some (by kernel_rfl))
  f263 := Try.func128.trans (congrArg some (by kernel_rfl))
  f264 := Try.func129.trans (congrArg some (by kernel_rfl))
  f276 := Try.func133.trans (congrArg some (by kernel_rfl))
  f277 := Try.func134.trans (congrArg some (by kernel_rfl))
  t0 := Try.underlying0
  a0 := Try.isAgg0
  z0 := Try.sizeOf0
  v0 := Try.zeroValue0
  t3 := Try.underlying3
  a3 := Try.isAgg3
  z3 := Try.sizeOf3
  v3 := Try.zeroValue3
  t4 := Try.underlying4
  a4 := Try.isAgg4
  z4 := Try.sizeOf4
  v4 := Try.zeroValue4
  t5 := Try.underlying5
  a5 := Try.isAgg5
  z5 := Try.sizeOf5
  v5 := Try.zeroValue5
  t9 := Try.underlying9
  a9 := Try.isAgg9
  z9 := Try.sizeOf9
  v9 := Try.zeroValue9
  t20 := Try.underlying20
  a20 := Try.isAgg20
  z20 := Try.sizeOf20
  v20 := Try.zeroValue20
  t37 := Try.underlying141
  a37 := Try.isAgg141
  z37 := Try.sizeOf141
  v37 := Try.zeroValue141
  t46 := Try.underlying114
  a46 := Try.isAgg114
  z46 := Try.sizeOf114
  v46 := Try.zeroValue114
  t51 := Try.underlying150
  a51 := Try.isAgg150
  z51 := Try.sizeOf150
  v51 := Try.zeroValue150
  t53 := Try.underlying153
  a53 := Try.isAgg153
  z53 := Try.sizeOf153
  v53 := Try.zeroValue153
  t70 := Try.underlying140
  a70 := Try.isAgg140
  z70 := Try.sizeOf140
  v70 := Try.zeroValue140
  t72 := Try.underlying143
  a72 := Try.isAgg143
  z72 := Try.sizeOf143
  v72 := Try.zeroValue143
  t75 := Try.underlying146
  a75 := Try.isAgg146
  z75 := Try.sizeOf146
  v75 := Try.zeroValue146
  t76 := Try.underlying147
  a76 := Try.isAgg147
  z76 := Try.sizeOf147
  v76 := Try.zeroValue147
  t109 := Try.underlying137
  a109 := Try.isAgg137
  z109 := Try.sizeOf137
  v109 := Try.zeroValue137
  t127 := Try.underlying156
  a127 := Try.isAgg156
  z127 := Try.sizeOf156
  v127 := Try.zeroValue156
  t146 := Try.underlying151
  a146 := Try.isAgg151
  z146 := Try.sizeOf151
  v146 := Try.zeroValue151
  t148 := Try.underlying154
  a148 := Try.isAgg154
  z148 := Try.sizeOf154
  v148 := Try.zeroValue154
  t164 := Try.underlying157
  a164 := Try.isAgg157
  z164 := Try.sizeOf157
  v164 := Try.zeroValue157 }
theorem Try.Builder_Extra_105 : Builder.Extra Try.prog Try.lays105_ren := {
  sizeBuilder := by kernel_rfl
  liesBuilder := by kernel_rfl
  t5 := Try.underlying5
  a5 := Try.isAgg5
  z5 := Try.sizeOf5
  v5 := Try.zeroValue5
  infoByte := by kernel_rfl
  cellsByte := by kernel_rfl
  sizeByte := by kernel_rfl
  neB5 := by decide }
open Go.RowKit Go.Lib in
theorem Try.strings_Repeat (s : ByteArray) (c : Nat) (w : World) (hc : c ≤ 9223372036854775807) (hlen : s.size * c ≤ 140737488355328) :
    Calls Try.prog 119 #[.string s, .int .i64 c] w fun e w' => e = .returned (.string ⟨(Lib.repeatL s.data.toList c).toArray⟩) ∧ Below w.heap.size w w' := Any.strings_Repeat Try.lays105 Try.Builder_Extra_105 s c w hc hlen

end Go.Proofs
/- Contracts of zeros and Zero; the law of an append of one string. -/
namespace Go.Proofs.Ytehleeibgkpjmae
open Go.RowKit
set_option maxRecDepth 20000

theorem zeros_any (n : Nat) (w : World) (hn : n ≤ 4) : Calls Try.prog 107 #[.int .i64 n] w fun r w' => r = .returned (.string (ofBytes (List.replicate n 0))) ∧ Below w.heap.size w w' := by
  have h := Try.strings_Repeat ⟨#[0]⟩ n w (by omega) (by show 1 * n ≤ _; omega)
  rw [show (⟨#[0]⟩ : ByteArray).data.toList = [0] from rfl, repeat_zero] at h
  have HH : Hid (Calls Try.prog 119 #[.string ⟨#[0]⟩, .int .i64 n] w fun e w' => e = .returned (.string (ofBytes (List.replicate n 0))) ∧ Below w.heap.size w w') := h
  clear h
  go_enter Try.func107, Try.ntmps107
  go_wp2_with (go_at_call 119; refine (HH.out).mono ?_; rintro e w1 ⟨rfl, b1⟩)
  go_ret
  exact ⟨rfl, b1⟩

theorem zero_any (w : World) : Calls Try.prog 86 #[] w fun r w' => r = .returned (.string Z4) ∧ Below w.heap.size w w' := by
  go_enter Try.func86, Try.ntmps86
  go_wp2_with (go_at_call 107; refine (zeros_any 4 _ (by omega)).mono ?_; rintro e w1 ⟨rfl, b1⟩)
  go_ret
  exact ⟨rfl, b1⟩

theorem Try.info9 : (Try.prog.info? 9).map (fun i => (i.zero, i.size, i.bytes)) = some (some (.string ByteArray.empty), 1, 16) := by kernel_rfl

end Go.Proofs.Ytehleeibgkpjmae
/- Contracts of reads.page, allPages, Read, All. -/
namespace Go.Proofs.Ytehleeibgkpjmae
open Go.RowKit Go.Shelf
set_option maxRecDepth 20000

def SAt (W : World) (g : Nat) (l : List ByteArray) : Prop := W.heap[g]? = some (.cells (l.map Value.string).toArray 9)
theorem SAt.cell {W : World} {g : Nat} {l : List ByteArray} (h : SAt W g l) {j : Nat} (hj : j < l.length) : W.cell? ⟨g, j, none⟩ = some (.string (l.getD j ByteArray.empty)) := by
  have h' : W.heap[g]? = some (.cells (l.map Value.string).toArray 9) := h
  simp [World.cell?, h', List.getD, hj]
theorem SAt.frozen {W : World} {g : Nat} {l : List ByteArray} (h : SAt W g l) (j : Nat) : W.frozen? ⟨g, j, none⟩ = false := by
  have h' : W.heap[g]? = some (.cells (l.map Value.string).toArray 9) := h
  simp [World.frozen?, h']
theorem SAt.lt {W : World} {g : Nat} {l : List ByteArray} (h : SAt W g l) : g < W.heap.size := (Array.getElem?_eq_some_iff.1 h).1
theorem SAt.set {W : World} {g : Nat} {l : List ByteArray} (h : SAt W g l) (j : Nat) (x : ByteArray) : SAt (W.setCell ⟨g, j, none⟩ (.string x)) g (l.set j x) := by
  obtain ⟨hlt, hk⟩ := Array.getElem?_eq_some_iff.1 h
  show (W.heap.modify g _)[g]? = _
  rw [Array.getElem?_eq_getElem (by rw [Array.size_modify]; exact hlt), Array.getElem_modify_self, hk]
  simp [List.map_set]
theorem SAt.ss {W : World} {g n : Nat} {l : List ByteArray} (h : SAt W g l) (hn : l.length = n) (hm : n ≤ maxLen) : Ss W (.slice (some ⟨g, 0, none⟩) n n) l := by
  subst hn
  exact ⟨_, _, rfl, hm, Nat.le_refl _, fun _ => ⟨g, 0, rfl, h.lt, fun j hj => by rw [Nat.zero_add]; exact h.cell hj⟩⟩
theorem mk_strs (n : Nat) (hn : n ≤ 40) (W : World) : (Instr.makeSlice 35 (.int .i64 (n : Int)) (.int .i64 (n : Int))).run Try.prog W = .ok (.slice (some ⟨W.heap.size, 0, none⟩) n n) (W.alloc (.cells ((List.replicate n ByteArray.empty).map Value.string).toArray 9)) := by
  have hi := Try.info9
  cases h : Try.prog.info? 9 with
  | none => rw [h] at hi; cases hi
  | some i =>
    rw [h] at hi
    simp at hi
    have := run_make (P := Try.prog) W 35 9 i (.string ByteArray.empty) Try.underlying35 h hi.1 .i64 .i64 n n (by omega) (by omega) (by rw [hi.2.2]; omega) (by omega)
    rw [this, hi.2.1]
    have e : madeCells (Value.string ByteArray.empty).cells (((n : Int)).toNat * 1) = ((List.replicate n ByteArray.empty).map Value.string).toArray := by
      apply Array.ext
      · simp [madeCells]
      · intro j h1 h2
        simp [madeCells, Value.cells, Nat.mod_one]
    rw [e]
    simp

theorem page_zero (la : Option Addr) (ln lc : Nat) (e : Int) (w : World) (he : e = 0 ∨ e = -1) :
    Calls Try.prog 60 #[.slice la ln lc, .int .i64 e] w fun r w' => r = .returned (.string Z4) ∧ Below w.heap.size w w' := by
  rcases he with rfl | rfl
  all_goals
    go_enter Try.func60, Try.ntmps60
    go_wp2_with (go_at_call 86; refine (zero_any _).mono ?_; rintro e w1 ⟨rfl, b1⟩)
    go_ret
    exact ⟨rfl, b1⟩
theorem page_slot (lb lo : Nat) (ln lc : Nat) (j : Nat) (d : ByteArray) (w : World) (h1 : 1 ≤ j) (hj : j < ln) (hc : w.cell? ⟨lb, lo + j * 3 + 1, none⟩ = some (.string d)) :
    Calls Try.prog 60 #[.slice (some ⟨lb, lo, none⟩) ln lc, .int .i64 j] w fun r w' => r = .returned (.string d) ∧ Below w.heap.size w w' := by
  have h0 : ((j : Int) == 0) = false := by simp; omega
  have hm : ((j : Int) == -1) = false := by simp <;> omega
  have hji : (j : Int) < (ln : Int) := by omega
  go_enter Try.func60, Try.ntmps60
  go_wp2_with fail
  go_ret
  exact ⟨rfl, Below.refl _ _⟩
theorem page_is {lv : Value} {L : List SlotD} {w : World} (h : Slots w lv L) {e : Int} (he : e = 0 ∨ e = -1 ∨ ∃ j : Nat, e = j ∧ 1 ≤ j ∧ j < L.length) {p : ByteArray} (hp : pageV L e = p) :
    Calls Try.prog 60 #[lv, .int .i64 e] w fun r w' => r = .returned (.string p) ∧ Below w.heap.size w w' := by
  unfold pageV at hp
  have h' := h
  obtain ⟨la, lc, rfl⟩ := h.form
  rcases he with he | he | ⟨j, rfl, h1, hj⟩
  · rw [if_pos (by omega)] at hp; subst hp
    exact page_zero la _ lc e w (.inl he)
  · rw [if_pos (by omega)] at hp; subst hp
    exact page_zero la _ lc e w (.inr he)
  · rw [if_neg (by omega)] at hp
    obtain ⟨sb, so, rfl, hsb, tv, _, c2, _⟩ := h'.at j hj
    have e : L.getD (j : Int).toNat default = L[j] := by simp [List.getD, hj]
    rw [e] at hp
    rw [hp] at c2
    exact page_slot sb so _ lc j p w h1 hj c2

def rowP (m : ImgD) (root : List Int) (g k : Nat) : List ByteArray := (List.range g).map (fun n => if n < k then pageV m.slots (lookV m root n) else ByteArray.empty)
theorem rowP_length (m : ImgD) (root : List Int) (g k : Nat) : (rowP m root g k).length = g := by simp [rowP]
theorem rowP_zero (m : ImgD) (root : List Int) (g : Nat) : rowP m root g 0 = List.replicate g ByteArray.empty := by
  unfold rowP
  apply List.ext_getElem <;> simp
theorem rowP_end (m : ImgD) (root : List Int) (g : Nat) : rowP m root g g = allP m root g := by
  unfold rowP allP
  exact List.map_congr_left fun n hn => by rw [if_pos (List.mem_range.1 hn)]
theorem rowP_set (m : ImgD) (root : List Int) (g k : Nat) : (rowP m root g k).set k (pageV m.slots (lookV m root k)) = rowP m root g (k + 1) := by
  unfold rowP
  apply List.ext_getElem
  · simp
  · intro j h1 h2
    rw [List.getElem_set]
    by_cases e : k = j
    · subst e; simp
    · rw [if_neg e]
      simp only [List.getElem_map, List.getElem_range]
      by_cases c : j < k
      · rw [if_pos c, if_pos (by omega)]
      · rw [if_neg c, if_neg (by omega)]

theorem SAt.below {W W' : World} {g n : Nat} {l : List ByteArray} (h : SAt W g l) (hb : Below n W W') (hg : g < n) : SAt W' g l := (hb.block _ hg).trans h

set_option maxHeartbeats 4000000 in
theorem allPages_at (sa : Option Addr) (sn sc : Nat) (qa : Option Addr) (qn qc : Nat) (g : Nat) (m : ImgD) (root : List Int) (w : World) (hS : Slots w (.slice sa sn sc) m.slots) (hq : Sl w (.slice qa qn qc) root) (hg : g ≤ 16) (hl : (root.length : Int) = ((g : Int) + 3) / 4) (hE : shapeE m = 0) (hall : root.all (rootE m.slots) = true) :
    Calls Try.prog 43 #[.slice sa sn sc, .slice qa qn qc, .int .i64 g] w fun r w' => (r = .returned (.slice (some ⟨w.heap.size, 0, none⟩) g g) ∧ SAt w' w.heap.size (allP m root g)) ∧ Below w.heap.size w w' := by
  have hmk := mk_strs g (by omega)
  obtain ⟨W0, hW0⟩ : ∃ W0, w.alloc (.cells ((List.replicate g ByteArray.empty).map Value.string).toArray 9) = W0 := ⟨_, rfl⟩
  have l0 : SAt W0 w.heap.size (rowP m root g 0) := by
    rw [rowP_zero, ← hW0]; exact World.alloc_heap_new _ _
  have b0 : Below w.heap.size w W0 := by rw [← hW0]; exact (Below.refl _ _).alloc (Nat.le_refl _) _
  have H1 : Hid (Slots w (.slice sa sn sc) m.slots) := hS
  have H2 : Hid (Sl w (.slice qa qn qc) root ∧ root.length = qn) := ⟨hq, hq.cells.1⟩
  have H3 : Hid ((root.length : Int) = ((g : Int) + 3) / 4) := hl
  have H4 : Hid (shapeE m = 0 ∧ root.all (rootE m.slots) = true) := ⟨hE, hall⟩
  have H5 : Hid (m.slots.length = sn) := by
    obtain ⟨_, _, e, _⟩ := hS
    simp at e
    exact e.2.1.symm
  clear hS hq hl hE hall
  go_enter Try.func43, Try.ntmps43
  go_wp2_with fail
  rw [show w.alloc (Obj.cells (Array.replicate g (Value.string ByteArray.empty)) 9) = W0 by rw [← hW0]; simp]
  clear hmk hW0
  go_loopw [8, 9, 10, 15] (fun _ _ _ i wq => ∃ k : Nat, k ≤ g ∧ i = .int .i64 k ∧ SAt wq w.heap.size (rowP m root g k) ∧ Below w.heap.size w wq) (fun _ _ _ i _ => g - (intOf i).toNat)
  case atStart => exact ⟨0, Nat.zero_le _, rfl, l0, b0⟩
  case round =>
    obtain ⟨k, hk, rfl, hL, hbel⟩ := hrel
    by_cases hlk : k < g
    · have hki : (k : Int) < (g : Int) := by omega
      have hkq : k / 4 < root.length := by have := H3.out; omega
      have hqn : k / 4 < qn := by rw [← H2.out.2]; exact hkq
      obtain ⟨b, off, rfl, hlt, hcr⟩ := H2.out.1.cells.2.2.2 (k / 4) hqn
      have hcr := (hbel.cell (p := ⟨b, off + k / 4, none⟩) hlt).trans hcr
      have hq1 : ((k : Int) / 4).toNat = k / 4 := by omega
      have hq2 : ((k : Int) % 4).toNat = k % 4 := by omega
      have hqi : (k : Int) / 4 < (qn : Int) := by omega
      have hent := lookV_ent H4.out.1 H4.out.2 k hkq
      obtain ⟨p, hp⟩ : ∃ p, pageV m.slots (lookV m root k) = p := ⟨_, rfl⟩
      have hcall := fun W (hW : Below w.heap.size w W) => page_is (H1.out.below hW) (hent.imp id (Or.imp id (fun ⟨j, a, b, c, _⟩ => ⟨j, a, b, c⟩))) hp
      have HP : Hid ((rowP m root g k).set k p = rowP m root g (k + 1)) := by show _ = _; rw [← hp]; exact rowP_set m root g k
      have hfx := hL.frozen k
      have hcx := hL.cell (j := k) (by rw [rowP_length]; exact hlk)
      have hzr := hL.lt
      obtain ⟨x, hx⟩ : ∃ x, root.getD (k / 4) 0 = x := ⟨_, rfl⟩
      have HX : Hid (lookV m root k = if x = 0 then 0 else (tabOf m.slots x).getD (k % 4) 0) := by show _ = _; unfold lookV; rw [hx]
      have HXe : Hid (rootE m.slots x = true) := by show _ = _; rw [← hx]; exact all_at H4.out.2 hkq
      rw [hx] at hcr
      clear hp hx hent
      by_cases hx0 : x = 0
      · have hxb : (x != 0) = false := by simp [hx0]
        rw [HX.out, if_pos hx0] at hcall
        clear hx0
        go_wp2_with fail
        refine (hcall _ hbel).mono ?_
        rintro e w1 ⟨rfl, b1⟩
        have hL1 := hL.below b1 hzr
        have hfx := hL1.frozen k
        have hcx := hL1.cell (j := k) (by rw [rowP_length]; exact hlk)
        have hb1 := Below.on hbel b1
        clear hcall
        go_wp2_with fail
        go_roundw
        case rel => exact ⟨k + 1, by omega, by go_num, by rw [← HP.out]; exact hL1.set k p, hb1.setCell (Nat.le_refl _) _⟩
        case measure => simp [intOf]; omega
      · have hxb : (x != 0) = true := by simp [hx0]
        have hkd := HXe.out
        rw [rootE_x hx0] at hkd
        rw [HX.out, if_neg hx0] at hcall
        obtain ⟨t, rfl, htl, hk2⟩ := isKd_yes hkd
        have hok := okD_tab (slotsE_all (shapeE_zero H4.out.1).2.1 htl) hk2
        obtain ⟨sb, so, rfl, hsb, tv, _, _, c3, hsl⟩ := H1.out.at t htl
        obtain ⟨tb, tw, tc, rfl, _, htb, htc⟩ := hsl.four hok.1
        have hts : t < sn := by rw [← H5.out]; exact htl
        have hti : (t : Int) < (sn : Int) := by omega
        have ct : wr.cell? ⟨sb, so + t * 3 + 2, none⟩ = some (.slice (some ⟨tb, tw, none⟩) 4 tc) := (hbel.cell (p := ⟨sb, so + t * 3 + 2, none⟩) hsb).trans c3
        have cx := (hbel.cell (p := ⟨tb, tw + k % 4, none⟩) htb).trans (htc (k % 4) (by omega))
        have etab : m.slots[t].2.2 = tabOf m.slots t := by unfold tabOf; simp [List.getD, htl]
        rw [etab] at cx
        obtain ⟨y, hy⟩ : ∃ y, (tabOf m.slots t).getD (k % 4) 0 = y := ⟨_, rfl⟩
        rw [hy] at cx hcall
        have h4 : k % 4 < 4 := by omega
        clear hx0 hkd hk2 hok hsl htc c3 etab hy
        go_wp2_with fail
        refine (hcall _ hbel).mono ?_
        rintro e w1 ⟨rfl, b1⟩
        have hL1 := hL.below b1 hzr
        have hfx := hL1.frozen k
        have hcx := hL1.cell (j := k) (by rw [rowP_length]; exact hlk)
        have hb1 := Below.on hbel b1
        clear hcall
        go_wp2_with fail
        go_roundw
        case rel => exact ⟨k + 1, by omega, by go_num, by rw [← HP.out]; exact hL1.set k p, hb1.setCell (Nat.le_refl _) _⟩
        case measure => simp [intOf]; omega
    · have e4 : k = g := by omega
      subst e4
      go_wp2_with fail
      go_ret
      exact ⟨⟨rfl, by rw [← rowP_end]; exact hL⟩, hbel⟩
theorem allP_length (m : ImgD) (root : List Int) (g : Nat) : (allP m root g).length = g := by simp [allP]
theorem allPages_is {lv rv : Value} {m : ImgD} {g : Int} {root : List Int} {w : World} (hS : Slots w lv m.slots) (hq : Sl w rv root) (hE : shapeE m = 0) (hg : guestOK g = true) (hf : rootFit m.slots g root = true) :
    Calls Try.prog 43 #[lv, rv, .int .i64 g] w fun r w' => (∃ v, r = .returned v ∧ Ss w' v (allP m root g.toNat)) ∧ Below w.heap.size w w' := by
  unfold guestOK at hg
  simp only [decide_eq_true_eq] at hg
  unfold rootFit at hf
  simp only [Bool.and_eq_true, decide_eq_true_eq] at hf
  obtain ⟨k, rfl⟩ : ∃ k : Nat, g = k := ⟨g.toNat, by omega⟩
  obtain ⟨sa, sc, rfl⟩ := hS.form
  obtain ⟨qa, qc, rfl⟩ := hq.form
  rw [Int.toNat_natCast]
  exact (allPages_at sa _ sc qa _ qc k m root w hS hq (by omega) hf.1 hE hf.2.1).mono fun _ _ h => ⟨⟨_, h.1.1, h.1.2.ss (allP_length _ _ _) (by unfold maxLen; omega)⟩, h.2⟩

theorem all_bad (gm : Int) (ra : Option Addr) (rn rc : Nat) (sa : Option Addr) (sn sc : Nat) (fa : Option Addr) (fn fc : Nat) (na : Option Addr) (nn nc : Nat) (m : ImgD) (E : Int) (w : World) (h : Img w (.agg #[.int .i64 gm, .slice ra rn rc, .slice sa sn sc, .slice fa fn fc, .slice na nn nc]) m) (hE : checkE m = E) (hne : (E != 0) = true) :
    Calls Try.prog 14 #[.agg #[.int .i64 gm, .slice ra rn rc, .slice sa sn sc, .slice fa fn fc, .slice na nn nc]] w fun r w' => r = .returned (.tuple #[.slice none 0 0, .int .i64 E]) ∧ Below w.heap.size w w' := by
  have b0 : Below w.heap.size w (w.alloc (.cells #[.int .i64 gm, .slice ra rn rc, .slice sa sn sc, .slice fa fn fc, .slice na nn nc] 26)) := (Below.refl _ _).alloc (Nat.le_refl _) _
  have m0 : (w.alloc (.cells #[.int .i64 gm, .slice ra rn rc, .slice sa sn sc, .slice fa fn fc, .slice na nn nc] 26)).heap[w.heap.size]? = some (.cells #[.int .i64 gm, .slice ra rn rc, .slice sa sn sc, .slice fa fn fc, .slice na nn nc] 26) := World.alloc_heap_new _ _
  have z0 : w.heap.size < (w.alloc (.cells #[.int .i64 gm, .slice ra rn rc, .slice sa sn sc, .slice fa fn fc, .slice na nn nc] 26)).heap.size := by simp
  have h1 := tcheck_is (h.below b0) hE
  clear h hE
  go_enter Try.func14, Try.ntmps14
  go_wp2_with fail
  refine h1.mono ?_
  rintro e w1 ⟨rfl, b1⟩
  go_wp2_with fail
  go_ret2
  exact ⟨rfl, Below.on b0 b1⟩
theorem all_at' (gm : Int) (ra : Option Addr) (rn rc : Nat) (sa : Option Addr) (sn sc : Nat) (fa : Option Addr) (fn fc : Nat) (na : Option Addr) (nn nc : Nat) (m : ImgD) (w : World) (h : Img w (.agg #[.int .i64 gm, .slice ra rn rc, .slice sa sn sc, .slice fa fn fc, .slice na nn nc]) m) (hS : Slots w (.slice sa sn sc) m.slots) (hr : Sl w (.slice ra rn rc) m.root) (hgm : m.guest = gm) (hC : checkE m = 0) :
    Calls Try.prog 14 #[.agg #[.int .i64 gm, .slice ra rn rc, .slice sa sn sc, .slice fa fn fc, .slice na nn nc]] w fun r w' => (∃ v, r = .returned (.tuple #[v, .int .i64 0]) ∧ Ss w' v (allP m m.root m.guest.toNat)) ∧ Below w.heap.size w w' := by
  have b0 : Below w.heap.size w (w.alloc (.cells #[.int .i64 gm, .slice ra rn rc, .slice sa sn sc, .slice fa fn fc, .slice na nn nc] 26)) := (Below.refl _ _).alloc (Nat.le_refl _) _
  have m0 : (w.alloc (.cells #[.int .i64 gm, .slice ra rn rc, .slice sa sn sc, .slice fa fn fc, .slice na nn nc] 26)).heap[w.heap.size]? = some (.cells #[.int .i64 gm, .slice ra rn rc, .slice sa sn sc, .slice fa fn fc, .slice na nn nc] 26) := World.alloc_heap_new _ _
  have z0 : w.heap.size < (w.alloc (.cells #[.int .i64 gm, .slice ra rn rc, .slice sa sn sc, .slice fa fn fc, .slice na nn nc] 26)).heap.size := by simp
  have h1 := tcheck_is (h.below b0) hC
  have hE := checkE_shape hC
  have z5 := List.all_eq_true.1 (shapeE_zero hE).2.2.2.2.1 (⟨#[]⟩, m.guest, m.root) List.mem_cons_self
  have z7 := List.all_eq_true.1 (shapeE_zero hE).2.2.2.2.2.2 (⟨#[]⟩, m.guest, m.root) List.mem_cons_self
  dsimp only at z5 z7
  have h2 := fun W (hW : Below w.heap.size w W) => allPages_is (hS.below hW) (hr.below hW) hE z5 z7
  rw [hgm] at h2 ⊢
  clear h hE z5 z7 hS hr hC
  go_enter Try.func14, Try.ntmps14
  go_wp2_with fail
  refine h1.mono ?_
  rintro e w1 ⟨rfl, b1⟩
  have m1 := cells_below m0 b1 z0
  have hB1 := Below.on b0 b1
  obtain ⟨a0, a1, a2, a3, a4⟩ := five m1
  clear h1
  go_wp2_with fail
  refine (h2 _ hB1).mono ?_
  rintro e w2 ⟨⟨v, rfl, hv⟩, b2⟩
  go_wp2_with fail
  go_ret2
  exact ⟨⟨v, rfl, hv⟩, Below.on hB1 b2⟩
theorem all_is {w : World} {v : Value} {m : ImgD} (h : Img w v m) {E : Int} {l : List ByteArray} (hE : checkE m = E) (hl : allV m = l) :
    Calls Try.prog 14 #[v] w fun r w' => (∃ v, r = .returned (.tuple #[v, .int .i64 E]) ∧ Ss w' v l) ∧ Below w.heap.size w w' := by
  have h' := h
  obtain ⟨ra, rc, sa, sc, fa, fc, na, nc, rfl, h1, h2, h3, h4⟩ := h.parts
  unfold allV at hl
  by_cases h0 : checkE m = 0
  · rw [if_pos h0] at hl
    rw [h0] at hE
    subst hE hl
    exact all_at' m.guest ra _ rc sa _ sc fa _ fc na _ nc m w h' h2 h1 rfl h0
  · rw [if_neg h0] at hl
    subst hl
    exact (all_bad m.guest ra _ rc sa _ sc fa _ fc na _ nc m E w h' hE (by rw [← hE]; simpa using h0)).mono fun _ w' h => ⟨⟨_, h.1, Ss.nil w'⟩, h.2⟩
end Go.Proofs.Ytehleeibgkpjmae
/- Contracts of slices.IndexFunc over snapshots, and of Past. -/
namespace Go.Proofs.Ytehleeibgkpjmae
open Go.RowKit Go.Shelf
end Go.Proofs.Ytehleeibgkpjmae
/- Contract of readsBegun: it answers true. -/
namespace Go.Proofs.Ytehleeibgkpjmae
open Go.RowKit Go.Shelf
end Go.Proofs.Ytehleeibgkpjmae
/- Contracts of the document's pageOf, ReadOf, AllOf, snapAt, PastOf. -/
namespace Go.Proofs.Ytehleeibgkpjmae
open Go.RowKit Go.Shelf
end Go.Proofs.Ytehleeibgkpjmae
/- Contract of the document's PastOf. -/
namespace Go.Proofs.Ytehleeibgkpjmae
open Go.RowKit Go.Shelf
end Go.Proofs.Ytehleeibgkpjmae
/- Contracts of checkAt, firstPages, Read, Write and Resize. -/
namespace Go.Proofs.Ytehleeibgkpjmae
open Go.RowKit
end Go.Proofs.Ytehleeibgkpjmae
/- Contracts of Split and of the document's SplitOf: the same pages. -/
namespace Go.Proofs.Ytehleeibgkpjmae
open Go.RowKit
set_option maxRecDepth 20000

def AnsS (w : World) (xs : List ByteArray) (err : Int) (r : Ending) (w' : World) : Prop :=
  ∃ v', r = .returned (.tuple #[v', .int .i64 err]) ∧ Ss w' v' xs ∧ Below w.heap.size w w'
theorem AnsS.bad (w : World) {xs : List ByteArray} {err : Int} (hx : xs = []) : AnsS w xs err (.returned (.tuple #[.slice none 0 0, .int .i64 err])) w :=
  ⟨_, rfl, hx ▸ Ss.nil w, Below.refl _ _⟩

end Go.Proofs.Ytehleeibgkpjmae
/- Contracts of checkAt, Read, Write, Resize, and of the document's FlatRead, FlatWrite, FlatResize. -/
namespace Go.Proofs.Ytehleeibgkpjmae
open Go.RowKit
end Go.Proofs.Ytehleeibgkpjmae
/- The walks of ReadsTells and ReadsTrue. -/
namespace Go.Proofs.Ytehleeibgkpjmae
open Go.RowKit Go.Shelf

end Go.Proofs.Ytehleeibgkpjmae
