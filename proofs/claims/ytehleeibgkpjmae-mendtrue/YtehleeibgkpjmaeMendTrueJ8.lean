/- Texts joined: SameI, TBegun, TTWalk, MTrue, SlotsIn, ImgIn, FitIn. -/
import Derived.Test.YtehleeibgkpjmaeMendTrueJ3
import Derived.Test.YtehleeibgkpjmaeMendTrueJ7
import Derived.Deep.RegionHeld3
import Derived.Test.YtehleeibgkpjmaeMendTrueJ2
import Derived.Test.YtehleeibgkpjmaeMendTrueJ4
import Derived.Test.YtehleeibgkpjmaeMendTrueJ1
import Derived.Deep.Strs
import Derived.Deep.Slices
import Derived.ProofKit
import Derived.Test.YtehleeibgkpjmaeMendTrueJ6
import Derived.SizedLaws
set_option linter.unusedVariables false
set_option linter.unusedSimpArgs false
/- Contract of SameImages: of one image, wherever it lies twice. -/
namespace Go.Proofs.Ytehleeibgkpjmae
open Go.RowKit Go.Shelf
set_option maxRecDepth 20000

set_option maxHeartbeats 4000000 in
theorem sameI_at (m : ImgD) (ra : Option Addr) (rc : Nat) (sa : Option Addr) (sc : Nat) (fa : Option Addr) (fc : Nat) (na : Option Addr) (nc : Nat) (rb : Option Addr) (rd : Nat) (sb : Option Addr) (sd : Nat) (fb : Option Addr) (fd : Nat) (nb : Option Addr) (nd : Nat) (w : World)
    (h1 : Sl w (.slice ra m.root.length rc) m.root) (h2 : Slots w (.slice sa m.slots.length sc) m.slots) (h3 : Sl w (.slice fa m.refs.length fc) m.refs) (h4 : Snaps w (.slice na m.snaps.length nc) m.snaps)
    (k1 : Sl w (.slice rb m.root.length rd) m.root) (k2 : Slots w (.slice sb m.slots.length sd) m.slots) (k3 : Sl w (.slice fb m.refs.length fd) m.refs) (k4 : Snaps w (.slice nb m.snaps.length nd) m.snaps) :
    Calls Try.prog 25 #[.agg #[.int .i64 m.guest, .slice ra m.root.length rc, .slice sa m.slots.length sc, .slice fa m.refs.length fc, .slice na m.snaps.length nc], .agg #[.int .i64 m.guest, .slice rb m.root.length rd, .slice sb m.slots.length sd, .slice fb m.refs.length fd, .slice nb m.snaps.length nd]] w fun r w' => r = .returned (.bool true) ∧ Below w.heap.size w w' := by
  have b0 : Below w.heap.size w ((w.alloc (.cells #[.int .i64 m.guest, .slice ra m.root.length rc, .slice sa m.slots.length sc, .slice fa m.refs.length fc, .slice na m.snaps.length nc] 26)).alloc (.cells #[.int .i64 m.guest, .slice rb m.root.length rd, .slice sb m.slots.length sd, .slice fb m.refs.length fd, .slice nb m.snaps.length nd] 26)) := ((Below.refl _ _).alloc (Nat.le_refl _) _).alloc (by simp) _
  have m0 : ((w.alloc (.cells #[.int .i64 m.guest, .slice ra m.root.length rc, .slice sa m.slots.length sc, .slice fa m.refs.length fc, .slice na m.snaps.length nc] 26)).alloc (.cells #[.int .i64 m.guest, .slice rb m.root.length rd, .slice sb m.slots.length sd, .slice fb m.refs.length fd, .slice nb m.snaps.length nd] 26)).heap[w.heap.size]? = some (.cells #[.int .i64 m.guest, .slice ra m.root.length rc, .slice sa m.slots.length sc, .slice fa m.refs.length fc, .slice na m.snaps.length nc] 26) := cells_alloc (World.alloc_heap_new _ _) _
  have m1 : ((w.alloc (.cells #[.int .i64 m.guest, .slice ra m.root.length rc, .slice sa m.slots.length sc, .slice fa m.refs.length fc, .slice na m.snaps.length nc] 26)).alloc (.cells #[.int .i64 m.guest, .slice rb m.root.length rd, .slice sb m.slots.length sd, .slice fb m.refs.length fd, .slice nb m.snaps.length nd] 26)).heap[w.heap.size + 1]? = some (.cells #[.int .i64 m.guest, .slice rb m.root.length rd, .slice sb m.slots.length sd, .slice fb m.refs.length fd, .slice nb m.snaps.length nd] 26) := by have := World.alloc_heap_new (w.alloc (.cells #[.int .i64 m.guest, .slice ra m.root.length rc, .slice sa m.slots.length sc, .slice fa m.refs.length fc, .slice na m.snaps.length nc] 26)) (.cells #[.int .i64 m.guest, .slice rb m.root.length rd, .slice sb m.slots.length sd, .slice fb m.refs.length fd, .slice nb m.snaps.length nd] 26); simpa using this
  obtain ⟨c0, c1, c2, c3, c4⟩ := five m0
  obtain ⟨d0, d1, d2, d3, d4⟩ := five m1
  have HR := same_any (h1.below b0) (k1.below b0)
  have HF := fun W (hW : Below w.heap.size w W) => same_any (h3.below hW) (k3.below hW)
  have HS : Hid (Slots w (.slice sa m.slots.length sc) m.slots ∧ Slots w (.slice sb m.slots.length sd) m.slots ∧ Snaps w (.slice na m.snaps.length nc) m.snaps ∧ Snaps w (.slice nb m.snaps.length nd) m.snaps) := ⟨h2, k2, h4, k4⟩
  have HL : Hid (m.slots.length ≤ 9223372036854775807 ∧ m.snaps.length ≤ 9223372036854775807) := ⟨h2.small, h4.small⟩
  clear h1 h2 h3 h4 k1 k2 k3 k4
  go_enter Try.func25, Try.ntmps25
  go_wp2_with (first
    | (go_at_call 18; refine (HF _ bw1).mono ?_; rintro e w2 ⟨rfl, b2⟩; have m4 := cells_below m2 b2 (Array.getElem?_eq_some_iff.1 m2).1; have m5 := cells_below m3 b2 (Array.getElem?_eq_some_iff.1 m3).1; obtain ⟨g0, g1, g2, g3, g4⟩ := five m4; obtain ⟨i0, i1, i2, i3, i4⟩ := five m5; have bw2 := Below.on bw1 b2)
    | (go_at_call 18; refine HR.mono ?_; rintro e w1 ⟨rfl, b1⟩; have m2 := cells_below m0 b1 (by simp <;> omega); have m3 := cells_below m1 b1 (by simp <;> omega); obtain ⟨e0, e1, e2, e3, e4⟩ := five m2; obtain ⟨f0, f1, f2, f3, f4⟩ := five m3; have bw1 := Below.on b0 b1))
  have HB : Hid (w2.heap[w.heap.size]? = some (.cells #[.int .i64 m.guest, .slice ra m.root.length rc, .slice sa m.slots.length sc, .slice fa m.refs.length fc, .slice na m.snaps.length nc] 26) ∧ w2.heap[w.heap.size + 1]? = some (.cells #[.int .i64 m.guest, .slice rb m.root.length rd, .slice sb m.slots.length sd, .slice fb m.refs.length fd, .slice nb m.snaps.length nd] 26) ∧ Below w.heap.size w w2) := ⟨m4, m5, bw2⟩
  clear c0 c1 c2 c3 c4 d0 d1 d2 d3 d4 e0 e1 e2 e3 e4 f0 f1 f2 f3 f4 g0 g1 g2 g3 g4 i0 i1 i2 i3 i4 m0 m1 m2 m3 m4 m5 b0 b1 b2 bw1 bw2 HR HF
  go_loopw [5] (fun i wr => ∃ k : Nat, k ≤ m.slots.length ∧ i = .int .i64 k ∧ Hid (wr.heap[w.heap.size]? = some (.cells #[.int .i64 m.guest, .slice ra m.root.length rc, .slice sa m.slots.length sc, .slice fa m.refs.length fc, .slice na m.snaps.length nc] 26) ∧ wr.heap[w.heap.size + 1]? = some (.cells #[.int .i64 m.guest, .slice rb m.root.length rd, .slice sb m.slots.length sd, .slice fb m.refs.length fd, .slice nb m.snaps.length nd] 26) ∧ Below w.heap.size w wr)) (fun i _ => m.slots.length - (intOf i).toNat)
  case atStart => exact ⟨0, Nat.zero_le _, rfl, HB⟩
  case round =>
    obtain ⟨k, hk, rfl, HC⟩ := hrel
    obtain ⟨mA, mB, hb⟩ := HC.out
    obtain ⟨c0, c1, c2, c3, c4⟩ := five mA
    obtain ⟨d0, d1, d2, d3, d4⟩ := five mB
    have hL := HL.out.1
    by_cases hlk : k < m.slots.length
    · have hki : (k : Int) < (m.slots.length : Int) := by omega
      have hL1 : (k : Int) + 1 ≤ 9223372036854775807 := by omega
      obtain ⟨pb, po, pc, e, _, hpl, hps⟩ := HS.out.1.open (by omega)
      simp at e
      obtain ⟨rfl, rfl⟩ := e
      obtain ⟨qb, qo, qc, e, _, hql, hqs⟩ := HS.out.2.1.open (by omega)
      simp at e
      obtain ⟨rfl, rfl⟩ := e
      obtain ⟨s, hs⟩ : ∃ s, m.slots[k] = s := ⟨_, rfl⟩
      obtain ⟨kk, dd, tt⟩ := s
      obtain ⟨tv, p0, p1, p2, ps⟩ := hps k hlk
      obtain ⟨uv, q0, q1, q2, qs⟩ := hqs k hlk
      rw [hs] at p0 p1 ps q0 q1 qs
      obtain ⟨ta, tc, rfl⟩ := ps.form
      obtain ⟨ua, uc, rfl⟩ := qs.form
      have p0 : wr.cell? ⟨pb, po + k * 3, none⟩ = some (.int .i64 kk) := (hb.cell (p := ⟨pb, po + k * 3, none⟩) hpl).trans p0
      have p1 : wr.cell? ⟨pb, po + k * 3 + 1, none⟩ = some (.string dd) := (hb.cell (p := ⟨pb, po + k * 3 + 1, none⟩) hpl).trans p1
      have p2 : wr.cell? ⟨pb, po + k * 3 + 1 + 1, none⟩ = some (.slice ta tt.length tc) := (hb.cell (p := ⟨pb, po + k * 3 + 1 + 1, none⟩) hpl).trans p2
      have q0 : wr.cell? ⟨qb, qo + k * 3, none⟩ = some (.int .i64 kk) := (hb.cell (p := ⟨qb, qo + k * 3, none⟩) hql).trans q0
      have q1 : wr.cell? ⟨qb, qo + k * 3 + 1, none⟩ = some (.string dd) := (hb.cell (p := ⟨qb, qo + k * 3 + 1, none⟩) hql).trans q1
      have q2 : wr.cell? ⟨qb, qo + k * 3 + 1 + 1, none⟩ = some (.slice ua tt.length uc) := (hb.cell (p := ⟨qb, qo + k * 3 + 1 + 1, none⟩) hql).trans q2
      have hcall := same_any (w := wr.drew) (ps.below (to_drew hb)) (qs.below (to_drew hb))
      have hpw : pb < wr.heap.size := Nat.lt_of_lt_of_le hpl hb.size
      have hqw : qb < wr.heap.size := Nat.lt_of_lt_of_le hql hb.size
      have HN : Hid (∀ W, Below wr.heap.size wr W → W.heap[w.heap.size]? = some (.cells #[.int .i64 m.guest, .slice ra m.root.length rc, .slice (some ⟨pb, po, none⟩) m.slots.length sc, .slice fa m.refs.length fc, .slice na m.snaps.length nc] 26) ∧ W.heap[w.heap.size + 1]? = some (.cells #[.int .i64 m.guest, .slice rb m.root.length rd, .slice (some ⟨qb, qo, none⟩) m.slots.length sd, .slice fb m.refs.length fd, .slice nb m.snaps.length nd] 26) ∧ Below w.heap.size w W) := fun W hW => ⟨cells_below mA hW (Array.getElem?_eq_some_iff.1 mA).1, cells_below mB hW (Array.getElem?_eq_some_iff.1 mB).1, Below.on hb hW⟩
      have HK : Hid (∀ W, Below wr.heap.size wr W → W.cell? ⟨w.heap.size, 0 + 1 + 1, none⟩ = some (.slice (some ⟨pb, po, none⟩) m.slots.length sc) ∧ W.cell? ⟨w.heap.size + 1, 0 + 1 + 1, none⟩ = some (.slice (some ⟨qb, qo, none⟩) m.slots.length sd) ∧ W.cell? ⟨pb, po + k * 3, none⟩ = some (.int .i64 kk) ∧ W.cell? ⟨pb, po + k * 3 + 1, none⟩ = some (.string dd) ∧ W.cell? ⟨pb, po + k * 3 + 1 + 1, none⟩ = some (.slice ta tt.length tc) ∧ W.cell? ⟨qb, qo + k * 3, none⟩ = some (.int .i64 kk) ∧ W.cell? ⟨qb, qo + k * 3 + 1, none⟩ = some (.string dd) ∧ W.cell? ⟨qb, qo + k * 3 + 1 + 1, none⟩ = some (.slice ua tt.length uc)) := fun W hW => ⟨(hW.cell (p := ⟨w.heap.size, 0 + 1 + 1, none⟩) (Array.getElem?_eq_some_iff.1 mA).1).trans c2, (hW.cell (p := ⟨w.heap.size + 1, 0 + 1 + 1, none⟩) (Array.getElem?_eq_some_iff.1 mB).1).trans d2, (hW.cell (p := ⟨pb, po + k * 3, none⟩) hpw).trans p0, (hW.cell (p := ⟨pb, po + k * 3 + 1, none⟩) hpw).trans p1, (hW.cell (p := ⟨pb, po + k * 3 + 1 + 1, none⟩) hpw).trans p2, (hW.cell (p := ⟨qb, qo + k * 3, none⟩) hqw).trans q0, (hW.cell (p := ⟨qb, qo + k * 3 + 1, none⟩) hqw).trans q1, (hW.cell (p := ⟨qb, qo + k * 3 + 1 + 1, none⟩) hqw).trans q2⟩
      clear hs mA mB ps qs hps hqs
      go_wp2_with fail
      go_region_held3 (fun W => W.cell? ⟨w.heap.size, 0 + 1 + 1, none⟩ = some (.slice (some ⟨pb, po, none⟩) m.slots.length sc) ∧ W.cell? ⟨w.heap.size + 1, 0 + 1 + 1, none⟩ = some (.slice (some ⟨qb, qo, none⟩) m.slots.length sd) ∧ W.cell? ⟨pb, po + k * 3, none⟩ = some (.int .i64 kk) ∧ W.cell? ⟨pb, po + k * 3 + 1, none⟩ = some (.string dd) ∧ W.cell? ⟨pb, po + k * 3 + 1 + 1, none⟩ = some (.slice ta tt.length tc) ∧ W.cell? ⟨qb, qo + k * 3, none⟩ = some (.int .i64 kk) ∧ W.cell? ⟨qb, qo + k * 3 + 1, none⟩ = some (.string dd) ∧ W.cell? ⟨qb, qo + k * 3 + 1 + 1, none⟩ = some (.slice ua tt.length uc)) (first | exact HK.out _ b3 | exact HK.out _ (to_drew (Below.refl _ _)))
        (first | (go_at_call 18; refine hcall.mono ?_; rintro e w3 ⟨rfl, b3⟩; have b3 := below_drew b3))
      go_wp2_with fail
      go_roundw
      case rel => exact ⟨k + 1, by omega, by go_num, HN.out _ b3⟩
      case measure => simp [intOf]; omega
    · have ek : k = m.slots.length := by omega
      subst ek
      obtain ⟨x, hrn⟩ : ∃ X, X = wr := ⟨_, rfl⟩
      subst hrn
      go_wp2_with fail
      clear c0 c1 c2 c3 c4 d0 d1 d2 d3 d4 mA mB hb hL
      go_loopw [6] (fun i wr => ∃ l : Nat, l ≤ m.snaps.length ∧ i = .int .i64 l ∧ Hid (wr.heap[w.heap.size]? = some (.cells #[.int .i64 m.guest, .slice ra m.root.length rc, .slice sa m.slots.length sc, .slice fa m.refs.length fc, .slice na m.snaps.length nc] 26) ∧ wr.heap[w.heap.size + 1]? = some (.cells #[.int .i64 m.guest, .slice rb m.root.length rd, .slice sb m.slots.length sd, .slice fb m.refs.length fd, .slice nb m.snaps.length nd] 26) ∧ Below w.heap.size w wr)) (fun i _ => m.snaps.length - (intOf i).toNat)
      case atStart => exact ⟨0, Nat.zero_le _, rfl, HC⟩
      case round =>
        obtain ⟨l, hl, rfl, HD⟩ := hrel
        obtain ⟨mA, mB, hb⟩ := HD.out
        obtain ⟨c0, c1, c2, c3, c4⟩ := five mA
        obtain ⟨d0, d1, d2, d3, d4⟩ := five mB
        have hL := HL.out.2
        by_cases hll : l < m.snaps.length
        · have hki : (l : Int) < (m.snaps.length : Int) := by omega
          have hL1 : (l : Int) + 1 ≤ 9223372036854775807 := by omega
          obtain ⟨pb, po, pc, e, _, hpl, hps⟩ := HS.out.2.2.1.open (by omega)
          simp at e
          obtain ⟨rfl, rfl⟩ := e
          obtain ⟨qb, qo, qc, e, _, hql, hqs⟩ := HS.out.2.2.2.open (by omega)
          simp at e
          obtain ⟨rfl, rfl⟩ := e
          obtain ⟨s, hs⟩ : ∃ s, m.snaps[l] = s := ⟨_, rfl⟩
          obtain ⟨nm, sg, tt⟩ := s
          obtain ⟨tv, p0, p1, p2, ps⟩ := hps l hll
          obtain ⟨uv, q0, q1, q2, qs⟩ := hqs l hll
          rw [hs] at p0 p1 ps q0 q1 qs
          obtain ⟨ta, tc, rfl⟩ := ps.form
          obtain ⟨ua, uc, rfl⟩ := qs.form
          have p0 : wr.cell? ⟨pb, po + l * 3, none⟩ = some (.string nm) := (hb.cell (p := ⟨pb, po + l * 3, none⟩) hpl).trans p0
          have p1 : wr.cell? ⟨pb, po + l * 3 + 1, none⟩ = some (.int .i64 sg) := (hb.cell (p := ⟨pb, po + l * 3 + 1, none⟩) hpl).trans p1
          have p2 : wr.cell? ⟨pb, po + l * 3 + 1 + 1, none⟩ = some (.slice ta tt.length tc) := (hb.cell (p := ⟨pb, po + l * 3 + 1 + 1, none⟩) hpl).trans p2
          have q0 : wr.cell? ⟨qb, qo + l * 3, none⟩ = some (.string nm) := (hb.cell (p := ⟨qb, qo + l * 3, none⟩) hql).trans q0
          have q1 : wr.cell? ⟨qb, qo + l * 3 + 1, none⟩ = some (.int .i64 sg) := (hb.cell (p := ⟨qb, qo + l * 3 + 1, none⟩) hql).trans q1
          have q2 : wr.cell? ⟨qb, qo + l * 3 + 1 + 1, none⟩ = some (.slice ua tt.length uc) := (hb.cell (p := ⟨qb, qo + l * 3 + 1 + 1, none⟩) hql).trans q2
          have hcall := same_any (w := wr.drew) (ps.below (to_drew hb)) (qs.below (to_drew hb))
          have hpw : pb < wr.heap.size := Nat.lt_of_lt_of_le hpl hb.size
          have hqw : qb < wr.heap.size := Nat.lt_of_lt_of_le hql hb.size
          have HN : Hid (∀ W, Below wr.heap.size wr W → W.heap[w.heap.size]? = some (.cells #[.int .i64 m.guest, .slice ra m.root.length rc, .slice sa m.slots.length sc, .slice fa m.refs.length fc, .slice (some ⟨pb, po, none⟩) m.snaps.length nc] 26) ∧ W.heap[w.heap.size + 1]? = some (.cells #[.int .i64 m.guest, .slice rb m.root.length rd, .slice sb m.slots.length sd, .slice fb m.refs.length fd, .slice (some ⟨qb, qo, none⟩) m.snaps.length nd] 26) ∧ Below w.heap.size w W) := fun W hW => ⟨cells_below mA hW (Array.getElem?_eq_some_iff.1 mA).1, cells_below mB hW (Array.getElem?_eq_some_iff.1 mB).1, Below.on hb hW⟩
          have HK : Hid (∀ W, Below wr.heap.size wr W → W.cell? ⟨w.heap.size, 0 + 1 + 1 + 1 + 1, none⟩ = some (.slice (some ⟨pb, po, none⟩) m.snaps.length nc) ∧ W.cell? ⟨w.heap.size + 1, 0 + 1 + 1 + 1 + 1, none⟩ = some (.slice (some ⟨qb, qo, none⟩) m.snaps.length nd) ∧ W.cell? ⟨pb, po + l * 3, none⟩ = some (.string nm) ∧ W.cell? ⟨pb, po + l * 3 + 1, none⟩ = some (.int .i64 sg) ∧ W.cell? ⟨pb, po + l * 3 + 1 + 1, none⟩ = some (.slice ta tt.length tc) ∧ W.cell? ⟨qb, qo + l * 3, none⟩ = some (.string nm) ∧ W.cell? ⟨qb, qo + l * 3 + 1, none⟩ = some (.int .i64 sg) ∧ W.cell? ⟨qb, qo + l * 3 + 1 + 1, none⟩ = some (.slice ua tt.length uc)) := fun W hW => ⟨(hW.cell (p := ⟨w.heap.size, 0 + 1 + 1 + 1 + 1, none⟩) (Array.getElem?_eq_some_iff.1 mA).1).trans c4, (hW.cell (p := ⟨w.heap.size + 1, 0 + 1 + 1 + 1 + 1, none⟩) (Array.getElem?_eq_some_iff.1 mB).1).trans d4, (hW.cell (p := ⟨pb, po + l * 3, none⟩) hpw).trans p0, (hW.cell (p := ⟨pb, po + l * 3 + 1, none⟩) hpw).trans p1, (hW.cell (p := ⟨pb, po + l * 3 + 1 + 1, none⟩) hpw).trans p2, (hW.cell (p := ⟨qb, qo + l * 3, none⟩) hqw).trans q0, (hW.cell (p := ⟨qb, qo + l * 3 + 1, none⟩) hqw).trans q1, (hW.cell (p := ⟨qb, qo + l * 3 + 1 + 1, none⟩) hqw).trans q2⟩
          clear hs mA mB ps qs hps hqs
          go_wp2_with fail
          go_region_held3 (fun W => W.cell? ⟨w.heap.size, 0 + 1 + 1 + 1 + 1, none⟩ = some (.slice (some ⟨pb, po, none⟩) m.snaps.length nc) ∧ W.cell? ⟨w.heap.size + 1, 0 + 1 + 1 + 1 + 1, none⟩ = some (.slice (some ⟨qb, qo, none⟩) m.snaps.length nd) ∧ W.cell? ⟨pb, po + l * 3, none⟩ = some (.string nm) ∧ W.cell? ⟨pb, po + l * 3 + 1, none⟩ = some (.int .i64 sg) ∧ W.cell? ⟨pb, po + l * 3 + 1 + 1, none⟩ = some (.slice ta tt.length tc) ∧ W.cell? ⟨qb, qo + l * 3, none⟩ = some (.string nm) ∧ W.cell? ⟨qb, qo + l * 3 + 1, none⟩ = some (.int .i64 sg) ∧ W.cell? ⟨qb, qo + l * 3 + 1 + 1, none⟩ = some (.slice ua tt.length uc)) (first | exact HK.out _ b3 | exact HK.out _ (to_drew (Below.refl _ _)))
            (first | (go_at_call 18; refine hcall.mono ?_; rintro e w3 ⟨rfl, b3⟩; have b3 := below_drew b3))
          go_wp2_with fail
          go_roundw
          case rel => exact ⟨l + 1, by omega, by go_num, HN.out _ b3⟩
          case measure => simp [intOf]; omega
        · have el : l = m.snaps.length := by omega
          subst el
          go_wp2_with fail
          go_ret
          exact ⟨rfl, hb⟩
theorem sameI_is {w : World} {v u : Value} {m : ImgD} (h : Img w v m) (k : Img w u m) : Calls Try.prog 25 #[v, u] w fun r w' => r = .returned (.bool true) ∧ Below w.heap.size w w' := by
  obtain ⟨ra, rc, sa, sc, fa, fc, na, nc, rfl, h1, h2, h3, h4⟩ := h.parts
  obtain ⟨rb, rd, sb, sd, fb, fd, nb, nd, rfl, k1, k2, k3, k4⟩ := k.parts
  exact sameI_at m ra rc sa sc fa fc na nc rb rd sb sd fb fd nb nd w h1 h2 h3 h4 k1 k2 k3 k4
end Go.Proofs.Ytehleeibgkpjmae
/- Contract of treeBegun: it answers true. -/
namespace Go.Proofs.Ytehleeibgkpjmae
open Go.RowKit Go.Shelf
end Go.Proofs.Ytehleeibgkpjmae
/- The walk of TreeTrue. -/
namespace Go.Proofs.Ytehleeibgkpjmae
open Go.RowKit Go.Shelf
set_option maxRecDepth 20000

theorem choose_any (c : Int) (n : Nat) (w : World) (h0 : 0 < n) (hn : n ≤ 16) (hlo : -9223372036854775808 ≤ c) (hhi : c ≤ 9223372036854775807) :
    Calls Try.prog 26 #[.int .i64 c, .int .i64 n] w fun r w' => (∃ j : Nat, j < n ∧ r = .returned (.int .i64 j)) ∧ w' = w := by
  have hne : ((n : Int) == 0) = false := by simp; omega
  have hne2 : ¬ (n : Int) = 0 := by omega
  by_cases h : c < 0
  · go_enter Try.func26, Try.ntmps26
    go_wp2
    go_ret
    have h1 : 0 ≤ -(c + 1) := by omega
    refine ⟨⟨(-(c + 1) % (n : Int)).toNat, ?_, ret_int ?_⟩, rfl⟩
    · have := Int.emod_lt_of_pos (-(c + 1)) (show (0 : Int) < n by omega)
      have := Int.emod_nonneg (-(c + 1)) hne2
      omega
    · have := Int.emod_nonneg (-(c + 1)) hne2
      rw [← Int.neg_tmod, Int.tmod_eq_emod_of_nonneg h1]
      omega
  · go_enter Try.func26, Try.ntmps26
    go_wp2
    go_ret
    have h1 : 0 ≤ c := by omega
    refine ⟨⟨(c % (n : Int)).toNat, ?_, ret_int ?_⟩, rfl⟩
    · have := Int.emod_lt_of_pos c (show (0 : Int) < n by omega)
      have := Int.emod_nonneg c hne2
      omega
    · have := Int.emod_nonneg c hne2
      try rw [Int.tmod_eq_emod_of_nonneg h1]
      omega

end Go.Proofs.Ytehleeibgkpjmae
/- The walk of MendTrue. -/
namespace Go.Proofs.Ytehleeibgkpjmae
open Go.RowKit Go.Shelf
set_option maxRecDepth 20000

theorem counted_read {m : ImgD} (h : shapeE m = 0) {j : Nat} (hj : (j : Int) < m.guest) : lookE (countedD m) j = 0 ∧ readV (countedD m) j = pageV m.slots (lookV m m.root (j : Int).toNat) := by
  have hc := counted_right h
  have hg := guest_ok h
  have hr := root_ok h
  have hl : lookE (countedD m) j = 0 := by
    unfold lookE
    rw [if_neg (fun x => x hc), if_pos ⟨by omega, hj⟩]
  refine ⟨hl, ?_⟩
  unfold readV
  rw [if_pos hl, Int.toNat_natCast]
  have hm : (⟨⟨#[]⟩, m.guest, m.root⟩ : SnapD) ∈ rootsOf m := List.mem_cons_self
  have e1 := lookV_counted h hm (n := j) (by show j / 4 < m.root.length; omega)
  have e2 := pageV_counted h hm (n := j) (by show j / 4 < m.root.length; omega)
  have e1 : lookV (countedD m) (countedD m).root j = lookV m m.root j := e1
  rw [e1]
  exact e2
theorem counted_len (m : ImgD) : (countedD m).slots.length = m.slots.length := freeUn_length _ _

set_option maxHeartbeats 4000000 in
theorem mtrue_bad (ra : Option Addr) (rc : Nat) (sa : Option Addr) (sc : Nat) (fa : Option Addr) (fc : Nat) (na : Option Addr) (nc : Nat) (m : ImgD) (n : Int) (w : World) (h : Img w (.agg #[.int .i64 m.guest, .slice ra m.root.length rc, .slice sa m.slots.length sc, .slice fa m.refs.length fc, .slice na m.snaps.length nc]) m) (hF : Fits m) (E : Int) (hE : shapeE m = E) (hne : E ≠ 0) (hnb : (E != 0) = true) :
    Calls Try.prog 7 #[.agg #[.int .i64 m.guest, .slice ra m.root.length rc, .slice sa m.slots.length sc, .slice fa m.refs.length fc, .slice na m.snaps.length nc], .int .i64 n] w fun r w' => r = .returned (.bool true) ∧ Below w.heap.size w w' := by
  have hB : Below w.heap.size w (w.alloc (.cells #[.int .i64 m.guest, .slice ra m.root.length rc, .slice sa m.slots.length sc, .slice fa m.refs.length fc, .slice na m.snaps.length nc] 26)) := (Below.refl _ _).alloc (Nat.le_refl _) _
  have mb_m : (w.alloc (.cells #[.int .i64 m.guest, .slice ra m.root.length rc, .slice sa m.slots.length sc, .slice fa m.refs.length fc, .slice na m.snaps.length nc] 26)).heap[w.heap.size]? = some (.cells #[.int .i64 m.guest, .slice ra m.root.length rc, .slice sa m.slots.length sc, .slice fa m.refs.length fc, .slice na m.snaps.length nc] 26) := World.alloc_heap_new _ _
  have I_m := h.below hB
  clear h
  go_enter Try.func7, Try.ntmps7
  obtain ⟨m0, m1, m2, m3, m4⟩ := five mb_m
  go_wp2_with fail
  refine (repair_bad I_m hF hE hne).mono ?_
  intro e w1 hA
  obtain ⟨val, xr, xrc, xs, xsc, xf, xfc, xn, xnc, rfl, hO, bb, hI⟩ := hA.open
  dsimp only
  have I_x := hO.img
  rw [hI] at I_x
  clear hA hO hI
  rw [show imgZ.guest = 0 from rfl, show imgZ.root.length = 0 from rfl, show imgZ.slots.length = 0 from rfl, show imgZ.refs.length = 0 from rfl, show imgZ.snaps.length = 0 from rfl] at I_x ⊢
  clear m0 m1 m2 m3 m4
  replace mb_m := cells_below mb_m bb (Array.getElem?_eq_some_iff.1 mb_m).1
  replace hB := Below.on hB bb
  replace I_m := I_m.below bb
  clear bb
  replace mb_m := cells_alloc mb_m (.cells #[.int .i64 0, .slice xr 0 xrc, .slice xs 0 xsc, .slice xf 0 xfc, .slice xn 0 xnc] 26)
  have ba : Below w1.heap.size w1 (w1.alloc (.cells #[.int .i64 0, .slice xr 0 xrc, .slice xs 0 xsc, .slice xf 0 xfc, .slice xn 0 xnc] 26)) := (Below.refl _ _).alloc (Nat.le_refl _) _
  replace hB := Below.on hB ba
  replace I_m := I_m.below ba
  replace I_x := I_x.below ba
  clear ba
  have mb_x : (w1.alloc (.cells #[.int .i64 0, .slice xr 0 xrc, .slice xs 0 xsc, .slice xf 0 xfc, .slice xn 0 xnc] 26)).heap[w1.heap.size]? = some (.cells #[.int .i64 0, .slice xr 0 xrc, .slice xs 0 xsc, .slice xf 0 xfc, .slice xn 0 xnc] 26) := World.alloc_heap_new _ _
  obtain ⟨m0, m1, m2, m3, m4⟩ := five mb_m
  obtain ⟨x0, x1, x2, x3, x4⟩ := five mb_x
  go_wp2_with fail
  refine (mendBegun_any _).mono ?_
  rintro e w2 ⟨rfl, bb⟩
  clear m0 m1 m2 m3 m4 x0 x1 x2 x3 x4
  replace mb_m := cells_below mb_m bb (Array.getElem?_eq_some_iff.1 mb_m).1
  replace mb_x := cells_below mb_x bb (Array.getElem?_eq_some_iff.1 mb_x).1
  replace hB := Below.on hB bb
  replace I_m := I_m.below bb
  replace I_x := I_x.below bb
  clear bb
  obtain ⟨m0, m1, m2, m3, m4⟩ := five mb_m
  obtain ⟨x0, x1, x2, x3, x4⟩ := five mb_x
  go_wp2_with fail
  go_ret
  exact ⟨rfl, hB⟩

set_option maxHeartbeats 8000000 in
theorem mtrue_cg (ra : Option Addr) (rc : Nat) (sa : Option Addr) (sc : Nat) (fa : Option Addr) (fc : Nat) (na : Option Addr) (nc : Nat) (m : ImgD) (n : Int) (w : World) (hg : m.guest < 1) (h : Img w (.agg #[.int .i64 m.guest, .slice ra m.root.length rc, .slice sa m.slots.length sc, .slice fa m.refs.length fc, .slice na m.snaps.length nc]) m) (hF : Fits m) (hE : shapeE m = 0) (C : Int) (hC : checkE m = C) (hCb : (C == 0) = true) :
    Calls Try.prog 7 #[.agg #[.int .i64 m.guest, .slice ra m.root.length rc, .slice sa m.slots.length sc, .slice fa m.refs.length fc, .slice na m.snaps.length nc], .int .i64 n] w fun r w' => r = .returned (.bool true) ∧ Below w.heap.size w w' := by
  have hB : Below w.heap.size w (w.alloc (.cells #[.int .i64 m.guest, .slice ra m.root.length rc, .slice sa m.slots.length sc, .slice fa m.refs.length fc, .slice na m.snaps.length nc] 26)) := (Below.refl _ _).alloc (Nat.le_refl _) _
  have mb_m : (w.alloc (.cells #[.int .i64 m.guest, .slice ra m.root.length rc, .slice sa m.slots.length sc, .slice fa m.refs.length fc, .slice na m.snaps.length nc] 26)).heap[w.heap.size]? = some (.cells #[.int .i64 m.guest, .slice ra m.root.length rc, .slice sa m.slots.length sc, .slice fa m.refs.length fc, .slice na m.snaps.length nc] 26) := World.alloc_heap_new _ _
  have I_m := h.below hB
  obtain ⟨X, hX⟩ : ∃ X, countedD m = X := ⟨_, rfl⟩
  obtain ⟨u, hu⟩ : ∃ u, usedN m.slots = u := ⟨_, rfl⟩
  obtain ⟨v, hv⟩ : ∃ v, usedN X.slots = v := ⟨_, rfl⟩
  obtain ⟨l, hl⟩ : ∃ l, leaksA m = l := ⟨_, rfl⟩
  have hcR := counted_right hE
  have hs0 := (shapeE_zero hE).2.1
  have hs1 := (shapeE_zero (counted_shape hE)).2.1
  have hu40 : u ≤ 40 := by rw [← hu]; exact Nat.le_trans (usedN_le _) (slotsE_parts hs0).2
  have hv40 : v ≤ 40 := by rw [← hv, ← hX]; exact Nat.le_trans (usedN_le _) (slotsE_parts hs1).2
  have hul : v + l = u := by
    rw [← hv, ← hu, ← hl, ← hX]
    unfold leaksA
    rw [if_pos hE]
    exact used_leak _ _
  have hsub : ((u : Int) - (v : Int) != (l : Int)) = false := by simp; omega
  have HM : Hid (shapeE m = 0 ∧ slotsE m.slots = 0 ∧ usedN m.slots = u ∧ leaksA m = l) := ⟨hE, hs0, hu, hl⟩
  have HX : Hid (countedD m = X ∧ shapeE X = 0 ∧ leaksA X = 0 ∧ countedD X = X ∧ slotsE X.slots = 0 ∧ usedN X.slots = v ∧ checkE X = 0) := by
    subst hX
    exact ⟨rfl, counted_shape hE, by unfold leaksA; rw [if_pos (counted_shape hE)]; exact leak_none hcR, counted_same hcR, hs1, hv, hcR⟩
  have HC : Hid (checkE m = C) := hC
  have HXm : Hid (X = m) := by rw [← hX]; exact counted_same (by rw [hC]; simpa using hCb)
  clear h hE hu hv hl hcR hs0 hs1 hul hX hC
  go_enter Try.func7, Try.ntmps7
  obtain ⟨m0, m1, m2, m3, m4⟩ := five mb_m
  go_wp2_with fail
  refine (repair_ok I_m hF HM.out.1 HX.out.1).mono ?_
  intro e w1 hA
  obtain ⟨val, xr, xrc, xs, xsc, xf, xfc, xn, xnc, rfl, hO, bb, hI⟩ := hA.open
  dsimp only
  have I_x := hO.img
  rw [hI] at I_x
  clear hA hO hI
  clear m0 m1 m2 m3 m4
  replace mb_m := cells_below mb_m bb (Array.getElem?_eq_some_iff.1 mb_m).1
  replace hB := Below.on hB bb
  replace I_m := I_m.below bb
  clear bb
  replace mb_m := cells_alloc mb_m (.cells #[.int .i64 X.guest, .slice xr X.root.length xrc, .slice xs X.slots.length xsc, .slice xf X.refs.length xfc, .slice xn X.snaps.length xnc] 26)
  have ba : Below w1.heap.size w1 (w1.alloc (.cells #[.int .i64 X.guest, .slice xr X.root.length xrc, .slice xs X.slots.length xsc, .slice xf X.refs.length xfc, .slice xn X.snaps.length xnc] 26)) := (Below.refl _ _).alloc (Nat.le_refl _) _
  replace hB := Below.on hB ba
  replace I_m := I_m.below ba
  replace I_x := I_x.below ba
  clear ba
  have mb_x : (w1.alloc (.cells #[.int .i64 X.guest, .slice xr X.root.length xrc, .slice xs X.slots.length xsc, .slice xf X.refs.length xfc, .slice xn X.snaps.length xnc] 26)).heap[w1.heap.size]? = some (.cells #[.int .i64 X.guest, .slice xr X.root.length xrc, .slice xs X.slots.length xsc, .slice xf X.refs.length xfc, .slice xn X.snaps.length xnc] 26) := World.alloc_heap_new _ _
  obtain ⟨m0, m1, m2, m3, m4⟩ := five mb_m
  obtain ⟨x0, x1, x2, x3, x4⟩ := five mb_x
  go_wp2_with fail
  refine (leaks_is I_x HX.out.2.1 HX.out.2.2.1).mono ?_
  rintro e w2 ⟨rfl, bb⟩
  clear m0 m1 m2 m3 m4 x0 x1 x2 x3 x4
  replace mb_m := cells_below mb_m bb (Array.getElem?_eq_some_iff.1 mb_m).1
  replace mb_x := cells_below mb_x bb (Array.getElem?_eq_some_iff.1 mb_x).1
  replace hB := Below.on hB bb
  replace I_m := I_m.below bb
  replace I_x := I_x.below bb
  clear bb
  obtain ⟨m0, m1, m2, m3, m4⟩ := five mb_m
  obtain ⟨x0, x1, x2, x3, x4⟩ := five mb_x
  go_wp2_with fail
  refine (repair_ok I_x (fits_of_shape HX.out.2.1) HX.out.2.1 HX.out.2.2.2.1).mono ?_
  intro e w3 hA
  obtain ⟨val, yr, yrc, ys, ysc, yf, yfc, yn, ync, rfl, hO, bb, hI⟩ := hA.open
  dsimp only
  have I_y := hO.img
  rw [hI] at I_y
  clear hA hO hI
  clear m0 m1 m2 m3 m4 x0 x1 x2 x3 x4
  replace mb_m := cells_below mb_m bb (Array.getElem?_eq_some_iff.1 mb_m).1
  replace mb_x := cells_below mb_x bb (Array.getElem?_eq_some_iff.1 mb_x).1
  replace hB := Below.on hB bb
  replace I_m := I_m.below bb
  replace I_x := I_x.below bb
  clear bb
  replace mb_m := cells_alloc mb_m (.cells #[.int .i64 X.guest, .slice yr X.root.length yrc, .slice ys X.slots.length ysc, .slice yf X.refs.length yfc, .slice yn X.snaps.length ync] 26)
  replace mb_x := cells_alloc mb_x (.cells #[.int .i64 X.guest, .slice yr X.root.length yrc, .slice ys X.slots.length ysc, .slice yf X.refs.length yfc, .slice yn X.snaps.length ync] 26)
  have ba : Below w3.heap.size w3 (w3.alloc (.cells #[.int .i64 X.guest, .slice yr X.root.length yrc, .slice ys X.slots.length ysc, .slice yf X.refs.length yfc, .slice yn X.snaps.length ync] 26)) := (Below.refl _ _).alloc (Nat.le_refl _) _
  replace hB := Below.on hB ba
  replace I_m := I_m.below ba
  replace I_x := I_x.below ba
  replace I_y := I_y.below ba
  clear ba
  have mb_y : (w3.alloc (.cells #[.int .i64 X.guest, .slice yr X.root.length yrc, .slice ys X.slots.length ysc, .slice yf X.refs.length yfc, .slice yn X.snaps.length ync] 26)).heap[w3.heap.size]? = some (.cells #[.int .i64 X.guest, .slice yr X.root.length yrc, .slice ys X.slots.length ysc, .slice yf X.refs.length yfc, .slice yn X.snaps.length ync] 26) := World.alloc_heap_new _ _
  obtain ⟨m0, m1, m2, m3, m4⟩ := five mb_m
  obtain ⟨x0, x1, x2, x3, x4⟩ := five mb_x
  obtain ⟨y0, y1, y2, y3, y4⟩ := five mb_y
  go_wp2_with fail
  refine (used_is I_m.four.2.1 HM.out.2.1 HM.out.2.2.1).mono ?_
  rintro e w4 ⟨rfl, bb⟩
  clear m0 m1 m2 m3 m4 x0 x1 x2 x3 x4 y0 y1 y2 y3 y4
  replace mb_m := cells_below mb_m bb (Array.getElem?_eq_some_iff.1 mb_m).1
  replace mb_x := cells_below mb_x bb (Array.getElem?_eq_some_iff.1 mb_x).1
  replace mb_y := cells_below mb_y bb (Array.getElem?_eq_some_iff.1 mb_y).1
  replace hB := Below.on hB bb
  replace I_m := I_m.below bb
  replace I_x := I_x.below bb
  replace I_y := I_y.below bb
  clear bb
  obtain ⟨m0, m1, m2, m3, m4⟩ := five mb_m
  obtain ⟨x0, x1, x2, x3, x4⟩ := five mb_x
  obtain ⟨y0, y1, y2, y3, y4⟩ := five mb_y
  go_wp2_with fail
  refine (used_is I_x.four.2.1 HX.out.2.2.2.2.1 HX.out.2.2.2.2.2.1).mono ?_
  rintro e w5 ⟨rfl, bb⟩
  clear m0 m1 m2 m3 m4 x0 x1 x2 x3 x4 y0 y1 y2 y3 y4
  replace mb_m := cells_below mb_m bb (Array.getElem?_eq_some_iff.1 mb_m).1
  replace mb_x := cells_below mb_x bb (Array.getElem?_eq_some_iff.1 mb_x).1
  replace mb_y := cells_below mb_y bb (Array.getElem?_eq_some_iff.1 mb_y).1
  replace hB := Below.on hB bb
  replace I_m := I_m.below bb
  replace I_x := I_x.below bb
  replace I_y := I_y.below bb
  clear bb
  obtain ⟨m0, m1, m2, m3, m4⟩ := five mb_m
  obtain ⟨x0, x1, x2, x3, x4⟩ := five mb_x
  obtain ⟨y0, y1, y2, y3, y4⟩ := five mb_y
  go_wp2_with fail
  refine (leaks_is I_m HM.out.1 HM.out.2.2.2).mono ?_
  rintro e w6 ⟨rfl, bb⟩
  clear m0 m1 m2 m3 m4 x0 x1 x2 x3 x4 y0 y1 y2 y3 y4
  replace mb_m := cells_below mb_m bb (Array.getElem?_eq_some_iff.1 mb_m).1
  replace mb_x := cells_below mb_x bb (Array.getElem?_eq_some_iff.1 mb_x).1
  replace mb_y := cells_below mb_y bb (Array.getElem?_eq_some_iff.1 mb_y).1
  replace hB := Below.on hB bb
  replace I_m := I_m.below bb
  replace I_x := I_x.below bb
  replace I_y := I_y.below bb
  clear bb
  obtain ⟨m0, m1, m2, m3, m4⟩ := five mb_m
  obtain ⟨x0, x1, x2, x3, x4⟩ := five mb_x
  obtain ⟨y0, y1, y2, y3, y4⟩ := five mb_y
  go_wp2_with fail
  refine (tcheck_is I_x HX.out.2.2.2.2.2.2).mono ?_
  rintro e w7 ⟨rfl, bb⟩
  clear m0 m1 m2 m3 m4 x0 x1 x2 x3 x4 y0 y1 y2 y3 y4
  replace mb_m := cells_below mb_m bb (Array.getElem?_eq_some_iff.1 mb_m).1
  replace mb_x := cells_below mb_x bb (Array.getElem?_eq_some_iff.1 mb_x).1
  replace mb_y := cells_below mb_y bb (Array.getElem?_eq_some_iff.1 mb_y).1
  replace hB := Below.on hB bb
  replace I_m := I_m.below bb
  replace I_x := I_x.below bb
  replace I_y := I_y.below bb
  clear bb
  obtain ⟨m0, m1, m2, m3, m4⟩ := five mb_m
  obtain ⟨x0, x1, x2, x3, x4⟩ := five mb_x
  obtain ⟨y0, y1, y2, y3, y4⟩ := five mb_y
  go_wp2_with fail
  refine (sameI_is I_x I_y).mono ?_
  rintro e w8 ⟨rfl, bb⟩
  clear m0 m1 m2 m3 m4 x0 x1 x2 x3 x4 y0 y1 y2 y3 y4
  replace mb_m := cells_below mb_m bb (Array.getElem?_eq_some_iff.1 mb_m).1
  replace mb_x := cells_below mb_x bb (Array.getElem?_eq_some_iff.1 mb_x).1
  replace mb_y := cells_below mb_y bb (Array.getElem?_eq_some_iff.1 mb_y).1
  replace hB := Below.on hB bb
  replace I_m := I_m.below bb
  replace I_x := I_x.below bb
  replace I_y := I_y.below bb
  clear bb
  clear mb_y
  clear I_y
  obtain ⟨m0, m1, m2, m3, m4⟩ := five mb_m
  obtain ⟨x0, x1, x2, x3, x4⟩ := five mb_x
  go_wp2_with fail
  refine (tcheck_is I_m HC.out).mono ?_
  rintro e w9 ⟨rfl, bb⟩
  clear m0 m1 m2 m3 m4 x0 x1 x2 x3 x4
  replace mb_m := cells_below mb_m bb (Array.getElem?_eq_some_iff.1 mb_m).1
  replace mb_x := cells_below mb_x bb (Array.getElem?_eq_some_iff.1 mb_x).1
  replace hB := Below.on hB bb
  replace I_m := I_m.below bb
  replace I_x := I_x.below bb
  clear bb
  obtain ⟨m0, m1, m2, m3, m4⟩ := five mb_m
  obtain ⟨x0, x1, x2, x3, x4⟩ := five mb_x
  go_wp2_with fail
  refine (sameI_is I_x (by rw [HXm.out]; exact I_m)).mono ?_
  rintro e w10 ⟨rfl, bb⟩
  clear m0 m1 m2 m3 m4 x0 x1 x2 x3 x4
  replace mb_m := cells_below mb_m bb (Array.getElem?_eq_some_iff.1 mb_m).1
  replace mb_x := cells_below mb_x bb (Array.getElem?_eq_some_iff.1 mb_x).1
  replace hB := Below.on hB bb
  replace I_m := I_m.below bb
  replace I_x := I_x.below bb
  clear bb
  obtain ⟨m0, m1, m2, m3, m4⟩ := five mb_m
  obtain ⟨x0, x1, x2, x3, x4⟩ := five mb_x
  go_wp2_with fail
  refine (mendBegun_any _).mono ?_
  rintro e w11 ⟨rfl, bb⟩
  clear m0 m1 m2 m3 m4 x0 x1 x2 x3 x4
  replace mb_m := cells_below mb_m bb (Array.getElem?_eq_some_iff.1 mb_m).1
  replace mb_x := cells_below mb_x bb (Array.getElem?_eq_some_iff.1 mb_x).1
  replace hB := Below.on hB bb
  replace I_m := I_m.below bb
  replace I_x := I_x.below bb
  clear bb
  obtain ⟨m0, m1, m2, m3, m4⟩ := five mb_m
  obtain ⟨x0, x1, x2, x3, x4⟩ := five mb_x
  go_wp2_with fail
  go_ret
  exact ⟨rfl, hB⟩

set_option maxHeartbeats 8000000 in
theorem mtrue_cn (ra : Option Addr) (rc : Nat) (sa : Option Addr) (sc : Nat) (fa : Option Addr) (fc : Nat) (na : Option Addr) (nc : Nat) (m : ImgD) (n : Int) (w : World) (gn : Nat) (hg : m.guest = gn) (h0 : 0 < gn) (h : Img w (.agg #[.int .i64 gn, .slice ra m.root.length rc, .slice sa m.slots.length sc, .slice fa m.refs.length fc, .slice na m.snaps.length nc]) m) (hF : Fits m) (hE : shapeE m = 0) (C : Int) (hC : checkE m = C) (hCb : (C == 0) = true) (hlo : -9223372036854775808 ≤ n) (hhi : n ≤ 9223372036854775807) :
    Calls Try.prog 7 #[.agg #[.int .i64 gn, .slice ra m.root.length rc, .slice sa m.slots.length sc, .slice fa m.refs.length fc, .slice na m.snaps.length nc], .int .i64 n] w fun r w' => r = .returned (.bool true) ∧ Below w.heap.size w w' := by
  have hB : Below w.heap.size w (w.alloc (.cells #[.int .i64 gn, .slice ra m.root.length rc, .slice sa m.slots.length sc, .slice fa m.refs.length fc, .slice na m.snaps.length nc] 26)) := (Below.refl _ _).alloc (Nat.le_refl _) _
  have mb_m : (w.alloc (.cells #[.int .i64 gn, .slice ra m.root.length rc, .slice sa m.slots.length sc, .slice fa m.refs.length fc, .slice na m.snaps.length nc] 26)).heap[w.heap.size]? = some (.cells #[.int .i64 gn, .slice ra m.root.length rc, .slice sa m.slots.length sc, .slice fa m.refs.length fc, .slice na m.snaps.length nc] 26) := World.alloc_heap_new _ _
  have I_m := h.below hB
  obtain ⟨X, hX⟩ : ∃ X, countedD m = X := ⟨_, rfl⟩
  obtain ⟨u, hu⟩ : ∃ u, usedN m.slots = u := ⟨_, rfl⟩
  obtain ⟨v, hv⟩ : ∃ v, usedN X.slots = v := ⟨_, rfl⟩
  obtain ⟨l, hl⟩ : ∃ l, leaksA m = l := ⟨_, rfl⟩
  have hcR := counted_right hE
  have hs0 := (shapeE_zero hE).2.1
  have hs1 := (shapeE_zero (counted_shape hE)).2.1
  have hu40 : u ≤ 40 := by rw [← hu]; exact Nat.le_trans (usedN_le _) (slotsE_parts hs0).2
  have hv40 : v ≤ 40 := by rw [← hv, ← hX]; exact Nat.le_trans (usedN_le _) (slotsE_parts hs1).2
  have hul : v + l = u := by
    rw [← hv, ← hu, ← hl, ← hX]
    unfold leaksA
    rw [if_pos hE]
    exact used_leak _ _
  have hsub : ((u : Int) - (v : Int) != (l : Int)) = false := by simp; omega
  have HM : Hid (shapeE m = 0 ∧ slotsE m.slots = 0 ∧ usedN m.slots = u ∧ leaksA m = l) := ⟨hE, hs0, hu, hl⟩
  have HX : Hid (countedD m = X ∧ shapeE X = 0 ∧ leaksA X = 0 ∧ countedD X = X ∧ slotsE X.slots = 0 ∧ usedN X.slots = v ∧ checkE X = 0) := by
    subst hX
    exact ⟨rfl, counted_shape hE, by unfold leaksA; rw [if_pos (counted_shape hE)]; exact leak_none hcR, counted_same hcR, hs1, hv, hcR⟩
  have HC : Hid (checkE m = C) := hC
  have HXm : Hid (X = m) := by rw [← hX]; exact counted_same (by rw [hC]; simpa using hCb)
  have h16 : gn ≤ 16 := by have := guest_ok hE; omega
  have HG : Hid (m.guest = (gn : Int)) := hg
  have hg1 : ¬ (gn : Int) < 1 := by omega
  have HR : Hid (∀ j : Nat, (j : Int) < m.guest → lookE X j = 0 ∧ readV X j = pageV m.slots (lookV m m.root (j : Int).toNat)) := fun j hj => by subst hX; exact counted_read hE hj
  clear h hE hu hv hl hcR hs0 hs1 hul hX hC hg
  go_enter Try.func7, Try.ntmps7
  obtain ⟨m0, m1, m2, m3, m4⟩ := five mb_m
  go_wp2_with fail
  refine (repair_ok I_m hF HM.out.1 HX.out.1).mono ?_
  intro e w1 hA
  obtain ⟨val, xr, xrc, xs, xsc, xf, xfc, xn, xnc, rfl, hO, bb, hI⟩ := hA.open
  dsimp only
  have I_x := hO.img
  rw [hI] at I_x
  clear hA hO hI
  clear m0 m1 m2 m3 m4
  replace mb_m := cells_below mb_m bb (Array.getElem?_eq_some_iff.1 mb_m).1
  replace hB := Below.on hB bb
  replace I_m := I_m.below bb
  clear bb
  replace mb_m := cells_alloc mb_m (.cells #[.int .i64 X.guest, .slice xr X.root.length xrc, .slice xs X.slots.length xsc, .slice xf X.refs.length xfc, .slice xn X.snaps.length xnc] 26)
  have ba : Below w1.heap.size w1 (w1.alloc (.cells #[.int .i64 X.guest, .slice xr X.root.length xrc, .slice xs X.slots.length xsc, .slice xf X.refs.length xfc, .slice xn X.snaps.length xnc] 26)) := (Below.refl _ _).alloc (Nat.le_refl _) _
  replace hB := Below.on hB ba
  replace I_m := I_m.below ba
  replace I_x := I_x.below ba
  clear ba
  have mb_x : (w1.alloc (.cells #[.int .i64 X.guest, .slice xr X.root.length xrc, .slice xs X.slots.length xsc, .slice xf X.refs.length xfc, .slice xn X.snaps.length xnc] 26)).heap[w1.heap.size]? = some (.cells #[.int .i64 X.guest, .slice xr X.root.length xrc, .slice xs X.slots.length xsc, .slice xf X.refs.length xfc, .slice xn X.snaps.length xnc] 26) := World.alloc_heap_new _ _
  obtain ⟨m0, m1, m2, m3, m4⟩ := five mb_m
  obtain ⟨x0, x1, x2, x3, x4⟩ := five mb_x
  go_wp2_with fail
  refine (leaks_is I_x HX.out.2.1 HX.out.2.2.1).mono ?_
  rintro e w2 ⟨rfl, bb⟩
  clear m0 m1 m2 m3 m4 x0 x1 x2 x3 x4
  replace mb_m := cells_below mb_m bb (Array.getElem?_eq_some_iff.1 mb_m).1
  replace mb_x := cells_below mb_x bb (Array.getElem?_eq_some_iff.1 mb_x).1
  replace hB := Below.on hB bb
  replace I_m := I_m.below bb
  replace I_x := I_x.below bb
  clear bb
  obtain ⟨m0, m1, m2, m3, m4⟩ := five mb_m
  obtain ⟨x0, x1, x2, x3, x4⟩ := five mb_x
  go_wp2_with fail
  refine (repair_ok I_x (fits_of_shape HX.out.2.1) HX.out.2.1 HX.out.2.2.2.1).mono ?_
  intro e w3 hA
  obtain ⟨val, yr, yrc, ys, ysc, yf, yfc, yn, ync, rfl, hO, bb, hI⟩ := hA.open
  dsimp only
  have I_y := hO.img
  rw [hI] at I_y
  clear hA hO hI
  clear m0 m1 m2 m3 m4 x0 x1 x2 x3 x4
  replace mb_m := cells_below mb_m bb (Array.getElem?_eq_some_iff.1 mb_m).1
  replace mb_x := cells_below mb_x bb (Array.getElem?_eq_some_iff.1 mb_x).1
  replace hB := Below.on hB bb
  replace I_m := I_m.below bb
  replace I_x := I_x.below bb
  clear bb
  replace mb_m := cells_alloc mb_m (.cells #[.int .i64 X.guest, .slice yr X.root.length yrc, .slice ys X.slots.length ysc, .slice yf X.refs.length yfc, .slice yn X.snaps.length ync] 26)
  replace mb_x := cells_alloc mb_x (.cells #[.int .i64 X.guest, .slice yr X.root.length yrc, .slice ys X.slots.length ysc, .slice yf X.refs.length yfc, .slice yn X.snaps.length ync] 26)
  have ba : Below w3.heap.size w3 (w3.alloc (.cells #[.int .i64 X.guest, .slice yr X.root.length yrc, .slice ys X.slots.length ysc, .slice yf X.refs.length yfc, .slice yn X.snaps.length ync] 26)) := (Below.refl _ _).alloc (Nat.le_refl _) _
  replace hB := Below.on hB ba
  replace I_m := I_m.below ba
  replace I_x := I_x.below ba
  replace I_y := I_y.below ba
  clear ba
  have mb_y : (w3.alloc (.cells #[.int .i64 X.guest, .slice yr X.root.length yrc, .slice ys X.slots.length ysc, .slice yf X.refs.length yfc, .slice yn X.snaps.length ync] 26)).heap[w3.heap.size]? = some (.cells #[.int .i64 X.guest, .slice yr X.root.length yrc, .slice ys X.slots.length ysc, .slice yf X.refs.length yfc, .slice yn X.snaps.length ync] 26) := World.alloc_heap_new _ _
  obtain ⟨m0, m1, m2, m3, m4⟩ := five mb_m
  obtain ⟨x0, x1, x2, x3, x4⟩ := five mb_x
  obtain ⟨y0, y1, y2, y3, y4⟩ := five mb_y
  go_wp2_with fail
  refine (used_is I_m.four.2.1 HM.out.2.1 HM.out.2.2.1).mono ?_
  rintro e w4 ⟨rfl, bb⟩
  clear m0 m1 m2 m3 m4 x0 x1 x2 x3 x4 y0 y1 y2 y3 y4
  replace mb_m := cells_below mb_m bb (Array.getElem?_eq_some_iff.1 mb_m).1
  replace mb_x := cells_below mb_x bb (Array.getElem?_eq_some_iff.1 mb_x).1
  replace mb_y := cells_below mb_y bb (Array.getElem?_eq_some_iff.1 mb_y).1
  replace hB := Below.on hB bb
  replace I_m := I_m.below bb
  replace I_x := I_x.below bb
  replace I_y := I_y.below bb
  clear bb
  obtain ⟨m0, m1, m2, m3, m4⟩ := five mb_m
  obtain ⟨x0, x1, x2, x3, x4⟩ := five mb_x
  obtain ⟨y0, y1, y2, y3, y4⟩ := five mb_y
  go_wp2_with fail
  refine (used_is I_x.four.2.1 HX.out.2.2.2.2.1 HX.out.2.2.2.2.2.1).mono ?_
  rintro e w5 ⟨rfl, bb⟩
  clear m0 m1 m2 m3 m4 x0 x1 x2 x3 x4 y0 y1 y2 y3 y4
  replace mb_m := cells_below mb_m bb (Array.getElem?_eq_some_iff.1 mb_m).1
  replace mb_x := cells_below mb_x bb (Array.getElem?_eq_some_iff.1 mb_x).1
  replace mb_y := cells_below mb_y bb (Array.getElem?_eq_some_iff.1 mb_y).1
  replace hB := Below.on hB bb
  replace I_m := I_m.below bb
  replace I_x := I_x.below bb
  replace I_y := I_y.below bb
  clear bb
  obtain ⟨m0, m1, m2, m3, m4⟩ := five mb_m
  obtain ⟨x0, x1, x2, x3, x4⟩ := five mb_x
  obtain ⟨y0, y1, y2, y3, y4⟩ := five mb_y
  go_wp2_with fail
  refine (leaks_is I_m HM.out.1 HM.out.2.2.2).mono ?_
  rintro e w6 ⟨rfl, bb⟩
  clear m0 m1 m2 m3 m4 x0 x1 x2 x3 x4 y0 y1 y2 y3 y4
  replace mb_m := cells_below mb_m bb (Array.getElem?_eq_some_iff.1 mb_m).1
  replace mb_x := cells_below mb_x bb (Array.getElem?_eq_some_iff.1 mb_x).1
  replace mb_y := cells_below mb_y bb (Array.getElem?_eq_some_iff.1 mb_y).1
  replace hB := Below.on hB bb
  replace I_m := I_m.below bb
  replace I_x := I_x.below bb
  replace I_y := I_y.below bb
  clear bb
  obtain ⟨m0, m1, m2, m3, m4⟩ := five mb_m
  obtain ⟨x0, x1, x2, x3, x4⟩ := five mb_x
  obtain ⟨y0, y1, y2, y3, y4⟩ := five mb_y
  go_wp2_with fail
  refine (tcheck_is I_x HX.out.2.2.2.2.2.2).mono ?_
  rintro e w7 ⟨rfl, bb⟩
  clear m0 m1 m2 m3 m4 x0 x1 x2 x3 x4 y0 y1 y2 y3 y4
  replace mb_m := cells_below mb_m bb (Array.getElem?_eq_some_iff.1 mb_m).1
  replace mb_x := cells_below mb_x bb (Array.getElem?_eq_some_iff.1 mb_x).1
  replace mb_y := cells_below mb_y bb (Array.getElem?_eq_some_iff.1 mb_y).1
  replace hB := Below.on hB bb
  replace I_m := I_m.below bb
  replace I_x := I_x.below bb
  replace I_y := I_y.below bb
  clear bb
  obtain ⟨m0, m1, m2, m3, m4⟩ := five mb_m
  obtain ⟨x0, x1, x2, x3, x4⟩ := five mb_x
  obtain ⟨y0, y1, y2, y3, y4⟩ := five mb_y
  go_wp2_with fail
  refine (sameI_is I_x I_y).mono ?_
  rintro e w8 ⟨rfl, bb⟩
  clear m0 m1 m2 m3 m4 x0 x1 x2 x3 x4 y0 y1 y2 y3 y4
  replace mb_m := cells_below mb_m bb (Array.getElem?_eq_some_iff.1 mb_m).1
  replace mb_x := cells_below mb_x bb (Array.getElem?_eq_some_iff.1 mb_x).1
  replace mb_y := cells_below mb_y bb (Array.getElem?_eq_some_iff.1 mb_y).1
  replace hB := Below.on hB bb
  replace I_m := I_m.below bb
  replace I_x := I_x.below bb
  replace I_y := I_y.below bb
  clear bb
  clear mb_y
  clear I_y
  obtain ⟨m0, m1, m2, m3, m4⟩ := five mb_m
  obtain ⟨x0, x1, x2, x3, x4⟩ := five mb_x
  go_wp2_with fail
  refine (tcheck_is I_m HC.out).mono ?_
  rintro e w9 ⟨rfl, bb⟩
  clear m0 m1 m2 m3 m4 x0 x1 x2 x3 x4
  replace mb_m := cells_below mb_m bb (Array.getElem?_eq_some_iff.1 mb_m).1
  replace mb_x := cells_below mb_x bb (Array.getElem?_eq_some_iff.1 mb_x).1
  replace hB := Below.on hB bb
  replace I_m := I_m.below bb
  replace I_x := I_x.below bb
  clear bb
  obtain ⟨m0, m1, m2, m3, m4⟩ := five mb_m
  obtain ⟨x0, x1, x2, x3, x4⟩ := five mb_x
  go_wp2_with fail
  refine (sameI_is I_x (by rw [HXm.out]; exact I_m)).mono ?_
  rintro e w10 ⟨rfl, bb⟩
  clear m0 m1 m2 m3 m4 x0 x1 x2 x3 x4
  replace mb_m := cells_below mb_m bb (Array.getElem?_eq_some_iff.1 mb_m).1
  replace mb_x := cells_below mb_x bb (Array.getElem?_eq_some_iff.1 mb_x).1
  replace hB := Below.on hB bb
  replace I_m := I_m.below bb
  replace I_x := I_x.below bb
  clear bb
  obtain ⟨m0, m1, m2, m3, m4⟩ := five mb_m
  obtain ⟨x0, x1, x2, x3, x4⟩ := five mb_x
  go_wp2_with fail
  refine (choose_any n gn _ h0 h16 hlo hhi).mono ?_
  rintro e w' ⟨⟨j, hj, rfl⟩, hw⟩
  rw [hw]; clear hw
  clear m0 m1 m2 m3 m4 x0 x1 x2 x3 x4
  have hjg : (j : Int) < m.guest := by rw [HG.out]; omega
  have hrd := HR.out j hjg
  obtain ⟨p, hp⟩ : ∃ p, pageV m.slots (lookV m m.root (j : Int).toNat) = p := ⟨_, rfl⟩
  have HP : Hid (pageV m.slots (lookV m m.root (j : Int).toNat) = p) := hp
  have HRD : Hid (lookE X j = 0 ∧ readV X j = p) := ⟨hrd.1, hrd.2.trans hp⟩
  have HJ : Hid ((j : Int) < m.guest) := hjg
  clear hp hrd hjg
  obtain ⟨m0, m1, m2, m3, m4⟩ := five mb_m
  obtain ⟨x0, x1, x2, x3, x4⟩ := five mb_x
  go_wp2_with fail
  refine (read_is I_x j HRD.out.1 HRD.out.2).mono ?_
  rintro e w11 ⟨rfl, bb⟩
  clear m0 m1 m2 m3 m4 x0 x1 x2 x3 x4
  replace mb_m := cells_below mb_m bb (Array.getElem?_eq_some_iff.1 mb_m).1
  replace mb_x := cells_below mb_x bb (Array.getElem?_eq_some_iff.1 mb_x).1
  replace hB := Below.on hB bb
  replace I_m := I_m.below bb
  replace I_x := I_x.below bb
  clear bb
  obtain ⟨m0, m1, m2, m3, m4⟩ := five mb_m
  obtain ⟨x0, x1, x2, x3, x4⟩ := five mb_x
  go_wp2_with fail
  refine (mendBegun_any _).mono ?_
  rintro e w12 ⟨rfl, bb⟩
  clear m0 m1 m2 m3 m4 x0 x1 x2 x3 x4
  replace mb_m := cells_below mb_m bb (Array.getElem?_eq_some_iff.1 mb_m).1
  replace mb_x := cells_below mb_x bb (Array.getElem?_eq_some_iff.1 mb_x).1
  replace hB := Below.on hB bb
  replace I_m := I_m.below bb
  replace I_x := I_x.below bb
  clear bb
  obtain ⟨m0, m1, m2, m3, m4⟩ := five mb_m
  obtain ⟨x0, x1, x2, x3, x4⟩ := five mb_x
  go_wp2_with fail
  refine (readOf_sh I_m j HM.out.1 (by omega) HJ.out HP.out).mono ?_
  rintro e w13 ⟨rfl, bb⟩
  clear m0 m1 m2 m3 m4 x0 x1 x2 x3 x4
  replace mb_m := cells_below mb_m bb (Array.getElem?_eq_some_iff.1 mb_m).1
  replace mb_x := cells_below mb_x bb (Array.getElem?_eq_some_iff.1 mb_x).1
  replace hB := Below.on hB bb
  replace I_m := I_m.below bb
  replace I_x := I_x.below bb
  clear bb
  obtain ⟨m0, m1, m2, m3, m4⟩ := five mb_m
  obtain ⟨x0, x1, x2, x3, x4⟩ := five mb_x
  go_wp2_with fail
  go_ret
  exact ⟨by simp, hB⟩

set_option maxHeartbeats 8000000 in
theorem mtrue_ng (ra : Option Addr) (rc : Nat) (sa : Option Addr) (sc : Nat) (fa : Option Addr) (fc : Nat) (na : Option Addr) (nc : Nat) (m : ImgD) (n : Int) (w : World) (hg : m.guest < 1) (h : Img w (.agg #[.int .i64 m.guest, .slice ra m.root.length rc, .slice sa m.slots.length sc, .slice fa m.refs.length fc, .slice na m.snaps.length nc]) m) (hF : Fits m) (hE : shapeE m = 0) (C : Int) (hC : checkE m = C) (hCb : (C == 0) = false) :
    Calls Try.prog 7 #[.agg #[.int .i64 m.guest, .slice ra m.root.length rc, .slice sa m.slots.length sc, .slice fa m.refs.length fc, .slice na m.snaps.length nc], .int .i64 n] w fun r w' => r = .returned (.bool true) ∧ Below w.heap.size w w' := by
  have hB : Below w.heap.size w (w.alloc (.cells #[.int .i64 m.guest, .slice ra m.root.length rc, .slice sa m.slots.length sc, .slice fa m.refs.length fc, .slice na m.snaps.length nc] 26)) := (Below.refl _ _).alloc (Nat.le_refl _) _
  have mb_m : (w.alloc (.cells #[.int .i64 m.guest, .slice ra m.root.length rc, .slice sa m.slots.length sc, .slice fa m.refs.length fc, .slice na m.snaps.length nc] 26)).heap[w.heap.size]? = some (.cells #[.int .i64 m.guest, .slice ra m.root.length rc, .slice sa m.slots.length sc, .slice fa m.refs.length fc, .slice na m.snaps.length nc] 26) := World.alloc_heap_new _ _
  have I_m := h.below hB
  obtain ⟨X, hX⟩ : ∃ X, countedD m = X := ⟨_, rfl⟩
  obtain ⟨u, hu⟩ : ∃ u, usedN m.slots = u := ⟨_, rfl⟩
  obtain ⟨v, hv⟩ : ∃ v, usedN X.slots = v := ⟨_, rfl⟩
  obtain ⟨l, hl⟩ : ∃ l, leaksA m = l := ⟨_, rfl⟩
  have hcR := counted_right hE
  have hs0 := (shapeE_zero hE).2.1
  have hs1 := (shapeE_zero (counted_shape hE)).2.1
  have hu40 : u ≤ 40 := by rw [← hu]; exact Nat.le_trans (usedN_le _) (slotsE_parts hs0).2
  have hv40 : v ≤ 40 := by rw [← hv, ← hX]; exact Nat.le_trans (usedN_le _) (slotsE_parts hs1).2
  have hul : v + l = u := by
    rw [← hv, ← hu, ← hl, ← hX]
    unfold leaksA
    rw [if_pos hE]
    exact used_leak _ _
  have hsub : ((u : Int) - (v : Int) != (l : Int)) = false := by simp; omega
  have HM : Hid (shapeE m = 0 ∧ slotsE m.slots = 0 ∧ usedN m.slots = u ∧ leaksA m = l) := ⟨hE, hs0, hu, hl⟩
  have HX : Hid (countedD m = X ∧ shapeE X = 0 ∧ leaksA X = 0 ∧ countedD X = X ∧ slotsE X.slots = 0 ∧ usedN X.slots = v ∧ checkE X = 0) := by
    subst hX
    exact ⟨rfl, counted_shape hE, by unfold leaksA; rw [if_pos (counted_shape hE)]; exact leak_none hcR, counted_same hcR, hs1, hv, hcR⟩
  have HC : Hid (checkE m = C) := hC
  clear h hE hu hv hl hcR hs0 hs1 hul hX hC
  go_enter Try.func7, Try.ntmps7
  obtain ⟨m0, m1, m2, m3, m4⟩ := five mb_m
  go_wp2_with fail
  refine (repair_ok I_m hF HM.out.1 HX.out.1).mono ?_
  intro e w1 hA
  obtain ⟨val, xr, xrc, xs, xsc, xf, xfc, xn, xnc, rfl, hO, bb, hI⟩ := hA.open
  dsimp only
  have I_x := hO.img
  rw [hI] at I_x
  clear hA hO hI
  clear m0 m1 m2 m3 m4
  replace mb_m := cells_below mb_m bb (Array.getElem?_eq_some_iff.1 mb_m).1
  replace hB := Below.on hB bb
  replace I_m := I_m.below bb
  clear bb
  replace mb_m := cells_alloc mb_m (.cells #[.int .i64 X.guest, .slice xr X.root.length xrc, .slice xs X.slots.length xsc, .slice xf X.refs.length xfc, .slice xn X.snaps.length xnc] 26)
  have ba : Below w1.heap.size w1 (w1.alloc (.cells #[.int .i64 X.guest, .slice xr X.root.length xrc, .slice xs X.slots.length xsc, .slice xf X.refs.length xfc, .slice xn X.snaps.length xnc] 26)) := (Below.refl _ _).alloc (Nat.le_refl _) _
  replace hB := Below.on hB ba
  replace I_m := I_m.below ba
  replace I_x := I_x.below ba
  clear ba
  have mb_x : (w1.alloc (.cells #[.int .i64 X.guest, .slice xr X.root.length xrc, .slice xs X.slots.length xsc, .slice xf X.refs.length xfc, .slice xn X.snaps.length xnc] 26)).heap[w1.heap.size]? = some (.cells #[.int .i64 X.guest, .slice xr X.root.length xrc, .slice xs X.slots.length xsc, .slice xf X.refs.length xfc, .slice xn X.snaps.length xnc] 26) := World.alloc_heap_new _ _
  obtain ⟨m0, m1, m2, m3, m4⟩ := five mb_m
  obtain ⟨x0, x1, x2, x3, x4⟩ := five mb_x
  go_wp2_with fail
  refine (leaks_is I_x HX.out.2.1 HX.out.2.2.1).mono ?_
  rintro e w2 ⟨rfl, bb⟩
  clear m0 m1 m2 m3 m4 x0 x1 x2 x3 x4
  replace mb_m := cells_below mb_m bb (Array.getElem?_eq_some_iff.1 mb_m).1
  replace mb_x := cells_below mb_x bb (Array.getElem?_eq_some_iff.1 mb_x).1
  replace hB := Below.on hB bb
  replace I_m := I_m.below bb
  replace I_x := I_x.below bb
  clear bb
  obtain ⟨m0, m1, m2, m3, m4⟩ := five mb_m
  obtain ⟨x0, x1, x2, x3, x4⟩ := five mb_x
  go_wp2_with fail
  refine (repair_ok I_x (fits_of_shape HX.out.2.1) HX.out.2.1 HX.out.2.2.2.1).mono ?_
  intro e w3 hA
  obtain ⟨val, yr, yrc, ys, ysc, yf, yfc, yn, ync, rfl, hO, bb, hI⟩ := hA.open
  dsimp only
  have I_y := hO.img
  rw [hI] at I_y
  clear hA hO hI
  clear m0 m1 m2 m3 m4 x0 x1 x2 x3 x4
  replace mb_m := cells_below mb_m bb (Array.getElem?_eq_some_iff.1 mb_m).1
  replace mb_x := cells_below mb_x bb (Array.getElem?_eq_some_iff.1 mb_x).1
  replace hB := Below.on hB bb
  replace I_m := I_m.below bb
  replace I_x := I_x.below bb
  clear bb
  replace mb_m := cells_alloc mb_m (.cells #[.int .i64 X.guest, .slice yr X.root.length yrc, .slice ys X.slots.length ysc, .slice yf X.refs.length yfc, .slice yn X.snaps.length ync] 26)
  replace mb_x := cells_alloc mb_x (.cells #[.int .i64 X.guest, .slice yr X.root.length yrc, .slice ys X.slots.length ysc, .slice yf X.refs.length yfc, .slice yn X.snaps.length ync] 26)
  have ba : Below w3.heap.size w3 (w3.alloc (.cells #[.int .i64 X.guest, .slice yr X.root.length yrc, .slice ys X.slots.length ysc, .slice yf X.refs.length yfc, .slice yn X.snaps.length ync] 26)) := (Below.refl _ _).alloc (Nat.le_refl _) _
  replace hB := Below.on hB ba
  replace I_m := I_m.below ba
  replace I_x := I_x.below ba
  replace I_y := I_y.below ba
  clear ba
  have mb_y : (w3.alloc (.cells #[.int .i64 X.guest, .slice yr X.root.length yrc, .slice ys X.slots.length ysc, .slice yf X.refs.length yfc, .slice yn X.snaps.length ync] 26)).heap[w3.heap.size]? = some (.cells #[.int .i64 X.guest, .slice yr X.root.length yrc, .slice ys X.slots.length ysc, .slice yf X.refs.length yfc, .slice yn X.snaps.length ync] 26) := World.alloc_heap_new _ _
  obtain ⟨m0, m1, m2, m3, m4⟩ := five mb_m
  obtain ⟨x0, x1, x2, x3, x4⟩ := five mb_x
  obtain ⟨y0, y1, y2, y3, y4⟩ := five mb_y
  go_wp2_with fail
  refine (used_is I_m.four.2.1 HM.out.2.1 HM.out.2.2.1).mono ?_
  rintro e w4 ⟨rfl, bb⟩
  clear m0 m1 m2 m3 m4 x0 x1 x2 x3 x4 y0 y1 y2 y3 y4
  replace mb_m := cells_below mb_m bb (Array.getElem?_eq_some_iff.1 mb_m).1
  replace mb_x := cells_below mb_x bb (Array.getElem?_eq_some_iff.1 mb_x).1
  replace mb_y := cells_below mb_y bb (Array.getElem?_eq_some_iff.1 mb_y).1
  replace hB := Below.on hB bb
  replace I_m := I_m.below bb
  replace I_x := I_x.below bb
  replace I_y := I_y.below bb
  clear bb
  obtain ⟨m0, m1, m2, m3, m4⟩ := five mb_m
  obtain ⟨x0, x1, x2, x3, x4⟩ := five mb_x
  obtain ⟨y0, y1, y2, y3, y4⟩ := five mb_y
  go_wp2_with fail
  refine (used_is I_x.four.2.1 HX.out.2.2.2.2.1 HX.out.2.2.2.2.2.1).mono ?_
  rintro e w5 ⟨rfl, bb⟩
  clear m0 m1 m2 m3 m4 x0 x1 x2 x3 x4 y0 y1 y2 y3 y4
  replace mb_m := cells_below mb_m bb (Array.getElem?_eq_some_iff.1 mb_m).1
  replace mb_x := cells_below mb_x bb (Array.getElem?_eq_some_iff.1 mb_x).1
  replace mb_y := cells_below mb_y bb (Array.getElem?_eq_some_iff.1 mb_y).1
  replace hB := Below.on hB bb
  replace I_m := I_m.below bb
  replace I_x := I_x.below bb
  replace I_y := I_y.below bb
  clear bb
  obtain ⟨m0, m1, m2, m3, m4⟩ := five mb_m
  obtain ⟨x0, x1, x2, x3, x4⟩ := five mb_x
  obtain ⟨y0, y1, y2, y3, y4⟩ := five mb_y
  go_wp2_with fail
  refine (leaks_is I_m HM.out.1 HM.out.2.2.2).mono ?_
  rintro e w6 ⟨rfl, bb⟩
  clear m0 m1 m2 m3 m4 x0 x1 x2 x3 x4 y0 y1 y2 y3 y4
  replace mb_m := cells_below mb_m bb (Array.getElem?_eq_some_iff.1 mb_m).1
  replace mb_x := cells_below mb_x bb (Array.getElem?_eq_some_iff.1 mb_x).1
  replace mb_y := cells_below mb_y bb (Array.getElem?_eq_some_iff.1 mb_y).1
  replace hB := Below.on hB bb
  replace I_m := I_m.below bb
  replace I_x := I_x.below bb
  replace I_y := I_y.below bb
  clear bb
  obtain ⟨m0, m1, m2, m3, m4⟩ := five mb_m
  obtain ⟨x0, x1, x2, x3, x4⟩ := five mb_x
  obtain ⟨y0, y1, y2, y3, y4⟩ := five mb_y
  go_wp2_with fail
  refine (tcheck_is I_x HX.out.2.2.2.2.2.2).mono ?_
  rintro e w7 ⟨rfl, bb⟩
  clear m0 m1 m2 m3 m4 x0 x1 x2 x3 x4 y0 y1 y2 y3 y4
  replace mb_m := cells_below mb_m bb (Array.getElem?_eq_some_iff.1 mb_m).1
  replace mb_x := cells_below mb_x bb (Array.getElem?_eq_some_iff.1 mb_x).1
  replace mb_y := cells_below mb_y bb (Array.getElem?_eq_some_iff.1 mb_y).1
  replace hB := Below.on hB bb
  replace I_m := I_m.below bb
  replace I_x := I_x.below bb
  replace I_y := I_y.below bb
  clear bb
  obtain ⟨m0, m1, m2, m3, m4⟩ := five mb_m
  obtain ⟨x0, x1, x2, x3, x4⟩ := five mb_x
  obtain ⟨y0, y1, y2, y3, y4⟩ := five mb_y
  go_wp2_with fail
  refine (sameI_is I_x I_y).mono ?_
  rintro e w8 ⟨rfl, bb⟩
  clear m0 m1 m2 m3 m4 x0 x1 x2 x3 x4 y0 y1 y2 y3 y4
  replace mb_m := cells_below mb_m bb (Array.getElem?_eq_some_iff.1 mb_m).1
  replace mb_x := cells_below mb_x bb (Array.getElem?_eq_some_iff.1 mb_x).1
  replace mb_y := cells_below mb_y bb (Array.getElem?_eq_some_iff.1 mb_y).1
  replace hB := Below.on hB bb
  replace I_m := I_m.below bb
  replace I_x := I_x.below bb
  replace I_y := I_y.below bb
  clear bb
  clear mb_y
  clear I_y
  obtain ⟨m0, m1, m2, m3, m4⟩ := five mb_m
  obtain ⟨x0, x1, x2, x3, x4⟩ := five mb_x
  go_wp2_with fail
  refine (tcheck_is I_m HC.out).mono ?_
  rintro e w9 ⟨rfl, bb⟩
  clear m0 m1 m2 m3 m4 x0 x1 x2 x3 x4
  replace mb_m := cells_below mb_m bb (Array.getElem?_eq_some_iff.1 mb_m).1
  replace mb_x := cells_below mb_x bb (Array.getElem?_eq_some_iff.1 mb_x).1
  replace hB := Below.on hB bb
  replace I_m := I_m.below bb
  replace I_x := I_x.below bb
  clear bb
  obtain ⟨m0, m1, m2, m3, m4⟩ := five mb_m
  obtain ⟨x0, x1, x2, x3, x4⟩ := five mb_x
  go_wp2_with fail
  refine (mendBegun_any _).mono ?_
  rintro e w10 ⟨rfl, bb⟩
  clear m0 m1 m2 m3 m4 x0 x1 x2 x3 x4
  replace mb_m := cells_below mb_m bb (Array.getElem?_eq_some_iff.1 mb_m).1
  replace mb_x := cells_below mb_x bb (Array.getElem?_eq_some_iff.1 mb_x).1
  replace hB := Below.on hB bb
  replace I_m := I_m.below bb
  replace I_x := I_x.below bb
  clear bb
  obtain ⟨m0, m1, m2, m3, m4⟩ := five mb_m
  obtain ⟨x0, x1, x2, x3, x4⟩ := five mb_x
  go_wp2_with fail
  go_ret
  exact ⟨rfl, hB⟩

set_option maxHeartbeats 8000000 in
theorem mtrue_nn (ra : Option Addr) (rc : Nat) (sa : Option Addr) (sc : Nat) (fa : Option Addr) (fc : Nat) (na : Option Addr) (nc : Nat) (m : ImgD) (n : Int) (w : World) (gn : Nat) (hg : m.guest = gn) (h0 : 0 < gn) (h : Img w (.agg #[.int .i64 gn, .slice ra m.root.length rc, .slice sa m.slots.length sc, .slice fa m.refs.length fc, .slice na m.snaps.length nc]) m) (hF : Fits m) (hE : shapeE m = 0) (C : Int) (hC : checkE m = C) (hCb : (C == 0) = false) (hlo : -9223372036854775808 ≤ n) (hhi : n ≤ 9223372036854775807) :
    Calls Try.prog 7 #[.agg #[.int .i64 gn, .slice ra m.root.length rc, .slice sa m.slots.length sc, .slice fa m.refs.length fc, .slice na m.snaps.length nc], .int .i64 n] w fun r w' => r = .returned (.bool true) ∧ Below w.heap.size w w' := by
  have hB : Below w.heap.size w (w.alloc (.cells #[.int .i64 gn, .slice ra m.root.length rc, .slice sa m.slots.length sc, .slice fa m.refs.length fc, .slice na m.snaps.length nc] 26)) := (Below.refl _ _).alloc (Nat.le_refl _) _
  have mb_m : (w.alloc (.cells #[.int .i64 gn, .slice ra m.root.length rc, .slice sa m.slots.length sc, .slice fa m.refs.length fc, .slice na m.snaps.length nc] 26)).heap[w.heap.size]? = some (.cells #[.int .i64 gn, .slice ra m.root.length rc, .slice sa m.slots.length sc, .slice fa m.refs.length fc, .slice na m.snaps.length nc] 26) := World.alloc_heap_new _ _
  have I_m := h.below hB
  obtain ⟨X, hX⟩ : ∃ X, countedD m = X := ⟨_, rfl⟩
  obtain ⟨u, hu⟩ : ∃ u, usedN m.slots = u := ⟨_, rfl⟩
  obtain ⟨v, hv⟩ : ∃ v, usedN X.slots = v := ⟨_, rfl⟩
  obtain ⟨l, hl⟩ : ∃ l, leaksA m = l := ⟨_, rfl⟩
  have hcR := counted_right hE
  have hs0 := (shapeE_zero hE).2.1
  have hs1 := (shapeE_zero (counted_shape hE)).2.1
  have hu40 : u ≤ 40 := by rw [← hu]; exact Nat.le_trans (usedN_le _) (slotsE_parts hs0).2
  have hv40 : v ≤ 40 := by rw [← hv, ← hX]; exact Nat.le_trans (usedN_le _) (slotsE_parts hs1).2
  have hul : v + l = u := by
    rw [← hv, ← hu, ← hl, ← hX]
    unfold leaksA
    rw [if_pos hE]
    exact used_leak _ _
  have hsub : ((u : Int) - (v : Int) != (l : Int)) = false := by simp; omega
  have HM : Hid (shapeE m = 0 ∧ slotsE m.slots = 0 ∧ usedN m.slots = u ∧ leaksA m = l) := ⟨hE, hs0, hu, hl⟩
  have HX : Hid (countedD m = X ∧ shapeE X = 0 ∧ leaksA X = 0 ∧ countedD X = X ∧ slotsE X.slots = 0 ∧ usedN X.slots = v ∧ checkE X = 0) := by
    subst hX
    exact ⟨rfl, counted_shape hE, by unfold leaksA; rw [if_pos (counted_shape hE)]; exact leak_none hcR, counted_same hcR, hs1, hv, hcR⟩
  have HC : Hid (checkE m = C) := hC
  have h16 : gn ≤ 16 := by have := guest_ok hE; omega
  have HG : Hid (m.guest = (gn : Int)) := hg
  have hg1 : ¬ (gn : Int) < 1 := by omega
  have HR : Hid (∀ j : Nat, (j : Int) < m.guest → lookE X j = 0 ∧ readV X j = pageV m.slots (lookV m m.root (j : Int).toNat)) := fun j hj => by subst hX; exact counted_read hE hj
  clear h hE hu hv hl hcR hs0 hs1 hul hX hC hg
  go_enter Try.func7, Try.ntmps7
  obtain ⟨m0, m1, m2, m3, m4⟩ := five mb_m
  go_wp2_with fail
  refine (repair_ok I_m hF HM.out.1 HX.out.1).mono ?_
  intro e w1 hA
  obtain ⟨val, xr, xrc, xs, xsc, xf, xfc, xn, xnc, rfl, hO, bb, hI⟩ := hA.open
  dsimp only
  have I_x := hO.img
  rw [hI] at I_x
  clear hA hO hI
  clear m0 m1 m2 m3 m4
  replace mb_m := cells_below mb_m bb (Array.getElem?_eq_some_iff.1 mb_m).1
  replace hB := Below.on hB bb
  replace I_m := I_m.below bb
  clear bb
  replace mb_m := cells_alloc mb_m (.cells #[.int .i64 X.guest, .slice xr X.root.length xrc, .slice xs X.slots.length xsc, .slice xf X.refs.length xfc, .slice xn X.snaps.length xnc] 26)
  have ba : Below w1.heap.size w1 (w1.alloc (.cells #[.int .i64 X.guest, .slice xr X.root.length xrc, .slice xs X.slots.length xsc, .slice xf X.refs.length xfc, .slice xn X.snaps.length xnc] 26)) := (Below.refl _ _).alloc (Nat.le_refl _) _
  replace hB := Below.on hB ba
  replace I_m := I_m.below ba
  replace I_x := I_x.below ba
  clear ba
  have mb_x : (w1.alloc (.cells #[.int .i64 X.guest, .slice xr X.root.length xrc, .slice xs X.slots.length xsc, .slice xf X.refs.length xfc, .slice xn X.snaps.length xnc] 26)).heap[w1.heap.size]? = some (.cells #[.int .i64 X.guest, .slice xr X.root.length xrc, .slice xs X.slots.length xsc, .slice xf X.refs.length xfc, .slice xn X.snaps.length xnc] 26) := World.alloc_heap_new _ _
  obtain ⟨m0, m1, m2, m3, m4⟩ := five mb_m
  obtain ⟨x0, x1, x2, x3, x4⟩ := five mb_x
  go_wp2_with fail
  refine (leaks_is I_x HX.out.2.1 HX.out.2.2.1).mono ?_
  rintro e w2 ⟨rfl, bb⟩
  clear m0 m1 m2 m3 m4 x0 x1 x2 x3 x4
  replace mb_m := cells_below mb_m bb (Array.getElem?_eq_some_iff.1 mb_m).1
  replace mb_x := cells_below mb_x bb (Array.getElem?_eq_some_iff.1 mb_x).1
  replace hB := Below.on hB bb
  replace I_m := I_m.below bb
  replace I_x := I_x.below bb
  clear bb
  obtain ⟨m0, m1, m2, m3, m4⟩ := five mb_m
  obtain ⟨x0, x1, x2, x3, x4⟩ := five mb_x
  go_wp2_with fail
  refine (repair_ok I_x (fits_of_shape HX.out.2.1) HX.out.2.1 HX.out.2.2.2.1).mono ?_
  intro e w3 hA
  obtain ⟨val, yr, yrc, ys, ysc, yf, yfc, yn, ync, rfl, hO, bb, hI⟩ := hA.open
  dsimp only
  have I_y := hO.img
  rw [hI] at I_y
  clear hA hO hI
  clear m0 m1 m2 m3 m4 x0 x1 x2 x3 x4
  replace mb_m := cells_below mb_m bb (Array.getElem?_eq_some_iff.1 mb_m).1
  replace mb_x := cells_below mb_x bb (Array.getElem?_eq_some_iff.1 mb_x).1
  replace hB := Below.on hB bb
  replace I_m := I_m.below bb
  replace I_x := I_x.below bb
  clear bb
  replace mb_m := cells_alloc mb_m (.cells #[.int .i64 X.guest, .slice yr X.root.length yrc, .slice ys X.slots.length ysc, .slice yf X.refs.length yfc, .slice yn X.snaps.length ync] 26)
  replace mb_x := cells_alloc mb_x (.cells #[.int .i64 X.guest, .slice yr X.root.length yrc, .slice ys X.slots.length ysc, .slice yf X.refs.length yfc, .slice yn X.snaps.length ync] 26)
  have ba : Below w3.heap.size w3 (w3.alloc (.cells #[.int .i64 X.guest, .slice yr X.root.length yrc, .slice ys X.slots.length ysc, .slice yf X.refs.length yfc, .slice yn X.snaps.length ync] 26)) := (Below.refl _ _).alloc (Nat.le_refl _) _
  replace hB := Below.on hB ba
  replace I_m := I_m.below ba
  replace I_x := I_x.below ba
  replace I_y := I_y.below ba
  clear ba
  have mb_y : (w3.alloc (.cells #[.int .i64 X.guest, .slice yr X.root.length yrc, .slice ys X.slots.length ysc, .slice yf X.refs.length yfc, .slice yn X.snaps.length ync] 26)).heap[w3.heap.size]? = some (.cells #[.int .i64 X.guest, .slice yr X.root.length yrc, .slice ys X.slots.length ysc, .slice yf X.refs.length yfc, .slice yn X.snaps.length ync] 26) := World.alloc_heap_new _ _
  obtain ⟨m0, m1, m2, m3, m4⟩ := five mb_m
  obtain ⟨x0, x1, x2, x3, x4⟩ := five mb_x
  obtain ⟨y0, y1, y2, y3, y4⟩ := five mb_y
  go_wp2_with fail
  refine (used_is I_m.four.2.1 HM.out.2.1 HM.out.2.2.1).mono ?_
  rintro e w4 ⟨rfl, bb⟩
  clear m0 m1 m2 m3 m4 x0 x1 x2 x3 x4 y0 y1 y2 y3 y4
  replace mb_m := cells_below mb_m bb (Array.getElem?_eq_some_iff.1 mb_m).1
  replace mb_x := cells_below mb_x bb (Array.getElem?_eq_some_iff.1 mb_x).1
  replace mb_y := cells_below mb_y bb (Array.getElem?_eq_some_iff.1 mb_y).1
  replace hB := Below.on hB bb
  replace I_m := I_m.below bb
  replace I_x := I_x.below bb
  replace I_y := I_y.below bb
  clear bb
  obtain ⟨m0, m1, m2, m3, m4⟩ := five mb_m
  obtain ⟨x0, x1, x2, x3, x4⟩ := five mb_x
  obtain ⟨y0, y1, y2, y3, y4⟩ := five mb_y
  go_wp2_with fail
  refine (used_is I_x.four.2.1 HX.out.2.2.2.2.1 HX.out.2.2.2.2.2.1).mono ?_
  rintro e w5 ⟨rfl, bb⟩
  clear m0 m1 m2 m3 m4 x0 x1 x2 x3 x4 y0 y1 y2 y3 y4
  replace mb_m := cells_below mb_m bb (Array.getElem?_eq_some_iff.1 mb_m).1
  replace mb_x := cells_below mb_x bb (Array.getElem?_eq_some_iff.1 mb_x).1
  replace mb_y := cells_below mb_y bb (Array.getElem?_eq_some_iff.1 mb_y).1
  replace hB := Below.on hB bb
  replace I_m := I_m.below bb
  replace I_x := I_x.below bb
  replace I_y := I_y.below bb
  clear bb
  obtain ⟨m0, m1, m2, m3, m4⟩ := five mb_m
  obtain ⟨x0, x1, x2, x3, x4⟩ := five mb_x
  obtain ⟨y0, y1, y2, y3, y4⟩ := five mb_y
  go_wp2_with fail
  refine (leaks_is I_m HM.out.1 HM.out.2.2.2).mono ?_
  rintro e w6 ⟨rfl, bb⟩
  clear m0 m1 m2 m3 m4 x0 x1 x2 x3 x4 y0 y1 y2 y3 y4
  replace mb_m := cells_below mb_m bb (Array.getElem?_eq_some_iff.1 mb_m).1
  replace mb_x := cells_below mb_x bb (Array.getElem?_eq_some_iff.1 mb_x).1
  replace mb_y := cells_below mb_y bb (Array.getElem?_eq_some_iff.1 mb_y).1
  replace hB := Below.on hB bb
  replace I_m := I_m.below bb
  replace I_x := I_x.below bb
  replace I_y := I_y.below bb
  clear bb
  obtain ⟨m0, m1, m2, m3, m4⟩ := five mb_m
  obtain ⟨x0, x1, x2, x3, x4⟩ := five mb_x
  obtain ⟨y0, y1, y2, y3, y4⟩ := five mb_y
  go_wp2_with fail
  refine (tcheck_is I_x HX.out.2.2.2.2.2.2).mono ?_
  rintro e w7 ⟨rfl, bb⟩
  clear m0 m1 m2 m3 m4 x0 x1 x2 x3 x4 y0 y1 y2 y3 y4
  replace mb_m := cells_below mb_m bb (Array.getElem?_eq_some_iff.1 mb_m).1
  replace mb_x := cells_below mb_x bb (Array.getElem?_eq_some_iff.1 mb_x).1
  replace mb_y := cells_below mb_y bb (Array.getElem?_eq_some_iff.1 mb_y).1
  replace hB := Below.on hB bb
  replace I_m := I_m.below bb
  replace I_x := I_x.below bb
  replace I_y := I_y.below bb
  clear bb
  obtain ⟨m0, m1, m2, m3, m4⟩ := five mb_m
  obtain ⟨x0, x1, x2, x3, x4⟩ := five mb_x
  obtain ⟨y0, y1, y2, y3, y4⟩ := five mb_y
  go_wp2_with fail
  refine (sameI_is I_x I_y).mono ?_
  rintro e w8 ⟨rfl, bb⟩
  clear m0 m1 m2 m3 m4 x0 x1 x2 x3 x4 y0 y1 y2 y3 y4
  replace mb_m := cells_below mb_m bb (Array.getElem?_eq_some_iff.1 mb_m).1
  replace mb_x := cells_below mb_x bb (Array.getElem?_eq_some_iff.1 mb_x).1
  replace mb_y := cells_below mb_y bb (Array.getElem?_eq_some_iff.1 mb_y).1
  replace hB := Below.on hB bb
  replace I_m := I_m.below bb
  replace I_x := I_x.below bb
  replace I_y := I_y.below bb
  clear bb
  clear mb_y
  clear I_y
  obtain ⟨m0, m1, m2, m3, m4⟩ := five mb_m
  obtain ⟨x0, x1, x2, x3, x4⟩ := five mb_x
  go_wp2_with fail
  refine (tcheck_is I_m HC.out).mono ?_
  rintro e w9 ⟨rfl, bb⟩
  clear m0 m1 m2 m3 m4 x0 x1 x2 x3 x4
  replace mb_m := cells_below mb_m bb (Array.getElem?_eq_some_iff.1 mb_m).1
  replace mb_x := cells_below mb_x bb (Array.getElem?_eq_some_iff.1 mb_x).1
  replace hB := Below.on hB bb
  replace I_m := I_m.below bb
  replace I_x := I_x.below bb
  clear bb
  obtain ⟨m0, m1, m2, m3, m4⟩ := five mb_m
  obtain ⟨x0, x1, x2, x3, x4⟩ := five mb_x
  go_wp2_with fail
  refine (choose_any n gn _ h0 h16 hlo hhi).mono ?_
  rintro e w' ⟨⟨j, hj, rfl⟩, hw⟩
  rw [hw]; clear hw
  clear m0 m1 m2 m3 m4 x0 x1 x2 x3 x4
  have hjg : (j : Int) < m.guest := by rw [HG.out]; omega
  have hrd := HR.out j hjg
  obtain ⟨p, hp⟩ : ∃ p, pageV m.slots (lookV m m.root (j : Int).toNat) = p := ⟨_, rfl⟩
  have HP : Hid (pageV m.slots (lookV m m.root (j : Int).toNat) = p) := hp
  have HRD : Hid (lookE X j = 0 ∧ readV X j = p) := ⟨hrd.1, hrd.2.trans hp⟩
  have HJ : Hid ((j : Int) < m.guest) := hjg
  clear hp hrd hjg
  obtain ⟨m0, m1, m2, m3, m4⟩ := five mb_m
  obtain ⟨x0, x1, x2, x3, x4⟩ := five mb_x
  go_wp2_with fail
  refine (read_is I_x j HRD.out.1 HRD.out.2).mono ?_
  rintro e w10 ⟨rfl, bb⟩
  clear m0 m1 m2 m3 m4 x0 x1 x2 x3 x4
  replace mb_m := cells_below mb_m bb (Array.getElem?_eq_some_iff.1 mb_m).1
  replace mb_x := cells_below mb_x bb (Array.getElem?_eq_some_iff.1 mb_x).1
  replace hB := Below.on hB bb
  replace I_m := I_m.below bb
  replace I_x := I_x.below bb
  clear bb
  obtain ⟨m0, m1, m2, m3, m4⟩ := five mb_m
  obtain ⟨x0, x1, x2, x3, x4⟩ := five mb_x
  go_wp2_with fail
  refine (mendBegun_any _).mono ?_
  rintro e w11 ⟨rfl, bb⟩
  clear m0 m1 m2 m3 m4 x0 x1 x2 x3 x4
  replace mb_m := cells_below mb_m bb (Array.getElem?_eq_some_iff.1 mb_m).1
  replace mb_x := cells_below mb_x bb (Array.getElem?_eq_some_iff.1 mb_x).1
  replace hB := Below.on hB bb
  replace I_m := I_m.below bb
  replace I_x := I_x.below bb
  clear bb
  obtain ⟨m0, m1, m2, m3, m4⟩ := five mb_m
  obtain ⟨x0, x1, x2, x3, x4⟩ := five mb_x
  go_wp2_with fail
  refine (readOf_sh I_m j HM.out.1 (by omega) HJ.out HP.out).mono ?_
  rintro e w12 ⟨rfl, bb⟩
  clear m0 m1 m2 m3 m4 x0 x1 x2 x3 x4
  replace mb_m := cells_below mb_m bb (Array.getElem?_eq_some_iff.1 mb_m).1
  replace mb_x := cells_below mb_x bb (Array.getElem?_eq_some_iff.1 mb_x).1
  replace hB := Below.on hB bb
  replace I_m := I_m.below bb
  replace I_x := I_x.below bb
  clear bb
  obtain ⟨m0, m1, m2, m3, m4⟩ := five mb_m
  obtain ⟨x0, x1, x2, x3, x4⟩ := five mb_x
  go_wp2_with fail
  go_ret
  exact ⟨by simp, hB⟩

theorem mtrue_is {v : Value} {m : ImgD} {w : World} (h : Img w v m) (hF : Fits m) (n : Int) (hlo : -9223372036854775808 ≤ n) (hhi : n ≤ 9223372036854775807) : Calls Try.prog 7 #[v, .int .i64 n] w fun r w' => r = .returned (.bool true) ∧ Below w.heap.size w w' := by
  have h' := h
  obtain ⟨ra, rc, sa, sc, fa, fc, na, nc, rfl, h1, h2, h3, h4⟩ := h.parts
  by_cases hE : shapeE m = 0
  · have hg := guest_ok hE
    by_cases hC : checkE m = 0
    · by_cases hg1 : m.guest < 1
      · exact mtrue_cg ra rc sa sc fa fc na nc m n w hg1 h' hF hE _ rfl (by simpa using hC)
      · obtain ⟨k, hk⟩ : ∃ k : Nat, m.guest = k := ⟨m.guest.toNat, by omega⟩
        rw [hk] at h' ⊢
        exact mtrue_cn ra rc sa sc fa fc na nc m n w k hk (by omega) h' hF hE _ rfl (by simpa using hC) hlo hhi
    · by_cases hg1 : m.guest < 1
      · exact mtrue_ng ra rc sa sc fa fc na nc m n w hg1 h' hF hE _ rfl (by simpa using hC)
      · obtain ⟨k, hk⟩ : ∃ k : Nat, m.guest = k := ⟨m.guest.toNat, by omega⟩
        rw [hk] at h' ⊢
        exact mtrue_nn ra rc sa sc fa fc na nc m n w k hk (by omega) h' hF hE _ rfl (by simpa using hC) hlo hhi
  · exact mtrue_bad ra rc sa sc fa fc na nc m n w h' hF _ rfl hE (by simpa using hE)
end Go.Proofs.Ytehleeibgkpjmae
/- From the reading of an argument to what it holds: slices of integers, slots, slices of slots. -/
namespace Go.Proofs.Ytehleeibgkpjmae
open Go.RowKit Go.Deep Go.ChangeShapes Go.WideShapes Go.ChangeAt
set_option maxRecDepth 20000

theorem cells27 : Try.prog.cellsOf 22 = 1 := by kernel_rfl
theorem cells3 : Try.prog.cellsOf 3 = 1 := by kernel_rfl
theorem cells9 : Try.prog.cellsOf 9 = 1 := by kernel_rfl
theorem cells29 : Try.prog.cellsOf 72 = 3 := by kernel_rfl

variable {H : Type} {enc : TypeId × Value → H} {w : World} {base : Nat} {spare : Nat → Bool} {held : Bool}

/-- The cells of a row by its address. -/
theorem row_at {w : World} {a : Addr} {n : Nat} {f : Nat → Value} (hn : 0 < n) (h : ∀ i, i < n → w.cell? (a.add i) = some (f i)) :
    ∃ b off, a = ⟨b, off, none⟩ ∧ b < w.heap.size ∧ ∀ i, i < n → w.cell? ⟨b, off + i, none⟩ = some (f i) := by
  have h0 := h 0 hn
  obtain ⟨b, off, spot⟩ := a
  have hspot : spot = none := by simpa [Addr.add] using World.cell?_spot h0
  subst hspot
  refine ⟨b, off, rfl, World.block_lt_of_cell? w _ (by rw [addr_add] at h0; exact h0), fun i hi => ?_⟩
  have := h i hi
  rw [addr_add] at this
  exact this

theorem sl_of_trod {n : Nat} {cs : List Value} {x : DataW H × List MemPlace} (h : DataW.trod enc Try.prog w base spare held n 22 cs = some x) : ∃ v xs, cs = [v] ∧ Sl w v xs := by
  rcases open_ints Try.underlying22 Try.underlying3 cells3 h with ⟨rfl, _⟩ | ⟨a, l, c, zs, rfl, _, hl, hm, hz, _, hcell, _⟩
  · exact ⟨_, [], rfl, Sl.nil w⟩
  · have hlz : l ≤ zs.length := by rw [hz]; split <;> omega
    have hlen : (zs.take l).length = l := by simp; omega
    refine ⟨_, zs.take l, rfl, some a, c, by rw [hlen], by rw [hlen]; omega, by rw [hlen]; exact hl, fun hne => ?_⟩
    have hpos : 0 < l := by
      rcases Nat.eq_zero_or_pos l with e | e
      · subst e; simp at hne
      · exact e
    obtain ⟨b, off, rfl, hb, hc⟩ := row_at (w := w) (a := a) (n := l) (f := fun i => .int .i64 (zs.getD i 0)) hpos (fun i hi => hcell i (by omega))
    refine ⟨b, off, rfl, hb, fun j hj => ?_⟩
    rw [hlen] at hj
    rw [hc j hj]
    simp [List.getD, hj]

set_option maxRecDepth 20000 in
theorem slot_of_trod {n : Nat} {cs : List Value} {x : DataW H × List MemPlace} (h : DataW.trod enc Try.prog w base spare held n 72 cs = some x) :
    ∃ k d tv xs, cs = [.int .i64 k, .string d, tv] ∧ Sl w tv xs := by
  obtain ⟨y0, y1, y2, m, _, hl, h0, h1, h2⟩ := trod_struct3 Try.underlying72 h
  rw [cells29] at hl
  match cs, hl with
  | [c0, c1, c2], _ =>
    simp only [cells3, cells9, cells27] at h0 h1 h2
    obtain ⟨k, e0, _, _⟩ := DataW.trod_int Try.underlying3 h0
    obtain ⟨d, e1, _, _⟩ := DataW.trod_string Try.underlying9 h1
    obtain ⟨tv, xs, e2, hs⟩ := sl_of_trod h2
    simp at e0 e1 e2
    subst e0 e1 e2
    exact ⟨k, d, _, xs, rfl, hs⟩

theorem slots_of_trod {n : Nat} {v : Value} {x : DataW H × List MemPlace} (h : DataW.trod enc Try.prog w base spare held n 23 [v] = some x) : ∃ L, Slots w v L := by
  rcases open_slice Try.underlying23 h with ⟨hv, _⟩ | ⟨a, len, cap, m, fuel, D, Pl, hv, _, hl, hm, hmm, _, hx⟩
  · simp at hv
    subst hv
    exact ⟨[], none, 0, rfl, Nat.zero_le _, Nat.zero_le _, fun h => absurd rfl h⟩
  · simp at hv
    subst hv
    rw [cells29] at hx
    have hx' : ∀ i, i < len → ∃ s : SlotD, ∃ tv, w.cell? (a.add (i * 3)) = some (.int .i64 s.1) ∧ w.cell? ((a.add (i * 3)).add 1) = some (.string s.2.1) ∧ w.cell? ((a.add (i * 3)).add 2) = some tv ∧ Sl w tv s.2.2 := by
      intro i hi
      obtain ⟨cs', h1, h2⟩ := hx i (by rw [hmm]; split <;> omega)
      obtain ⟨k, d, tv, xs, rfl, hs⟩ := slot_of_trod h2
      obtain ⟨_, _, hc⟩ := World.cells?_some h1
      have c0 := hc 0 (by omega)
      have c1 := hc 1 (by omega)
      have c2 := hc 2 (by omega)
      exact ⟨(k, d, xs), tv, by simpa [Addr.add] using c0, c1, c2, hs⟩
    obtain ⟨f, hf⟩ := choose_lt hx'
    have hlen : ((List.range len).map f).length = len := by simp
    refine ⟨(List.range len).map f, some a, cap, by rw [hlen], by rw [hlen]; omega, by rw [hlen]; exact hl, fun hne => ?_⟩
    have hpos : 0 < len := by
      rcases Nat.eq_zero_or_pos len with e | e
      · subst e; simp at hne
      · exact e
    obtain ⟨tv0, c0, _⟩ := hf 0 hpos
    obtain ⟨b, off, spot⟩ := a
    have hspot : spot = none := by simpa [Addr.add] using World.cell?_spot c0
    subst hspot
    refine ⟨b, off, rfl, World.block_lt_of_cell? w _ (by rw [addr_add] at c0; exact c0), fun j hj => ?_⟩
    rw [hlen] at hj
    obtain ⟨tv, c0, c1, c2, hs⟩ := hf j hj
    rw [addr_add] at c0 c1 c2
    rw [addr_add] at c1 c2
    have e : ((List.range len).map f)[j]'(by rw [hlen]; exact hj) = f j := by simp
    rw [e]
    exact ⟨tv, c0, c1, c2, hs⟩
set_option maxRecDepth 20000 in
theorem slot_of_arg {r : Reach} {b0 : Nat} {v : Value} {d : DataW H} {p : List MemPlace} (hv : Value.okWide Try.prog w r b0 72 v) (h : DataW.Trod enc Try.prog w base spare held 72 v d p) :
    ∃ k d tv xs, v = .agg #[.int .i64 k, .string d, tv] ∧ Sl w tv xs := by
  obtain ⟨cs, rfl, hsz⟩ := okWide_struct Try.underlying72 hv
  obtain ⟨fuel, hf⟩ := h
  obtain ⟨k, d, tv, xs, e, hs⟩ := slot_of_trod hf
  refine ⟨k, d, tv, xs, ?_, hs⟩
  have e' : cs.toList = [.int .i64 k, .string d, tv] := by simpa [Value.cells] using e
  cases cs
  simp at e'
  rw [e']
end Go.Proofs.Ytehleeibgkpjmae
/- From the reading of an argument to what it holds: snapshots, slices of them, images. -/
namespace Go.Proofs.Ytehleeibgkpjmae
open Go.RowKit Go.Deep Go.ChangeShapes Go.WideShapes Go.ChangeAt
set_option maxRecDepth 20000

theorem cellsSnap : Try.prog.cellsOf 64 = 3 := by kernel_rfl
theorem cellsSnaps : Try.prog.cellsOf 24 = 1 := by kernel_rfl
theorem cellsSlots : Try.prog.cellsOf 23 = 1 := by kernel_rfl
theorem cellsImage : Try.prog.cellsOf 26 = 5 := by kernel_rfl

variable {H : Type} {enc : TypeId × Value → H} {w : World} {base : Nat} {spare : Nat → Bool} {held : Bool}

set_option maxRecDepth 20000 in
theorem snap_of_trod {n : Nat} {cs : List Value} {x : DataW H × List MemPlace} (h : DataW.trod enc Try.prog w base spare held n 64 cs = some x) :
    ∃ d k tv xs, cs = [.string d, .int .i64 k, tv] ∧ Sl w tv xs := by
  obtain ⟨y0, y1, y2, m, _, hl, h0, h1, h2⟩ := trod_struct3 Try.underlying64 h
  rw [cellsSnap] at hl
  match cs, hl with
  | [c0, c1, c2], _ =>
    simp only [cells3, cells9, cells27] at h0 h1 h2
    obtain ⟨d, e0, _, _⟩ := DataW.trod_string Try.underlying9 h0
    obtain ⟨k, e1, _, _⟩ := DataW.trod_int Try.underlying3 h1
    obtain ⟨tv, xs, e2, hs⟩ := sl_of_trod h2
    simp at e0 e1 e2
    subst e0 e1 e2
    exact ⟨d, k, _, xs, rfl, hs⟩

theorem snaps_of_trod {n : Nat} {v : Value} {x : DataW H × List MemPlace} (h : DataW.trod enc Try.prog w base spare held n 24 [v] = some x) : ∃ L, Snaps w v L := by
  rcases open_slice Try.underlying24 h with ⟨hv, _⟩ | ⟨a, len, cap, m, fuel, D, Pl, hv, _, hl, hm, hmm, _, hx⟩
  · simp at hv
    subst hv
    exact ⟨[], none, 0, rfl, Nat.zero_le _, Nat.zero_le _, fun h => absurd rfl h⟩
  · simp at hv
    subst hv
    rw [cellsSnap] at hx
    have hx' : ∀ i, i < len → ∃ s : SnapD, ∃ tv, w.cell? (a.add (i * 3)) = some (.string s.1) ∧ w.cell? ((a.add (i * 3)).add 1) = some (.int .i64 s.2.1) ∧ w.cell? ((a.add (i * 3)).add 2) = some tv ∧ Sl w tv s.2.2 := by
      intro i hi
      obtain ⟨cs', h1, h2⟩ := hx i (by rw [hmm]; split <;> omega)
      obtain ⟨k, d, tv, xs, rfl, hs⟩ := snap_of_trod h2
      obtain ⟨_, _, hc⟩ := World.cells?_some h1
      have c0 := hc 0 (by omega)
      have c1 := hc 1 (by omega)
      have c2 := hc 2 (by omega)
      exact ⟨(k, d, xs), tv, by simpa [Addr.add] using c0, c1, c2, hs⟩
    obtain ⟨f, hf⟩ := choose_lt hx'
    have hlen : ((List.range len).map f).length = len := by simp
    refine ⟨(List.range len).map f, some a, cap, by rw [hlen], by rw [hlen]; omega, by rw [hlen]; exact hl, fun hne => ?_⟩
    have hpos : 0 < len := by
      rcases Nat.eq_zero_or_pos len with e | e
      · subst e; simp at hne
      · exact e
    obtain ⟨tv0, c0, _⟩ := hf 0 hpos
    obtain ⟨b, off, spot⟩ := a
    have hspot : spot = none := by simpa [Addr.add] using World.cell?_spot c0
    subst hspot
    refine ⟨b, off, rfl, World.block_lt_of_cell? w _ (by rw [addr_add] at c0; exact c0), fun j hj => ?_⟩
    rw [hlen] at hj
    obtain ⟨tv, c0, c1, c2, hs⟩ := hf j hj
    rw [addr_add] at c0 c1 c2
    rw [addr_add] at c1 c2
    have e : ((List.range len).map f)[j]'(by rw [hlen]; exact hj) = f j := by simp
    rw [e]
    exact ⟨tv, c0, c1, c2, hs⟩

theorem trod_struct5 {P : Program} {t : TypeId} {f0 f1 f2 f3 f4 : Field} {fuel : Nat} {cs : List Value} {x : DataW H × List MemPlace} (ht : P.underlying t = some (.struct #[f0, f1, f2, f3, f4])) (h : DataW.trod enc P w base spare held fuel t cs = some x) :
    ∃ y0 y1 y2 y3 y4 n, cs.length = P.cellsOf t ∧ DataW.trod enc P w base spare held n f0.type ((cs.drop f0.offset).take (P.cellsOf f0.type)) = some y0 ∧
      DataW.trod enc P w base spare held n f1.type ((cs.drop f1.offset).take (P.cellsOf f1.type)) = some y1 ∧ DataW.trod enc P w base spare held n f2.type ((cs.drop f2.offset).take (P.cellsOf f2.type)) = some y2 ∧
      DataW.trod enc P w base spare held n f3.type ((cs.drop f3.offset).take (P.cellsOf f3.type)) = some y3 ∧ DataW.trod enc P w base spare held n f4.type ((cs.drop f4.offset).take (P.cellsOf f4.type)) = some y4 := by
  obtain ⟨xs, n, _, rfl, hl, hlen, hf⟩ := DataW.trod_struct ht h
  match xs, hlen with
  | [y0, y1, y2, y3, y4], _ => exact ⟨y0, y1, y2, y3, y4, n, hl, by simpa using hf 0 f0 rfl, by simpa using hf 1 f1 rfl, by simpa using hf 2 f2 rfl, by simpa using hf 3 f3 rfl, by simpa using hf 4 f4 rfl⟩
set_option maxRecDepth 20000 in
theorem img_of_trod {n : Nat} {cs : List Value} {x : DataW H × List MemPlace} (h : DataW.trod enc Try.prog w base spare held n 26 cs = some x) : ∃ g rv sv fv nv, cs = [.int .i64 g, rv, sv, fv, nv] ∧ ∃ r L F S, Sl w rv r ∧ Slots w sv L ∧ Sl w fv F ∧ Snaps w nv S := by
  obtain ⟨y0, y1, y2, y3, y4, m, hl, h0, h1, h2, h3, h4⟩ := trod_struct5 Try.underlying26 h
  rw [cellsImage] at hl
  match cs, hl with
  | [c0, c1, c2, c3, c4], _ =>
    simp only [cells3] at h0
    simp only [cells27] at h1 h3
    simp only [cellsSlots] at h2
    simp only [cellsSnaps] at h4
    obtain ⟨g, e0, _, _⟩ := DataW.trod_int Try.underlying3 h0
    obtain ⟨rv, r, e1, hr⟩ := sl_of_trod h1
    obtain ⟨L, hL⟩ := slots_of_trod (v := c2) h2
    obtain ⟨fv, F, e3, hF⟩ := sl_of_trod h3
    obtain ⟨S, hS⟩ := snaps_of_trod (v := c4) h4
    simp at e0 e1 e3
    subst e0 e1 e3
    exact ⟨g, _, _, _, _, rfl, r, L, F, S, hr, hL, hF, hS⟩
set_option maxRecDepth 20000 in
theorem img_of_arg {r : Reach} {b0 : Nat} {v : Value} {d : DataW H} {p : List MemPlace} (hv : Value.okWide Try.prog w r b0 26 v) (h : DataW.Trod enc Try.prog w base spare held 26 v d p) : ∃ m, Img w v m := by
  obtain ⟨cs, rfl, hsz⟩ := okWide_struct Try.underlying26 hv
  obtain ⟨fuel, hf⟩ := h
  obtain ⟨g, rv, sv, fv, nv, e, r, L, F, S, h1, h2, h3, h4⟩ := img_of_trod hf
  have e' : cs.toList = [.int .i64 g, rv, sv, fv, nv] := by simpa [Value.cells] using e
  cases cs
  simp at e'
  exact ⟨⟨g, r, L, F, S⟩, rv, sv, fv, nv, by rw [e'], h1, h2, h3, h4⟩
end Go.Proofs.Ytehleeibgkpjmae
/- From the reading of an argument to what it holds, and that it is not too wide to be copied. -/
namespace Go.Proofs.Ytehleeibgkpjmae
open Go.RowKit Go.Deep Go.ChangeShapes Go.WideShapes Go.ChangeAt
set_option maxRecDepth 20000

theorem bytes3 : Try.prog.bytesOf 3 = 8 := by kernel_rfl
theorem bytesSlot : Try.prog.bytesOf 72 = 48 := by kernel_rfl
theorem bytesSnap : Try.prog.bytesOf 64 = 48 := by kernel_rfl
theorem reach_room : reachBytes ≤ room := by decide

section
variable {H : Type} {enc : TypeId × Value → H} {w : World} {base : Nat} {spare : Nat → Bool} {held : Bool}

def Rch {H : Type} (d : DataW H) (t : TypeId) : Prop := ∀ n ∈ d.weights Try.prog t, n ≤ reachBytes
theorem mem_weightsAll {P : Program} {e : TypeId} {d : DataW H} {n : Nat} : ∀ {l : List (DataW H)}, d ∈ l → n ∈ d.weights P e → n ∈ DataW.weightsAll P e l
  | x :: l, hd, hn => by
    simp only [DataW.weightsAll, List.mem_append]
    rcases List.mem_cons.1 hd with rfl | h
    · exact .inl hn
    · exact .inr (mem_weightsAll h hn)
theorem sl_fit {n : Nat} {cs : List Value} {x : DataW H × List MemPlace} (h : DataW.trod enc Try.prog w base spare held n 22 cs = some x) (hr : Rch x.1 22) : ∃ v xs, cs = [v] ∧ Sl w v xs ∧ xs.length * 8 ≤ room := by
  obtain ⟨v, xs, e, hs⟩ := sl_of_trod h
  refine ⟨v, xs, e, hs, ?_⟩
  rcases open_ints Try.underlying22 Try.underlying3 cells3 h with ⟨rfl, _⟩ | ⟨a, l, c, zs, rfl, _, hl, hm, hz, rfl, hcell, _⟩
  · simp at e
    subst e
    obtain ⟨ao, cap, e, _⟩ := hs
    simp only [Value.slice.injEq] at e
    rw [← e.2.1, Nat.zero_mul]; exact Nat.zero_le _
  · simp at e
    subst e
    obtain ⟨ao, cap, e, _⟩ := hs
    simp only [Value.slice.injEq] at e
    have hlz : l ≤ zs.length := by rw [hz]; split <;> omega
    have := hr ((zs.take l).length * 8 + (zs.drop l).length * 8) (by
      simp only [DataW.weights, Try.underlying22, lits, List.length_map, bytes3, Nat.add_mul]
      exact List.mem_cons_self)
    have hh := Nat.le_trans this reach_room
    rw [List.length_take, List.length_drop] at hh
    rw [← e.2.1]
    omega

set_option maxRecDepth 20000 in
theorem slot_fit {n : Nat} {cs : List Value} {x : DataW H × List MemPlace} (h : DataW.trod enc Try.prog w base spare held n 72 cs = some x) (hr : Rch x.1 72) :
    ∃ k d tv xs, cs = [.int .i64 k, .string d, tv] ∧ Sl w tv xs ∧ xs.length * 8 ≤ room := by
  obtain ⟨y0, y1, y2, m, rfl, hl, h0, h1, h2⟩ := trod_struct3 Try.underlying72 h
  rw [cells29] at hl
  match cs, hl with
  | [c0, c1, c2], _ =>
    simp only [cells3, cells9, cells27] at h0 h1 h2
    have hr2 : Rch y2.1 22 := fun n hn => hr n (by
      simp only [DataW.weights, Try.underlying72, DataW.weightsEach, List.map_cons, List.map_nil, List.mem_append]
      exact .inr (.inr (.inl hn)))
    obtain ⟨tv, xs, e2, hs, hb⟩ := sl_fit h2 hr2
    obtain ⟨k, e0, _, _⟩ := DataW.trod_int Try.underlying3 h0
    obtain ⟨d, e1, _, _⟩ := DataW.trod_string Try.underlying9 h1
    simp at e0 e1 e2
    subst e0 e1 e2
    exact ⟨k, d, _, xs, rfl, hs, hb⟩
theorem slots_fit {n : Nat} {v : Value} {x : DataW H × List MemPlace} (h : DataW.trod enc Try.prog w base spare held n 23 [v] = some x) (hr : Rch x.1 23) : ∃ L, Slots w v L ∧ L.length * 48 ≤ room ∧ ∀ j, j < L.length → (L.getD j default).2.2.length * 8 ≤ room := by
  rcases open_slice Try.underlying23 h with ⟨hv, _⟩ | ⟨a, len, cap, m, fuel, D, Pl, hv, _, hl, hm, hmm, rfl, hx⟩
  · simp at hv
    subst hv
    exact ⟨[], ⟨none, 0, rfl, Nat.zero_le _, Nat.zero_le _, fun h => absurd rfl h⟩, Nat.zero_le _, fun j hj => absurd hj (Nat.not_lt_zero _)⟩
  · simp at hv
    subst hv
    rw [cells29] at hx
    have hx' : ∀ i, i < len → ∃ s : SlotD, ∃ tv, w.cell? (a.add (i * 3)) = some (.int .i64 s.1) ∧ w.cell? ((a.add (i * 3)).add 1) = some (.string s.2.1) ∧ w.cell? ((a.add (i * 3)).add 2) = some tv ∧ Sl w tv s.2.2 ∧ s.2.2.length * 8 ≤ room := by
      intro i hi
      obtain ⟨cs', h1, h2⟩ := hx i (by rw [hmm]; split <;> omega)
      have hri : Rch (D i) 72 := fun n hn => hr n (by
        simp only [DataW.weights, Try.underlying23]
        refine List.mem_cons_of_mem _ (List.mem_append_left _ (mem_weightsAll (d := D i) ?_ hn))
        exact List.mem_map.2 ⟨i, List.mem_range.2 hi, rfl⟩)
      obtain ⟨k, d, tv, xs, rfl, hs, hb⟩ := slot_fit h2 hri
      obtain ⟨_, _, hc⟩ := World.cells?_some h1
      have c0 := hc 0 (by omega)
      have c1 := hc 1 (by omega)
      have c2 := hc 2 (by omega)
      exact ⟨(k, d, xs), tv, by simpa [Addr.add] using c0, c1, c2, hs, hb⟩
    obtain ⟨f, hf⟩ := choose_lt hx'
    have hlen : ((List.range len).map f).length = len := by simp
    refine ⟨(List.range len).map f, ⟨some a, cap, by rw [hlen], by rw [hlen]; omega, by rw [hlen]; exact hl, fun hne => ?_⟩, ?_, fun j hj => ?_⟩
    · have hpos : 0 < len := by
        rcases Nat.eq_zero_or_pos len with e | e
        · subst e; simp at hne
        · exact e
      obtain ⟨tv0, c0, _⟩ := hf 0 hpos
      obtain ⟨b, off, spot⟩ := a
      have hspot : spot = none := by simpa [Addr.add] using World.cell?_spot c0
      subst hspot
      refine ⟨b, off, rfl, World.block_lt_of_cell? w _ (by rw [addr_add] at c0; exact c0), fun j hj => ?_⟩
      rw [hlen] at hj
      obtain ⟨tv, c0, c1, c2, hs, _⟩ := hf j hj
      rw [addr_add] at c0 c1 c2
      rw [addr_add] at c1 c2
      have e : ((List.range len).map f)[j]'(by rw [hlen]; exact hj) = f j := by simp
      rw [e]
      exact ⟨tv, c0, c1, c2, hs⟩
    · rw [hlen]
      have := hr ((len + (m - len)) * 48) (by
        simp only [DataW.weights, Try.underlying23, List.length_map, List.length_range, bytesSlot]
        exact List.mem_cons_self)
      have hh := Nat.le_trans this reach_room
      have : len * 48 ≤ (len + (m - len)) * 48 := Nat.mul_le_mul_right _ (by omega)
      omega
    · rw [hlen] at hj
      obtain ⟨_, _, _, _, _, hb⟩ := hf j hj
      have e : ((List.range len).map f).getD j default = f j := by simp [List.getD, hj]
      rw [e]
      exact hb

set_option maxRecDepth 20000 in
theorem snap_fitB {n : Nat} {cs : List Value} {x : DataW H × List MemPlace} (h : DataW.trod enc Try.prog w base spare held n 64 cs = some x) (hr : Rch x.1 64) :
    ∃ d k tv xs, cs = [.string d, .int .i64 k, tv] ∧ Sl w tv xs ∧ xs.length * 8 ≤ room := by
  obtain ⟨y0, y1, y2, m, rfl, hl, h0, h1, h2⟩ := trod_struct3 Try.underlying64 h
  rw [cellsSnap] at hl
  match cs, hl with
  | [c0, c1, c2], _ =>
    simp only [cells3, cells9, cells27] at h0 h1 h2
    have hr2 : Rch y2.1 22 := fun n hn => hr n (by
      simp only [DataW.weights, Try.underlying64, DataW.weightsEach, List.map_cons, List.map_nil, List.mem_append]
      exact .inr (.inr (.inl hn)))
    obtain ⟨tv, xs, e2, hs, hb⟩ := sl_fit h2 hr2
    obtain ⟨d, e0, _, _⟩ := DataW.trod_string Try.underlying9 h0
    obtain ⟨k, e1, _, _⟩ := DataW.trod_int Try.underlying3 h1
    simp at e0 e1 e2
    subst e0 e1 e2
    exact ⟨d, k, _, xs, rfl, hs, hb⟩
theorem snaps_fit {n : Nat} {v : Value} {x : DataW H × List MemPlace} (h : DataW.trod enc Try.prog w base spare held n 24 [v] = some x) (hr : Rch x.1 24) : ∃ L, Snaps w v L ∧ L.length * 48 ≤ room ∧ ∀ j, j < L.length → (L.getD j default).2.2.length * 8 ≤ room := by
  rcases open_slice Try.underlying24 h with ⟨hv, _⟩ | ⟨a, len, cap, m, fuel, D, Pl, hv, _, hl, hm, hmm, rfl, hx⟩
  · simp at hv
    subst hv
    exact ⟨[], ⟨none, 0, rfl, Nat.zero_le _, Nat.zero_le _, fun h => absurd rfl h⟩, Nat.zero_le _, fun j hj => absurd hj (Nat.not_lt_zero _)⟩
  · simp at hv
    subst hv
    rw [cellsSnap] at hx
    have hx' : ∀ i, i < len → ∃ s : SnapD, ∃ tv, w.cell? (a.add (i * 3)) = some (.string s.1) ∧ w.cell? ((a.add (i * 3)).add 1) = some (.int .i64 s.2.1) ∧ w.cell? ((a.add (i * 3)).add 2) = some tv ∧ Sl w tv s.2.2 ∧ s.2.2.length * 8 ≤ room := by
      intro i hi
      obtain ⟨cs', h1, h2⟩ := hx i (by rw [hmm]; split <;> omega)
      have hri : Rch (D i) 64 := fun n hn => hr n (by
        simp only [DataW.weights, Try.underlying24]
        refine List.mem_cons_of_mem _ (List.mem_append_left _ (mem_weightsAll (d := D i) ?_ hn))
        exact List.mem_map.2 ⟨i, List.mem_range.2 hi, rfl⟩)
      obtain ⟨d, k, tv, xs, rfl, hs, hb⟩ := snap_fitB h2 hri
      obtain ⟨_, _, hc⟩ := World.cells?_some h1
      have c0 := hc 0 (by omega)
      have c1 := hc 1 (by omega)
      have c2 := hc 2 (by omega)
      exact ⟨(d, k, xs), tv, by simpa [Addr.add] using c0, c1, c2, hs, hb⟩
    obtain ⟨f, hf⟩ := choose_lt hx'
    have hlen : ((List.range len).map f).length = len := by simp
    refine ⟨(List.range len).map f, ⟨some a, cap, by rw [hlen], by rw [hlen]; omega, by rw [hlen]; exact hl, fun hne => ?_⟩, ?_, fun j hj => ?_⟩
    · have hpos : 0 < len := by
        rcases Nat.eq_zero_or_pos len with e | e
        · subst e; simp at hne
        · exact e
      obtain ⟨tv0, c0, _⟩ := hf 0 hpos
      obtain ⟨b, off, spot⟩ := a
      have hspot : spot = none := by simpa [Addr.add] using World.cell?_spot c0
      subst hspot
      refine ⟨b, off, rfl, World.block_lt_of_cell? w _ (by rw [addr_add] at c0; exact c0), fun j hj => ?_⟩
      rw [hlen] at hj
      obtain ⟨tv, c0, c1, c2, hs, _⟩ := hf j hj
      rw [addr_add] at c0 c1 c2
      rw [addr_add] at c1 c2
      have e : ((List.range len).map f)[j]'(by rw [hlen]; exact hj) = f j := by simp
      rw [e]
      exact ⟨tv, c0, c1, c2, hs⟩
    · rw [hlen]
      have := hr ((len + (m - len)) * 48) (by
        simp only [DataW.weights, Try.underlying24, List.length_map, List.length_range, bytesSnap]
        exact List.mem_cons_self)
      have hh := Nat.le_trans this reach_room
      have : len * 48 ≤ (len + (m - len)) * 48 := Nat.mul_le_mul_right _ (by omega)
      omega
    · rw [hlen] at hj
      obtain ⟨_, _, _, _, _, hb⟩ := hf j hj
      have e : ((List.range len).map f).getD j default = f j := by simp [List.getD, hj]
      rw [e]
      exact hb

theorem trod_struct5x {P : Program} {t : TypeId} {f0 f1 f2 f3 f4 : Field} {fuel : Nat} {cs : List Value} {x : DataW H × List MemPlace} (ht : P.underlying t = some (.struct #[f0, f1, f2, f3, f4])) (h : DataW.trod enc P w base spare held fuel t cs = some x) :
    ∃ y0 y1 y2 y3 y4 n, x.1 = .agg [y0.1, y1.1, y2.1, y3.1, y4.1] ∧ cs.length = P.cellsOf t ∧ DataW.trod enc P w base spare held n f0.type ((cs.drop f0.offset).take (P.cellsOf f0.type)) = some y0 ∧
      DataW.trod enc P w base spare held n f1.type ((cs.drop f1.offset).take (P.cellsOf f1.type)) = some y1 ∧ DataW.trod enc P w base spare held n f2.type ((cs.drop f2.offset).take (P.cellsOf f2.type)) = some y2 ∧
      DataW.trod enc P w base spare held n f3.type ((cs.drop f3.offset).take (P.cellsOf f3.type)) = some y3 ∧ DataW.trod enc P w base spare held n f4.type ((cs.drop f4.offset).take (P.cellsOf f4.type)) = some y4 := by
  obtain ⟨xs, n, _, rfl, hl, hlen, hf⟩ := DataW.trod_struct ht h
  match xs, hlen with
  | [y0, y1, y2, y3, y4], _ => exact ⟨y0, y1, y2, y3, y4, n, by simp, hl, by simpa using hf 0 f0 rfl, by simpa using hf 1 f1 rfl, by simpa using hf 2 f2 rfl, by simpa using hf 3 f3 rfl, by simpa using hf 4 f4 rfl⟩
set_option maxRecDepth 20000 in
theorem img_fit {n : Nat} {cs : List Value} {x : DataW H × List MemPlace} (h : DataW.trod enc Try.prog w base spare held n 26 cs = some x) (hr : Rch x.1 26) : ∃ m : ImgD, ∃ rv sv fv nv, cs = [.int .i64 m.guest, rv, sv, fv, nv] ∧ Sl w rv m.root ∧ Slots w sv m.slots ∧ Sl w fv m.refs ∧ Snaps w nv m.snaps ∧ Fits m := by
  obtain ⟨y0, y1, y2, y3, y4, k, hx, hl, h0, h1, h2, h3, h4⟩ := trod_struct5x Try.underlying26 h
  rw [hx] at hr
  rw [cellsImage] at hl
  match cs, hl with
    | [c0, c1, c2, c3, c4], _ =>
      simp only [cells3] at h0
      simp only [cells27] at h1 h3
      simp only [cellsSlots] at h2
      simp only [cellsSnaps] at h4
      have hw : ∀ n, (n ∈ y1.1.weights Try.prog 22 ∨ n ∈ y2.1.weights Try.prog 23 ∨ n ∈ y3.1.weights Try.prog 22 ∨ n ∈ y4.1.weights Try.prog 24) → n ≤ reachBytes := fun n hn => hr n (by
        simp only [DataW.weights, Try.underlying26, DataW.weightsEach, List.map_cons, List.map_nil, List.mem_append]
        rcases hn with h | h | h | h
        · exact .inr (.inl h)
        · exact .inr (.inr (.inl h))
        · exact .inr (.inr (.inr (.inl h)))
        · exact .inr (.inr (.inr (.inr (.inl h)))))
      obtain ⟨g, e0, _, _⟩ := DataW.trod_int Try.underlying3 h0
      obtain ⟨rv, r, e1, hr1, b1⟩ := sl_fit h1 (fun n hn => hw n (.inl hn))
      obtain ⟨L, hL, b2, b2'⟩ := slots_fit (v := c2) h2 (fun n hn => hw n (.inr (.inl hn)))
      obtain ⟨fv, F, e3, hF, b3⟩ := sl_fit h3 (fun n hn => hw n (.inr (.inr (.inl hn))))
      obtain ⟨S, hS, b4, b4'⟩ := snaps_fit (v := c4) h4 (fun n hn => hw n (.inr (.inr (.inr hn))))
      simp at e0 e1 e3
      subst e0 e1 e3
      exact ⟨⟨g, r, L, F, S⟩, _, _, _, _, rfl, hr1, hL, hF, hS, b1, b2, b3, b4, b2', b4'⟩
theorem img_of_sized {r : Reach} {b0 : Nat} {v : Value} {d : DataW H} {p : List MemPlace} (hv : Value.okWide Try.prog w r b0 26 v) (h : DataW.Trod enc Try.prog w base spare held 26 v d p) (hr : ∀ n ∈ d.weights Try.prog 26, n ≤ reachBytes) : ∃ m, Img w v m ∧ Fits m := by
  obtain ⟨cs, rfl, hsz⟩ := okWide_struct Try.underlying26 hv
  obtain ⟨fuel, hf⟩ := h
  obtain ⟨m, rv, sv, fv, nv, e, h1, h2, h3, h4, hF⟩ := img_fit hf hr
  have e' : cs.toList = [.int .i64 m.guest, rv, sv, fv, nv] := by simpa [Value.cells] using e
  cases cs
  simp at e'
  exact ⟨m, ⟨rv, sv, fv, nv, by rw [e'], h1, h2, h3, h4⟩, hF⟩
end
end Go.Proofs.Ytehleeibgkpjmae
