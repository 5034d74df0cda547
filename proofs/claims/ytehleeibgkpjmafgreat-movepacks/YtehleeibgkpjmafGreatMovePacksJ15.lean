/- Texts joined: SameI, MvPk, SlotsIn, ImgIn. -/
import Derived.Test.YtehleeibgkpjmafGreatMovePacksJ3
import Derived.Test.YtehleeibgkpjmafGreatMovePacksJ12
import Derived.Deep.RegionHeld3
import Derived.Test.YtehleeibgkpjmafGreatMovePacksJ14
import Derived.Test.YtehleeibgkpjmafGreatMovePacksJ13
import Derived.Test.YtehleeibgkpjmafGreatMovePacksJ1
import Derived.Deep.Strs
import Derived.Deep.Slices
import Derived.ProofKit
set_option linter.unusedVariables false
set_option linter.unusedSimpArgs false
/- Contract of SameImages: of one image, wherever it lies twice. -/
namespace Go.Proofs.YtehleeibgkpjmafGreat
open Go.RowKit Go.Shelf
set_option maxRecDepth 20000

set_option maxHeartbeats 4000000 in
theorem sameI_at (m : ImgD) (ra : Option Addr) (rc : Nat) (sa : Option Addr) (sc : Nat) (fa : Option Addr) (fc : Nat) (na : Option Addr) (nc : Nat) (rb : Option Addr) (rd : Nat) (sb : Option Addr) (sd : Nat) (fb : Option Addr) (fd : Nat) (nb : Option Addr) (nd : Nat) (w : World)
    (h1 : Sl w (.slice ra m.root.length rc) m.root) (h2 : Slots w (.slice sa m.slots.length sc) m.slots) (h3 : Sl w (.slice fa m.refs.length fc) m.refs) (h4 : Snaps w (.slice na m.snaps.length nc) m.snaps)
    (k1 : Sl w (.slice rb m.root.length rd) m.root) (k2 : Slots w (.slice sb m.slots.length sd) m.slots) (k3 : Sl w (.slice fb m.refs.length fd) m.refs) (k4 : Snaps w (.slice nb m.snaps.length nd) m.snaps) :
    Calls Tryz.prog 15 #[.agg #[.int .i64 m.guest, .slice ra m.root.length rc, .slice sa m.slots.length sc, .slice fa m.refs.length fc, .slice na m.snaps.length nc], .agg #[.int .i64 m.guest, .slice rb m.root.length rd, .slice sb m.slots.length sd, .slice fb m.refs.length fd, .slice nb m.snaps.length nd]] w fun r w' => r = .returned (.bool true) ∧ Below w.heap.size w w' := by
  have b0 : Below w.heap.size w ((w.alloc (.cells #[.int .i64 m.guest, .slice ra m.root.length rc, .slice sa m.slots.length sc, .slice fa m.refs.length fc, .slice na m.snaps.length nc] 27)).alloc (.cells #[.int .i64 m.guest, .slice rb m.root.length rd, .slice sb m.slots.length sd, .slice fb m.refs.length fd, .slice nb m.snaps.length nd] 27)) := ((Below.refl _ _).alloc (Nat.le_refl _) _).alloc (by simp) _
  have m0 : ((w.alloc (.cells #[.int .i64 m.guest, .slice ra m.root.length rc, .slice sa m.slots.length sc, .slice fa m.refs.length fc, .slice na m.snaps.length nc] 27)).alloc (.cells #[.int .i64 m.guest, .slice rb m.root.length rd, .slice sb m.slots.length sd, .slice fb m.refs.length fd, .slice nb m.snaps.length nd] 27)).heap[w.heap.size]? = some (.cells #[.int .i64 m.guest, .slice ra m.root.length rc, .slice sa m.slots.length sc, .slice fa m.refs.length fc, .slice na m.snaps.length nc] 27) := cells_alloc (World.alloc_heap_new _ _) _
  have m1 : ((w.alloc (.cells #[.int .i64 m.guest, .slice ra m.root.length rc, .slice sa m.slots.length sc, .slice fa m.refs.length fc, .slice na m.snaps.length nc] 27)).alloc (.cells #[.int .i64 m.guest, .slice rb m.root.length rd, .slice sb m.slots.length sd, .slice fb m.refs.length fd, .slice nb m.snaps.length nd] 27)).heap[w.heap.size + 1]? = some (.cells #[.int .i64 m.guest, .slice rb m.root.length rd, .slice sb m.slots.length sd, .slice fb m.refs.length fd, .slice nb m.snaps.length nd] 27) := by have := World.alloc_heap_new (w.alloc (.cells #[.int .i64 m.guest, .slice ra m.root.length rc, .slice sa m.slots.length sc, .slice fa m.refs.length fc, .slice na m.snaps.length nc] 27)) (.cells #[.int .i64 m.guest, .slice rb m.root.length rd, .slice sb m.slots.length sd, .slice fb m.refs.length fd, .slice nb m.snaps.length nd] 27); simpa using this
  obtain ⟨c0, c1, c2, c3, c4⟩ := five m0
  obtain ⟨d0, d1, d2, d3, d4⟩ := five m1
  have HR := same_any (h1.below b0) (k1.below b0)
  have HF := fun W (hW : Below w.heap.size w W) => same_any (h3.below hW) (k3.below hW)
  have HS : Hid (Slots w (.slice sa m.slots.length sc) m.slots ∧ Slots w (.slice sb m.slots.length sd) m.slots ∧ Snaps w (.slice na m.snaps.length nc) m.snaps ∧ Snaps w (.slice nb m.snaps.length nd) m.snaps) := ⟨h2, k2, h4, k4⟩
  have HL : Hid (m.slots.length ≤ 9223372036854775807 ∧ m.snaps.length ≤ 9223372036854775807) := ⟨h2.small, h4.small⟩
  clear h1 h2 h3 h4 k1 k2 k3 k4
  go_enter Tryz.func15, Tryz.ntmps15
  go_wp2_with (first
    | (go_at_call 37; refine (HF _ bw1).mono ?_; rintro e w2 ⟨rfl, b2⟩; have m4 := cells_below m2 b2 (Array.getElem?_eq_some_iff.1 m2).1; have m5 := cells_below m3 b2 (Array.getElem?_eq_some_iff.1 m3).1; obtain ⟨g0, g1, g2, g3, g4⟩ := five m4; obtain ⟨i0, i1, i2, i3, i4⟩ := five m5; have bw2 := Below.on bw1 b2)
    | (go_at_call 37; refine HR.mono ?_; rintro e w1 ⟨rfl, b1⟩; have m2 := cells_below m0 b1 (by simp <;> omega); have m3 := cells_below m1 b1 (by simp <;> omega); obtain ⟨e0, e1, e2, e3, e4⟩ := five m2; obtain ⟨f0, f1, f2, f3, f4⟩ := five m3; have bw1 := Below.on b0 b1))
  have HB : Hid (w2.heap[w.heap.size]? = some (.cells #[.int .i64 m.guest, .slice ra m.root.length rc, .slice sa m.slots.length sc, .slice fa m.refs.length fc, .slice na m.snaps.length nc] 27) ∧ w2.heap[w.heap.size + 1]? = some (.cells #[.int .i64 m.guest, .slice rb m.root.length rd, .slice sb m.slots.length sd, .slice fb m.refs.length fd, .slice nb m.snaps.length nd] 27) ∧ Below w.heap.size w w2) := ⟨m4, m5, bw2⟩
  clear c0 c1 c2 c3 c4 d0 d1 d2 d3 d4 e0 e1 e2 e3 e4 f0 f1 f2 f3 f4 g0 g1 g2 g3 g4 i0 i1 i2 i3 i4 m0 m1 m2 m3 m4 m5 b0 b1 b2 bw1 bw2 HR HF
  go_loopw [5] (fun i wr => ∃ k : Nat, k ≤ m.slots.length ∧ i = .int .i64 k ∧ Hid (wr.heap[w.heap.size]? = some (.cells #[.int .i64 m.guest, .slice ra m.root.length rc, .slice sa m.slots.length sc, .slice fa m.refs.length fc, .slice na m.snaps.length nc] 27) ∧ wr.heap[w.heap.size + 1]? = some (.cells #[.int .i64 m.guest, .slice rb m.root.length rd, .slice sb m.slots.length sd, .slice fb m.refs.length fd, .slice nb m.snaps.length nd] 27) ∧ Below w.heap.size w wr)) (fun i _ => m.slots.length - (intOf i).toNat)
  case atStart => exact ⟨0, Nat.zero_le _, rfl, HB⟩
  case round =>
    obtain ⟨k, hk, rfl, HC⟩ := hrel
    obtain ⟨mA, mB, hb⟩ := HC.out
    obtain ⟨c0, c1, c2, c3, c4⟩ := five mA
    obtain ⟨d0, d1, d2, d3, d4⟩ := five mB
    have hL := HL.out.1
    by_cases hlk : k < m.slots.length
    · have hki : (k : Int) < (m.slots.length : Int) := by omega
      have hL1 : (k : Int) + 1 ≤ 9223372036854775807 := by omega
      obtain ⟨pb, po, pc, e, _, hpl, hps⟩ := HS.out.1.open (by omega)
      simp at e
      obtain ⟨rfl, rfl⟩ := e
      obtain ⟨qb, qo, qc, e, _, hql, hqs⟩ := HS.out.2.1.open (by omega)
      simp at e
      obtain ⟨rfl, rfl⟩ := e
      obtain ⟨s, hs⟩ : ∃ s, m.slots[k] = s := ⟨_, rfl⟩
      obtain ⟨kk, dd, tt⟩ := s
      obtain ⟨tv, p0, p1, p2, ps⟩ := hps k hlk
      obtain ⟨uv, q0, q1, q2, qs⟩ := hqs k hlk
      rw [hs] at p0 p1 ps q0 q1 qs
      obtain ⟨ta, tc, rfl⟩ := ps.form
      obtain ⟨ua, uc, rfl⟩ := qs.form
      have p0 : wr.cell? ⟨pb, po + k * 3, none⟩ = some (.int .i64 kk) := (hb.cell (p := ⟨pb, po + k * 3, none⟩) hpl).trans p0
      have p1 : wr.cell? ⟨pb, po + k * 3 + 1, none⟩ = some (.string dd) := (hb.cell (p := ⟨pb, po + k * 3 + 1, none⟩) hpl).trans p1
      have p2 : wr.cell? ⟨pb, po + k * 3 + 1 + 1, none⟩ = some (.slice ta tt.length tc) := (hb.cell (p := ⟨pb, po + k * 3 + 1 + 1, none⟩) hpl).trans p2
      have q0 : wr.cell? ⟨qb, qo + k * 3, none⟩ = some (.int .i64 kk) := (hb.cell (p := ⟨qb, qo + k * 3, none⟩) hql).trans q0
      have q1 : wr.cell? ⟨qb, qo + k * 3 + 1, none⟩ = some (.string dd) := (hb.cell (p := ⟨qb, qo + k * 3 + 1, none⟩) hql).trans q1
      have q2 : wr.cell? ⟨qb, qo + k * 3 + 1 + 1, none⟩ = some (.slice ua tt.length uc) := (hb.cell (p := ⟨qb, qo + k * 3 + 1 + 1, none⟩) hql).trans q2
      have hcall := same_any (w := wr.drew) (ps.below (to_drew hb)) (qs.below (to_drew hb))
      have hpw : pb < wr.heap.size := Nat.lt_of_lt_of_le hpl hb.size
      have hqw : qb < wr.heap.size := Nat.lt_of_lt_of_le hql hb.size
      have HN : Hid (∀ W, Below wr.heap.size wr W → W.heap[w.heap.size]? = some (.cells #[.int .i64 m.guest, .slice ra m.root.length rc, .slice (some ⟨pb, po, none⟩) m.slots.length sc, .slice fa m.refs.length fc, .slice na m.snaps.length nc] 27) ∧ W.heap[w.heap.size + 1]? = some (.cells #[.int .i64 m.guest, .slice rb m.root.length rd, .slice (some ⟨qb, qo, none⟩) m.slots.length sd, .slice fb m.refs.length fd, .slice nb m.snaps.length nd] 27) ∧ Below w.heap.size w W) := fun W hW => ⟨cells_below mA hW (Array.getElem?_eq_some_iff.1 mA).1, cells_below mB hW (Array.getElem?_eq_some_iff.1 mB).1, Below.on hb hW⟩
      have HK : Hid (∀ W, Below wr.heap.size wr W → W.cell? ⟨w.heap.size, 0 + 1 + 1, none⟩ = some (.slice (some ⟨pb, po, none⟩) m.slots.length sc) ∧ W.cell? ⟨w.heap.size + 1, 0 + 1 + 1, none⟩ = some (.slice (some ⟨qb, qo, none⟩) m.slots.length sd) ∧ W.cell? ⟨pb, po + k * 3, none⟩ = some (.int .i64 kk) ∧ W.cell? ⟨pb, po + k * 3 + 1, none⟩ = some (.string dd) ∧ W.cell? ⟨pb, po + k * 3 + 1 + 1, none⟩ = some (.slice ta tt.length tc) ∧ W.cell? ⟨qb, qo + k * 3, none⟩ = some (.int .i64 kk) ∧ W.cell? ⟨qb, qo + k * 3 + 1, none⟩ = some (.string dd) ∧ W.cell? ⟨qb, qo + k * 3 + 1 + 1, none⟩ = some (.slice ua tt.length uc)) := fun W hW => ⟨(hW.cell (p := ⟨w.heap.size, 0 + 1 + 1, none⟩) (Array.getElem?_eq_some_iff.1 mA).1).trans c2, (hW.cell (p := ⟨w.heap.size + 1, 0 + 1 + 1, none⟩) (Array.getElem?_eq_some_iff.1 mB).1).trans d2, (hW.cell (p := ⟨pb, po + k * 3, none⟩) hpw).trans p0, (hW.cell (p := ⟨pb, po + k * 3 + 1, none⟩) hpw).trans p1, (hW.cell (p := ⟨pb, po + k * 3 + 1 + 1, none⟩) hpw).trans p2, (hW.cell (p := ⟨qb, qo + k * 3, none⟩) hqw).trans q0, (hW.cell (p := ⟨qb, qo + k * 3 + 1, none⟩) hqw).trans q1, (hW.cell (p := ⟨qb, qo + k * 3 + 1 + 1, none⟩) hqw).trans q2⟩
      clear hs mA mB ps qs hps hqs
      go_wp2_with fail
      go_region_held3 (fun W => W.cell? ⟨w.heap.size, 0 + 1 + 1, none⟩ = some (.slice (some ⟨pb, po, none⟩) m.slots.length sc) ∧ W.cell? ⟨w.heap.size + 1, 0 + 1 + 1, none⟩ = some (.slice (some ⟨qb, qo, none⟩) m.slots.length sd) ∧ W.cell? ⟨pb, po + k * 3, none⟩ = some (.int .i64 kk) ∧ W.cell? ⟨pb, po + k * 3 + 1, none⟩ = some (.string dd) ∧ W.cell? ⟨pb, po + k * 3 + 1 + 1, none⟩ = some (.slice ta tt.length tc) ∧ W.cell? ⟨qb, qo + k * 3, none⟩ = some (.int .i64 kk) ∧ W.cell? ⟨qb, qo + k * 3 + 1, none⟩ = some (.string dd) ∧ W.cell? ⟨qb, qo + k * 3 + 1 + 1, none⟩ = some (.slice ua tt.length uc)) (first | exact HK.out _ b3 | exact HK.out _ (to_drew (Below.refl _ _)))
        (first | (go_at_call 37; refine hcall.mono ?_; rintro e w3 ⟨rfl, b3⟩; have b3 := below_drew b3))
      go_wp2_with fail
      go_roundw
      case rel => exact ⟨k + 1, by omega, by go_num, HN.out _ b3⟩
      case measure => simp [intOf]; omega
    · have ek : k = m.slots.length := by omega
      subst ek
      obtain ⟨x, hrn⟩ : ∃ X, X = wr := ⟨_, rfl⟩
      subst hrn
      go_wp2_with fail
      clear c0 c1 c2 c3 c4 d0 d1 d2 d3 d4 mA mB hb hL
      go_loopw [6] (fun i wr => ∃ l : Nat, l ≤ m.snaps.length ∧ i = .int .i64 l ∧ Hid (wr.heap[w.heap.size]? = some (.cells #[.int .i64 m.guest, .slice ra m.root.length rc, .slice sa m.slots.length sc, .slice fa m.refs.length fc, .slice na m.snaps.length nc] 27) ∧ wr.heap[w.heap.size + 1]? = some (.cells #[.int .i64 m.guest, .slice rb m.root.length rd, .slice sb m.slots.length sd, .slice fb m.refs.length fd, .slice nb m.snaps.length nd] 27) ∧ Below w.heap.size w wr)) (fun i _ => m.snaps.length - (intOf i).toNat)
      case atStart => exact ⟨0, Nat.zero_le _, rfl, HC⟩
      case round =>
        obtain ⟨l, hl, rfl, HD⟩ := hrel
        obtain ⟨mA, mB, hb⟩ := HD.out
        obtain ⟨c0, c1, c2, c3, c4⟩ := five mA
        obtain ⟨d0, d1, d2, d3, d4⟩ := five mB
        have hL := HL.out.2
        by_cases hll : l < m.snaps.length
        · have hki : (l : Int) < (m.snaps.length : Int) := by omega
          have hL1 : (l : Int) + 1 ≤ 9223372036854775807 := by omega
          obtain ⟨pb, po, pc, e, _, hpl, hps⟩ := HS.out.2.2.1.open (by omega)
          simp at e
          obtain ⟨rfl, rfl⟩ := e
          obtain ⟨qb, qo, qc, e, _, hql, hqs⟩ := HS.out.2.2.2.open (by omega)
          simp at e
          obtain ⟨rfl, rfl⟩ := e
          obtain ⟨s, hs⟩ : ∃ s, m.snaps[l] = s := ⟨_, rfl⟩
          obtain ⟨nm, sg, tt⟩ := s
          obtain ⟨tv, p0, p1, p2, ps⟩ := hps l hll
          obtain ⟨uv, q0, q1, q2, qs⟩ := hqs l hll
          rw [hs] at p0 p1 ps q0 q1 qs
          obtain ⟨ta, tc, rfl⟩ := ps.form
          obtain ⟨ua, uc, rfl⟩ := qs.form
          have p0 : wr.cell? ⟨pb, po + l * 3, none⟩ = some (.string nm) := (hb.cell (p := ⟨pb, po + l * 3, none⟩) hpl).trans p0
          have p1 : wr.cell? ⟨pb, po + l * 3 + 1, none⟩ = some (.int .i64 sg) := (hb.cell (p := ⟨pb, po + l * 3 + 1, none⟩) hpl).trans p1
          have p2 : wr.cell? ⟨pb, po + l * 3 + 1 + 1, none⟩ = some (.slice ta tt.length tc) := (hb.cell (p := ⟨pb, po + l * 3 + 1 + 1, none⟩) hpl).trans p2
          have q0 : wr.cell? ⟨qb, qo + l * 3, none⟩ = some (.string nm) := (hb.cell (p := ⟨qb, qo + l * 3, none⟩) hql).trans q0
          have q1 : wr.cell? ⟨qb, qo + l * 3 + 1, none⟩ = some (.int .i64 sg) := (hb.cell (p := ⟨qb, qo + l * 3 + 1, none⟩) hql).trans q1
          have q2 : wr.cell? ⟨qb, qo + l * 3 + 1 + 1, none⟩ = some (.slice ua tt.length uc) := (hb.cell (p := ⟨qb, qo + l * 3 + 1 + 1, none⟩) hql).trans q2
          have hcall := same_any (w := wr.drew) (ps.below (to_drew hb)) (qs.below (to_drew hb))
          have hpw : pb < wr.heap.size := Nat.lt_of_lt_of_le hpl hb.size
          have hqw : qb < wr.heap.size := Nat.lt_of_lt_of_le hql hb.size
          have HN : Hid (∀ W, Below wr.heap.size wr W → W.heap[w.heap.size]? = some (.cells #[.int .i64 m.guest, .slice ra m.root.length rc, .slice sa m.slots.length sc, .slice fa m.refs.length fc, .slice (some ⟨pb, po, none⟩) m.snaps.length nc] 27) ∧ W.heap[w.heap.size + 1]? = some (.cells #[.int .i64 m.guest, .slice rb m.root.length rd, .slice sb m.slots.length sd, .slice fb m.refs.length fd, .slice (some ⟨qb, qo, none⟩) m.snaps.length nd] 27) ∧ Below w.heap.size w W) := fun W hW => ⟨cells_below mA hW (Array.getElem?_eq_some_iff.1 mA).1, cells_below mB hW (Array.getElem?_eq_some_iff.1 mB).1, Below.on hb hW⟩
          have HK : Hid (∀ W, Below wr.heap.size wr W → W.cell? ⟨w.heap.size, 0 + 1 + 1 + 1 + 1, none⟩ = some (.slice (some ⟨pb, po, none⟩) m.snaps.length nc) ∧ W.cell? ⟨w.heap.size + 1, 0 + 1 + 1 + 1 + 1, none⟩ = some (.slice (some ⟨qb, qo, none⟩) m.snaps.length nd) ∧ W.cell? ⟨pb, po + l * 3, none⟩ = some (.string nm) ∧ W.cell? ⟨pb, po + l * 3 + 1, none⟩ = some (.int .i64 sg) ∧ W.cell? ⟨pb, po + l * 3 + 1 + 1, none⟩ = some (.slice ta tt.length tc) ∧ W.cell? ⟨qb, qo + l * 3, none⟩ = some (.string nm) ∧ W.cell? ⟨qb, qo + l * 3 + 1, none⟩ = some (.int .i64 sg) ∧ W.cell? ⟨qb, qo + l * 3 + 1 + 1, none⟩ = some (.slice ua tt.length uc)) := fun W hW => ⟨(hW.cell (p := ⟨w.heap.size, 0 + 1 + 1 + 1 + 1, none⟩) (Array.getElem?_eq_some_iff.1 mA).1).trans c4, (hW.cell (p := ⟨w.heap.size + 1, 0 + 1 + 1 + 1 + 1, none⟩) (Array.getElem?_eq_some_iff.1 mB).1).trans d4, (hW.cell (p := ⟨pb, po + l * 3, none⟩) hpw).trans p0, (hW.cell (p := ⟨pb, po + l * 3 + 1, none⟩) hpw).trans p1, (hW.cell (p := ⟨pb, po + l * 3 + 1 + 1, none⟩) hpw).trans p2, (hW.cell (p := ⟨qb, qo + l * 3, none⟩) hqw).trans q0, (hW.cell (p := ⟨qb, qo + l * 3 + 1, none⟩) hqw).trans q1, (hW.cell (p := ⟨qb, qo + l * 3 + 1 + 1, none⟩) hqw).trans q2⟩
          clear hs mA mB ps qs hps hqs
          go_wp2_with fail
          go_region_held3 (fun W => W.cell? ⟨w.heap.size, 0 + 1 + 1 + 1 + 1, none⟩ = some (.slice (some ⟨pb, po, none⟩) m.snaps.length nc) ∧ W.cell? ⟨w.heap.size + 1, 0 + 1 + 1 + 1 + 1, none⟩ = some (.slice (some ⟨qb, qo, none⟩) m.snaps.length nd) ∧ W.cell? ⟨pb, po + l * 3, none⟩ = some (.string nm) ∧ W.cell? ⟨pb, po + l * 3 + 1, none⟩ = some (.int .i64 sg) ∧ W.cell? ⟨pb, po + l * 3 + 1 + 1, none⟩ = some (.slice ta tt.length tc) ∧ W.cell? ⟨qb, qo + l * 3, none⟩ = some (.string nm) ∧ W.cell? ⟨qb, qo + l * 3 + 1, none⟩ = some (.int .i64 sg) ∧ W.cell? ⟨qb, qo + l * 3 + 1 + 1, none⟩ = some (.slice ua tt.length uc)) (first | exact HK.out _ b3 | exact HK.out _ (to_drew (Below.refl _ _)))
            (first | (go_at_call 37; refine hcall.mono ?_; rintro e w3 ⟨rfl, b3⟩; have b3 := below_drew b3))
          go_wp2_with fail
          go_roundw
          case rel => exact ⟨l + 1, by omega, by go_num, HN.out _ b3⟩
          case measure => simp [intOf]; omega
        · have el : l = m.snaps.length := by omega
          subst el
          go_wp2_with fail
          go_ret
          exact ⟨rfl, hb⟩
theorem sameI_is {w : World} {v u : Value} {m : ImgD} (h : Img w v m) (k : Img w u m) : Calls Tryz.prog 15 #[v, u] w fun r w' => r = .returned (.bool true) ∧ Below w.heap.size w w' := by
  obtain ⟨ra, rc, sa, sc, fa, fc, na, nc, rfl, h1, h2, h3, h4⟩ := h.parts
  obtain ⟨rb, rd, sb, sd, fb, fd, nb, nd, rfl, k1, k2, k3, k4⟩ := k.parts
  exact sameI_at m ra rc sa sc fa fc na nc rb rd sb sd fb fd nb nd w h1 h2 h3 h4 k1 k2 k3 k4
end Go.Proofs.YtehleeibgkpjmafGreat
/- The walk of MovePacks. -/
namespace Go.Proofs.YtehleeibgkpjmafGreat
open Go.RowKit Go.Shelf
set_option maxRecDepth 20000
set_option linter.unusedVariables false
set_option linter.unusedSimpArgs false

set_option maxHeartbeats 16000000 in
theorem mvpk_bad (ra : Option Addr) (rc : Nat) (sa : Option Addr) (sc : Nat) (fa : Option Addr) (fc : Nat) (na : Option Addr) (nc : Nat) (m : ImgD) (w : World) (h : Img w (.agg #[.int .i64 m.guest, .slice ra m.root.length rc, .slice sa m.slots.length sc, .slice fa m.refs.length fc, .slice na m.snaps.length nc]) m) (E : Int) (HP : Hid (pkM m = imgZ ∧ checkE m = E)) (hnb : (E == 0) = false) :
    Calls Tryz.prog 5 #[.agg #[.int .i64 m.guest, .slice ra m.root.length rc, .slice sa m.slots.length sc, .slice fa m.refs.length fc, .slice na m.snaps.length nc]] w fun r w' => r = .returned (.bool true) ∧ Below w.heap.size w w' := by
  have hB : Below w.heap.size w (w.alloc (.cells #[.int .i64 m.guest, .slice ra m.root.length rc, .slice sa m.slots.length sc, .slice fa m.refs.length fc, .slice na m.snaps.length nc] 27)) := (Below.refl _ _).alloc (Nat.le_refl _) _
  have mb_m : (w.alloc (.cells #[.int .i64 m.guest, .slice ra m.root.length rc, .slice sa m.slots.length sc, .slice fa m.refs.length fc, .slice na m.snaps.length nc] 27)).heap[w.heap.size]? = some (.cells #[.int .i64 m.guest, .slice ra m.root.length rc, .slice sa m.slots.length sc, .slice fa m.refs.length fc, .slice na m.snaps.length nc] 27) := World.alloc_heap_new _ _
  have I_m := h.below hB
  clear h
  go_enter Tryz.func5, Tryz.ntmps5
  obtain ⟨m0, m1, m2, m3, m4⟩ := five mb_m
  have hh_mb_m := Hid_mkU mb_m
  have hh_I_m := Hid_mkU I_m
  have hh_hB := Hid_mkU hB
  clear mb_m I_m hB
  go_wp2_with fail
  clear m0 m1 m2 m3 m4
  have mb_m := hh_mb_m.out
  have I_m := hh_I_m.out
  have hB := hh_hB.out
  clear hh_mb_m hh_I_m hh_hB
  refine (pack_is I_m HP.out.1 HP.out.2).mono ?_
  intro e w1 hA
  obtain ⟨val, x_r, x_rc, x_s, x_sc, x_f, x_fc, x_n, x_nc, rfl, hO, bb, hI⟩ := hA.open
  dsimp only
  have I_x := hO.img
  rw [hI] at I_x
  clear hA hO hI
  rw [show imgZ.guest = 0 from rfl, show imgZ.root.length = 0 from rfl, show imgZ.slots.length = 0 from rfl, show imgZ.refs.length = 0 from rfl, show imgZ.snaps.length = 0 from rfl] at I_x ⊢
  replace mb_m := cells_below mb_m bb (Array.getElem?_eq_some_iff.1 mb_m).1
  replace hB := Below.on hB bb
  replace I_m := I_m.below bb
  clear bb
  replace mb_m := cells_alloc mb_m (.cells #[.int .i64 0, .slice x_r 0 x_rc, .slice x_s 0 x_sc, .slice x_f 0 x_fc, .slice x_n 0 x_nc] 27)
  have ba : Below w1.heap.size w1 (w1.alloc (.cells #[.int .i64 0, .slice x_r 0 x_rc, .slice x_s 0 x_sc, .slice x_f 0 x_fc, .slice x_n 0 x_nc] 27)) := (Below.refl _ _).alloc (Nat.le_refl _) _
  replace hB := Below.on hB ba
  replace I_m := I_m.below ba
  replace I_x := I_x.below ba
  clear ba
  have mb_x : (w1.alloc (.cells #[.int .i64 0, .slice x_r 0 x_rc, .slice x_s 0 x_sc, .slice x_f 0 x_fc, .slice x_n 0 x_nc] 27)).heap[w1.heap.size]? = some (.cells #[.int .i64 0, .slice x_r 0 x_rc, .slice x_s 0 x_sc, .slice x_f 0 x_fc, .slice x_n 0 x_nc] 27) := World.alloc_heap_new _ _
  obtain ⟨m0, m1, m2, m3, m4⟩ := five mb_m
  have hh_mb_m := Hid_mkU mb_m
  have hh_mb_x := Hid_mkU mb_x
  have hh_I_m := Hid_mkU I_m
  have hh_I_x := Hid_mkU I_x
  have hh_hB := Hid_mkU hB
  clear mb_m mb_x I_m I_x hB
  go_wp2_with fail
  clear m0 m1 m2 m3 m4
  have mb_m := hh_mb_m.out
  have mb_x := hh_mb_x.out
  have I_m := hh_I_m.out
  have I_x := hh_I_x.out
  have hB := hh_hB.out
  clear hh_mb_m hh_mb_x hh_I_m hh_I_x hh_hB
  refine (checkImage_is I_m HP.out.2).mono ?_
  rintro e w2 ⟨rfl, bb⟩
  replace mb_m := cells_below mb_m bb (Array.getElem?_eq_some_iff.1 mb_m).1
  replace mb_x := cells_below mb_x bb (Array.getElem?_eq_some_iff.1 mb_x).1
  replace hB := Below.on hB bb
  replace I_m := I_m.below bb
  replace I_x := I_x.below bb
  clear bb
  clear mb_m
  clear I_m
  replace mb_x := cells_alloc mb_x (.cells #[.int .i64 0, .slice none 0 0, .slice none 0 0, .slice none 0 0, .slice none 0 0] 27)
  have ba : Below w2.heap.size w2 (w2.alloc (.cells #[.int .i64 0, .slice none 0 0, .slice none 0 0, .slice none 0 0, .slice none 0 0] 27)) := (Below.refl _ _).alloc (Nat.le_refl _) _
  replace hB := Below.on hB ba
  replace I_x := I_x.below ba
  clear ba
  have mb_y : (w2.alloc (.cells #[.int .i64 0, .slice none 0 0, .slice none 0 0, .slice none 0 0, .slice none 0 0] 27)).heap[w2.heap.size]? = some (.cells #[.int .i64 0, .slice none 0 0, .slice none 0 0, .slice none 0 0, .slice none 0 0] 27) := World.alloc_heap_new _ _
  have I_y := imgZ_im (w2.alloc (.cells #[.int .i64 0, .slice none 0 0, .slice none 0 0, .slice none 0 0, .slice none 0 0] 27))
  have hh_mb_x := Hid_mkU mb_x
  have hh_mb_y := Hid_mkU mb_y
  have hh_I_x := Hid_mkU I_x
  have hh_I_y := Hid_mkU I_y
  have hh_hB := Hid_mkU hB
  clear mb_x mb_y I_x I_y hB
  go_wp2_with fail
  have mb_x := hh_mb_x.out
  have mb_y := hh_mb_y.out
  have I_x := hh_I_x.out
  have I_y := hh_I_y.out
  have hB := hh_hB.out
  clear hh_mb_x hh_mb_y hh_I_x hh_I_y hh_hB
  refine (moveBegun_any _).mono ?_
  rintro e w3 ⟨rfl, bb⟩
  replace mb_x := cells_below mb_x bb (Array.getElem?_eq_some_iff.1 mb_x).1
  replace mb_y := cells_below mb_y bb (Array.getElem?_eq_some_iff.1 mb_y).1
  replace hB := Below.on hB bb
  replace I_x := I_x.below bb
  replace I_y := I_y.below bb
  clear bb
  obtain ⟨x0, x1, x2, x3, x4⟩ := five mb_x
  obtain ⟨y0, y1, y2, y3, y4⟩ := five mb_y
  have hh_mb_x := Hid_mkU mb_x
  have hh_mb_y := Hid_mkU mb_y
  have hh_I_x := Hid_mkU I_x
  have hh_I_y := Hid_mkU I_y
  have hh_hB := Hid_mkU hB
  clear mb_x mb_y I_x I_y hB
  go_wp2_with fail
  clear x0 x1 x2 x3 x4 y0 y1 y2 y3 y4
  have mb_x := hh_mb_x.out
  have mb_y := hh_mb_y.out
  have I_x := hh_I_x.out
  have I_y := hh_I_y.out
  have hB := hh_hB.out
  clear hh_mb_x hh_mb_y hh_I_x hh_I_y hh_hB
  refine (sameI_is I_x I_y).mono ?_
  rintro e w4 ⟨rfl, bb⟩
  replace mb_x := cells_below mb_x bb (Array.getElem?_eq_some_iff.1 mb_x).1
  replace mb_y := cells_below mb_y bb (Array.getElem?_eq_some_iff.1 mb_y).1
  replace hB := Below.on hB bb
  replace I_x := I_x.below bb
  replace I_y := I_y.below bb
  clear bb
  have hh_mb_x := Hid_mkU mb_x
  have hh_mb_y := Hid_mkU mb_y
  have hh_I_x := Hid_mkU I_x
  have hh_I_y := Hid_mkU I_y
  have hh_hB := Hid_mkU hB
  clear mb_x mb_y I_x I_y hB
  go_wp2_with fail
  go_ret
  have hB := hh_hB.out
  exact ⟨rfl, hB⟩

set_option maxHeartbeats 16000000 in
theorem mvpk_ok (ra : Option Addr) (rc : Nat) (sa : Option Addr) (sc : Nat) (fa : Option Addr) (fc : Nat) (na : Option Addr) (nc : Nat) (m : ImgD) (w : World) (h : Img w (.agg #[.int .i64 m.guest, .slice ra m.root.length rc, .slice sa m.slots.length sc, .slice fa m.refs.length fc, .slice na m.snaps.length nc]) m) (MP : ImgD) (HP : Hid (pkM m = MP ∧ checkE m = 0)) :
    Calls Tryz.prog 5 #[.agg #[.int .i64 m.guest, .slice ra m.root.length rc, .slice sa m.slots.length sc, .slice fa m.refs.length fc, .slice na m.snaps.length nc]] w fun r w' => r = .returned (.bool true) ∧ Below w.heap.size w w' := by
  have hB : Below w.heap.size w (w.alloc (.cells #[.int .i64 m.guest, .slice ra m.root.length rc, .slice sa m.slots.length sc, .slice fa m.refs.length fc, .slice na m.snaps.length nc] 27)) := (Below.refl _ _).alloc (Nat.le_refl _) _
  have mb_m : (w.alloc (.cells #[.int .i64 m.guest, .slice ra m.root.length rc, .slice sa m.slots.length sc, .slice fa m.refs.length fc, .slice na m.snaps.length nc] 27)).heap[w.heap.size]? = some (.cells #[.int .i64 m.guest, .slice ra m.root.length rc, .slice sa m.slots.length sc, .slice fa m.refs.length fc, .slice na m.snaps.length nc] 27) := World.alloc_heap_new _ _
  have I_m := h.below hB
  clear h
  go_enter Tryz.func5, Tryz.ntmps5
  obtain ⟨m0, m1, m2, m3, m4⟩ := five mb_m
  have hh_mb_m := Hid_mkU mb_m
  have hh_I_m := Hid_mkU I_m
  have hh_hB := Hid_mkU hB
  clear mb_m I_m hB
  go_wp2_with fail
  clear m0 m1 m2 m3 m4
  have mb_m := hh_mb_m.out
  have I_m := hh_I_m.out
  have hB := hh_hB.out
  clear hh_mb_m hh_I_m hh_hB
  refine (pack_is I_m HP.out.1 HP.out.2).mono ?_
  intro e w1 hA
  obtain ⟨val, x_r, x_rc, x_s, x_sc, x_f, x_fc, x_n, x_nc, rfl, hO, bb, hI⟩ := hA.open
  dsimp only
  have I_x := hO.img
  rw [hI] at I_x
  clear hA hO hI
  replace mb_m := cells_below mb_m bb (Array.getElem?_eq_some_iff.1 mb_m).1
  replace hB := Below.on hB bb
  replace I_m := I_m.below bb
  clear bb
  replace mb_m := cells_alloc mb_m (.cells #[.int .i64 MP.guest, .slice x_r MP.root.length x_rc, .slice x_s MP.slots.length x_sc, .slice x_f MP.refs.length x_fc, .slice x_n MP.snaps.length x_nc] 27)
  have ba : Below w1.heap.size w1 (w1.alloc (.cells #[.int .i64 MP.guest, .slice x_r MP.root.length x_rc, .slice x_s MP.slots.length x_sc, .slice x_f MP.refs.length x_fc, .slice x_n MP.snaps.length x_nc] 27)) := (Below.refl _ _).alloc (Nat.le_refl _) _
  replace hB := Below.on hB ba
  replace I_m := I_m.below ba
  replace I_x := I_x.below ba
  clear ba
  have mb_x : (w1.alloc (.cells #[.int .i64 MP.guest, .slice x_r MP.root.length x_rc, .slice x_s MP.slots.length x_sc, .slice x_f MP.refs.length x_fc, .slice x_n MP.snaps.length x_nc] 27)).heap[w1.heap.size]? = some (.cells #[.int .i64 MP.guest, .slice x_r MP.root.length x_rc, .slice x_s MP.slots.length x_sc, .slice x_f MP.refs.length x_fc, .slice x_n MP.snaps.length x_nc] 27) := World.alloc_heap_new _ _
  obtain ⟨m0, m1, m2, m3, m4⟩ := five mb_m
  have hh_mb_m := Hid_mkU mb_m
  have hh_mb_x := Hid_mkU mb_x
  have hh_I_m := Hid_mkU I_m
  have hh_I_x := Hid_mkU I_x
  have hh_hB := Hid_mkU hB
  clear mb_m mb_x I_m I_x hB
  go_wp2_with fail
  clear m0 m1 m2 m3 m4
  have mb_m := hh_mb_m.out
  have mb_x := hh_mb_x.out
  have I_m := hh_I_m.out
  have I_x := hh_I_x.out
  have hB := hh_hB.out
  clear hh_mb_m hh_mb_x hh_I_m hh_I_x hh_hB
  refine (checkImage_is I_m HP.out.2).mono ?_
  rintro e w2 ⟨rfl, bb⟩
  replace mb_m := cells_below mb_m bb (Array.getElem?_eq_some_iff.1 mb_m).1
  replace mb_x := cells_below mb_x bb (Array.getElem?_eq_some_iff.1 mb_x).1
  replace hB := Below.on hB bb
  replace I_m := I_m.below bb
  replace I_x := I_x.below bb
  clear bb
  have bz : Below w2.heap.size w2 (w2.alloc (.cells #[.int .i64 0, .slice none 0 0, .slice none 0 0, .slice none 0 0, .slice none 0 0] 27)) := (Below.refl _ _).alloc (Nat.le_refl _) _
  have mz : (w2.alloc (.cells #[.int .i64 0, .slice none 0 0, .slice none 0 0, .slice none 0 0, .slice none 0 0] 27)).heap[w2.heap.size]? = some (.cells #[.int .i64 0, .slice none 0 0, .slice none 0 0, .slice none 0 0, .slice none 0 0] 27) := World.alloc_heap_new _ _
  have nm := cells_alloc mb_m (.cells #[.int .i64 0, .slice none 0 0, .slice none 0 0, .slice none 0 0, .slice none 0 0] 27)
  obtain ⟨c0, c1, c2, c3, c4⟩ := five nm
  obtain ⟨m0, m1, m2, m3, m4⟩ := five mb_m
  have HR : Hid (Calls Tryz.prog 19 #[.agg #[.int .i64 m.guest, .slice ra m.root.length rc, .slice sa m.slots.length sc, .slice fa m.refs.length fc, .slice na m.snaps.length nc]] (w2.alloc (.cells #[.int .i64 0, .slice none 0 0, .slice none 0 0, .slice none 0 0, .slice none 0 0] 27)) fun r w' => ∃ val, r = .returned (imgV MP.guest val) ∧ OX w' (w2.alloc (.cells #[.int .i64 0, .slice none 0 0, .slice none 0 0, .slice none 0 0, .slice none 0 0] 27)).heap.size val MP ∧ Below (w2.alloc (.cells #[.int .i64 0, .slice none 0 0, .slice none 0 0, .slice none 0 0, .slice none 0 0] 27)).heap.size (w2.alloc (.cells #[.int .i64 0, .slice none 0 0, .slice none 0 0, .slice none 0 0, .slice none 0 0] 27)) w') := packOf_is (I_m.below bz) HP.out.2 HP.out.1
  have HZ : Hid (Below w2.heap.size w2 (w2.alloc (.cells #[.int .i64 0, .slice none 0 0, .slice none 0 0, .slice none 0 0, .slice none 0 0] 27)) ∧ (w2.alloc (.cells #[.int .i64 0, .slice none 0 0, .slice none 0 0, .slice none 0 0, .slice none 0 0] 27)).heap[w2.heap.size]? = some (.cells #[.int .i64 0, .slice none 0 0, .slice none 0 0, .slice none 0 0, .slice none 0 0] 27)) := ⟨bz, mz⟩
  clear bz mz nm
  have hh_mb_m := Hid_mkU mb_m
  have hh_mb_x := Hid_mkU mb_x
  have hh_I_m := Hid_mkU I_m
  have hh_I_x := Hid_mkU I_x
  have hh_hB := Hid_mkU hB
  clear mb_m mb_x I_m I_x hB
  go_wp2_with (go_at_call 19; refine HR.out.mono ?_; rintro e w5 ⟨val, rfl, hO, b5⟩; obtain ⟨p0, q0, p1, q1, p2, q2, p3, q3, v0, v1, v2, v3⟩ := hO.four'; unfold imgV; rw [v0, v1, v2, v3]; have mz5 := cells_below HZ.out.2 b5 (by simp); obtain ⟨z0, z1, z2, z3, z4⟩ := five mz5; have y0 := cells_frozen mz5 0; have y1 := cells_frozen mz5 1; have y2 := cells_frozen mz5 2; have y3 := cells_frozen mz5 3; have y4 := cells_frozen mz5 4)
  clear c0 c1 c2 c3 c4 m0 m1 m2 m3 m4 z0 z1 z2 z3 z4 y0 y1 y2 y3 y4
  have mb_m := hh_mb_m.out
  have mb_x := hh_mb_x.out
  have I_m := hh_I_m.out
  have I_x := hh_I_x.out
  have hB := hh_hB.out
  clear hh_mb_m hh_mb_x hh_I_m hh_I_x hh_hB
  have hz9 : (w2.alloc (.cells #[.int .i64 0, .slice none 0 0, .slice none 0 0, .slice none 0 0, .slice none 0 0] 27)).heap.size = w2.heap.size + 1 := by simp
  have hfr : ∀ a, LiveX MP a → (val a).ownBlock ≠ some w2.heap.size := fun a ha e => by
    have := ((hO.row a ha).lt _ e).1
    omega
  have bb : Below w2.heap.size w2 (((((w5.setCell ⟨w2.heap.size, 0, none⟩ (.int .i64 MP.guest)).setCell ⟨w2.heap.size, 1, none⟩ (.slice p0 MP.root.length q0)).setCell ⟨w2.heap.size, 2, none⟩ (.slice p1 MP.slots.length q1)).setCell ⟨w2.heap.size, 3, none⟩ (.slice p2 MP.refs.length q2)).setCell ⟨w2.heap.size, 4, none⟩ (.slice p3 MP.snaps.length q3)) := below_five (HZ.out.1.trans (b5.mono (by omega))) (Nat.le_refl _) _ _ _ _ _
  have I_y : Img (((((w5.setCell ⟨w2.heap.size, 0, none⟩ (.int .i64 MP.guest)).setCell ⟨w2.heap.size, 1, none⟩ (.slice p0 MP.root.length q0)).setCell ⟨w2.heap.size, 2, none⟩ (.slice p1 MP.slots.length q1)).setCell ⟨w2.heap.size, 3, none⟩ (.slice p2 MP.refs.length q2)).setCell ⟨w2.heap.size, 4, none⟩ (.slice p3 MP.snaps.length q3)) (.agg #[.int .i64 MP.guest, .slice p0 MP.root.length q0, .slice p1 MP.slots.length q1, .slice p2 MP.refs.length q2, .slice p3 MP.snaps.length q3]) MP := by
    have hI := (hO.five hfr (.int .i64 MP.guest) (.slice p0 MP.root.length q0) (.slice p1 MP.slots.length q1) (.slice p2 MP.refs.length q2) (.slice p3 MP.snaps.length q3)).img
    unfold imgV at hI
    rwa [v0, v1, v2, v3] at hI
  have mb_y : (((((w5.setCell ⟨w2.heap.size, 0, none⟩ (.int .i64 MP.guest)).setCell ⟨w2.heap.size, 1, none⟩ (.slice p0 MP.root.length q0)).setCell ⟨w2.heap.size, 2, none⟩ (.slice p1 MP.slots.length q1)).setCell ⟨w2.heap.size, 3, none⟩ (.slice p2 MP.refs.length q2)).setCell ⟨w2.heap.size, 4, none⟩ (.slice p3 MP.snaps.length q3)).heap[w2.heap.size]? = some (.cells #[.int .i64 MP.guest, .slice p0 MP.root.length q0, .slice p1 MP.slots.length q1, .slice p2 MP.refs.length q2, .slice p3 MP.snaps.length q3] 27) := cells_set (cells_set (cells_set (cells_set (cells_set mz5 0 _) 1 _) 2 _) 3 _) 4 _
  clear hfr hO v0 v1 v2 v3 b5 mz5 HZ HR hz9
  replace mb_m := cells_below mb_m bb (Array.getElem?_eq_some_iff.1 mb_m).1
  replace mb_x := cells_below mb_x bb (Array.getElem?_eq_some_iff.1 mb_x).1
  replace hB := Below.on hB bb
  replace I_m := I_m.below bb
  replace I_x := I_x.below bb
  clear bb
  obtain ⟨w6, h6⟩ : ∃ Z, (((((w5.setCell ⟨w2.heap.size, 0, none⟩ (.int .i64 MP.guest)).setCell ⟨w2.heap.size, 1, none⟩ (.slice p0 MP.root.length q0)).setCell ⟨w2.heap.size, 2, none⟩ (.slice p1 MP.slots.length q1)).setCell ⟨w2.heap.size, 3, none⟩ (.slice p2 MP.refs.length q2)).setCell ⟨w2.heap.size, 4, none⟩ (.slice p3 MP.snaps.length q3)) = Z := ⟨_, rfl⟩
  rw [h6] at mb_m mb_x mb_y I_m I_x I_y hB ⊢
  clear h6
  clear mb_m
  clear I_m
  refine (moveBegun_any _).mono ?_
  rintro e w7 ⟨rfl, bb⟩
  replace mb_x := cells_below mb_x bb (Array.getElem?_eq_some_iff.1 mb_x).1
  replace mb_y := cells_below mb_y bb (Array.getElem?_eq_some_iff.1 mb_y).1
  replace hB := Below.on hB bb
  replace I_x := I_x.below bb
  replace I_y := I_y.below bb
  clear bb
  obtain ⟨x0, x1, x2, x3, x4⟩ := five mb_x
  obtain ⟨y0, y1, y2, y3, y4⟩ := five mb_y
  have hh_mb_x := Hid_mkU mb_x
  have hh_mb_y := Hid_mkU mb_y
  have hh_I_x := Hid_mkU I_x
  have hh_I_y := Hid_mkU I_y
  have hh_hB := Hid_mkU hB
  clear mb_x mb_y I_x I_y hB
  go_wp2_with fail
  clear x0 x1 x2 x3 x4 y0 y1 y2 y3 y4
  have mb_x := hh_mb_x.out
  have mb_y := hh_mb_y.out
  have I_x := hh_I_x.out
  have I_y := hh_I_y.out
  have hB := hh_hB.out
  clear hh_mb_x hh_mb_y hh_I_x hh_I_y hh_hB
  refine (sameI_is I_x I_y).mono ?_
  rintro e w8 ⟨rfl, bb⟩
  replace mb_x := cells_below mb_x bb (Array.getElem?_eq_some_iff.1 mb_x).1
  replace mb_y := cells_below mb_y bb (Array.getElem?_eq_some_iff.1 mb_y).1
  replace hB := Below.on hB bb
  replace I_x := I_x.below bb
  replace I_y := I_y.below bb
  clear bb
  have hh_mb_x := Hid_mkU mb_x
  have hh_mb_y := Hid_mkU mb_y
  have hh_I_x := Hid_mkU I_x
  have hh_I_y := Hid_mkU I_y
  have hh_hB := Hid_mkU hB
  clear mb_x mb_y I_x I_y hB
  go_wp2_with fail
  go_ret
  have hB := hh_hB.out
  exact ⟨rfl, hB⟩

theorem mvpk_is {w : World} {v : Value} {m : ImgD} (h : Img w v m) :
    Calls Tryz.prog 5 #[v] w fun r w' => r = .returned (.bool true) ∧ Below w.heap.size w w' := by
  have h' := h
  obtain ⟨ra, rc, sa, sc, fa, fc, na, nc, rfl, _⟩ := h.parts
  by_cases hC : checkE m = 0
  · exact mvpk_ok ra rc sa sc fa fc na nc m w h' _ ⟨rfl, hC⟩
  · exact mvpk_bad ra rc sa sc fa fc na nc m w h' _ ⟨by unfold pkM; rw [if_neg hC], rfl⟩ (by simpa using hC)
end Go.Proofs.YtehleeibgkpjmafGreat
/- From the reading of an argument to what it holds: slices of integers, slots, slices of slots. -/
namespace Go.Proofs.YtehleeibgkpjmafGreat
open Go.RowKit Go.Deep Go.ChangeShapes Go.WideShapes Go.ChangeAt
set_option maxRecDepth 20000

theorem cells27 : Tryz.prog.cellsOf 23 = 1 := by kernel_rfl
theorem cells3 : Tryz.prog.cellsOf 3 = 1 := by kernel_rfl
theorem cells9 : Tryz.prog.cellsOf 9 = 1 := by kernel_rfl
theorem cells29 : Tryz.prog.cellsOf 61 = 3 := by kernel_rfl

variable {H : Type} {enc : TypeId × Value → H} {w : World} {base : Nat} {spare : Nat → Bool} {held : Bool}

theorem row_at {w : World} {a : Addr} {n : Nat} {f : Nat → Value} (hn : 0 < n) (h : ∀ i, i < n → w.cell? (a.add i) = some (f i)) :
    ∃ b off, a = ⟨b, off, none⟩ ∧ b < w.heap.size ∧ ∀ i, i < n → w.cell? ⟨b, off + i, none⟩ = some (f i) := by
  have h0 := h 0 hn
  obtain ⟨b, off, spot⟩ := a
  have hspot : spot = none := by simpa [Addr.add] using World.cell?_spot h0
  subst hspot
  refine ⟨b, off, rfl, World.block_lt_of_cell? w _ (by rw [addr_add] at h0; exact h0), fun i hi => ?_⟩
  have := h i hi
  rw [addr_add] at this
  exact this

theorem sl_of_trod {n : Nat} {cs : List Value} {x : DataW H × List MemPlace} (h : DataW.trod enc Tryz.prog w base spare held n 23 cs = some x) : ∃ v xs, cs = [v] ∧ Sl w v xs := by
  rcases open_ints Tryz.underlying23 Tryz.underlying3 cells3 h with ⟨rfl, _⟩ | ⟨a, l, c, zs, rfl, _, hl, hm, hz, _, hcell, _⟩
  · exact ⟨_, [], rfl, Sl.nil w⟩
  · have hlz : l ≤ zs.length := by rw [hz]; split <;> omega
    have hlen : (zs.take l).length = l := by simp; omega
    refine ⟨_, zs.take l, rfl, some a, c, by rw [hlen], by rw [hlen]; omega, by rw [hlen]; exact hl, fun hne => ?_⟩
    have hpos : 0 < l := by
      rcases Nat.eq_zero_or_pos l with e | e
      · subst e; simp at hne
      · exact e
    obtain ⟨b, off, rfl, hb, hc⟩ := row_at (w := w) (a := a) (n := l) (f := fun i => .int .i64 (zs.getD i 0)) hpos (fun i hi => hcell i (by omega))
    refine ⟨b, off, rfl, hb, fun j hj => ?_⟩
    rw [hlen] at hj
    rw [hc j hj]
    simp [List.getD, hj]

set_option maxRecDepth 20000 in
theorem slot_of_trod {n : Nat} {cs : List Value} {x : DataW H × List MemPlace} (h : DataW.trod enc Tryz.prog w base spare held n 61 cs = some x) :
    ∃ k d tv xs, cs = [.int .i64 k, .string d, tv] ∧ Sl w tv xs := by
  obtain ⟨y0, y1, y2, m, _, hl, h0, h1, h2⟩ := trod_struct3 Tryz.underlying61 h
  rw [cells29] at hl
  match cs, hl with
  | [c0, c1, c2], _ =>
    simp only [cells3, cells9, cells27] at h0 h1 h2
    obtain ⟨k, e0, _, _⟩ := DataW.trod_int Tryz.underlying3 h0
    obtain ⟨d, e1, _, _⟩ := DataW.trod_string Tryz.underlying9 h1
    obtain ⟨tv, xs, e2, hs⟩ := sl_of_trod h2
    simp at e0 e1 e2
    subst e0 e1 e2
    exact ⟨k, d, _, xs, rfl, hs⟩

theorem slots_of_trod {n : Nat} {v : Value} {x : DataW H × List MemPlace} (h : DataW.trod enc Tryz.prog w base spare held n 24 [v] = some x) : ∃ L, Slots w v L := by
  rcases open_slice Tryz.underlying24 h with ⟨hv, _⟩ | ⟨a, len, cap, m, fuel, D, Pl, hv, _, hl, hm, hmm, _, hx⟩
  · simp at hv
    subst hv
    exact ⟨[], none, 0, rfl, Nat.zero_le _, Nat.zero_le _, fun h => absurd rfl h⟩
  · simp at hv
    subst hv
    rw [cells29] at hx
    have hx' : ∀ i, i < len → ∃ s : SlotD, ∃ tv, w.cell? (a.add (i * 3)) = some (.int .i64 s.1) ∧ w.cell? ((a.add (i * 3)).add 1) = some (.string s.2.1) ∧ w.cell? ((a.add (i * 3)).add 2) = some tv ∧ Sl w tv s.2.2 := by
      intro i hi
      obtain ⟨cs', h1, h2⟩ := hx i (by rw [hmm]; split <;> omega)
      obtain ⟨k, d, tv, xs, rfl, hs⟩ := slot_of_trod h2
      obtain ⟨_, _, hc⟩ := World.cells?_some h1
      have c0 := hc 0 (by omega)
      have c1 := hc 1 (by omega)
      have c2 := hc 2 (by omega)
      exact ⟨(k, d, xs), tv, by simpa [Addr.add] using c0, c1, c2, hs⟩
    obtain ⟨f, hf⟩ := choose_lt hx'
    have hlen : ((List.range len).map f).length = len := by simp
    refine ⟨(List.range len).map f, some a, cap, by rw [hlen], by rw [hlen]; omega, by rw [hlen]; exact hl, fun hne => ?_⟩
    have hpos : 0 < len := by
      rcases Nat.eq_zero_or_pos len with e | e
      · subst e; simp at hne
      · exact e
    obtain ⟨tv0, c0, _⟩ := hf 0 hpos
    obtain ⟨b, off, spot⟩ := a
    have hspot : spot = none := by simpa [Addr.add] using World.cell?_spot c0
    subst hspot
    refine ⟨b, off, rfl, World.block_lt_of_cell? w _ (by rw [addr_add] at c0; exact c0), fun j hj => ?_⟩
    rw [hlen] at hj
    obtain ⟨tv, c0, c1, c2, hs⟩ := hf j hj
    rw [addr_add] at c0 c1 c2
    rw [addr_add] at c1 c2
    have e : ((List.range len).map f)[j]'(by rw [hlen]; exact hj) = f j := by simp
    rw [e]
    exact ⟨tv, c0, c1, c2, hs⟩
end Go.Proofs.YtehleeibgkpjmafGreat
/- From the reading of an argument to what it holds: snapshots, slices of them, images. -/
namespace Go.Proofs.YtehleeibgkpjmafGreat
open Go.RowKit Go.Deep Go.ChangeShapes Go.WideShapes Go.ChangeAt
set_option maxRecDepth 20000

theorem cellsSnap : Tryz.prog.cellsOf 64 = 3 := by kernel_rfl
theorem cellsSnaps : Tryz.prog.cellsOf 25 = 1 := by kernel_rfl
theorem cellsSlots : Tryz.prog.cellsOf 24 = 1 := by kernel_rfl
theorem cellsImage : Tryz.prog.cellsOf 27 = 5 := by kernel_rfl

variable {H : Type} {enc : TypeId × Value → H} {w : World} {base : Nat} {spare : Nat → Bool} {held : Bool}

set_option maxRecDepth 20000 in
theorem snap_of_trod {n : Nat} {cs : List Value} {x : DataW H × List MemPlace} (h : DataW.trod enc Tryz.prog w base spare held n 64 cs = some x) :
    ∃ d k tv xs, cs = [.string d, .int .i64 k, tv] ∧ Sl w tv xs := by
  obtain ⟨y0, y1, y2, m, _, hl, h0, h1, h2⟩ := trod_struct3 Tryz.underlying64 h
  rw [cellsSnap] at hl
  match cs, hl with
  | [c0, c1, c2], _ =>
    simp only [cells3, cells9, cells27] at h0 h1 h2
    obtain ⟨d, e0, _, _⟩ := DataW.trod_string Tryz.underlying9 h0
    obtain ⟨k, e1, _, _⟩ := DataW.trod_int Tryz.underlying3 h1
    obtain ⟨tv, xs, e2, hs⟩ := sl_of_trod h2
    simp at e0 e1 e2
    subst e0 e1 e2
    exact ⟨d, k, _, xs, rfl, hs⟩

theorem snaps_of_trod {n : Nat} {v : Value} {x : DataW H × List MemPlace} (h : DataW.trod enc Tryz.prog w base spare held n 25 [v] = some x) : ∃ L, Snaps w v L := by
  rcases open_slice Tryz.underlying25 h with ⟨hv, _⟩ | ⟨a, len, cap, m, fuel, D, Pl, hv, _, hl, hm, hmm, _, hx⟩
  · simp at hv
    subst hv
    exact ⟨[], none, 0, rfl, Nat.zero_le _, Nat.zero_le _, fun h => absurd rfl h⟩
  · simp at hv
    subst hv
    rw [cellsSnap] at hx
    have hx' : ∀ i, i < len → ∃ s : SnapD, ∃ tv, w.cell? (a.add (i * 3)) = some (.string s.1) ∧ w.cell? ((a.add (i * 3)).add 1) = some (.int .i64 s.2.1) ∧ w.cell? ((a.add (i * 3)).add 2) = some tv ∧ Sl w tv s.2.2 := by
      intro i hi
      obtain ⟨cs', h1, h2⟩ := hx i (by rw [hmm]; split <;> omega)
      obtain ⟨k, d, tv, xs, rfl, hs⟩ := snap_of_trod h2
      obtain ⟨_, _, hc⟩ := World.cells?_some h1
      have c0 := hc 0 (by omega)
      have c1 := hc 1 (by omega)
      have c2 := hc 2 (by omega)
      exact ⟨(k, d, xs), tv, by simpa [Addr.add] using c0, c1, c2, hs⟩
    obtain ⟨f, hf⟩ := choose_lt hx'
    have hlen : ((List.range len).map f).length = len := by simp
    refine ⟨(List.range len).map f, some a, cap, by rw [hlen], by rw [hlen]; omega, by rw [hlen]; exact hl, fun hne => ?_⟩
    have hpos : 0 < len := by
      rcases Nat.eq_zero_or_pos len with e | e
      · subst e; simp at hne
      · exact e
    obtain ⟨tv0, c0, _⟩ := hf 0 hpos
    obtain ⟨b, off, spot⟩ := a
    have hspot : spot = none := by simpa [Addr.add] using World.cell?_spot c0
    subst hspot
    refine ⟨b, off, rfl, World.block_lt_of_cell? w _ (by rw [addr_add] at c0; exact c0), fun j hj => ?_⟩
    rw [hlen] at hj
    obtain ⟨tv, c0, c1, c2, hs⟩ := hf j hj
    rw [addr_add] at c0 c1 c2
    rw [addr_add] at c1 c2
    have e : ((List.range len).map f)[j]'(by rw [hlen]; exact hj) = f j := by simp
    rw [e]
    exact ⟨tv, c0, c1, c2, hs⟩

theorem trod_struct5 {P : Program} {t : TypeId} {f0 f1 f2 f3 f4 : Field} {fuel : Nat} {cs : List Value} {x : DataW H × List MemPlace} (ht : P.underlying t = some (.struct #[f0, f1, f2, f3, f4])) (h : DataW.trod enc P w base spare held fuel t cs = some x) :
    ∃ y0 y1 y2 y3 y4 n, cs.length = P.cellsOf t ∧ DataW.trod enc P w base spare held n f0.type ((cs.drop f0.offset).take (P.cellsOf f0.type)) = some y0 ∧
      DataW.trod enc P w base spare held n f1.type ((cs.drop f1.offset).take (P.cellsOf f1.type)) = some y1 ∧ DataW.trod enc P w base spare held n f2.type ((cs.drop f2.offset).take (P.cellsOf f2.type)) = some y2 ∧
      DataW.trod enc P w base spare held n f3.type ((cs.drop f3.offset).take (P.cellsOf f3.type)) = some y3 ∧ DataW.trod enc P w base spare held n f4.type ((cs.drop f4.offset).take (P.cellsOf f4.type)) = some y4 := by
  obtain ⟨xs, n, _, rfl, hl, hlen, hf⟩ := DataW.trod_struct ht h
  match xs, hlen with
  | [y0, y1, y2, y3, y4], _ => exact ⟨y0, y1, y2, y3, y4, n, hl, by simpa using hf 0 f0 rfl, by simpa using hf 1 f1 rfl, by simpa using hf 2 f2 rfl, by simpa using hf 3 f3 rfl, by simpa using hf 4 f4 rfl⟩
set_option maxRecDepth 20000 in
theorem img_of_trod {n : Nat} {cs : List Value} {x : DataW H × List MemPlace} (h : DataW.trod enc Tryz.prog w base spare held n 27 cs = some x) : ∃ g rv sv fv nv, cs = [.int .i64 g, rv, sv, fv, nv] ∧ ∃ r L F S, Sl w rv r ∧ Slots w sv L ∧ Sl w fv F ∧ Snaps w nv S := by
  obtain ⟨y0, y1, y2, y3, y4, m, hl, h0, h1, h2, h3, h4⟩ := trod_struct5 Tryz.underlying27 h
  rw [cellsImage] at hl
  match cs, hl with
  | [c0, c1, c2, c3, c4], _ =>
    simp only [cells3] at h0
    simp only [cells27] at h1 h3
    simp only [cellsSlots] at h2
    simp only [cellsSnaps] at h4
    obtain ⟨g, e0, _, _⟩ := DataW.trod_int Tryz.underlying3 h0
    obtain ⟨rv, r, e1, hr⟩ := sl_of_trod h1
    obtain ⟨L, hL⟩ := slots_of_trod (v := c2) h2
    obtain ⟨fv, F, e3, hF⟩ := sl_of_trod h3
    obtain ⟨S, hS⟩ := snaps_of_trod (v := c4) h4
    simp at e0 e1 e3
    subst e0 e1 e3
    exact ⟨g, _, _, _, _, rfl, r, L, F, S, hr, hL, hF, hS⟩
set_option maxRecDepth 20000 in
theorem img_of_arg {r : Reach} {b0 : Nat} {v : Value} {d : DataW H} {p : List MemPlace} (hv : Value.okWide Tryz.prog w r b0 27 v) (h : DataW.Trod enc Tryz.prog w base spare held 27 v d p) : ∃ m, Img w v m := by
  obtain ⟨cs, rfl, hsz⟩ := okWide_struct Tryz.underlying27 hv
  obtain ⟨fuel, hf⟩ := h
  obtain ⟨g, rv, sv, fv, nv, e, r, L, F, S, h1, h2, h3, h4⟩ := img_of_trod hf
  have e' : cs.toList = [.int .i64 g, rv, sv, fv, nv] := by simpa [Value.cells] using e
  cases cs
  simp at e'
  exact ⟨⟨g, r, L, F, S⟩, rv, sv, fv, nv, by rw [e'], h1, h2, h3, h4⟩
end Go.Proofs.YtehleeibgkpjmafGreat
