/- Texts joined: SameI, SkS, STrue, SlotsIn, ImgIn, StrsIn, StkIn. -/
import Derived.Test.YtehleeibgkpjmafStackTrueJ3
import Derived.Test.YtehleeibgkpjmafStackTrueJ10
import Derived.Deep.RegionHeld3
import Derived.Test.YtehleeibgkpjmafStackTrueJ1
import Derived.Deep.Strs
import Derived.Deep.Slices
import Derived.ProofKit
import Derived.SliceStrings
/- Contract of SameImages: of one image, wherever it lies twice. -/
namespace Go.Proofs.Ytehleeibgkpjmaf
open Go.RowKit Go.Shelf
set_option maxRecDepth 20000

set_option maxHeartbeats 4000000 in
theorem sameI_at (m : ImgD) (ra : Option Addr) (rc : Nat) (sa : Option Addr) (sc : Nat) (fa : Option Addr) (fc : Nat) (na : Option Addr) (nc : Nat) (rb : Option Addr) (rd : Nat) (sb : Option Addr) (sd : Nat) (fb : Option Addr) (fd : Nat) (nb : Option Addr) (nd : Nat) (w : World)
    (h1 : Sl w (.slice ra m.root.length rc) m.root) (h2 : Slots w (.slice sa m.slots.length sc) m.slots) (h3 : Sl w (.slice fa m.refs.length fc) m.refs) (h4 : Snaps w (.slice na m.snaps.length nc) m.snaps)
    (k1 : Sl w (.slice rb m.root.length rd) m.root) (k2 : Slots w (.slice sb m.slots.length sd) m.slots) (k3 : Sl w (.slice fb m.refs.length fd) m.refs) (k4 : Snaps w (.slice nb m.snaps.length nd) m.snaps) :
    Calls Try.prog 25 #[.agg #[.int .i64 m.guest, .slice ra m.root.length rc, .slice sa m.slots.length sc, .slice fa m.refs.length fc, .slice na m.snaps.length nc], .agg #[.int .i64 m.guest, .slice rb m.root.length rd, .slice sb m.slots.length sd, .slice fb m.refs.length fd, .slice nb m.snaps.length nd]] w fun r w' => r = .returned (.bool true) ∧ Below w.heap.size w w' := by
  have b0 : Below w.heap.size w ((w.alloc (.cells #[.int .i64 m.guest, .slice ra m.root.length rc, .slice sa m.slots.length sc, .slice fa m.refs.length fc, .slice na m.snaps.length nc] 27)).alloc (.cells #[.int .i64 m.guest, .slice rb m.root.length rd, .slice sb m.slots.length sd, .slice fb m.refs.length fd, .slice nb m.snaps.length nd] 27)) := ((Below.refl _ _).alloc (Nat.le_refl _) _).alloc (by simp) _
  have m0 : ((w.alloc (.cells #[.int .i64 m.guest, .slice ra m.root.length rc, .slice sa m.slots.length sc, .slice fa m.refs.length fc, .slice na m.snaps.length nc] 27)).alloc (.cells #[.int .i64 m.guest, .slice rb m.root.length rd, .slice sb m.slots.length sd, .slice fb m.refs.length fd, .slice nb m.snaps.length nd] 27)).heap[w.heap.size]? = some (.cells #[.int .i64 m.guest, .slice ra m.root.length rc, .slice sa m.slots.length sc, .slice fa m.refs.length fc, .slice na m.snaps.length nc] 27) := cells_alloc (World.alloc_heap_new _ _) _
  have m1 : ((w.alloc (.cells #[.int .i64 m.guest, .slice ra m.root.length rc, .slice sa m.slots.length sc, .slice fa m.refs.length fc, .slice na m.snaps.length nc] 27)).alloc (.cells #[.int .i64 m.guest, .slice rb m.root.length rd, .slice sb m.slots.length sd, .slice fb m.refs.length fd, .slice nb m.snaps.length nd] 27)).heap[w.heap.size + 1]? = some (.cells #[.int .i64 m.guest, .slice rb m.root.length rd, .slice sb m.slots.length sd, .slice fb m.refs.length fd, .slice nb m.snaps.length nd] 27) := by have := World.alloc_heap_new (w.alloc (.cells #[.int .i64 m.guest, .slice ra m.root.length rc, .slice sa m.slots.length sc, .slice fa m.refs.length fc, .slice na m.snaps.length nc] 27)) (.cells #[.int .i64 m.guest, .slice rb m.root.length rd, .slice sb m.slots.length sd, .slice fb m.refs.length fd, .slice nb m.snaps.length nd] 27); simpa using this
  obtain ⟨c0, c1, c2, c3, c4⟩ := five m0
  obtain ⟨d0, d1, d2, d3, d4⟩ := five m1
  have HR := same_any (h1.below b0) (k1.below b0)
  have HF := fun W (hW : Below w.heap.size w W) => same_any (h3.below hW) (k3.below hW)
  have HS : Hid (Slots w (.slice sa m.slots.length sc) m.slots ∧ Slots w (.slice sb m.slots.length sd) m.slots ∧ Snaps w (.slice na m.snaps.length nc) m.snaps ∧ Snaps w (.slice nb m.snaps.length nd) m.snaps) := ⟨h2, k2, h4, k4⟩
  have HL : Hid (m.slots.length ≤ 9223372036854775807 ∧ m.snaps.length ≤ 9223372036854775807) := ⟨h2.small, h4.small⟩
  clear h1 h2 h3 h4 k1 k2 k3 k4
  go_enter Try.func25, Try.ntmps25
  go_wp2_with (first
    | (go_at_call 45; refine (HF _ bw1).mono ?_; rintro e w2 ⟨rfl, b2⟩; have m4 := cells_below m2 b2 (Array.getElem?_eq_some_iff.1 m2).1; have m5 := cells_below m3 b2 (Array.getElem?_eq_some_iff.1 m3).1; obtain ⟨g0, g1, g2, g3, g4⟩ := five m4; obtain ⟨i0, i1, i2, i3, i4⟩ := five m5; have bw2 := Below.on bw1 b2)
    | (go_at_call 45; refine HR.mono ?_; rintro e w1 ⟨rfl, b1⟩; have m2 := cells_below m0 b1 (by simp <;> omega); have m3 := cells_below m1 b1 (by simp <;> omega); obtain ⟨e0, e1, e2, e3, e4⟩ := five m2; obtain ⟨f0, f1, f2, f3, f4⟩ := five m3; have bw1 := Below.on b0 b1))
  have HB : Hid (w2.heap[w.heap.size]? = some (.cells #[.int .i64 m.guest, .slice ra m.root.length rc, .slice sa m.slots.length sc, .slice fa m.refs.length fc, .slice na m.snaps.length nc] 27) ∧ w2.heap[w.heap.size + 1]? = some (.cells #[.int .i64 m.guest, .slice rb m.root.length rd, .slice sb m.slots.length sd, .slice fb m.refs.length fd, .slice nb m.snaps.length nd] 27) ∧ Below w.heap.size w w2) := ⟨m4, m5, bw2⟩
  clear c0 c1 c2 c3 c4 d0 d1 d2 d3 d4 e0 e1 e2 e3 e4 f0 f1 f2 f3 f4 g0 g1 g2 g3 g4 i0 i1 i2 i3 i4 m0 m1 m2 m3 m4 m5 b0 b1 b2 bw1 bw2 HR HF
  go_loopw [5] (fun i wr => ∃ k : Nat, k ≤ m.slots.length ∧ i = .int .i64 k ∧ Hid (wr.heap[w.heap.size]? = some (.cells #[.int .i64 m.guest, .slice ra m.root.length rc, .slice sa m.slots.length sc, .slice fa m.refs.length fc, .slice na m.snaps.length nc] 27) ∧ wr.heap[w.heap.size + 1]? = some (.cells #[.int .i64 m.guest, .slice rb m.root.length rd, .slice sb m.slots.length sd, .slice fb m.refs.length fd, .slice nb m.snaps.length nd] 27) ∧ Below w.heap.size w wr)) (fun i _ => m.slots.length - (intOf i).toNat)
  case atStart => exact ⟨0, Nat.zero_le _, rfl, HB⟩
  case round =>
    obtain ⟨k, hk, rfl, HC⟩ := hrel
    obtain ⟨mA, mB, hb⟩ := HC.out
    obtain ⟨c0, c1, c2, c3, c4⟩ := five mA
    obtain ⟨d0, d1, d2, d3, d4⟩ := five mB
    have hL := HL.out.1
    by_cases hlk : k < m.slots.length
    · have hki : (k : Int) < (m.slots.length : Int) := by omega
      have hL1 : (k : Int) + 1 ≤ 9223372036854775807 := by omega
      obtain ⟨pb, po, pc, e, _, hpl, hps⟩ := HS.out.1.open (by omega)
      simp at e
      obtain ⟨rfl, rfl⟩ := e
      obtain ⟨qb, qo, qc, e, _, hql, hqs⟩ := HS.out.2.1.open (by omega)
      simp at e
      obtain ⟨rfl, rfl⟩ := e
      obtain ⟨s, hs⟩ : ∃ s, m.slots[k] = s := ⟨_, rfl⟩
      obtain ⟨kk, dd, tt⟩ := s
      obtain ⟨tv, p0, p1, p2, ps⟩ := hps k hlk
      obtain ⟨uv, q0, q1, q2, qs⟩ := hqs k hlk
      rw [hs] at p0 p1 ps q0 q1 qs
      obtain ⟨ta, tc, rfl⟩ := ps.form
      obtain ⟨ua, uc, rfl⟩ := qs.form
      have p0 : wr.cell? ⟨pb, po + k * 3, none⟩ = some (.int .i64 kk) := (hb.cell (p := ⟨pb, po + k * 3, none⟩) hpl).trans p0
      have p1 : wr.cell? ⟨pb, po + k * 3 + 1, none⟩ = some (.string dd) := (hb.cell (p := ⟨pb, po + k * 3 + 1, none⟩) hpl).trans p1
      have p2 : wr.cell? ⟨pb, po + k * 3 + 1 + 1, none⟩ = some (.slice ta tt.length tc) := (hb.cell (p := ⟨pb, po + k * 3 + 1 + 1, none⟩) hpl).trans p2
      have q0 : wr.cell? ⟨qb, qo + k * 3, none⟩ = some (.int .i64 kk) := (hb.cell (p := ⟨qb, qo + k * 3, none⟩) hql).trans q0
      have q1 : wr.cell? ⟨qb, qo + k * 3 + 1, none⟩ = some (.string dd) := (hb.cell (p := ⟨qb, qo + k * 3 + 1, none⟩) hql).trans q1
      have q2 : wr.cell? ⟨qb, qo + k * 3 + 1 + 1, none⟩ = some (.slice ua tt.length uc) := (hb.cell (p := ⟨qb, qo + k * 3 + 1 + 1, none⟩) hql).trans q2
      have hcall := same_any (w := wr.drew) (ps.below (to_drew hb)) (qs.below (to_drew hb))
      have hpw : pb < wr.heap.size := Nat.lt_of_lt_of_le hpl hb.size
      have hqw : qb < wr.heap.size := Nat.lt_of_lt_of_le hql hb.size
      have HN : Hid (∀ W, Below wr.heap.size wr W → W.heap[w.heap.size]? = some (.cells #[.int .i64 m.guest, .slice ra m.root.length rc, .slice (some ⟨pb, po, none⟩) m.slots.length sc, .slice fa m.refs.length fc, .slice na m.snaps.length nc] 27) ∧ W.heap[w.heap.size + 1]? = some (.cells #[.int .i64 m.guest, .slice rb m.root.length rd, .slice (some ⟨qb, qo, none⟩) m.slots.length sd, .slice fb m.refs.length fd, .slice nb m.snaps.length nd] 27) ∧ Below w.heap.size w W) := fun W hW => ⟨cells_below mA hW (Array.getElem?_eq_some_iff.1 mA).1, cells_below mB hW (Array.getElem?_eq_some_iff.1 mB).1, Below.on hb hW⟩
      have HK : Hid (∀ W, Below wr.heap.size wr W → W.cell? ⟨w.heap.size, 0 + 1 + 1, none⟩ = some (.slice (some ⟨pb, po, none⟩) m.slots.length sc) ∧ W.cell? ⟨w.heap.size + 1, 0 + 1 + 1, none⟩ = some (.slice (some ⟨qb, qo, none⟩) m.slots.length sd) ∧ W.cell? ⟨pb, po + k * 3, none⟩ = some (.int .i64 kk) ∧ W.cell? ⟨pb, po + k * 3 + 1, none⟩ = some (.string dd) ∧ W.cell? ⟨pb, po + k * 3 + 1 + 1, none⟩ = some (.slice ta tt.length tc) ∧ W.cell? ⟨qb, qo + k * 3, none⟩ = some (.int .i64 kk) ∧ W.cell? ⟨qb, qo + k * 3 + 1, none⟩ = some (.string dd) ∧ W.cell? ⟨qb, qo + k * 3 + 1 + 1, none⟩ = some (.slice ua tt.length uc)) := fun W hW => ⟨(hW.cell (p := ⟨w.heap.size, 0 + 1 + 1, none⟩) (Array.getElem?_eq_some_iff.1 mA).1).trans c2, (hW.cell (p := ⟨w.heap.size + 1, 0 + 1 + 1, none⟩) (Array.getElem?_eq_some_iff.1 mB).1).trans d2, (hW.cell (p := ⟨pb, po + k * 3, none⟩) hpw).trans p0, (hW.cell (p := ⟨pb, po + k * 3 + 1, none⟩) hpw).trans p1, (hW.cell (p := ⟨pb, po + k * 3 + 1 + 1, none⟩) hpw).trans p2, (hW.cell (p := ⟨qb, qo + k * 3, none⟩) hqw).trans q0, (hW.cell (p := ⟨qb, qo + k * 3 + 1, none⟩) hqw).trans q1, (hW.cell (p := ⟨qb, qo + k * 3 + 1 + 1, none⟩) hqw).trans q2⟩
      clear hs mA mB ps qs hps hqs
      go_wp2_with fail
      go_region_held3 (fun W => W.cell? ⟨w.heap.size, 0 + 1 + 1, none⟩ = some (.slice (some ⟨pb, po, none⟩) m.slots.length sc) ∧ W.cell? ⟨w.heap.size + 1, 0 + 1 + 1, none⟩ = some (.slice (some ⟨qb, qo, none⟩) m.slots.length sd) ∧ W.cell? ⟨pb, po + k * 3, none⟩ = some (.int .i64 kk) ∧ W.cell? ⟨pb, po + k * 3 + 1, none⟩ = some (.string dd) ∧ W.cell? ⟨pb, po + k * 3 + 1 + 1, none⟩ = some (.slice ta tt.length tc) ∧ W.cell? ⟨qb, qo + k * 3, none⟩ = some (.int .i64 kk) ∧ W.cell? ⟨qb, qo + k * 3 + 1, none⟩ = some (.string dd) ∧ W.cell? ⟨qb, qo + k * 3 + 1 + 1, none⟩ = some (.slice ua tt.length uc)) (first | exact HK.out _ b3 | exact HK.out _ (to_drew (Below.refl _ _)))
        (first | (go_at_call 45; refine hcall.mono ?_; rintro e w3 ⟨rfl, b3⟩; have b3 := below_drew b3))
      go_wp2_with fail
      go_roundw
      case rel => exact ⟨k + 1, by omega, by go_num, HN.out _ b3⟩
      case measure => simp [intOf]; omega
    · have ek : k = m.slots.length := by omega
      subst ek
      obtain ⟨x, hrn⟩ : ∃ X, X = wr := ⟨_, rfl⟩
      subst hrn
      go_wp2_with fail
      clear c0 c1 c2 c3 c4 d0 d1 d2 d3 d4 mA mB hb hL
      go_loopw [6] (fun i wr => ∃ l : Nat, l ≤ m.snaps.length ∧ i = .int .i64 l ∧ Hid (wr.heap[w.heap.size]? = some (.cells #[.int .i64 m.guest, .slice ra m.root.length rc, .slice sa m.slots.length sc, .slice fa m.refs.length fc, .slice na m.snaps.length nc] 27) ∧ wr.heap[w.heap.size + 1]? = some (.cells #[.int .i64 m.guest, .slice rb m.root.length rd, .slice sb m.slots.length sd, .slice fb m.refs.length fd, .slice nb m.snaps.length nd] 27) ∧ Below w.heap.size w wr)) (fun i _ => m.snaps.length - (intOf i).toNat)
      case atStart => exact ⟨0, Nat.zero_le _, rfl, HC⟩
      case round =>
        obtain ⟨l, hl, rfl, HD⟩ := hrel
        obtain ⟨mA, mB, hb⟩ := HD.out
        obtain ⟨c0, c1, c2, c3, c4⟩ := five mA
        obtain ⟨d0, d1, d2, d3, d4⟩ := five mB
        have hL := HL.out.2
        by_cases hll : l < m.snaps.length
        · have hki : (l : Int) < (m.snaps.length : Int) := by omega
          have hL1 : (l : Int) + 1 ≤ 9223372036854775807 := by omega
          obtain ⟨pb, po, pc, e, _, hpl, hps⟩ := HS.out.2.2.1.open (by omega)
          simp at e
          obtain ⟨rfl, rfl⟩ := e
          obtain ⟨qb, qo, qc, e, _, hql, hqs⟩ := HS.out.2.2.2.open (by omega)
          simp at e
          obtain ⟨rfl, rfl⟩ := e
          obtain ⟨s, hs⟩ : ∃ s, m.snaps[l] = s := ⟨_, rfl⟩
          obtain ⟨nm, sg, tt⟩ := s
          obtain ⟨tv, p0, p1, p2, ps⟩ := hps l hll
          obtain ⟨uv, q0, q1, q2, qs⟩ := hqs l hll
          rw [hs] at p0 p1 ps q0 q1 qs
          obtain ⟨ta, tc, rfl⟩ := ps.form
          obtain ⟨ua, uc, rfl⟩ := qs.form
          have p0 : wr.cell? ⟨pb, po + l * 3, none⟩ = some (.string nm) := (hb.cell (p := ⟨pb, po + l * 3, none⟩) hpl).trans p0
          have p1 : wr.cell? ⟨pb, po + l * 3 + 1, none⟩ = some (.int .i64 sg) := (hb.cell (p := ⟨pb, po + l * 3 + 1, none⟩) hpl).trans p1
          have p2 : wr.cell? ⟨pb, po + l * 3 + 1 + 1, none⟩ = some (.slice ta tt.length tc) := (hb.cell (p := ⟨pb, po + l * 3 + 1 + 1, none⟩) hpl).trans p2
          have q0 : wr.cell? ⟨qb, qo + l * 3, none⟩ = some (.string nm) := (hb.cell (p := ⟨qb, qo + l * 3, none⟩) hql).trans q0
          have q1 : wr.cell? ⟨qb, qo + l * 3 + 1, none⟩ = some (.int .i64 sg) := (hb.cell (p := ⟨qb, qo + l * 3 + 1, none⟩) hql).trans q1
          have q2 : wr.cell? ⟨qb, qo + l * 3 + 1 + 1, none⟩ = some (.slice ua tt.length uc) := (hb.cell (p := ⟨qb, qo + l * 3 + 1 + 1, none⟩) hql).trans q2
          have hcall := same_any (w := wr.drew) (ps.below (to_drew hb)) (qs.below (to_drew hb))
          have hpw : pb < wr.heap.size := Nat.lt_of_lt_of_le hpl hb.size
          have hqw : qb < wr.heap.size := Nat.lt_of_lt_of_le hql hb.size
          have HN : Hid (∀ W, Below wr.heap.size wr W → W.heap[w.heap.size]? = some (.cells #[.int .i64 m.guest, .slice ra m.root.length rc, .slice sa m.slots.length sc, .slice fa m.refs.length fc, .slice (some ⟨pb, po, none⟩) m.snaps.length nc] 27) ∧ W.heap[w.heap.size + 1]? = some (.cells #[.int .i64 m.guest, .slice rb m.root.length rd, .slice sb m.slots.length sd, .slice fb m.refs.length fd, .slice (some ⟨qb, qo, none⟩) m.snaps.length nd] 27) ∧ Below w.heap.size w W) := fun W hW => ⟨cells_below mA hW (Array.getElem?_eq_some_iff.1 mA).1, cells_below mB hW (Array.getElem?_eq_some_iff.1 mB).1, Below.on hb hW⟩
          have HK : Hid (∀ W, Below wr.heap.size wr W → W.cell? ⟨w.heap.size, 0 + 1 + 1 + 1 + 1, none⟩ = some (.slice (some ⟨pb, po, none⟩) m.snaps.length nc) ∧ W.cell? ⟨w.heap.size + 1, 0 + 1 + 1 + 1 + 1, none⟩ = some (.slice (some ⟨qb, qo, none⟩) m.snaps.length nd) ∧ W.cell? ⟨pb, po + l * 3, none⟩ = some (.string nm) ∧ W.cell? ⟨pb, po + l * 3 + 1, none⟩ = some (.int .i64 sg) ∧ W.cell? ⟨pb, po + l * 3 + 1 + 1, none⟩ = some (.slice ta tt.length tc) ∧ W.cell? ⟨qb, qo + l * 3, none⟩ = some (.string nm) ∧ W.cell? ⟨qb, qo + l * 3 + 1, none⟩ = some (.int .i64 sg) ∧ W.cell? ⟨qb, qo + l * 3 + 1 + 1, none⟩ = some (.slice ua tt.length uc)) := fun W hW => ⟨(hW.cell (p := ⟨w.heap.size, 0 + 1 + 1 + 1 + 1, none⟩) (Array.getElem?_eq_some_iff.1 mA).1).trans c4, (hW.cell (p := ⟨w.heap.size + 1, 0 + 1 + 1 + 1 + 1, none⟩) (Array.getElem?_eq_some_iff.1 mB).1).trans d4, (hW.cell (p := ⟨pb, po + l * 3, none⟩) hpw).trans p0, (hW.cell (p := ⟨pb, po + l * 3 + 1, none⟩) hpw).trans p1, (hW.cell (p := ⟨pb, po + l * 3 + 1 + 1, none⟩) hpw).trans p2, (hW.cell (p := ⟨qb, qo + l * 3, none⟩) hqw).trans q0, (hW.cell (p := ⟨qb, qo + l * 3 + 1, none⟩) hqw).trans q1, (hW.cell (p := ⟨qb, qo + l * 3 + 1 + 1, none⟩) hqw).trans q2⟩
          clear hs mA mB ps qs hps hqs
          go_wp2_with fail
          go_region_held3 (fun W => W.cell? ⟨w.heap.size, 0 + 1 + 1 + 1 + 1, none⟩ = some (.slice (some ⟨pb, po, none⟩) m.snaps.length nc) ∧ W.cell? ⟨w.heap.size + 1, 0 + 1 + 1 + 1 + 1, none⟩ = some (.slice (some ⟨qb, qo, none⟩) m.snaps.length nd) ∧ W.cell? ⟨pb, po + l * 3, none⟩ = some (.string nm) ∧ W.cell? ⟨pb, po + l * 3 + 1, none⟩ = some (.int .i64 sg) ∧ W.cell? ⟨pb, po + l * 3 + 1 + 1, none⟩ = some (.slice ta tt.length tc) ∧ W.cell? ⟨qb, qo + l * 3, none⟩ = some (.string nm) ∧ W.cell? ⟨qb, qo + l * 3 + 1, none⟩ = some (.int .i64 sg) ∧ W.cell? ⟨qb, qo + l * 3 + 1 + 1, none⟩ = some (.slice ua tt.length uc)) (first | exact HK.out _ b3 | exact HK.out _ (to_drew (Below.refl _ _)))
            (first | (go_at_call 45; refine hcall.mono ?_; rintro e w3 ⟨rfl, b3⟩; have b3 := below_drew b3))
          go_wp2_with fail
          go_roundw
          case rel => exact ⟨l + 1, by omega, by go_num, HN.out _ b3⟩
          case measure => simp [intOf]; omega
        · have el : l = m.snaps.length := by omega
          subst el
          go_wp2_with fail
          go_ret
          exact ⟨rfl, hb⟩
theorem sameI_is {w : World} {v u : Value} {m : ImgD} (h : Img w v m) (k : Img w u m) : Calls Try.prog 25 #[v, u] w fun r w' => r = .returned (.bool true) ∧ Below w.heap.size w w' := by
  obtain ⟨ra, rc, sa, sc, fa, fc, na, nc, rfl, h1, h2, h3, h4⟩ := h.parts
  obtain ⟨rb, rd, sb, sd, fb, fd, nb, nd, rfl, k1, k2, k3, k4⟩ := k.parts
  exact sameI_at m ra rc sa sc fa fc na nc rb rd sb sd fb fd nb nd w h1 h2 h3 h4 k1 k2 k3 k4
end Go.Proofs.Ytehleeibgkpjmaf
/- Contract of SameStacks: equal stacks answer true. -/
namespace Go.Proofs.Ytehleeibgkpjmaf
open Go.RowKit Go.Shelf
set_option maxRecDepth 20000
set_option linter.unusedVariables false

theorem Stk.top {w : World} {b : List ByteArray} {m : ImgD} {bv gv r s f n : Value} (h : Stk w (.agg #[bv, gv, r, s, f, n]) b m) : Img w (.agg #[gv, r, s, f, n]) m := by
  obtain ⟨bv', r', s', f', n', e, h1, h2⟩ := h
  simp only [Value.agg.injEq, Array.mk.injEq, List.cons.injEq, and_true] at e
  rw [e.2.1, e.2.2.1, e.2.2.2.1, e.2.2.2.2.1, e.2.2.2.2.2]; exact h2
set_option maxHeartbeats 4000000 in
theorem sameStk_at (ba : Option Addr) (bc : Nat) (ra : Option Addr) (rc : Nat) (sa : Option Addr) (sc : Nat) (fa : Option Addr) (fc : Nat) (na : Option Addr) (nc : Nat) (ba2 : Option Addr) (bc2 : Nat) (ra2 : Option Addr) (rc2 : Nat) (sa2 : Option Addr) (sc2 : Nat) (fa2 : Option Addr) (fc2 : Nat) (na2 : Option Addr) (nc2 : Nat) (b : List ByteArray) (m : ImgD) (w : World) (h : Stk w (.agg #[.slice ba b.length bc, .int .i64 m.guest, .slice ra m.root.length rc, .slice sa m.slots.length sc, .slice fa m.refs.length fc, .slice na m.snaps.length nc]) b m) (k : Stk w (.agg #[.slice ba2 b.length bc2, .int .i64 m.guest, .slice ra2 m.root.length rc2, .slice sa2 m.slots.length sc2, .slice fa2 m.refs.length fc2, .slice na2 m.snaps.length nc2]) b m) :
    Calls Try.prog 12 #[.agg #[.slice ba b.length bc, .int .i64 m.guest, .slice ra m.root.length rc, .slice sa m.slots.length sc, .slice fa m.refs.length fc, .slice na m.snaps.length nc], .agg #[.slice ba2 b.length bc2, .int .i64 m.guest, .slice ra2 m.root.length rc2, .slice sa2 m.slots.length sc2, .slice fa2 m.refs.length fc2, .slice na2 m.snaps.length nc2]] w fun r w' => r = .returned (.bool true) ∧ Below w.heap.size w w' := by
  have hB : Below w.heap.size w ((w.alloc (.cells #[.slice ba b.length bc, .int .i64 m.guest, .slice ra m.root.length rc, .slice sa m.slots.length sc, .slice fa m.refs.length fc, .slice na m.snaps.length nc] 29)).alloc (.cells #[.slice ba2 b.length bc2, .int .i64 m.guest, .slice ra2 m.root.length rc2, .slice sa2 m.slots.length sc2, .slice fa2 m.refs.length fc2, .slice na2 m.snaps.length nc2] 29)) := ((Below.refl _ _).alloc (Nat.le_refl _) _).alloc (by simp) _
  have m0 : ((w.alloc (.cells #[.slice ba b.length bc, .int .i64 m.guest, .slice ra m.root.length rc, .slice sa m.slots.length sc, .slice fa m.refs.length fc, .slice na m.snaps.length nc] 29)).alloc (.cells #[.slice ba2 b.length bc2, .int .i64 m.guest, .slice ra2 m.root.length rc2, .slice sa2 m.slots.length sc2, .slice fa2 m.refs.length fc2, .slice na2 m.snaps.length nc2] 29)).heap[w.heap.size]? = some (.cells #[.slice ba b.length bc, .int .i64 m.guest, .slice ra m.root.length rc, .slice sa m.slots.length sc, .slice fa m.refs.length fc, .slice na m.snaps.length nc] 29) := cells_alloc (World.alloc_heap_new _ _) _
  have m1 : ((w.alloc (.cells #[.slice ba b.length bc, .int .i64 m.guest, .slice ra m.root.length rc, .slice sa m.slots.length sc, .slice fa m.refs.length fc, .slice na m.snaps.length nc] 29)).alloc (.cells #[.slice ba2 b.length bc2, .int .i64 m.guest, .slice ra2 m.root.length rc2, .slice sa2 m.slots.length sc2, .slice fa2 m.refs.length fc2, .slice na2 m.snaps.length nc2] 29)).heap[w.heap.size + 1]? = some (.cells #[.slice ba2 b.length bc2, .int .i64 m.guest, .slice ra2 m.root.length rc2, .slice sa2 m.slots.length sc2, .slice fa2 m.refs.length fc2, .slice na2 m.snaps.length nc2] 29) := by have := World.alloc_heap_new (w.alloc (.cells #[.slice ba b.length bc, .int .i64 m.guest, .slice ra m.root.length rc, .slice sa m.slots.length sc, .slice fa m.refs.length fc, .slice na m.snaps.length nc] 29)) (.cells #[.slice ba2 b.length bc2, .int .i64 m.guest, .slice ra2 m.root.length rc2, .slice sa2 m.slots.length sc2, .slice fa2 m.refs.length fc2, .slice na2 m.snaps.length nc2] 29); simpa using this
  have hz : w.heap.size + 1 < ((w.alloc (.cells #[.slice ba b.length bc, .int .i64 m.guest, .slice ra m.root.length rc, .slice sa m.slots.length sc, .slice fa m.refs.length fc, .slice na m.snaps.length nc] 29)).alloc (.cells #[.slice ba2 b.length bc2, .int .i64 m.guest, .slice ra2 m.root.length rc2, .slice sa2 m.slots.length sc2, .slice fa2 m.refs.length fc2, .slice na2 m.snaps.length nc2] 29)).heap.size := by simp
  have h0 := h.below hB
  have k0 := k.below hB
  have H1 : Hid (Calls Try.prog 8 #[.slice ba b.length bc, .slice ba2 b.length bc2] ((w.alloc (.cells #[.slice ba b.length bc, .int .i64 m.guest, .slice ra m.root.length rc, .slice sa m.slots.length sc, .slice fa m.refs.length fc, .slice na m.snaps.length nc] 29)).alloc (.cells #[.slice ba2 b.length bc2, .int .i64 m.guest, .slice ra2 m.root.length rc2, .slice sa2 m.slots.length sc2, .slice fa2 m.refs.length fc2, .slice na2 m.snaps.length nc2] 29)) fun r w' => r = .returned (.bool true) ∧ Below ((w.alloc (.cells #[.slice ba b.length bc, .int .i64 m.guest, .slice ra m.root.length rc, .slice sa m.slots.length sc, .slice fa m.refs.length fc, .slice na m.snaps.length nc] 29)).alloc (.cells #[.slice ba2 b.length bc2, .int .i64 m.guest, .slice ra2 m.root.length rc2, .slice sa2 m.slots.length sc2, .slice fa2 m.refs.length fc2, .slice na2 m.snaps.length nc2] 29)).heap.size ((w.alloc (.cells #[.slice ba b.length bc, .int .i64 m.guest, .slice ra m.root.length rc, .slice sa m.slots.length sc, .slice fa m.refs.length fc, .slice na m.snaps.length nc] 29)).alloc (.cells #[.slice ba2 b.length bc2, .int .i64 m.guest, .slice ra2 m.root.length rc2, .slice sa2 m.slots.length sc2, .slice fa2 m.refs.length fc2, .slice na2 m.snaps.length nc2] 29)) w') := samePages_any h0.base k0.base
  have H2 : Hid (∀ W, Below ((w.alloc (.cells #[.slice ba b.length bc, .int .i64 m.guest, .slice ra m.root.length rc, .slice sa m.slots.length sc, .slice fa m.refs.length fc, .slice na m.snaps.length nc] 29)).alloc (.cells #[.slice ba2 b.length bc2, .int .i64 m.guest, .slice ra2 m.root.length rc2, .slice sa2 m.slots.length sc2, .slice fa2 m.refs.length fc2, .slice na2 m.snaps.length nc2] 29)).heap.size ((w.alloc (.cells #[.slice ba b.length bc, .int .i64 m.guest, .slice ra m.root.length rc, .slice sa m.slots.length sc, .slice fa m.refs.length fc, .slice na m.snaps.length nc] 29)).alloc (.cells #[.slice ba2 b.length bc2, .int .i64 m.guest, .slice ra2 m.root.length rc2, .slice sa2 m.slots.length sc2, .slice fa2 m.refs.length fc2, .slice na2 m.snaps.length nc2] 29)) W → Calls Try.prog 25 #[.agg #[.int .i64 m.guest, .slice ra m.root.length rc, .slice sa m.slots.length sc, .slice fa m.refs.length fc, .slice na m.snaps.length nc], .agg #[.int .i64 m.guest, .slice ra2 m.root.length rc2, .slice sa2 m.slots.length sc2, .slice fa2 m.refs.length fc2, .slice na2 m.snaps.length nc2]] W fun r w' => r = .returned (.bool true) ∧ Below W.heap.size W w') := fun W hW => sameI_is (h0.top.below hW) (k0.top.below hW)
  clear h k h0 k0
  obtain ⟨c0, c1, c2, c3, c4, c5⟩ := six m0
  obtain ⟨d0, d1, d2, d3, d4, d5⟩ := six m1
  go_enter Try.func12, Try.ntmps12
  go_wp2_with (first
    | (go_at_call 25; refine (H2.out w1 b1).mono ?_; rintro e2 w2 ⟨rfl, b2⟩)
    | (go_at_call 8; refine H1.out.mono ?_; rintro e1 w1 ⟨rfl, b1⟩; have n0 := cells_below m0 b1 (by omega); have n1 := cells_below m1 b1 hz; obtain ⟨f0, f1, f2, f3, f4, f5⟩ := six n0; obtain ⟨g0, g1, g2, g3, g4, g5⟩ := six n1))
  go_ret
  exact ⟨rfl, Below.on (Below.on hB b1) b2⟩
theorem sameStk_is {w : World} {v u : Value} {b : List ByteArray} {m : ImgD} (h : Stk w v b m) (k : Stk w u b m) : Calls Try.prog 12 #[v, u] w fun r w' => r = .returned (.bool true) ∧ Below w.heap.size w w' := by
  have h' := h
  have k' := k
  obtain ⟨ba, bc, ra, rc, sa, sc, fa, fc, na, nc, rfl, _, _⟩ := h.parts
  obtain ⟨ba2, bc2, ra2, rc2, sa2, sc2, fa2, fc2, na2, nc2, rfl, _, _⟩ := k.parts
  exact sameStk_at ba bc ra rc sa sc fa fc na nc ba2 bc2 ra2 rc2 sa2 sc2 fa2 fc2 na2 nc2 b m w h' k'
end Go.Proofs.Ytehleeibgkpjmaf
/- The walk of StackTrue. -/
namespace Go.Proofs.Ytehleeibgkpjmaf
open Go.RowKit Go.Shelf
set_option maxRecDepth 20000
set_option linter.unusedVariables false

set_option maxHeartbeats 16000000 in
theorem st_no1 (ba : Option Addr) (bc : Nat) (ra : Option Addr) (rc : Nat) (sa : Option Addr) (sc : Nat) (fa : Option Addr) (fc : Nat) (na : Option Addr) (nc : Nat) (b : List ByteArray) (m : ImgD) (n : Int) (page : ByteArray) (k : Int) (w : World) (h : Stk w (.agg #[.slice ba b.length bc, .int .i64 m.guest, .slice ra m.root.length rc, .slice sa m.slots.length sc, .slice fa m.refs.length fc, .slice na m.snaps.length nc]) b m) (E : Int) (P : ByteArray) (HE : Hid (srE b m k = E ∧ srV b m k = P)) (BW : List ByteArray) (MW : ImgD) (EW : Int) (HW : Hid (skE b m n page = EW ∧ skM b m n page = MW ∧ skB b m n page = BW)) (hew : (EW == 0) = false) (BC : List ByteArray) (MC : ImgD) (HC : Hid (ccE b m = 0 ∧ (if ccE b m = 0 then pgs b m else []) = BC ∧ (if ccE b m = 0 then freshD m.guest.toNat else imgZ) = MC)) (HR : Hid (srE BC MC k = E ∧ srV BC MC k = P)) (HR2 : Hid (ccE BC MC = 0 ∧ (if ccE BC MC = 0 then pgs BC MC else []) = BC ∧ (if ccE BC MC = 0 then freshD MC.guest.toNat else imgZ) = MC)) (HCk : Hid (scE BC MC = 0)) :
    Calls Try.prog 3 #[.agg #[.slice ba b.length bc, .int .i64 m.guest, .slice ra m.root.length rc, .slice sa m.slots.length sc, .slice fa m.refs.length fc, .slice na m.snaps.length nc], .int .i64 n, .string page, .int .i64 k] w fun r w' => r = .returned (.bool true) ∧ Below w.heap.size w w' := by
  have hB : Below w.heap.size w (w.alloc (.cells #[.slice ba b.length bc, .int .i64 m.guest, .slice ra m.root.length rc, .slice sa m.slots.length sc, .slice fa m.refs.length fc, .slice na m.snaps.length nc] 29)) := (Below.refl _ _).alloc (Nat.le_refl _) _
  have mb_s : (w.alloc (.cells #[.slice ba b.length bc, .int .i64 m.guest, .slice ra m.root.length rc, .slice sa m.slots.length sc, .slice fa m.refs.length fc, .slice na m.snaps.length nc] 29)).heap[w.heap.size]? = some (.cells #[.slice ba b.length bc, .int .i64 m.guest, .slice ra m.root.length rc, .slice sa m.slots.length sc, .slice fa m.refs.length fc, .slice na m.snaps.length nc] 29) := World.alloc_heap_new _ _
  have K_s := h.below hB
  clear h
  go_enter Try.func3, Try.ntmps3
  obtain ⟨s0, s1, s2, s3, s4, s5⟩ := six mb_s
  have hh_mb_s := Hid_mkW mb_s
  have hh_K_s := Hid_mkW K_s
  have hh_hB := Hid_mkW hB
  clear mb_s K_s hB
  go_wp2_with fail
  clear s0 s1 s2 s3 s4 s5
  have mb_s := hh_mb_s.out
  have K_s := hh_K_s.out
  have hB := hh_hB.out
  clear hh_mb_s hh_K_s hh_hB
  refine (sk_read K_s k HE.out.1 HE.out.2).mono ?_
  rintro e w1 ⟨rfl, bb⟩
  replace mb_s := cells_below mb_s bb (Array.getElem?_eq_some_iff.1 mb_s).1
  replace hB := Below.on hB bb
  replace K_s := K_s.below bb
  clear bb
  obtain ⟨s0, s1, s2, s3, s4, s5⟩ := six mb_s
  have hh_mb_s := Hid_mkW mb_s
  have hh_K_s := Hid_mkW K_s
  have hh_hB := Hid_mkW hB
  clear mb_s K_s hB
  go_wp2_with fail
  clear s0 s1 s2 s3 s4 s5
  have mb_s := hh_mb_s.out
  have K_s := hh_K_s.out
  have hB := hh_hB.out
  clear hh_mb_s hh_K_s hh_hB
  refine (sk_write K_s n page HW.out.1 HW.out.2.1 HW.out.2.2).mono ?_
  rintro e w2 ⟨v, rfl, K_x, bb⟩
  obtain ⟨x_b, x_bc, x_r, x_rc, x_s, x_sc, x_f, x_fc, x_n, x_nc, rfl, hs_, hi_⟩ := K_x.parts
  clear hs_ hi_
  try dsimp only
  replace mb_s := cells_below mb_s bb (Array.getElem?_eq_some_iff.1 mb_s).1
  replace hB := Below.on hB bb
  replace K_s := K_s.below bb
  clear bb
  replace mb_s := cells_alloc mb_s (.cells #[.slice x_b BW.length x_bc, .int .i64 MW.guest, .slice x_r MW.root.length x_rc, .slice x_s MW.slots.length x_sc, .slice x_f MW.refs.length x_fc, .slice x_n MW.snaps.length x_nc] 29)
  have ba : Below w2.heap.size w2 (w2.alloc (.cells #[.slice x_b BW.length x_bc, .int .i64 MW.guest, .slice x_r MW.root.length x_rc, .slice x_s MW.slots.length x_sc, .slice x_f MW.refs.length x_fc, .slice x_n MW.snaps.length x_nc] 29)) := (Below.refl _ _).alloc (Nat.le_refl _) _
  replace hB := Below.on hB ba
  replace K_s := K_s.below ba
  replace K_x := K_x.below ba
  clear ba
  have mb_x : (w2.alloc (.cells #[.slice x_b BW.length x_bc, .int .i64 MW.guest, .slice x_r MW.root.length x_rc, .slice x_s MW.slots.length x_sc, .slice x_f MW.refs.length x_fc, .slice x_n MW.snaps.length x_nc] 29)).heap[w2.heap.size]? = some (.cells #[.slice x_b BW.length x_bc, .int .i64 MW.guest, .slice x_r MW.root.length x_rc, .slice x_s MW.slots.length x_sc, .slice x_f MW.refs.length x_fc, .slice x_n MW.snaps.length x_nc] 29) := World.alloc_heap_new _ _
  clear mb_x
  clear K_x
  obtain ⟨s0, s1, s2, s3, s4, s5⟩ := six mb_s
  have hh_mb_s := Hid_mkW mb_s
  have hh_K_s := Hid_mkW K_s
  have hh_hB := Hid_mkW hB
  clear mb_s K_s hB
  go_wp2_with fail
  clear s0 s1 s2 s3 s4 s5
  have mb_s := hh_mb_s.out
  have K_s := hh_K_s.out
  have hB := hh_hB.out
  clear hh_mb_s hh_K_s hh_hB
  refine (sk_commit K_s HC.out.1 HC.out.2.1 HC.out.2.2).mono ?_
  rintro e w3 ⟨v, rfl, K_c, bb⟩
  obtain ⟨c_b, c_bc, c_r, c_rc, c_s, c_sc, c_f, c_fc, c_n, c_nc, rfl, hs_, hi_⟩ := K_c.parts
  clear hs_ hi_
  try dsimp only
  replace mb_s := cells_below mb_s bb (Array.getElem?_eq_some_iff.1 mb_s).1
  replace hB := Below.on hB bb
  replace K_s := K_s.below bb
  clear bb
  replace mb_s := cells_alloc mb_s (.cells #[.slice c_b BC.length c_bc, .int .i64 MC.guest, .slice c_r MC.root.length c_rc, .slice c_s MC.slots.length c_sc, .slice c_f MC.refs.length c_fc, .slice c_n MC.snaps.length c_nc] 29)
  have ba : Below w3.heap.size w3 (w3.alloc (.cells #[.slice c_b BC.length c_bc, .int .i64 MC.guest, .slice c_r MC.root.length c_rc, .slice c_s MC.slots.length c_sc, .slice c_f MC.refs.length c_fc, .slice c_n MC.snaps.length c_nc] 29)) := (Below.refl _ _).alloc (Nat.le_refl _) _
  replace hB := Below.on hB ba
  replace K_s := K_s.below ba
  replace K_c := K_c.below ba
  clear ba
  have mb_c : (w3.alloc (.cells #[.slice c_b BC.length c_bc, .int .i64 MC.guest, .slice c_r MC.root.length c_rc, .slice c_s MC.slots.length c_sc, .slice c_f MC.refs.length c_fc, .slice c_n MC.snaps.length c_nc] 29)).heap[w3.heap.size]? = some (.cells #[.slice c_b BC.length c_bc, .int .i64 MC.guest, .slice c_r MC.root.length c_rc, .slice c_s MC.slots.length c_sc, .slice c_f MC.refs.length c_fc, .slice c_n MC.snaps.length c_nc] 29) := World.alloc_heap_new _ _
  clear mb_s
  clear K_s
  obtain ⟨c0, c1, c2, c3, c4, c5⟩ := six mb_c
  have hh_mb_c := Hid_mkW mb_c
  have hh_K_c := Hid_mkW K_c
  have hh_hB := Hid_mkW hB
  clear mb_c K_c hB
  go_wp2_with fail
  clear c0 c1 c2 c3 c4 c5
  have mb_c := hh_mb_c.out
  have K_c := hh_K_c.out
  have hB := hh_hB.out
  clear hh_mb_c hh_K_c hh_hB
  refine (sk_read K_c k HR.out.1 HR.out.2).mono ?_
  rintro e w4 ⟨rfl, bb⟩
  replace mb_c := cells_below mb_c bb (Array.getElem?_eq_some_iff.1 mb_c).1
  replace hB := Below.on hB bb
  replace K_c := K_c.below bb
  clear bb
  obtain ⟨c0, c1, c2, c3, c4, c5⟩ := six mb_c
  have hh_mb_c := Hid_mkW mb_c
  have hh_K_c := Hid_mkW K_c
  have hh_hB := Hid_mkW hB
  clear mb_c K_c hB
  go_wp2_with fail
  clear c0 c1 c2 c3 c4 c5
  have mb_c := hh_mb_c.out
  have K_c := hh_K_c.out
  have hB := hh_hB.out
  clear hh_mb_c hh_K_c hh_hB
  refine (sk_commit K_c HR2.out.1 HR2.out.2.1 HR2.out.2.2).mono ?_
  rintro e w5 ⟨v, rfl, K_d, bb⟩
  obtain ⟨d_b, d_bc, d_r, d_rc, d_s, d_sc, d_f, d_fc, d_n, d_nc, rfl, hs_, hi_⟩ := K_d.parts
  clear hs_ hi_
  try dsimp only
  replace mb_c := cells_below mb_c bb (Array.getElem?_eq_some_iff.1 mb_c).1
  replace hB := Below.on hB bb
  replace K_c := K_c.below bb
  clear bb
  replace mb_c := cells_alloc mb_c (.cells #[.slice d_b BC.length d_bc, .int .i64 MC.guest, .slice d_r MC.root.length d_rc, .slice d_s MC.slots.length d_sc, .slice d_f MC.refs.length d_fc, .slice d_n MC.snaps.length d_nc] 29)
  have ba : Below w5.heap.size w5 (w5.alloc (.cells #[.slice d_b BC.length d_bc, .int .i64 MC.guest, .slice d_r MC.root.length d_rc, .slice d_s MC.slots.length d_sc, .slice d_f MC.refs.length d_fc, .slice d_n MC.snaps.length d_nc] 29)) := (Below.refl _ _).alloc (Nat.le_refl _) _
  replace hB := Below.on hB ba
  replace K_c := K_c.below ba
  replace K_d := K_d.below ba
  clear ba
  have mb_d : (w5.alloc (.cells #[.slice d_b BC.length d_bc, .int .i64 MC.guest, .slice d_r MC.root.length d_rc, .slice d_s MC.slots.length d_sc, .slice d_f MC.refs.length d_fc, .slice d_n MC.snaps.length d_nc] 29)).heap[w5.heap.size]? = some (.cells #[.slice d_b BC.length d_bc, .int .i64 MC.guest, .slice d_r MC.root.length d_rc, .slice d_s MC.slots.length d_sc, .slice d_f MC.refs.length d_fc, .slice d_n MC.snaps.length d_nc] 29) := World.alloc_heap_new _ _
  have hh_mb_c := Hid_mkW mb_c
  have hh_mb_d := Hid_mkW mb_d
  have hh_K_c := Hid_mkW K_c
  have hh_K_d := Hid_mkW K_d
  have hh_hB := Hid_mkW hB
  clear mb_c mb_d K_c K_d hB
  go_wp2_with fail
  have mb_c := hh_mb_c.out
  have mb_d := hh_mb_d.out
  have K_c := hh_K_c.out
  have K_d := hh_K_d.out
  have hB := hh_hB.out
  clear hh_mb_c hh_mb_d hh_K_c hh_K_d hh_hB
  refine (stackBegun_any _).mono ?_
  rintro e w6 ⟨rfl, bb⟩
  replace mb_c := cells_below mb_c bb (Array.getElem?_eq_some_iff.1 mb_c).1
  replace mb_d := cells_below mb_d bb (Array.getElem?_eq_some_iff.1 mb_d).1
  replace hB := Below.on hB bb
  replace K_c := K_c.below bb
  replace K_d := K_d.below bb
  clear bb
  obtain ⟨c0, c1, c2, c3, c4, c5⟩ := six mb_c
  have hh_mb_c := Hid_mkW mb_c
  have hh_mb_d := Hid_mkW mb_d
  have hh_K_c := Hid_mkW K_c
  have hh_K_d := Hid_mkW K_d
  have hh_hB := Hid_mkW hB
  clear mb_c mb_d K_c K_d hB
  go_wp2_with fail
  clear c0 c1 c2 c3 c4 c5
  have mb_c := hh_mb_c.out
  have mb_d := hh_mb_d.out
  have K_c := hh_K_c.out
  have K_d := hh_K_d.out
  have hB := hh_hB.out
  clear hh_mb_c hh_mb_d hh_K_c hh_K_d hh_hB
  refine (sk_check K_c HCk.out).mono ?_
  rintro e w7 ⟨rfl, bb⟩
  replace mb_c := cells_below mb_c bb (Array.getElem?_eq_some_iff.1 mb_c).1
  replace mb_d := cells_below mb_d bb (Array.getElem?_eq_some_iff.1 mb_d).1
  replace hB := Below.on hB bb
  replace K_c := K_c.below bb
  replace K_d := K_d.below bb
  clear bb
  obtain ⟨c0, c1, c2, c3, c4, c5⟩ := six mb_c
  obtain ⟨d0, d1, d2, d3, d4, d5⟩ := six mb_d
  have hh_mb_c := Hid_mkW mb_c
  have hh_mb_d := Hid_mkW mb_d
  have hh_K_c := Hid_mkW K_c
  have hh_K_d := Hid_mkW K_d
  have hh_hB := Hid_mkW hB
  clear mb_c mb_d K_c K_d hB
  go_wp2_with fail
  clear c0 c1 c2 c3 c4 c5 d0 d1 d2 d3 d4 d5
  have mb_c := hh_mb_c.out
  have mb_d := hh_mb_d.out
  have K_c := hh_K_c.out
  have K_d := hh_K_d.out
  have hB := hh_hB.out
  clear hh_mb_c hh_mb_d hh_K_c hh_K_d hh_hB
  refine (sameStk_is K_c K_d).mono ?_
  rintro e w8 ⟨rfl, bb⟩
  replace mb_c := cells_below mb_c bb (Array.getElem?_eq_some_iff.1 mb_c).1
  replace mb_d := cells_below mb_d bb (Array.getElem?_eq_some_iff.1 mb_d).1
  replace hB := Below.on hB bb
  replace K_c := K_c.below bb
  replace K_d := K_d.below bb
  clear bb
  have hh_mb_c := Hid_mkW mb_c
  have hh_mb_d := Hid_mkW mb_d
  have hh_K_c := Hid_mkW K_c
  have hh_K_d := Hid_mkW K_d
  have hh_hB := Hid_mkW hB
  clear mb_c mb_d K_c K_d hB
  go_wp2_with fail
  go_ret
  have hB := hh_hB.out
  exact ⟨rfl, hB⟩

set_option maxHeartbeats 16000000 in
theorem st_eq1 (ba : Option Addr) (bc : Nat) (ra : Option Addr) (rc : Nat) (sa : Option Addr) (sc : Nat) (fa : Option Addr) (fc : Nat) (na : Option Addr) (nc : Nat) (b : List ByteArray) (m : ImgD) (n : Int) (page : ByteArray) (k : Int) (w : World) (h : Stk w (.agg #[.slice ba b.length bc, .int .i64 m.guest, .slice ra m.root.length rc, .slice sa m.slots.length sc, .slice fa m.refs.length fc, .slice na m.snaps.length nc]) b m) (E : Int) (P : ByteArray) (HE : Hid (srE b m k = E ∧ srV b m k = P)) (MW : ImgD) (HW : Hid (skE b m n page = 0 ∧ skM b m n page = MW ∧ skB b m n page = b)) (Q : ByteArray) (HX : Hid (srE b MW n = 0 ∧ srV b MW n = page ∧ srE b MW k = E ∧ srV b MW k = Q)) (hkn : (k != n) = false) (BC : List ByteArray) (MC : ImgD) (HC : Hid (ccE b m = 0 ∧ (if ccE b m = 0 then pgs b m else []) = BC ∧ (if ccE b m = 0 then freshD m.guest.toNat else imgZ) = MC)) (HR : Hid (srE BC MC k = E ∧ srV BC MC k = P)) (HR2 : Hid (ccE BC MC = 0 ∧ (if ccE BC MC = 0 then pgs BC MC else []) = BC ∧ (if ccE BC MC = 0 then freshD MC.guest.toNat else imgZ) = MC)) (HCk : Hid (scE BC MC = 0)) :
    Calls Try.prog 3 #[.agg #[.slice ba b.length bc, .int .i64 m.guest, .slice ra m.root.length rc, .slice sa m.slots.length sc, .slice fa m.refs.length fc, .slice na m.snaps.length nc], .int .i64 n, .string page, .int .i64 k] w fun r w' => r = .returned (.bool true) ∧ Below w.heap.size w w' := by
  have hB : Below w.heap.size w (w.alloc (.cells #[.slice ba b.length bc, .int .i64 m.guest, .slice ra m.root.length rc, .slice sa m.slots.length sc, .slice fa m.refs.length fc, .slice na m.snaps.length nc] 29)) := (Below.refl _ _).alloc (Nat.le_refl _) _
  have mb_s : (w.alloc (.cells #[.slice ba b.length bc, .int .i64 m.guest, .slice ra m.root.length rc, .slice sa m.slots.length sc, .slice fa m.refs.length fc, .slice na m.snaps.length nc] 29)).heap[w.heap.size]? = some (.cells #[.slice ba b.length bc, .int .i64 m.guest, .slice ra m.root.length rc, .slice sa m.slots.length sc, .slice fa m.refs.length fc, .slice na m.snaps.length nc] 29) := World.alloc_heap_new _ _
  have K_s := h.below hB
  clear h
  go_enter Try.func3, Try.ntmps3
  obtain ⟨s0, s1, s2, s3, s4, s5⟩ := six mb_s
  have hh_mb_s := Hid_mkW mb_s
  have hh_K_s := Hid_mkW K_s
  have hh_hB := Hid_mkW hB
  clear mb_s K_s hB
  go_wp2_with fail
  clear s0 s1 s2 s3 s4 s5
  have mb_s := hh_mb_s.out
  have K_s := hh_K_s.out
  have hB := hh_hB.out
  clear hh_mb_s hh_K_s hh_hB
  refine (sk_read K_s k HE.out.1 HE.out.2).mono ?_
  rintro e w1 ⟨rfl, bb⟩
  replace mb_s := cells_below mb_s bb (Array.getElem?_eq_some_iff.1 mb_s).1
  replace hB := Below.on hB bb
  replace K_s := K_s.below bb
  clear bb
  obtain ⟨s0, s1, s2, s3, s4, s5⟩ := six mb_s
  have hh_mb_s := Hid_mkW mb_s
  have hh_K_s := Hid_mkW K_s
  have hh_hB := Hid_mkW hB
  clear mb_s K_s hB
  go_wp2_with fail
  clear s0 s1 s2 s3 s4 s5
  have mb_s := hh_mb_s.out
  have K_s := hh_K_s.out
  have hB := hh_hB.out
  clear hh_mb_s hh_K_s hh_hB
  refine (sk_write K_s n page HW.out.1 HW.out.2.1 HW.out.2.2).mono ?_
  rintro e w2 ⟨v, rfl, K_x, bb⟩
  obtain ⟨x_b, x_bc, x_r, x_rc, x_s, x_sc, x_f, x_fc, x_n, x_nc, rfl, hs_, hi_⟩ := K_x.parts
  clear hs_ hi_
  try dsimp only
  replace mb_s := cells_below mb_s bb (Array.getElem?_eq_some_iff.1 mb_s).1
  replace hB := Below.on hB bb
  replace K_s := K_s.below bb
  clear bb
  replace mb_s := cells_alloc mb_s (.cells #[.slice x_b b.length x_bc, .int .i64 MW.guest, .slice x_r MW.root.length x_rc, .slice x_s MW.slots.length x_sc, .slice x_f MW.refs.length x_fc, .slice x_n MW.snaps.length x_nc] 29)
  have ba : Below w2.heap.size w2 (w2.alloc (.cells #[.slice x_b b.length x_bc, .int .i64 MW.guest, .slice x_r MW.root.length x_rc, .slice x_s MW.slots.length x_sc, .slice x_f MW.refs.length x_fc, .slice x_n MW.snaps.length x_nc] 29)) := (Below.refl _ _).alloc (Nat.le_refl _) _
  replace hB := Below.on hB ba
  replace K_s := K_s.below ba
  replace K_x := K_x.below ba
  clear ba
  have mb_x : (w2.alloc (.cells #[.slice x_b b.length x_bc, .int .i64 MW.guest, .slice x_r MW.root.length x_rc, .slice x_s MW.slots.length x_sc, .slice x_f MW.refs.length x_fc, .slice x_n MW.snaps.length x_nc] 29)).heap[w2.heap.size]? = some (.cells #[.slice x_b b.length x_bc, .int .i64 MW.guest, .slice x_r MW.root.length x_rc, .slice x_s MW.slots.length x_sc, .slice x_f MW.refs.length x_fc, .slice x_n MW.snaps.length x_nc] 29) := World.alloc_heap_new _ _
  obtain ⟨x0, x1, x2, x3, x4, x5⟩ := six mb_x
  have hh_mb_s := Hid_mkW mb_s
  have hh_mb_x := Hid_mkW mb_x
  have hh_K_s := Hid_mkW K_s
  have hh_K_x := Hid_mkW K_x
  have hh_hB := Hid_mkW hB
  clear mb_s mb_x K_s K_x hB
  go_wp2_with fail
  clear x0 x1 x2 x3 x4 x5
  have mb_s := hh_mb_s.out
  have mb_x := hh_mb_x.out
  have K_s := hh_K_s.out
  have K_x := hh_K_x.out
  have hB := hh_hB.out
  clear hh_mb_s hh_mb_x hh_K_s hh_K_x hh_hB
  refine (sk_read K_x n HX.out.1 HX.out.2.1).mono ?_
  rintro e w3 ⟨rfl, bb⟩
  replace mb_s := cells_below mb_s bb (Array.getElem?_eq_some_iff.1 mb_s).1
  replace mb_x := cells_below mb_x bb (Array.getElem?_eq_some_iff.1 mb_x).1
  replace hB := Below.on hB bb
  replace K_s := K_s.below bb
  replace K_x := K_x.below bb
  clear bb
  obtain ⟨x0, x1, x2, x3, x4, x5⟩ := six mb_x
  have hh_mb_s := Hid_mkW mb_s
  have hh_mb_x := Hid_mkW mb_x
  have hh_K_s := Hid_mkW K_s
  have hh_K_x := Hid_mkW K_x
  have hh_hB := Hid_mkW hB
  clear mb_s mb_x K_s K_x hB
  go_wp2_with fail
  clear x0 x1 x2 x3 x4 x5
  have mb_s := hh_mb_s.out
  have mb_x := hh_mb_x.out
  have K_s := hh_K_s.out
  have K_x := hh_K_x.out
  have hB := hh_hB.out
  clear hh_mb_s hh_mb_x hh_K_s hh_K_x hh_hB
  refine (sk_read K_x k HX.out.2.2.1 HX.out.2.2.2).mono ?_
  rintro e w4 ⟨rfl, bb⟩
  replace mb_s := cells_below mb_s bb (Array.getElem?_eq_some_iff.1 mb_s).1
  replace mb_x := cells_below mb_x bb (Array.getElem?_eq_some_iff.1 mb_x).1
  replace hB := Below.on hB bb
  replace K_s := K_s.below bb
  replace K_x := K_x.below bb
  clear bb
  obtain ⟨x0, x1, x2, x3, x4, x5⟩ := six mb_x
  obtain ⟨s0, s1, s2, s3, s4, s5⟩ := six mb_s
  have hh_mb_s := Hid_mkW mb_s
  have hh_mb_x := Hid_mkW mb_x
  have hh_K_s := Hid_mkW K_s
  have hh_K_x := Hid_mkW K_x
  have hh_hB := Hid_mkW hB
  clear mb_s mb_x K_s K_x hB
  go_wp2_with fail
  clear x0 x1 x2 x3 x4 x5 s0 s1 s2 s3 s4 s5
  have mb_s := hh_mb_s.out
  have mb_x := hh_mb_x.out
  have K_s := hh_K_s.out
  have K_x := hh_K_x.out
  have hB := hh_hB.out
  clear hh_mb_s hh_mb_x hh_K_s hh_K_x hh_hB
  refine (samePages_any K_x.base K_s.base).mono ?_
  rintro e w5 ⟨rfl, bb⟩
  replace mb_s := cells_below mb_s bb (Array.getElem?_eq_some_iff.1 mb_s).1
  replace mb_x := cells_below mb_x bb (Array.getElem?_eq_some_iff.1 mb_x).1
  replace hB := Below.on hB bb
  replace K_s := K_s.below bb
  replace K_x := K_x.below bb
  clear bb
  clear mb_x
  clear K_x
  obtain ⟨s0, s1, s2, s3, s4, s5⟩ := six mb_s
  have hh_mb_s := Hid_mkW mb_s
  have hh_K_s := Hid_mkW K_s
  have hh_hB := Hid_mkW hB
  clear mb_s K_s hB
  go_wp2_with fail
  clear s0 s1 s2 s3 s4 s5
  have mb_s := hh_mb_s.out
  have K_s := hh_K_s.out
  have hB := hh_hB.out
  clear hh_mb_s hh_K_s hh_hB
  refine (sk_commit K_s HC.out.1 HC.out.2.1 HC.out.2.2).mono ?_
  rintro e w6 ⟨v, rfl, K_c, bb⟩
  obtain ⟨c_b, c_bc, c_r, c_rc, c_s, c_sc, c_f, c_fc, c_n, c_nc, rfl, hs_, hi_⟩ := K_c.parts
  clear hs_ hi_
  try dsimp only
  replace mb_s := cells_below mb_s bb (Array.getElem?_eq_some_iff.1 mb_s).1
  replace hB := Below.on hB bb
  replace K_s := K_s.below bb
  clear bb
  replace mb_s := cells_alloc mb_s (.cells #[.slice c_b BC.length c_bc, .int .i64 MC.guest, .slice c_r MC.root.length c_rc, .slice c_s MC.slots.length c_sc, .slice c_f MC.refs.length c_fc, .slice c_n MC.snaps.length c_nc] 29)
  have ba : Below w6.heap.size w6 (w6.alloc (.cells #[.slice c_b BC.length c_bc, .int .i64 MC.guest, .slice c_r MC.root.length c_rc, .slice c_s MC.slots.length c_sc, .slice c_f MC.refs.length c_fc, .slice c_n MC.snaps.length c_nc] 29)) := (Below.refl _ _).alloc (Nat.le_refl _) _
  replace hB := Below.on hB ba
  replace K_s := K_s.below ba
  replace K_c := K_c.below ba
  clear ba
  have mb_c : (w6.alloc (.cells #[.slice c_b BC.length c_bc, .int .i64 MC.guest, .slice c_r MC.root.length c_rc, .slice c_s MC.slots.length c_sc, .slice c_f MC.refs.length c_fc, .slice c_n MC.snaps.length c_nc] 29)).heap[w6.heap.size]? = some (.cells #[.slice c_b BC.length c_bc, .int .i64 MC.guest, .slice c_r MC.root.length c_rc, .slice c_s MC.slots.length c_sc, .slice c_f MC.refs.length c_fc, .slice c_n MC.snaps.length c_nc] 29) := World.alloc_heap_new _ _
  clear mb_s
  clear K_s
  obtain ⟨c0, c1, c2, c3, c4, c5⟩ := six mb_c
  have hh_mb_c := Hid_mkW mb_c
  have hh_K_c := Hid_mkW K_c
  have hh_hB := Hid_mkW hB
  clear mb_c K_c hB
  go_wp2_with fail
  clear c0 c1 c2 c3 c4 c5
  have mb_c := hh_mb_c.out
  have K_c := hh_K_c.out
  have hB := hh_hB.out
  clear hh_mb_c hh_K_c hh_hB
  refine (sk_read K_c k HR.out.1 HR.out.2).mono ?_
  rintro e w7 ⟨rfl, bb⟩
  replace mb_c := cells_below mb_c bb (Array.getElem?_eq_some_iff.1 mb_c).1
  replace hB := Below.on hB bb
  replace K_c := K_c.below bb
  clear bb
  obtain ⟨c0, c1, c2, c3, c4, c5⟩ := six mb_c
  have hh_mb_c := Hid_mkW mb_c
  have hh_K_c := Hid_mkW K_c
  have hh_hB := Hid_mkW hB
  clear mb_c K_c hB
  go_wp2_with fail
  clear c0 c1 c2 c3 c4 c5
  have mb_c := hh_mb_c.out
  have K_c := hh_K_c.out
  have hB := hh_hB.out
  clear hh_mb_c hh_K_c hh_hB
  refine (sk_commit K_c HR2.out.1 HR2.out.2.1 HR2.out.2.2).mono ?_
  rintro e w8 ⟨v, rfl, K_d, bb⟩
  obtain ⟨d_b, d_bc, d_r, d_rc, d_s, d_sc, d_f, d_fc, d_n, d_nc, rfl, hs_, hi_⟩ := K_d.parts
  clear hs_ hi_
  try dsimp only
  replace mb_c := cells_below mb_c bb (Array.getElem?_eq_some_iff.1 mb_c).1
  replace hB := Below.on hB bb
  replace K_c := K_c.below bb
  clear bb
  replace mb_c := cells_alloc mb_c (.cells #[.slice d_b BC.length d_bc, .int .i64 MC.guest, .slice d_r MC.root.length d_rc, .slice d_s MC.slots.length d_sc, .slice d_f MC.refs.length d_fc, .slice d_n MC.snaps.length d_nc] 29)
  have ba : Below w8.heap.size w8 (w8.alloc (.cells #[.slice d_b BC.length d_bc, .int .i64 MC.guest, .slice d_r MC.root.length d_rc, .slice d_s MC.slots.length d_sc, .slice d_f MC.refs.length d_fc, .slice d_n MC.snaps.length d_nc] 29)) := (Below.refl _ _).alloc (Nat.le_refl _) _
  replace hB := Below.on hB ba
  replace K_c := K_c.below ba
  replace K_d := K_d.below ba
  clear ba
  have mb_d : (w8.alloc (.cells #[.slice d_b BC.length d_bc, .int .i64 MC.guest, .slice d_r MC.root.length d_rc, .slice d_s MC.slots.length d_sc, .slice d_f MC.refs.length d_fc, .slice d_n MC.snaps.length d_nc] 29)).heap[w8.heap.size]? = some (.cells #[.slice d_b BC.length d_bc, .int .i64 MC.guest, .slice d_r MC.root.length d_rc, .slice d_s MC.slots.length d_sc, .slice d_f MC.refs.length d_fc, .slice d_n MC.snaps.length d_nc] 29) := World.alloc_heap_new _ _
  have hh_mb_c := Hid_mkW mb_c
  have hh_mb_d := Hid_mkW mb_d
  have hh_K_c := Hid_mkW K_c
  have hh_K_d := Hid_mkW K_d
  have hh_hB := Hid_mkW hB
  clear mb_c mb_d K_c K_d hB
  go_wp2_with fail
  have mb_c := hh_mb_c.out
  have mb_d := hh_mb_d.out
  have K_c := hh_K_c.out
  have K_d := hh_K_d.out
  have hB := hh_hB.out
  clear hh_mb_c hh_mb_d hh_K_c hh_K_d hh_hB
  refine (stackBegun_any _).mono ?_
  rintro e w9 ⟨rfl, bb⟩
  replace mb_c := cells_below mb_c bb (Array.getElem?_eq_some_iff.1 mb_c).1
  replace mb_d := cells_below mb_d bb (Array.getElem?_eq_some_iff.1 mb_d).1
  replace hB := Below.on hB bb
  replace K_c := K_c.below bb
  replace K_d := K_d.below bb
  clear bb
  obtain ⟨c0, c1, c2, c3, c4, c5⟩ := six mb_c
  have hh_mb_c := Hid_mkW mb_c
  have hh_mb_d := Hid_mkW mb_d
  have hh_K_c := Hid_mkW K_c
  have hh_K_d := Hid_mkW K_d
  have hh_hB := Hid_mkW hB
  clear mb_c mb_d K_c K_d hB
  go_wp2_with fail
  clear c0 c1 c2 c3 c4 c5
  have mb_c := hh_mb_c.out
  have mb_d := hh_mb_d.out
  have K_c := hh_K_c.out
  have K_d := hh_K_d.out
  have hB := hh_hB.out
  clear hh_mb_c hh_mb_d hh_K_c hh_K_d hh_hB
  refine (sk_check K_c HCk.out).mono ?_
  rintro e w10 ⟨rfl, bb⟩
  replace mb_c := cells_below mb_c bb (Array.getElem?_eq_some_iff.1 mb_c).1
  replace mb_d := cells_below mb_d bb (Array.getElem?_eq_some_iff.1 mb_d).1
  replace hB := Below.on hB bb
  replace K_c := K_c.below bb
  replace K_d := K_d.below bb
  clear bb
  obtain ⟨c0, c1, c2, c3, c4, c5⟩ := six mb_c
  obtain ⟨d0, d1, d2, d3, d4, d5⟩ := six mb_d
  have hh_mb_c := Hid_mkW mb_c
  have hh_mb_d := Hid_mkW mb_d
  have hh_K_c := Hid_mkW K_c
  have hh_K_d := Hid_mkW K_d
  have hh_hB := Hid_mkW hB
  clear mb_c mb_d K_c K_d hB
  go_wp2_with fail
  clear c0 c1 c2 c3 c4 c5 d0 d1 d2 d3 d4 d5
  have mb_c := hh_mb_c.out
  have mb_d := hh_mb_d.out
  have K_c := hh_K_c.out
  have K_d := hh_K_d.out
  have hB := hh_hB.out
  clear hh_mb_c hh_mb_d hh_K_c hh_K_d hh_hB
  refine (sameStk_is K_c K_d).mono ?_
  rintro e w11 ⟨rfl, bb⟩
  replace mb_c := cells_below mb_c bb (Array.getElem?_eq_some_iff.1 mb_c).1
  replace mb_d := cells_below mb_d bb (Array.getElem?_eq_some_iff.1 mb_d).1
  replace hB := Below.on hB bb
  replace K_c := K_c.below bb
  replace K_d := K_d.below bb
  clear bb
  have hh_mb_c := Hid_mkW mb_c
  have hh_mb_d := Hid_mkW mb_d
  have hh_K_c := Hid_mkW K_c
  have hh_K_d := Hid_mkW K_d
  have hh_hB := Hid_mkW hB
  clear mb_c mb_d K_c K_d hB
  go_wp2_with fail
  go_ret
  have hB := hh_hB.out
  exact ⟨rfl, hB⟩

set_option maxHeartbeats 16000000 in
theorem st_ne1 (ba : Option Addr) (bc : Nat) (ra : Option Addr) (rc : Nat) (sa : Option Addr) (sc : Nat) (fa : Option Addr) (fc : Nat) (na : Option Addr) (nc : Nat) (b : List ByteArray) (m : ImgD) (n : Int) (page : ByteArray) (k : Int) (w : World) (h : Stk w (.agg #[.slice ba b.length bc, .int .i64 m.guest, .slice ra m.root.length rc, .slice sa m.slots.length sc, .slice fa m.refs.length fc, .slice na m.snaps.length nc]) b m) (E : Int) (P : ByteArray) (HE : Hid (srE b m k = E ∧ srV b m k = P)) (MW : ImgD) (HW : Hid (skE b m n page = 0 ∧ skM b m n page = MW ∧ skB b m n page = b)) (HX : Hid (srE b MW n = 0 ∧ srV b MW n = page ∧ srE b MW k = E ∧ srV b MW k = P)) (hkn : (k != n) = true) (BC : List ByteArray) (MC : ImgD) (HC : Hid (ccE b m = 0 ∧ (if ccE b m = 0 then pgs b m else []) = BC ∧ (if ccE b m = 0 then freshD m.guest.toNat else imgZ) = MC)) (HR : Hid (srE BC MC k = E ∧ srV BC MC k = P)) (HR2 : Hid (ccE BC MC = 0 ∧ (if ccE BC MC = 0 then pgs BC MC else []) = BC ∧ (if ccE BC MC = 0 then freshD MC.guest.toNat else imgZ) = MC)) (HCk : Hid (scE BC MC = 0)) :
    Calls Try.prog 3 #[.agg #[.slice ba b.length bc, .int .i64 m.guest, .slice ra m.root.length rc, .slice sa m.slots.length sc, .slice fa m.refs.length fc, .slice na m.snaps.length nc], .int .i64 n, .string page, .int .i64 k] w fun r w' => r = .returned (.bool true) ∧ Below w.heap.size w w' := by
  have hB : Below w.heap.size w (w.alloc (.cells #[.slice ba b.length bc, .int .i64 m.guest, .slice ra m.root.length rc, .slice sa m.slots.length sc, .slice fa m.refs.length fc, .slice na m.snaps.length nc] 29)) := (Below.refl _ _).alloc (Nat.le_refl _) _
  have mb_s : (w.alloc (.cells #[.slice ba b.length bc, .int .i64 m.guest, .slice ra m.root.length rc, .slice sa m.slots.length sc, .slice fa m.refs.length fc, .slice na m.snaps.length nc] 29)).heap[w.heap.size]? = some (.cells #[.slice ba b.length bc, .int .i64 m.guest, .slice ra m.root.length rc, .slice sa m.slots.length sc, .slice fa m.refs.length fc, .slice na m.snaps.length nc] 29) := World.alloc_heap_new _ _
  have K_s := h.below hB
  clear h
  go_enter Try.func3, Try.ntmps3
  obtain ⟨s0, s1, s2, s3, s4, s5⟩ := six mb_s
  have hh_mb_s := Hid_mkW mb_s
  have hh_K_s := Hid_mkW K_s
  have hh_hB := Hid_mkW hB
  clear mb_s K_s hB
  go_wp2_with fail
  clear s0 s1 s2 s3 s4 s5
  have mb_s := hh_mb_s.out
  have K_s := hh_K_s.out
  have hB := hh_hB.out
  clear hh_mb_s hh_K_s hh_hB
  refine (sk_read K_s k HE.out.1 HE.out.2).mono ?_
  rintro e w1 ⟨rfl, bb⟩
  replace mb_s := cells_below mb_s bb (Array.getElem?_eq_some_iff.1 mb_s).1
  replace hB := Below.on hB bb
  replace K_s := K_s.below bb
  clear bb
  obtain ⟨s0, s1, s2, s3, s4, s5⟩ := six mb_s
  have hh_mb_s := Hid_mkW mb_s
  have hh_K_s := Hid_mkW K_s
  have hh_hB := Hid_mkW hB
  clear mb_s K_s hB
  go_wp2_with fail
  clear s0 s1 s2 s3 s4 s5
  have mb_s := hh_mb_s.out
  have K_s := hh_K_s.out
  have hB := hh_hB.out
  clear hh_mb_s hh_K_s hh_hB
  refine (sk_write K_s n page HW.out.1 HW.out.2.1 HW.out.2.2).mono ?_
  rintro e w2 ⟨v, rfl, K_x, bb⟩
  obtain ⟨x_b, x_bc, x_r, x_rc, x_s, x_sc, x_f, x_fc, x_n, x_nc, rfl, hs_, hi_⟩ := K_x.parts
  clear hs_ hi_
  try dsimp only
  replace mb_s := cells_below mb_s bb (Array.getElem?_eq_some_iff.1 mb_s).1
  replace hB := Below.on hB bb
  replace K_s := K_s.below bb
  clear bb
  replace mb_s := cells_alloc mb_s (.cells #[.slice x_b b.length x_bc, .int .i64 MW.guest, .slice x_r MW.root.length x_rc, .slice x_s MW.slots.length x_sc, .slice x_f MW.refs.length x_fc, .slice x_n MW.snaps.length x_nc] 29)
  have ba : Below w2.heap.size w2 (w2.alloc (.cells #[.slice x_b b.length x_bc, .int .i64 MW.guest, .slice x_r MW.root.length x_rc, .slice x_s MW.slots.length x_sc, .slice x_f MW.refs.length x_fc, .slice x_n MW.snaps.length x_nc] 29)) := (Below.refl _ _).alloc (Nat.le_refl _) _
  replace hB := Below.on hB ba
  replace K_s := K_s.below ba
  replace K_x := K_x.below ba
  clear ba
  have mb_x : (w2.alloc (.cells #[.slice x_b b.length x_bc, .int .i64 MW.guest, .slice x_r MW.root.length x_rc, .slice x_s MW.slots.length x_sc, .slice x_f MW.refs.length x_fc, .slice x_n MW.snaps.length x_nc] 29)).heap[w2.heap.size]? = some (.cells #[.slice x_b b.length x_bc, .int .i64 MW.guest, .slice x_r MW.root.length x_rc, .slice x_s MW.slots.length x_sc, .slice x_f MW.refs.length x_fc, .slice x_n MW.snaps.length x_nc] 29) := World.alloc_heap_new _ _
  obtain ⟨x0, x1, x2, x3, x4, x5⟩ := six mb_x
  have hh_mb_s := Hid_mkW mb_s
  have hh_mb_x := Hid_mkW mb_x
  have hh_K_s := Hid_mkW K_s
  have hh_K_x := Hid_mkW K_x
  have hh_hB := Hid_mkW hB
  clear mb_s mb_x K_s K_x hB
  go_wp2_with fail
  clear x0 x1 x2 x3 x4 x5
  have mb_s := hh_mb_s.out
  have mb_x := hh_mb_x.out
  have K_s := hh_K_s.out
  have K_x := hh_K_x.out
  have hB := hh_hB.out
  clear hh_mb_s hh_mb_x hh_K_s hh_K_x hh_hB
  refine (sk_read K_x n HX.out.1 HX.out.2.1).mono ?_
  rintro e w3 ⟨rfl, bb⟩
  replace mb_s := cells_below mb_s bb (Array.getElem?_eq_some_iff.1 mb_s).1
  replace mb_x := cells_below mb_x bb (Array.getElem?_eq_some_iff.1 mb_x).1
  replace hB := Below.on hB bb
  replace K_s := K_s.below bb
  replace K_x := K_x.below bb
  clear bb
  obtain ⟨x0, x1, x2, x3, x4, x5⟩ := six mb_x
  have hh_mb_s := Hid_mkW mb_s
  have hh_mb_x := Hid_mkW mb_x
  have hh_K_s := Hid_mkW K_s
  have hh_K_x := Hid_mkW K_x
  have hh_hB := Hid_mkW hB
  clear mb_s mb_x K_s K_x hB
  go_wp2_with fail
  clear x0 x1 x2 x3 x4 x5
  have mb_s := hh_mb_s.out
  have mb_x := hh_mb_x.out
  have K_s := hh_K_s.out
  have K_x := hh_K_x.out
  have hB := hh_hB.out
  clear hh_mb_s hh_mb_x hh_K_s hh_K_x hh_hB
  refine (sk_read K_x k HX.out.2.2.1 HX.out.2.2.2).mono ?_
  rintro e w4 ⟨rfl, bb⟩
  replace mb_s := cells_below mb_s bb (Array.getElem?_eq_some_iff.1 mb_s).1
  replace mb_x := cells_below mb_x bb (Array.getElem?_eq_some_iff.1 mb_x).1
  replace hB := Below.on hB bb
  replace K_s := K_s.below bb
  replace K_x := K_x.below bb
  clear bb
  obtain ⟨x0, x1, x2, x3, x4, x5⟩ := six mb_x
  obtain ⟨s0, s1, s2, s3, s4, s5⟩ := six mb_s
  have hh_mb_s := Hid_mkW mb_s
  have hh_mb_x := Hid_mkW mb_x
  have hh_K_s := Hid_mkW K_s
  have hh_K_x := Hid_mkW K_x
  have hh_hB := Hid_mkW hB
  clear mb_s mb_x K_s K_x hB
  go_wp2_with fail
  clear x0 x1 x2 x3 x4 x5 s0 s1 s2 s3 s4 s5
  have mb_s := hh_mb_s.out
  have mb_x := hh_mb_x.out
  have K_s := hh_K_s.out
  have K_x := hh_K_x.out
  have hB := hh_hB.out
  clear hh_mb_s hh_mb_x hh_K_s hh_K_x hh_hB
  refine (samePages_any K_x.base K_s.base).mono ?_
  rintro e w5 ⟨rfl, bb⟩
  replace mb_s := cells_below mb_s bb (Array.getElem?_eq_some_iff.1 mb_s).1
  replace mb_x := cells_below mb_x bb (Array.getElem?_eq_some_iff.1 mb_x).1
  replace hB := Below.on hB bb
  replace K_s := K_s.below bb
  replace K_x := K_x.below bb
  clear bb
  clear mb_x
  clear K_x
  obtain ⟨s0, s1, s2, s3, s4, s5⟩ := six mb_s
  have hh_mb_s := Hid_mkW mb_s
  have hh_K_s := Hid_mkW K_s
  have hh_hB := Hid_mkW hB
  clear mb_s K_s hB
  go_wp2_with fail
  clear s0 s1 s2 s3 s4 s5
  have mb_s := hh_mb_s.out
  have K_s := hh_K_s.out
  have hB := hh_hB.out
  clear hh_mb_s hh_K_s hh_hB
  refine (sk_commit K_s HC.out.1 HC.out.2.1 HC.out.2.2).mono ?_
  rintro e w6 ⟨v, rfl, K_c, bb⟩
  obtain ⟨c_b, c_bc, c_r, c_rc, c_s, c_sc, c_f, c_fc, c_n, c_nc, rfl, hs_, hi_⟩ := K_c.parts
  clear hs_ hi_
  try dsimp only
  replace mb_s := cells_below mb_s bb (Array.getElem?_eq_some_iff.1 mb_s).1
  replace hB := Below.on hB bb
  replace K_s := K_s.below bb
  clear bb
  replace mb_s := cells_alloc mb_s (.cells #[.slice c_b BC.length c_bc, .int .i64 MC.guest, .slice c_r MC.root.length c_rc, .slice c_s MC.slots.length c_sc, .slice c_f MC.refs.length c_fc, .slice c_n MC.snaps.length c_nc] 29)
  have ba : Below w6.heap.size w6 (w6.alloc (.cells #[.slice c_b BC.length c_bc, .int .i64 MC.guest, .slice c_r MC.root.length c_rc, .slice c_s MC.slots.length c_sc, .slice c_f MC.refs.length c_fc, .slice c_n MC.snaps.length c_nc] 29)) := (Below.refl _ _).alloc (Nat.le_refl _) _
  replace hB := Below.on hB ba
  replace K_s := K_s.below ba
  replace K_c := K_c.below ba
  clear ba
  have mb_c : (w6.alloc (.cells #[.slice c_b BC.length c_bc, .int .i64 MC.guest, .slice c_r MC.root.length c_rc, .slice c_s MC.slots.length c_sc, .slice c_f MC.refs.length c_fc, .slice c_n MC.snaps.length c_nc] 29)).heap[w6.heap.size]? = some (.cells #[.slice c_b BC.length c_bc, .int .i64 MC.guest, .slice c_r MC.root.length c_rc, .slice c_s MC.slots.length c_sc, .slice c_f MC.refs.length c_fc, .slice c_n MC.snaps.length c_nc] 29) := World.alloc_heap_new _ _
  clear mb_s
  clear K_s
  obtain ⟨c0, c1, c2, c3, c4, c5⟩ := six mb_c
  have hh_mb_c := Hid_mkW mb_c
  have hh_K_c := Hid_mkW K_c
  have hh_hB := Hid_mkW hB
  clear mb_c K_c hB
  go_wp2_with fail
  clear c0 c1 c2 c3 c4 c5
  have mb_c := hh_mb_c.out
  have K_c := hh_K_c.out
  have hB := hh_hB.out
  clear hh_mb_c hh_K_c hh_hB
  refine (sk_read K_c k HR.out.1 HR.out.2).mono ?_
  rintro e w7 ⟨rfl, bb⟩
  replace mb_c := cells_below mb_c bb (Array.getElem?_eq_some_iff.1 mb_c).1
  replace hB := Below.on hB bb
  replace K_c := K_c.below bb
  clear bb
  obtain ⟨c0, c1, c2, c3, c4, c5⟩ := six mb_c
  have hh_mb_c := Hid_mkW mb_c
  have hh_K_c := Hid_mkW K_c
  have hh_hB := Hid_mkW hB
  clear mb_c K_c hB
  go_wp2_with fail
  clear c0 c1 c2 c3 c4 c5
  have mb_c := hh_mb_c.out
  have K_c := hh_K_c.out
  have hB := hh_hB.out
  clear hh_mb_c hh_K_c hh_hB
  refine (sk_commit K_c HR2.out.1 HR2.out.2.1 HR2.out.2.2).mono ?_
  rintro e w8 ⟨v, rfl, K_d, bb⟩
  obtain ⟨d_b, d_bc, d_r, d_rc, d_s, d_sc, d_f, d_fc, d_n, d_nc, rfl, hs_, hi_⟩ := K_d.parts
  clear hs_ hi_
  try dsimp only
  replace mb_c := cells_below mb_c bb (Array.getElem?_eq_some_iff.1 mb_c).1
  replace hB := Below.on hB bb
  replace K_c := K_c.below bb
  clear bb
  replace mb_c := cells_alloc mb_c (.cells #[.slice d_b BC.length d_bc, .int .i64 MC.guest, .slice d_r MC.root.length d_rc, .slice d_s MC.slots.length d_sc, .slice d_f MC.refs.length d_fc, .slice d_n MC.snaps.length d_nc] 29)
  have ba : Below w8.heap.size w8 (w8.alloc (.cells #[.slice d_b BC.length d_bc, .int .i64 MC.guest, .slice d_r MC.root.length d_rc, .slice d_s MC.slots.length d_sc, .slice d_f MC.refs.length d_fc, .slice d_n MC.snaps.length d_nc] 29)) := (Below.refl _ _).alloc (Nat.le_refl _) _
  replace hB := Below.on hB ba
  replace K_c := K_c.below ba
  replace K_d := K_d.below ba
  clear ba
  have mb_d : (w8.alloc (.cells #[.slice d_b BC.length d_bc, .int .i64 MC.guest, .slice d_r MC.root.length d_rc, .slice d_s MC.slots.length d_sc, .slice d_f MC.refs.length d_fc, .slice d_n MC.snaps.length d_nc] 29)).heap[w8.heap.size]? = some (.cells #[.slice d_b BC.length d_bc, .int .i64 MC.guest, .slice d_r MC.root.length d_rc, .slice d_s MC.slots.length d_sc, .slice d_f MC.refs.length d_fc, .slice d_n MC.snaps.length d_nc] 29) := World.alloc_heap_new _ _
  have hh_mb_c := Hid_mkW mb_c
  have hh_mb_d := Hid_mkW mb_d
  have hh_K_c := Hid_mkW K_c
  have hh_K_d := Hid_mkW K_d
  have hh_hB := Hid_mkW hB
  clear mb_c mb_d K_c K_d hB
  go_wp2_with fail
  have mb_c := hh_mb_c.out
  have mb_d := hh_mb_d.out
  have K_c := hh_K_c.out
  have K_d := hh_K_d.out
  have hB := hh_hB.out
  clear hh_mb_c hh_mb_d hh_K_c hh_K_d hh_hB
  refine (stackBegun_any _).mono ?_
  rintro e w9 ⟨rfl, bb⟩
  replace mb_c := cells_below mb_c bb (Array.getElem?_eq_some_iff.1 mb_c).1
  replace mb_d := cells_below mb_d bb (Array.getElem?_eq_some_iff.1 mb_d).1
  replace hB := Below.on hB bb
  replace K_c := K_c.below bb
  replace K_d := K_d.below bb
  clear bb
  obtain ⟨c0, c1, c2, c3, c4, c5⟩ := six mb_c
  have hh_mb_c := Hid_mkW mb_c
  have hh_mb_d := Hid_mkW mb_d
  have hh_K_c := Hid_mkW K_c
  have hh_K_d := Hid_mkW K_d
  have hh_hB := Hid_mkW hB
  clear mb_c mb_d K_c K_d hB
  go_wp2_with fail
  clear c0 c1 c2 c3 c4 c5
  have mb_c := hh_mb_c.out
  have mb_d := hh_mb_d.out
  have K_c := hh_K_c.out
  have K_d := hh_K_d.out
  have hB := hh_hB.out
  clear hh_mb_c hh_mb_d hh_K_c hh_K_d hh_hB
  refine (sk_check K_c HCk.out).mono ?_
  rintro e w10 ⟨rfl, bb⟩
  replace mb_c := cells_below mb_c bb (Array.getElem?_eq_some_iff.1 mb_c).1
  replace mb_d := cells_below mb_d bb (Array.getElem?_eq_some_iff.1 mb_d).1
  replace hB := Below.on hB bb
  replace K_c := K_c.below bb
  replace K_d := K_d.below bb
  clear bb
  obtain ⟨c0, c1, c2, c3, c4, c5⟩ := six mb_c
  obtain ⟨d0, d1, d2, d3, d4, d5⟩ := six mb_d
  have hh_mb_c := Hid_mkW mb_c
  have hh_mb_d := Hid_mkW mb_d
  have hh_K_c := Hid_mkW K_c
  have hh_K_d := Hid_mkW K_d
  have hh_hB := Hid_mkW hB
  clear mb_c mb_d K_c K_d hB
  go_wp2_with fail
  clear c0 c1 c2 c3 c4 c5 d0 d1 d2 d3 d4 d5
  have mb_c := hh_mb_c.out
  have mb_d := hh_mb_d.out
  have K_c := hh_K_c.out
  have K_d := hh_K_d.out
  have hB := hh_hB.out
  clear hh_mb_c hh_mb_d hh_K_c hh_K_d hh_hB
  refine (sameStk_is K_c K_d).mono ?_
  rintro e w11 ⟨rfl, bb⟩
  replace mb_c := cells_below mb_c bb (Array.getElem?_eq_some_iff.1 mb_c).1
  replace mb_d := cells_below mb_d bb (Array.getElem?_eq_some_iff.1 mb_d).1
  replace hB := Below.on hB bb
  replace K_c := K_c.below bb
  replace K_d := K_d.below bb
  clear bb
  have hh_mb_c := Hid_mkW mb_c
  have hh_mb_d := Hid_mkW mb_d
  have hh_K_c := Hid_mkW K_c
  have hh_K_d := Hid_mkW K_d
  have hh_hB := Hid_mkW hB
  clear mb_c mb_d K_c K_d hB
  go_wp2_with fail
  go_ret
  have hB := hh_hB.out
  exact ⟨rfl, hB⟩

set_option maxHeartbeats 16000000 in
theorem st_no0 (ba : Option Addr) (bc : Nat) (ra : Option Addr) (rc : Nat) (sa : Option Addr) (sc : Nat) (fa : Option Addr) (fc : Nat) (na : Option Addr) (nc : Nat) (b : List ByteArray) (m : ImgD) (n : Int) (page : ByteArray) (k : Int) (w : World) (h : Stk w (.agg #[.slice ba b.length bc, .int .i64 m.guest, .slice ra m.root.length rc, .slice sa m.slots.length sc, .slice fa m.refs.length fc, .slice na m.snaps.length nc]) b m) (E : Int) (P : ByteArray) (HE : Hid (srE b m k = E ∧ srV b m k = P)) (BW : List ByteArray) (MW : ImgD) (EW : Int) (HW : Hid (skE b m n page = EW ∧ skM b m n page = MW ∧ skB b m n page = BW)) (hew : (EW == 0) = false) (BC : List ByteArray) (MC : ImgD) (EC : Int) (HC : Hid (ccE b m = EC ∧ (if ccE b m = 0 then pgs b m else []) = BC ∧ (if ccE b m = 0 then freshD m.guest.toNat else imgZ) = MC)) (hec : (EC != 0) = true) :
    Calls Try.prog 3 #[.agg #[.slice ba b.length bc, .int .i64 m.guest, .slice ra m.root.length rc, .slice sa m.slots.length sc, .slice fa m.refs.length fc, .slice na m.snaps.length nc], .int .i64 n, .string page, .int .i64 k] w fun r w' => r = .returned (.bool true) ∧ Below w.heap.size w w' := by
  have hB : Below w.heap.size w (w.alloc (.cells #[.slice ba b.length bc, .int .i64 m.guest, .slice ra m.root.length rc, .slice sa m.slots.length sc, .slice fa m.refs.length fc, .slice na m.snaps.length nc] 29)) := (Below.refl _ _).alloc (Nat.le_refl _) _
  have mb_s : (w.alloc (.cells #[.slice ba b.length bc, .int .i64 m.guest, .slice ra m.root.length rc, .slice sa m.slots.length sc, .slice fa m.refs.length fc, .slice na m.snaps.length nc] 29)).heap[w.heap.size]? = some (.cells #[.slice ba b.length bc, .int .i64 m.guest, .slice ra m.root.length rc, .slice sa m.slots.length sc, .slice fa m.refs.length fc, .slice na m.snaps.length nc] 29) := World.alloc_heap_new _ _
  have K_s := h.below hB
  clear h
  go_enter Try.func3, Try.ntmps3
  obtain ⟨s0, s1, s2, s3, s4, s5⟩ := six mb_s
  have hh_mb_s := Hid_mkW mb_s
  have hh_K_s := Hid_mkW K_s
  have hh_hB := Hid_mkW hB
  clear mb_s K_s hB
  go_wp2_with fail
  clear s0 s1 s2 s3 s4 s5
  have mb_s := hh_mb_s.out
  have K_s := hh_K_s.out
  have hB := hh_hB.out
  clear hh_mb_s hh_K_s hh_hB
  refine (sk_read K_s k HE.out.1 HE.out.2).mono ?_
  rintro e w1 ⟨rfl, bb⟩
  replace mb_s := cells_below mb_s bb (Array.getElem?_eq_some_iff.1 mb_s).1
  replace hB := Below.on hB bb
  replace K_s := K_s.below bb
  clear bb
  obtain ⟨s0, s1, s2, s3, s4, s5⟩ := six mb_s
  have hh_mb_s := Hid_mkW mb_s
  have hh_K_s := Hid_mkW K_s
  have hh_hB := Hid_mkW hB
  clear mb_s K_s hB
  go_wp2_with fail
  clear s0 s1 s2 s3 s4 s5
  have mb_s := hh_mb_s.out
  have K_s := hh_K_s.out
  have hB := hh_hB.out
  clear hh_mb_s hh_K_s hh_hB
  refine (sk_write K_s n page HW.out.1 HW.out.2.1 HW.out.2.2).mono ?_
  rintro e w2 ⟨v, rfl, K_x, bb⟩
  obtain ⟨x_b, x_bc, x_r, x_rc, x_s, x_sc, x_f, x_fc, x_n, x_nc, rfl, hs_, hi_⟩ := K_x.parts
  clear hs_ hi_
  try dsimp only
  replace mb_s := cells_below mb_s bb (Array.getElem?_eq_some_iff.1 mb_s).1
  replace hB := Below.on hB bb
  replace K_s := K_s.below bb
  clear bb
  replace mb_s := cells_alloc mb_s (.cells #[.slice x_b BW.length x_bc, .int .i64 MW.guest, .slice x_r MW.root.length x_rc, .slice x_s MW.slots.length x_sc, .slice x_f MW.refs.length x_fc, .slice x_n MW.snaps.length x_nc] 29)
  have ba : Below w2.heap.size w2 (w2.alloc (.cells #[.slice x_b BW.length x_bc, .int .i64 MW.guest, .slice x_r MW.root.length x_rc, .slice x_s MW.slots.length x_sc, .slice x_f MW.refs.length x_fc, .slice x_n MW.snaps.length x_nc] 29)) := (Below.refl _ _).alloc (Nat.le_refl _) _
  replace hB := Below.on hB ba
  replace K_s := K_s.below ba
  replace K_x := K_x.below ba
  clear ba
  have mb_x : (w2.alloc (.cells #[.slice x_b BW.length x_bc, .int .i64 MW.guest, .slice x_r MW.root.length x_rc, .slice x_s MW.slots.length x_sc, .slice x_f MW.refs.length x_fc, .slice x_n MW.snaps.length x_nc] 29)).heap[w2.heap.size]? = some (.cells #[.slice x_b BW.length x_bc, .int .i64 MW.guest, .slice x_r MW.root.length x_rc, .slice x_s MW.slots.length x_sc, .slice x_f MW.refs.length x_fc, .slice x_n MW.snaps.length x_nc] 29) := World.alloc_heap_new _ _
  clear mb_x
  clear K_x
  obtain ⟨s0, s1, s2, s3, s4, s5⟩ := six mb_s
  have hh_mb_s := Hid_mkW mb_s
  have hh_K_s := Hid_mkW K_s
  have hh_hB := Hid_mkW hB
  clear mb_s K_s hB
  go_wp2_with fail
  clear s0 s1 s2 s3 s4 s5
  have mb_s := hh_mb_s.out
  have K_s := hh_K_s.out
  have hB := hh_hB.out
  clear hh_mb_s hh_K_s hh_hB
  refine (sk_commit K_s HC.out.1 HC.out.2.1 HC.out.2.2).mono ?_
  rintro e w3 ⟨v, rfl, K_c, bb⟩
  obtain ⟨c_b, c_bc, c_r, c_rc, c_s, c_sc, c_f, c_fc, c_n, c_nc, rfl, hs_, hi_⟩ := K_c.parts
  clear hs_ hi_
  try dsimp only
  replace mb_s := cells_below mb_s bb (Array.getElem?_eq_some_iff.1 mb_s).1
  replace hB := Below.on hB bb
  replace K_s := K_s.below bb
  clear bb
  replace mb_s := cells_alloc mb_s (.cells #[.slice c_b BC.length c_bc, .int .i64 MC.guest, .slice c_r MC.root.length c_rc, .slice c_s MC.slots.length c_sc, .slice c_f MC.refs.length c_fc, .slice c_n MC.snaps.length c_nc] 29)
  have ba : Below w3.heap.size w3 (w3.alloc (.cells #[.slice c_b BC.length c_bc, .int .i64 MC.guest, .slice c_r MC.root.length c_rc, .slice c_s MC.slots.length c_sc, .slice c_f MC.refs.length c_fc, .slice c_n MC.snaps.length c_nc] 29)) := (Below.refl _ _).alloc (Nat.le_refl _) _
  replace hB := Below.on hB ba
  replace K_s := K_s.below ba
  replace K_c := K_c.below ba
  clear ba
  have mb_c : (w3.alloc (.cells #[.slice c_b BC.length c_bc, .int .i64 MC.guest, .slice c_r MC.root.length c_rc, .slice c_s MC.slots.length c_sc, .slice c_f MC.refs.length c_fc, .slice c_n MC.snaps.length c_nc] 29)).heap[w3.heap.size]? = some (.cells #[.slice c_b BC.length c_bc, .int .i64 MC.guest, .slice c_r MC.root.length c_rc, .slice c_s MC.slots.length c_sc, .slice c_f MC.refs.length c_fc, .slice c_n MC.snaps.length c_nc] 29) := World.alloc_heap_new _ _
  clear mb_s
  clear K_s
  clear mb_c
  clear K_c
  have hh_hB := Hid_mkW hB
  clear hB
  go_wp2_with fail
  have hB := hh_hB.out
  clear hh_hB
  refine (stackBegun_any _).mono ?_
  rintro e w4 ⟨rfl, bb⟩
  replace hB := Below.on hB bb
  clear bb
  have hh_hB := Hid_mkW hB
  clear hB
  go_wp2_with fail
  go_ret
  have hB := hh_hB.out
  exact ⟨rfl, hB⟩

set_option maxHeartbeats 16000000 in
theorem st_eq0 (ba : Option Addr) (bc : Nat) (ra : Option Addr) (rc : Nat) (sa : Option Addr) (sc : Nat) (fa : Option Addr) (fc : Nat) (na : Option Addr) (nc : Nat) (b : List ByteArray) (m : ImgD) (n : Int) (page : ByteArray) (k : Int) (w : World) (h : Stk w (.agg #[.slice ba b.length bc, .int .i64 m.guest, .slice ra m.root.length rc, .slice sa m.slots.length sc, .slice fa m.refs.length fc, .slice na m.snaps.length nc]) b m) (E : Int) (P : ByteArray) (HE : Hid (srE b m k = E ∧ srV b m k = P)) (MW : ImgD) (HW : Hid (skE b m n page = 0 ∧ skM b m n page = MW ∧ skB b m n page = b)) (Q : ByteArray) (HX : Hid (srE b MW n = 0 ∧ srV b MW n = page ∧ srE b MW k = E ∧ srV b MW k = Q)) (hkn : (k != n) = false) (BC : List ByteArray) (MC : ImgD) (EC : Int) (HC : Hid (ccE b m = EC ∧ (if ccE b m = 0 then pgs b m else []) = BC ∧ (if ccE b m = 0 then freshD m.guest.toNat else imgZ) = MC)) (hec : (EC != 0) = true) :
    Calls Try.prog 3 #[.agg #[.slice ba b.length bc, .int .i64 m.guest, .slice ra m.root.length rc, .slice sa m.slots.length sc, .slice fa m.refs.length fc, .slice na m.snaps.length nc], .int .i64 n, .string page, .int .i64 k] w fun r w' => r = .returned (.bool true) ∧ Below w.heap.size w w' := by
  have hB : Below w.heap.size w (w.alloc (.cells #[.slice ba b.length bc, .int .i64 m.guest, .slice ra m.root.length rc, .slice sa m.slots.length sc, .slice fa m.refs.length fc, .slice na m.snaps.length nc] 29)) := (Below.refl _ _).alloc (Nat.le_refl _) _
  have mb_s : (w.alloc (.cells #[.slice ba b.length bc, .int .i64 m.guest, .slice ra m.root.length rc, .slice sa m.slots.length sc, .slice fa m.refs.length fc, .slice na m.snaps.length nc] 29)).heap[w.heap.size]? = some (.cells #[.slice ba b.length bc, .int .i64 m.guest, .slice ra m.root.length rc, .slice sa m.slots.length sc, .slice fa m.refs.length fc, .slice na m.snaps.length nc] 29) := World.alloc_heap_new _ _
  have K_s := h.below hB
  clear h
  go_enter Try.func3, Try.ntmps3
  obtain ⟨s0, s1, s2, s3, s4, s5⟩ := six mb_s
  have hh_mb_s := Hid_mkW mb_s
  have hh_K_s := Hid_mkW K_s
  have hh_hB := Hid_mkW hB
  clear mb_s K_s hB
  go_wp2_with fail
  clear s0 s1 s2 s3 s4 s5
  have mb_s := hh_mb_s.out
  have K_s := hh_K_s.out
  have hB := hh_hB.out
  clear hh_mb_s hh_K_s hh_hB
  refine (sk_read K_s k HE.out.1 HE.out.2).mono ?_
  rintro e w1 ⟨rfl, bb⟩
  replace mb_s := cells_below mb_s bb (Array.getElem?_eq_some_iff.1 mb_s).1
  replace hB := Below.on hB bb
  replace K_s := K_s.below bb
  clear bb
  obtain ⟨s0, s1, s2, s3, s4, s5⟩ := six mb_s
  have hh_mb_s := Hid_mkW mb_s
  have hh_K_s := Hid_mkW K_s
  have hh_hB := Hid_mkW hB
  clear mb_s K_s hB
  go_wp2_with fail
  clear s0 s1 s2 s3 s4 s5
  have mb_s := hh_mb_s.out
  have K_s := hh_K_s.out
  have hB := hh_hB.out
  clear hh_mb_s hh_K_s hh_hB
  refine (sk_write K_s n page HW.out.1 HW.out.2.1 HW.out.2.2).mono ?_
  rintro e w2 ⟨v, rfl, K_x, bb⟩
  obtain ⟨x_b, x_bc, x_r, x_rc, x_s, x_sc, x_f, x_fc, x_n, x_nc, rfl, hs_, hi_⟩ := K_x.parts
  clear hs_ hi_
  try dsimp only
  replace mb_s := cells_below mb_s bb (Array.getElem?_eq_some_iff.1 mb_s).1
  replace hB := Below.on hB bb
  replace K_s := K_s.below bb
  clear bb
  replace mb_s := cells_alloc mb_s (.cells #[.slice x_b b.length x_bc, .int .i64 MW.guest, .slice x_r MW.root.length x_rc, .slice x_s MW.slots.length x_sc, .slice x_f MW.refs.length x_fc, .slice x_n MW.snaps.length x_nc] 29)
  have ba : Below w2.heap.size w2 (w2.alloc (.cells #[.slice x_b b.length x_bc, .int .i64 MW.guest, .slice x_r MW.root.length x_rc, .slice x_s MW.slots.length x_sc, .slice x_f MW.refs.length x_fc, .slice x_n MW.snaps.length x_nc] 29)) := (Below.refl _ _).alloc (Nat.le_refl _) _
  replace hB := Below.on hB ba
  replace K_s := K_s.below ba
  replace K_x := K_x.below ba
  clear ba
  have mb_x : (w2.alloc (.cells #[.slice x_b b.length x_bc, .int .i64 MW.guest, .slice x_r MW.root.length x_rc, .slice x_s MW.slots.length x_sc, .slice x_f MW.refs.length x_fc, .slice x_n MW.snaps.length x_nc] 29)).heap[w2.heap.size]? = some (.cells #[.slice x_b b.length x_bc, .int .i64 MW.guest, .slice x_r MW.root.length x_rc, .slice x_s MW.slots.length x_sc, .slice x_f MW.refs.length x_fc, .slice x_n MW.snaps.length x_nc] 29) := World.alloc_heap_new _ _
  obtain ⟨x0, x1, x2, x3, x4, x5⟩ := six mb_x
  have hh_mb_s := Hid_mkW mb_s
  have hh_mb_x := Hid_mkW mb_x
  have hh_K_s := Hid_mkW K_s
  have hh_K_x := Hid_mkW K_x
  have hh_hB := Hid_mkW hB
  clear mb_s mb_x K_s K_x hB
  go_wp2_with fail
  clear x0 x1 x2 x3 x4 x5
  have mb_s := hh_mb_s.out
  have mb_x := hh_mb_x.out
  have K_s := hh_K_s.out
  have K_x := hh_K_x.out
  have hB := hh_hB.out
  clear hh_mb_s hh_mb_x hh_K_s hh_K_x hh_hB
  refine (sk_read K_x n HX.out.1 HX.out.2.1).mono ?_
  rintro e w3 ⟨rfl, bb⟩
  replace mb_s := cells_below mb_s bb (Array.getElem?_eq_some_iff.1 mb_s).1
  replace mb_x := cells_below mb_x bb (Array.getElem?_eq_some_iff.1 mb_x).1
  replace hB := Below.on hB bb
  replace K_s := K_s.below bb
  replace K_x := K_x.below bb
  clear bb
  obtain ⟨x0, x1, x2, x3, x4, x5⟩ := six mb_x
  have hh_mb_s := Hid_mkW mb_s
  have hh_mb_x := Hid_mkW mb_x
  have hh_K_s := Hid_mkW K_s
  have hh_K_x := Hid_mkW K_x
  have hh_hB := Hid_mkW hB
  clear mb_s mb_x K_s K_x hB
  go_wp2_with fail
  clear x0 x1 x2 x3 x4 x5
  have mb_s := hh_mb_s.out
  have mb_x := hh_mb_x.out
  have K_s := hh_K_s.out
  have K_x := hh_K_x.out
  have hB := hh_hB.out
  clear hh_mb_s hh_mb_x hh_K_s hh_K_x hh_hB
  refine (sk_read K_x k HX.out.2.2.1 HX.out.2.2.2).mono ?_
  rintro e w4 ⟨rfl, bb⟩
  replace mb_s := cells_below mb_s bb (Array.getElem?_eq_some_iff.1 mb_s).1
  replace mb_x := cells_below mb_x bb (Array.getElem?_eq_some_iff.1 mb_x).1
  replace hB := Below.on hB bb
  replace K_s := K_s.below bb
  replace K_x := K_x.below bb
  clear bb
  obtain ⟨x0, x1, x2, x3, x4, x5⟩ := six mb_x
  obtain ⟨s0, s1, s2, s3, s4, s5⟩ := six mb_s
  have hh_mb_s := Hid_mkW mb_s
  have hh_mb_x := Hid_mkW mb_x
  have hh_K_s := Hid_mkW K_s
  have hh_K_x := Hid_mkW K_x
  have hh_hB := Hid_mkW hB
  clear mb_s mb_x K_s K_x hB
  go_wp2_with fail
  clear x0 x1 x2 x3 x4 x5 s0 s1 s2 s3 s4 s5
  have mb_s := hh_mb_s.out
  have mb_x := hh_mb_x.out
  have K_s := hh_K_s.out
  have K_x := hh_K_x.out
  have hB := hh_hB.out
  clear hh_mb_s hh_mb_x hh_K_s hh_K_x hh_hB
  refine (samePages_any K_x.base K_s.base).mono ?_
  rintro e w5 ⟨rfl, bb⟩
  replace mb_s := cells_below mb_s bb (Array.getElem?_eq_some_iff.1 mb_s).1
  replace mb_x := cells_below mb_x bb (Array.getElem?_eq_some_iff.1 mb_x).1
  replace hB := Below.on hB bb
  replace K_s := K_s.below bb
  replace K_x := K_x.below bb
  clear bb
  clear mb_x
  clear K_x
  obtain ⟨s0, s1, s2, s3, s4, s5⟩ := six mb_s
  have hh_mb_s := Hid_mkW mb_s
  have hh_K_s := Hid_mkW K_s
  have hh_hB := Hid_mkW hB
  clear mb_s K_s hB
  go_wp2_with fail
  clear s0 s1 s2 s3 s4 s5
  have mb_s := hh_mb_s.out
  have K_s := hh_K_s.out
  have hB := hh_hB.out
  clear hh_mb_s hh_K_s hh_hB
  refine (sk_commit K_s HC.out.1 HC.out.2.1 HC.out.2.2).mono ?_
  rintro e w6 ⟨v, rfl, K_c, bb⟩
  obtain ⟨c_b, c_bc, c_r, c_rc, c_s, c_sc, c_f, c_fc, c_n, c_nc, rfl, hs_, hi_⟩ := K_c.parts
  clear hs_ hi_
  try dsimp only
  replace mb_s := cells_below mb_s bb (Array.getElem?_eq_some_iff.1 mb_s).1
  replace hB := Below.on hB bb
  replace K_s := K_s.below bb
  clear bb
  replace mb_s := cells_alloc mb_s (.cells #[.slice c_b BC.length c_bc, .int .i64 MC.guest, .slice c_r MC.root.length c_rc, .slice c_s MC.slots.length c_sc, .slice c_f MC.refs.length c_fc, .slice c_n MC.snaps.length c_nc] 29)
  have ba : Below w6.heap.size w6 (w6.alloc (.cells #[.slice c_b BC.length c_bc, .int .i64 MC.guest, .slice c_r MC.root.length c_rc, .slice c_s MC.slots.length c_sc, .slice c_f MC.refs.length c_fc, .slice c_n MC.snaps.length c_nc] 29)) := (Below.refl _ _).alloc (Nat.le_refl _) _
  replace hB := Below.on hB ba
  replace K_s := K_s.below ba
  replace K_c := K_c.below ba
  clear ba
  have mb_c : (w6.alloc (.cells #[.slice c_b BC.length c_bc, .int .i64 MC.guest, .slice c_r MC.root.length c_rc, .slice c_s MC.slots.length c_sc, .slice c_f MC.refs.length c_fc, .slice c_n MC.snaps.length c_nc] 29)).heap[w6.heap.size]? = some (.cells #[.slice c_b BC.length c_bc, .int .i64 MC.guest, .slice c_r MC.root.length c_rc, .slice c_s MC.slots.length c_sc, .slice c_f MC.refs.length c_fc, .slice c_n MC.snaps.length c_nc] 29) := World.alloc_heap_new _ _
  clear mb_s
  clear K_s
  clear mb_c
  clear K_c
  have hh_hB := Hid_mkW hB
  clear hB
  go_wp2_with fail
  have hB := hh_hB.out
  clear hh_hB
  refine (stackBegun_any _).mono ?_
  rintro e w7 ⟨rfl, bb⟩
  replace hB := Below.on hB bb
  clear bb
  have hh_hB := Hid_mkW hB
  clear hB
  go_wp2_with fail
  go_ret
  have hB := hh_hB.out
  exact ⟨rfl, hB⟩

set_option maxHeartbeats 16000000 in
theorem st_ne0 (ba : Option Addr) (bc : Nat) (ra : Option Addr) (rc : Nat) (sa : Option Addr) (sc : Nat) (fa : Option Addr) (fc : Nat) (na : Option Addr) (nc : Nat) (b : List ByteArray) (m : ImgD) (n : Int) (page : ByteArray) (k : Int) (w : World) (h : Stk w (.agg #[.slice ba b.length bc, .int .i64 m.guest, .slice ra m.root.length rc, .slice sa m.slots.length sc, .slice fa m.refs.length fc, .slice na m.snaps.length nc]) b m) (E : Int) (P : ByteArray) (HE : Hid (srE b m k = E ∧ srV b m k = P)) (MW : ImgD) (HW : Hid (skE b m n page = 0 ∧ skM b m n page = MW ∧ skB b m n page = b)) (HX : Hid (srE b MW n = 0 ∧ srV b MW n = page ∧ srE b MW k = E ∧ srV b MW k = P)) (hkn : (k != n) = true) (BC : List ByteArray) (MC : ImgD) (EC : Int) (HC : Hid (ccE b m = EC ∧ (if ccE b m = 0 then pgs b m else []) = BC ∧ (if ccE b m = 0 then freshD m.guest.toNat else imgZ) = MC)) (hec : (EC != 0) = true) :
    Calls Try.prog 3 #[.agg #[.slice ba b.length bc, .int .i64 m.guest, .slice ra m.root.length rc, .slice sa m.slots.length sc, .slice fa m.refs.length fc, .slice na m.snaps.length nc], .int .i64 n, .string page, .int .i64 k] w fun r w' => r = .returned (.bool true) ∧ Below w.heap.size w w' := by
  have hB : Below w.heap.size w (w.alloc (.cells #[.slice ba b.length bc, .int .i64 m.guest, .slice ra m.root.length rc, .slice sa m.slots.length sc, .slice fa m.refs.length fc, .slice na m.snaps.length nc] 29)) := (Below.refl _ _).alloc (Nat.le_refl _) _
  have mb_s : (w.alloc (.cells #[.slice ba b.length bc, .int .i64 m.guest, .slice ra m.root.length rc, .slice sa m.slots.length sc, .slice fa m.refs.length fc, .slice na m.snaps.length nc] 29)).heap[w.heap.size]? = some (.cells #[.slice ba b.length bc, .int .i64 m.guest, .slice ra m.root.length rc, .slice sa m.slots.length sc, .slice fa m.refs.length fc, .slice na m.snaps.length nc] 29) := World.alloc_heap_new _ _
  have K_s := h.below hB
  clear h
  go_enter Try.func3, Try.ntmps3
  obtain ⟨s0, s1, s2, s3, s4, s5⟩ := six mb_s
  have hh_mb_s := Hid_mkW mb_s
  have hh_K_s := Hid_mkW K_s
  have hh_hB := Hid_mkW hB
  clear mb_s K_s hB
  go_wp2_with fail
  clear s0 s1 s2 s3 s4 s5
  have mb_s := hh_mb_s.out
  have K_s := hh_K_s.out
  have hB := hh_hB.out
  clear hh_mb_s hh_K_s hh_hB
  refine (sk_read K_s k HE.out.1 HE.out.2).mono ?_
  rintro e w1 ⟨rfl, bb⟩
  replace mb_s := cells_below mb_s bb (Array.getElem?_eq_some_iff.1 mb_s).1
  replace hB := Below.on hB bb
  replace K_s := K_s.below bb
  clear bb
  obtain ⟨s0, s1, s2, s3, s4, s5⟩ := six mb_s
  have hh_mb_s := Hid_mkW mb_s
  have hh_K_s := Hid_mkW K_s
  have hh_hB := Hid_mkW hB
  clear mb_s K_s hB
  go_wp2_with fail
  clear s0 s1 s2 s3 s4 s5
  have mb_s := hh_mb_s.out
  have K_s := hh_K_s.out
  have hB := hh_hB.out
  clear hh_mb_s hh_K_s hh_hB
  refine (sk_write K_s n page HW.out.1 HW.out.2.1 HW.out.2.2).mono ?_
  rintro e w2 ⟨v, rfl, K_x, bb⟩
  obtain ⟨x_b, x_bc, x_r, x_rc, x_s, x_sc, x_f, x_fc, x_n, x_nc, rfl, hs_, hi_⟩ := K_x.parts
  clear hs_ hi_
  try dsimp only
  replace mb_s := cells_below mb_s bb (Array.getElem?_eq_some_iff.1 mb_s).1
  replace hB := Below.on hB bb
  replace K_s := K_s.below bb
  clear bb
  replace mb_s := cells_alloc mb_s (.cells #[.slice x_b b.length x_bc, .int .i64 MW.guest, .slice x_r MW.root.length x_rc, .slice x_s MW.slots.length x_sc, .slice x_f MW.refs.length x_fc, .slice x_n MW.snaps.length x_nc] 29)
  have ba : Below w2.heap.size w2 (w2.alloc (.cells #[.slice x_b b.length x_bc, .int .i64 MW.guest, .slice x_r MW.root.length x_rc, .slice x_s MW.slots.length x_sc, .slice x_f MW.refs.length x_fc, .slice x_n MW.snaps.length x_nc] 29)) := (Below.refl _ _).alloc (Nat.le_refl _) _
  replace hB := Below.on hB ba
  replace K_s := K_s.below ba
  replace K_x := K_x.below ba
  clear ba
  have mb_x : (w2.alloc (.cells #[.slice x_b b.length x_bc, .int .i64 MW.guest, .slice x_r MW.root.length x_rc, .slice x_s MW.slots.length x_sc, .slice x_f MW.refs.length x_fc, .slice x_n MW.snaps.length x_nc] 29)).heap[w2.heap.size]? = some (.cells #[.slice x_b b.length x_bc, .int .i64 MW.guest, .slice x_r MW.root.length x_rc, .slice x_s MW.slots.length x_sc, .slice x_f MW.refs.length x_fc, .slice x_n MW.snaps.length x_nc] 29) := World.alloc_heap_new _ _
  obtain ⟨x0, x1, x2, x3, x4, x5⟩ := six mb_x
  have hh_mb_s := Hid_mkW mb_s
  have hh_mb_x := Hid_mkW mb_x
  have hh_K_s := Hid_mkW K_s
  have hh_K_x := Hid_mkW K_x
  have hh_hB := Hid_mkW hB
  clear mb_s mb_x K_s K_x hB
  go_wp2_with fail
  clear x0 x1 x2 x3 x4 x5
  have mb_s := hh_mb_s.out
  have mb_x := hh_mb_x.out
  have K_s := hh_K_s.out
  have K_x := hh_K_x.out
  have hB := hh_hB.out
  clear hh_mb_s hh_mb_x hh_K_s hh_K_x hh_hB
  refine (sk_read K_x n HX.out.1 HX.out.2.1).mono ?_
  rintro e w3 ⟨rfl, bb⟩
  replace mb_s := cells_below mb_s bb (Array.getElem?_eq_some_iff.1 mb_s).1
  replace mb_x := cells_below mb_x bb (Array.getElem?_eq_some_iff.1 mb_x).1
  replace hB := Below.on hB bb
  replace K_s := K_s.below bb
  replace K_x := K_x.below bb
  clear bb
  obtain ⟨x0, x1, x2, x3, x4, x5⟩ := six mb_x
  have hh_mb_s := Hid_mkW mb_s
  have hh_mb_x := Hid_mkW mb_x
  have hh_K_s := Hid_mkW K_s
  have hh_K_x := Hid_mkW K_x
  have hh_hB := Hid_mkW hB
  clear mb_s mb_x K_s K_x hB
  go_wp2_with fail
  clear x0 x1 x2 x3 x4 x5
  have mb_s := hh_mb_s.out
  have mb_x := hh_mb_x.out
  have K_s := hh_K_s.out
  have K_x := hh_K_x.out
  have hB := hh_hB.out
  clear hh_mb_s hh_mb_x hh_K_s hh_K_x hh_hB
  refine (sk_read K_x k HX.out.2.2.1 HX.out.2.2.2).mono ?_
  rintro e w4 ⟨rfl, bb⟩
  replace mb_s := cells_below mb_s bb (Array.getElem?_eq_some_iff.1 mb_s).1
  replace mb_x := cells_below mb_x bb (Array.getElem?_eq_some_iff.1 mb_x).1
  replace hB := Below.on hB bb
  replace K_s := K_s.below bb
  replace K_x := K_x.below bb
  clear bb
  obtain ⟨x0, x1, x2, x3, x4, x5⟩ := six mb_x
  obtain ⟨s0, s1, s2, s3, s4, s5⟩ := six mb_s
  have hh_mb_s := Hid_mkW mb_s
  have hh_mb_x := Hid_mkW mb_x
  have hh_K_s := Hid_mkW K_s
  have hh_K_x := Hid_mkW K_x
  have hh_hB := Hid_mkW hB
  clear mb_s mb_x K_s K_x hB
  go_wp2_with fail
  clear x0 x1 x2 x3 x4 x5 s0 s1 s2 s3 s4 s5
  have mb_s := hh_mb_s.out
  have mb_x := hh_mb_x.out
  have K_s := hh_K_s.out
  have K_x := hh_K_x.out
  have hB := hh_hB.out
  clear hh_mb_s hh_mb_x hh_K_s hh_K_x hh_hB
  refine (samePages_any K_x.base K_s.base).mono ?_
  rintro e w5 ⟨rfl, bb⟩
  replace mb_s := cells_below mb_s bb (Array.getElem?_eq_some_iff.1 mb_s).1
  replace mb_x := cells_below mb_x bb (Array.getElem?_eq_some_iff.1 mb_x).1
  replace hB := Below.on hB bb
  replace K_s := K_s.below bb
  replace K_x := K_x.below bb
  clear bb
  clear mb_x
  clear K_x
  obtain ⟨s0, s1, s2, s3, s4, s5⟩ := six mb_s
  have hh_mb_s := Hid_mkW mb_s
  have hh_K_s := Hid_mkW K_s
  have hh_hB := Hid_mkW hB
  clear mb_s K_s hB
  go_wp2_with fail
  clear s0 s1 s2 s3 s4 s5
  have mb_s := hh_mb_s.out
  have K_s := hh_K_s.out
  have hB := hh_hB.out
  clear hh_mb_s hh_K_s hh_hB
  refine (sk_commit K_s HC.out.1 HC.out.2.1 HC.out.2.2).mono ?_
  rintro e w6 ⟨v, rfl, K_c, bb⟩
  obtain ⟨c_b, c_bc, c_r, c_rc, c_s, c_sc, c_f, c_fc, c_n, c_nc, rfl, hs_, hi_⟩ := K_c.parts
  clear hs_ hi_
  try dsimp only
  replace mb_s := cells_below mb_s bb (Array.getElem?_eq_some_iff.1 mb_s).1
  replace hB := Below.on hB bb
  replace K_s := K_s.below bb
  clear bb
  replace mb_s := cells_alloc mb_s (.cells #[.slice c_b BC.length c_bc, .int .i64 MC.guest, .slice c_r MC.root.length c_rc, .slice c_s MC.slots.length c_sc, .slice c_f MC.refs.length c_fc, .slice c_n MC.snaps.length c_nc] 29)
  have ba : Below w6.heap.size w6 (w6.alloc (.cells #[.slice c_b BC.length c_bc, .int .i64 MC.guest, .slice c_r MC.root.length c_rc, .slice c_s MC.slots.length c_sc, .slice c_f MC.refs.length c_fc, .slice c_n MC.snaps.length c_nc] 29)) := (Below.refl _ _).alloc (Nat.le_refl _) _
  replace hB := Below.on hB ba
  replace K_s := K_s.below ba
  replace K_c := K_c.below ba
  clear ba
  have mb_c : (w6.alloc (.cells #[.slice c_b BC.length c_bc, .int .i64 MC.guest, .slice c_r MC.root.length c_rc, .slice c_s MC.slots.length c_sc, .slice c_f MC.refs.length c_fc, .slice c_n MC.snaps.length c_nc] 29)).heap[w6.heap.size]? = some (.cells #[.slice c_b BC.length c_bc, .int .i64 MC.guest, .slice c_r MC.root.length c_rc, .slice c_s MC.slots.length c_sc, .slice c_f MC.refs.length c_fc, .slice c_n MC.snaps.length c_nc] 29) := World.alloc_heap_new _ _
  clear mb_s
  clear K_s
  clear mb_c
  clear K_c
  have hh_hB := Hid_mkW hB
  clear hB
  go_wp2_with fail
  have hB := hh_hB.out
  clear hh_hB
  refine (stackBegun_any _).mono ?_
  rintro e w7 ⟨rfl, bb⟩
  replace hB := Below.on hB bb
  clear bb
  have hh_hB := Hid_mkW hB
  clear hB
  go_wp2_with fail
  go_ret
  have hB := hh_hB.out
  exact ⟨rfl, hB⟩

theorem strue_is {v : Value} {b : List ByteArray} {m : ImgD} {w : World} (h : Stk w v b m) (n : Int) (page : ByteArray) (k : Int) : Calls Try.prog 3 #[v, .int .i64 n, .string page, .int .i64 k] w fun r w' => r = .returned (.bool true) ∧ Below w.heap.size w w' := by
  have h' := h
  obtain ⟨ba, bc, ra, rc, sa, sc, fa, fc, na, nc, rfl, _, _⟩ := h.parts
  have key : ∀ {BC : List ByteArray} {MC : ImgD}, ccE BC MC = 0 → pgs BC MC = BC → freshD MC.guest.toNat = MC → Hid (ccE BC MC = 0 ∧ (if ccE BC MC = 0 then pgs BC MC else []) = BC ∧ (if ccE BC MC = 0 then freshD MC.guest.toNat else imgZ) = MC) := fun h1 h2 h3 => ⟨h1, by rw [if_pos h1, h2], by rw [if_pos h1, h3]⟩
  by_cases ec : ccE b m = 0
  · obtain ⟨c1, c2, c3, c4, c5⟩ := cm_stack ec
    have HC : Hid (ccE b m = 0 ∧ (if ccE b m = 0 then pgs b m else []) = pgs b m ∧ (if ccE b m = 0 then freshD m.guest.toNat else imgZ) = freshD m.guest.toNat) := ⟨ec, if_pos ec, if_pos ec⟩
    by_cases ew : skE b m n page = 0
    · have hs : scE b m = 0 := by
        unfold skE at ew
        by_cases x : scE b m = 0
        · exact x
        · rw [if_pos x] at ew; exact ew
      have hne : ¬ scE b m ≠ 0 := by simpa using hs
      have hw : wrE m n page = 0 := by unfold skE at ew; rw [if_neg hne] at ew; exact ew
      have hM : skM b m n page = wrM m n page := by unfold skM; rw [if_neg hne]
      have hBB : skB b m n page = b := by unfold skB; rw [if_neg (by simpa using ew)]
      obtain ⟨d1, d2, d3, d4⟩ := wr_stack hs hw
      by_cases hkn : k = n
      · exact st_eq1 ba bc ra rc sa sc fa fc na nc b m n page k w h' _ _ ⟨rfl, rfl⟩ _ ⟨ew, hM, hBB⟩ _ ⟨d2, d3, (d4 k).1, rfl⟩ (by simpa using hkn) _ _ HC ⟨(c2 k).1, (c2 k).2⟩ (key c3 c4 c5) c1
      · exact st_ne1 ba bc ra rc sa sc fa fc na nc b m n page k w h' _ _ ⟨rfl, rfl⟩ _ ⟨ew, hM, hBB⟩ ⟨d2, d3, (d4 k).1, (d4 k).2 hkn⟩ (by simpa using hkn) _ _ HC ⟨(c2 k).1, (c2 k).2⟩ (key c3 c4 c5) c1
    · exact st_no1 ba bc ra rc sa sc fa fc na nc b m n page k w h' _ _ ⟨rfl, rfl⟩ _ _ _ ⟨rfl, rfl, rfl⟩ (by simpa using ew) _ _ HC ⟨(c2 k).1, (c2 k).2⟩ (key c3 c4 c5) c1
  · have hec : (ccE b m != 0) = true := by simpa using ec
    by_cases ew : skE b m n page = 0
    · have hs : scE b m = 0 := by
        unfold skE at ew
        by_cases x : scE b m = 0
        · exact x
        · rw [if_pos x] at ew; exact ew
      have hne : ¬ scE b m ≠ 0 := by simpa using hs
      have hw : wrE m n page = 0 := by unfold skE at ew; rw [if_neg hne] at ew; exact ew
      have hM : skM b m n page = wrM m n page := by unfold skM; rw [if_neg hne]
      have hBB : skB b m n page = b := by unfold skB; rw [if_neg (by simpa using ew)]
      obtain ⟨d1, d2, d3, d4⟩ := wr_stack hs hw
      by_cases hkn : k = n
      · exact st_eq0 ba bc ra rc sa sc fa fc na nc b m n page k w h' _ _ ⟨rfl, rfl⟩ _ ⟨ew, hM, hBB⟩ _ ⟨d2, d3, (d4 k).1, rfl⟩ (by simpa using hkn) _ _ _ ⟨rfl, rfl, rfl⟩ hec
      · exact st_ne0 ba bc ra rc sa sc fa fc na nc b m n page k w h' _ _ ⟨rfl, rfl⟩ _ ⟨ew, hM, hBB⟩ ⟨d2, d3, (d4 k).1, (d4 k).2 hkn⟩ (by simpa using hkn) _ _ _ ⟨rfl, rfl, rfl⟩ hec
    · exact st_no0 ba bc ra rc sa sc fa fc na nc b m n page k w h' _ _ ⟨rfl, rfl⟩ _ _ _ ⟨rfl, rfl, rfl⟩ (by simpa using ew) _ _ _ ⟨rfl, rfl, rfl⟩ hec
end Go.Proofs.Ytehleeibgkpjmaf
/- From the reading of an argument to what it holds: slices of integers, slots, slices of slots. -/
namespace Go.Proofs.Ytehleeibgkpjmaf
open Go.RowKit Go.Deep Go.ChangeShapes Go.WideShapes Go.ChangeAt
set_option maxRecDepth 20000

theorem cells27 : Try.prog.cellsOf 23 = 1 := by kernel_rfl
theorem cells3 : Try.prog.cellsOf 3 = 1 := by kernel_rfl
theorem cells9 : Try.prog.cellsOf 9 = 1 := by kernel_rfl
theorem cells29 : Try.prog.cellsOf 65 = 3 := by kernel_rfl

variable {H : Type} {enc : TypeId × Value → H} {w : World} {base : Nat} {spare : Nat → Bool} {held : Bool}

/-- The cells of a row by its address. -/
theorem row_at {w : World} {a : Addr} {n : Nat} {f : Nat → Value} (hn : 0 < n) (h : ∀ i, i < n → w.cell? (a.add i) = some (f i)) :
    ∃ b off, a = ⟨b, off, none⟩ ∧ b < w.heap.size ∧ ∀ i, i < n → w.cell? ⟨b, off + i, none⟩ = some (f i) := by
  have h0 := h 0 hn
  obtain ⟨b, off, spot⟩ := a
  have hspot : spot = none := by simpa [Addr.add] using World.cell?_spot h0
  subst hspot
  refine ⟨b, off, rfl, World.block_lt_of_cell? w _ (by rw [addr_add] at h0; exact h0), fun i hi => ?_⟩
  have := h i hi
  rw [addr_add] at this
  exact this

theorem sl_of_trod {n : Nat} {cs : List Value} {x : DataW H × List MemPlace} (h : DataW.trod enc Try.prog w base spare held n 23 cs = some x) : ∃ v xs, cs = [v] ∧ Sl w v xs := by
  rcases open_ints Try.underlying23 Try.underlying3 cells3 h with ⟨rfl, _⟩ | ⟨a, l, c, zs, rfl, _, hl, hm, hz, _, hcell, _⟩
  · exact ⟨_, [], rfl, Sl.nil w⟩
  · have hlz : l ≤ zs.length := by rw [hz]; split <;> omega
    have hlen : (zs.take l).length = l := by simp; omega
    refine ⟨_, zs.take l, rfl, some a, c, by rw [hlen], by rw [hlen]; omega, by rw [hlen]; exact hl, fun hne => ?_⟩
    have hpos : 0 < l := by
      rcases Nat.eq_zero_or_pos l with e | e
      · subst e; simp at hne
      · exact e
    obtain ⟨b, off, rfl, hb, hc⟩ := row_at (w := w) (a := a) (n := l) (f := fun i => .int .i64 (zs.getD i 0)) hpos (fun i hi => hcell i (by omega))
    refine ⟨b, off, rfl, hb, fun j hj => ?_⟩
    rw [hlen] at hj
    rw [hc j hj]
    simp [List.getD, hj]

set_option maxRecDepth 20000 in
theorem slot_of_trod {n : Nat} {cs : List Value} {x : DataW H × List MemPlace} (h : DataW.trod enc Try.prog w base spare held n 65 cs = some x) :
    ∃ k d tv xs, cs = [.int .i64 k, .string d, tv] ∧ Sl w tv xs := by
  obtain ⟨y0, y1, y2, m, _, hl, h0, h1, h2⟩ := trod_struct3 Try.underlying65 h
  rw [cells29] at hl
  match cs, hl with
  | [c0, c1, c2], _ =>
    simp only [cells3, cells9, cells27] at h0 h1 h2
    obtain ⟨k, e0, _, _⟩ := DataW.trod_int Try.underlying3 h0
    obtain ⟨d, e1, _, _⟩ := DataW.trod_string Try.underlying9 h1
    obtain ⟨tv, xs, e2, hs⟩ := sl_of_trod h2
    simp at e0 e1 e2
    subst e0 e1 e2
    exact ⟨k, d, _, xs, rfl, hs⟩

theorem slots_of_trod {n : Nat} {v : Value} {x : DataW H × List MemPlace} (h : DataW.trod enc Try.prog w base spare held n 24 [v] = some x) : ∃ L, Slots w v L := by
  rcases open_slice Try.underlying24 h with ⟨hv, _⟩ | ⟨a, len, cap, m, fuel, D, Pl, hv, _, hl, hm, hmm, _, hx⟩
  · simp at hv
    subst hv
    exact ⟨[], none, 0, rfl, Nat.zero_le _, Nat.zero_le _, fun h => absurd rfl h⟩
  · simp at hv
    subst hv
    rw [cells29] at hx
    have hx' : ∀ i, i < len → ∃ s : SlotD, ∃ tv, w.cell? (a.add (i * 3)) = some (.int .i64 s.1) ∧ w.cell? ((a.add (i * 3)).add 1) = some (.string s.2.1) ∧ w.cell? ((a.add (i * 3)).add 2) = some tv ∧ Sl w tv s.2.2 := by
      intro i hi
      obtain ⟨cs', h1, h2⟩ := hx i (by rw [hmm]; split <;> omega)
      obtain ⟨k, d, tv, xs, rfl, hs⟩ := slot_of_trod h2
      obtain ⟨_, _, hc⟩ := World.cells?_some h1
      have c0 := hc 0 (by omega)
      have c1 := hc 1 (by omega)
      have c2 := hc 2 (by omega)
      exact ⟨(k, d, xs), tv, by simpa [Addr.add] using c0, c1, c2, hs⟩
    obtain ⟨f, hf⟩ := choose_lt hx'
    have hlen : ((List.range len).map f).length = len := by simp
    refine ⟨(List.range len).map f, some a, cap, by rw [hlen], by rw [hlen]; omega, by rw [hlen]; exact hl, fun hne => ?_⟩
    have hpos : 0 < len := by
      rcases Nat.eq_zero_or_pos len with e | e
      · subst e; simp at hne
      · exact e
    obtain ⟨tv0, c0, _⟩ := hf 0 hpos
    obtain ⟨b, off, spot⟩ := a
    have hspot : spot = none := by simpa [Addr.add] using World.cell?_spot c0
    subst hspot
    refine ⟨b, off, rfl, World.block_lt_of_cell? w _ (by rw [addr_add] at c0; exact c0), fun j hj => ?_⟩
    rw [hlen] at hj
    obtain ⟨tv, c0, c1, c2, hs⟩ := hf j hj
    rw [addr_add] at c0 c1 c2
    rw [addr_add] at c1 c2
    have e : ((List.range len).map f)[j]'(by rw [hlen]; exact hj) = f j := by simp
    rw [e]
    exact ⟨tv, c0, c1, c2, hs⟩
end Go.Proofs.Ytehleeibgkpjmaf
/- From the reading of an argument to what it holds: snapshots, slices of them, images. -/
namespace Go.Proofs.Ytehleeibgkpjmaf
open Go.RowKit Go.Deep Go.ChangeShapes Go.WideShapes Go.ChangeAt
set_option maxRecDepth 20000

theorem cellsSnap : Try.prog.cellsOf 86 = 3 := by kernel_rfl
theorem cellsSnaps : Try.prog.cellsOf 25 = 1 := by kernel_rfl
theorem cellsSlots : Try.prog.cellsOf 24 = 1 := by kernel_rfl
theorem cellsImage : Try.prog.cellsOf 27 = 5 := by kernel_rfl

variable {H : Type} {enc : TypeId × Value → H} {w : World} {base : Nat} {spare : Nat → Bool} {held : Bool}

set_option maxRecDepth 20000 in
theorem snap_of_trod {n : Nat} {cs : List Value} {x : DataW H × List MemPlace} (h : DataW.trod enc Try.prog w base spare held n 86 cs = some x) :
    ∃ d k tv xs, cs = [.string d, .int .i64 k, tv] ∧ Sl w tv xs := by
  obtain ⟨y0, y1, y2, m, _, hl, h0, h1, h2⟩ := trod_struct3 Try.underlying86 h
  rw [cellsSnap] at hl
  match cs, hl with
  | [c0, c1, c2], _ =>
    simp only [cells3, cells9, cells27] at h0 h1 h2
    obtain ⟨d, e0, _, _⟩ := DataW.trod_string Try.underlying9 h0
    obtain ⟨k, e1, _, _⟩ := DataW.trod_int Try.underlying3 h1
    obtain ⟨tv, xs, e2, hs⟩ := sl_of_trod h2
    simp at e0 e1 e2
    subst e0 e1 e2
    exact ⟨d, k, _, xs, rfl, hs⟩

theorem snaps_of_trod {n : Nat} {v : Value} {x : DataW H × List MemPlace} (h : DataW.trod enc Try.prog w base spare held n 25 [v] = some x) : ∃ L, Snaps w v L := by
  rcases open_slice Try.underlying25 h with ⟨hv, _⟩ | ⟨a, len, cap, m, fuel, D, Pl, hv, _, hl, hm, hmm, _, hx⟩
  · simp at hv
    subst hv
    exact ⟨[], none, 0, rfl, Nat.zero_le _, Nat.zero_le _, fun h => absurd rfl h⟩
  · simp at hv
    subst hv
    rw [cellsSnap] at hx
    have hx' : ∀ i, i < len → ∃ s : SnapD, ∃ tv, w.cell? (a.add (i * 3)) = some (.string s.1) ∧ w.cell? ((a.add (i * 3)).add 1) = some (.int .i64 s.2.1) ∧ w.cell? ((a.add (i * 3)).add 2) = some tv ∧ Sl w tv s.2.2 := by
      intro i hi
      obtain ⟨cs', h1, h2⟩ := hx i (by rw [hmm]; split <;> omega)
      obtain ⟨k, d, tv, xs, rfl, hs⟩ := snap_of_trod h2
      obtain ⟨_, _, hc⟩ := World.cells?_some h1
      have c0 := hc 0 (by omega)
      have c1 := hc 1 (by omega)
      have c2 := hc 2 (by omega)
      exact ⟨(k, d, xs), tv, by simpa [Addr.add] using c0, c1, c2, hs⟩
    obtain ⟨f, hf⟩ := choose_lt hx'
    have hlen : ((List.range len).map f).length = len := by simp
    refine ⟨(List.range len).map f, some a, cap, by rw [hlen], by rw [hlen]; omega, by rw [hlen]; exact hl, fun hne => ?_⟩
    have hpos : 0 < len := by
      rcases Nat.eq_zero_or_pos len with e | e
      · subst e; simp at hne
      · exact e
    obtain ⟨tv0, c0, _⟩ := hf 0 hpos
    obtain ⟨b, off, spot⟩ := a
    have hspot : spot = none := by simpa [Addr.add] using World.cell?_spot c0
    subst hspot
    refine ⟨b, off, rfl, World.block_lt_of_cell? w _ (by rw [addr_add] at c0; exact c0), fun j hj => ?_⟩
    rw [hlen] at hj
    obtain ⟨tv, c0, c1, c2, hs⟩ := hf j hj
    rw [addr_add] at c0 c1 c2
    rw [addr_add] at c1 c2
    have e : ((List.range len).map f)[j]'(by rw [hlen]; exact hj) = f j := by simp
    rw [e]
    exact ⟨tv, c0, c1, c2, hs⟩

theorem trod_struct5 {P : Program} {t : TypeId} {f0 f1 f2 f3 f4 : Field} {fuel : Nat} {cs : List Value} {x : DataW H × List MemPlace} (ht : P.underlying t = some (.struct #[f0, f1, f2, f3, f4])) (h : DataW.trod enc P w base spare held fuel t cs = some x) :
    ∃ y0 y1 y2 y3 y4 n, cs.length = P.cellsOf t ∧ DataW.trod enc P w base spare held n f0.type ((cs.drop f0.offset).take (P.cellsOf f0.type)) = some y0 ∧
      DataW.trod enc P w base spare held n f1.type ((cs.drop f1.offset).take (P.cellsOf f1.type)) = some y1 ∧ DataW.trod enc P w base spare held n f2.type ((cs.drop f2.offset).take (P.cellsOf f2.type)) = some y2 ∧
      DataW.trod enc P w base spare held n f3.type ((cs.drop f3.offset).take (P.cellsOf f3.type)) = some y3 ∧ DataW.trod enc P w base spare held n f4.type ((cs.drop f4.offset).take (P.cellsOf f4.type)) = some y4 := by
  obtain ⟨xs, n, _, rfl, hl, hlen, hf⟩ := DataW.trod_struct ht h
  match xs, hlen with
  | [y0, y1, y2, y3, y4], _ => exact ⟨y0, y1, y2, y3, y4, n, hl, by simpa using hf 0 f0 rfl, by simpa using hf 1 f1 rfl, by simpa using hf 2 f2 rfl, by simpa using hf 3 f3 rfl, by simpa using hf 4 f4 rfl⟩
set_option maxRecDepth 20000 in
theorem img_of_trod {n : Nat} {cs : List Value} {x : DataW H × List MemPlace} (h : DataW.trod enc Try.prog w base spare held n 27 cs = some x) : ∃ g rv sv fv nv, cs = [.int .i64 g, rv, sv, fv, nv] ∧ ∃ r L F S, Sl w rv r ∧ Slots w sv L ∧ Sl w fv F ∧ Snaps w nv S := by
  obtain ⟨y0, y1, y2, y3, y4, m, hl, h0, h1, h2, h3, h4⟩ := trod_struct5 Try.underlying27 h
  rw [cellsImage] at hl
  match cs, hl with
  | [c0, c1, c2, c3, c4], _ =>
    simp only [cells3] at h0
    simp only [cells27] at h1 h3
    simp only [cellsSlots] at h2
    simp only [cellsSnaps] at h4
    obtain ⟨g, e0, _, _⟩ := DataW.trod_int Try.underlying3 h0
    obtain ⟨rv, r, e1, hr⟩ := sl_of_trod h1
    obtain ⟨L, hL⟩ := slots_of_trod (v := c2) h2
    obtain ⟨fv, F, e3, hF⟩ := sl_of_trod h3
    obtain ⟨S, hS⟩ := snaps_of_trod (v := c4) h4
    simp at e0 e1 e3
    subst e0 e1 e3
    exact ⟨g, _, _, _, _, rfl, r, L, F, S, hr, hL, hF, hS⟩
end Go.Proofs.Ytehleeibgkpjmaf
/- From the reading of an argument to what it holds: slices of strings. -/
namespace Go.Proofs.Ytehleeibgkpjmaf
open Go.RowKit Go.ChangeShapes Go.WideShapes Go.ChangeAt
set_option maxRecDepth 20000

theorem cellsStr : Try.prog.cellsOf 9 = 1 := by kernel_rfl
variable {H : Type} {enc : TypeId × Value → H} {w : World} {base : Nat} {spare : Nat → Bool} {held : Bool}

theorem ss_of_trod {n : Nat} {cs : List Value} {x : DataW H × List MemPlace} (h : DataW.trod enc Try.prog w base spare held n 22 cs = some x) : ∃ v xs, cs = [v] ∧ Ss w v xs ∧ ∀ s ∈ xs, s.size ≤ maxLen := by
  rcases open_strings Try.underlying22 Try.underlying9 cellsStr h with ⟨rfl, _⟩ | ⟨a, l, c, ss, rfl, _, hl, hm, hz, _, hcell, hws⟩
  · exact ⟨_, [], rfl, Ss.nil w, by simp⟩
  · have hlz : l ≤ ss.length := by rw [hz]; split <;> omega
    have hlen : (ss.take l).length = l := by simp; omega
    refine ⟨_, ss.take l, rfl, ⟨some a, c, by rw [hlen], by rw [hlen]; omega, by rw [hlen]; exact hl, fun hne => ?_⟩, fun s hs => hws s (List.mem_of_mem_take hs)⟩
    have hpos : 0 < l := by
      rcases Nat.eq_zero_or_pos l with e | e
      · subst e; simp at hne
      · exact e
    have h0 := hcell 0 (by omega)
    obtain ⟨b, off, spot⟩ := a
    have hspot : spot = none := by simpa [Addr.add] using World.cell?_spot h0
    subst hspot
    refine ⟨b, off, rfl, World.block_lt_of_cell? w _ (by rw [addr_add] at h0; exact h0), fun j hj => ?_⟩
    rw [hlen] at hj
    have hj' := hcell j (by omega)
    rw [addr_add] at hj'
    rw [hj']
    simp [List.getD, hj]

end Go.Proofs.Ytehleeibgkpjmaf
/- From the reading of an argument to what it holds: stacks. -/
namespace Go.Proofs.Ytehleeibgkpjmaf
open Go.RowKit Go.Deep Go.ChangeShapes Go.WideShapes Go.ChangeAt
set_option maxRecDepth 20000

theorem cellsStack : Try.prog.cellsOf 29 = 6 := by kernel_rfl
theorem cellsStrs : Try.prog.cellsOf 22 = 1 := by kernel_rfl

variable {H : Type} {enc : TypeId × Value → H} {w : World} {base : Nat} {spare : Nat → Bool} {held : Bool}

theorem trod_struct2 {P : Program} {t : TypeId} {f0 f1 : Field} {fuel : Nat} {cs : List Value} {x : DataW H × List MemPlace} (ht : P.underlying t = some (.struct #[f0, f1])) (h : DataW.trod enc P w base spare held fuel t cs = some x) :
    ∃ y0 y1 n, cs.length = P.cellsOf t ∧ DataW.trod enc P w base spare held n f0.type ((cs.drop f0.offset).take (P.cellsOf f0.type)) = some y0 ∧ DataW.trod enc P w base spare held n f1.type ((cs.drop f1.offset).take (P.cellsOf f1.type)) = some y1 := by
  obtain ⟨xs, n, _, rfl, hl, hlen, hf⟩ := DataW.trod_struct ht h
  match xs, hlen with
  | [y0, y1], _ => exact ⟨y0, y1, n, hl, by simpa using hf 0 f0 rfl, by simpa using hf 1 f1 rfl⟩
set_option maxRecDepth 20000 in
theorem stk_of_trod {n : Nat} {cs : List Value} {x : DataW H × List MemPlace} (h : DataW.trod enc Try.prog w base spare held n 29 cs = some x) : ∃ bv g rv sv fv nv, cs = [bv, .int .i64 g, rv, sv, fv, nv] ∧ ∃ b r L F S, Ss w bv b ∧ Sl w rv r ∧ Slots w sv L ∧ Sl w fv F ∧ Snaps w nv S := by
  obtain ⟨y0, y1, m, hl, h0, h1⟩ := trod_struct2 Try.underlying29 h
  rw [cellsStack] at hl
  match cs, hl with
  | [c0, c1, c2, c3, c4, c5], _ =>
    simp only [cellsStrs] at h0
    simp only [cellsImage] at h1
    have h0 : DataW.trod enc Try.prog w base spare held m 22 [c0] = some y0 := h0
    have h1 : DataW.trod enc Try.prog w base spare held m 27 [c1, c2, c3, c4, c5] = some y1 := h1
    obtain ⟨g, rv, sv, fv, nv, e, r, L, F, S, k1, k2, k3, k4⟩ := img_of_trod h1
    simp at e
    obtain ⟨rfl, rfl, rfl, rfl, rfl⟩ := e
    obtain ⟨bv, b, eb, hb, _⟩ := ss_of_trod h0
    simp at eb
    subst eb
    exact ⟨_, g, _, _, _, _, rfl, b, r, L, F, S, hb, k1, k2, k3, k4⟩
theorem stk_of_arg {r : Reach} {b0 : Nat} {v : Value} {d : DataW H} {p : List MemPlace} (hv : Value.okWide Try.prog w r b0 29 v) (h : DataW.Trod enc Try.prog w base spare held 29 v d p) : ∃ b m, Stk w v b m := by
  obtain ⟨cs, rfl, hsz⟩ := okWide_struct Try.underlying29 hv
  obtain ⟨fuel, hf⟩ := h
  obtain ⟨bv, g, rv, sv, fv, nv, e, b, r, L, F, S, h0, h1, h2, h3, h4⟩ := stk_of_trod hf
  have e' : cs.toList = [bv, .int .i64 g, rv, sv, fv, nv] := by simpa [Value.cells] using e
  cases cs
  simp at e'
  exact ⟨b, ⟨g, r, L, F, S⟩, bv, rv, sv, fv, nv, by rw [e'], h0, rv, sv, fv, nv, rfl, h1, h2, h3, h4⟩
end Go.Proofs.Ytehleeibgkpjmaf
