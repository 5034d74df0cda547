/- Texts joined: SameI, WiV, WbK, SlotsIn, ImgIn. -/
import Derived.Test.YtehleeibgkpjmagWireBackJ3
import Derived.Test.YtehleeibgkpjmagWireBackJ7
import Derived.Deep.RegionHeld3
import Derived.Deep.RegionHeld
import Derived.Test.YtehleeibgkpjmagWireBackJ1
import Derived.Deep.Strs
import Derived.Deep.Slices
import Derived.ProofKit
set_option linter.unusedVariables false
set_option linter.unusedSimpArgs false
/- Contract of SameImages: of one image, wherever it lies twice. -/
namespace Go.Proofs.Ytehleeibgkpjmag
open Go.RowKit Go.Shelf
set_option maxRecDepth 20000

set_option maxHeartbeats 4000000 in
theorem sameI_at (m : ImgD) (ra : Option Addr) (rc : Nat) (sa : Option Addr) (sc : Nat) (fa : Option Addr) (fc : Nat) (na : Option Addr) (nc : Nat) (rb : Option Addr) (rd : Nat) (sb : Option Addr) (sd : Nat) (fb : Option Addr) (fd : Nat) (nb : Option Addr) (nd : Nat) (w : World)
    (h1 : Sl w (.slice ra m.root.length rc) m.root) (h2 : Slots w (.slice sa m.slots.length sc) m.slots) (h3 : Sl w (.slice fa m.refs.length fc) m.refs) (h4 : Snaps w (.slice na m.snaps.length nc) m.snaps)
    (k1 : Sl w (.slice rb m.root.length rd) m.root) (k2 : Slots w (.slice sb m.slots.length sd) m.slots) (k3 : Sl w (.slice fb m.refs.length fd) m.refs) (k4 : Snaps w (.slice nb m.snaps.length nd) m.snaps) :
    Calls Try.prog 16 #[.agg #[.int .i64 m.guest, .slice ra m.root.length rc, .slice sa m.slots.length sc, .slice fa m.refs.length fc, .slice na m.snaps.length nc], .agg #[.int .i64 m.guest, .slice rb m.root.length rd, .slice sb m.slots.length sd, .slice fb m.refs.length fd, .slice nb m.snaps.length nd]] w fun r w' => r = .returned (.bool true) ∧ Below w.heap.size w w' := by
  have b0 : Below w.heap.size w ((w.alloc (.cells #[.int .i64 m.guest, .slice ra m.root.length rc, .slice sa m.slots.length sc, .slice fa m.refs.length fc, .slice na m.snaps.length nc] 26)).alloc (.cells #[.int .i64 m.guest, .slice rb m.root.length rd, .slice sb m.slots.length sd, .slice fb m.refs.length fd, .slice nb m.snaps.length nd] 26)) := ((Below.refl _ _).alloc (Nat.le_refl _) _).alloc (by simp) _
  have m0 : ((w.alloc (.cells #[.int .i64 m.guest, .slice ra m.root.length rc, .slice sa m.slots.length sc, .slice fa m.refs.length fc, .slice na m.snaps.length nc] 26)).alloc (.cells #[.int .i64 m.guest, .slice rb m.root.length rd, .slice sb m.slots.length sd, .slice fb m.refs.length fd, .slice nb m.snaps.length nd] 26)).heap[w.heap.size]? = some (.cells #[.int .i64 m.guest, .slice ra m.root.length rc, .slice sa m.slots.length sc, .slice fa m.refs.length fc, .slice na m.snaps.length nc] 26) := cells_alloc (World.alloc_heap_new _ _) _
  have m1 : ((w.alloc (.cells #[.int .i64 m.guest, .slice ra m.root.length rc, .slice sa m.slots.length sc, .slice fa m.refs.length fc, .slice na m.snaps.length nc] 26)).alloc (.cells #[.int .i64 m.guest, .slice rb m.root.length rd, .slice sb m.slots.length sd, .slice fb m.refs.length fd, .slice nb m.snaps.length nd] 26)).heap[w.heap.size + 1]? = some (.cells #[.int .i64 m.guest, .slice rb m.root.length rd, .slice sb m.slots.length sd, .slice fb m.refs.length fd, .slice nb m.snaps.length nd] 26) := by have := World.alloc_heap_new (w.alloc (.cells #[.int .i64 m.guest, .slice ra m.root.length rc, .slice sa m.slots.length sc, .slice fa m.refs.length fc, .slice na m.snaps.length nc] 26)) (.cells #[.int .i64 m.guest, .slice rb m.root.length rd, .slice sb m.slots.length sd, .slice fb m.refs.length fd, .slice nb m.snaps.length nd] 26); simpa using this
  obtain ⟨c0, c1, c2, c3, c4⟩ := five m0
  obtain ⟨d0, d1, d2, d3, d4⟩ := five m1
  have HR := same_any (h1.below b0) (k1.below b0)
  have HF := fun W (hW : Below w.heap.size w W) => same_any (h3.below hW) (k3.below hW)
  have HS : Hid (Slots w (.slice sa m.slots.length sc) m.slots ∧ Slots w (.slice sb m.slots.length sd) m.slots ∧ Snaps w (.slice na m.snaps.length nc) m.snaps ∧ Snaps w (.slice nb m.snaps.length nd) m.snaps) := ⟨h2, k2, h4, k4⟩
  have HL : Hid (m.slots.length ≤ 9223372036854775807 ∧ m.snaps.length ≤ 9223372036854775807) := ⟨h2.small, h4.small⟩
  clear h1 h2 h3 h4 k1 k2 k3 k4
  go_enter Try.func16, Try.ntmps16
  go_wp2_with (first
    | (go_at_call 33; refine (HF _ bw1).mono ?_; rintro e w2 ⟨rfl, b2⟩; have m4 := cells_below m2 b2 (Array.getElem?_eq_some_iff.1 m2).1; have m5 := cells_below m3 b2 (Array.getElem?_eq_some_iff.1 m3).1; obtain ⟨g0, g1, g2, g3, g4⟩ := five m4; obtain ⟨i0, i1, i2, i3, i4⟩ := five m5; have bw2 := Below.on bw1 b2)
    | (go_at_call 33; refine HR.mono ?_; rintro e w1 ⟨rfl, b1⟩; have m2 := cells_below m0 b1 (by simp <;> omega); have m3 := cells_below m1 b1 (by simp <;> omega); obtain ⟨e0, e1, e2, e3, e4⟩ := five m2; obtain ⟨f0, f1, f2, f3, f4⟩ := five m3; have bw1 := Below.on b0 b1))
  have HB : Hid (w2.heap[w.heap.size]? = some (.cells #[.int .i64 m.guest, .slice ra m.root.length rc, .slice sa m.slots.length sc, .slice fa m.refs.length fc, .slice na m.snaps.length nc] 26) ∧ w2.heap[w.heap.size + 1]? = some (.cells #[.int .i64 m.guest, .slice rb m.root.length rd, .slice sb m.slots.length sd, .slice fb m.refs.length fd, .slice nb m.snaps.length nd] 26) ∧ Below w.heap.size w w2) := ⟨m4, m5, bw2⟩
  clear c0 c1 c2 c3 c4 d0 d1 d2 d3 d4 e0 e1 e2 e3 e4 f0 f1 f2 f3 f4 g0 g1 g2 g3 g4 i0 i1 i2 i3 i4 m0 m1 m2 m3 m4 m5 b0 b1 b2 bw1 bw2 HR HF
  go_loopw [5] (fun i wr => ∃ k : Nat, k ≤ m.slots.length ∧ i = .int .i64 k ∧ Hid (wr.heap[w.heap.size]? = some (.cells #[.int .i64 m.guest, .slice ra m.root.length rc, .slice sa m.slots.length sc, .slice fa m.refs.length fc, .slice na m.snaps.length nc] 26) ∧ wr.heap[w.heap.size + 1]? = some (.cells #[.int .i64 m.guest, .slice rb m.root.length rd, .slice sb m.slots.length sd, .slice fb m.refs.length fd, .slice nb m.snaps.length nd] 26) ∧ Below w.heap.size w wr)) (fun i _ => m.slots.length - (intOf i).toNat)
  case atStart => exact ⟨0, Nat.zero_le _, rfl, HB⟩
  case round =>
    obtain ⟨k, hk, rfl, HC⟩ := hrel
    obtain ⟨mA, mB, hb⟩ := HC.out
    obtain ⟨c0, c1, c2, c3, c4⟩ := five mA
    obtain ⟨d0, d1, d2, d3, d4⟩ := five mB
    have hL := HL.out.1
    by_cases hlk : k < m.slots.length
    · have hki : (k : Int) < (m.slots.length : Int) := by omega
      have hL1 : (k : Int) + 1 ≤ 9223372036854775807 := by omega
      obtain ⟨pb, po, pc, e, _, hpl, hps⟩ := HS.out.1.open (by omega)
      simp at e
      obtain ⟨rfl, rfl⟩ := e
      obtain ⟨qb, qo, qc, e, _, hql, hqs⟩ := HS.out.2.1.open (by omega)
      simp at e
      obtain ⟨rfl, rfl⟩ := e
      obtain ⟨s, hs⟩ : ∃ s, m.slots[k] = s := ⟨_, rfl⟩
      obtain ⟨kk, dd, tt⟩ := s
      obtain ⟨tv, p0, p1, p2, ps⟩ := hps k hlk
      obtain ⟨uv, q0, q1, q2, qs⟩ := hqs k hlk
      rw [hs] at p0 p1 ps q0 q1 qs
      obtain ⟨ta, tc, rfl⟩ := ps.form
      obtain ⟨ua, uc, rfl⟩ := qs.form
      have p0 : wr.cell? ⟨pb, po + k * 3, none⟩ = some (.int .i64 kk) := (hb.cell (p := ⟨pb, po + k * 3, none⟩) hpl).trans p0
      have p1 : wr.cell? ⟨pb, po + k * 3 + 1, none⟩ = some (.string dd) := (hb.cell (p := ⟨pb, po + k * 3 + 1, none⟩) hpl).trans p1
      have p2 : wr.cell? ⟨pb, po + k * 3 + 1 + 1, none⟩ = some (.slice ta tt.length tc) := (hb.cell (p := ⟨pb, po + k * 3 + 1 + 1, none⟩) hpl).trans p2
      have q0 : wr.cell? ⟨qb, qo + k * 3, none⟩ = some (.int .i64 kk) := (hb.cell (p := ⟨qb, qo + k * 3, none⟩) hql).trans q0
      have q1 : wr.cell? ⟨qb, qo + k * 3 + 1, none⟩ = some (.string dd) := (hb.cell (p := ⟨qb, qo + k * 3 + 1, none⟩) hql).trans q1
      have q2 : wr.cell? ⟨qb, qo + k * 3 + 1 + 1, none⟩ = some (.slice ua tt.length uc) := (hb.cell (p := ⟨qb, qo + k * 3 + 1 + 1, none⟩) hql).trans q2
      have hcall := same_any (w := wr.drew) (ps.below (to_drew hb)) (qs.below (to_drew hb))
      have hpw : pb < wr.heap.size := Nat.lt_of_lt_of_le hpl hb.size
      have hqw : qb < wr.heap.size := Nat.lt_of_lt_of_le hql hb.size
      have HN : Hid (∀ W, Below wr.heap.size wr W → W.heap[w.heap.size]? = some (.cells #[.int .i64 m.guest, .slice ra m.root.length rc, .slice (some ⟨pb, po, none⟩) m.slots.length sc, .slice fa m.refs.length fc, .slice na m.snaps.length nc] 26) ∧ W.heap[w.heap.size + 1]? = some (.cells #[.int .i64 m.guest, .slice rb m.root.length rd, .slice (some ⟨qb, qo, none⟩) m.slots.length sd, .slice fb m.refs.length fd, .slice nb m.snaps.length nd] 26) ∧ Below w.heap.size w W) := fun W hW => ⟨cells_below mA hW (Array.getElem?_eq_some_iff.1 mA).1, cells_below mB hW (Array.getElem?_eq_some_iff.1 mB).1, Below.on hb hW⟩
      have HK : Hid (∀ W, Below wr.heap.size wr W → W.cell? ⟨w.heap.size, 0 + 1 + 1, none⟩ = some (.slice (some ⟨pb, po, none⟩) m.slots.length sc) ∧ W.cell? ⟨w.heap.size + 1, 0 + 1 + 1, none⟩ = some (.slice (some ⟨qb, qo, none⟩) m.slots.length sd) ∧ W.cell? ⟨pb, po + k * 3, none⟩ = some (.int .i64 kk) ∧ W.cell? ⟨pb, po + k * 3 + 1, none⟩ = some (.string dd) ∧ W.cell? ⟨pb, po + k * 3 + 1 + 1, none⟩ = some (.slice ta tt.length tc) ∧ W.cell? ⟨qb, qo + k * 3, none⟩ = some (.int .i64 kk) ∧ W.cell? ⟨qb, qo + k * 3 + 1, none⟩ = some (.string dd) ∧ W.cell? ⟨qb, qo + k * 3 + 1 + 1, none⟩ = some (.slice ua tt.length uc)) := fun W hW => ⟨(hW.cell (p := ⟨w.heap.size, 0 + 1 + 1, none⟩) (Array.getElem?_eq_some_iff.1 mA).1).trans c2, (hW.cell (p := ⟨w.heap.size + 1, 0 + 1 + 1, none⟩) (Array.getElem?_eq_some_iff.1 mB).1).trans d2, (hW.cell (p := ⟨pb, po + k * 3, none⟩) hpw).trans p0, (hW.cell (p := ⟨pb, po + k * 3 + 1, none⟩) hpw).trans p1, (hW.cell (p := ⟨pb, po + k * 3 + 1 + 1, none⟩) hpw).trans p2, (hW.cell (p := ⟨qb, qo + k * 3, none⟩) hqw).trans q0, (hW.cell (p := ⟨qb, qo + k * 3 + 1, none⟩) hqw).trans q1, (hW.cell (p := ⟨qb, qo + k * 3 + 1 + 1, none⟩) hqw).trans q2⟩
      clear hs mA mB ps qs hps hqs
      go_wp2_with fail
      go_region_held3 (fun W => W.cell? ⟨w.heap.size, 0 + 1 + 1, none⟩ = some (.slice (some ⟨pb, po, none⟩) m.slots.length sc) ∧ W.cell? ⟨w.heap.size + 1, 0 + 1 + 1, none⟩ = some (.slice (some ⟨qb, qo, none⟩) m.slots.length sd) ∧ W.cell? ⟨pb, po + k * 3, none⟩ = some (.int .i64 kk) ∧ W.cell? ⟨pb, po + k * 3 + 1, none⟩ = some (.string dd) ∧ W.cell? ⟨pb, po + k * 3 + 1 + 1, none⟩ = some (.slice ta tt.length tc) ∧ W.cell? ⟨qb, qo + k * 3, none⟩ = some (.int .i64 kk) ∧ W.cell? ⟨qb, qo + k * 3 + 1, none⟩ = some (.string dd) ∧ W.cell? ⟨qb, qo + k * 3 + 1 + 1, none⟩ = some (.slice ua tt.length uc)) (first | exact HK.out _ b3 | exact HK.out _ (to_drew (Below.refl _ _)))
        (first | (go_at_call 33; refine hcall.mono ?_; rintro e w3 ⟨rfl, b3⟩; have b3 := below_drew b3))
      go_wp2_with fail
      go_roundw
      case rel => exact ⟨k + 1, by omega, by go_num, HN.out _ b3⟩
      case measure => simp [intOf]; omega
    · have ek : k = m.slots.length := by omega
      subst ek
      obtain ⟨x, hrn⟩ : ∃ X, X = wr := ⟨_, rfl⟩
      subst hrn
      go_wp2_with fail
      clear c0 c1 c2 c3 c4 d0 d1 d2 d3 d4 mA mB hb hL
      go_loopw [6] (fun i wr => ∃ l : Nat, l ≤ m.snaps.length ∧ i = .int .i64 l ∧ Hid (wr.heap[w.heap.size]? = some (.cells #[.int .i64 m.guest, .slice ra m.root.length rc, .slice sa m.slots.length sc, .slice fa m.refs.length fc, .slice na m.snaps.length nc] 26) ∧ wr.heap[w.heap.size + 1]? = some (.cells #[.int .i64 m.guest, .slice rb m.root.length rd, .slice sb m.slots.length sd, .slice fb m.refs.length fd, .slice nb m.snaps.length nd] 26) ∧ Below w.heap.size w wr)) (fun i _ => m.snaps.length - (intOf i).toNat)
      case atStart => exact ⟨0, Nat.zero_le _, rfl, HC⟩
      case round =>
        obtain ⟨l, hl, rfl, HD⟩ := hrel
        obtain ⟨mA, mB, hb⟩ := HD.out
        obtain ⟨c0, c1, c2, c3, c4⟩ := five mA
        obtain ⟨d0, d1, d2, d3, d4⟩ := five mB
        have hL := HL.out.2
        by_cases hll : l < m.snaps.length
        · have hki : (l : Int) < (m.snaps.length : Int) := by omega
          have hL1 : (l : Int) + 1 ≤ 9223372036854775807 := by omega
          obtain ⟨pb, po, pc, e, _, hpl, hps⟩ := HS.out.2.2.1.open (by omega)
          simp at e
          obtain ⟨rfl, rfl⟩ := e
          obtain ⟨qb, qo, qc, e, _, hql, hqs⟩ := HS.out.2.2.2.open (by omega)
          simp at e
          obtain ⟨rfl, rfl⟩ := e
          obtain ⟨s, hs⟩ : ∃ s, m.snaps[l] = s := ⟨_, rfl⟩
          obtain ⟨nm, sg, tt⟩ := s
          obtain ⟨tv, p0, p1, p2, ps⟩ := hps l hll
          obtain ⟨uv, q0, q1, q2, qs⟩ := hqs l hll
          rw [hs] at p0 p1 ps q0 q1 qs
          obtain ⟨ta, tc, rfl⟩ := ps.form
          obtain ⟨ua, uc, rfl⟩ := qs.form
          have p0 : wr.cell? ⟨pb, po + l * 3, none⟩ = some (.string nm) := (hb.cell (p := ⟨pb, po + l * 3, none⟩) hpl).trans p0
          have p1 : wr.cell? ⟨pb, po + l * 3 + 1, none⟩ = some (.int .i64 sg) := (hb.cell (p := ⟨pb, po + l * 3 + 1, none⟩) hpl).trans p1
          have p2 : wr.cell? ⟨pb, po + l * 3 + 1 + 1, none⟩ = some (.slice ta tt.length tc) := (hb.cell (p := ⟨pb, po + l * 3 + 1 + 1, none⟩) hpl).trans p2
          have q0 : wr.cell? ⟨qb, qo + l * 3, none⟩ = some (.string nm) := (hb.cell (p := ⟨qb, qo + l * 3, none⟩) hql).trans q0
          have q1 : wr.cell? ⟨qb, qo + l * 3 + 1, none⟩ = some (.int .i64 sg) := (hb.cell (p := ⟨qb, qo + l * 3 + 1, none⟩) hql).trans q1
          have q2 : wr.cell? ⟨qb, qo + l * 3 + 1 + 1, none⟩ = some (.slice ua tt.length uc) := (hb.cell (p := ⟨qb, qo + l * 3 + 1 + 1, none⟩) hql).trans q2
          have hcall := same_any (w := wr.drew) (ps.below (to_drew hb)) (qs.below (to_drew hb))
          have hpw : pb < wr.heap.size := Nat.lt_of_lt_of_le hpl hb.size
          have hqw : qb < wr.heap.size := Nat.lt_of_lt_of_le hql hb.size
          have HN : Hid (∀ W, Below wr.heap.size wr W → W.heap[w.heap.size]? = some (.cells #[.int .i64 m.guest, .slice ra m.root.length rc, .slice sa m.slots.length sc, .slice fa m.refs.length fc, .slice (some ⟨pb, po, none⟩) m.snaps.length nc] 26) ∧ W.heap[w.heap.size + 1]? = some (.cells #[.int .i64 m.guest, .slice rb m.root.length rd, .slice sb m.slots.length sd, .slice fb m.refs.length fd, .slice (some ⟨qb, qo, none⟩) m.snaps.length nd] 26) ∧ Below w.heap.size w W) := fun W hW => ⟨cells_below mA hW (Array.getElem?_eq_some_iff.1 mA).1, cells_below mB hW (Array.getElem?_eq_some_iff.1 mB).1, Below.on hb hW⟩
          have HK : Hid (∀ W, Below wr.heap.size wr W → W.cell? ⟨w.heap.size, 0 + 1 + 1 + 1 + 1, none⟩ = some (.slice (some ⟨pb, po, none⟩) m.snaps.length nc) ∧ W.cell? ⟨w.heap.size + 1, 0 + 1 + 1 + 1 + 1, none⟩ = some (.slice (some ⟨qb, qo, none⟩) m.snaps.length nd) ∧ W.cell? ⟨pb, po + l * 3, none⟩ = some (.string nm) ∧ W.cell? ⟨pb, po + l * 3 + 1, none⟩ = some (.int .i64 sg) ∧ W.cell? ⟨pb, po + l * 3 + 1 + 1, none⟩ = some (.slice ta tt.length tc) ∧ W.cell? ⟨qb, qo + l * 3, none⟩ = some (.string nm) ∧ W.cell? ⟨qb, qo + l * 3 + 1, none⟩ = some (.int .i64 sg) ∧ W.cell? ⟨qb, qo + l * 3 + 1 + 1, none⟩ = some (.slice ua tt.length uc)) := fun W hW => ⟨(hW.cell (p := ⟨w.heap.size, 0 + 1 + 1 + 1 + 1, none⟩) (Array.getElem?_eq_some_iff.1 mA).1).trans c4, (hW.cell (p := ⟨w.heap.size + 1, 0 + 1 + 1 + 1 + 1, none⟩) (Array.getElem?_eq_some_iff.1 mB).1).trans d4, (hW.cell (p := ⟨pb, po + l * 3, none⟩) hpw).trans p0, (hW.cell (p := ⟨pb, po + l * 3 + 1, none⟩) hpw).trans p1, (hW.cell (p := ⟨pb, po + l * 3 + 1 + 1, none⟩) hpw).trans p2, (hW.cell (p := ⟨qb, qo + l * 3, none⟩) hqw).trans q0, (hW.cell (p := ⟨qb, qo + l * 3 + 1, none⟩) hqw).trans q1, (hW.cell (p := ⟨qb, qo + l * 3 + 1 + 1, none⟩) hqw).trans q2⟩
          clear hs mA mB ps qs hps hqs
          go_wp2_with fail
          go_region_held3 (fun W => W.cell? ⟨w.heap.size, 0 + 1 + 1 + 1 + 1, none⟩ = some (.slice (some ⟨pb, po, none⟩) m.snaps.length nc) ∧ W.cell? ⟨w.heap.size + 1, 0 + 1 + 1 + 1 + 1, none⟩ = some (.slice (some ⟨qb, qo, none⟩) m.snaps.length nd) ∧ W.cell? ⟨pb, po + l * 3, none⟩ = some (.string nm) ∧ W.cell? ⟨pb, po + l * 3 + 1, none⟩ = some (.int .i64 sg) ∧ W.cell? ⟨pb, po + l * 3 + 1 + 1, none⟩ = some (.slice ta tt.length tc) ∧ W.cell? ⟨qb, qo + l * 3, none⟩ = some (.string nm) ∧ W.cell? ⟨qb, qo + l * 3 + 1, none⟩ = some (.int .i64 sg) ∧ W.cell? ⟨qb, qo + l * 3 + 1 + 1, none⟩ = some (.slice ua tt.length uc)) (first | exact HK.out _ b3 | exact HK.out _ (to_drew (Below.refl _ _)))
            (first | (go_at_call 33; refine hcall.mono ?_; rintro e w3 ⟨rfl, b3⟩; have b3 := below_drew b3))
          go_wp2_with fail
          go_roundw
          case rel => exact ⟨l + 1, by omega, by go_num, HN.out _ b3⟩
          case measure => simp [intOf]; omega
        · have el : l = m.snaps.length := by omega
          subst el
          go_wp2_with fail
          go_ret
          exact ⟨rfl, hb⟩
theorem sameI_is {w : World} {v u : Value} {m : ImgD} (h : Img w v m) (k : Img w u m) : Calls Try.prog 16 #[v, u] w fun r w' => r = .returned (.bool true) ∧ Below w.heap.size w w' := by
  obtain ⟨ra, rc, sa, sc, fa, fc, na, nc, rfl, h1, h2, h3, h4⟩ := h.parts
  obtain ⟨rb, rd, sb, sd, fb, fd, nb, nd, rfl, k1, k2, k3, k4⟩ := k.parts
  exact sameI_at m ra rc sa sc fa fc na nc rb rd sb sd fb fd nb nd w h1 h2 h3 h4 k1 k2 k3 k4
end Go.Proofs.Ytehleeibgkpjmag
/- wireBegun answers true. -/
namespace Go.Proofs.Ytehleeibgkpjmag
open Go.RowKit Go.Shelf Go.Lib
set_option maxRecDepth 20000
set_option linter.unusedVariables false
set_option linter.unusedSimpArgs false

theorem wb_len : (imgB pD).length = 32 := by decide +kernel
theorem wb_more : parse (imgB pD ++ [120]) = none := by kernel_rfl
theorem wb_read {S : ByteArray} (hS : bstr (imgB pD) = S) : rdE S = (pD, 0) := by
  have hb : bytes S = imgB pD := by rw [← hS]; exact bytes_bstr _
  refine rdE_some ?_ (by rw [hb]; exact rdO_of pD_check)
  rw [← hS, bstr_size, wb_len]; omega
theorem wb_bad {S : ByteArray} (hS : bstr (imgB pD) = S) : rdE (S ++ ⟨#[120]⟩) = (imgZ, 1) := by
  have hb : bytes (S ++ ⟨#[120]⟩) = imgB pD ++ [120] := by rw [← hS]; unfold bytes bstr; simp
  refine rdE_none ?_ (by rw [hb]; unfold rdO; rw [wb_more]; rfl)
  rw [ByteArray.size_append, ← hS, bstr_size, wb_len]; show ¬ 4096 < 32 + 1; omega
set_option maxHeartbeats 4000000 in
theorem wireBegun_any (w : World) : Calls Try.prog 15 #[] w fun r w' => r = .returned (.bool true) ∧ Below w.heap.size w w' := by
  obtain ⟨S, hS⟩ : ∃ x, bstr (imgB pD) = x := ⟨_, rfl⟩
  have HS := Hid_mkG hS
  have h32 : ((S.size : Int) == 32) = true := by rw [← hS, bstr_size, wb_len]; rfl
  have hc32 : (S.size : Int) = 32 := by simpa using h32
  have hcc : ¬ (9223372036854775807 : Int) < (S.size : Int) + 1 := by omega
  have hcc2 : (S.size : Int) + 1 ≤ 9223372036854775807 := by omega
  clear hc32
  clear hS
  go_enter Try.func15, Try.ntmps15
  go_wp2_with fail
  refine (pair_is w).mono ?_
  rintro e w1 ⟨⟨v, rfl, I1⟩, b1⟩
  have I1 := Hid_mkG (show Img w1 v pD from I1)
  have B1 := Hid_mkG b1
  clear b1
  dsimp only
  go_wp2_with fail
  refine (wwr_is I1.out (S := S) (E := 0) (by unfold wiV; rw [if_pos pD_check]; exact HS.out) pD_check).mono ?_
  rintro e w2 ⟨rfl, b2⟩
  have B2 := Hid_mkG (Below.on B1.out b2)
  clear b2 I1
  have HR := Hid_mkG (show Calls Try.prog 14 #[.string S] w2 (AnsR w2 pD 0) by have := wread_is S w2; rw [wb_read HS.out] at this; exact this)
  go_wp2_with fail
  refine HR.out.mono ?_
  rintro e w3 ⟨d0, e0, d1, e1, d2, e2, d3, e3, rfl, I3, b3⟩
  have B3 := Hid_mkG (Below.on B2.out b3)
  have I4 := Hid_mkG (I3.below ((Below.refl w3.heap.size w3).alloc (Nat.le_refl _) (.cells #[.int .i64 pD.guest, .slice d0 pD.root.length e0, .slice d1 pD.slots.length e1, .slice d2 pD.refs.length e2, .slice d3 pD.snaps.length e3] 26)))
  have k4 : (w3.alloc (.cells #[.int .i64 pD.guest, .slice d0 pD.root.length e0, .slice d1 pD.slots.length e1, .slice d2 pD.refs.length e2, .slice d3 pD.snaps.length e3] 26)).heap[w3.heap.size]? = some (.cells #[.int .i64 pD.guest, .slice d0 pD.root.length e0, .slice d1 pD.slots.length e1, .slice d2 pD.refs.length e2, .slice d3 pD.snaps.length e3] 26) := World.alloc_heap_new _ _
  have B4 := Hid_mkG (B3.out.alloc B3.out.size (.cells #[.int .i64 pD.guest, .slice d0 pD.root.length e0, .slice d1 pD.slots.length e1, .slice d2 pD.refs.length e2, .slice d3 pD.snaps.length e3] 26))
  have hz : (w3.alloc (.cells #[.int .i64 pD.guest, .slice d0 pD.root.length e0, .slice d1 pD.slots.length e1, .slice d2 pD.refs.length e2, .slice d3 pD.snaps.length e3] 26)).heap.size = w3.heap.size + 1 := by simp
  have K4 := Hid_mkG (And.intro k4 hz)
  have HR2 := Hid_mkG (show Calls Try.prog 14 #[.string (S ++ ⟨#[120]⟩)] (w3.alloc (.cells #[.int .i64 pD.guest, .slice d0 pD.root.length e0, .slice d1 pD.slots.length e1, .slice d2 pD.refs.length e2, .slice d3 pD.snaps.length e3] 26)) (AnsR (w3.alloc (.cells #[.int .i64 pD.guest, .slice d0 pD.root.length e0, .slice d1 pD.slots.length e1, .slice d2 pD.refs.length e2, .slice d3 pD.snaps.length e3] 26)) imgZ 1) by have := wread_is (S ++ ⟨#[120]⟩) (w3.alloc (.cells #[.int .i64 pD.guest, .slice d0 pD.root.length e0, .slice d1 pD.slots.length e1, .slice d2 pD.refs.length e2, .slice d3 pD.snaps.length e3] 26)); rw [wb_bad HS.out] at this; exact this)
  clear b3 I3 HR hz k4
  go_wp2_with fail
  refine HR2.out.mono ?_
  rintro e w5 ⟨f0, g0, f1, g1, f2, g2, f3, g3, rfl, _, b5⟩
  have B5 := Hid_mkG (Below.on B4.out b5)
  have I5 := Hid_mkG (I4.out.below b5)
  have k5 := cells_below K4.out.1 b5 (Array.getElem?_eq_some_iff.1 K4.out.1).1
  have K5 := Hid_mkG k5
  clear b5 k5 HR2 I4 K4
  obtain ⟨wd, hwd⟩ : ∃ X, (w5.alloc (.cells #[.int .i64 imgZ.guest, .slice f0 imgZ.root.length g0, .slice f1 imgZ.slots.length g1, .slice f2 imgZ.refs.length g2, .slice f3 imgZ.snaps.length g3] 26)).drew = X := ⟨_, rfl⟩
  have kd : wd.heap[w3.heap.size]? = some (.cells #[.int .i64 pD.guest, .slice d0 pD.root.length e0, .slice d1 pD.slots.length e1, .slice d2 pD.refs.length e2, .slice d3 pD.snaps.length e3] 26) := by rw [← hwd]; exact cells_alloc K5.out _
  have Bd := Hid_mkG (show Below w.heap.size w wd by rw [← hwd]; exact to_drew (B5.out.alloc B5.out.size _))
  have Id := Hid_mkG (show Img wd (.agg #[.int .i64 pD.guest, .slice d0 pD.root.length e0, .slice d1 pD.slots.length e1, .slice d2 pD.refs.length e2, .slice d3 pD.snaps.length e3]) pD by rw [← hwd]; exact I5.out.below (to_drew ((Below.refl _ _).alloc (Nat.le_refl _) _)))
  have HWd := Hid_mkG hwd
  clear hwd
  go_upto_region 4 with fail
  clear hcc hcc2
  refine wp_region_held_drew (S := (fun X : World => X.heap[w3.heap.size]? = some (.cells #[.int .i64 pD.guest, .slice d0 pD.root.length e0, .slice d1 pD.slots.length e1, .slice d2 pD.refs.length e2, .slice d3 pD.snaps.length e3] 26))) (by kernel_rfl) (cells_alloc K5.out _) (fun hHeld => ?_)
  rw [HWd.out] at hHeld ⊢
  refine wpAnyH_take (i := 0) (v := .int .i64 0) rfl (by kernel_rfl) (by kernel_rfl) (by kernel_rfl) (fun _ _ _ h => h) (Or.inl ⟨by rfl, fun w' hSw => by obtain ⟨j0, j1, j2, j3, j4⟩ := five hSw; go_simp⟩) hHeld ?_
  simp only [Act.put, List.getElem_toArray, List.getElem_cons_succ, List.getElem_cons_zero, List.setIfInBounds_toArray, List.set_cons_zero, List.set_cons_succ]
  refine wpAnyH_take (i := 1) (v := .bool true) rfl (by kernel_rfl) (by kernel_rfl) (by kernel_rfl) (fun _ _ _ h => h) (Or.inl ⟨by rfl, fun w' hSw => by obtain ⟨j0, j1, j2, j3, j4⟩ := five hSw; go_simp⟩) hHeld ?_
  simp only [Act.put, List.getElem_toArray, List.getElem_cons_succ, List.getElem_cons_zero, List.setIfInBounds_toArray, List.set_cons_zero, List.set_cons_succ]
  refine wpAnyH_take (i := 2) (v := .bool true) rfl (by kernel_rfl) (by kernel_rfl) (by kernel_rfl) (fun _ _ _ h => h) (Or.inl ⟨by rfl, fun w' hSw => by obtain ⟨j0, j1, j2, j3, j4⟩ := five hSw; go_simp⟩) hHeld ?_
  simp only [Act.put, List.getElem_toArray, List.getElem_cons_succ, List.getElem_cons_zero, List.setIfInBounds_toArray, List.set_cons_zero, List.set_cons_succ]
  refine wpAnyH_take (i := 3) (v := .int .i64 0) rfl (by kernel_rfl) (by kernel_rfl) (by kernel_rfl) (fun _ _ _ h => h) (Or.inl ⟨by rfl, fun w' hSw => by obtain ⟨j0, j1, j2, j3, j4⟩ := five hSw; go_simp⟩) hHeld ?_
  simp only [Act.put, List.getElem_toArray, List.getElem_cons_succ, List.getElem_cons_zero, List.setIfInBounds_toArray, List.set_cons_zero, List.set_cons_succ]
  refine wpAnyH_take (i := 4) (v := .bool true) rfl (by kernel_rfl) (by kernel_rfl) (by kernel_rfl) (fun _ _ _ h => h) (Or.inl ⟨by rfl, fun w' hSw => by obtain ⟨j0, j1, j2, j3, j4⟩ := five hSw; go_simp⟩) hHeld ?_
  simp only [Act.put, List.getElem_toArray, List.getElem_cons_succ, List.getElem_cons_zero, List.setIfInBounds_toArray, List.set_cons_zero, List.set_cons_succ]
  refine wpAnyH_take (i := 5) (v := .bool true) rfl (by kernel_rfl) (by kernel_rfl) (by kernel_rfl) (fun _ _ _ h => h) (Or.inl ⟨by rfl, fun w' hSw => by obtain ⟨j0, j1, j2, j3, j4⟩ := five hSw; go_simp⟩) hHeld ?_
  simp only [Act.put, List.getElem_toArray, List.getElem_cons_succ, List.getElem_cons_zero, List.setIfInBounds_toArray, List.set_cons_zero, List.set_cons_succ]
  refine wpAnyH_take (i := 6) (v := .bool true) rfl (by kernel_rfl) (by kernel_rfl) (by kernel_rfl) (fun _ _ _ h => h) (Or.inl ⟨by rfl, fun w' hSw => by obtain ⟨j0, j1, j2, j3, j4⟩ := five hSw; go_simp⟩) hHeld ?_
  simp only [Act.put, List.getElem_toArray, List.getElem_cons_succ, List.getElem_cons_zero, List.setIfInBounds_toArray, List.set_cons_zero, List.set_cons_succ]
  refine wpAnyH_take (i := 7) (v := .int .i64 1) rfl (by kernel_rfl) (by kernel_rfl) (by kernel_rfl) (fun _ _ _ h => h) (Or.inl ⟨by rfl, fun w' hSw => by obtain ⟨j0, j1, j2, j3, j4⟩ := five hSw; go_simp⟩) hHeld ?_
  simp only [Act.put, List.getElem_toArray, List.getElem_cons_succ, List.getElem_cons_zero, List.setIfInBounds_toArray, List.set_cons_zero, List.set_cons_succ]
  refine wpAnyH_take (i := 8) (v := .bool true) rfl (by kernel_rfl) (by kernel_rfl) (by kernel_rfl) (fun _ _ _ h => h) (Or.inl ⟨by rfl, fun w' hSw => by obtain ⟨j0, j1, j2, j3, j4⟩ := five hSw; go_simp⟩) hHeld ?_
  simp only [Act.put, List.getElem_toArray, List.getElem_cons_succ, List.getElem_cons_zero, List.setIfInBounds_toArray, List.set_cons_zero, List.set_cons_succ]
  refine wpAnyH_take (i := 9) (v := .bool true) rfl (by kernel_rfl) (by kernel_rfl) (by kernel_rfl) (fun _ _ _ h => h) (Or.inl ⟨by rfl, fun w' hSw => by obtain ⟨j0, j1, j2, j3, j4⟩ := five hSw; go_simp⟩) hHeld ?_
  simp only [Act.put, List.getElem_toArray, List.getElem_cons_succ, List.getElem_cons_zero, List.setIfInBounds_toArray, List.set_cons_zero, List.set_cons_succ]
  refine wpAnyH_take (i := 10) (v := .bool true) rfl (by kernel_rfl) (by kernel_rfl) (by kernel_rfl) (fun _ _ _ h => h) (Or.inl ⟨by rfl, fun w' hSw => by obtain ⟨j0, j1, j2, j3, j4⟩ := five hSw; go_simp⟩) hHeld ?_
  simp only [Act.put, List.getElem_toArray, List.getElem_cons_succ, List.getElem_cons_zero, List.setIfInBounds_toArray, List.set_cons_zero, List.set_cons_succ]
  refine wpAnyH_take (i := 11) (v := .string S) rfl (by kernel_rfl) (by kernel_rfl) (by kernel_rfl) (fun _ _ _ h => h) (Or.inl ⟨by rfl, fun w' hSw => by obtain ⟨j0, j1, j2, j3, j4⟩ := five hSw; go_simp⟩) hHeld ?_
  simp only [Act.put, List.getElem_toArray, List.getElem_cons_succ, List.getElem_cons_zero, List.setIfInBounds_toArray, List.set_cons_zero, List.set_cons_succ]
  refine wpAnyH_take (i := 12) (v := .int .i64 (S.size : Int)) rfl (by kernel_rfl) (by kernel_rfl) (by kernel_rfl) (fun _ _ _ h => h) (Or.inl ⟨by rfl, fun w' hSw => by obtain ⟨j0, j1, j2, j3, j4⟩ := five hSw; go_simp⟩) hHeld ?_
  simp only [Act.put, List.getElem_toArray, List.getElem_cons_succ, List.getElem_cons_zero, List.setIfInBounds_toArray, List.set_cons_zero, List.set_cons_succ]
  refine wpAnyH_take (i := 13) (v := .bool true) rfl (by kernel_rfl) (by kernel_rfl) (by kernel_rfl) (fun _ _ _ h => h) (Or.inl ⟨by rfl, fun w' hSw => by obtain ⟨j0, j1, j2, j3, j4⟩ := five hSw; go_simp⟩) hHeld ?_
  simp only [Act.put, List.getElem_toArray, List.getElem_cons_succ, List.getElem_cons_zero, List.setIfInBounds_toArray, List.set_cons_zero, List.set_cons_succ]
  refine wpAnyH_take (i := 14) (v := .bool true) rfl (by kernel_rfl) (by kernel_rfl) (by kernel_rfl) (fun _ _ _ h => h) (Or.inl ⟨by rfl, fun w' hSw => by obtain ⟨j0, j1, j2, j3, j4⟩ := five hSw; go_simp⟩) hHeld ?_
  simp only [Act.put, List.getElem_toArray, List.getElem_cons_succ, List.getElem_cons_zero, List.setIfInBounds_toArray, List.set_cons_zero, List.set_cons_succ]
  refine wpAnyH_take (i := 15) (v := .bool true) rfl (by kernel_rfl) (by kernel_rfl) (by kernel_rfl) (fun _ _ _ h => h) (Or.inl ⟨by rfl, fun w' hSw => by obtain ⟨j0, j1, j2, j3, j4⟩ := five hSw; go_simp⟩) hHeld ?_
  simp only [Act.put, List.getElem_toArray, List.getElem_cons_succ, List.getElem_cons_zero, List.setIfInBounds_toArray, List.set_cons_zero, List.set_cons_succ]
  refine wpAnyH_take (i := 16) (v := .agg #[.int .i64 pD.guest, .slice d0 pD.root.length e0, .slice d1 pD.slots.length e1, .slice d2 pD.refs.length e2, .slice d3 pD.snaps.length e3]) rfl (by kernel_rfl) (by kernel_rfl) (by kernel_rfl) (fun _ _ _ h => h) (Or.inl ⟨by rfl, fun w' hSw => by obtain ⟨j0, j1, j2, j3, j4⟩ := five hSw; go_simp⟩) hHeld ?_
  simp only [Act.put, List.getElem_toArray, List.getElem_cons_succ, List.getElem_cons_zero, List.setIfInBounds_toArray, List.set_cons_zero, List.set_cons_succ]
  refine wpAnyH_ready (rs := [17]) (by kernel_rfl) (by simp) ?_
  refine AllReadyH.cons rfl (fun K hK => ?_) AllReadyH.nil
  clear hHeld
  simp only [Act.put, List.getElem_toArray, List.getElem_cons_succ, List.getElem_cons_zero, List.setIfInBounds_toArray, List.set_cons_zero, List.set_cons_succ]
  rw [if_pos (by rfl)]
  go_wp2_with fail
  refine (pair_is wd).mono ?_
  rintro e w6 ⟨⟨v2, rfl, I6⟩, b6⟩
  have I6 := Hid_mkG (show Img w6 v2 pD from I6)
  have B6 := Hid_mkG (Below.on Bd.out b6)
  have J6 := Hid_mkG (Id.out.below b6)
  have k6 := cells_below kd b6 (Array.getElem?_eq_some_iff.1 kd).1
  clear b6
  dsimp only
  refine hK.out _ _ k6 (fun hHeld => ?_)
  clear hK K
  try simp only [Act.put, List.getElem_toArray, List.getElem_cons_succ, List.getElem_cons_zero, List.setIfInBounds_toArray, List.set_cons_zero, List.set_cons_succ]
  refine wpAnyH_ready (rs := [18]) (by kernel_rfl) (by simp) ?_
  refine AllReadyH.cons rfl (fun K hK => ?_) AllReadyH.nil
  clear hHeld
  simp only [Act.put, List.getElem_toArray, List.getElem_cons_succ, List.getElem_cons_zero, List.setIfInBounds_toArray, List.set_cons_zero, List.set_cons_succ]
  rw [if_pos (by rfl)]
  go_wp2_with fail
  refine (sameI_is J6.out I6.out).mono ?_
  rintro e w7 ⟨rfl, b7⟩
  have B7 := Hid_mkG (Below.on B6.out b7)
  have k7 := cells_below k6 b7 (Array.getElem?_eq_some_iff.1 k6).1
  clear b7
  dsimp only
  refine hK.out _ _ k7 (fun hHeld => ?_)
  clear hK K
  try simp only [Act.put, List.getElem_toArray, List.getElem_cons_succ, List.getElem_cons_zero, List.setIfInBounds_toArray, List.set_cons_zero, List.set_cons_succ]
  refine wpAnyH_take (i := 19) (v := .bool true) rfl (by kernel_rfl) (by kernel_rfl) (by kernel_rfl) (fun _ _ _ h => h) (Or.inl ⟨by rfl, fun w' hSw => by obtain ⟨j0, j1, j2, j3, j4⟩ := five hSw; go_simp⟩) hHeld ?_
  simp only [Act.put, List.getElem_toArray, List.getElem_cons_succ, List.getElem_cons_zero, List.setIfInBounds_toArray, List.set_cons_zero, List.set_cons_succ]
  refine wpAnyH_take (i := 20) (v := .bool true) rfl (by kernel_rfl) (by kernel_rfl) (by kernel_rfl) (fun _ _ _ h => h) (Or.inl ⟨by rfl, fun w' hSw => by obtain ⟨j0, j1, j2, j3, j4⟩ := five hSw; go_simp⟩) hHeld ?_
  simp only [Act.put, List.getElem_toArray, List.getElem_cons_succ, List.getElem_cons_zero, List.setIfInBounds_toArray, List.set_cons_zero, List.set_cons_succ]
  refine wpAnyH_done (by kernel_rfl) ?_ _
  go_wp2_with fail
  go_ret
  exact ⟨rfl, B7.out⟩
end Go.Proofs.Ytehleeibgkpjmag
/- The walk of WireBack. -/
namespace Go.Proofs.Ytehleeibgkpjmag
open Go.RowKit Go.Shelf Go.Lib
set_option maxRecDepth 20000
set_option linter.unusedVariables false
set_option linter.unusedSimpArgs false

theorem rd_ok {u : ByteArray} {m : ImgD} {w : World} (h : rdE u = (m, 0)) : Calls Try.prog 14 #[.string u] w (AnsR w m 0) := by
  have := wread_is u w; rw [h] at this; exact this
theorem rd_no {u : ByteArray} {E : Int} {w : World} (h : rdE u = (imgZ, E)) : Calls Try.prog 14 #[.string u] w (AnsR w imgZ E) := by
  have := wread_is u w; rw [h] at this; exact this
theorem rdE_cases (u : ByteArray) : (∃ m, rdE u = (m, 0) ∧ wiV m = u ∧ checkE m = 0) ∨ ∃ E, rdE u = (imgZ, E) ∧ (E != 0) = true := by
  by_cases h : 4096 < u.size
  · exact .inr ⟨2, rdE_many h, rfl⟩
  cases hp : rdO (bytes u) with
  | none => exact .inr ⟨1, rdE_none h hp, rfl⟩
  | some m =>
    obtain ⟨h1, h2⟩ := rdO_b hp
    exact .inl ⟨m, rdE_some h hp, by unfold wiV; rw [if_pos h1, h2, bstr_bytes], h1⟩
theorem rdE_back {m : ImgD} (h : checkE m = 0) : rdE (wiV m) = (m, 0) := by
  unfold wiV
  rw [if_pos h]
  refine rdE_some ?_ (by rw [bytes_bstr]; exact rdO_of h)
  rw [bstr_size]
  have := imgB_len (checkE_shape h)
  omega
set_option maxHeartbeats 8000000 in
theorem wbk_yy (ra : Option Addr) (rc : Nat) (sa : Option Addr) (sc : Nat) (fa : Option Addr) (fc : Nat) (na : Option Addr) (nc : Nat) (m : ImgD) (u S : ByteArray) (E : Int) (M2 : ImgD) (w : World) (h : Img w (.agg #[.int .i64 m.guest, .slice ra m.root.length rc, .slice sa m.slots.length sc, .slice fa m.refs.length fc, .slice na m.snaps.length nc]) m) (HS : Hid (wiV m = S)) (HE : Hid (checkE m = E)) (hE0 : (E == 0) = true) (HT : Hid (rdE S = (m, 0))) (HR : Hid (rdE u = (M2, 0))) (HU : Hid (wiV M2 = u ∧ checkE M2 = 0)) :
    Calls Try.prog 5 #[.agg #[.int .i64 m.guest, .slice ra m.root.length rc, .slice sa m.slots.length sc, .slice fa m.refs.length fc, .slice na m.snaps.length nc], .string u] w fun r w' => r = .returned (.bool true) ∧ Below w.heap.size w w' := by
  have hB : Below w.heap.size w (w.alloc (.cells #[.int .i64 m.guest, .slice ra m.root.length rc, .slice sa m.slots.length sc, .slice fa m.refs.length fc, .slice na m.snaps.length nc] 26)) := (Below.refl _ _).alloc (Nat.le_refl _) _
  have mb_m : (w.alloc (.cells #[.int .i64 m.guest, .slice ra m.root.length rc, .slice sa m.slots.length sc, .slice fa m.refs.length fc, .slice na m.snaps.length nc] 26)).heap[w.heap.size]? = some (.cells #[.int .i64 m.guest, .slice ra m.root.length rc, .slice sa m.slots.length sc, .slice fa m.refs.length fc, .slice na m.snaps.length nc] 26) := World.alloc_heap_new _ _
  have I_m := h.below hB
  clear h
  go_enter Try.func5, Try.ntmps5
  obtain ⟨m0, m1, m2, m3, m4⟩ := five mb_m
  have hh_mb_m := Hid_mkG mb_m
  have hh_I_m := Hid_mkG I_m
  have hh_hB := Hid_mkG hB
  clear mb_m I_m hB
  go_wp2_with fail
  clear m0 m1 m2 m3 m4
  have mb_m := hh_mb_m.out
  have I_m := hh_I_m.out
  have hB := hh_hB.out
  clear hh_mb_m hh_I_m hh_hB
  refine (wwr_is I_m HS.out HE.out).mono ?_
  rintro e w1 ⟨rfl, bb⟩
  replace mb_m := cells_below mb_m bb (Array.getElem?_eq_some_iff.1 mb_m).1
  replace hB := Below.on hB bb
  replace I_m := I_m.below bb
  clear bb
  have hh_mb_m := Hid_mkG mb_m
  have hh_I_m := Hid_mkG I_m
  have hh_hB := Hid_mkG hB
  clear mb_m I_m hB
  go_wp2_with fail
  have mb_m := hh_mb_m.out
  have I_m := hh_I_m.out
  have hB := hh_hB.out
  clear hh_mb_m hh_I_m hh_hB
  refine (rd_ok HT.out).mono ?_
  rintro e w2 ⟨x_r, x_rc, x_s, x_sc, x_f, x_fc, x_n, x_nc, rfl, I_x, bb⟩
  try dsimp only
  replace mb_m := cells_below mb_m bb (Array.getElem?_eq_some_iff.1 mb_m).1
  replace hB := Below.on hB bb
  replace I_m := I_m.below bb
  clear bb
  replace mb_m := cells_alloc mb_m (.cells #[.int .i64 m.guest, .slice x_r m.root.length x_rc, .slice x_s m.slots.length x_sc, .slice x_f m.refs.length x_fc, .slice x_n m.snaps.length x_nc] 26)
  have ba : Below w2.heap.size w2 (w2.alloc (.cells #[.int .i64 m.guest, .slice x_r m.root.length x_rc, .slice x_s m.slots.length x_sc, .slice x_f m.refs.length x_fc, .slice x_n m.snaps.length x_nc] 26)) := (Below.refl _ _).alloc (Nat.le_refl _) _
  replace hB := Below.on hB ba
  replace I_m := I_m.below ba
  replace I_x := I_x.below ba
  clear ba
  have mb_x : (w2.alloc (.cells #[.int .i64 m.guest, .slice x_r m.root.length x_rc, .slice x_s m.slots.length x_sc, .slice x_f m.refs.length x_fc, .slice x_n m.snaps.length x_nc] 26)).heap[w2.heap.size]? = some (.cells #[.int .i64 m.guest, .slice x_r m.root.length x_rc, .slice x_s m.slots.length x_sc, .slice x_f m.refs.length x_fc, .slice x_n m.snaps.length x_nc] 26) := World.alloc_heap_new _ _
  obtain ⟨x0, x1, x2, x3, x4⟩ := five mb_x
  obtain ⟨m0, m1, m2, m3, m4⟩ := five mb_m
  have hh_mb_m := Hid_mkG mb_m
  have hh_mb_x := Hid_mkG mb_x
  have hh_I_m := Hid_mkG I_m
  have hh_I_x := Hid_mkG I_x
  have hh_hB := Hid_mkG hB
  clear mb_m mb_x I_m I_x hB
  go_wp2_with fail
  clear x0 x1 x2 x3 x4 m0 m1 m2 m3 m4
  have mb_m := hh_mb_m.out
  have mb_x := hh_mb_x.out
  have I_m := hh_I_m.out
  have I_x := hh_I_x.out
  have hB := hh_hB.out
  clear hh_mb_m hh_mb_x hh_I_m hh_I_x hh_hB
  refine (sameI_is I_x I_m).mono ?_
  rintro e w3 ⟨rfl, bb⟩
  replace mb_m := cells_below mb_m bb (Array.getElem?_eq_some_iff.1 mb_m).1
  replace mb_x := cells_below mb_x bb (Array.getElem?_eq_some_iff.1 mb_x).1
  replace hB := Below.on hB bb
  replace I_m := I_m.below bb
  replace I_x := I_x.below bb
  clear bb
  clear mb_x
  clear I_x
  clear mb_m
  clear I_m
  have hh_hB := Hid_mkG hB
  clear hB
  go_wp2_with fail
  have hB := hh_hB.out
  clear hh_hB
  refine (rd_ok HR.out).mono ?_
  rintro e w4 ⟨y_r, y_rc, y_s, y_sc, y_f, y_fc, y_n, y_nc, rfl, I_y, bb⟩
  try dsimp only
  replace hB := Below.on hB bb
  clear bb
  have ba : Below w4.heap.size w4 (w4.alloc (.cells #[.int .i64 M2.guest, .slice y_r M2.root.length y_rc, .slice y_s M2.slots.length y_sc, .slice y_f M2.refs.length y_fc, .slice y_n M2.snaps.length y_nc] 26)) := (Below.refl _ _).alloc (Nat.le_refl _) _
  replace hB := Below.on hB ba
  replace I_y := I_y.below ba
  clear ba
  have mb_y : (w4.alloc (.cells #[.int .i64 M2.guest, .slice y_r M2.root.length y_rc, .slice y_s M2.slots.length y_sc, .slice y_f M2.refs.length y_fc, .slice y_n M2.snaps.length y_nc] 26)).heap[w4.heap.size]? = some (.cells #[.int .i64 M2.guest, .slice y_r M2.root.length y_rc, .slice y_s M2.slots.length y_sc, .slice y_f M2.refs.length y_fc, .slice y_n M2.snaps.length y_nc] 26) := World.alloc_heap_new _ _
  obtain ⟨y0, y1, y2, y3, y4⟩ := five mb_y
  have hh_mb_y := Hid_mkG mb_y
  have hh_I_y := Hid_mkG I_y
  have hh_hB := Hid_mkG hB
  clear mb_y I_y hB
  go_wp2_with fail
  clear y0 y1 y2 y3 y4
  have mb_y := hh_mb_y.out
  have I_y := hh_I_y.out
  have hB := hh_hB.out
  clear hh_mb_y hh_I_y hh_hB
  refine (wwr_is I_y HU.out.1 HU.out.2).mono ?_
  rintro e w5 ⟨rfl, bb⟩
  replace mb_y := cells_below mb_y bb (Array.getElem?_eq_some_iff.1 mb_y).1
  replace hB := Below.on hB bb
  replace I_y := I_y.below bb
  clear bb
  clear mb_y
  clear I_y
  have hh_hB := Hid_mkG hB
  clear hB
  go_wp2_with fail
  have hB := hh_hB.out
  clear hh_hB
  refine (wireBegun_any _).mono ?_
  rintro e w6 ⟨rfl, bb⟩
  replace hB := Below.on hB bb
  clear bb
  have hh_hB := Hid_mkG hB
  clear hB
  go_wp2_with fail
  go_ret
  have hB := hh_hB.out
  exact ⟨rfl, hB⟩

set_option maxHeartbeats 8000000 in
theorem wbk_yn (ra : Option Addr) (rc : Nat) (sa : Option Addr) (sc : Nat) (fa : Option Addr) (fc : Nat) (na : Option Addr) (nc : Nat) (m : ImgD) (u S : ByteArray) (E : Int) (E2 : Int) (w : World) (h : Img w (.agg #[.int .i64 m.guest, .slice ra m.root.length rc, .slice sa m.slots.length sc, .slice fa m.refs.length fc, .slice na m.snaps.length nc]) m) (HS : Hid (wiV m = S)) (HE : Hid (checkE m = E)) (hE0 : (E == 0) = true) (HT : Hid (rdE S = (m, 0))) (HR : Hid (rdE u = (imgZ, E2))) (hE2 : (E2 != 0) = true) :
    Calls Try.prog 5 #[.agg #[.int .i64 m.guest, .slice ra m.root.length rc, .slice sa m.slots.length sc, .slice fa m.refs.length fc, .slice na m.snaps.length nc], .string u] w fun r w' => r = .returned (.bool true) ∧ Below w.heap.size w w' := by
  have hB : Below w.heap.size w (w.alloc (.cells #[.int .i64 m.guest, .slice ra m.root.length rc, .slice sa m.slots.length sc, .slice fa m.refs.length fc, .slice na m.snaps.length nc] 26)) := (Below.refl _ _).alloc (Nat.le_refl _) _
  have mb_m : (w.alloc (.cells #[.int .i64 m.guest, .slice ra m.root.length rc, .slice sa m.slots.length sc, .slice fa m.refs.length fc, .slice na m.snaps.length nc] 26)).heap[w.heap.size]? = some (.cells #[.int .i64 m.guest, .slice ra m.root.length rc, .slice sa m.slots.length sc, .slice fa m.refs.length fc, .slice na m.snaps.length nc] 26) := World.alloc_heap_new _ _
  have I_m := h.below hB
  clear h
  go_enter Try.func5, Try.ntmps5
  obtain ⟨m0, m1, m2, m3, m4⟩ := five mb_m
  have hh_mb_m := Hid_mkG mb_m
  have hh_I_m := Hid_mkG I_m
  have hh_hB := Hid_mkG hB
  clear mb_m I_m hB
  go_wp2_with fail
  clear m0 m1 m2 m3 m4
  have mb_m := hh_mb_m.out
  have I_m := hh_I_m.out
  have hB := hh_hB.out
  clear hh_mb_m hh_I_m hh_hB
  refine (wwr_is I_m HS.out HE.out).mono ?_
  rintro e w1 ⟨rfl, bb⟩
  replace mb_m := cells_below mb_m bb (Array.getElem?_eq_some_iff.1 mb_m).1
  replace hB := Below.on hB bb
  replace I_m := I_m.below bb
  clear bb
  have hh_mb_m := Hid_mkG mb_m
  have hh_I_m := Hid_mkG I_m
  have hh_hB := Hid_mkG hB
  clear mb_m I_m hB
  go_wp2_with fail
  have mb_m := hh_mb_m.out
  have I_m := hh_I_m.out
  have hB := hh_hB.out
  clear hh_mb_m hh_I_m hh_hB
  refine (rd_ok HT.out).mono ?_
  rintro e w2 ⟨x_r, x_rc, x_s, x_sc, x_f, x_fc, x_n, x_nc, rfl, I_x, bb⟩
  try dsimp only
  replace mb_m := cells_below mb_m bb (Array.getElem?_eq_some_iff.1 mb_m).1
  replace hB := Below.on hB bb
  replace I_m := I_m.below bb
  clear bb
  replace mb_m := cells_alloc mb_m (.cells #[.int .i64 m.guest, .slice x_r m.root.length x_rc, .slice x_s m.slots.length x_sc, .slice x_f m.refs.length x_fc, .slice x_n m.snaps.length x_nc] 26)
  have ba : Below w2.heap.size w2 (w2.alloc (.cells #[.int .i64 m.guest, .slice x_r m.root.length x_rc, .slice x_s m.slots.length x_sc, .slice x_f m.refs.length x_fc, .slice x_n m.snaps.length x_nc] 26)) := (Below.refl _ _).alloc (Nat.le_refl _) _
  replace hB := Below.on hB ba
  replace I_m := I_m.below ba
  replace I_x := I_x.below ba
  clear ba
  have mb_x : (w2.alloc (.cells #[.int .i64 m.guest, .slice x_r m.root.length x_rc, .slice x_s m.slots.length x_sc, .slice x_f m.refs.length x_fc, .slice x_n m.snaps.length x_nc] 26)).heap[w2.heap.size]? = some (.cells #[.int .i64 m.guest, .slice x_r m.root.length x_rc, .slice x_s m.slots.length x_sc, .slice x_f m.refs.length x_fc, .slice x_n m.snaps.length x_nc] 26) := World.alloc_heap_new _ _
  obtain ⟨x0, x1, x2, x3, x4⟩ := five mb_x
  obtain ⟨m0, m1, m2, m3, m4⟩ := five mb_m
  have hh_mb_m := Hid_mkG mb_m
  have hh_mb_x := Hid_mkG mb_x
  have hh_I_m := Hid_mkG I_m
  have hh_I_x := Hid_mkG I_x
  have hh_hB := Hid_mkG hB
  clear mb_m mb_x I_m I_x hB
  go_wp2_with fail
  clear x0 x1 x2 x3 x4 m0 m1 m2 m3 m4
  have mb_m := hh_mb_m.out
  have mb_x := hh_mb_x.out
  have I_m := hh_I_m.out
  have I_x := hh_I_x.out
  have hB := hh_hB.out
  clear hh_mb_m hh_mb_x hh_I_m hh_I_x hh_hB
  refine (sameI_is I_x I_m).mono ?_
  rintro e w3 ⟨rfl, bb⟩
  replace mb_m := cells_below mb_m bb (Array.getElem?_eq_some_iff.1 mb_m).1
  replace mb_x := cells_below mb_x bb (Array.getElem?_eq_some_iff.1 mb_x).1
  replace hB := Below.on hB bb
  replace I_m := I_m.below bb
  replace I_x := I_x.below bb
  clear bb
  clear mb_x
  clear I_x
  clear mb_m
  clear I_m
  have hh_hB := Hid_mkG hB
  clear hB
  go_wp2_with fail
  have hB := hh_hB.out
  clear hh_hB
  refine (rd_no HR.out).mono ?_
  rintro e w4 ⟨y_r, y_rc, y_s, y_sc, y_f, y_fc, y_n, y_nc, rfl, I_y, bb⟩
  try dsimp only
  replace hB := Below.on hB bb
  clear bb
  have ba : Below w4.heap.size w4 (w4.alloc (.cells #[.int .i64 imgZ.guest, .slice y_r imgZ.root.length y_rc, .slice y_s imgZ.slots.length y_sc, .slice y_f imgZ.refs.length y_fc, .slice y_n imgZ.snaps.length y_nc] 26)) := (Below.refl _ _).alloc (Nat.le_refl _) _
  replace hB := Below.on hB ba
  replace I_y := I_y.below ba
  clear ba
  have mb_y : (w4.alloc (.cells #[.int .i64 imgZ.guest, .slice y_r imgZ.root.length y_rc, .slice y_s imgZ.slots.length y_sc, .slice y_f imgZ.refs.length y_fc, .slice y_n imgZ.snaps.length y_nc] 26)).heap[w4.heap.size]? = some (.cells #[.int .i64 imgZ.guest, .slice y_r imgZ.root.length y_rc, .slice y_s imgZ.slots.length y_sc, .slice y_f imgZ.refs.length y_fc, .slice y_n imgZ.snaps.length y_nc] 26) := World.alloc_heap_new _ _
  clear mb_y
  clear I_y
  have hh_hB := Hid_mkG hB
  clear hB
  go_wp2_with fail
  have hB := hh_hB.out
  clear hh_hB
  refine (wireBegun_any _).mono ?_
  rintro e w5 ⟨rfl, bb⟩
  replace hB := Below.on hB bb
  clear bb
  have hh_hB := Hid_mkG hB
  clear hB
  go_wp2_with fail
  go_ret
  have hB := hh_hB.out
  exact ⟨rfl, hB⟩

set_option maxHeartbeats 8000000 in
theorem wbk_ny (ra : Option Addr) (rc : Nat) (sa : Option Addr) (sc : Nat) (fa : Option Addr) (fc : Nat) (na : Option Addr) (nc : Nat) (m : ImgD) (u S : ByteArray) (E : Int) (M2 : ImgD) (w : World) (h : Img w (.agg #[.int .i64 m.guest, .slice ra m.root.length rc, .slice sa m.slots.length sc, .slice fa m.refs.length fc, .slice na m.snaps.length nc]) m) (HS : Hid (wiV m = S)) (HE : Hid (checkE m = E)) (hE0 : (E == 0) = false)  (HR : Hid (rdE u = (M2, 0))) (HU : Hid (wiV M2 = u ∧ checkE M2 = 0)) :
    Calls Try.prog 5 #[.agg #[.int .i64 m.guest, .slice ra m.root.length rc, .slice sa m.slots.length sc, .slice fa m.refs.length fc, .slice na m.snaps.length nc], .string u] w fun r w' => r = .returned (.bool true) ∧ Below w.heap.size w w' := by
  have hB : Below w.heap.size w (w.alloc (.cells #[.int .i64 m.guest, .slice ra m.root.length rc, .slice sa m.slots.length sc, .slice fa m.refs.length fc, .slice na m.snaps.length nc] 26)) := (Below.refl _ _).alloc (Nat.le_refl _) _
  have mb_m : (w.alloc (.cells #[.int .i64 m.guest, .slice ra m.root.length rc, .slice sa m.slots.length sc, .slice fa m.refs.length fc, .slice na m.snaps.length nc] 26)).heap[w.heap.size]? = some (.cells #[.int .i64 m.guest, .slice ra m.root.length rc, .slice sa m.slots.length sc, .slice fa m.refs.length fc, .slice na m.snaps.length nc] 26) := World.alloc_heap_new _ _
  have I_m := h.below hB
  clear h
  go_enter Try.func5, Try.ntmps5
  obtain ⟨m0, m1, m2, m3, m4⟩ := five mb_m
  have hh_mb_m := Hid_mkG mb_m
  have hh_I_m := Hid_mkG I_m
  have hh_hB := Hid_mkG hB
  clear mb_m I_m hB
  go_wp2_with fail
  clear m0 m1 m2 m3 m4
  have mb_m := hh_mb_m.out
  have I_m := hh_I_m.out
  have hB := hh_hB.out
  clear hh_mb_m hh_I_m hh_hB
  refine (wwr_is I_m HS.out HE.out).mono ?_
  rintro e w1 ⟨rfl, bb⟩
  replace mb_m := cells_below mb_m bb (Array.getElem?_eq_some_iff.1 mb_m).1
  replace hB := Below.on hB bb
  replace I_m := I_m.below bb
  clear bb
  clear mb_m
  clear I_m
  have hh_hB := Hid_mkG hB
  clear hB
  go_wp2_with fail
  have hB := hh_hB.out
  clear hh_hB
  refine (rd_ok HR.out).mono ?_
  rintro e w2 ⟨y_r, y_rc, y_s, y_sc, y_f, y_fc, y_n, y_nc, rfl, I_y, bb⟩
  try dsimp only
  replace hB := Below.on hB bb
  clear bb
  have ba : Below w2.heap.size w2 (w2.alloc (.cells #[.int .i64 M2.guest, .slice y_r M2.root.length y_rc, .slice y_s M2.slots.length y_sc, .slice y_f M2.refs.length y_fc, .slice y_n M2.snaps.length y_nc] 26)) := (Below.refl _ _).alloc (Nat.le_refl _) _
  replace hB := Below.on hB ba
  replace I_y := I_y.below ba
  clear ba
  have mb_y : (w2.alloc (.cells #[.int .i64 M2.guest, .slice y_r M2.root.length y_rc, .slice y_s M2.slots.length y_sc, .slice y_f M2.refs.length y_fc, .slice y_n M2.snaps.length y_nc] 26)).heap[w2.heap.size]? = some (.cells #[.int .i64 M2.guest, .slice y_r M2.root.length y_rc, .slice y_s M2.slots.length y_sc, .slice y_f M2.refs.length y_fc, .slice y_n M2.snaps.length y_nc] 26) := World.alloc_heap_new _ _
  obtain ⟨y0, y1, y2, y3, y4⟩ := five mb_y
  have hh_mb_y := Hid_mkG mb_y
  have hh_I_y := Hid_mkG I_y
  have hh_hB := Hid_mkG hB
  clear mb_y I_y hB
  go_wp2_with fail
  clear y0 y1 y2 y3 y4
  have mb_y := hh_mb_y.out
  have I_y := hh_I_y.out
  have hB := hh_hB.out
  clear hh_mb_y hh_I_y hh_hB
  refine (wwr_is I_y HU.out.1 HU.out.2).mono ?_
  rintro e w3 ⟨rfl, bb⟩
  replace mb_y := cells_below mb_y bb (Array.getElem?_eq_some_iff.1 mb_y).1
  replace hB := Below.on hB bb
  replace I_y := I_y.below bb
  clear bb
  clear mb_y
  clear I_y
  have hh_hB := Hid_mkG hB
  clear hB
  go_wp2_with fail
  have hB := hh_hB.out
  clear hh_hB
  refine (wireBegun_any _).mono ?_
  rintro e w4 ⟨rfl, bb⟩
  replace hB := Below.on hB bb
  clear bb
  have hh_hB := Hid_mkG hB
  clear hB
  go_wp2_with fail
  go_ret
  have hB := hh_hB.out
  exact ⟨rfl, hB⟩

set_option maxHeartbeats 8000000 in
theorem wbk_nn (ra : Option Addr) (rc : Nat) (sa : Option Addr) (sc : Nat) (fa : Option Addr) (fc : Nat) (na : Option Addr) (nc : Nat) (m : ImgD) (u S : ByteArray) (E : Int) (E2 : Int) (w : World) (h : Img w (.agg #[.int .i64 m.guest, .slice ra m.root.length rc, .slice sa m.slots.length sc, .slice fa m.refs.length fc, .slice na m.snaps.length nc]) m) (HS : Hid (wiV m = S)) (HE : Hid (checkE m = E)) (hE0 : (E == 0) = false)  (HR : Hid (rdE u = (imgZ, E2))) (hE2 : (E2 != 0) = true) :
    Calls Try.prog 5 #[.agg #[.int .i64 m.guest, .slice ra m.root.length rc, .slice sa m.slots.length sc, .slice fa m.refs.length fc, .slice na m.snaps.length nc], .string u] w fun r w' => r = .returned (.bool true) ∧ Below w.heap.size w w' := by
  have hB : Below w.heap.size w (w.alloc (.cells #[.int .i64 m.guest, .slice ra m.root.length rc, .slice sa m.slots.length sc, .slice fa m.refs.length fc, .slice na m.snaps.length nc] 26)) := (Below.refl _ _).alloc (Nat.le_refl _) _
  have mb_m : (w.alloc (.cells #[.int .i64 m.guest, .slice ra m.root.length rc, .slice sa m.slots.length sc, .slice fa m.refs.length fc, .slice na m.snaps.length nc] 26)).heap[w.heap.size]? = some (.cells #[.int .i64 m.guest, .slice ra m.root.length rc, .slice sa m.slots.length sc, .slice fa m.refs.length fc, .slice na m.snaps.length nc] 26) := World.alloc_heap_new _ _
  have I_m := h.below hB
  clear h
  go_enter Try.func5, Try.ntmps5
  obtain ⟨m0, m1, m2, m3, m4⟩ := five mb_m
  have hh_mb_m := Hid_mkG mb_m
  have hh_I_m := Hid_mkG I_m
  have hh_hB := Hid_mkG hB
  clear mb_m I_m hB
  go_wp2_with fail
  clear m0 m1 m2 m3 m4
  have mb_m := hh_mb_m.out
  have I_m := hh_I_m.out
  have hB := hh_hB.out
  clear hh_mb_m hh_I_m hh_hB
  refine (wwr_is I_m HS.out HE.out).mono ?_
  rintro e w1 ⟨rfl, bb⟩
  replace mb_m := cells_below mb_m bb (Array.getElem?_eq_some_iff.1 mb_m).1
  replace hB := Below.on hB bb
  replace I_m := I_m.below bb
  clear bb
  clear mb_m
  clear I_m
  have hh_hB := Hid_mkG hB
  clear hB
  go_wp2_with fail
  have hB := hh_hB.out
  clear hh_hB
  refine (rd_no HR.out).mono ?_
  rintro e w2 ⟨y_r, y_rc, y_s, y_sc, y_f, y_fc, y_n, y_nc, rfl, I_y, bb⟩
  try dsimp only
  replace hB := Below.on hB bb
  clear bb
  have ba : Below w2.heap.size w2 (w2.alloc (.cells #[.int .i64 imgZ.guest, .slice y_r imgZ.root.length y_rc, .slice y_s imgZ.slots.length y_sc, .slice y_f imgZ.refs.length y_fc, .slice y_n imgZ.snaps.length y_nc] 26)) := (Below.refl _ _).alloc (Nat.le_refl _) _
  replace hB := Below.on hB ba
  replace I_y := I_y.below ba
  clear ba
  have mb_y : (w2.alloc (.cells #[.int .i64 imgZ.guest, .slice y_r imgZ.root.length y_rc, .slice y_s imgZ.slots.length y_sc, .slice y_f imgZ.refs.length y_fc, .slice y_n imgZ.snaps.length y_nc] 26)).heap[w2.heap.size]? = some (.cells #[.int .i64 imgZ.guest, .slice y_r imgZ.root.length y_rc, .slice y_s imgZ.slots.length y_sc, .slice y_f imgZ.refs.length y_fc, .slice y_n imgZ.snaps.length y_nc] 26) := World.alloc_heap_new _ _
  clear mb_y
  clear I_y
  have hh_hB := Hid_mkG hB
  clear hB
  go_wp2_with fail
  have hB := hh_hB.out
  clear hh_hB
  refine (wireBegun_any _).mono ?_
  rintro e w3 ⟨rfl, bb⟩
  replace hB := Below.on hB bb
  clear bb
  have hh_hB := Hid_mkG hB
  clear hB
  go_wp2_with fail
  go_ret
  have hB := hh_hB.out
  exact ⟨rfl, hB⟩

theorem wbk_is {w : World} {v : Value} {m : ImgD} (h : Img w v m) (u : ByteArray) :
    Calls Try.prog 5 #[v, .string u] w fun r w' => r = .returned (.bool true) ∧ Below w.heap.size w w' := by
  have h' := h
  obtain ⟨ra, rc, sa, sc, fa, fc, na, nc, rfl, _⟩ := h.parts
  by_cases hE : checkE m = 0
  · rcases rdE_cases u with ⟨M2, h1, h2, h3⟩ | ⟨E2, h1, h2⟩
    · exact wbk_yy ra rc sa sc fa fc na nc m u _ _ M2 w h' rfl rfl (by rw [hE]; rfl) (rdE_back hE) h1 ⟨h2, h3⟩
    · exact wbk_yn ra rc sa sc fa fc na nc m u _ _ E2 w h' rfl rfl (by rw [hE]; rfl) (rdE_back hE) h1 h2
  · rcases rdE_cases u with ⟨M2, h1, h2, h3⟩ | ⟨E2, h1, h2⟩
    · exact wbk_ny ra rc sa sc fa fc na nc m u _ _ M2 w h' rfl rfl (by simpa using hE) h1 ⟨h2, h3⟩
    · exact wbk_nn ra rc sa sc fa fc na nc m u _ _ E2 w h' rfl rfl (by simpa using hE) h1 h2
end Go.Proofs.Ytehleeibgkpjmag
/- From the reading of an argument to what it holds: slices of integers, slots, slices of slots. -/
namespace Go.Proofs.Ytehleeibgkpjmag
open Go.RowKit Go.Deep Go.ChangeShapes Go.WideShapes Go.ChangeAt
set_option maxRecDepth 20000

theorem cells27 : Try.prog.cellsOf 22 = 1 := by kernel_rfl
theorem cells3 : Try.prog.cellsOf 3 = 1 := by kernel_rfl
theorem cells9 : Try.prog.cellsOf 9 = 1 := by kernel_rfl
theorem cells29 : Try.prog.cellsOf 60 = 3 := by kernel_rfl

variable {H : Type} {enc : TypeId × Value → H} {w : World} {base : Nat} {spare : Nat → Bool} {held : Bool}

theorem row_at {w : World} {a : Addr} {n : Nat} {f : Nat → Value} (hn : 0 < n) (h : ∀ i, i < n → w.cell? (a.add i) = some (f i)) :
    ∃ b off, a = ⟨b, off, none⟩ ∧ b < w.heap.size ∧ ∀ i, i < n → w.cell? ⟨b, off + i, none⟩ = some (f i) := by
  have h0 := h 0 hn
  obtain ⟨b, off, spot⟩ := a
  have hspot : spot = none := by simpa [Addr.add] using World.cell?_spot h0
  subst hspot
  refine ⟨b, off, rfl, World.block_lt_of_cell? w _ (by rw [addr_add] at h0; exact h0), fun i hi => ?_⟩
  have := h i hi
  rw [addr_add] at this
  exact this

theorem sl_of_trod {n : Nat} {cs : List Value} {x : DataW H × List MemPlace} (h : DataW.trod enc Try.prog w base spare held n 22 cs = some x) : ∃ v xs, cs = [v] ∧ Sl w v xs := by
  rcases open_ints Try.underlying22 Try.underlying3 cells3 h with ⟨rfl, _⟩ | ⟨a, l, c, zs, rfl, _, hl, hm, hz, _, hcell, _⟩
  · exact ⟨_, [], rfl, Sl.nil w⟩
  · have hlz : l ≤ zs.length := by rw [hz]; split <;> omega
    have hlen : (zs.take l).length = l := by simp; omega
    refine ⟨_, zs.take l, rfl, some a, c, by rw [hlen], by rw [hlen]; omega, by rw [hlen]; exact hl, fun hne => ?_⟩
    have hpos : 0 < l := by
      rcases Nat.eq_zero_or_pos l with e | e
      · subst e; simp at hne
      · exact e
    obtain ⟨b, off, rfl, hb, hc⟩ := row_at (w := w) (a := a) (n := l) (f := fun i => .int .i64 (zs.getD i 0)) hpos (fun i hi => hcell i (by omega))
    refine ⟨b, off, rfl, hb, fun j hj => ?_⟩
    rw [hlen] at hj
    rw [hc j hj]
    simp [List.getD, hj]

set_option maxRecDepth 20000 in
theorem slot_of_trod {n : Nat} {cs : List Value} {x : DataW H × List MemPlace} (h : DataW.trod enc Try.prog w base spare held n 60 cs = some x) :
    ∃ k d tv xs, cs = [.int .i64 k, .string d, tv] ∧ Sl w tv xs := by
  obtain ⟨y0, y1, y2, m, _, hl, h0, h1, h2⟩ := trod_struct3 Try.underlying60 h
  rw [cells29] at hl
  match cs, hl with
  | [c0, c1, c2], _ =>
    simp only [cells3, cells9, cells27] at h0 h1 h2
    obtain ⟨k, e0, _, _⟩ := DataW.trod_int Try.underlying3 h0
    obtain ⟨d, e1, _, _⟩ := DataW.trod_string Try.underlying9 h1
    obtain ⟨tv, xs, e2, hs⟩ := sl_of_trod h2
    simp at e0 e1 e2
    subst e0 e1 e2
    exact ⟨k, d, _, xs, rfl, hs⟩

theorem slots_of_trod {n : Nat} {v : Value} {x : DataW H × List MemPlace} (h : DataW.trod enc Try.prog w base spare held n 23 [v] = some x) : ∃ L, Slots w v L := by
  rcases open_slice Try.underlying23 h with ⟨hv, _⟩ | ⟨a, len, cap, m, fuel, D, Pl, hv, _, hl, hm, hmm, _, hx⟩
  · simp at hv
    subst hv
    exact ⟨[], none, 0, rfl, Nat.zero_le _, Nat.zero_le _, fun h => absurd rfl h⟩
  · simp at hv
    subst hv
    rw [cells29] at hx
    have hx' : ∀ i, i < len → ∃ s : SlotD, ∃ tv, w.cell? (a.add (i * 3)) = some (.int .i64 s.1) ∧ w.cell? ((a.add (i * 3)).add 1) = some (.string s.2.1) ∧ w.cell? ((a.add (i * 3)).add 2) = some tv ∧ Sl w tv s.2.2 := by
      intro i hi
      obtain ⟨cs', h1, h2⟩ := hx i (by rw [hmm]; split <;> omega)
      obtain ⟨k, d, tv, xs, rfl, hs⟩ := slot_of_trod h2
      obtain ⟨_, _, hc⟩ := World.cells?_some h1
      have c0 := hc 0 (by omega)
      have c1 := hc 1 (by omega)
      have c2 := hc 2 (by omega)
      exact ⟨(k, d, xs), tv, by simpa [Addr.add] using c0, c1, c2, hs⟩
    obtain ⟨f, hf⟩ := choose_lt hx'
    have hlen : ((List.range len).map f).length = len := by simp
    refine ⟨(List.range len).map f, some a, cap, by rw [hlen], by rw [hlen]; omega, by rw [hlen]; exact hl, fun hne => ?_⟩
    have hpos : 0 < len := by
      rcases Nat.eq_zero_or_pos len with e | e
      · subst e; simp at hne
      · exact e
    obtain ⟨tv0, c0, _⟩ := hf 0 hpos
    obtain ⟨b, off, spot⟩ := a
    have hspot : spot = none := by simpa [Addr.add] using World.cell?_spot c0
    subst hspot
    refine ⟨b, off, rfl, World.block_lt_of_cell? w _ (by rw [addr_add] at c0; exact c0), fun j hj => ?_⟩
    rw [hlen] at hj
    obtain ⟨tv, c0, c1, c2, hs⟩ := hf j hj
    rw [addr_add] at c0 c1 c2
    rw [addr_add] at c1 c2
    have e : ((List.range len).map f)[j]'(by rw [hlen]; exact hj) = f j := by simp
    rw [e]
    exact ⟨tv, c0, c1, c2, hs⟩
end Go.Proofs.Ytehleeibgkpjmag
/- From the reading of an argument to what it holds: snapshots, slices of them, images. -/
namespace Go.Proofs.Ytehleeibgkpjmag
open Go.RowKit Go.Deep Go.ChangeShapes Go.WideShapes Go.ChangeAt
set_option maxRecDepth 20000

theorem cellsSnap : Try.prog.cellsOf 74 = 3 := by kernel_rfl
theorem cellsSnaps : Try.prog.cellsOf 24 = 1 := by kernel_rfl
theorem cellsSlots : Try.prog.cellsOf 23 = 1 := by kernel_rfl
theorem cellsImage : Try.prog.cellsOf 26 = 5 := by kernel_rfl

variable {H : Type} {enc : TypeId × Value → H} {w : World} {base : Nat} {spare : Nat → Bool} {held : Bool}

set_option maxRecDepth 20000 in
theorem snap_of_trod {n : Nat} {cs : List Value} {x : DataW H × List MemPlace} (h : DataW.trod enc Try.prog w base spare held n 74 cs = some x) :
    ∃ d k tv xs, cs = [.string d, .int .i64 k, tv] ∧ Sl w tv xs := by
  obtain ⟨y0, y1, y2, m, _, hl, h0, h1, h2⟩ := trod_struct3 Try.underlying74 h
  rw [cellsSnap] at hl
  match cs, hl with
  | [c0, c1, c2], _ =>
    simp only [cells3, cells9, cells27] at h0 h1 h2
    obtain ⟨d, e0, _, _⟩ := DataW.trod_string Try.underlying9 h0
    obtain ⟨k, e1, _, _⟩ := DataW.trod_int Try.underlying3 h1
    obtain ⟨tv, xs, e2, hs⟩ := sl_of_trod h2
    simp at e0 e1 e2
    subst e0 e1 e2
    exact ⟨d, k, _, xs, rfl, hs⟩

theorem snaps_of_trod {n : Nat} {v : Value} {x : DataW H × List MemPlace} (h : DataW.trod enc Try.prog w base spare held n 24 [v] = some x) : ∃ L, Snaps w v L := by
  rcases open_slice Try.underlying24 h with ⟨hv, _⟩ | ⟨a, len, cap, m, fuel, D, Pl, hv, _, hl, hm, hmm, _, hx⟩
  · simp at hv
    subst hv
    exact ⟨[], none, 0, rfl, Nat.zero_le _, Nat.zero_le _, fun h => absurd rfl h⟩
  · simp at hv
    subst hv
    rw [cellsSnap] at hx
    have hx' : ∀ i, i < len → ∃ s : SnapD, ∃ tv, w.cell? (a.add (i * 3)) = some (.string s.1) ∧ w.cell? ((a.add (i * 3)).add 1) = some (.int .i64 s.2.1) ∧ w.cell? ((a.add (i * 3)).add 2) = some tv ∧ Sl w tv s.2.2 := by
      intro i hi
      obtain ⟨cs', h1, h2⟩ := hx i (by rw [hmm]; split <;> omega)
      obtain ⟨k, d, tv, xs, rfl, hs⟩ := snap_of_trod h2
      obtain ⟨_, _, hc⟩ := World.cells?_some h1
      have c0 := hc 0 (by omega)
      have c1 := hc 1 (by omega)
      have c2 := hc 2 (by omega)
      exact ⟨(k, d, xs), tv, by simpa [Addr.add] using c0, c1, c2, hs⟩
    obtain ⟨f, hf⟩ := choose_lt hx'
    have hlen : ((List.range len).map f).length = len := by simp
    refine ⟨(List.range len).map f, some a, cap, by rw [hlen], by rw [hlen]; omega, by rw [hlen]; exact hl, fun hne => ?_⟩
    have hpos : 0 < len := by
      rcases Nat.eq_zero_or_pos len with e | e
      · subst e; simp at hne
      · exact e
    obtain ⟨tv0, c0, _⟩ := hf 0 hpos
    obtain ⟨b, off, spot⟩ := a
    have hspot : spot = none := by simpa [Addr.add] using World.cell?_spot c0
    subst hspot
    refine ⟨b, off, rfl, World.block_lt_of_cell? w _ (by rw [addr_add] at c0; exact c0), fun j hj => ?_⟩
    rw [hlen] at hj
    obtain ⟨tv, c0, c1, c2, hs⟩ := hf j hj
    rw [addr_add] at c0 c1 c2
    rw [addr_add] at c1 c2
    have e : ((List.range len).map f)[j]'(by rw [hlen]; exact hj) = f j := by simp
    rw [e]
    exact ⟨tv, c0, c1, c2, hs⟩

theorem trod_struct5 {P : Program} {t : TypeId} {f0 f1 f2 f3 f4 : Field} {fuel : Nat} {cs : List Value} {x : DataW H × List MemPlace} (ht : P.underlying t = some (.struct #[f0, f1, f2, f3, f4])) (h : DataW.trod enc P w base spare held fuel t cs = some x) :
    ∃ y0 y1 y2 y3 y4 n, cs.length = P.cellsOf t ∧ DataW.trod enc P w base spare held n f0.type ((cs.drop f0.offset).take (P.cellsOf f0.type)) = some y0 ∧
      DataW.trod enc P w base spare held n f1.type ((cs.drop f1.offset).take (P.cellsOf f1.type)) = some y1 ∧ DataW.trod enc P w base spare held n f2.type ((cs.drop f2.offset).take (P.cellsOf f2.type)) = some y2 ∧
      DataW.trod enc P w base spare held n f3.type ((cs.drop f3.offset).take (P.cellsOf f3.type)) = some y3 ∧ DataW.trod enc P w base spare held n f4.type ((cs.drop f4.offset).take (P.cellsOf f4.type)) = some y4 := by
  obtain ⟨xs, n, _, rfl, hl, hlen, hf⟩ := DataW.trod_struct ht h
  match xs, hlen with
  | [y0, y1, y2, y3, y4], _ => exact ⟨y0, y1, y2, y3, y4, n, hl, by simpa using hf 0 f0 rfl, by simpa using hf 1 f1 rfl, by simpa using hf 2 f2 rfl, by simpa using hf 3 f3 rfl, by simpa using hf 4 f4 rfl⟩
set_option maxRecDepth 20000 in
theorem img_of_trod {n : Nat} {cs : List Value} {x : DataW H × List MemPlace} (h : DataW.trod enc Try.prog w base spare held n 26 cs = some x) : ∃ g rv sv fv nv, cs = [.int .i64 g, rv, sv, fv, nv] ∧ ∃ r L F S, Sl w rv r ∧ Slots w sv L ∧ Sl w fv F ∧ Snaps w nv S := by
  obtain ⟨y0, y1, y2, y3, y4, m, hl, h0, h1, h2, h3, h4⟩ := trod_struct5 Try.underlying26 h
  rw [cellsImage] at hl
  match cs, hl with
  | [c0, c1, c2, c3, c4], _ =>
    simp only [cells3] at h0
    simp only [cells27] at h1 h3
    simp only [cellsSlots] at h2
    simp only [cellsSnaps] at h4
    obtain ⟨g, e0, _, _⟩ := DataW.trod_int Try.underlying3 h0
    obtain ⟨rv, r, e1, hr⟩ := sl_of_trod h1
    obtain ⟨L, hL⟩ := slots_of_trod (v := c2) h2
    obtain ⟨fv, F, e3, hF⟩ := sl_of_trod h3
    obtain ⟨S, hS⟩ := snaps_of_trod (v := c4) h4
    simp at e0 e1 e3
    subst e0 e1 e3
    exact ⟨g, _, _, _, _, rfl, r, L, F, S, hr, hL, hF, hS⟩
set_option maxRecDepth 20000 in
theorem img_of_arg {r : Reach} {b0 : Nat} {v : Value} {d : DataW H} {p : List MemPlace} (hv : Value.okWide Try.prog w r b0 26 v) (h : DataW.Trod enc Try.prog w base spare held 26 v d p) : ∃ m, Img w v m := by
  obtain ⟨cs, rfl, hsz⟩ := okWide_struct Try.underlying26 hv
  obtain ⟨fuel, hf⟩ := h
  obtain ⟨g, rv, sv, fv, nv, e, r, L, F, S, h1, h2, h3, h4⟩ := img_of_trod hf
  have e' : cs.toList = [.int .i64 g, rv, sv, fv, nv] := by simpa [Value.cells] using e
  cases cs
  simp at e'
  exact ⟨⟨g, r, L, F, S⟩, rv, sv, fv, nv, by rw [e'], h1, h2, h3, h4⟩
end Go.Proofs.Ytehleeibgkpjmag
