/- Texts joined: SameI, WResizes, SlotsIn, ImgIn. -/
import Derived.Test.YtehleeibgkpjmacWritesResizesJ4
import Derived.Test.YtehleeibgkpjmacWritesResizesJ1
import Derived.Deep.RegionHeld3
import Derived.Test.YtehleeibgkpjmacWritesResizesJ15
import Derived.Deep.Strs
import Derived.Deep.Slices
import Derived.ProofKit
/- Contract of SameImages: of one image, wherever it lies twice. -/
namespace Go.Proofs.Ytehleeibgkpjmac
open Go.RowKit Go.Shelf
set_option maxRecDepth 20000

set_option maxHeartbeats 4000000 in
theorem sameI_at (m : ImgD) (ra : Option Addr) (rc : Nat) (sa : Option Addr) (sc : Nat) (fa : Option Addr) (fc : Nat) (na : Option Addr) (nc : Nat) (rb : Option Addr) (rd : Nat) (sb : Option Addr) (sd : Nat) (fb : Option Addr) (fd : Nat) (nb : Option Addr) (nd : Nat) (w : World)
    (h1 : Sl w (.slice ra m.root.length rc) m.root) (h2 : Slots w (.slice sa m.slots.length sc) m.slots) (h3 : Sl w (.slice fa m.refs.length fc) m.refs) (h4 : Snaps w (.slice na m.snaps.length nc) m.snaps)
    (k1 : Sl w (.slice rb m.root.length rd) m.root) (k2 : Slots w (.slice sb m.slots.length sd) m.slots) (k3 : Sl w (.slice fb m.refs.length fd) m.refs) (k4 : Snaps w (.slice nb m.snaps.length nd) m.snaps) :
    Calls Try.prog 29 #[.agg #[.int .i64 m.guest, .slice ra m.root.length rc, .slice sa m.slots.length sc, .slice fa m.refs.length fc, .slice na m.snaps.length nc], .agg #[.int .i64 m.guest, .slice rb m.root.length rd, .slice sb m.slots.length sd, .slice fb m.refs.length fd, .slice nb m.snaps.length nd]] w fun r w' => r = .returned (.bool true) ∧ Below w.heap.size w w' := by
  have b0 : Below w.heap.size w ((w.alloc (.cells #[.int .i64 m.guest, .slice ra m.root.length rc, .slice sa m.slots.length sc, .slice fa m.refs.length fc, .slice na m.snaps.length nc] 26)).alloc (.cells #[.int .i64 m.guest, .slice rb m.root.length rd, .slice sb m.slots.length sd, .slice fb m.refs.length fd, .slice nb m.snaps.length nd] 26)) := ((Below.refl _ _).alloc (Nat.le_refl _) _).alloc (by simp) _
  have m0 : ((w.alloc (.cells #[.int .i64 m.guest, .slice ra m.root.length rc, .slice sa m.slots.length sc, .slice fa m.refs.length fc, .slice na m.snaps.length nc] 26)).alloc (.cells #[.int .i64 m.guest, .slice rb m.root.length rd, .slice sb m.slots.length sd, .slice fb m.refs.length fd, .slice nb m.snaps.length nd] 26)).heap[w.heap.size]? = some (.cells #[.int .i64 m.guest, .slice ra m.root.length rc, .slice sa m.slots.length sc, .slice fa m.refs.length fc, .slice na m.snaps.length nc] 26) := cells_alloc (World.alloc_heap_new _ _) _
  have m1 : ((w.alloc (.cells #[.int .i64 m.guest, .slice ra m.root.length rc, .slice sa m.slots.length sc, .slice fa m.refs.length fc, .slice na m.snaps.length nc] 26)).alloc (.cells #[.int .i64 m.guest, .slice rb m.root.length rd, .slice sb m.slots.length sd, .slice fb m.refs.length fd, .slice nb m.snaps.length nd] 26)).heap[w.heap.size + 1]? = some (.cells #[.int .i64 m.guest, .slice rb m.root.length rd, .slice sb m.slots.length sd, .slice fb m.refs.length fd, .slice nb m.snaps.length nd] 26) := by have := World.alloc_heap_new (w.alloc (.cells #[.int .i64 m.guest, .slice ra m.root.length rc, .slice sa m.slots.length sc, .slice fa m.refs.length fc, .slice na m.snaps.length nc] 26)) (.cells #[.int .i64 m.guest, .slice rb m.root.length rd, .slice sb m.slots.length sd, .slice fb m.refs.length fd, .slice nb m.snaps.length nd] 26); simpa using this
  obtain ⟨c0, c1, c2, c3, c4⟩ := five m0
  obtain ⟨d0, d1, d2, d3, d4⟩ := five m1
  have HR := same_any (h1.below b0) (k1.below b0)
  have HF := fun W (hW : Below w.heap.size w W) => same_any (h3.below hW) (k3.below hW)
  have HS : Hid (Slots w (.slice sa m.slots.length sc) m.slots ∧ Slots w (.slice sb m.slots.length sd) m.slots ∧ Snaps w (.slice na m.snaps.length nc) m.snaps ∧ Snaps w (.slice nb m.snaps.length nd) m.snaps) := ⟨h2, k2, h4, k4⟩
  have HL : Hid (m.slots.length ≤ 9223372036854775807 ∧ m.snaps.length ≤ 9223372036854775807) := ⟨h2.small, h4.small⟩
  clear h1 h2 h3 h4 k1 k2 k3 k4
  go_enter Try.func29, Try.ntmps29
  go_wp2_with (first
    | (go_at_call 39; refine (HF _ bw1).mono ?_; rintro e w2 ⟨rfl, b2⟩; have m4 := cells_below m2 b2 (Array.getElem?_eq_some_iff.1 m2).1; have m5 := cells_below m3 b2 (Array.getElem?_eq_some_iff.1 m3).1; obtain ⟨g0, g1, g2, g3, g4⟩ := five m4; obtain ⟨i0, i1, i2, i3, i4⟩ := five m5; have bw2 := Below.on bw1 b2)
    | (go_at_call 39; refine HR.mono ?_; rintro e w1 ⟨rfl, b1⟩; have m2 := cells_below m0 b1 (by simp <;> omega); have m3 := cells_below m1 b1 (by simp <;> omega); obtain ⟨e0, e1, e2, e3, e4⟩ := five m2; obtain ⟨f0, f1, f2, f3, f4⟩ := five m3; have bw1 := Below.on b0 b1))
  have HB : Hid (w2.heap[w.heap.size]? = some (.cells #[.int .i64 m.guest, .slice ra m.root.length rc, .slice sa m.slots.length sc, .slice fa m.refs.length fc, .slice na m.snaps.length nc] 26) ∧ w2.heap[w.heap.size + 1]? = some (.cells #[.int .i64 m.guest, .slice rb m.root.length rd, .slice sb m.slots.length sd, .slice fb m.refs.length fd, .slice nb m.snaps.length nd] 26) ∧ Below w.heap.size w w2) := ⟨m4, m5, bw2⟩
  clear c0 c1 c2 c3 c4 d0 d1 d2 d3 d4 e0 e1 e2 e3 e4 f0 f1 f2 f3 f4 g0 g1 g2 g3 g4 i0 i1 i2 i3 i4 m0 m1 m2 m3 m4 m5 b0 b1 b2 bw1 bw2 HR HF
  go_loopw [5] (fun i wr => ∃ k : Nat, k ≤ m.slots.length ∧ i = .int .i64 k ∧ Hid (wr.heap[w.heap.size]? = some (.cells #[.int .i64 m.guest, .slice ra m.root.length rc, .slice sa m.slots.length sc, .slice fa m.refs.length fc, .slice na m.snaps.length nc] 26) ∧ wr.heap[w.heap.size + 1]? = some (.cells #[.int .i64 m.guest, .slice rb m.root.length rd, .slice sb m.slots.length sd, .slice fb m.refs.length fd, .slice nb m.snaps.length nd] 26) ∧ Below w.heap.size w wr)) (fun i _ => m.slots.length - (intOf i).toNat)
  case atStart => exact ⟨0, Nat.zero_le _, rfl, HB⟩
  case round =>
    obtain ⟨k, hk, rfl, HC⟩ := hrel
    obtain ⟨mA, mB, hb⟩ := HC.out
    obtain ⟨c0, c1, c2, c3, c4⟩ := five mA
    obtain ⟨d0, d1, d2, d3, d4⟩ := five mB
    have hL := HL.out.1
    by_cases hlk : k < m.slots.length
    · have hki : (k : Int) < (m.slots.length : Int) := by omega
      have hL1 : (k : Int) + 1 ≤ 9223372036854775807 := by omega
      obtain ⟨pb, po, pc, e, _, hpl, hps⟩ := HS.out.1.open (by omega)
      simp at e
      obtain ⟨rfl, rfl⟩ := e
      obtain ⟨qb, qo, qc, e, _, hql, hqs⟩ := HS.out.2.1.open (by omega)
      simp at e
      obtain ⟨rfl, rfl⟩ := e
      obtain ⟨s, hs⟩ : ∃ s, m.slots[k] = s := ⟨_, rfl⟩
      obtain ⟨kk, dd, tt⟩ := s
      obtain ⟨tv, p0, p1, p2, ps⟩ := hps k hlk
      obtain ⟨uv, q0, q1, q2, qs⟩ := hqs k hlk
      rw [hs] at p0 p1 ps q0 q1 qs
      obtain ⟨ta, tc, rfl⟩ := ps.form
      obtain ⟨ua, uc, rfl⟩ := qs.form
      have p0 : wr.cell? ⟨pb, po + k * 3, none⟩ = some (.int .i64 kk) := (hb.cell (p := ⟨pb, po + k * 3, none⟩) hpl).trans p0
      have p1 : wr.cell? ⟨pb, po + k * 3 + 1, none⟩ = some (.string dd) := (hb.cell (p := ⟨pb, po + k * 3 + 1, none⟩) hpl).trans p1
      have p2 : wr.cell? ⟨pb, po + k * 3 + 1 + 1, none⟩ = some (.slice ta tt.length tc) := (hb.cell (p := ⟨pb, po + k * 3 + 1 + 1, none⟩) hpl).trans p2
      have q0 : wr.cell? ⟨qb, qo + k * 3, none⟩ = some (.int .i64 kk) := (hb.cell (p := ⟨qb, qo + k * 3, none⟩) hql).trans q0
      have q1 : wr.cell? ⟨qb, qo + k * 3 + 1, none⟩ = some (.string dd) := (hb.cell (p := ⟨qb, qo + k * 3 + 1, none⟩) hql).trans q1
      have q2 : wr.cell? ⟨qb, qo + k * 3 + 1 + 1, none⟩ = some (.slice ua tt.length uc) := (hb.cell (p := ⟨qb, qo + k * 3 + 1 + 1, none⟩) hql).trans q2
      have hcall := same_any (w := wr.drew) (ps.below (to_drew hb)) (qs.below (to_drew hb))
      have hpw : pb < wr.heap.size := Nat.lt_of_lt_of_le hpl hb.size
      have hqw : qb < wr.heap.size := Nat.lt_of_lt_of_le hql hb.size
      have HN : Hid (∀ W, Below wr.heap.size wr W → W.heap[w.heap.size]? = some (.cells #[.int .i64 m.guest, .slice ra m.root.length rc, .slice (some ⟨pb, po, none⟩) m.slots.length sc, .slice fa m.refs.length fc, .slice na m.snaps.length nc] 26) ∧ W.heap[w.heap.size + 1]? = some (.cells #[.int .i64 m.guest, .slice rb m.root.length rd, .slice (some ⟨qb, qo, none⟩) m.slots.length sd, .slice fb m.refs.length fd, .slice nb m.snaps.length nd] 26) ∧ Below w.heap.size w W) := fun W hW => ⟨cells_below mA hW (Array.getElem?_eq_some_iff.1 mA).1, cells_below mB hW (Array.getElem?_eq_some_iff.1 mB).1, Below.on hb hW⟩
      have HK : Hid (∀ W, Below wr.heap.size wr W → W.cell? ⟨w.heap.size, 0 + 1 + 1, none⟩ = some (.slice (some ⟨pb, po, none⟩) m.slots.length sc) ∧ W.cell? ⟨w.heap.size + 1, 0 + 1 + 1, none⟩ = some (.slice (some ⟨qb, qo, none⟩) m.slots.length sd) ∧ W.cell? ⟨pb, po + k * 3, none⟩ = some (.int .i64 kk) ∧ W.cell? ⟨pb, po + k * 3 + 1, none⟩ = some (.string dd) ∧ W.cell? ⟨pb, po + k * 3 + 1 + 1, none⟩ = some (.slice ta tt.length tc) ∧ W.cell? ⟨qb, qo + k * 3, none⟩ = some (.int .i64 kk) ∧ W.cell? ⟨qb, qo + k * 3 + 1, none⟩ = some (.string dd) ∧ W.cell? ⟨qb, qo + k * 3 + 1 + 1, none⟩ = some (.slice ua tt.length uc)) := fun W hW => ⟨(hW.cell (p := ⟨w.heap.size, 0 + 1 + 1, none⟩) (Array.getElem?_eq_some_iff.1 mA).1).trans c2, (hW.cell (p := ⟨w.heap.size + 1, 0 + 1 + 1, none⟩) (Array.getElem?_eq_some_iff.1 mB).1).trans d2, (hW.cell (p := ⟨pb, po + k * 3, none⟩) hpw).trans p0, (hW.cell (p := ⟨pb, po + k * 3 + 1, none⟩) hpw).trans p1, (hW.cell (p := ⟨pb, po + k * 3 + 1 + 1, none⟩) hpw).trans p2, (hW.cell (p := ⟨qb, qo + k * 3, none⟩) hqw).trans q0, (hW.cell (p := ⟨qb, qo + k * 3 + 1, none⟩) hqw).trans q1, (hW.cell (p := ⟨qb, qo + k * 3 + 1 + 1, none⟩) hqw).trans q2⟩
      clear hs mA mB ps qs hps hqs
      go_wp2_with fail
      go_region_held3 (fun W => W.cell? ⟨w.heap.size, 0 + 1 + 1, none⟩ = some (.slice (some ⟨pb, po, none⟩) m.slots.length sc) ∧ W.cell? ⟨w.heap.size + 1, 0 + 1 + 1, none⟩ = some (.slice (some ⟨qb, qo, none⟩) m.slots.length sd) ∧ W.cell? ⟨pb, po + k * 3, none⟩ = some (.int .i64 kk) ∧ W.cell? ⟨pb, po + k * 3 + 1, none⟩ = some (.string dd) ∧ W.cell? ⟨pb, po + k * 3 + 1 + 1, none⟩ = some (.slice ta tt.length tc) ∧ W.cell? ⟨qb, qo + k * 3, none⟩ = some (.int .i64 kk) ∧ W.cell? ⟨qb, qo + k * 3 + 1, none⟩ = some (.string dd) ∧ W.cell? ⟨qb, qo + k * 3 + 1 + 1, none⟩ = some (.slice ua tt.length uc)) (first | exact HK.out _ b3 | exact HK.out _ (to_drew (Below.refl _ _)))
        (first | (go_at_call 39; refine hcall.mono ?_; rintro e w3 ⟨rfl, b3⟩; have b3 := below_drew b3))
      go_wp2_with fail
      go_roundw
      case rel => exact ⟨k + 1, by omega, by go_num, HN.out _ b3⟩
      case measure => simp [intOf]; omega
    · have ek : k = m.slots.length := by omega
      subst ek
      obtain ⟨x, hrn⟩ : ∃ X, X = wr := ⟨_, rfl⟩
      subst hrn
      go_wp2_with fail
      clear c0 c1 c2 c3 c4 d0 d1 d2 d3 d4 mA mB hb hL
      go_loopw [6] (fun i wr => ∃ l : Nat, l ≤ m.snaps.length ∧ i = .int .i64 l ∧ Hid (wr.heap[w.heap.size]? = some (.cells #[.int .i64 m.guest, .slice ra m.root.length rc, .slice sa m.slots.length sc, .slice fa m.refs.length fc, .slice na m.snaps.length nc] 26) ∧ wr.heap[w.heap.size + 1]? = some (.cells #[.int .i64 m.guest, .slice rb m.root.length rd, .slice sb m.slots.length sd, .slice fb m.refs.length fd, .slice nb m.snaps.length nd] 26) ∧ Below w.heap.size w wr)) (fun i _ => m.snaps.length - (intOf i).toNat)
      case atStart => exact ⟨0, Nat.zero_le _, rfl, HC⟩
      case round =>
        obtain ⟨l, hl, rfl, HD⟩ := hrel
        obtain ⟨mA, mB, hb⟩ := HD.out
        obtain ⟨c0, c1, c2, c3, c4⟩ := five mA
        obtain ⟨d0, d1, d2, d3, d4⟩ := five mB
        have hL := HL.out.2
        by_cases hll : l < m.snaps.length
        · have hki : (l : Int) < (m.snaps.length : Int) := by omega
          have hL1 : (l : Int) + 1 ≤ 9223372036854775807 := by omega
          obtain ⟨pb, po, pc, e, _, hpl, hps⟩ := HS.out.2.2.1.open (by omega)
          simp at e
          obtain ⟨rfl, rfl⟩ := e
          obtain ⟨qb, qo, qc, e, _, hql, hqs⟩ := HS.out.2.2.2.open (by omega)
          simp at e
          obtain ⟨rfl, rfl⟩ := e
          obtain ⟨s, hs⟩ : ∃ s, m.snaps[l] = s := ⟨_, rfl⟩
          obtain ⟨nm, sg, tt⟩ := s
          obtain ⟨tv, p0, p1, p2, ps⟩ := hps l hll
          obtain ⟨uv, q0, q1, q2, qs⟩ := hqs l hll
          rw [hs] at p0 p1 ps q0 q1 qs
          obtain ⟨ta, tc, rfl⟩ := ps.form
          obtain ⟨ua, uc, rfl⟩ := qs.form
          have p0 : wr.cell? ⟨pb, po + l * 3, none⟩ = some (.string nm) := (hb.cell (p := ⟨pb, po + l * 3, none⟩) hpl).trans p0
          have p1 : wr.cell? ⟨pb, po + l * 3 + 1, none⟩ = some (.int .i64 sg) := (hb.cell (p := ⟨pb, po + l * 3 + 1, none⟩) hpl).trans p1
          have p2 : wr.cell? ⟨pb, po + l * 3 + 1 + 1, none⟩ = some (.slice ta tt.length tc) := (hb.cell (p := ⟨pb, po + l * 3 + 1 + 1, none⟩) hpl).trans p2
          have q0 : wr.cell? ⟨qb, qo + l * 3, none⟩ = some (.string nm) := (hb.cell (p := ⟨qb, qo + l * 3, none⟩) hql).trans q0
          have q1 : wr.cell? ⟨qb, qo + l * 3 + 1, none⟩ = some (.int .i64 sg) := (hb.cell (p := ⟨qb, qo + l * 3 + 1, none⟩) hql).trans q1
          have q2 : wr.cell? ⟨qb, qo + l * 3 + 1 + 1, none⟩ = some (.slice ua tt.length uc) := (hb.cell (p := ⟨qb, qo + l * 3 + 1 + 1, none⟩) hql).trans q2
          have hcall := same_any (w := wr.drew) (ps.below (to_drew hb)) (qs.below (to_drew hb))
          have hpw : pb < wr.heap.size := Nat.lt_of_lt_of_le hpl hb.size
          have hqw : qb < wr.heap.size := Nat.lt_of_lt_of_le hql hb.size
          have HN : Hid (∀ W, Below wr.heap.size wr W → W.heap[w.heap.size]? = some (.cells #[.int .i64 m.guest, .slice ra m.root.length rc, .slice sa m.slots.length sc, .slice fa m.refs.length fc, .slice (some ⟨pb, po, none⟩) m.snaps.length nc] 26) ∧ W.heap[w.heap.size + 1]? = some (.cells #[.int .i64 m.guest, .slice rb m.root.length rd, .slice sb m.slots.length sd, .slice fb m.refs.length fd, .slice (some ⟨qb, qo, none⟩) m.snaps.length nd] 26) ∧ Below w.heap.size w W) := fun W hW => ⟨cells_below mA hW (Array.getElem?_eq_some_iff.1 mA).1, cells_below mB hW (Array.getElem?_eq_some_iff.1 mB).1, Below.on hb hW⟩
          have HK : Hid (∀ W, Below wr.heap.size wr W → W.cell? ⟨w.heap.size, 0 + 1 + 1 + 1 + 1, none⟩ = some (.slice (some ⟨pb, po, none⟩) m.snaps.length nc) ∧ W.cell? ⟨w.heap.size + 1, 0 + 1 + 1 + 1 + 1, none⟩ = some (.slice (some ⟨qb, qo, none⟩) m.snaps.length nd) ∧ W.cell? ⟨pb, po + l * 3, none⟩ = some (.string nm) ∧ W.cell? ⟨pb, po + l * 3 + 1, none⟩ = some (.int .i64 sg) ∧ W.cell? ⟨pb, po + l * 3 + 1 + 1, none⟩ = some (.slice ta tt.length tc) ∧ W.cell? ⟨qb, qo + l * 3, none⟩ = some (.string nm) ∧ W.cell? ⟨qb, qo + l * 3 + 1, none⟩ = some (.int .i64 sg) ∧ W.cell? ⟨qb, qo + l * 3 + 1 + 1, none⟩ = some (.slice ua tt.length uc)) := fun W hW => ⟨(hW.cell (p := ⟨w.heap.size, 0 + 1 + 1 + 1 + 1, none⟩) (Array.getElem?_eq_some_iff.1 mA).1).trans c4, (hW.cell (p := ⟨w.heap.size + 1, 0 + 1 + 1 + 1 + 1, none⟩) (Array.getElem?_eq_some_iff.1 mB).1).trans d4, (hW.cell (p := ⟨pb, po + l * 3, none⟩) hpw).trans p0, (hW.cell (p := ⟨pb, po + l * 3 + 1, none⟩) hpw).trans p1, (hW.cell (p := ⟨pb, po + l * 3 + 1 + 1, none⟩) hpw).trans p2, (hW.cell (p := ⟨qb, qo + l * 3, none⟩) hqw).trans q0, (hW.cell (p := ⟨qb, qo + l * 3 + 1, none⟩) hqw).trans q1, (hW.cell (p := ⟨qb, qo + l * 3 + 1 + 1, none⟩) hqw).trans q2⟩
          clear hs mA mB ps qs hps hqs
          go_wp2_with fail
          go_region_held3 (fun W => W.cell? ⟨w.heap.size, 0 + 1 + 1 + 1 + 1, none⟩ = some (.slice (some ⟨pb, po, none⟩) m.snaps.length nc) ∧ W.cell? ⟨w.heap.size + 1, 0 + 1 + 1 + 1 + 1, none⟩ = some (.slice (some ⟨qb, qo, none⟩) m.snaps.length nd) ∧ W.cell? ⟨pb, po + l * 3, none⟩ = some (.string nm) ∧ W.cell? ⟨pb, po + l * 3 + 1, none⟩ = some (.int .i64 sg) ∧ W.cell? ⟨pb, po + l * 3 + 1 + 1, none⟩ = some (.slice ta tt.length tc) ∧ W.cell? ⟨qb, qo + l * 3, none⟩ = some (.string nm) ∧ W.cell? ⟨qb, qo + l * 3 + 1, none⟩ = some (.int .i64 sg) ∧ W.cell? ⟨qb, qo + l * 3 + 1 + 1, none⟩ = some (.slice ua tt.length uc)) (first | exact HK.out _ b3 | exact HK.out _ (to_drew (Below.refl _ _)))
            (first | (go_at_call 39; refine hcall.mono ?_; rintro e w3 ⟨rfl, b3⟩; have b3 := below_drew b3))
          go_wp2_with fail
          go_roundw
          case rel => exact ⟨l + 1, by omega, by go_num, HN.out _ b3⟩
          case measure => simp [intOf]; omega
        · have el : l = m.snaps.length := by omega
          subst el
          go_wp2_with fail
          go_ret
          exact ⟨rfl, hb⟩
theorem sameI_is {w : World} {v u : Value} {m : ImgD} (h : Img w v m) (k : Img w u m) : Calls Try.prog 29 #[v, u] w fun r w' => r = .returned (.bool true) ∧ Below w.heap.size w w' := by
  obtain ⟨ra, rc, sa, sc, fa, fc, na, nc, rfl, h1, h2, h3, h4⟩ := h.parts
  obtain ⟨rb, rd, sb, sd, fb, fd, nb, nd, rfl, k1, k2, k3, k4⟩ := k.parts
  exact sameI_at m ra rc sa sc fa fc na nc rb rd sb sd fb fd nb nd w h1 h2 h3 h4 k1 k2 k3 k4
end Go.Proofs.Ytehleeibgkpjmac
/- The walk of WritesResizes. -/
namespace Go.Proofs.Ytehleeibgkpjmac
open Go.RowKit Go.Shelf
set_option maxRecDepth 20000
set_option linter.unusedVariables false

set_option maxHeartbeats 8000000 in
theorem wresizes_at (ra : Option Addr) (rc : Nat) (sa : Option Addr) (sc : Nat) (fa : Option Addr) (fc : Nat) (na : Option Addr) (nc : Nat) (m : ImgD) (g : Int) (w : World) (h : Img w (.agg #[.int .i64 m.guest, .slice ra m.root.length rc, .slice sa m.slots.length sc, .slice fa m.refs.length fc, .slice na m.snaps.length nc]) m) :
    Calls Try.prog 8 #[.agg #[.int .i64 m.guest, .slice ra m.root.length rc, .slice sa m.slots.length sc, .slice fa m.refs.length fc, .slice na m.snaps.length nc], .int .i64 g] w fun r w' => r = .returned (.bool true) ∧ Below w.heap.size w w' := by
  have hB : Below w.heap.size w (w.alloc (.cells #[.int .i64 m.guest, .slice ra m.root.length rc, .slice sa m.slots.length sc, .slice fa m.refs.length fc, .slice na m.snaps.length nc] 26)) := (Below.refl _ _).alloc (Nat.le_refl _) _
  have mb_m : (w.alloc (.cells #[.int .i64 m.guest, .slice ra m.root.length rc, .slice sa m.slots.length sc, .slice fa m.refs.length fc, .slice na m.snaps.length nc] 26)).heap[w.heap.size]? = some (.cells #[.int .i64 m.guest, .slice ra m.root.length rc, .slice sa m.slots.length sc, .slice fa m.refs.length fc, .slice na m.snaps.length nc] 26) := World.alloc_heap_new _ _
  have I_m := h.below hB
  obtain ⟨MB, hMB⟩ : ∃ X, rzM m g = X := ⟨_, rfl⟩
  obtain ⟨EB, hEB⟩ : ∃ X, rzE m g = X := ⟨_, rfl⟩
  have HB : Hid (rzM m g = MB ∧ rzE m g = EB) := ⟨hMB, hEB⟩
  clear h hMB hEB
  go_enter Try.func8, Try.ntmps8
  obtain ⟨m0, m1, m2, m3, m4⟩ := five mb_m
  have hh_mb_m := Hid_mkW mb_m
  have hh_I_m := Hid_mkW I_m
  have hh_hB := Hid_mkW hB
  clear mb_m I_m hB
  go_wp2_with fail
  clear m0 m1 m2 m3 m4
  have mb_m := hh_mb_m.out
  have I_m := hh_I_m.out
  have hB := hh_hB.out
  clear hh_mb_m hh_I_m hh_hB
  refine (resize_to I_m g HB.out.1 HB.out.2).mono ?_
  intro e w1 hA
  obtain ⟨val, a_r, a_rc, a_s, a_sc, a_f, a_fc, a_n, a_nc, rfl, hO, bb, hI⟩ := hA.open
  dsimp only
  have I_a := hO.img
  rw [hI] at I_a
  clear hA hO hI
  replace mb_m := cells_below mb_m bb (Array.getElem?_eq_some_iff.1 mb_m).1
  replace hB := Below.on hB bb
  replace I_m := I_m.below bb
  clear bb
  replace mb_m := cells_alloc mb_m (.cells #[.int .i64 MB.guest, .slice a_r MB.root.length a_rc, .slice a_s MB.slots.length a_sc, .slice a_f MB.refs.length a_fc, .slice a_n MB.snaps.length a_nc] 26)
  have ba : Below w1.heap.size w1 (w1.alloc (.cells #[.int .i64 MB.guest, .slice a_r MB.root.length a_rc, .slice a_s MB.slots.length a_sc, .slice a_f MB.refs.length a_fc, .slice a_n MB.snaps.length a_nc] 26)) := (Below.refl _ _).alloc (Nat.le_refl _) _
  replace hB := Below.on hB ba
  replace I_m := I_m.below ba
  replace I_a := I_a.below ba
  clear ba
  have mb_a : (w1.alloc (.cells #[.int .i64 MB.guest, .slice a_r MB.root.length a_rc, .slice a_s MB.slots.length a_sc, .slice a_f MB.refs.length a_fc, .slice a_n MB.snaps.length a_nc] 26)).heap[w1.heap.size]? = some (.cells #[.int .i64 MB.guest, .slice a_r MB.root.length a_rc, .slice a_s MB.slots.length a_sc, .slice a_f MB.refs.length a_fc, .slice a_n MB.snaps.length a_nc] 26) := World.alloc_heap_new _ _
  obtain ⟨m0, m1, m2, m3, m4⟩ := five mb_m
  have hh_mb_m := Hid_mkW mb_m
  have hh_mb_a := Hid_mkW mb_a
  have hh_I_m := Hid_mkW I_m
  have hh_I_a := Hid_mkW I_a
  have hh_hB := Hid_mkW hB
  clear mb_m mb_a I_m I_a hB
  go_wp2_with fail
  clear m0 m1 m2 m3 m4
  have mb_m := hh_mb_m.out
  have mb_a := hh_mb_a.out
  have I_m := hh_I_m.out
  have I_a := hh_I_a.out
  have hB := hh_hB.out
  clear hh_mb_m hh_mb_a hh_I_m hh_I_a hh_hB
  refine (resizeOf_is I_m g HB.out.1 HB.out.2).mono ?_
  rintro e w2 ⟨c_r, c_rc, c_s, c_sc, c_f, c_fc, c_n, c_nc, rfl, hst, bb⟩
  try dsimp only
  have I_c := hst w2 (fun _ _ => rfl)
  clear hst
  replace mb_m := cells_below mb_m bb (Array.getElem?_eq_some_iff.1 mb_m).1
  replace mb_a := cells_below mb_a bb (Array.getElem?_eq_some_iff.1 mb_a).1
  replace hB := Below.on hB bb
  replace I_m := I_m.below bb
  replace I_a := I_a.below bb
  clear bb
  replace mb_m := cells_alloc mb_m (.cells #[.int .i64 MB.guest, .slice c_r MB.root.length c_rc, .slice c_s MB.slots.length c_sc, .slice c_f MB.refs.length c_fc, .slice c_n MB.snaps.length c_nc] 26)
  replace mb_a := cells_alloc mb_a (.cells #[.int .i64 MB.guest, .slice c_r MB.root.length c_rc, .slice c_s MB.slots.length c_sc, .slice c_f MB.refs.length c_fc, .slice c_n MB.snaps.length c_nc] 26)
  have ba : Below w2.heap.size w2 (w2.alloc (.cells #[.int .i64 MB.guest, .slice c_r MB.root.length c_rc, .slice c_s MB.slots.length c_sc, .slice c_f MB.refs.length c_fc, .slice c_n MB.snaps.length c_nc] 26)) := (Below.refl _ _).alloc (Nat.le_refl _) _
  replace hB := Below.on hB ba
  replace I_m := I_m.below ba
  replace I_a := I_a.below ba
  replace I_c := I_c.below ba
  clear ba
  have mb_c : (w2.alloc (.cells #[.int .i64 MB.guest, .slice c_r MB.root.length c_rc, .slice c_s MB.slots.length c_sc, .slice c_f MB.refs.length c_fc, .slice c_n MB.snaps.length c_nc] 26)).heap[w2.heap.size]? = some (.cells #[.int .i64 MB.guest, .slice c_r MB.root.length c_rc, .slice c_s MB.slots.length c_sc, .slice c_f MB.refs.length c_fc, .slice c_n MB.snaps.length c_nc] 26) := World.alloc_heap_new _ _
  clear mb_m
  clear I_m
  have hh_mb_a := Hid_mkW mb_a
  have hh_mb_c := Hid_mkW mb_c
  have hh_I_a := Hid_mkW I_a
  have hh_I_c := Hid_mkW I_c
  have hh_hB := Hid_mkW hB
  clear mb_a mb_c I_a I_c hB
  go_wp2_with fail
  have mb_a := hh_mb_a.out
  have mb_c := hh_mb_c.out
  have I_a := hh_I_a.out
  have I_c := hh_I_c.out
  have hB := hh_hB.out
  clear hh_mb_a hh_mb_c hh_I_a hh_I_c hh_hB
  refine (writesBegun_any _).mono ?_
  rintro e w3 ⟨rfl, bb⟩
  replace mb_a := cells_below mb_a bb (Array.getElem?_eq_some_iff.1 mb_a).1
  replace mb_c := cells_below mb_c bb (Array.getElem?_eq_some_iff.1 mb_c).1
  replace hB := Below.on hB bb
  replace I_a := I_a.below bb
  replace I_c := I_c.below bb
  clear bb
  obtain ⟨a0, a1, a2, a3, a4⟩ := five mb_a
  obtain ⟨c0, c1, c2, c3, c4⟩ := five mb_c
  have hh_mb_a := Hid_mkW mb_a
  have hh_mb_c := Hid_mkW mb_c
  have hh_I_a := Hid_mkW I_a
  have hh_I_c := Hid_mkW I_c
  have hh_hB := Hid_mkW hB
  clear mb_a mb_c I_a I_c hB
  go_wp2_with fail
  clear a0 a1 a2 a3 a4 c0 c1 c2 c3 c4
  have mb_a := hh_mb_a.out
  have mb_c := hh_mb_c.out
  have I_a := hh_I_a.out
  have I_c := hh_I_c.out
  have hB := hh_hB.out
  clear hh_mb_a hh_mb_c hh_I_a hh_I_c hh_hB
  refine (sameI_is I_a I_c).mono ?_
  rintro e w4 ⟨rfl, bb⟩
  replace mb_a := cells_below mb_a bb (Array.getElem?_eq_some_iff.1 mb_a).1
  replace mb_c := cells_below mb_c bb (Array.getElem?_eq_some_iff.1 mb_c).1
  replace hB := Below.on hB bb
  replace I_a := I_a.below bb
  replace I_c := I_c.below bb
  clear bb
  have hh_mb_a := Hid_mkW mb_a
  have hh_mb_c := Hid_mkW mb_c
  have hh_I_a := Hid_mkW I_a
  have hh_I_c := Hid_mkW I_c
  have hh_hB := Hid_mkW hB
  clear mb_a mb_c I_a I_c hB
  go_wp2_with fail
  go_ret
  have hB := hh_hB.out
  exact ⟨rfl, hB⟩

theorem wresizes_is {v : Value} {m : ImgD} {w : World} (h : Img w v m) (g : Int) : Calls Try.prog 8 #[v, .int .i64 g] w fun r w' => r = .returned (.bool true) ∧ Below w.heap.size w w' := by
  have h' := h
  obtain ⟨ra, rc, sa, sc, fa, fc, na, nc, rfl, h1, h2, h3, h4⟩ := h.parts
  exact wresizes_at ra rc sa sc fa fc na nc m g w h'
end Go.Proofs.Ytehleeibgkpjmac
/- From the reading of an argument to what it holds: slices of integers, slots, slices of slots. -/
namespace Go.Proofs.Ytehleeibgkpjmac
open Go.RowKit Go.Deep Go.ChangeShapes Go.WideShapes Go.ChangeAt
set_option maxRecDepth 20000

theorem cells27 : Try.prog.cellsOf 22 = 1 := by kernel_rfl
theorem cells3 : Try.prog.cellsOf 3 = 1 := by kernel_rfl
theorem cells9 : Try.prog.cellsOf 9 = 1 := by kernel_rfl
theorem cells29 : Try.prog.cellsOf 33 = 3 := by kernel_rfl

variable {H : Type} {enc : TypeId × Value → H} {w : World} {base : Nat} {spare : Nat → Bool} {held : Bool}

/-- The cells of a row by its address. -/
theorem row_at {w : World} {a : Addr} {n : Nat} {f : Nat → Value} (hn : 0 < n) (h : ∀ i, i < n → w.cell? (a.add i) = some (f i)) :
    ∃ b off, a = ⟨b, off, none⟩ ∧ b < w.heap.size ∧ ∀ i, i < n → w.cell? ⟨b, off + i, none⟩ = some (f i) := by
  have h0 := h 0 hn
  obtain ⟨b, off, spot⟩ := a
  have hspot : spot = none := by simpa [Addr.add] using World.cell?_spot h0
  subst hspot
  refine ⟨b, off, rfl, World.block_lt_of_cell? w _ (by rw [addr_add] at h0; exact h0), fun i hi => ?_⟩
  have := h i hi
  rw [addr_add] at this
  exact this

theorem sl_of_trod {n : Nat} {cs : List Value} {x : DataW H × List MemPlace} (h : DataW.trod enc Try.prog w base spare held n 22 cs = some x) : ∃ v xs, cs = [v] ∧ Sl w v xs := by
  rcases open_ints Try.underlying22 Try.underlying3 cells3 h with ⟨rfl, _⟩ | ⟨a, l, c, zs, rfl, _, hl, hm, hz, _, hcell, _⟩
  · exact ⟨_, [], rfl, Sl.nil w⟩
  · have hlz : l ≤ zs.length := by rw [hz]; split <;> omega
    have hlen : (zs.take l).length = l := by simp; omega
    refine ⟨_, zs.take l, rfl, some a, c, by rw [hlen], by rw [hlen]; omega, by rw [hlen]; exact hl, fun hne => ?_⟩
    have hpos : 0 < l := by
      rcases Nat.eq_zero_or_pos l with e | e
      · subst e; simp at hne
      · exact e
    obtain ⟨b, off, rfl, hb, hc⟩ := row_at (w := w) (a := a) (n := l) (f := fun i => .int .i64 (zs.getD i 0)) hpos (fun i hi => hcell i (by omega))
    refine ⟨b, off, rfl, hb, fun j hj => ?_⟩
    rw [hlen] at hj
    rw [hc j hj]
    simp [List.getD, hj]

set_option maxRecDepth 20000 in
theorem slot_of_trod {n : Nat} {cs : List Value} {x : DataW H × List MemPlace} (h : DataW.trod enc Try.prog w base spare held n 33 cs = some x) :
    ∃ k d tv xs, cs = [.int .i64 k, .string d, tv] ∧ Sl w tv xs := by
  obtain ⟨y0, y1, y2, m, _, hl, h0, h1, h2⟩ := trod_struct3 Try.underlying33 h
  rw [cells29] at hl
  match cs, hl with
  | [c0, c1, c2], _ =>
    simp only [cells3, cells9, cells27] at h0 h1 h2
    obtain ⟨k, e0, _, _⟩ := DataW.trod_int Try.underlying3 h0
    obtain ⟨d, e1, _, _⟩ := DataW.trod_string Try.underlying9 h1
    obtain ⟨tv, xs, e2, hs⟩ := sl_of_trod h2
    simp at e0 e1 e2
    subst e0 e1 e2
    exact ⟨k, d, _, xs, rfl, hs⟩

theorem slots_of_trod {n : Nat} {v : Value} {x : DataW H × List MemPlace} (h : DataW.trod enc Try.prog w base spare held n 23 [v] = some x) : ∃ L, Slots w v L := by
  rcases open_slice Try.underlying23 h with ⟨hv, _⟩ | ⟨a, len, cap, m, fuel, D, Pl, hv, _, hl, hm, hmm, _, hx⟩
  · simp at hv
    subst hv
    exact ⟨[], none, 0, rfl, Nat.zero_le _, Nat.zero_le _, fun h => absurd rfl h⟩
  · simp at hv
    subst hv
    rw [cells29] at hx
    have hx' : ∀ i, i < len → ∃ s : SlotD, ∃ tv, w.cell? (a.add (i * 3)) = some (.int .i64 s.1) ∧ w.cell? ((a.add (i * 3)).add 1) = some (.string s.2.1) ∧ w.cell? ((a.add (i * 3)).add 2) = some tv ∧ Sl w tv s.2.2 := by
      intro i hi
      obtain ⟨cs', h1, h2⟩ := hx i (by rw [hmm]; split <;> omega)
      obtain ⟨k, d, tv, xs, rfl, hs⟩ := slot_of_trod h2
      obtain ⟨_, _, hc⟩ := World.cells?_some h1
      have c0 := hc 0 (by omega)
      have c1 := hc 1 (by omega)
      have c2 := hc 2 (by omega)
      exact ⟨(k, d, xs), tv, by simpa [Addr.add] using c0, c1, c2, hs⟩
    obtain ⟨f, hf⟩ := choose_lt hx'
    have hlen : ((List.range len).map f).length = len := by simp
    refine ⟨(List.range len).map f, some a, cap, by rw [hlen], by rw [hlen]; omega, by rw [hlen]; exact hl, fun hne => ?_⟩
    have hpos : 0 < len := by
      rcases Nat.eq_zero_or_pos len with e | e
      · subst e; simp at hne
      · exact e
    obtain ⟨tv0, c0, _⟩ := hf 0 hpos
    obtain ⟨b, off, spot⟩ := a
    have hspot : spot = none := by simpa [Addr.add] using World.cell?_spot c0
    subst hspot
    refine ⟨b, off, rfl, World.block_lt_of_cell? w _ (by rw [addr_add] at c0; exact c0), fun j hj => ?_⟩
    rw [hlen] at hj
    obtain ⟨tv, c0, c1, c2, hs⟩ := hf j hj
    rw [addr_add] at c0 c1 c2
    rw [addr_add] at c1 c2
    have e : ((List.range len).map f)[j]'(by rw [hlen]; exact hj) = f j := by simp
    rw [e]
    exact ⟨tv, c0, c1, c2, hs⟩
end Go.Proofs.Ytehleeibgkpjmac
/- From the reading of an argument to what it holds: snapshots, slices of them, images. -/
namespace Go.Proofs.Ytehleeibgkpjmac
open Go.RowKit Go.Deep Go.ChangeShapes Go.WideShapes Go.ChangeAt
set_option maxRecDepth 20000

theorem cellsSnap : Try.prog.cellsOf 61 = 3 := by kernel_rfl
theorem cellsSnaps : Try.prog.cellsOf 24 = 1 := by kernel_rfl
theorem cellsSlots : Try.prog.cellsOf 23 = 1 := by kernel_rfl
theorem cellsImage : Try.prog.cellsOf 26 = 5 := by kernel_rfl

variable {H : Type} {enc : TypeId × Value → H} {w : World} {base : Nat} {spare : Nat → Bool} {held : Bool}

set_option maxRecDepth 20000 in
theorem snap_of_trod {n : Nat} {cs : List Value} {x : DataW H × List MemPlace} (h : DataW.trod enc Try.prog w base spare held n 61 cs = some x) :
    ∃ d k tv xs, cs = [.string d, .int .i64 k, tv] ∧ Sl w tv xs := by
  obtain ⟨y0, y1, y2, m, _, hl, h0, h1, h2⟩ := trod_struct3 Try.underlying61 h
  rw [cellsSnap] at hl
  match cs, hl with
  | [c0, c1, c2], _ =>
    simp only [cells3, cells9, cells27] at h0 h1 h2
    obtain ⟨d, e0, _, _⟩ := DataW.trod_string Try.underlying9 h0
    obtain ⟨k, e1, _, _⟩ := DataW.trod_int Try.underlying3 h1
    obtain ⟨tv, xs, e2, hs⟩ := sl_of_trod h2
    simp at e0 e1 e2
    subst e0 e1 e2
    exact ⟨d, k, _, xs, rfl, hs⟩

theorem snaps_of_trod {n : Nat} {v : Value} {x : DataW H × List MemPlace} (h : DataW.trod enc Try.prog w base spare held n 24 [v] = some x) : ∃ L, Snaps w v L := by
  rcases open_slice Try.underlying24 h with ⟨hv, _⟩ | ⟨a, len, cap, m, fuel, D, Pl, hv, _, hl, hm, hmm, _, hx⟩
  · simp at hv
    subst hv
    exact ⟨[], none, 0, rfl, Nat.zero_le _, Nat.zero_le _, fun h => absurd rfl h⟩
  · simp at hv
    subst hv
    rw [cellsSnap] at hx
    have hx' : ∀ i, i < len → ∃ s : SnapD, ∃ tv, w.cell? (a.add (i * 3)) = some (.string s.1) ∧ w.cell? ((a.add (i * 3)).add 1) = some (.int .i64 s.2.1) ∧ w.cell? ((a.add (i * 3)).add 2) = some tv ∧ Sl w tv s.2.2 := by
      intro i hi
      obtain ⟨cs', h1, h2⟩ := hx i (by rw [hmm]; split <;> omega)
      obtain ⟨k, d, tv, xs, rfl, hs⟩ := snap_of_trod h2
      obtain ⟨_, _, hc⟩ := World.cells?_some h1
      have c0 := hc 0 (by omega)
      have c1 := hc 1 (by omega)
      have c2 := hc 2 (by omega)
      exact ⟨(k, d, xs), tv, by simpa [Addr.add] using c0, c1, c2, hs⟩
    obtain ⟨f, hf⟩ := choose_lt hx'
    have hlen : ((List.range len).map f).length = len := by simp
    refine ⟨(List.range len).map f, some a, cap, by rw [hlen], by rw [hlen]; omega, by rw [hlen]; exact hl, fun hne => ?_⟩
    have hpos : 0 < len := by
      rcases Nat.eq_zero_or_pos len with e | e
      · subst e; simp at hne
      · exact e
    obtain ⟨tv0, c0, _⟩ := hf 0 hpos
    obtain ⟨b, off, spot⟩ := a
    have hspot : spot = none := by simpa [Addr.add] using World.cell?_spot c0
    subst hspot
    refine ⟨b, off, rfl, World.block_lt_of_cell? w _ (by rw [addr_add] at c0; exact c0), fun j hj => ?_⟩
    rw [hlen] at hj
    obtain ⟨tv, c0, c1, c2, hs⟩ := hf j hj
    rw [addr_add] at c0 c1 c2
    rw [addr_add] at c1 c2
    have e : ((List.range len).map f)[j]'(by rw [hlen]; exact hj) = f j := by simp
    rw [e]
    exact ⟨tv, c0, c1, c2, hs⟩

theorem trod_struct5 {P : Program} {t : TypeId} {f0 f1 f2 f3 f4 : Field} {fuel : Nat} {cs : List Value} {x : DataW H × List MemPlace} (ht : P.underlying t = some (.struct #[f0, f1, f2, f3, f4])) (h : DataW.trod enc P w base spare held fuel t cs = some x) :
    ∃ y0 y1 y2 y3 y4 n, cs.length = P.cellsOf t ∧ DataW.trod enc P w base spare held n f0.type ((cs.drop f0.offset).take (P.cellsOf f0.type)) = some y0 ∧
      DataW.trod enc P w base spare held n f1.type ((cs.drop f1.offset).take (P.cellsOf f1.type)) = some y1 ∧ DataW.trod enc P w base spare held n f2.type ((cs.drop f2.offset).take (P.cellsOf f2.type)) = some y2 ∧
      DataW.trod enc P w base spare held n f3.type ((cs.drop f3.offset).take (P.cellsOf f3.type)) = some y3 ∧ DataW.trod enc P w base spare held n f4.type ((cs.drop f4.offset).take (P.cellsOf f4.type)) = some y4 := by
  obtain ⟨xs, n, _, rfl, hl, hlen, hf⟩ := DataW.trod_struct ht h
  match xs, hlen with
  | [y0, y1, y2, y3, y4], _ => exact ⟨y0, y1, y2, y3, y4, n, hl, by simpa using hf 0 f0 rfl, by simpa using hf 1 f1 rfl, by simpa using hf 2 f2 rfl, by simpa using hf 3 f3 rfl, by simpa using hf 4 f4 rfl⟩
set_option maxRecDepth 20000 in
theorem img_of_trod {n : Nat} {cs : List Value} {x : DataW H × List MemPlace} (h : DataW.trod enc Try.prog w base spare held n 26 cs = some x) : ∃ g rv sv fv nv, cs = [.int .i64 g, rv, sv, fv, nv] ∧ ∃ r L F S, Sl w rv r ∧ Slots w sv L ∧ Sl w fv F ∧ Snaps w nv S := by
  obtain ⟨y0, y1, y2, y3, y4, m, hl, h0, h1, h2, h3, h4⟩ := trod_struct5 Try.underlying26 h
  rw [cellsImage] at hl
  match cs, hl with
  | [c0, c1, c2, c3, c4], _ =>
    simp only [cells3] at h0
    simp only [cells27] at h1 h3
    simp only [cellsSlots] at h2
    simp only [cellsSnaps] at h4
    obtain ⟨g, e0, _, _⟩ := DataW.trod_int Try.underlying3 h0
    obtain ⟨rv, r, e1, hr⟩ := sl_of_trod h1
    obtain ⟨L, hL⟩ := slots_of_trod (v := c2) h2
    obtain ⟨fv, F, e3, hF⟩ := sl_of_trod h3
    obtain ⟨S, hS⟩ := snaps_of_trod (v := c4) h4
    simp at e0 e1 e3
    subst e0 e1 e3
    exact ⟨g, _, _, _, _, rfl, r, L, F, S, hr, hL, hF, hS⟩
set_option maxRecDepth 20000 in
theorem img_of_arg {r : Reach} {b0 : Nat} {v : Value} {d : DataW H} {p : List MemPlace} (hv : Value.okWide Try.prog w r b0 26 v) (h : DataW.Trod enc Try.prog w base spare held 26 v d p) : ∃ m, Img w v m := by
  obtain ⟨cs, rfl, hsz⟩ := okWide_struct Try.underlying26 hv
  obtain ⟨fuel, hf⟩ := h
  obtain ⟨g, rv, sv, fv, nv, e, r, L, F, S, h1, h2, h3, h4⟩ := img_of_trod hf
  have e' : cs.toList = [.int .i64 g, rv, sv, fv, nv] := by simpa [Value.cells] using e
  cases cs
  simp at e'
  exact ⟨⟨g, r, L, F, S⟩, rv, sv, fv, nv, by rw [e'], h1, h2, h3, h4⟩
end Go.Proofs.Ytehleeibgkpjmac
