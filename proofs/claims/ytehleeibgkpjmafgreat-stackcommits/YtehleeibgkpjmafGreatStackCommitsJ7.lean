/- Texts joined: CpyI, OfI, TakI, TakJ, TakL, TakK, First, With. -/
import Derived.Test.YtehleeibgkpjmafGreatStackCommitsJ6
import Derived.Test.YtehleeibgkpjmafGreatStackCommitsJ3
import Derived.Deep.CutRange
import Derived.Defers
import Derived.Recover
import Derived.Deep.RegionHeld3
import Derived.Deep.RegionLaw
import Derived.Test.YtehleeibgkpjmafGreatStackCommitsJ1
import Derived.Laws.CopyOwn
/- Contract of copied: the walk. -/
namespace Go.Proofs.YtehleeibgkpjmafGreat
open Go.RowKit Go.Shelf
set_option maxRecDepth 20000

def Cp1 (w : World) (m : ImgD) (sa : Option Addr) (sn sc : Nat) (na : Option Addr) (nn nc : Nat) (wx : World) : Prop := ∃ qa qc ka kc, wx.heap[w.heap.size]? = some (.cells #[.int .i64 m.guest, .slice qa m.root.length qc, .slice sa sn sc, .slice ka m.refs.length kc, .slice na nn nc] 27) ∧ wx.heap[w.heap.size + 1]? = some (.cells #[.int .i64 0, .slice none 0 0, .slice none 0 0, .slice none 0 0, .slice none 0 0] 27) ∧ Below w.heap.size w wx ∧ wx.ownsRow (w.heap.size + 2) 3 1 (.slice qa m.root.length qc) m.root.length (ints m.root) ∧ wx.ownsRow (w.heap.size + 2) 3 1 (.slice ka m.refs.length kc) m.refs.length (ints m.refs) ∧ ∀ q, (Value.slice ka m.refs.length kc).ownBlock = some q → (Value.slice qa m.root.length qc).ownBlock ≠ some q
def Cp2 (w : World) (m : ImgD) (tv qv : Nat → Value) (wx : World) : Prop := ∃ qa qc pa pc ka kc ja jc, wx.heap[w.heap.size]? = some (.cells #[.int .i64 m.guest, .slice qa m.root.length qc, .slice pa m.slots.length pc, .slice ka m.refs.length kc, .slice ja m.snaps.length jc] 27) ∧ wx.heap[w.heap.size + 1]? = some (.cells #[.int .i64 0, .slice none 0 0, .slice none 0 0, .slice none 0 0, .slice none 0 0] 27) ∧ Below w.heap.size w wx ∧ HC wx (w.heap.size + 2) (val4 (.slice qa m.root.length qc) (.slice pa m.slots.length pc) (.slice ka m.refs.length kc) (.slice ja m.snaps.length jc)) m tv qv 0 0
theorem row_apart {W W' : World} {B B' n n' size size' : Nat} {e e' : TypeId} {v v' : Value} {xs xs' : List Value} (h : W.ownsRow B e size v n xs) (h' : W'.ownsRow B' e' size' v' n' xs') (hB : W.heap.size ≤ B') : ∀ q, v'.ownBlock = some q → v.ownBlock ≠ some q := fun q e x => by
  have h1 := (h.lt q x).2
  have h2 := (h'.lt q e).1
  omega
theorem row_keep {W W' : World} {B n size : Nat} {e : TypeId} {v : Value} {xs : List Value} (h : W.ownsRow B e size v n xs) (hb : Below W.heap.size W W') : W'.ownsRow B e size v n xs := by
  refine ⟨h.1, ?_⟩
  rcases h.2 with hn | ⟨g, cap, cur, hv, hb', hg, rest⟩
  · exact .inl hn
  · exact .inr ⟨g, cap, cur, hv, hb', (hb.block g (Array.getElem?_eq_some_iff.1 hg).1).trans hg, rest⟩
theorem row_mono {W : World} {B B' n size : Nat} {e : TypeId} {v : Value} {xs : List Value} (h : W.ownsRow B e size v n xs) (hB : B' ≤ B) : W.ownsRow B' e size v n xs := by
  refine ⟨h.1, ?_⟩
  rcases h.2 with hn | ⟨g, cap, cur, hv, hb', rest⟩
  · exact .inl hn
  · exact .inr ⟨g, cap, cur, hv, Nat.le_trans hB hb', rest⟩

theorem OI.mono {W : World} {B B' : Nat} {val : Nm → Value} {m : ImgD} (h : OI W B val m) (hB : B' ≤ B) : OI W B' val m := ⟨fun a ha => row_mono (h.row a ha) hB, h.apart⟩
structure CpR (w wr : World) (m : ImgD) (tv qv : Nat → Value) (va vb vc vd : Value) (k l : Nat) : Prop where
  own : ∃ val, HC wr (w.heap.size + 2) val m tv qv k l ∧ val .root = va ∧ val .slots = vb ∧ val .refs = vc ∧ val .snaps = vd
  box : wr.heap[w.heap.size]? = some (.cells #[.int .i64 m.guest, va, vb, vc, vd] 27)
  res : wr.heap[w.heap.size + 1]? = some (.cells #[.int .i64 0, .slice none 0 0, .slice none 0 0, .slice none 0 0, .slice none 0 0] 27)
  bel : Below w.heap.size w wr
theorem CpR.below {w wr wr' : World} {m : ImgD} {tv qv : Nat → Value} {va vb vc vd : Value} {k l : Nat} (h : CpR w wr m tv qv va vb vc vd k l) (hb : Below wr.heap.size wr wr') : CpR w wr' m tv qv va vb vc vd k l := by
  obtain ⟨⟨val, hH, e⟩, h1, h2, h3⟩ := h
  exact ⟨⟨val, hH.below hb, e⟩, cells_below h1 hb (Array.getElem?_eq_some_iff.1 h1).1, cells_below h2 hb (Array.getElem?_eq_some_iff.1 h2).1, Below.on h3 hb⟩
theorem CpR.tab {w wr wr' : World} {m : ImgD} {tv qv : Nat → Value} {va vc vd v : Value} {k l g n cap : Nat} (h : CpR w wr m tv qv va (.slice (some ⟨g, 0, none⟩) n cap) vc vd k l) (hb : Below wr.heap.size wr wr') (hr : wr'.ownsRow wr.heap.size 3 1 v (m.slots.getD k default).2.2.length (ints (m.slots.getD k default).2.2)) : CpR w (wr'.setCell ⟨g, k * 3 + 2, none⟩ v) m tv qv va (.slice (some ⟨g, 0, none⟩) n cap) vc vd (k + 1) l := by
  have hk := h.below hb
  obtain ⟨⟨val, hH, e0, e1, e2, e3⟩, h1, h2, h3⟩ := h
  obtain ⟨_, k1, k2, k3⟩ := hk
  have hg := (hH.row .slots (.inl ⟨by decide, rfl⟩)).lt g (by rw [e1]; rfl)
  have hsz : w.heap.size + 2 ≤ wr.heap.size := (Array.getElem?_eq_some_iff.1 h2).1
  refine ⟨⟨upd val (.tab k) v, (hH.below hb).tab e1 (row_mono hr hsz) (fun a ha q hq x => ?_), (upd_other _ _ (by intro x; cases x)).trans e0, (upd_other _ _ (by intro x; cases x)).trans e1, (upd_other _ _ (by intro x; cases x)).trans e2, (upd_other _ _ (by intro x; cases x)).trans e3⟩, cells_other k1 (by omega) _ _, cells_other k2 (by omega) _ _, k3.setCell (by show _ ≤ g; omega) _⟩
  have x1 := ((hH.row a ha).lt q x).2
  have x2 := (hr.lt q hq).1
  omega
theorem CpR.sr {w wr wr' : World} {m : ImgD} {tv qv : Nat → Value} {va vb vc v : Value} {k l g n cap : Nat} (h : CpR w wr m tv qv va vb vc (.slice (some ⟨g, 0, none⟩) n cap) k l) (hb : Below wr.heap.size wr wr') (hr : wr'.ownsRow wr.heap.size 3 1 v (m.snaps.getD l default).2.2.length (ints (m.snaps.getD l default).2.2)) : CpR w (wr'.setCell ⟨g, l * 3 + 2, none⟩ v) m tv qv va vb vc (.slice (some ⟨g, 0, none⟩) n cap) k (l + 1) := by
  have hk := h.below hb
  obtain ⟨⟨val, hH, e0, e1, e2, e3⟩, h1, h2, h3⟩ := h
  obtain ⟨_, k1, k2, k3⟩ := hk
  have hg := (hH.row .snaps (.inl ⟨by decide, rfl⟩)).lt g (by rw [e3]; rfl)
  have hsz : w.heap.size + 2 ≤ wr.heap.size := (Array.getElem?_eq_some_iff.1 h2).1
  refine ⟨⟨upd val (.sr l) v, (hH.below hb).sr e3 (row_mono hr hsz) (fun a ha q hq x => ?_), (upd_other _ _ (by intro x; cases x)).trans e0, (upd_other _ _ (by intro x; cases x)).trans e1, (upd_other _ _ (by intro x; cases x)).trans e2, (upd_other _ _ (by intro x; cases x)).trans e3⟩, cells_other k1 (by omega) _ _, cells_other k2 (by omega) _ _, k3.setCell (by show _ ≤ g; omega) _⟩
  have x1 := ((hH.row a ha).lt q x).2
  have x2 := (hr.lt q hq).1
  omega

set_option maxHeartbeats 4000000 in
theorem copied_at (m : ImgD) (ra : Option Addr) (rn rc : Nat) (sa : Option Addr) (sn sc : Nat) (fa : Option Addr) (fn fc : Nat) (na : Option Addr) (nn nc : Nat) (w : World) (h0 : Sl w (.slice ra rn rc) m.root) (h1 : Slots w (.slice sa sn sc) m.slots) (h2 : Sl w (.slice fa fn fc) m.refs) (h3 : Snaps w (.slice na nn nc) m.snaps) (hF : Fits m) :
    Calls Tryz.prog 72 #[.agg #[.int .i64 m.guest, .slice ra rn rc, .slice sa sn sc, .slice fa fn fc, .slice na nn nc]] w fun r w' => ∃ val, r = .returned (imgV m.guest val) ∧ OI w' w.heap.size val m ∧ Below w.heap.size w w' := by
  have m0 : ((w.alloc (.cells #[.int .i64 m.guest, .slice ra rn rc, .slice sa sn sc, .slice fa fn fc, .slice na nn nc] 27)).alloc (.cells #[.int .i64 0, .slice none 0 0, .slice none 0 0, .slice none 0 0, .slice none 0 0] 27)).heap[w.heap.size]? = some (.cells #[.int .i64 m.guest, .slice ra rn rc, .slice sa sn sc, .slice fa fn fc, .slice na nn nc] 27) := cells_alloc (World.alloc_heap_new _ _) _
  have mz : ((w.alloc (.cells #[.int .i64 m.guest, .slice ra rn rc, .slice sa sn sc, .slice fa fn fc, .slice na nn nc] 27)).alloc (.cells #[.int .i64 0, .slice none 0 0, .slice none 0 0, .slice none 0 0, .slice none 0 0] 27)).heap[w.heap.size + 1]? = some (.cells #[.int .i64 0, .slice none 0 0, .slice none 0 0, .slice none 0 0, .slice none 0 0] 27) := by have := World.alloc_heap_new (w.alloc (.cells #[.int .i64 m.guest, .slice ra rn rc, .slice sa sn sc, .slice fa fn fc, .slice na nn nc] 27)) (.cells #[.int .i64 0, .slice none 0 0, .slice none 0 0, .slice none 0 0, .slice none 0 0] 27); simpa using this
  obtain ⟨c0, c1, c2, c3, c4⟩ := five m0
  have b0 : Below w.heap.size w ((w.alloc (.cells #[.int .i64 m.guest, .slice ra rn rc, .slice sa sn sc, .slice fa fn fc, .slice na nn nc] 27)).alloc (.cells #[.int .i64 0, .slice none 0 0, .slice none 0 0, .slice none 0 0, .slice none 0 0] 27)) := ((Below.refl _ _).alloc (Nat.le_refl _) _).alloc (by simp) _
  obtain ⟨W0, hW0⟩ : ∃ W0, ((w.alloc (.cells #[.int .i64 m.guest, .slice ra rn rc, .slice sa sn sc, .slice fa fn fc, .slice na nn nc] 27)).alloc (.cells #[.int .i64 0, .slice none 0 0, .slice none 0 0, .slice none 0 0, .slice none 0 0] 27)) = W0 := ⟨_, rfl⟩
  go_enter Tryz.func72, Tryz.ntmps72
  go_upto_region 1 with fail
  rw [hW0] at m0 mz c0 c1 c2 c3 c4 b0
  have hz0 : w.heap.size + 2 ≤ W0.heap.size := by rw [← hW0]; simp
  clear hW0
  go_cut [] from 7 (fun wx => Cp1 w m sa sn sc na nn nc wx)
  case first =>
    go_region_with
      (first
        | (go_at_call 98; refine (clone_ints (h0.below (to_drew b0)) hF.root).mono ?_; rintro e w1 ⟨vr, rfl, hr0, bb1⟩; have bb1 := below_drew bb1; have m1 := cells_below m0 bb1 (by omega); have mz1 := cells_below mz bb1 (by omega); obtain ⟨d0, d1, d2, d3, d4⟩ := five m1; obtain ⟨qa, qc, rfl⟩ := row_slice hr0)
        | (go_at_call 98; refine (clone_ints ((h2.below b0).below bb1) hF.refs).mono ?_; rintro e w2 ⟨vf, rfl, hr2, bb2⟩; have m2 := cells_below m1 bb2 (Array.getElem?_eq_some_iff.1 m1).1; have mz2 := cells_below mz1 bb2 (Array.getElem?_eq_some_iff.1 mz1).1; obtain ⟨g0, g1, g2, g3, g4⟩ := five m2; have f1 := cells_frozen m2 1; have f3 := cells_frozen m2 3; obtain ⟨ka, kc, rfl⟩ := row_slice hr2))
    all_goals
      go_wp2_with fail
      go_meet
      have hz1 : w.heap.size + 2 ≤ w1.heap.size := Nat.le_trans hz0 bb1.size
      have hr0' : W0.heap.size = W0.drew.heap.size := rfl
      have hr0a := hr0
      have hr0 := row_mono (row_keep hr0 bb2) (B' := w.heap.size + 2) (by rw [← hr0']; exact hz0)
      have hr2' := row_mono hr2 (B' := w.heap.size + 2) hz1
      refine ⟨qa, qc, ka, kc, ?_, cells_other (cells_other mz2 (by omega) _ _) (by omega) _ _, ((Below.on b0 (Below.on bb1 bb2)).setCell (Nat.le_refl _) _).setCell (Nat.le_refl _) _, ownsRow_setCell_below (ownsRow_setCell_below hr0 (show w.heap.size < w.heap.size + 2 by omega) _) (show w.heap.size < w.heap.size + 2 by omega) _, ownsRow_setCell_below (ownsRow_setCell_below hr2' (show w.heap.size < w.heap.size + 2 by omega) _) (show w.heap.size < w.heap.size + 2 by omega) _, ?_⟩
      · exact cells_set (cells_set m2 1 _) 3 _
      · exact row_apart hr0a hr2 (Nat.le_refl _)
  case rest =>
  obtain ⟨qa, qc, ka, kc, m1, mz1, b1, hr0, hr2, ap⟩ := hcut
  obtain ⟨d0, d1, d2, d3, d4⟩ := five m1
  have hN1 : w.heap.size + 2 ≤ wc.heap.size := (Array.getElem?_eq_some_iff.1 mz1).1
  obtain ⟨tv, htv, hcs⟩ := clone_slots h1 hF.slots
  obtain ⟨qv, hqv, hcn⟩ := clone_snaps h3 hF.snaps
  clear h0 h2 m0 mz c0 c1 c2 c3 c4 b0 hz0
  go_upto_region 2 with fail
  go_cut [] from 15 (fun wx => Cp2 w m tv qv wx)
  case first =>
    go_region_with
      (first
        | (go_at_call 99; refine (hcs _ (to_drew b1)).mono ?_; rintro e w1 ⟨vr, rfl, hr1, bb1⟩; have bb1 := below_drew bb1; have m2 := cells_below m1 bb1 (by omega); have mz2 := cells_below mz1 bb1 (by omega); obtain ⟨g0, g1, g2, g3, g4⟩ := five m2; obtain ⟨pa, pc, rfl⟩ := row_slice hr1)
        | (go_at_call 100; refine (hcn _ (Below.on b1 bb1)).mono ?_; rintro e w2 ⟨vf, rfl, hr3, bb2⟩; have m3 := cells_below m2 bb2 (Array.getElem?_eq_some_iff.1 m2).1; have mz3 := cells_below mz2 bb2 (Array.getElem?_eq_some_iff.1 mz2).1; obtain ⟨i0, i1, i2, i3, i4⟩ := five m3; have f2 := cells_frozen m3 2; have f4 := cells_frozen m3 4; obtain ⟨ja, jc, rfl⟩ := row_slice hr3))
    all_goals
      go_wp2_with fail
      go_meet
      have hz1 : w.heap.size + 2 ≤ w1.heap.size := Nat.le_trans hN1 bb1.size
      have hdz : wc.heap.size = wc.drew.heap.size := rfl
      have bb12 := Below.on bb1 bb2
      have r1' := row_mono (row_keep hr1 bb2) (B' := w.heap.size + 2) (by rw [← hdz]; exact hN1)
      have r3' := row_mono hr3 (B' := w.heap.size + 2) hz1
      have r0' := row_keep hr0 bb12
      have r2' := row_keep hr2 bb12
      have hset : ∀ {B n size : Nat} {e : TypeId} {v : Value} {xs : List Value} {u u' : Value}, w2.ownsRow B e size v n xs → w.heap.size < B → ((w2.setCell ⟨w.heap.size, 2, none⟩ u).setCell ⟨w.heap.size, 4, none⟩ u').ownsRow B e size v n xs := fun h hB => ownsRow_setCell_below (ownsRow_setCell_below h hB _) hB _
      have hbz : Below w.heap.size w ((w2.setCell ⟨w.heap.size, 2, none⟩ (.slice pa m.slots.length pc)).setCell ⟨w.heap.size, 4, none⟩ (.slice ja m.snaps.length jc)) := ((Below.on b1 bb12).setCell (Nat.le_refl _) _).setCell (Nat.le_refl _) _
      have hlt : w.heap.size < w.heap.size + 2 := by omega
      have r0a := row_keep hr0 bb1
      have r2a := row_keep hr2 bb1
      refine ⟨qa, qc, pa, pc, ka, kc, ja, jc, ?_, cells_other (cells_other mz3 (by omega) _ _) (by omega) _ _, hbz, HC.start (hset r0' hlt) (hset r1' hlt) (hset r2' hlt) (hset r3' hlt) (row_apart hr0 hr1 (Nat.le_refl _)) ap (row_apart r0a hr3 (Nat.le_refl _)) (row_apart hr2 hr1 (Nat.le_refl _)) (row_apart hr1 hr3 (Nat.le_refl _)) (row_apart r2a hr3 (Nat.le_refl _))⟩
      exact cells_set (cells_set m3 2 _) 4 _
  case rest =>
  obtain ⟨qa, qc, pa, pc, ka, kc, ja, jc, m2, mz2, b2, hH⟩ := hcut
  have HS : Hid (CpR w wc m tv qv (.slice qa m.root.length qc) (.slice pa m.slots.length pc) (.slice ka m.refs.length kc) (.slice ja m.snaps.length jc) 0 0) := ⟨⟨_, hH, rfl, rfl, rfl, rfl⟩, m2, mz2, b2⟩
  have HT : Hid (∀ j, j < m.slots.length → Sl w (tv j) (m.slots.getD j default).2.2) := htv
  have HQ : Hid (∀ j, j < m.snaps.length → Sl w (qv j) (m.snaps.getD j default).2.2) := hqv
  have HL : Hid (m.slots.length ≤ 9223372036854775807 ∧ m.snaps.length ≤ 9223372036854775807) := ⟨h1.small, h3.small⟩
  obtain ⟨e0, e1, e2, e3, e4⟩ := five m2
  clear hH m2 mz2 b2 htv hqv hcs hcn h1 h3 d0 d1 d2 d3 d4 m1 mz1 b1 hr0 hr2 ap hN1
  go_wp2_with fail
  clear e0 e1 e2 e3 e4
  go_loopw [26] (fun i wr => ∃ k : Nat, k ≤ m.slots.length ∧ i = .int .i64 k ∧ Hid (CpR w wr m tv qv (.slice qa m.root.length qc) (.slice pa m.slots.length pc) (.slice ka m.refs.length kc) (.slice ja m.snaps.length jc) k 0)) (fun i _ => m.slots.length - (intOf i).toNat)
  case atStart => exact ⟨0, Nat.zero_le _, rfl, HS⟩
  case round =>
    obtain ⟨k, hk, rfl, HC⟩ := hrel
    by_cases hlk : k < m.slots.length
    · obtain ⟨g, rfl⟩ : ∃ g, pa = some ⟨g, 0, none⟩ := by
        obtain ⟨⟨val, hH, _, e1, _⟩, _⟩ := HC.out
        have hr := hH.row .slots (.inl ⟨by decide, rfl⟩)
        rw [e1] at hr
        rcases row_form hr with ⟨e, hn⟩ | ⟨g, cap, e, _⟩
        · have hn : m.slots.length = 0 := hn
          omega
        · simp at e; exact ⟨g, e.1⟩
      obtain ⟨s, hs⟩ : ∃ s, s = m.slots.getD k default := ⟨_, rfl⟩
      obtain ⟨kk, dd, tt⟩ := s
      have hSl := HT.out k hlk
      obtain ⟨ta, tc, htv⟩ := hSl.form
      have HSl : Hid (Sl w (.slice ta tt.length tc) tt ∧ tv k = .slice ta tt.length tc) := by rw [← hs] at hSl htv; exact ⟨htv ▸ hSl, htv⟩
      have HK : Hid ((kk, dd, tt) = m.slots.getD k default) := hs
      clear hs hSl htv
      have hki : (k : Int) < (m.slots.length : Int) := by omega
      have hL := HL.out.1
      have hL1 : (k : Int) + 1 ≤ 9223372036854775807 := by omega
      obtain ⟨⟨val, hH, _, e1, _⟩, hbox, hres, hbel⟩ := HC.out
      have hr := hH.row .slots (.inl ⟨by decide, rfl⟩)
      rw [e1] at hr
      have hr : wr.ownsRow (w.heap.size + 2) 61 3 (.slice (some ⟨g, 0, none⟩) m.slots.length pc) m.slots.length (flatS m.slots (fun j => if j < k then val (.tab j) else tv j)) := hr
      have hgl := hr.lt g rfl
      obtain ⟨s0, s1, s2⟩ := flatS_get (L := m.slots) (tv := fun j => if j < k then val (.tab j) else tv j) (j := k) hlk
      rw [← HK.out] at s0 s1
      rw [if_neg (Nat.lt_irrefl k), HSl.out.2] at s2
      have t0 : wr.cell? ⟨g, k * 3, none⟩ = some (.int .i64 kk) := (hr.cellAt (k * 3) (by omega)).trans s0
      have t1 : wr.cell? ⟨g, k * 3 + 1, none⟩ = some (.string dd) := (hr.cellAt (k * 3 + 1) (by omega)).trans s1
      have t2 : wr.cell? ⟨g, k * 3 + 2, none⟩ = some (.slice ta tt.length tc) := (hr.cellAt (k * 3 + 2) (by omega)).trans s2
      have hA := Below.heap_alloc wr (.cells #[.int .i64 kk, .string dd, .slice ta tt.length tc] 61)
      have ba : Below wr.heap.size wr (wr.alloc (.cells #[.int .i64 kk, .string dd, .slice ta tt.length tc] 61)) := (Below.refl _ _).alloc (Nat.le_refl _) _
      have hNr : w.heap.size + 2 ≤ wr.heap.size := (Array.getElem?_eq_some_iff.1 hres).1
      obtain ⟨x0, x1, x2, x3, x4⟩ := five (cells_below hbox ba (by omega))
      have ms : (wr.alloc (.cells #[.int .i64 kk, .string dd, .slice ta tt.length tc] 61)).heap[wr.heap.size]? = some (.cells #[.int .i64 kk, .string dd, .slice ta tt.length tc] 61) := World.alloc_heap_new _ _
      obtain ⟨y0, y1, y2⟩ := three ms
      have hcl := clone_ints (w := (wr.alloc (.cells #[.int .i64 kk, .string dd, .slice ta tt.length tc] 61)).drew) ((HSl.out.1.below hbel).below (to_drew ba)) (by have := hF.tab k hlk; rw [← HK.out] at this; exact this)
      clear hA hH e1 hbox hres hbel hr s0 s1 s2
      go_wp2_with fail
      go_region_with (first | (go_at_call 98; refine hcl.mono ?_; rintro e w1 ⟨vt, rfl, hrt, bt⟩; have bt := below_drew bt; have bw := Below.on ba bt; have hN := HC.out.below bw; obtain ⟨z0, z1, z2, z3, z4⟩ := five hN.box; have HRT : Hid (w1.ownsRow wr.heap.size 3 1 vt tt.length (ints tt)) := row_mono hrt (by show _ ≤ (wr.alloc _).heap.size; simp); obtain ⟨oa, oc, rfl⟩ := row_slice hrt; have q2 := (bw.cell (p := ⟨g, k * 3 + 2, none⟩) hgl.2).trans t2; have qf : w1.frozen? ⟨g, k * 3 + 2, none⟩ = false := by (obtain ⟨⟨val, hH, _, e1, _⟩, _⟩ := hN; have hr := hH.row .slots (.inl ⟨by decide, rfl⟩); rw [e1] at hr; exact hr.frozenAt _)))
      all_goals
        have HN : Hid (CpR w (w1.setCell ⟨g, k * 3 + 2, none⟩ (.slice oa tt.length oc)) m tv qv (.slice qa m.root.length qc) (.slice (some ⟨g, 0, none⟩) m.slots.length pc) (.slice ka m.refs.length kc) (.slice ja m.snaps.length jc) (k + 1) 0) := HC.out.tab bw (by rw [← HK.out]; exact HRT.out)
        go_wp2_with fail
        go_roundw
        case rel => exact ⟨k + 1, by omega, by go_num, HN⟩
        case measure => simp [intOf]; omega
    · have ek : k = m.slots.length := by omega
      subst ek
      obtain ⟨x, hrn⟩ : ∃ X, X = wr := ⟨_, rfl⟩
      subst hrn
      obtain ⟨y0, y1, y2, y3, y4⟩ := five HC.out.box
      go_wp2_with fail
      clear y0 y1 y2 y3 y4
      go_loopw [43] (fun i wr => ∃ l : Nat, l ≤ m.snaps.length ∧ i = .int .i64 l ∧ Hid (CpR w wr m tv qv (.slice qa m.root.length qc) (.slice pa m.slots.length pc) (.slice ka m.refs.length kc) (.slice ja m.snaps.length jc) m.slots.length l)) (fun i _ => m.snaps.length - (intOf i).toNat)
      case atStart => exact ⟨0, Nat.zero_le _, rfl, HC⟩
      case round =>
        obtain ⟨l, hl, rfl, HD⟩ := hrel
        by_cases hll : l < m.snaps.length
        · obtain ⟨g, rfl⟩ : ∃ g, ja = some ⟨g, 0, none⟩ := by
            obtain ⟨⟨val, hH, _, _, _, e3⟩, _⟩ := HD.out
            have hr := hH.row .snaps (.inl ⟨by decide, rfl⟩)
            rw [e3] at hr
            rcases row_form hr with ⟨e, hn⟩ | ⟨g, cap, e, _⟩
            · have hn : m.snaps.length = 0 := hn
              omega
            · simp at e; exact ⟨g, e.1⟩
          obtain ⟨s, hs⟩ : ∃ s, s = m.snaps.getD l default := ⟨_, rfl⟩
          obtain ⟨nm, sg, tt⟩ := s
          have hSl := HQ.out l hll
          obtain ⟨ta, tc, htv⟩ := hSl.form
          have HSl : Hid (Sl w (.slice ta tt.length tc) tt ∧ qv l = .slice ta tt.length tc) := by rw [← hs] at hSl htv; exact ⟨htv ▸ hSl, htv⟩
          have HK : Hid ((nm, sg, tt) = m.snaps.getD l default) := hs
          clear hs hSl htv
          have hki : (l : Int) < (m.snaps.length : Int) := by omega
          have hL := HL.out.2
          have hL1 : (l : Int) + 1 ≤ 9223372036854775807 := by omega
          obtain ⟨⟨val, hH, _, _, _, e3⟩, hbox, hres, hbel⟩ := HD.out
          have hr := hH.row .snaps (.inl ⟨by decide, rfl⟩)
          rw [e3] at hr
          have hr : wr.ownsRow (w.heap.size + 2) 64 3 (.slice (some ⟨g, 0, none⟩) m.snaps.length jc) m.snaps.length (flatN m.snaps (fun j => if j < l then val (.sr j) else qv j)) := hr
          have hgl := hr.lt g rfl
          obtain ⟨s0, s1, s2⟩ := flatN_get (S := m.snaps) (qv := fun j => if j < l then val (.sr j) else qv j) (j := l) hll
          rw [← HK.out] at s0 s1
          rw [if_neg (Nat.lt_irrefl l), HSl.out.2] at s2
          have t0 : wr.cell? ⟨g, l * 3, none⟩ = some (.string nm) := (hr.cellAt (l * 3) (by omega)).trans s0
          have t1 : wr.cell? ⟨g, l * 3 + 1, none⟩ = some (.int .i64 sg) := (hr.cellAt (l * 3 + 1) (by omega)).trans s1
          have t2 : wr.cell? ⟨g, l * 3 + 2, none⟩ = some (.slice ta tt.length tc) := (hr.cellAt (l * 3 + 2) (by omega)).trans s2
          have ba : Below wr.heap.size wr (wr.alloc (.cells #[.string nm, .int .i64 sg, .slice ta tt.length tc] 64)) := (Below.refl _ _).alloc (Nat.le_refl _) _
          have hNr : w.heap.size + 2 ≤ wr.heap.size := (Array.getElem?_eq_some_iff.1 hres).1
          obtain ⟨x0, x1, x2, x3, x4⟩ := five (cells_below hbox ba (by omega))
          have ms : (wr.alloc (.cells #[.string nm, .int .i64 sg, .slice ta tt.length tc] 64)).heap[wr.heap.size]? = some (.cells #[.string nm, .int .i64 sg, .slice ta tt.length tc] 64) := World.alloc_heap_new _ _
          obtain ⟨y0, y1, y2⟩ := three ms
          have hcl := clone_ints (w := (wr.alloc (.cells #[.string nm, .int .i64 sg, .slice ta tt.length tc] 64)).drew) ((HSl.out.1.below hbel).below (to_drew ba)) (by have := hF.sr l hll; rw [← HK.out] at this; exact this)
          clear hH e3 hbox hres hbel hr s0 s1 s2
          go_wp2_with fail
          go_region_with (first | (go_at_call 98; refine hcl.mono ?_; rintro e w1 ⟨vt, rfl, hrt, bt⟩; have bt := below_drew bt; have bw := Below.on ba bt; have hN := HD.out.below bw; obtain ⟨z0, z1, z2, z3, z4⟩ := five hN.box; have HRT : Hid (w1.ownsRow wr.heap.size 3 1 vt tt.length (ints tt)) := row_mono hrt (by show _ ≤ (wr.alloc _).heap.size; simp); obtain ⟨oa, oc, rfl⟩ := row_slice hrt; have q2 := (bw.cell (p := ⟨g, l * 3 + 2, none⟩) hgl.2).trans t2; have qf : w1.frozen? ⟨g, l * 3 + 2, none⟩ = false := by (obtain ⟨⟨val, hH, _, _, _, e3⟩, _⟩ := hN; have hr := hH.row .snaps (.inl ⟨by decide, rfl⟩); rw [e3] at hr; exact hr.frozenAt _)))
          all_goals
            have HN : Hid (CpR w (w1.setCell ⟨g, l * 3 + 2, none⟩ (.slice oa tt.length oc)) m tv qv (.slice qa m.root.length qc) (.slice pa m.slots.length pc) (.slice ka m.refs.length kc) (.slice (some ⟨g, 0, none⟩) m.snaps.length jc) m.slots.length (l + 1)) := HD.out.sr bw (by rw [← HK.out]; exact HRT.out)
            go_wp2_with fail
            go_roundw
            case rel => exact ⟨l + 1, by omega, by go_num, HN⟩
            case measure => simp [intOf]; omega
        · have el : l = m.snaps.length := by omega
          subst el
          obtain ⟨⟨val, hH, e0, e1, e2, e3⟩, hbox, hres, hbel⟩ := HD.out
          obtain ⟨x0, x1, x2, x3, x4⟩ := five hbox
          obtain ⟨z0, z1, z2, z3, z4⟩ := five hres
          have y0 := cells_frozen hres 0
          have y1 := cells_frozen hres 1
          have y2 := cells_frozen hres 2
          have y3 := cells_frozen hres 3
          have y4 := cells_frozen hres 4
          have HF : Hid (OI wr (w.heap.size + 2) val m) := hH.done
          clear hH
          go_wp2_with fail
          have hf : ∀ a, Live m a → (val a).ownBlock ≠ some (w.heap.size + 1) := fun a ha e => by have := ((HF.out.row a ha).lt _ e).1; omega
          have hB1 : w.heap.size ≤ w.heap.size + 1 := Nat.le_succ _
          refine bodyPost_ret (v := .agg #[.int .i64 m.guest, .slice qa m.root.length qc, .slice pa m.slots.length pc, .slice ka m.refs.length kc, .slice ja m.snaps.length jc]) (by simp [results, Tryz.results72, go_sem, z0, z1, z2, z3, z4]) rfl ⟨val, ?_, OI.mono (((((HF.out.far hf).far hf).far hf).far hf).far hf) (by omega), ((((hbel.setCell hB1 _).setCell hB1 _).setCell hB1 _).setCell hB1 _).setCell hB1 _⟩
          unfold imgV
          rw [e0, e1, e2, e3]
theorem copied_is {w : World} {v : Value} {m : ImgD} (h : Img w v m) (hF : Fits m) :
    Calls Tryz.prog 72 #[v] w fun r w' => ∃ val, r = .returned (imgV m.guest val) ∧ OI w' w.heap.size val m ∧ Below w.heap.size w w' := by
  obtain ⟨ra, rc, sa, sc, fa, fc, na, nc, rfl, h1, h2, h3, h4⟩ := h.parts
  exact copied_at m ra _ rc sa _ sc fa _ fc na _ nc w h1 h2 h3 h4 hF
end Go.Proofs.YtehleeibgkpjmafGreat
/- Contract of Of: a copy is turned, and settled; where no slot is left, the panic is caught. -/
namespace Go.Proofs.YtehleeibgkpjmafGreat
open Go.RowKit Go.Shelf
set_option maxRecDepth 20000

theorem catch_idle (p : Addr) (w : World) :
    CallsD Tryz.prog 71 #[.pointer (some p)] .returning w fun e u' w' => e = .returned (.tuple #[]) ∧ u' = .returning ∧ w' = w := by
  refine callsD_of_wpS Tryz.func71 rfl fun c₀ cs hu => ?_
  apply wpS_seq
  apply wpS_region
  simp [wpOpsS, go_sem, recoverD, hu, Tryz.ntmps71, Exit.thenS]
  refine wpS_of_wp ?_
  simp only [Array.replicate_succ, Array.replicate_zero, List.push_toArray, List.append_toArray, List.nil_append, List.cons_append, List.setIfInBounds_toArray, List.set_cons_zero, List.set_cons_succ]
  go_wp2
  cases c₀
  simp_all [bodyPostS, results, Tryz.results71]
set_option maxHeartbeats 1000000 in
theorem catch_full (b : Nat) (x : Int) (older : List PanicEntry) (w : World) (hc : w.cell? ⟨b, 0, none⟩ = some (.int .i64 x)) (hz : w.frozen? ⟨b, 0, none⟩ = false) (hb : b < w.heap.size) :
    CallsD Tryz.prog 71 #[.pointer (some ⟨b, 0, none⟩)] (.panicking ({ v := .iface 99 (.agg #[]), recovered := false } :: older)) w fun e u' w' =>
      e = .returned (.tuple #[]) ∧ u' = .panicking ({ v := .iface 99 (.agg #[]), recovered := true } :: older) ∧ w' = (w.setCell ⟨b, 0, none⟩ (.int .i64 7)).alloc (.cells #[] 99) := by
  have hta : ∀ w, (Instr.typeAssert (.iface 99 (.agg #[])) 20 99 true).run Tryz.prog w = .ok (.tuple #[.agg #[], .bool true]) w := fun w => by kernel_rfl
  have hcA : (w.alloc (.cells #[] 99)).cell? ⟨b, 0, none⟩ = some (.int .i64 x) := (World.cell?_alloc_past _ _ _ hb).trans hc
  have hbn : ¬ b = w.heap.size := by omega
  refine callsD_of_wpS Tryz.func71 rfl fun c₀ cs hu => ?_
  apply wpS_seq
  apply wpS_region
  simp [wpOpsS, go_sem, recoverD, hu, Tryz.ntmps71, Exit.thenS]
  refine wpS_of_wp ?_
  simp only [Array.replicate_succ, Array.replicate_zero, List.push_toArray, List.append_toArray, List.nil_append, List.cons_append, List.setIfInBounds_toArray, List.set_cons_zero, List.set_cons_succ]
  go_wp2
  cases c₀
  simp_all [bodyPostS, results, Tryz.results71]

abbrev noSlotP : List PanicEntry := [{ v := .iface 99 (.agg #[]), recovered := false }]
def Turns (w : World) (N : Nat) (caps : Array Value) (m : ImgD) (o : Option ImgD) : Prop :=
  ∀ (W : World) (D B : Nat) (val : Nm → Value), Below w.heap.size w W → w.heap.size ≤ B → B ≤ W.heap.size → DK W B D val m →
    Calls Tryz.prog N (#[.pointer (some ⟨D, 0, none⟩)] ++ caps) W fun r W' => match o with
      | some m' => ∃ val', r = .returned (.tuple #[]) ∧ DTo W W' B D m val nilV m' val'
      | none => r = .panicked noSlotP ∧ Below B W W'
theorem desk_new {w : World} {B : Nat} {val : Nm → Value} {m : ImgD} (h : OI w B val m) (hB : B ≤ w.heap.size) : DK (w.alloc (.cells #[.int .i64 m.guest, val .root, val .slots, val .refs, val .snaps] 70)) B w.heap.size val m :=
  ⟨h.alloc _, World.alloc_heap_new _ _, hB, h.lt (Nat.le_refl _)⟩

set_option maxHeartbeats 4000000 in
theorem of_full (m : ImgD) (ra : Option Addr) (rn rc : Nat) (sa : Option Addr) (sn sc : Nat) (fa : Option Addr) (fn fc : Nat) (na : Option Addr) (nn nc : Nat) (N : Nat) (caps : Array Value) (w : World) (h : Img w (.agg #[.int .i64 m.guest, .slice ra rn rc, .slice sa sn sc, .slice fa fn fc, .slice na nn nc]) m) (hF : Fits m) (hN : ∀ (args : Array Value) (w : World), (callFunc N args).run Tryz.prog w = .ok (.enter N args) w) (ht : Turns w N caps m none) :
    Calls Tryz.prog 39 #[.agg #[.int .i64 m.guest, .slice ra rn rc, .slice sa sn sc, .slice fa fn fc, .slice na nn nc], .func (.func N) #[] caps] w (AnsI w w.heap.size imgZ 7) := by
  have hmf : ∀ (fn : Fn) (first cap : Array Value) (w : World), (Instr.makeFunc fn first cap).run Tryz.prog w = .ok (.func fn first cap) w := fun _ _ _ _ => rfl
  have b0 : Below w.heap.size w (((w.alloc (.cells #[.int .i64 m.guest, .slice ra rn rc, .slice sa sn sc, .slice fa fn fc, .slice na nn nc] 27)).alloc (.cells #[.int .i64 0, .slice none 0 0, .slice none 0 0, .slice none 0 0, .slice none 0 0] 27)).alloc (.cells #[.int .i64 0] 30)) := (((Below.refl _ _).alloc (Nat.le_refl _) _).alloc (by simp) _).alloc (by simp <;> omega) _
  have m0 : (((w.alloc (.cells #[.int .i64 m.guest, .slice ra rn rc, .slice sa sn sc, .slice fa fn fc, .slice na nn nc] 27)).alloc (.cells #[.int .i64 0, .slice none 0 0, .slice none 0 0, .slice none 0 0, .slice none 0 0] 27)).alloc (.cells #[.int .i64 0] 30)).heap[w.heap.size]? = some (.cells #[.int .i64 m.guest, .slice ra rn rc, .slice sa sn sc, .slice fa fn fc, .slice na nn nc] 27) := cells_alloc (cells_alloc (World.alloc_heap_new _ _) _) _
  have m1 : (((w.alloc (.cells #[.int .i64 m.guest, .slice ra rn rc, .slice sa sn sc, .slice fa fn fc, .slice na nn nc] 27)).alloc (.cells #[.int .i64 0, .slice none 0 0, .slice none 0 0, .slice none 0 0, .slice none 0 0] 27)).alloc (.cells #[.int .i64 0] 30)).heap[w.heap.size + 1]? = some (.cells #[.int .i64 0, .slice none 0 0, .slice none 0 0, .slice none 0 0, .slice none 0 0] 27) := cells_alloc (by have := World.alloc_heap_new (w.alloc (.cells #[.int .i64 m.guest, .slice ra rn rc, .slice sa sn sc, .slice fa fn fc, .slice na nn nc] 27)) (.cells #[.int .i64 0, .slice none 0 0, .slice none 0 0, .slice none 0 0, .slice none 0 0] 27); simpa using this) _
  have m2 : (((w.alloc (.cells #[.int .i64 m.guest, .slice ra rn rc, .slice sa sn sc, .slice fa fn fc, .slice na nn nc] 27)).alloc (.cells #[.int .i64 0, .slice none 0 0, .slice none 0 0, .slice none 0 0, .slice none 0 0] 27)).alloc (.cells #[.int .i64 0] 30)).heap[w.heap.size + 1 + 1]? = some (.cells #[.int .i64 0] 30) := by have := World.alloc_heap_new ((w.alloc (.cells #[.int .i64 m.guest, .slice ra rn rc, .slice sa sn sc, .slice fa fn fc, .slice na nn nc] 27)).alloc (.cells #[.int .i64 0, .slice none 0 0, .slice none 0 0, .slice none 0 0, .slice none 0 0] 27)) (.cells #[.int .i64 0] 30); simpa using this
  have hz3 : (((w.alloc (.cells #[.int .i64 m.guest, .slice ra rn rc, .slice sa sn sc, .slice fa fn fc, .slice na nn nc] 27)).alloc (.cells #[.int .i64 0, .slice none 0 0, .slice none 0 0, .slice none 0 0, .slice none 0 0] 27)).alloc (.cells #[.int .i64 0] 30)).heap.size = w.heap.size + 1 + 1 + 1 := by simp
  obtain ⟨c0, c1, c2, c3, c4⟩ := five m0
  have hcp := copied_is (h.below b0) hF
  have HX : Hid (True) := trivial
  clear h
  go_enter_defers Tryz.func39, Tryz.ntmps39
  go_wp2_with (go_at_call 72; refine hcp.mono ?_; rintro e w1 ⟨val, rfl, hO, b1⟩; obtain ⟨qa, qc, q0, _⟩ := hO.forms .root (Live.root m); obtain ⟨pa, pc, q1, _⟩ := hO.forms .slots (Live.slots m); obtain ⟨ka, kc, q2, _⟩ := hO.forms .refs (Live.refs m); obtain ⟨ja, jc, q3, _⟩ := hO.forms .snaps (Live.snaps m); unfold imgV; rw [q0, q1, q2, q3])
  have hD := desk_new hO b1.size
  rw [q0, q1, q2, q3] at hD
  have b1' : Below (((w.alloc (.cells #[.int .i64 m.guest, .slice ra rn rc, .slice sa sn sc, .slice fa fn fc, .slice na nn nc] 27)).alloc (.cells #[.int .i64 0, .slice none 0 0, .slice none 0 0, .slice none 0 0, .slice none 0 0] 27)).alloc (.cells #[.int .i64 0] 30)).heap.size (((w.alloc (.cells #[.int .i64 m.guest, .slice ra rn rc, .slice sa sn sc, .slice fa fn fc, .slice na nn nc] 27)).alloc (.cells #[.int .i64 0, .slice none 0 0, .slice none 0 0, .slice none 0 0, .slice none 0 0] 27)).alloc (.cells #[.int .i64 0] 30)) (w1.alloc (.cells #[.int .i64 m.guest, .slice qa (rowN m .root) qc, .slice pa (rowN m .slots) pc, .slice ka (rowN m .refs) kc, .slice ja (rowN m .snaps) jc] 70)) := b1.alloc b1.size _
  have hbw := Below.on b0 b1'
  refine (ht _ _ _ _ hbw b0.size b1'.size hD).mono ?_
  rintro e w2 ⟨rfl, b2⟩
  dsimp only
  have b3 := b1'.trans b2
  have k1 := cells_below m1 b3 (by rw [hz3]; omega)
  have k2 := cells_below m2 b3 (by rw [hz3]; omega)
  have b4 : Below w.heap.size w w2 := b0.trans (b3.mono (by rw [hz3]; omega))
  obtain ⟨z0, z1, z2, z3, z4⟩ := five k1
  have ce : w2.cell? ⟨w.heap.size + 1 + 1, 0, none⟩ = some (.int .i64 0) := by simp [World.cell?, k2]
  have ne : ¬ w.heap.size + 1 = w.heap.size + 1 + 1 := by omega
  have hlt : w.heap.size + 1 + 1 < w2.heap.size := (Array.getElem?_eq_some_iff.1 k2).1
  have hlt1 : w.heap.size + 1 < w2.heap.size := by omega
  refine leaves_cons (f := 71) (args := #[.pointer (some ⟨w.heap.size + 1 + 1, 0, none⟩)]) (by simp) (by simp [go_sem]) ?_
  refine (catch_full (w.heap.size + 1 + 1) 0 [] w2 ce (cells_frozen k2 0) hlt).mono ?_
  rintro e u' w'' ⟨rfl, rfl, rfl⟩
  have k3 : ((w2.setCell ⟨w.heap.size + 1 + 1, 0, none⟩ (.int .i64 7)).alloc (.cells #[] 99)).heap[w.heap.size + 1]? = some (.cells #[.int .i64 0, .slice none 0 0, .slice none 0 0, .slice none 0 0, .slice none 0 0] 27) := cells_alloc (cells_other k1 ne _ _) _
  have k4 : ((w2.setCell ⟨w.heap.size + 1 + 1, 0, none⟩ (.int .i64 7)).alloc (.cells #[] 99)).heap[w.heap.size + 1 + 1]? = some (.cells #[.int .i64 7] 30) := cells_alloc (cells_set k2 0 _) _
  obtain ⟨z0, z1, z2, z3, z4⟩ := five k3
  have ce : ((w2.setCell ⟨w.heap.size + 1 + 1, 0, none⟩ (.int .i64 7)).alloc (.cells #[] 99)).cell? ⟨w.heap.size + 1 + 1, 0, none⟩ = some (.int .i64 7) := by simp only [World.cell?, k4]; rfl
  refine ⟨_, ?_, AnsI.bad 7 ((b4.setCell (by show _ ≤ w.heap.size + 1 + 1; omega) _).alloc (by simp [World.setCell]; have := b4.size; omega) _)⟩
  clear k3 k4
  generalize (w2.setCell ⟨w.heap.size + 1 + 1, 0, none⟩ (.int .i64 7)).alloc (.cells #[] 99) = Wf at z0 z1 z2 z3 z4 ce ⊢
  simp [results, Tryz.results39, go_sem, z0, z1, z2, z3, z4, ce]
set_option maxHeartbeats 4000000 in
theorem of_bad (m M : ImgD) (ra : Option Addr) (rn rc : Nat) (sa : Option Addr) (sn sc : Nat) (fa : Option Addr) (fn fc : Nat) (na : Option Addr) (nn nc : Nat) (N : Nat) (caps : Array Value) (w : World) (h : Img w (.agg #[.int .i64 m.guest, .slice ra rn rc, .slice sa sn sc, .slice fa fn fc, .slice na nn nc]) m) (hF : Fits m) (hN : ∀ (args : Array Value) (w : World), (callFunc N args).run Tryz.prog w = .ok (.enter N args) w) (ht : Turns w N caps m (some M)) (E : Int) (hE : shapeE M = E) (hne : E ≠ 0) :
    Calls Tryz.prog 39 #[.agg #[.int .i64 m.guest, .slice ra rn rc, .slice sa sn sc, .slice fa fn fc, .slice na nn nc], .func (.func N) #[] caps] w (AnsI w w.heap.size imgZ E) := by
  have hmf : ∀ (fn : Fn) (first cap : Array Value) (w : World), (Instr.makeFunc fn first cap).run Tryz.prog w = .ok (.func fn first cap) w := fun _ _ _ _ => rfl
  have b0 : Below w.heap.size w (((w.alloc (.cells #[.int .i64 m.guest, .slice ra rn rc, .slice sa sn sc, .slice fa fn fc, .slice na nn nc] 27)).alloc (.cells #[.int .i64 0, .slice none 0 0, .slice none 0 0, .slice none 0 0, .slice none 0 0] 27)).alloc (.cells #[.int .i64 0] 30)) := (((Below.refl _ _).alloc (Nat.le_refl _) _).alloc (by simp) _).alloc (by simp <;> omega) _
  have m0 : (((w.alloc (.cells #[.int .i64 m.guest, .slice ra rn rc, .slice sa sn sc, .slice fa fn fc, .slice na nn nc] 27)).alloc (.cells #[.int .i64 0, .slice none 0 0, .slice none 0 0, .slice none 0 0, .slice none 0 0] 27)).alloc (.cells #[.int .i64 0] 30)).heap[w.heap.size]? = some (.cells #[.int .i64 m.guest, .slice ra rn rc, .slice sa sn sc, .slice fa fn fc, .slice na nn nc] 27) := cells_alloc (cells_alloc (World.alloc_heap_new _ _) _) _
  have m1 : (((w.alloc (.cells #[.int .i64 m.guest, .slice ra rn rc, .slice sa sn sc, .slice fa fn fc, .slice na nn nc] 27)).alloc (.cells #[.int .i64 0, .slice none 0 0, .slice none 0 0, .slice none 0 0, .slice none 0 0] 27)).alloc (.cells #[.int .i64 0] 30)).heap[w.heap.size + 1]? = some (.cells #[.int .i64 0, .slice none 0 0, .slice none 0 0, .slice none 0 0, .slice none 0 0] 27) := cells_alloc (by have := World.alloc_heap_new (w.alloc (.cells #[.int .i64 m.guest, .slice ra rn rc, .slice sa sn sc, .slice fa fn fc, .slice na nn nc] 27)) (.cells #[.int .i64 0, .slice none 0 0, .slice none 0 0, .slice none 0 0, .slice none 0 0] 27); simpa using this) _
  have m2 : (((w.alloc (.cells #[.int .i64 m.guest, .slice ra rn rc, .slice sa sn sc, .slice fa fn fc, .slice na nn nc] 27)).alloc (.cells #[.int .i64 0, .slice none 0 0, .slice none 0 0, .slice none 0 0, .slice none 0 0] 27)).alloc (.cells #[.int .i64 0] 30)).heap[w.heap.size + 1 + 1]? = some (.cells #[.int .i64 0] 30) := by have := World.alloc_heap_new ((w.alloc (.cells #[.int .i64 m.guest, .slice ra rn rc, .slice sa sn sc, .slice fa fn fc, .slice na nn nc] 27)).alloc (.cells #[.int .i64 0, .slice none 0 0, .slice none 0 0, .slice none 0 0, .slice none 0 0] 27)) (.cells #[.int .i64 0] 30); simpa using this
  have hz3 : (((w.alloc (.cells #[.int .i64 m.guest, .slice ra rn rc, .slice sa sn sc, .slice fa fn fc, .slice na nn nc] 27)).alloc (.cells #[.int .i64 0, .slice none 0 0, .slice none 0 0, .slice none 0 0, .slice none 0 0] 27)).alloc (.cells #[.int .i64 0] 30)).heap.size = w.heap.size + 1 + 1 + 1 := by simp
  obtain ⟨c0, c1, c2, c3, c4⟩ := five m0
  have hcp := copied_is (h.below b0) hF
  have HX : Hid (shapeE M = E ∧ E ≠ 0) := ⟨hE, hne⟩
  clear h hE hne
  go_enter_defers Tryz.func39, Tryz.ntmps39
  go_wp2_with (go_at_call 72; refine hcp.mono ?_; rintro e w1 ⟨val, rfl, hO, b1⟩; obtain ⟨qa, qc, q0, _⟩ := hO.forms .root (Live.root m); obtain ⟨pa, pc, q1, _⟩ := hO.forms .slots (Live.slots m); obtain ⟨ka, kc, q2, _⟩ := hO.forms .refs (Live.refs m); obtain ⟨ja, jc, q3, _⟩ := hO.forms .snaps (Live.snaps m); unfold imgV; rw [q0, q1, q2, q3])
  have hD := desk_new hO b1.size
  rw [q0, q1, q2, q3] at hD
  have b1' : Below (((w.alloc (.cells #[.int .i64 m.guest, .slice ra rn rc, .slice sa sn sc, .slice fa fn fc, .slice na nn nc] 27)).alloc (.cells #[.int .i64 0, .slice none 0 0, .slice none 0 0, .slice none 0 0, .slice none 0 0] 27)).alloc (.cells #[.int .i64 0] 30)).heap.size (((w.alloc (.cells #[.int .i64 m.guest, .slice ra rn rc, .slice sa sn sc, .slice fa fn fc, .slice na nn nc] 27)).alloc (.cells #[.int .i64 0, .slice none 0 0, .slice none 0 0, .slice none 0 0, .slice none 0 0] 27)).alloc (.cells #[.int .i64 0] 30)) (w1.alloc (.cells #[.int .i64 m.guest, .slice qa (rowN m .root) qc, .slice pa (rowN m .slots) pc, .slice ka (rowN m .refs) kc, .slice ja (rowN m .snaps) jc] 70)) := b1.alloc b1.size _
  have hbw := Below.on b0 b1'
  refine (ht _ _ _ _ hbw b0.size b1'.size hD).mono ?_
  rintro e w2 ⟨val2, rfl, hT⟩
  dsimp only
  have b3 := b1'.trans hT.bel
  have k1 := cells_below m1 b3 (by rw [hz3]; omega)
  have k2 := cells_below m2 b3 (by rw [hz3]; omega)
  have b4 : Below w.heap.size w w2 := b0.trans (b3.mono (by rw [hz3]; omega))
  have hcall := settled_bad hT.dk HX.out.1 HX.out.2
  clear hT hD
  go_wp2_with (go_at_call 73; refine hcall.mono ?_; rintro e w3 ⟨rfl, b5⟩; have r1 := cells_below k1 b5 (Array.getElem?_eq_some_iff.1 k1).1; have r2 := cells_below k2 b5 (Array.getElem?_eq_some_iff.1 k2).1; obtain ⟨z0, z1, z2, z3, z4⟩ := five r1; have y0 := cells_frozen r1 0; have y1 := cells_frozen r1 1; have y2 := cells_frozen r1 2; have y3 := cells_frozen r1 3; have y4 := cells_frozen r1 4; have x0 := cells_frozen r2 0; have ce : w3.cell? ⟨w.heap.size + 1 + 1, 0, none⟩ = some (.int .i64 0) := by simp [World.cell?, r2])
  refine leaves_cons (f := 71) (args := #[.pointer (some ⟨w.heap.size + 1 + 1, 0, none⟩)]) (by simp) (by simp [go_sem]) ?_
  refine (catch_idle ⟨w.heap.size + 1 + 1, 0, none⟩ _).mono ?_
  rintro e u' w'' ⟨rfl, rfl, rfl⟩
  have b6 := Below.on b4 b5
  have i1 : w.heap.size ≤ w.heap.size + 1 := Nat.le_succ _
  have i2 : w.heap.size ≤ w.heap.size + 1 + 1 := by omega
  refine ⟨_, ?_, AnsI.bad E ((((((b6.setCell i1 _).setCell i1 _).setCell i1 _).setCell i1 _).setCell i1 _).setCell i2 _)⟩
  simp [results, Tryz.results39, go_sem, z0, z1, z2, z3, z4, ce]
set_option maxHeartbeats 4000000 in
theorem of_ok (m M : ImgD) (ra : Option Addr) (rn rc : Nat) (sa : Option Addr) (sn sc : Nat) (fa : Option Addr) (fn fc : Nat) (na : Option Addr) (nn nc : Nat) (N : Nat) (caps : Array Value) (w : World) (h : Img w (.agg #[.int .i64 m.guest, .slice ra rn rc, .slice sa sn sc, .slice fa fn fc, .slice na nn nc]) m) (hF : Fits m) (hN : ∀ (args : Array Value) (w : World), (callFunc N args).run Tryz.prog w = .ok (.enter N args) w) (ht : Turns w N caps m (some M)) (hE : shapeE M = 0) :
    Calls Tryz.prog 39 #[.agg #[.int .i64 m.guest, .slice ra rn rc, .slice sa sn sc, .slice fa fn fc, .slice na nn nc], .func (.func N) #[] caps] w (AnsI w w.heap.size (countedD M) 0) := by
  have hmf : ∀ (fn : Fn) (first cap : Array Value) (w : World), (Instr.makeFunc fn first cap).run Tryz.prog w = .ok (.func fn first cap) w := fun _ _ _ _ => rfl
  have b0 : Below w.heap.size w (((w.alloc (.cells #[.int .i64 m.guest, .slice ra rn rc, .slice sa sn sc, .slice fa fn fc, .slice na nn nc] 27)).alloc (.cells #[.int .i64 0, .slice none 0 0, .slice none 0 0, .slice none 0 0, .slice none 0 0] 27)).alloc (.cells #[.int .i64 0] 30)) := (((Below.refl _ _).alloc (Nat.le_refl _) _).alloc (by simp) _).alloc (by simp <;> omega) _
  have m0 : (((w.alloc (.cells #[.int .i64 m.guest, .slice ra rn rc, .slice sa sn sc, .slice fa fn fc, .slice na nn nc] 27)).alloc (.cells #[.int .i64 0, .slice none 0 0, .slice none 0 0, .slice none 0 0, .slice none 0 0] 27)).alloc (.cells #[.int .i64 0] 30)).heap[w.heap.size]? = some (.cells #[.int .i64 m.guest, .slice ra rn rc, .slice sa sn sc, .slice fa fn fc, .slice na nn nc] 27) := cells_alloc (cells_alloc (World.alloc_heap_new _ _) _) _
  have m1 : (((w.alloc (.cells #[.int .i64 m.guest, .slice ra rn rc, .slice sa sn sc, .slice fa fn fc, .slice na nn nc] 27)).alloc (.cells #[.int .i64 0, .slice none 0 0, .slice none 0 0, .slice none 0 0, .slice none 0 0] 27)).alloc (.cells #[.int .i64 0] 30)).heap[w.heap.size + 1]? = some (.cells #[.int .i64 0, .slice none 0 0, .slice none 0 0, .slice none 0 0, .slice none 0 0] 27) := cells_alloc (by have := World.alloc_heap_new (w.alloc (.cells #[.int .i64 m.guest, .slice ra rn rc, .slice sa sn sc, .slice fa fn fc, .slice na nn nc] 27)) (.cells #[.int .i64 0, .slice none 0 0, .slice none 0 0, .slice none 0 0, .slice none 0 0] 27); simpa using this) _
  have m2 : (((w.alloc (.cells #[.int .i64 m.guest, .slice ra rn rc, .slice sa sn sc, .slice fa fn fc, .slice na nn nc] 27)).alloc (.cells #[.int .i64 0, .slice none 0 0, .slice none 0 0, .slice none 0 0, .slice none 0 0] 27)).alloc (.cells #[.int .i64 0] 30)).heap[w.heap.size + 1 + 1]? = some (.cells #[.int .i64 0] 30) := by have := World.alloc_heap_new ((w.alloc (.cells #[.int .i64 m.guest, .slice ra rn rc, .slice sa sn sc, .slice fa fn fc, .slice na nn nc] 27)).alloc (.cells #[.int .i64 0, .slice none 0 0, .slice none 0 0, .slice none 0 0, .slice none 0 0] 27)) (.cells #[.int .i64 0] 30); simpa using this
  have hz3 : (((w.alloc (.cells #[.int .i64 m.guest, .slice ra rn rc, .slice sa sn sc, .slice fa fn fc, .slice na nn nc] 27)).alloc (.cells #[.int .i64 0, .slice none 0 0, .slice none 0 0, .slice none 0 0, .slice none 0 0] 27)).alloc (.cells #[.int .i64 0] 30)).heap.size = w.heap.size + 1 + 1 + 1 := by simp
  obtain ⟨c0, c1, c2, c3, c4⟩ := five m0
  have hcp := copied_is (h.below b0) hF
  have HX : Hid (shapeE M = 0) := hE
  clear h hE
  go_enter_defers Tryz.func39, Tryz.ntmps39
  go_wp2_with (go_at_call 72; refine hcp.mono ?_; rintro e w1 ⟨val, rfl, hO, b1⟩; obtain ⟨qa, qc, q0, _⟩ := hO.forms .root (Live.root m); obtain ⟨pa, pc, q1, _⟩ := hO.forms .slots (Live.slots m); obtain ⟨ka, kc, q2, _⟩ := hO.forms .refs (Live.refs m); obtain ⟨ja, jc, q3, _⟩ := hO.forms .snaps (Live.snaps m); unfold imgV; rw [q0, q1, q2, q3])
  have hD := desk_new hO b1.size
  rw [q0, q1, q2, q3] at hD
  have b1' : Below (((w.alloc (.cells #[.int .i64 m.guest, .slice ra rn rc, .slice sa sn sc, .slice fa fn fc, .slice na nn nc] 27)).alloc (.cells #[.int .i64 0, .slice none 0 0, .slice none 0 0, .slice none 0 0, .slice none 0 0] 27)).alloc (.cells #[.int .i64 0] 30)).heap.size (((w.alloc (.cells #[.int .i64 m.guest, .slice ra rn rc, .slice sa sn sc, .slice fa fn fc, .slice na nn nc] 27)).alloc (.cells #[.int .i64 0, .slice none 0 0, .slice none 0 0, .slice none 0 0, .slice none 0 0] 27)).alloc (.cells #[.int .i64 0] 30)) (w1.alloc (.cells #[.int .i64 m.guest, .slice qa (rowN m .root) qc, .slice pa (rowN m .slots) pc, .slice ka (rowN m .refs) kc, .slice ja (rowN m .snaps) jc] 70)) := b1.alloc b1.size _
  have hbw := Below.on b0 b1'
  refine (ht _ _ _ _ hbw b0.size b1'.size hD).mono ?_
  rintro e w2 ⟨val2, rfl, hT⟩
  dsimp only
  have b3 := b1'.trans hT.bel
  have k1 := cells_below m1 b3 (by rw [hz3]; omega)
  have k2 := cells_below m2 b3 (by rw [hz3]; omega)
  have b4 : Below w.heap.size w w2 := b0.trans (b3.mono (by rw [hz3]; omega))
  have hcall := settled_ok hT.dk (Nat.le_trans b1'.size hT.bel.size) HX.out
  go_wp2_with fail
  refine hcall.mono ?_
  rintro e w3 ⟨val3, rfl, hT3⟩
  dsimp only
  have hO3 := hT3.dk.own
  have b5 := hT3.bel
  rw [hz3] at b5
  have r1 := cells_below k1 b5 (by omega)
  have r2 := cells_below k2 b5 (by omega)
  obtain ⟨z0, z1, z2, z3, z4⟩ := five r1
  have y0 := cells_frozen r1 0
  have y1 := cells_frozen r1 1
  have y2 := cells_frozen r1 2
  have y3 := cells_frozen r1 3
  have y4 := cells_frozen r1 4
  have x0 := cells_frozen r2 0
  have ce : w3.cell? ⟨w.heap.size + 1 + 1, 0, none⟩ = some (.int .i64 0) := by simp [World.cell?, r2]
  obtain ⟨ga, gc, g0, _⟩ := hO3.forms .root (Live.root _)
  obtain ⟨la, lc, g1, _⟩ := hO3.forms .slots (Live.slots _)
  obtain ⟨oa, oc, g2, _⟩ := hO3.forms .refs (Live.refs _)
  obtain ⟨ta, tc, g3, _⟩ := hO3.forms .snaps (Live.snaps _)
  unfold imgV
  rw [g0, g1, g2, g3]
  have HO : Hid (OI w3 (w.heap.size + 3) val3 (countedD M) ∧ val3 .root = _ ∧ val3 .slots = _ ∧ val3 .refs = _ ∧ val3 .snaps = _) := ⟨by rw [hz3] at hO3; exact hO3, g0, g1, g2, g3⟩
  have HB : Hid (Below w.heap.size w w3) := b4.trans (b5.mono (by omega))
  clear hO3 hT hT3 hD hcall g0 g1 g2 g3 b5 b4 b3 b1 b1' hbw hO q0 q1 q2 q3
  go_wp2_with fail
  refine leaves_cons (f := 71) (args := #[.pointer (some ⟨w.heap.size + 1 + 1, 0, none⟩)]) (by simp) (by simp [go_sem]) ?_
  refine (catch_idle ⟨w.heap.size + 1 + 1, 0, none⟩ _).mono ?_
  rintro e u' w'' ⟨rfl, rfl, rfl⟩
  obtain ⟨hO, g0, g1, g2, g3⟩ := HO.out
  have b6 := HB.out
  have i1 : w.heap.size ≤ w.heap.size + 1 := Nat.le_succ _
  have i2 : w.heap.size ≤ w.heap.size + 1 + 1 := by omega
  have hf1 : ∀ a, Live (countedD M) a → (val3 a).ownBlock ≠ some (w.heap.size + 1) := fun a ha e => by have := ((hO.row a ha).lt _ e).1; omega
  have hf2 : ∀ a, Live (countedD M) a → (val3 a).ownBlock ≠ some (w.heap.size + 1 + 1) := fun a ha e => by have := ((hO.row a ha).lt _ e).1; omega
  refine ⟨.tuple #[.agg #[.int .i64 M.guest, .slice ga (rowN (countedD M) .root) gc, .slice la (rowN (countedD M) .slots) lc, .slice oa (rowN (countedD M) .refs) oc, .slice ta (rowN (countedD M) .snaps) tc], .int .i64 0], ?_, val3, ?_, OI.mono ((((((hO.far hf1).far hf1).far hf1).far hf1).far hf1).far hf2) (by omega), ((((((b6.setCell i1 _).setCell i1 _).setCell i1 _).setCell i1 _).setCell i1 _).setCell i2 _)⟩
  · simp [results, Tryz.results39, go_sem, z0, z1, z2, z3, z4, ce]
  · unfold imgV
    rw [g0, g1, g2, g3]
    rfl
def ofM (o : Option ImgD) : ImgD := match o with | none => imgZ | some M => if shapeE M = 0 then countedD M else imgZ
def ofE (o : Option ImgD) : Int := match o with | none => 7 | some M => shapeE M
theorem of_is {w : World} {v : Value} {m : ImgD} {o : Option ImgD} {N : Nat} {caps : Array Value} (h : Img w v m) (hF : Fits m) (hN : ∀ (args : Array Value) (w : World), (callFunc N args).run Tryz.prog w = .ok (.enter N args) w) (ht : Turns w N caps m o) :
    Calls Tryz.prog 39 #[v, .func (.func N) #[] caps] w (AnsI w w.heap.size (ofM o) (ofE o)) := by
  have h' := h
  obtain ⟨ra, rc, sa, sc, fa, fc, na, nc, rfl, _⟩ := h.parts
  cases o with
  | none => exact of_full m ra _ rc sa _ sc fa _ fc na _ nc N caps w h' hF hN ht
  | some M =>
    unfold ofM ofE
    dsimp only
    by_cases hE : shapeE M = 0
    · rw [if_pos hE, hE]
      exact of_ok m M ra _ rc sa _ sc fa _ fc na _ nc N caps w h' hF hN ht hE
    · rw [if_neg hE]
      exact of_bad m M ra _ rc sa _ sc fa _ fc na _ nc N caps w h' hF hN ht _ rfl hE
end Go.Proofs.YtehleeibgkpjmafGreat
/- Contract of Take: a slot is grabbed and laid, or there is none. -/
namespace Go.Proofs.YtehleeibgkpjmafGreat
open Go.RowKit Go.Shelf
set_option maxRecDepth 20000

theorem DTo.pre {w w1 w2 : World} {B D : Nat} {m m1 : ImgD} {val val1 : Nm → Value} {ev : Value} (h : DTo w1 w2 B D m val ev m1 val1) (hb : Below w.heap.size w w1) (hB : B ≤ w.heap.size) : DTo w w2 B D m val ev m1 val1 :=
  ⟨h.dk, (hb.mono hB).trans h.bel, fun q hq hD hev hm => (h.keep q (Nat.lt_of_lt_of_le hq hb.size) hD hev hm).trans (hb.block q hq), fun q hq hev hm => h.src q (Nat.lt_of_lt_of_le hq hb.size) hev hm⟩
def layR (l : List Int) (n : Nat) (x : Int) : List Int := if n = l.length then l ++ [x] else l.set n x
theorem layR_length {l : List Int} {n : Nat} {x : Int} : (layR l n x).length = if n = l.length then l.length + 1 else l.length := by
  unfold layR; split <;> simp
def takeD (m : ImgD) (s : SlotD) : ImgD := { m with slots := layS m.slots (grabN m.slots) s, refs := layR m.refs (grabN m.slots) 1 }
theorem grab_is {w : World} {v : Value} {L : List SlotD} (h : Slots w v L) (hE : slotsE L = 0) {g : Nat} (hg : grabN L = g) :
    Calls Tryz.prog 94 #[v] w fun r w' => r = .returned (.tuple #[.int .i64 (if g = 40 then 0 else (g : Int)), .int .i64 (if g = 40 then 7 else 0)]) ∧ Below w.heap.size w w' := by
  have h1 := (slotsE_parts hE).1
  refine (grab_ok v L w h hE).mono ?_
  rintro e w' ⟨h | ⟨q, hq, hG, rfl⟩, hb⟩
  · have e40 : g = 40 := by rw [← hg]; exact (grabN_at h1).unique h.1
    rw [if_pos e40, if_pos e40]
    exact ⟨h.2, hb⟩
  · have eg : q = g := by rw [← hg]; exact hG.unique (grabN_at h1)
    subst eg
    rw [if_neg (by omega), if_neg (by omega)]
    exact ⟨rfl, hb⟩

set_option maxHeartbeats 4000000 in
theorem take_full (m : ImgD) (sa : Option Addr) (sn sc : Nat) (k : Int) (d : ByteArray) (ea : Option Addr) (en ec : Nat) (B D : Nat) (val : Nm → Value) (w : World) (hK : DK w B D val m) (e1 : val .slots = .slice sa sn sc) (hs : slotsE m.slots = 0) (hg : grabN m.slots = 40) :
    Calls Tryz.prog 61 #[.pointer (some ⟨D, 0, none⟩), .agg #[.int .i64 k, .string d, .slice ea en ec]] w fun r w' => r = .panicked noSlotP ∧ Below w.heap.size w w' := by
  have hK1 : DK (w.alloc (.cells #[.int .i64 k, .string d, .slice ea en ec] 61)) B D val m := hK.alloc _
  obtain ⟨d0, d1, d2, d3, d4⟩ := hK1.five
  rw [e1] at d2
  have hcall := grab_is hK1.own.img.four.2.1 hs hg
  rw [e1] at hcall
  have b0 : Below w.heap.size w (w.alloc (.cells #[.int .i64 k, .string d, .slice ea en ec] 61)) := (Below.refl _ _).alloc (Nat.le_refl _) _
  clear hg hs
  go_enter Tryz.func61, Tryz.ntmps61
  go_wp2_with (go_at_call 94; refine hcall.mono ?_; rintro e w1 ⟨rfl, b1⟩)
  exact ⟨rfl, rfl, Below.on b0 b1⟩

set_option maxHeartbeats 4000000 in
theorem take_old (m : ImgD) (sg sc : Nat) (fg fc : Nat) (k : Int) (d : ByteArray) (ea : Option Addr) (en ec : Nat) (es : List Int) (g : Nat) (B D : Nat) (val : Nm → Value) (w : World) (hK : DK w B D val m) (hB : B ≤ w.heap.size) (e1 : val .slots = .slice (some ⟨sg, 0, none⟩) m.slots.length sc) (e2 : val .refs = .slice (some ⟨fg, 0, none⟩) m.slots.length fc) (hs : slotsE m.slots = 0) (hg : grabN m.slots = g) (hgl : g < m.slots.length) (hrl : m.refs.length = m.slots.length)
    (he : w.ownsRow B 3 1 (.slice ea en ec) es.length (ints es)) (hfar : Far m val (.tab g) (.slice ea en ec)) (hD : (Value.slice ea en ec).ownBlock ≠ some D) :
    Calls Tryz.prog 61 #[.pointer (some ⟨D, 0, none⟩), .agg #[.int .i64 k, .string d, .slice ea en ec]] w fun r w' => r = .returned (.int .i64 (g : Int)) ∧ ∃ val', DTo w w' B D m val (.slice ea en ec) { m with slots := m.slots.set g (k, d, es), refs := m.refs.set g 1 } val' ∧ val' .root = val .root := by
  have hK1 : DK (w.alloc (.cells #[.int .i64 k, .string d, .slice ea en ec] 61)) B D val m := hK.alloc _
  have h40 := (slotsE_parts hs).2
  obtain ⟨d0, d1, d2, d3, d4⟩ := hK1.five
  rw [e1] at d2
  rw [e2] at d3
  have hcall := grab_is hK1.own.img.four.2.1 hs hg
  rw [e1] at hcall
  have g40 : ¬ g = 40 := by omega
  rw [if_neg g40, if_neg g40] at hcall
  have b0 : Below w.heap.size w (w.alloc (.cells #[.int .i64 k, .string d, .slice ea en ec] 61)) := (Below.refl _ _).alloc (Nat.le_refl _) _
  have mS : (w.alloc (.cells #[.int .i64 k, .string d, .slice ea en ec] 61)).heap[w.heap.size]? = some (.cells #[.int .i64 k, .string d, .slice ea en ec] 61) := World.alloc_heap_new _ _
  have hgi : (g : Int) < (m.slots.length : Int) := by omega
  have hgn : ((g : Int) == (m.slots.length : Int)) = false := by simp; omega
  have hgn' : ¬ (g : Int) = (m.slots.length : Int) := by omega
  clear hg hs
  go_enter Tryz.func61, Tryz.ntmps61
  go_wp2_with (go_at_call 94; refine hcall.mono ?_; rintro e w1 ⟨rfl, b1⟩; have hK2 := hK1.below b1; obtain ⟨i0, i1, i2, i3, i4⟩ := hK2.five; rw [e1] at i2; rw [e2] at i3; have mS1 := cells_below mS b1 (by simp); obtain ⟨s0, s1, s2⟩ := three mS1)
  have hgS : sg < w.heap.size ∧ B ≤ sg := by
    have := (hK.own.row .slots (Live.slots m)).lt sg (by rw [e1]; rfl)
    exact ⟨this.2, this.1⟩
  have hgF : fg < w.heap.size ∧ B ≤ fg := by
    have := (hK.own.row .refs (Live.refs m)).lt fg (by rw [e2]; rfl)
    exact ⟨this.2, this.1⟩
  have hDl := hK.lt
  have nDS : ¬ D = sg := fun e => hK.far .slots (Live.slots m) (by rw [e1, e]; rfl)
  have nDF : ¬ D = fg := fun e => hK.far .refs (Live.refs m) (by rw [e2, e]; rfl)
  have nSD : ¬ sg = D := fun e => nDS e.symm
  have nFD : ¬ fg = D := fun e => nDF e.symm
  have nSF : ¬ sg = fg := fun e => hK.own.apart .slots .refs (Live.slots m) (Live.refs m) (by intro x; cases x) sg (by rw [e1]; rfl) (by rw [e2, e]; rfl)
  have nFS : ¬ fg = sg := fun e => nSF e.symm
  have nWS : ¬ w.heap.size = sg := by omega
  have nSW : ¬ sg = w.heap.size := by omega
  have nWF : ¬ w.heap.size = fg := by omega
  have nFW : ¬ fg = w.heap.size := by omega
  have hT1 := (DTo.refl hK1 (.slice ea en ec)).below (by simp; omega) b1
  have hr1 := hT1.dk.own.row .slots (Live.slots m)
  rw [e1] at hr1
  have hr1 : w1.ownsRow B 61 3 (.slice (some ⟨sg, 0, none⟩) m.slots.length sc) m.slots.length (flatS m.slots (fun j => val (.tab j))) := hr1
  obtain ⟨t0, t1, t2⟩ := flatS_get (L := m.slots) (tv := fun j => val (.tab j)) hgl
  have t0 := (hr1.cellAt (g * 3) (by omega)).trans t0
  have t1 := (hr1.cellAt (g * 3 + 1) (by omega)).trans t1
  have t2 := (hr1.cellAt (g * 3 + 2) (by omega)).trans t2
  have u0 := hr1.frozenAt (g * 3)
  have u1 := hr1.frozenAt (g * 3 + 1)
  have u2 := hr1.frozenAt (g * 3 + 2)
  have hr2 := hT1.dk.own.row .refs (Live.refs m)
  rw [e2] at hr2
  have hr2 : w1.ownsRow B 3 1 (.slice (some ⟨fg, 0, none⟩) m.slots.length fc) m.slots.length (ints m.refs) := by rw [← hrl]; rw [← hrl] at hr2; exact hr2
  have t3 : w1.cell? ⟨fg, g, none⟩ = some (.int .i64 (m.refs.getD g 0)) := by
    refine (hr2.cellAt g (by omega)).trans ?_
    unfold ints
    rw [List.getElem?_map, List.getElem?_eq_getElem (by rw [hrl]; exact hgl)]
    simp [List.getD, hrl, hgl]
  have u3 := hr2.frozenAt g
  clear hr1 hr2 hcall hK1 hK2 mS mS1 d0 d1 d2 d3 d4 i0 i1 i4
  go_region_held3 (fun W => W.cell? ⟨D, 0 + 1 + 1, none⟩ = some (.slice (some ⟨sg, 0, none⟩) m.slots.length sc) ∧ W.cell? ⟨D, 0 + 1 + 1 + 1, none⟩ = some (.slice (some ⟨fg, 0, none⟩) m.slots.length fc) ∧ W.cell? ⟨w.heap.size, 0, none⟩ = some (.int .i64 k) ∧ W.cell? ⟨w.heap.size, 0 + 1, none⟩ = some (.string d) ∧ W.cell? ⟨w.heap.size, 0 + 1 + 1, none⟩ = some (.slice ea en ec)) (first | exact ⟨i2, i3, s0, s1, s2⟩ | go_keep) (fail)
  have hev := row_keep (he.alloc (.cells #[.int .i64 k, .string d, .slice ea en ec] 61)) b1
  have hF := (hT1.setSlot hgl e1 k d es hev hfar hD (fun q e => .inl e)).setRefs (g := fg) (n := m.slots.length) (cap := fc) ((upd_other _ _ (by intro x; cases x)).trans e2) g 1
  have HF : Hid (DTo w ((((w1.setCell ⟨sg, g * 3, none⟩ (.int .i64 k)).setCell ⟨sg, g * 3 + 1, none⟩ (.string d)).setCell ⟨sg, g * 3 + 2, none⟩ (.slice ea en ec)).setCell ⟨fg, g, none⟩ (.int .i64 1)).drew B D m val (.slice ea en ec) { m with slots := m.slots.set g (k, d, es), refs := m.refs.set g 1 } (upd val (.tab g) (.slice ea en ec))) := (hF.drew).pre b0 hB
  clear hF hev hT1
  go_wp2_with fail
  go_ret
  exact ⟨rfl, _, HF.out, upd_other _ _ (by intro x; cases x)⟩
end Go.Proofs.YtehleeibgkpjmafGreat
/- Take: a slot is put behind all. -/
namespace Go.Proofs.YtehleeibgkpjmafGreat
open Go.RowKit Go.Shelf
set_option maxRecDepth 20000

abbrev z3 : List Value := [.int .i64 0, .string ⟨#[]⟩, .slice none 0 0]
abbrev z1 : List Value := [.int .i64 0]
structure TkI (w1 : World) (B : Nat) (sv0 fv0 : Value) (n : Nat) (xs ys : List Value) (sv fv : Value) (cS cR : Bool) (W : World) : Prop where
  bel : Below B w1 W
  bB : B ≤ w1.heap.size
  s : W.ownsRow B 61 3 sv (if cS then n + 1 else n) (if cS then xs ++ z3 else xs)
  r : W.ownsRow B 3 1 fv (if cR then n + 1 else n) (if cR then ys ++ z1 else ys)
  keep : ∀ q, q < w1.heap.size → sv0.ownBlock ≠ some q → fv0.ownBlock ≠ some q → W.heap[q]? = w1.heap[q]?
  sb : sv.ownBlock = sv0.ownBlock ∨ ∀ g, sv.ownBlock = some g → w1.heap.size ≤ g
  fb : fv.ownBlock = fv0.ownBlock ∨ ∀ g, fv.ownBlock = some g → w1.heap.size ≤ g
  ap : ∀ g, sv.ownBlock = some g → fv.ownBlock ≠ some g
theorem TkI.alloc {w1 : World} {B : Nat} {sv0 fv0 : Value} {n : Nat} {xs ys : List Value} {sv fv : Value} {cS cR : Bool} {W : World} (h : TkI w1 B sv0 fv0 n xs ys sv fv cS cR W) (o : Obj) : TkI w1 B sv0 fv0 n xs ys sv fv cS cR (W.alloc o) :=
  ⟨h.bel.alloc (Nat.le_trans h.bB h.bel.size) o, h.bB, h.s.alloc o, h.r.alloc o, fun q hq h1 h2 => (Below.heap_alloc W o q (Nat.lt_of_lt_of_le hq h.bel.size)).trans (h.keep q hq h1 h2), h.sb, h.fb, h.ap⟩
theorem TkI.drew {w1 : World} {B : Nat} {sv0 fv0 : Value} {n : Nat} {xs ys : List Value} {sv fv : Value} {cS cR : Bool} {W : World} (h : TkI w1 B sv0 fv0 n xs ys sv fv cS cR W) : TkI w1 B sv0 fv0 n xs ys sv fv cS cR W.drew :=
  ⟨h.bel.drew, h.bB, h.s.drew, h.r.drew, h.keep, h.sb, h.fb, h.ap⟩
theorem row_type {W : World} {B n size : Nat} {e : TypeId} {v : Value} {xs : List Value} (h : W.ownsRow B e size v n xs) {q : Nat} {A : Array Value} {t : TypeId} (hq : W.heap[q]? = some (.cells A t)) (ht : t ≠ e) : some q ≠ v.ownBlock := fun x => by
  rcases h.2 with ⟨rfl, _⟩ | ⟨g, cap, cur, rfl, _, hg, _⟩
  · cases x
  · have x : q = g := Option.some.inj x
    subst x
    rw [hg] at hq
    simp only [Option.some.injEq, Obj.cells.injEq] at hq
    exact ht hq.2.1.symm
def Kp (W W' : World) (e : TypeId) : Prop := ∀ (q : Nat) (A : Array Value) (t : TypeId), W.heap[q]? = some (.cells A t) → t ≠ e → W'.heap[q]? = some (.cells A t)
theorem kp_grown {W W' : World} {B n size : Nat} {e : TypeId} {v : Value} {xs : List Value} (h : W.ownsRow B e size v n xs) (hg : W.grownBy W' v.ownBlock) : Kp W W' e := fun q _ _ hq ht =>
  (hg.block q (Array.getElem?_eq_some_iff.1 hq).1 (row_type h hq ht)).trans hq
theorem TkI.appS {w1 : World} {B : Nat} {sv0 fv0 : Value} {n : Nat} {xs ys : List Value} {sv fv v' : Value} {cR : Bool} {W W' : World} (h : TkI w1 B sv0 fv0 n xs ys sv fv false cR W) (hg : W.grownBy W' sv.ownBlock) (hr : W'.ownsRow B 61 3 v' (n + 1) (xs ++ z3)) (hb : v'.ownBlock = sv.ownBlock ∨ v'.ownBlock = some W.heap.size) : TkI w1 B sv0 fv0 n xs ys v' fv true cR W' := by
  have hne : fv.ownBlock = none ∨ fv.ownBlock ≠ sv.ownBlock := by
    cases e : fv.ownBlock with
    | none => exact .inl rfl
    | some g => exact .inr (fun x => h.ap g x.symm e)
  have hlt : ∀ g, fv.ownBlock = some g → g < W.heap.size := fun g e => (h.r.lt g e).2
  refine ⟨h.bel.grown hg (Nat.le_trans h.bB h.bel.size) (fun k e => (h.s.lt k e).1), h.bB, hr, h.r.kept hg hne, fun q hq h1 h2 => ?_, ?_, h.fb, ?_⟩
  · refine (hg.block q (Nat.lt_of_lt_of_le hq h.bel.size) (fun e => ?_)).trans (h.keep q hq h1 h2)
    rcases h.sb with x | x
    · exact h1 (x.symm.trans e.symm)
    · have := x q e.symm; omega
  · rcases hb with x | x
    · rw [x]; exact h.sb
    · refine .inr (fun g e => ?_)
      rw [x] at e
      cases e
      exact h.bel.size
  · intro g e
    rcases hb with x | x
    · exact h.ap g (x.symm.trans e)
    · rw [x] at e
      cases e
      intro y
      have := hlt _ y
      omega
theorem TkI.appR {w1 : World} {B : Nat} {sv0 fv0 : Value} {n : Nat} {xs ys : List Value} {sv fv v' : Value} {cS : Bool} {W W' : World} (h : TkI w1 B sv0 fv0 n xs ys sv fv cS false W) (hg : W.grownBy W' fv.ownBlock) (hr : W'.ownsRow B 3 1 v' (n + 1) (ys ++ z1)) (hb : v'.ownBlock = fv.ownBlock ∨ v'.ownBlock = some W.heap.size) : TkI w1 B sv0 fv0 n xs ys sv v' cS true W' := by
  have hne : sv.ownBlock = none ∨ sv.ownBlock ≠ fv.ownBlock := by
    cases e : sv.ownBlock with
    | none => exact .inl rfl
    | some g => exact .inr (fun x => h.ap g e x.symm)
  have hlt : ∀ g, sv.ownBlock = some g → g < W.heap.size := fun g e => (h.s.lt g e).2
  refine ⟨h.bel.grown hg (Nat.le_trans h.bB h.bel.size) (fun k e => (h.r.lt k e).1), h.bB, h.s.kept hg hne, hr, fun q hq h1 h2 => ?_, h.sb, ?_, ?_⟩
  · refine (hg.block q (Nat.lt_of_lt_of_le hq h.bel.size) (fun e => ?_)).trans (h.keep q hq h1 h2)
    rcases h.fb with x | x
    · exact h2 (x.symm.trans e.symm)
    · have := x q e.symm; omega
  · rcases hb with x | x
    · rw [x]; exact h.fb
    · refine .inr (fun g e => ?_)
      rw [x] at e
      cases e
      exact h.bel.size
  · intro g e y
    rcases hb with x | x
    · exact h.ap g e (x.symm.trans y)
    · rw [x] at y
      cases y
      have := hlt _ e
      omega
theorem TkI.sForm {w1 : World} {B : Nat} {sv0 fv0 : Value} {n : Nat} {xs ys : List Value} {sv fv : Value} {cR : Bool} {W : World} (h : TkI w1 B sv0 fv0 n xs ys sv fv true cR W) : ∃ ao cap, sv = .slice ao (n + 1) cap := row_slice h.s
theorem TkI.rForm {w1 : World} {B : Nat} {sv0 fv0 : Value} {n : Nat} {xs ys : List Value} {sv fv : Value} {cS : Bool} {W : World} (h : TkI w1 B sv0 fv0 n xs ys sv fv cS true W) : ∃ ao cap, fv = .slice ao (n + 1) cap := row_slice h.r
theorem cells_at {W : World} {N : Nat} {l : List Value} {t : TypeId} (h : W.heap[N]? = some (.cells l.toArray t)) : ∀ (j : Nat) (u : Value), l[j]? = some u → W.cell? ((⟨N, 0, none⟩ : Addr).add j) = some u := fun j u hu => by
  rw [addr_add, Nat.zero_add]
  simp [World.cell?, h, hu]
theorem step_tkS {w1 : World} {B : Nat} {sv0 fv0 : Value} {n : Nat} {xs ys : List Value} {sv fv : Value} {cR : Bool} {W : World} {ops : Array Oper} {o : Oper} {a : Act} {K : Act → World → Prop} {Q : Exit → Act → World → Prop} {E : Prop} (hgd : o.guard = none) (s x : Operand) (ho : o.op = .call { callee := .builtin .append, args := #[s, x], argTypes := #[24, 24] })
    (TK : TkI w1 B sv0 fv0 n xs ys sv fv false cR W) (hn : n ≤ 40) {N : Nat} (hs : a.eval s = sv) (hx : a.eval x = .slice (some ⟨N, 0, none⟩) 1 1) (hN : W.heap[N]? = some (.cells #[.int .i64 0, .string ⟨#[]⟩, .slice none 0 0] 61))
    (h : ∀ v' w', Hid (TkI w1 B sv0 fv0 n xs ys v' fv true cR w') → Hid (Kp W w' 61) → K (a.put o.dst v') w') : if Region.wanted o (yielded ops a.tmps) = true then Oper.wp Tryz.prog o a W K Q else E := by
  have hw : Region.wanted o (yielded ops a.tmps) = true := by simp [Region.wanted, hgd]
  rw [if_pos hw]
  obtain ⟨i0, hi, hz0, hz1, hz2⟩ := info_parts infoSlot
  obtain ⟨v', w', hr, g2, g3, _, g5⟩ := run_append_own_at (P := Tryz.prog) W B 24 o.type 61 i0 _ 3 48 Tryz.underlying24 hi hz0 hz1 hz2 rfl (by decide) sv n xs TK.s ⟨N, 0, none⟩ 1 1 z3 rfl (cells_at (l := z3) hN) (by intro u hu; simp at hu; rcases hu with rfl | rfl | rfl <;> rfl) (by unfold maxLen; omega) (by omega) (Nat.le_trans TK.bB TK.bel.size)
  unfold Oper.wp execOp
  simp only [ho, resolve, invoke, builtin, Sem.run_bind, Sem.run_pure, Result.andThen_ok, List.map_toArray, List.map_cons, List.map_nil, hs, hx, hr]
  exact h v' w' (TK.appS g3 g2 g5) (kp_grown TK.s g3)
theorem step_tkR {w1 : World} {B : Nat} {sv0 fv0 : Value} {n : Nat} {xs ys : List Value} {sv fv : Value} {cS : Bool} {W : World} {ops : Array Oper} {o : Oper} {a : Act} {K : Act → World → Prop} {Q : Exit → Act → World → Prop} {E : Prop} (hgd : o.guard = none) (s x : Operand) (ho : o.op = .call { callee := .builtin .append, args := #[s, x], argTypes := #[23, 23] })
    (TK : TkI w1 B sv0 fv0 n xs ys sv fv cS false W) (hn : n ≤ 40) {N : Nat} (hs : a.eval s = fv) (hx : a.eval x = .slice (some ⟨N, 0, none⟩) 1 1) (hN : W.heap[N]? = some (.cells #[.int .i64 0] 3))
    (h : ∀ v' w', Hid (TkI w1 B sv0 fv0 n xs ys sv v' cS true w') → Hid (Kp W w' 3) → K (a.put o.dst v') w') : if Region.wanted o (yielded ops a.tmps) = true then Oper.wp Tryz.prog o a W K Q else E := by
  have hw : Region.wanted o (yielded ops a.tmps) = true := by simp [Region.wanted, hgd]
  rw [if_pos hw]
  obtain ⟨i0, hi, hz0, hz1, hz2⟩ := info_parts info3
  obtain ⟨v', w', hr, g2, g3, _, g5⟩ := run_append_own_at (P := Tryz.prog) W B 23 o.type 3 i0 _ 1 8 Tryz.underlying23 hi hz0 hz1 hz2 rfl (by decide) fv n ys TK.r ⟨N, 0, none⟩ 1 1 z1 rfl (cells_at (l := z1) hN) (by intro u hu; simp at hu; subst hu; rfl) (by unfold maxLen; omega) (by omega) (Nat.le_trans TK.bB TK.bel.size)
  unfold Oper.wp execOp
  simp only [ho, resolve, invoke, builtin, Sem.run_bind, Sem.run_pure, Result.andThen_ok, List.map_toArray, List.map_cons, List.map_nil, hs, hx, hr]
  exact h v' w' (TK.appR g3 g2 g5) (kp_grown TK.r g3)
end Go.Proofs.YtehleeibgkpjmafGreat
/- Take: both rows have been put one behind, and the desk tells so. -/
namespace Go.Proofs.YtehleeibgkpjmafGreat
open Go.RowKit Go.Shelf
set_option maxRecDepth 20000

theorem row_blk {W W' : World} {B n size : Nat} {e : TypeId} {v : Value} {xs : List Value} (h : W.ownsRow B e size v n xs) (hb : ∀ g, v.ownBlock = some g → W'.heap[g]? = W.heap[g]?) : W'.ownsRow B e size v n xs := by
  refine ⟨h.1, ?_⟩
  rcases h.2 with hn | ⟨g, cap, cur, hv, hb', hg, rest⟩
  · exact .inl hn
  · exact .inr ⟨g, cap, cur, hv, hb', (hb g (by rw [hv]; rfl)).trans hg, rest⟩
theorem ints_snoc (l : List Int) (x : Int) : ints (l ++ [x]) = ints l ++ [.int .i64 x] := by simp [ints]
theorem DTo.both {w w1 W : World} {B D : Nat} {m : ImgD} {val : Nm → Value} {ev sv fv : Value} (h : DTo w w1 B D m val ev m val) (hr : m.refs.length = m.slots.length) (TK : TkI w1 B (val .slots) (val .refs) m.slots.length (flatS m.slots (fun j => val (.tab j))) (ints m.refs) sv fv true true W) :
    DTo w ((W.setCell ⟨D, 2, none⟩ sv).setCell ⟨D, 3, none⟩ fv) B D m val ev { m with slots := m.slots ++ [(0, ⟨#[]⟩, [])], refs := m.refs ++ [0] } (upd (upd (upd val (.tab m.slots.length) nilV) .slots sv) .refs fv) := by
  have hDw := h.dk.lt
  have hv : ∀ b, b ≠ .slots → b ≠ .refs → b ≠ .tab m.slots.length → upd (upd (upd val (.tab m.slots.length) nilV) .slots sv) .refs fv b = val b := fun b h1 h2 h3 => by rw [upd_other _ _ h2, upd_other _ _ h1, upd_other _ _ h3]
  have hvs : upd (upd (upd val (.tab m.slots.length) nilV) .slots sv) .refs fv .slots = sv := by rw [upd_other _ _ (by intro x; cases x), upd_same]
  have hvf : upd (upd (upd val (.tab m.slots.length) nilV) .slots sv) .refs fv .refs = fv := upd_same _ _ _
  have hvt : upd (upd (upd val (.tab m.slots.length) nilV) .slots sv) .refs fv (.tab m.slots.length) = nilV := by rw [upd_other _ _ (by intro x; cases x), upd_other _ _ (by intro x; cases x), upd_same]
  have hcase : ∀ b, Live { m with slots := m.slots ++ [(0, ⟨#[]⟩, [])], refs := m.refs ++ [0] } b → b = .slots ∨ b = .refs ∨ b = .tab m.slots.length ∨ (Live m b ∧ b ≠ .slots ∧ b ≠ .refs ∧ b ≠ .tab m.slots.length) := fun b hb => by
    rcases hb.cases with rfl | rfl | rfl | rfl | ⟨j, rfl, hj⟩ | ⟨j, rfl, hj⟩
    · exact .inr (.inr (.inr ⟨Live.root m, (by intro x; cases x), (by intro x; cases x), (by intro x; cases x)⟩))
    · exact .inl rfl
    · exact .inr (.inl rfl)
    · exact .inr (.inr (.inr ⟨Live.snaps m, (by intro x; cases x), (by intro x; cases x), (by intro x; cases x)⟩))
    · by_cases e : j = m.slots.length
      · subst e; exact .inr (.inr (.inl rfl))
      · have hj : j < (m.slots ++ [((0 : Int), (⟨#[]⟩ : ByteArray), ([] : List Int))]).length := hj
        rw [List.length_append, List.length_singleton] at hj
        exact .inr (.inr (.inr ⟨Live.tab (by omega), (by intro x; cases x), (by intro x; cases x), (by intro x; injection x with _ x; exact e x)⟩))
    · exact .inr (.inr (.inr ⟨Live.sr hj, (by intro x; cases x), (by intro x; cases x), (by intro x; cases x)⟩))
  have hold : ∀ b, Live m b → b ≠ .slots → b ≠ .refs → ∀ g, (val b).ownBlock = some g → g < w1.heap.size ∧ (val .slots).ownBlock ≠ some g ∧ (val .refs).ownBlock ≠ some g := fun b hb h1 h2 g e =>
    ⟨((h.dk.own.row b hb).lt g e).2, h.dk.own.apart b .slots hb (Live.slots m) h1 g e, h.dk.own.apart b .refs hb (Live.refs m) h2 g e⟩
  have hnotS : ∀ q, q < w1.heap.size → (val .slots).ownBlock ≠ some q → sv.ownBlock ≠ some q := fun q hq hn e => by
    rcases TK.sb with x | x
    · exact hn (x.symm.trans e)
    · have := x q e; omega
  have hnotF : ∀ q, q < w1.heap.size → (val .refs).ownBlock ≠ some q → fv.ownBlock ≠ some q := fun q hq hn e => by
    rcases TK.fb with x | x
    · exact hn (x.symm.trans e)
    · have := x q e; omega
  have hDs := h.dk.far .slots (Live.slots m)
  have hDf := h.dk.far .refs (Live.refs m)
  have hfarD : ∀ b, Live { m with slots := m.slots ++ [(0, ⟨#[]⟩, [])], refs := m.refs ++ [0] } b → (upd (upd (upd val (.tab m.slots.length) nilV) .slots sv) .refs fv b).ownBlock ≠ some D := fun b hb => by
    rcases hcase b hb with rfl | rfl | rfl | ⟨hl, h1, h2, h3⟩
    · rw [hvs]; exact hnotS D hDw hDs
    · rw [hvf]; exact hnotF D hDw hDf
    · rw [hvt]; exact nilV_own _
    · rw [hv b h1 h2 h3]; exact h.dk.far b hl
  have hOW : OI W B (upd (upd (upd val (.tab m.slots.length) nilV) .slots sv) .refs fv) { m with slots := m.slots ++ [(0, ⟨#[]⟩, [])], refs := m.refs ++ [0] } := by
    refine ⟨fun b hb => ?_, fun b c hb hc hne q hq => ?_⟩
    · rcases hcase b hb with rfl | rfl | rfl | ⟨hl, h1, h2, h3⟩
      · rw [hvs]
        have e1 := flatS_snoc m.slots (fun j => val (.tab j)) (fun j => upd (upd (upd val (.tab m.slots.length) nilV) .slots sv) .refs fv (.tab j)) (0, ⟨#[]⟩, []) (fun j hj => hv _ (by intro x; cases x) (by intro x; cases x) (by intro x; injection x with _ x; omega))
        rw [hvt] at e1
        have e2 : rowN { m with slots := m.slots ++ [(0, ⟨#[]⟩, [])], refs := m.refs ++ [0] } .slots = m.slots.length + 1 := by show (m.slots ++ [_]).length = _; simp
        have e1 : rowV { m with slots := m.slots ++ [(0, ⟨#[]⟩, [])], refs := m.refs ++ [0] } (upd (upd (upd val (.tab m.slots.length) nilV) .slots sv) .refs fv) .slots = flatS m.slots (fun j => val (.tab j)) ++ z3 := e1
        rw [e1, e2]
        exact TK.s
      · rw [hvf]
        have e1 : rowV { m with slots := m.slots ++ [(0, ⟨#[]⟩, [])], refs := m.refs ++ [0] } (upd (upd (upd val (.tab m.slots.length) nilV) .slots sv) .refs fv) .refs = ints m.refs ++ z1 := ints_snoc _ _
        have e2 : rowN { m with slots := m.slots ++ [(0, ⟨#[]⟩, [])], refs := m.refs ++ [0] } .refs = m.slots.length + 1 := by show (m.refs ++ [_]).length = _; simp [hr]
        rw [e1, e2]
        exact TK.r
      · rw [hvt]
        have e0 : (m.slots ++ [((0 : Int), (⟨#[]⟩ : ByteArray), ([] : List Int))]).getD m.slots.length default = (0, ⟨#[]⟩, []) := by simp [List.getD]
        have e1 : rowV { m with slots := m.slots ++ [(0, ⟨#[]⟩, [])], refs := m.refs ++ [0] } (upd (upd (upd val (.tab m.slots.length) nilV) .slots sv) .refs fv) (.tab m.slots.length) = [] := by
          show ints ((m.slots ++ [((0 : Int), (⟨#[]⟩ : ByteArray), ([] : List Int))]).getD m.slots.length default).2.2 = _
          rw [e0]; rfl
        have e2 : rowN { m with slots := m.slots ++ [(0, ⟨#[]⟩, [])], refs := m.refs ++ [0] } (.tab m.slots.length) = 0 := by
          show ((m.slots ++ [((0 : Int), (⟨#[]⟩ : ByteArray), ([] : List Int))]).getD m.slots.length default).2.2.length = _
          rw [e0]; rfl
        rw [e1, e2]
        exact World.ownsRow_nil _ _ _ _
      · rw [hv b h1 h2 h3]
        have e1 : rowV { m with slots := m.slots ++ [(0, ⟨#[]⟩, [])], refs := m.refs ++ [0] } (upd (upd (upd val (.tab m.slots.length) nilV) .slots sv) .refs fv) b = rowV m val b ∧ rowN { m with slots := m.slots ++ [(0, ⟨#[]⟩, [])], refs := m.refs ++ [0] } b = rowN m b := by
          rcases hl.cases with rfl | rfl | rfl | rfl | ⟨j, rfl, hj⟩ | ⟨j, rfl, hj⟩
          · exact ⟨rfl, rfl⟩
          · exact absurd rfl h1
          · exact absurd rfl h2
          · refine ⟨?_, rfl⟩
            exact flatN_ext (fun j _ => hv (.sr j) (by intro x; cases x) (by intro x; cases x) (by intro x; cases x))
          · have e : (m.slots ++ [((0 : Int), (⟨#[]⟩ : ByteArray), ([] : List Int))]).getD j default = m.slots.getD j default := by simp [List.getD, List.getElem?_append, hj]
            constructor
            · show ints ((m.slots ++ [((0 : Int), (⟨#[]⟩ : ByteArray), ([] : List Int))]).getD j default).2.2 = _
              rw [e]; rfl
            · show ((m.slots ++ [((0 : Int), (⟨#[]⟩ : ByteArray), ([] : List Int))]).getD j default).2.2.length = _
              rw [e]; rfl
          · exact ⟨rfl, rfl⟩
        rw [e1.1, e1.2]
        exact row_blk (h.dk.own.row b hl) (fun g e => by obtain ⟨x1, x2, x3⟩ := hold b hl h1 h2 g e; exact TK.keep g x1 x2 x3)
    · rcases hcase b hb with rfl | rfl | rfl | ⟨hl, h1, h2, h3⟩
      · rw [hvs] at hq
        rcases hcase c hc with rfl | rfl | rfl | ⟨kl, k1, k2, k3⟩
        · exact absurd rfl hne
        · rw [hvf]; exact TK.ap q hq
        · rw [hvt]; exact nilV_own _
        · rw [hv c k1 k2 k3]
          intro y
          obtain ⟨x1, x2, _⟩ := hold c kl k1 k2 q y
          exact hnotS q x1 x2 hq
      · rw [hvf] at hq
        rcases hcase c hc with rfl | rfl | rfl | ⟨kl, k1, k2, k3⟩
        · rw [hvs]; exact fun y => TK.ap q y hq
        · exact absurd rfl hne
        · rw [hvt]; exact nilV_own _
        · rw [hv c k1 k2 k3]
          intro y
          obtain ⟨x1, _, x3⟩ := hold c kl k1 k2 q y
          exact hnotF q x1 x3 hq
      · rw [hvt] at hq; cases hq
      · rw [hv b h1 h2 h3] at hq
        obtain ⟨x1, x2, x3⟩ := hold b hl h1 h2 q hq
        rcases hcase c hc with rfl | rfl | rfl | ⟨kl, k1, k2, k3⟩
        · rw [hvs]; exact hnotS q x1 x2
        · rw [hvf]; exact hnotF q x1 x3
        · rw [hvt]; exact nilV_own _
        · rw [hv c k1 k2 k3]; exact h.dk.own.apart b c hl kl hne q hq
  have hbox : W.heap[D]? = some (.cells #[.int .i64 m.guest, val .root, val .slots, val .refs, val .snaps] 70) := (TK.keep D hDw hDs hDf).trans h.dk.box
  refine ⟨⟨(hOW.far hfarD).far hfarD, ?_, h.dk.ge, hfarD⟩, ((h.bel.trans TK.bel).setCell h.dk.ge _).setCell h.dk.ge _, fun q hq hqD hev hm => ?_, fun q hq hev hm b hb => ?_⟩
  · rw [hvs, hvf, hv .root (by intro x; cases x) (by intro x; cases x) (by intro x; cases x), hv .snaps (by intro x; cases x) (by intro x; cases x) (by intro x; cases x)]
    exact cells_set (cells_set hbox 2 _) 3 _
  · have hq1 : q < w1.heap.size := Nat.lt_of_lt_of_le hq h.bel.size
    have hs := h.src q hq hev hm
    exact (cells_other (cells_other rfl hqD _ _) hqD _ _).trans ((TK.keep q hq1 (hs .slots (Live.slots m)) (hs .refs (Live.refs m))).trans (h.keep q hq hqD hev hm))
  · have hq1 : q < w1.heap.size := Nat.lt_of_lt_of_le hq h.bel.size
    have hs := h.src q hq hev hm
    rcases hcase b hb with rfl | rfl | rfl | ⟨hl, h1, h2, h3⟩
    · rw [hvs]; exact hnotS q hq1 (hs .slots (Live.slots m))
    · rw [hvf]; exact hnotF q hq1 (hs .refs (Live.refs m))
    · rw [hvt]; exact nilV_own _
    · rw [hv b h1 h2 h3]; exact hs b hl
theorem both_far {w1 W : World} {B : Nat} {m : ImgD} {val : Nm → Value} {ev sv fv : Value} {n : Nat} {xs ys : List Value} {cS cR : Bool} (TK : TkI w1 B (val .slots) (val .refs) n xs ys sv fv cS cR W) (hfar : Far m val (.tab m.slots.length) ev) (hlt : ∀ g, ev.ownBlock = some g → g < w1.heap.size) :
    Far { m with slots := m.slots ++ [(0, ⟨#[]⟩, [])], refs := m.refs ++ [0] } (upd (upd (upd val (.tab m.slots.length) nilV) .slots sv) .refs fv) (.tab m.slots.length) ev := fun b hb hne g hg => by
  have hg1 := hlt g hg
  by_cases h2 : b = .refs
  · subst h2
    rw [upd_same]
    intro e
    rcases TK.fb with x | x
    · exact hfar .refs (Live.refs m) (by intro y; cases y) g hg (x.symm.trans e)
    · have := x g e; omega
  rw [upd_other _ _ h2]
  by_cases h1 : b = .slots
  · subst h1
    rw [upd_same]
    intro e
    rcases TK.sb with x | x
    · exact hfar .slots (Live.slots m) (by intro y; cases y) g hg (x.symm.trans e)
    · have := x g e; omega
  rw [upd_other _ _ h1, upd_other _ _ hne]
  refine hfar b ?_ hne g hg
  rcases hb.cases with rfl | rfl | rfl | rfl | ⟨j, rfl, hj⟩ | ⟨j, rfl, hj⟩
  · exact Live.root m
  · exact absurd rfl h1
  · exact absurd rfl h2
  · exact Live.snaps m
  · have hj : j < (m.slots ++ [((0 : Int), (⟨#[]⟩ : ByteArray), ([] : List Int))]).length := hj
    rw [List.length_append, List.length_singleton] at hj
    refine Live.tab ?_
    rcases Nat.lt_or_ge j m.slots.length with h | h
    · exact h
    · exact absurd (by rw [show j = m.slots.length by omega]) hne
  · exact Live.sr hj
end Go.Proofs.YtehleeibgkpjmafGreat
/- Take: the walk where a slot is put behind all. -/
namespace Go.Proofs.YtehleeibgkpjmafGreat
open Go.RowKit Go.Shelf
set_option maxRecDepth 20000

theorem Hid_mk {p : Prop} (h : p) : Hid p := h
theorem root_cell' {W : World} {B g cap : Nat} {l : List Int} (h : W.ownsRow B 3 1 (.slice (some ⟨g, 0, none⟩) l.length cap) l.length (ints l)) {k : Nat} (hk : k < l.length) : W.cell? ⟨g, k, none⟩ = some (.int .i64 (l.getD k 0)) := by
  refine (h.cellAt k (by omega)).trans ?_
  unfold ints
  rw [List.getElem?_map, List.getElem?_eq_getElem hk]
  simp [List.getD, hk]
theorem hn_a (W : World) (A : Array Value) (t : TypeId) : (W.alloc (.cells A t)).heap[W.heap.size]? = some (.cells A t) := World.alloc_heap_new _ _
theorem hn_b (W : World) (A : Array Value) (t : TypeId) (o : Obj) : ((W.alloc (.cells A t)).alloc o).heap[W.heap.size]? = some (.cells A t) := cells_alloc (World.alloc_heap_new _ _) _
theorem hn_c (W : World) (A : Array Value) (t : TypeId) (o : Obj) : ((W.alloc o).alloc (.cells A t)).heap[W.heap.size + 1]? = some (.cells A t) := by have := World.alloc_heap_new (W.alloc o) (.cells A t); simpa using this
def TkR (w1 : World) (B D : Nat) (sv0 fv0 : Value) (m : ImgD) (val : Nm → Value) (wx : World) : Prop := ∃ (pa : Option Addr) (pc : Nat) (qa : Option Addr) (qc : Nat) (W : World), TkI w1 B sv0 fv0 m.slots.length (flatS m.slots (fun j => val (.tab j))) (ints m.refs) (.slice pa (m.slots.length + 1) pc) (.slice qa (m.slots.length + 1) qc) true true W ∧ wx = (W.setCell ⟨D, 2, none⟩ (.slice pa (m.slots.length + 1) pc)).setCell ⟨D, 3, none⟩ (.slice qa (m.slots.length + 1) qc)

set_option maxHeartbeats 8000000 in
theorem take_new (m : ImgD) (sg sc : Nat) (fg fc : Nat) (k : Int) (d : ByteArray) (ea : Option Addr) (en ec : Nat) (es : List Int) (B D : Nat) (val : Nm → Value) (w : World) (hK : DK w B D val m) (hB : B ≤ w.heap.size) (e1 : val .slots = .slice (some ⟨sg, 0, none⟩) m.slots.length sc) (e2 : val .refs = .slice (some ⟨fg, 0, none⟩) m.slots.length fc) (hs : slotsE m.slots = 0) (hg : grabN m.slots = m.slots.length) (h40 : m.slots.length < 40) (hrl : m.refs.length = m.slots.length)
    (he : w.ownsRow B 3 1 (.slice ea en ec) es.length (ints es)) (hfar : Far m val (.tab m.slots.length) (.slice ea en ec)) (hD : (Value.slice ea en ec).ownBlock ≠ some D) :
    Calls Tryz.prog 61 #[.pointer (some ⟨D, 0, none⟩), .agg #[.int .i64 k, .string d, .slice ea en ec]] w fun r w' => r = .returned (.int .i64 (m.slots.length : Int)) ∧ ∃ val', DTo w w' B D m val (.slice ea en ec) { m with slots := m.slots ++ [(k, d, es)], refs := m.refs ++ [1] } val' ∧ val' .root = val .root := by
  have hK1 : DK (w.alloc (.cells #[.int .i64 k, .string d, .slice ea en ec] 61)) B D val m := hK.alloc _
  obtain ⟨d0, d1, d2, d3, d4⟩ := hK1.five
  rw [e1] at d2
  rw [e2] at d3
  have hcall := grab_is hK1.own.img.four.2.1 hs hg
  rw [e1] at hcall
  have g40 : ¬ m.slots.length = 40 := by omega
  rw [if_neg g40, if_neg g40] at hcall
  have b0 : Below w.heap.size w (w.alloc (.cells #[.int .i64 k, .string d, .slice ea en ec] 61)) := (Below.refl _ _).alloc (Nat.le_refl _) _
  have mS : (w.alloc (.cells #[.int .i64 k, .string d, .slice ea en ec] 61)).heap[w.heap.size]? = some (.cells #[.int .i64 k, .string d, .slice ea en ec] 61) := World.alloc_heap_new _ _
  have hDl := hK.lt
  clear hg hs g40
  go_enter Tryz.func61, Tryz.ntmps61
  go_upto_region 5 with (go_at_call 94; refine hcall.mono ?_; rintro e w1 ⟨rfl, b1⟩; have hK2 := hK1.below b1; obtain ⟨i0, i1, i2, i3, i4⟩ := hK2.five; rw [e1] at i2; rw [e2] at i3; have mS1 := cells_below mS b1 (by simp); obtain ⟨s0, s1, s2⟩ := three mS1)
  have hz1 : B ≤ w1.heap.size := Nat.le_trans hB (Nat.le_trans b0.size b1.size)
  have hrr := hK2.own.row .refs (Live.refs m)
  have hrs := hK2.own.row .slots (Live.slots m)
  have TK : Hid (TkI w1 B (.slice (some ⟨sg, 0, none⟩) m.slots.length sc) (.slice (some ⟨fg, 0, none⟩) m.slots.length fc) m.slots.length (flatS m.slots (fun j => val (.tab j))) (ints m.refs) (.slice (some ⟨sg, 0, none⟩) m.slots.length sc) (.slice (some ⟨fg, 0, none⟩) m.slots.length fc) false false w1) := by
    refine ⟨Below.refl _ _, hz1, ?_, ?_, fun _ _ _ _ => rfl, .inl rfl, .inl rfl, ?_⟩
    · rw [e1] at hrs; exact hrs
    · rw [e2] at hrr
      have hrr : w1.ownsRow B 3 1 (.slice (some ⟨fg, 0, none⟩) m.slots.length fc) m.refs.length (ints m.refs) := hrr
      rw [hrl] at hrr
      exact hrr
    · intro g e
      have := hK2.own.apart .slots .refs (Live.slots m) (Live.refs m) (by intro x; cases x) g (by rw [e1]; exact e)
      rw [e2] at this
      exact this
  have hn40 : m.slots.length ≤ 40 := by omega
  have hDw : D < w1.heap.size := hK2.lt
  have nDS : (Value.slice (some ⟨sg, 0, none⟩) m.slots.length sc).ownBlock ≠ some D := by have := hK.far .slots (Live.slots m); rw [e1] at this; exact this
  have nDF : (Value.slice (some ⟨fg, 0, none⟩) m.slots.length fc).ownBlock ≠ some D := by have := hK.far .refs (Live.refs m); rw [e2] at this; exact this
  have hbD := hK2.box
  rw [e1, e2] at hbD
  have hDc : ∀ sv fv cS cR W, Hid (TkI w1 B (.slice (some ⟨sg, 0, none⟩) m.slots.length sc) (.slice (some ⟨fg, 0, none⟩) m.slots.length fc) m.slots.length (flatS m.slots (fun j => val (.tab j))) (ints m.refs) sv fv cS cR W) → W.cell? ⟨D, 2, none⟩ = some (.slice (some ⟨sg, 0, none⟩) m.slots.length sc) ∧ W.cell? ⟨D, 3, none⟩ = some (.slice (some ⟨fg, 0, none⟩) m.slots.length fc) ∧ W.frozen? ⟨D, 2, none⟩ = false ∧ W.frozen? ⟨D, 3, none⟩ = false ∧ (W.alloc (.cells #[.int .i64 0] 3)).cell? ⟨D, 2, none⟩ = some (.slice (some ⟨sg, 0, none⟩) m.slots.length sc) ∧ (W.alloc (.cells #[.int .i64 0] 3)).cell? ⟨D, 3, none⟩ = some (.slice (some ⟨fg, 0, none⟩) m.slots.length fc) ∧ (W.alloc (.cells #[.int .i64 0, .string ⟨#[]⟩, .slice none 0 0] 61)).cell? ⟨D, 2, none⟩ = some (.slice (some ⟨sg, 0, none⟩) m.slots.length sc) ∧ (W.alloc (.cells #[.int .i64 0, .string ⟨#[]⟩, .slice none 0 0] 61)).cell? ⟨D, 3, none⟩ = some (.slice (some ⟨fg, 0, none⟩) m.slots.length fc) := fun sv fv cS cR W h => by
    have hb := (h.out.keep D hDw nDS nDF).trans hbD
    exact ⟨(five hb).2.2.1, (five hb).2.2.2.1, cells_frozen hb 2, cells_frozen hb 3, (five (cells_alloc hb _)).2.2.1, (five (cells_alloc hb _)).2.2.2.1, (five (cells_alloc hb _)).2.2.1, (five (cells_alloc hb _)).2.2.2.1⟩
  have v02 : (w1.alloc (.cells #[.int .i64 0, .string ⟨#[]⟩, .slice none 0 0] 61)).cell? ⟨D, 2, none⟩ = some (.slice (some ⟨sg, 0, none⟩) m.slots.length sc) := (five (cells_alloc hbD _)).2.2.1
  have v03 : (w1.alloc (.cells #[.int .i64 0, .string ⟨#[]⟩, .slice none 0 0] 61)).cell? ⟨D, 3, none⟩ = some (.slice (some ⟨fg, 0, none⟩) m.slots.length fc) := (five (cells_alloc hbD _)).2.2.2.1
  have v12 : (w1.alloc (.cells #[.int .i64 0] 3)).cell? ⟨D, 2, none⟩ = some (.slice (some ⟨sg, 0, none⟩) m.slots.length sc) := (five (cells_alloc hbD _)).2.2.1
  have v13 : (w1.alloc (.cells #[.int .i64 0] 3)).cell? ⟨D, 3, none⟩ = some (.slice (some ⟨fg, 0, none⟩) m.slots.length fc) := (five (cells_alloc hbD _)).2.2.2.1
  have v22 : ((w1.alloc (.cells #[.int .i64 0, .string ⟨#[]⟩, .slice none 0 0] 61)).alloc (.cells #[.int .i64 0] 3)).cell? ⟨D, 2, none⟩ = some (.slice (some ⟨sg, 0, none⟩) m.slots.length sc) := (five (cells_alloc (cells_alloc hbD _) _)).2.2.1
  have v23 : ((w1.alloc (.cells #[.int .i64 0, .string ⟨#[]⟩, .slice none 0 0] 61)).alloc (.cells #[.int .i64 0] 3)).cell? ⟨D, 3, none⟩ = some (.slice (some ⟨fg, 0, none⟩) m.slots.length fc) := (five (cells_alloc (cells_alloc hbD _) _)).2.2.2.1
  have v32 : ((w1.alloc (.cells #[.int .i64 0] 3)).alloc (.cells #[.int .i64 0, .string ⟨#[]⟩, .slice none 0 0] 61)).cell? ⟨D, 2, none⟩ = some (.slice (some ⟨sg, 0, none⟩) m.slots.length sc) := (five (cells_alloc (cells_alloc hbD _) _)).2.2.1
  have v33 : ((w1.alloc (.cells #[.int .i64 0] 3)).alloc (.cells #[.int .i64 0, .string ⟨#[]⟩, .slice none 0 0] 61)).cell? ⟨D, 3, none⟩ = some (.slice (some ⟨fg, 0, none⟩) m.slots.length fc) := (five (cells_alloc (cells_alloc hbD _) _)).2.2.2.1
  go_cut [] from 7 (fun wx => TkR w1 B D (.slice (some ⟨sg, 0, none⟩) m.slots.length sc) (.slice (some ⟨fg, 0, none⟩) m.slots.length fc) m val wx)
  case first =>
    go_region_law (first
      | (refine step_tkS (by rfl) _ _ (by rfl) TKr.out hn40 (by rfl) (by rfl) ?hN ?_; (case hN => (first | exact KPr.out _ _ _ (hn_b _ _ _ _) (by decide) | exact KPr.out _ _ _ (hn_c _ _ _ _) (by decide) | exact KPr.out _ _ _ (hn_a _ _ _) (by decide))); intro sv2 w3 TKs KPs; obtain ⟨pa, pc, rfl⟩ := TKs.out.sForm; obtain ⟨x2, x3, x4, x5, x6, x7, x8, x9⟩ := hDc _ _ _ _ _ TKs)
      | (refine step_tkS (by rfl) _ _ (by rfl) (TKr.out.alloc _) hn40 (by rfl) (by rfl) ?hN ?_; (case hN => (exact hn_a _ _ _)); intro sv2 w3 TKs KPs; obtain ⟨pa, pc, rfl⟩ := TKs.out.sForm; obtain ⟨x2, x3, x4, x5, x6, x7, x8, x9⟩ := hDc _ _ _ _ _ TKs)
      | (refine step_tkR (by rfl) _ _ (by rfl) TKs.out hn40 (by rfl) (by rfl) ?hN ?_; (case hN => (first | exact KPs.out _ _ _ (hn_b _ _ _ _) (by decide) | exact KPs.out _ _ _ (hn_c _ _ _ _) (by decide) | exact KPs.out _ _ _ (hn_a _ _ _) (by decide))); intro fv2 w3 TKr KPr; obtain ⟨qa, qc, rfl⟩ := TKr.out.rForm; obtain ⟨x2, x3, x4, x5, x6, x7, x8, x9⟩ := hDc _ _ _ _ _ TKr)
      | (refine step_tkR (by rfl) _ _ (by rfl) (TKs.out.alloc _) hn40 (by rfl) (by rfl) ?hN ?_; (case hN => (exact hn_a _ _ _)); intro fv2 w3 TKr KPr; obtain ⟨qa, qc, rfl⟩ := TKr.out.rForm; obtain ⟨x2, x3, x4, x5, x6, x7, x8, x9⟩ := hDc _ _ _ _ _ TKr)
      | (refine step_tkS (by rfl) _ _ (by rfl) ((TK.out.alloc _).drew) hn40 (by rfl) (by rfl) ?hN ?_; (case hN => (first | exact hn_a _ _ _)); intro sv1 w2 TKs KPs; obtain ⟨pa, pc, rfl⟩ := TKs.out.sForm; obtain ⟨y2, y3, y4, y5, y6, y7, y8, y9⟩ := hDc _ _ _ _ _ TKs)
      | (refine step_tkS (by rfl) _ _ (by rfl) (((TK.out.alloc _).alloc _).drew) hn40 (by rfl) (by rfl) ?hN ?_; (case hN => (first | exact hn_b _ _ _ _ | exact hn_c _ _ _ _)); intro sv1 w2 TKs KPs; obtain ⟨pa, pc, rfl⟩ := TKs.out.sForm; obtain ⟨y2, y3, y4, y5, y6, y7, y8, y9⟩ := hDc _ _ _ _ _ TKs)
      | (refine step_tkR (by rfl) _ _ (by rfl) ((TK.out.alloc _).drew) hn40 (by rfl) (by rfl) ?hN ?_; (case hN => (first | exact hn_a _ _ _)); intro fv1 w2 TKr KPr; obtain ⟨qa, qc, rfl⟩ := TKr.out.rForm; obtain ⟨y2, y3, y4, y5, y6, y7, y8, y9⟩ := hDc _ _ _ _ _ TKr)
      | (refine step_tkR (by rfl) _ _ (by rfl) (((TK.out.alloc _).alloc _).drew) hn40 (by rfl) (by rfl) ?hN ?_; (case hN => (first | exact hn_b _ _ _ _ | exact hn_c _ _ _ _)); intro fv1 w2 TKr KPr; obtain ⟨qa, qc, rfl⟩ := TKr.out.rForm; obtain ⟨y2, y3, y4, y5, y6, y7, y8, y9⟩ := hDc _ _ _ _ _ TKr))
    all_goals
      go_wp2_with fail
      go_meet
      exact ⟨_, _, _, _, w3, (by first | exact TKr.out | exact TKs.out), rfl⟩
  case rest =>
  obtain ⟨pa, pc, qa, qc, W, hTK, hwc⟩ := hcut
  have hT1 := ((DTo.refl hK1 (.slice ea en ec)).below (by simp; omega) b1)
  have hTB := hT1.both hrl (by rw [e1, e2]; exact hTK)
  rw [← hwc] at hTB
  obtain ⟨vn, hvn⟩ : ∃ vn, upd (upd (upd val (.tab m.slots.length) nilV) .slots (.slice pa (m.slots.length + 1) pc)) .refs (.slice qa (m.slots.length + 1) qc) = vn := ⟨_, rfl⟩
  rw [hvn] at hTB
  have n1 : vn .slots = .slice pa (m.slots.length + 1) pc := by rw [← hvn, upd_other _ _ (by intro x; cases x), upd_same]
  have n2 : vn .refs = .slice qa (m.slots.length + 1) qc := by rw [← hvn, upd_same]
  have HR : Hid (vn .root = val .root) := by show _ = _; rw [← hvn, upd_other _ _ (by intro x; cases x), upd_other _ _ (by intro x; cases x), upd_other _ _ (by intro x; cases x)]
  have hsl : (m.slots ++ [((0 : Int), (⟨#[]⟩ : ByteArray), ([] : List Int))]).length = m.slots.length + 1 := by simp
  have hrs := hTB.dk.own.row .slots (Live.slots _)
  rw [n1] at hrs
  have hrs : wc.ownsRow B 61 3 (.slice pa (m.slots.length + 1) pc) (m.slots.length + 1) (flatS (m.slots ++ [(0, ⟨#[]⟩, [])]) (fun j => vn (.tab j))) := by rw [← hsl]; rw [← hsl] at hrs; exact hrs
  have hrr := hTB.dk.own.row .refs (Live.refs _)
  rw [n2] at hrr
  have hrfl : (m.refs ++ [(0 : Int)]).length = m.slots.length + 1 := by simp [hrl]
  have hrr : wc.ownsRow B 3 1 (.slice qa (m.slots.length + 1) qc) (m.slots.length + 1) (ints (m.refs ++ [0])) := by rw [← hrfl]; rw [← hrfl] at hrr; exact hrr
  obtain ⟨pg, pc', ep⟩ := row_some hrs
  simp only [Value.slice.injEq] at ep
  obtain ⟨rfl, _, rfl⟩ := ep
  obtain ⟨qg, qc', eq⟩ := row_some hrr
  simp only [Value.slice.injEq] at eq
  obtain ⟨rfl, _, rfl⟩ := eq
  have mS2 : wc.heap[w.heap.size]? = some (.cells #[.int .i64 k, .string d, .slice ea en ec] 61) := hTB.cells (World.alloc_heap_new _ _) (by omega) (fun e => by have := (he.lt _ e).2; omega) (hK.own.lt (Nat.le_refl _))
  obtain ⟨s0, s1, s2⟩ := three mS2
  obtain ⟨j0, j1, j2, j3, j4⟩ := hTB.dk.five
  rw [n1] at j2
  rw [n2] at j3
  obtain ⟨t0, t1, t2⟩ := flatS_get (L := m.slots ++ [((0 : Int), (⟨#[]⟩ : ByteArray), ([] : List Int))]) (tv := fun j => vn (.tab j)) (j := m.slots.length) (by simp)
  have t0 := (hrs.cellAt (m.slots.length * 3) (by omega)).trans t0
  have t1 := (hrs.cellAt (m.slots.length * 3 + 1) (by omega)).trans t1
  have t2 := (hrs.cellAt (m.slots.length * 3 + 2) (by omega)).trans t2
  have u0 := hrs.frozenAt (m.slots.length * 3)
  have u1 := hrs.frozenAt (m.slots.length * 3 + 1)
  have u2 := hrs.frozenAt (m.slots.length * 3 + 2)
  have t3 : wc.cell? ⟨qg, m.slots.length, none⟩ = some (.int .i64 ((m.refs ++ [0]).getD m.slots.length 0)) := root_cell' (by rw [hrfl]; exact hrr) (by rw [hrfl]; omega)
  have u3 := hrr.frozenAt m.slots.length
  have hli : (m.slots.length : Int) < (m.slots.length : Int) + 1 := by omega
  have nDS : ¬ D = pg := fun e => hTB.dk.far .slots (Live.slots _) (by rw [n1, e]; rfl)
  have nDF : ¬ D = qg := fun e => hTB.dk.far .refs (Live.refs _) (by rw [n2, e]; rfl)
  have nSD : ¬ pg = D := fun e => nDS e.symm
  have nFD : ¬ qg = D := fun e => nDF e.symm
  have nSF : ¬ pg = qg := fun e => hTB.dk.own.apart .slots .refs (Live.slots _) (Live.refs _) (by intro x; cases x) pg (by rw [n1]; rfl) (by rw [n2, e]; rfl)
  have nFS : ¬ qg = pg := fun e => nSF e.symm
  have nWS : ¬ w.heap.size = pg := fun e => hTB.src w.heap.size (by simp) (fun e => by have := (he.lt _ e).2; omega) (hK.own.lt (Nat.le_refl _)) .slots (Live.slots _) (by rw [n1, e]; rfl)
  have nWF : ¬ w.heap.size = qg := fun e => hTB.src w.heap.size (by simp) (fun e => by have := (he.lt _ e).2; omega) (hK.own.lt (Nat.le_refl _)) .refs (Live.refs _) (by rw [n2, e]; rfl)
  have nSW : ¬ pg = w.heap.size := fun e => nWS e.symm
  have nFW : ¬ qg = w.heap.size := fun e => nWF e.symm
  have hlt1 : ∀ g, (Value.slice ea en ec).ownBlock = some g → g < w.heap.size := fun g e => (he.lt g e).2
  have hw01 : w.heap.size ≤ w1.heap.size := Nat.le_trans b0.size b1.size
  have hevc : wc.ownsRow B 3 1 (.slice ea en ec) es.length (ints es) := by
    rw [hwc]
    refine ownsRow_setCell_other (ownsRow_setCell_other (row_blk (row_keep (he.alloc (.cells #[.int .i64 k, .string d, .slice ea en ec] 61)) b1) (fun g e => ?_)) hD _) hD _
    have x1 := hfar .slots (Live.slots m) (by intro y; cases y) g e
    have x2 := hfar .refs (Live.refs m) (by intro y; cases y) g e
    rw [e1] at x1
    rw [e2] at x2
    exact hTK.keep g (by have := hlt1 g e; omega) x1 x2
  have hfarc : Far { m with slots := m.slots ++ [(0, ⟨#[]⟩, [])], refs := m.refs ++ [0] } vn (.tab m.slots.length) (.slice ea en ec) := by
    rw [← hvn]
    have hTK' := hTK
    rw [← e1, ← e2] at hTK'
    exact both_far hTK' hfar (fun g e => by have := hlt1 g e; omega)
  have hF := (hTB.setSlot (t := m.slots.length) (by show _ < (m.slots ++ [_]).length; simp) n1 k d es hevc hfarc hD (fun q e => .inl e)).setRefs (g := qg) (n := m.slots.length + 1) (cap := qc) ((upd_other _ _ (by intro x; cases x)).trans n2) m.slots.length 1
  have em : ({ m with slots := (m.slots ++ [((0 : Int), (⟨#[]⟩ : ByteArray), ([] : List Int))]).set m.slots.length (k, d, es), refs := (m.refs ++ [0]).set m.slots.length 1 } : ImgD) = { m with slots := m.slots ++ [(k, d, es)], refs := m.refs ++ [1] } := by
    have x1 : (m.slots ++ [((0 : Int), (⟨#[]⟩ : ByteArray), ([] : List Int))]).set m.slots.length (k, d, es) = m.slots ++ [(k, d, es)] := by simp
    have x2 : (m.refs ++ [(0 : Int)]).set m.slots.length 1 = m.refs ++ [1] := by rw [← hrl]; simp
    rw [x1, x2]
  have hF := hF.drew
  rw [em] at hF
  have HF := Hid_mk (hF.pre b0 hB)
  clear hF hevc hfarc hT1 hTB hTK hwc hvn hrs hrr TK hK1 hK2 hcall mS mS1 mS2 d0 d1 d2 d3 d4 i0 i1 i2 i3 i4 j0 j1 j4 n1 n2 em hsl hrfl hbD hDc
  go_wp2_with fail
  go_region_held3 (fun W => W.cell? ⟨D, 0 + 1 + 1, none⟩ = some (.slice (some ⟨pg, 0, none⟩) (m.slots.length + 1) pc) ∧ W.cell? ⟨D, 0 + 1 + 1 + 1, none⟩ = some (.slice (some ⟨qg, 0, none⟩) (m.slots.length + 1) qc) ∧ W.cell? ⟨w.heap.size, 0, none⟩ = some (.int .i64 k) ∧ W.cell? ⟨w.heap.size, 0 + 1, none⟩ = some (.string d) ∧ W.cell? ⟨w.heap.size, 0 + 1 + 1, none⟩ = some (.slice ea en ec)) (first | exact ⟨j2, j3, s0, s1, s2⟩ | go_keep) (fail)
  go_wp2_with fail
  go_ret
  exact ⟨rfl, _, HF.out, (upd_other _ _ (by intro x; cases x)).trans HR.out⟩
end Go.Proofs.YtehleeibgkpjmafGreat
/- Contract of firstEntries: a list of its own, the first n as they were, 0 behind. -/
namespace Go.Proofs.YtehleeibgkpjmafGreat
open Go.RowKit
set_option maxRecDepth 20000

theorem Tryz.size3 : (Tryz.prog.info? 3).map (·.size) = some 1 := by kernel_rfl

theorem splice_row (xs : List Int) (n : Nat) (h4 : xs.length = 4) (hn : n ≤ 4) :
    splice [Value.int .i64 0, Value.int .i64 0, Value.int .i64 0, Value.int .i64 0] 0 ((xs.take n).map (Value.int .i64)) = (cutR xs n).map (Value.int .i64) := by
  match xs, h4 with
  | [a, b, c, d], _ =>
    match n, hn with
    | 0, _ => rfl
    | 1, _ => rfl
    | 2, _ => rfl
    | 3, _ => rfl
    | 4, _ => rfl

theorem set_row (xs : List Int) (n k : Nat) (h4 : xs.length = 4) (hn : n ≤ k) (hk : k < 4) :
    ((cutR xs n).map (Value.int .i64)).toArray.setIfInBounds k (Value.int .i64 0) = ((cutR xs n).map (Value.int .i64)).toArray := by
  match xs, h4 with
  | [a, b, c, d], _ =>
    match k, hk with
    | 0, _ => match n, hn with
      | 0, _ => rfl
    | 1, _ => match n, hn with
      | 0, _ => rfl
      | 1, _ => rfl
    | 2, _ => match n, hn with
      | 0, _ => rfl
      | 1, _ => rfl
      | 2, _ => rfl
    | 3, _ => match n, hn with
      | 0, _ => rfl
      | 1, _ => rfl
      | 2, _ => rfl
      | 3, _ => rfl

theorem cutR_length (xs : List Int) (n : Nat) (h4 : xs.length = 4) (hn : n ≤ 4) : (cutR xs n).length = 4 := by
  unfold cutR; simp; omega

theorem copy_runs (b off cap n : Nat) (xs : List Int) (w : World) (h4 : xs.length = 4) (hn : n ≤ 4) (hb : b < w.heap.size) (hc : ∀ j, j < 4 → w.cell? ⟨b, off + j, none⟩ = some (.int .i64 (xs.getD j 0))) :
    ∃ W2, (Builtin.copy_ #[23, 23] 3 #[.slice (some ⟨w.heap.size, 0, none⟩) 4 4, .slice (some ⟨b, off, none⟩) n cap]).run Tryz.prog (w.alloc (.cells #[.int .i64 0, .int .i64 0, .int .i64 0, .int .i64 0] 3)) = .ok (.int .i64 n) W2 ∧
      W2.heap[w.heap.size]? = some (.cells ((cutR xs n).map (Value.int .i64)).toArray 3 (0, 0)) ∧ Below w.heap.size w W2 := by
  obtain ⟨X, hX⟩ : ∃ X, X = (xs.take n).map (Value.int .i64) := ⟨_, rfl⟩
  have hXl : X.length = n := by rw [hX]; simp; rw [h4]; omega
  have hsrc : ∀ j v, X[j]? = some v → (w.alloc (.cells #[.int .i64 0, .int .i64 0, .int .i64 0, .int .i64 0] 3)).cell? ((⟨b, off, none⟩ : Addr).add j) = some v := by
    intro j v hj
    have hjn : j < n := by have := (List.getElem?_eq_some_iff.1 hj).1; rw [hXl] at this; exact this
    rw [hX] at hj
    have : v = .int .i64 (xs.getD j 0) := by
      rw [List.getElem?_map, List.getElem?_take, if_pos hjn] at hj
      simp [List.getD, show j < xs.length by omega] at hj ⊢
      exact hj.symm
    rw [this]
    rw [addr_add]
    exact (World.cell?_alloc_past _ _ _ hb).trans (hc j (by omega))
  have hg := heap_alloc_new w (.cells #[.int .i64 0, .int .i64 0, .int .i64 0, .int .i64 0] 3)
  have hrun := run_copy_row (P := Tryz.prog) _ 23 23 3 3 w.heap.size 0 4 4 ⟨b, off, none⟩ n cap _ 3 X Tryz.underlying23 Tryz.size3 hg (by rw [hXl]; exact (Nat.min_eq_left hn).symm) hsrc (by rw [hXl]; simp; omega) (by rw [hX]; exact ints_oneCell _ _)
  refine ⟨_, hrun.trans (by rw [hXl]; rfl), ?_, below_setRow ((Below.refl _ _).alloc (Nat.le_refl _) _) (Nat.le_refl _) _⟩
  rw [setRow_heap _ _ _ _ _ _ hg, hX]
  have := splice_row xs n h4 hn
  unfold splice at this
  rw [← this]
  simp [h4]

set_option maxHeartbeats 400000 in
theorem first_at (b off cap n : Nat) (xs : List Int) (w : World) (h4 : xs.length = 4) (hn : n ≤ 4) (hcap : 4 ≤ cap) (hb : b < w.heap.size) (hc : ∀ j, j < 4 → w.cell? ⟨b, off + j, none⟩ = some (.int .i64 (xs.getD j 0))) :
    Calls Tryz.prog 115 #[.slice (some ⟨b, off, none⟩) 4 cap, .int .i64 n] w fun r w' => ∃ g cap', r = .returned (.slice (some ⟨g, 0, none⟩) 4 cap') ∧ w'.ownsRow w.heap.size 3 1 (.slice (some ⟨g, 0, none⟩) 4 cap') 4 ((cutR xs n).map (.int .i64)) ∧ Below w.heap.size w w' := by
  obtain ⟨W2, hcp, hg2, hB2⟩ := copy_runs b off cap n xs w h4 hn hb hc
  clear hc
  have HL : Hid ((cutR xs n).length = 4) := cutR_length xs n h4 hn
  have HS : Hid (∀ k, n ≤ k → k < 4 → ((cutR xs n).map (Value.int .i64)).toArray.setIfInBounds k (Value.int .i64 0) = ((cutR xs n).map (Value.int .i64)).toArray) := fun k h1 h2 => set_row xs n k h4 h1 h2
  obtain ⟨R, hR⟩ : ∃ R, R = (cutR xs n).map (Value.int .i64) := ⟨_, rfl⟩
  rw [← hR] at hg2 HS ⊢
  have HR : Hid (R = (cutR xs n).map (Value.int .i64)) := hR
  have HG2 : Hid (W2.heap[w.heap.size]? = some (.cells R.toArray 3 (0, 0))) := hg2
  clear hR hg2 h4
  have hmk : ∀ w, (Instr.makeSlice 23 (.int .i64 4) (.int .i64 4)).run Tryz.prog w = .ok (.slice (some ⟨w.heap.size, 0, none⟩) 4 4) (w.alloc (.cells #[.int .i64 0, .int .i64 0, .int .i64 0, .int .i64 0] 3)) := fun _ => by kernel_rfl
  have hn' : (n : Int) ≤ 4 := by omega
  go_enter Tryz.func115, Tryz.ntmps115
  go_wp2
  clear hcp
  go_loopw [6] (fun i wr => ∃ k : Nat, n ≤ k ∧ k ≤ 4 ∧ i = .int .i64 k ∧ wr.heap[w.heap.size]? = some (.cells R.toArray 3 (0, 0)) ∧ Below w.heap.size w wr) (fun i _ => 4 - (intOf i).toNat)
  case atStart => exact ⟨n, Nat.le_refl _, hn, rfl, HG2.out, hB2⟩
  case round =>
    obtain ⟨k, hk1, hk, rfl, hg, hbel⟩ := hrel
    have HG : Hid (wr.heap[w.heap.size]? = some (.cells R.toArray 3 (0, 0))) := hg
    clear hg
    by_cases hlt : k < 4
    · have hfr : wr.frozen? ⟨w.heap.size, k, none⟩ = false := frozen_of_row _ _ _ _ _ HG.out
      obtain ⟨u, hcl⟩ : ∃ u, wr.cell? ⟨w.heap.size, k, none⟩ = some u := by
        rw [cell_of_row _ _ _ _ _ _ HG.out]
        have : k < R.length := by rw [HR.out]; simp; rw [HL.out]; exact hlt
        exact ⟨R[k], by simp [this]⟩
      go_wp2
      go_roundw
      case rel => exact ⟨k + 1, by omega, by omega, by go_num, by rw [heap_setCell_same _ _ _ _ _ _ HG.out, HS.out k hk1 hlt], hbel.setCell (Nat.le_refl _) _⟩
      case measure => simp [intOf]; omega
    · have e4 : k = 4 := by omega
      subst e4
      go_wp2
      go_ret
      exact ⟨w.heap.size, 4, rfl, ⟨by rw [HR.out]; simp; exact HL.out, .inr ⟨w.heap.size, 4, R.toArray, rfl, Nat.le_refl _, HG.out, Nat.le_refl _, by decide, by simp; rw [HR.out]; simp; exact HL.out, by rw [List.take_of_length_le]; rw [HR.out]; simp; rw [HL.out]; exact Nat.le_refl _⟩⟩, hbel⟩
end Go.Proofs.YtehleeibgkpjmafGreat
/- Contracts of With and Cut, and of the document's WithOf and CutOf: the same answers, each in a list of its own. -/
namespace Go.Proofs.YtehleeibgkpjmafGreat
open Go.RowKit
set_option maxRecDepth 20000

theorem first_any (v : Value) (xs : List Int) (n : Int) (w : World) (h : Sl w v xs) (h4 : xs.length = 4) (h0 : 0 ≤ n) (hn : n ≤ 4) :
    Calls Tryz.prog 115 #[v, .int .i64 n] w fun r w' => ∃ g cap', r = .returned (.slice (some ⟨g, 0, none⟩) 4 cap') ∧ w'.ownsRow w.heap.size 3 1 (.slice (some ⟨g, 0, none⟩) 4 cap') 4 ((cutR xs n.toNat).map (.int .i64)) ∧ Below w.heap.size w w' := by
  obtain ⟨b, off, cap, rfl, hcp, hlt, hcell⟩ := h.four h4
  obtain ⟨n, rfl⟩ := Int.eq_ofNat_of_zero_le h0
  rw [Int.toNat_natCast]
  exact first_at b off cap n xs w h4 (by omega) hcp hlt hcell

theorem cutR_all {xs : List Int} (h4 : xs.length = 4) : cutR xs 4 = xs := by unfold cutR; rw [List.take_of_length_le (by omega)]; simp

end Go.Proofs.YtehleeibgkpjmafGreat
