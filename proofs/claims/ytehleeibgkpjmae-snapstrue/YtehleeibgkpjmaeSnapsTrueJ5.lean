/- Texts joined: CpyI, OfI, SnU, ShelfC, SnF, SnG, SnV. -/
import Derived.Test.YtehleeibgkpjmaeSnapsTrueJ4
import Derived.Test.YtehleeibgkpjmaeSnapsTrueJ3
import Derived.Deep.CutRange
import Derived.Defers
import Derived.Recover
import Derived.Shelf.Strings.Builder1
import Derived.Shelf.Strings.Builder2
import Derived.Shelf.Small.Strs
import Derived.Shelf.Strings.BuilderF
import Derived.Shelf.Strings.Prefix
import Derived.Shelf.Bits.Mul64
import Derived.Shelf.Strings.Repeat
import Derived.Test.YtehleeibgkpjmaeProg
import Derived.Test.YtehleeibgkpjmaeSnapsTrueJ1
/- Contract of copied: the walk. -/
namespace Go.Proofs.Ytehleeibgkpjmae
open Go.RowKit Go.Shelf
set_option maxRecDepth 20000

def Cp1 (w : World) (m : ImgD) (sa : Option Addr) (sn sc : Nat) (na : Option Addr) (nn nc : Nat) (wx : World) : Prop := ∃ qa qc ka kc, wx.heap[w.heap.size]? = some (.cells #[.int .i64 m.guest, .slice qa m.root.length qc, .slice sa sn sc, .slice ka m.refs.length kc, .slice na nn nc] 26) ∧ wx.heap[w.heap.size + 1]? = some (.cells #[.int .i64 0, .slice none 0 0, .slice none 0 0, .slice none 0 0, .slice none 0 0] 26) ∧ Below w.heap.size w wx ∧ wx.ownsRow (w.heap.size + 2) 3 1 (.slice qa m.root.length qc) m.root.length (ints m.root) ∧ wx.ownsRow (w.heap.size + 2) 3 1 (.slice ka m.refs.length kc) m.refs.length (ints m.refs) ∧ ∀ q, (Value.slice ka m.refs.length kc).ownBlock = some q → (Value.slice qa m.root.length qc).ownBlock ≠ some q
def Cp2 (w : World) (m : ImgD) (tv qv : Nat → Value) (wx : World) : Prop := ∃ qa qc pa pc ka kc ja jc, wx.heap[w.heap.size]? = some (.cells #[.int .i64 m.guest, .slice qa m.root.length qc, .slice pa m.slots.length pc, .slice ka m.refs.length kc, .slice ja m.snaps.length jc] 26) ∧ wx.heap[w.heap.size + 1]? = some (.cells #[.int .i64 0, .slice none 0 0, .slice none 0 0, .slice none 0 0, .slice none 0 0] 26) ∧ Below w.heap.size w wx ∧ HC wx (w.heap.size + 2) (val4 (.slice qa m.root.length qc) (.slice pa m.slots.length pc) (.slice ka m.refs.length kc) (.slice ja m.snaps.length jc)) m tv qv 0 0
theorem row_apart {W W' : World} {B B' n n' size size' : Nat} {e e' : TypeId} {v v' : Value} {xs xs' : List Value} (h : W.ownsRow B e size v n xs) (h' : W'.ownsRow B' e' size' v' n' xs') (hB : W.heap.size ≤ B') : ∀ q, v'.ownBlock = some q → v.ownBlock ≠ some q := fun q e x => by
  have h1 := (h.lt q x).2
  have h2 := (h'.lt q e).1
  omega
theorem row_keep {W W' : World} {B n size : Nat} {e : TypeId} {v : Value} {xs : List Value} (h : W.ownsRow B e size v n xs) (hb : Below W.heap.size W W') : W'.ownsRow B e size v n xs := by
  refine ⟨h.1, ?_⟩
  rcases h.2 with hn | ⟨g, cap, cur, hv, hb', hg, rest⟩
  · exact .inl hn
  · exact .inr ⟨g, cap, cur, hv, hb', (hb.block g (Array.getElem?_eq_some_iff.1 hg).1).trans hg, rest⟩
theorem row_mono {W : World} {B B' n size : Nat} {e : TypeId} {v : Value} {xs : List Value} (h : W.ownsRow B e size v n xs) (hB : B' ≤ B) : W.ownsRow B' e size v n xs := by
  refine ⟨h.1, ?_⟩
  rcases h.2 with hn | ⟨g, cap, cur, hv, hb', rest⟩
  · exact .inl hn
  · exact .inr ⟨g, cap, cur, hv, Nat.le_trans hB hb', rest⟩

theorem OI.mono {W : World} {B B' : Nat} {val : Nm → Value} {m : ImgD} (h : OI W B val m) (hB : B' ≤ B) : OI W B' val m := ⟨fun a ha => row_mono (h.row a ha) hB, h.apart⟩
structure CpR (w wr : World) (m : ImgD) (tv qv : Nat → Value) (va vb vc vd : Value) (k l : Nat) : Prop where
  own : ∃ val, HC wr (w.heap.size + 2) val m tv qv k l ∧ val .root = va ∧ val .slots = vb ∧ val .refs = vc ∧ val .snaps = vd
  box : wr.heap[w.heap.size]? = some (.cells #[.int .i64 m.guest, va, vb, vc, vd] 26)
  res : wr.heap[w.heap.size + 1]? = some (.cells #[.int .i64 0, .slice none 0 0, .slice none 0 0, .slice none 0 0, .slice none 0 0] 26)
  bel : Below w.heap.size w wr
theorem CpR.below {w wr wr' : World} {m : ImgD} {tv qv : Nat → Value} {va vb vc vd : Value} {k l : Nat} (h : CpR w wr m tv qv va vb vc vd k l) (hb : Below wr.heap.size wr wr') : CpR w wr' m tv qv va vb vc vd k l := by
  obtain ⟨⟨val, hH, e⟩, h1, h2, h3⟩ := h
  exact ⟨⟨val, hH.below hb, e⟩, cells_below h1 hb (Array.getElem?_eq_some_iff.1 h1).1, cells_below h2 hb (Array.getElem?_eq_some_iff.1 h2).1, Below.on h3 hb⟩
theorem CpR.tab {w wr wr' : World} {m : ImgD} {tv qv : Nat → Value} {va vc vd v : Value} {k l g n cap : Nat} (h : CpR w wr m tv qv va (.slice (some ⟨g, 0, none⟩) n cap) vc vd k l) (hb : Below wr.heap.size wr wr') (hr : wr'.ownsRow wr.heap.size 3 1 v (m.slots.getD k default).2.2.length (ints (m.slots.getD k default).2.2)) : CpR w (wr'.setCell ⟨g, k * 3 + 2, none⟩ v) m tv qv va (.slice (some ⟨g, 0, none⟩) n cap) vc vd (k + 1) l := by
  have hk := h.below hb
  obtain ⟨⟨val, hH, e0, e1, e2, e3⟩, h1, h2, h3⟩ := h
  obtain ⟨_, k1, k2, k3⟩ := hk
  have hg := (hH.row .slots (.inl ⟨by decide, rfl⟩)).lt g (by rw [e1]; rfl)
  have hsz : w.heap.size + 2 ≤ wr.heap.size := (Array.getElem?_eq_some_iff.1 h2).1
  refine ⟨⟨upd val (.tab k) v, (hH.below hb).tab e1 (row_mono hr hsz) (fun a ha q hq x => ?_), (upd_other _ _ (by intro x; cases x)).trans e0, (upd_other _ _ (by intro x; cases x)).trans e1, (upd_other _ _ (by intro x; cases x)).trans e2, (upd_other _ _ (by intro x; cases x)).trans e3⟩, cells_other k1 (by omega) _ _, cells_other k2 (by omega) _ _, k3.setCell (by show _ ≤ g; omega) _⟩
  have x1 := ((hH.row a ha).lt q x).2
  have x2 := (hr.lt q hq).1
  omega
theorem CpR.sr {w wr wr' : World} {m : ImgD} {tv qv : Nat → Value} {va vb vc v : Value} {k l g n cap : Nat} (h : CpR w wr m tv qv va vb vc (.slice (some ⟨g, 0, none⟩) n cap) k l) (hb : Below wr.heap.size wr wr') (hr : wr'.ownsRow wr.heap.size 3 1 v (m.snaps.getD l default).2.2.length (ints (m.snaps.getD l default).2.2)) : CpR w (wr'.setCell ⟨g, l * 3 + 2, none⟩ v) m tv qv va vb vc (.slice (some ⟨g, 0, none⟩) n cap) k (l + 1) := by
  have hk := h.below hb
  obtain ⟨⟨val, hH, e0, e1, e2, e3⟩, h1, h2, h3⟩ := h
  obtain ⟨_, k1, k2, k3⟩ := hk
  have hg := (hH.row .snaps (.inl ⟨by decide, rfl⟩)).lt g (by rw [e3]; rfl)
  have hsz : w.heap.size + 2 ≤ wr.heap.size := (Array.getElem?_eq_some_iff.1 h2).1
  refine ⟨⟨upd val (.sr l) v, (hH.below hb).sr e3 (row_mono hr hsz) (fun a ha q hq x => ?_), (upd_other _ _ (by intro x; cases x)).trans e0, (upd_other _ _ (by intro x; cases x)).trans e1, (upd_other _ _ (by intro x; cases x)).trans e2, (upd_other _ _ (by intro x; cases x)).trans e3⟩, cells_other k1 (by omega) _ _, cells_other k2 (by omega) _ _, k3.setCell (by show _ ≤ g; omega) _⟩
  have x1 := ((hH.row a ha).lt q x).2
  have x2 := (hr.lt q hq).1
  omega

set_option maxHeartbeats 4000000 in
theorem copied_at (m : ImgD) (ra : Option Addr) (rn rc : Nat) (sa : Option Addr) (sn sc : Nat) (fa : Option Addr) (fn fc : Nat) (na : Option Addr) (nn nc : Nat) (w : World) (h0 : Sl w (.slice ra rn rc) m.root) (h1 : Slots w (.slice sa sn sc) m.slots) (h2 : Sl w (.slice fa fn fc) m.refs) (h3 : Snaps w (.slice na nn nc) m.snaps) (hF : Fits m) :
    Calls Try.prog 69 #[.agg #[.int .i64 m.guest, .slice ra rn rc, .slice sa sn sc, .slice fa fn fc, .slice na nn nc]] w fun r w' => ∃ val, r = .returned (imgV m.guest val) ∧ OI w' w.heap.size val m ∧ Below w.heap.size w w' := by
  have m0 : ((w.alloc (.cells #[.int .i64 m.guest, .slice ra rn rc, .slice sa sn sc, .slice fa fn fc, .slice na nn nc] 26)).alloc (.cells #[.int .i64 0, .slice none 0 0, .slice none 0 0, .slice none 0 0, .slice none 0 0] 26)).heap[w.heap.size]? = some (.cells #[.int .i64 m.guest, .slice ra rn rc, .slice sa sn sc, .slice fa fn fc, .slice na nn nc] 26) := cells_alloc (World.alloc_heap_new _ _) _
  have mz : ((w.alloc (.cells #[.int .i64 m.guest, .slice ra rn rc, .slice sa sn sc, .slice fa fn fc, .slice na nn nc] 26)).alloc (.cells #[.int .i64 0, .slice none 0 0, .slice none 0 0, .slice none 0 0, .slice none 0 0] 26)).heap[w.heap.size + 1]? = some (.cells #[.int .i64 0, .slice none 0 0, .slice none 0 0, .slice none 0 0, .slice none 0 0] 26) := by have := World.alloc_heap_new (w.alloc (.cells #[.int .i64 m.guest, .slice ra rn rc, .slice sa sn sc, .slice fa fn fc, .slice na nn nc] 26)) (.cells #[.int .i64 0, .slice none 0 0, .slice none 0 0, .slice none 0 0, .slice none 0 0] 26); simpa using this
  obtain ⟨c0, c1, c2, c3, c4⟩ := five m0
  have b0 : Below w.heap.size w ((w.alloc (.cells #[.int .i64 m.guest, .slice ra rn rc, .slice sa sn sc, .slice fa fn fc, .slice na nn nc] 26)).alloc (.cells #[.int .i64 0, .slice none 0 0, .slice none 0 0, .slice none 0 0, .slice none 0 0] 26)) := ((Below.refl _ _).alloc (Nat.le_refl _) _).alloc (by simp) _
  obtain ⟨W0, hW0⟩ : ∃ W0, ((w.alloc (.cells #[.int .i64 m.guest, .slice ra rn rc, .slice sa sn sc, .slice fa fn fc, .slice na nn nc] 26)).alloc (.cells #[.int .i64 0, .slice none 0 0, .slice none 0 0, .slice none 0 0, .slice none 0 0] 26)) = W0 := ⟨_, rfl⟩
  go_enter Try.func69, Try.ntmps69
  go_upto_region 1 with fail
  rw [hW0] at m0 mz c0 c1 c2 c3 c4 b0
  have hz0 : w.heap.size + 2 ≤ W0.heap.size := by rw [← hW0]; simp
  clear hW0
  go_cut [] from 7 (fun wx => Cp1 w m sa sn sc na nn nc wx)
  case first =>
    go_region_with
      (first
        | (go_at_call 33; refine (clone_ints (h0.below (to_drew b0)) hF.root).mono ?_; rintro e w1 ⟨vr, rfl, hr0, bb1⟩; have bb1 := below_drew bb1; have m1 := cells_below m0 bb1 (by omega); have mz1 := cells_below mz bb1 (by omega); obtain ⟨d0, d1, d2, d3, d4⟩ := five m1; obtain ⟨qa, qc, rfl⟩ := row_slice hr0)
        | (go_at_call 33; refine (clone_ints ((h2.below b0).below bb1) hF.refs).mono ?_; rintro e w2 ⟨vf, rfl, hr2, bb2⟩; have m2 := cells_below m1 bb2 (Array.getElem?_eq_some_iff.1 m1).1; have mz2 := cells_below mz1 bb2 (Array.getElem?_eq_some_iff.1 mz1).1; obtain ⟨g0, g1, g2, g3, g4⟩ := five m2; have f1 := cells_frozen m2 1; have f3 := cells_frozen m2 3; obtain ⟨ka, kc, rfl⟩ := row_slice hr2))
    all_goals
      go_wp2_with fail
      go_meet
      have hz1 : w.heap.size + 2 ≤ w1.heap.size := Nat.le_trans hz0 bb1.size
      have hr0' : W0.heap.size = W0.drew.heap.size := rfl
      have hr0a := hr0
      have hr0 := row_mono (row_keep hr0 bb2) (B' := w.heap.size + 2) (by rw [← hr0']; exact hz0)
      have hr2' := row_mono hr2 (B' := w.heap.size + 2) hz1
      refine ⟨qa, qc, ka, kc, ?_, cells_other (cells_other mz2 (by omega) _ _) (by omega) _ _, ((Below.on b0 (Below.on bb1 bb2)).setCell (Nat.le_refl _) _).setCell (Nat.le_refl _) _, ownsRow_setCell_below (ownsRow_setCell_below hr0 (show w.heap.size < w.heap.size + 2 by omega) _) (show w.heap.size < w.heap.size + 2 by omega) _, ownsRow_setCell_below (ownsRow_setCell_below hr2' (show w.heap.size < w.heap.size + 2 by omega) _) (show w.heap.size < w.heap.size + 2 by omega) _, ?_⟩
      · exact cells_set (cells_set m2 1 _) 3 _
      · exact row_apart hr0a hr2 (Nat.le_refl _)
  case rest =>
  obtain ⟨qa, qc, ka, kc, m1, mz1, b1, hr0, hr2, ap⟩ := hcut
  obtain ⟨d0, d1, d2, d3, d4⟩ := five m1
  have hN1 : w.heap.size + 2 ≤ wc.heap.size := (Array.getElem?_eq_some_iff.1 mz1).1
  obtain ⟨tv, htv, hcs⟩ := clone_slots h1 hF.slots
  obtain ⟨qv, hqv, hcn⟩ := clone_snaps h3 hF.snaps
  clear h0 h2 m0 mz c0 c1 c2 c3 c4 b0 hz0
  go_upto_region 2 with fail
  go_cut [] from 15 (fun wx => Cp2 w m tv qv wx)
  case first =>
    go_region_with
      (first
        | (go_at_call 91; refine (hcs _ (to_drew b1)).mono ?_; rintro e w1 ⟨vr, rfl, hr1, bb1⟩; have bb1 := below_drew bb1; have m2 := cells_below m1 bb1 (by omega); have mz2 := cells_below mz1 bb1 (by omega); obtain ⟨g0, g1, g2, g3, g4⟩ := five m2; obtain ⟨pa, pc, rfl⟩ := row_slice hr1)
        | (go_at_call 92; refine (hcn _ (Below.on b1 bb1)).mono ?_; rintro e w2 ⟨vf, rfl, hr3, bb2⟩; have m3 := cells_below m2 bb2 (Array.getElem?_eq_some_iff.1 m2).1; have mz3 := cells_below mz2 bb2 (Array.getElem?_eq_some_iff.1 mz2).1; obtain ⟨i0, i1, i2, i3, i4⟩ := five m3; have f2 := cells_frozen m3 2; have f4 := cells_frozen m3 4; obtain ⟨ja, jc, rfl⟩ := row_slice hr3))
    all_goals
      go_wp2_with fail
      go_meet
      have hz1 : w.heap.size + 2 ≤ w1.heap.size := Nat.le_trans hN1 bb1.size
      have hdz : wc.heap.size = wc.drew.heap.size := rfl
      have bb12 := Below.on bb1 bb2
      have r1' := row_mono (row_keep hr1 bb2) (B' := w.heap.size + 2) (by rw [← hdz]; exact hN1)
      have r3' := row_mono hr3 (B' := w.heap.size + 2) hz1
      have r0' := row_keep hr0 bb12
      have r2' := row_keep hr2 bb12
      have hset : ∀ {B n size : Nat} {e : TypeId} {v : Value} {xs : List Value} {u u' : Value}, w2.ownsRow B e size v n xs → w.heap.size < B → ((w2.setCell ⟨w.heap.size, 2, none⟩ u).setCell ⟨w.heap.size, 4, none⟩ u').ownsRow B e size v n xs := fun h hB => ownsRow_setCell_below (ownsRow_setCell_below h hB _) hB _
      have hbz : Below w.heap.size w ((w2.setCell ⟨w.heap.size, 2, none⟩ (.slice pa m.slots.length pc)).setCell ⟨w.heap.size, 4, none⟩ (.slice ja m.snaps.length jc)) := ((Below.on b1 bb12).setCell (Nat.le_refl _) _).setCell (Nat.le_refl _) _
      have hlt : w.heap.size < w.heap.size + 2 := by omega
      have r0a := row_keep hr0 bb1
      have r2a := row_keep hr2 bb1
      refine ⟨qa, qc, pa, pc, ka, kc, ja, jc, ?_, cells_other (cells_other mz3 (by omega) _ _) (by omega) _ _, hbz, HC.start (hset r0' hlt) (hset r1' hlt) (hset r2' hlt) (hset r3' hlt) (row_apart hr0 hr1 (Nat.le_refl _)) ap (row_apart r0a hr3 (Nat.le_refl _)) (row_apart hr2 hr1 (Nat.le_refl _)) (row_apart hr1 hr3 (Nat.le_refl _)) (row_apart r2a hr3 (Nat.le_refl _))⟩
      exact cells_set (cells_set m3 2 _) 4 _
  case rest =>
  obtain ⟨qa, qc, pa, pc, ka, kc, ja, jc, m2, mz2, b2, hH⟩ := hcut
  have HS : Hid (CpR w wc m tv qv (.slice qa m.root.length qc) (.slice pa m.slots.length pc) (.slice ka m.refs.length kc) (.slice ja m.snaps.length jc) 0 0) := ⟨⟨_, hH, rfl, rfl, rfl, rfl⟩, m2, mz2, b2⟩
  have HT : Hid (∀ j, j < m.slots.length → Sl w (tv j) (m.slots.getD j default).2.2) := htv
  have HQ : Hid (∀ j, j < m.snaps.length → Sl w (qv j) (m.snaps.getD j default).2.2) := hqv
  have HL : Hid (m.slots.length ≤ 9223372036854775807 ∧ m.snaps.length ≤ 9223372036854775807) := ⟨h1.small, h3.small⟩
  obtain ⟨e0, e1, e2, e3, e4⟩ := five m2
  clear hH m2 mz2 b2 htv hqv hcs hcn h1 h3 d0 d1 d2 d3 d4 m1 mz1 b1 hr0 hr2 ap hN1
  go_wp2_with fail
  clear e0 e1 e2 e3 e4
  go_loopw [26] (fun i wr => ∃ k : Nat, k ≤ m.slots.length ∧ i = .int .i64 k ∧ Hid (CpR w wr m tv qv (.slice qa m.root.length qc) (.slice pa m.slots.length pc) (.slice ka m.refs.length kc) (.slice ja m.snaps.length jc) k 0)) (fun i _ => m.slots.length - (intOf i).toNat)
  case atStart => exact ⟨0, Nat.zero_le _, rfl, HS⟩
  case round =>
    obtain ⟨k, hk, rfl, HC⟩ := hrel
    by_cases hlk : k < m.slots.length
    · obtain ⟨g, rfl⟩ : ∃ g, pa = some ⟨g, 0, none⟩ := by
        obtain ⟨⟨val, hH, _, e1, _⟩, _⟩ := HC.out
        have hr := hH.row .slots (.inl ⟨by decide, rfl⟩)
        rw [e1] at hr
        rcases row_form hr with ⟨e, hn⟩ | ⟨g, cap, e, _⟩
        · have hn : m.slots.length = 0 := hn
          omega
        · simp at e; exact ⟨g, e.1⟩
      obtain ⟨s, hs⟩ : ∃ s, s = m.slots.getD k default := ⟨_, rfl⟩
      obtain ⟨kk, dd, tt⟩ := s
      have hSl := HT.out k hlk
      obtain ⟨ta, tc, htv⟩ := hSl.form
      have HSl : Hid (Sl w (.slice ta tt.length tc) tt ∧ tv k = .slice ta tt.length tc) := by rw [← hs] at hSl htv; exact ⟨htv ▸ hSl, htv⟩
      have HK : Hid ((kk, dd, tt) = m.slots.getD k default) := hs
      clear hs hSl htv
      have hki : (k : Int) < (m.slots.length : Int) := by omega
      have hL := HL.out.1
      have hL1 : (k : Int) + 1 ≤ 9223372036854775807 := by omega
      obtain ⟨⟨val, hH, _, e1, _⟩, hbox, hres, hbel⟩ := HC.out
      have hr := hH.row .slots (.inl ⟨by decide, rfl⟩)
      rw [e1] at hr
      have hr : wr.ownsRow (w.heap.size + 2) 72 3 (.slice (some ⟨g, 0, none⟩) m.slots.length pc) m.slots.length (flatS m.slots (fun j => if j < k then val (.tab j) else tv j)) := hr
      have hgl := hr.lt g rfl
      obtain ⟨s0, s1, s2⟩ := flatS_get (L := m.slots) (tv := fun j => if j < k then val (.tab j) else tv j) (j := k) hlk
      rw [← HK.out] at s0 s1
      rw [if_neg (Nat.lt_irrefl k), HSl.out.2] at s2
      have t0 : wr.cell? ⟨g, k * 3, none⟩ = some (.int .i64 kk) := (hr.cellAt (k * 3) (by omega)).trans s0
      have t1 : wr.cell? ⟨g, k * 3 + 1, none⟩ = some (.string dd) := (hr.cellAt (k * 3 + 1) (by omega)).trans s1
      have t2 : wr.cell? ⟨g, k * 3 + 2, none⟩ = some (.slice ta tt.length tc) := (hr.cellAt (k * 3 + 2) (by omega)).trans s2
      have hA := Below.heap_alloc wr (.cells #[.int .i64 kk, .string dd, .slice ta tt.length tc] 72)
      have ba : Below wr.heap.size wr (wr.alloc (.cells #[.int .i64 kk, .string dd, .slice ta tt.length tc] 72)) := (Below.refl _ _).alloc (Nat.le_refl _) _
      have hNr : w.heap.size + 2 ≤ wr.heap.size := (Array.getElem?_eq_some_iff.1 hres).1
      obtain ⟨x0, x1, x2, x3, x4⟩ := five (cells_below hbox ba (by omega))
      have ms : (wr.alloc (.cells #[.int .i64 kk, .string dd, .slice ta tt.length tc] 72)).heap[wr.heap.size]? = some (.cells #[.int .i64 kk, .string dd, .slice ta tt.length tc] 72) := World.alloc_heap_new _ _
      obtain ⟨y0, y1, y2⟩ := three ms
      have hcl := clone_ints (w := (wr.alloc (.cells #[.int .i64 kk, .string dd, .slice ta tt.length tc] 72)).drew) ((HSl.out.1.below hbel).below (to_drew ba)) (by have := hF.tab k hlk; rw [← HK.out] at this; exact this)
      clear hA hH e1 hbox hres hbel hr s0 s1 s2
      go_wp2_with fail
      go_region_with (first | (go_at_call 33; refine hcl.mono ?_; rintro e w1 ⟨vt, rfl, hrt, bt⟩; have bt := below_drew bt; have bw := Below.on ba bt; have hN := HC.out.below bw; obtain ⟨z0, z1, z2, z3, z4⟩ := five hN.box; have HRT : Hid (w1.ownsRow wr.heap.size 3 1 vt tt.length (ints tt)) := row_mono hrt (by show _ ≤ (wr.alloc _).heap.size; simp); obtain ⟨oa, oc, rfl⟩ := row_slice hrt; have q2 := (bw.cell (p := ⟨g, k * 3 + 2, none⟩) hgl.2).trans t2; have qf : w1.frozen? ⟨g, k * 3 + 2, none⟩ = false := by (obtain ⟨⟨val, hH, _, e1, _⟩, _⟩ := hN; have hr := hH.row .slots (.inl ⟨by decide, rfl⟩); rw [e1] at hr; exact hr.frozenAt _)))
      all_goals
        have HN : Hid (CpR w (w1.setCell ⟨g, k * 3 + 2, none⟩ (.slice oa tt.length oc)) m tv qv (.slice qa m.root.length qc) (.slice (some ⟨g, 0, none⟩) m.slots.length pc) (.slice ka m.refs.length kc) (.slice ja m.snaps.length jc) (k + 1) 0) := HC.out.tab bw (by rw [← HK.out]; exact HRT.out)
        go_wp2_with fail
        go_roundw
        case rel => exact ⟨k + 1, by omega, by go_num, HN⟩
        case measure => simp [intOf]; omega
    · have ek : k = m.slots.length := by omega
      subst ek
      obtain ⟨x, hrn⟩ : ∃ X, X = wr := ⟨_, rfl⟩
      subst hrn
      obtain ⟨y0, y1, y2, y3, y4⟩ := five HC.out.box
      go_wp2_with fail
      clear y0 y1 y2 y3 y4
      go_loopw [43] (fun i wr => ∃ l : Nat, l ≤ m.snaps.length ∧ i = .int .i64 l ∧ Hid (CpR w wr m tv qv (.slice qa m.root.length qc) (.slice pa m.slots.length pc) (.slice ka m.refs.length kc) (.slice ja m.snaps.length jc) m.slots.length l)) (fun i _ => m.snaps.length - (intOf i).toNat)
      case atStart => exact ⟨0, Nat.zero_le _, rfl, HC⟩
      case round =>
        obtain ⟨l, hl, rfl, HD⟩ := hrel
        by_cases hll : l < m.snaps.length
        · obtain ⟨g, rfl⟩ : ∃ g, ja = some ⟨g, 0, none⟩ := by
            obtain ⟨⟨val, hH, _, _, _, e3⟩, _⟩ := HD.out
            have hr := hH.row .snaps (.inl ⟨by decide, rfl⟩)
            rw [e3] at hr
            rcases row_form hr with ⟨e, hn⟩ | ⟨g, cap, e, _⟩
            · have hn : m.snaps.length = 0 := hn
              omega
            · simp at e; exact ⟨g, e.1⟩
          obtain ⟨s, hs⟩ : ∃ s, s = m.snaps.getD l default := ⟨_, rfl⟩
          obtain ⟨nm, sg, tt⟩ := s
          have hSl := HQ.out l hll
          obtain ⟨ta, tc, htv⟩ := hSl.form
          have HSl : Hid (Sl w (.slice ta tt.length tc) tt ∧ qv l = .slice ta tt.length tc) := by rw [← hs] at hSl htv; exact ⟨htv ▸ hSl, htv⟩
          have HK : Hid ((nm, sg, tt) = m.snaps.getD l default) := hs
          clear hs hSl htv
          have hki : (l : Int) < (m.snaps.length : Int) := by omega
          have hL := HL.out.2
          have hL1 : (l : Int) + 1 ≤ 9223372036854775807 := by omega
          obtain ⟨⟨val, hH, _, _, _, e3⟩, hbox, hres, hbel⟩ := HD.out
          have hr := hH.row .snaps (.inl ⟨by decide, rfl⟩)
          rw [e3] at hr
          have hr : wr.ownsRow (w.heap.size + 2) 64 3 (.slice (some ⟨g, 0, none⟩) m.snaps.length jc) m.snaps.length (flatN m.snaps (fun j => if j < l then val (.sr j) else qv j)) := hr
          have hgl := hr.lt g rfl
          obtain ⟨s0, s1, s2⟩ := flatN_get (S := m.snaps) (qv := fun j => if j < l then val (.sr j) else qv j) (j := l) hll
          rw [← HK.out] at s0 s1
          rw [if_neg (Nat.lt_irrefl l), HSl.out.2] at s2
          have t0 : wr.cell? ⟨g, l * 3, none⟩ = some (.string nm) := (hr.cellAt (l * 3) (by omega)).trans s0
          have t1 : wr.cell? ⟨g, l * 3 + 1, none⟩ = some (.int .i64 sg) := (hr.cellAt (l * 3 + 1) (by omega)).trans s1
          have t2 : wr.cell? ⟨g, l * 3 + 2, none⟩ = some (.slice ta tt.length tc) := (hr.cellAt (l * 3 + 2) (by omega)).trans s2
          have ba : Below wr.heap.size wr (wr.alloc (.cells #[.string nm, .int .i64 sg, .slice ta tt.length tc] 64)) := (Below.refl _ _).alloc (Nat.le_refl _) _
          have hNr : w.heap.size + 2 ≤ wr.heap.size := (Array.getElem?_eq_some_iff.1 hres).1
          obtain ⟨x0, x1, x2, x3, x4⟩ := five (cells_below hbox ba (by omega))
          have ms : (wr.alloc (.cells #[.string nm, .int .i64 sg, .slice ta tt.length tc] 64)).heap[wr.heap.size]? = some (.cells #[.string nm, .int .i64 sg, .slice ta tt.length tc] 64) := World.alloc_heap_new _ _
          obtain ⟨y0, y1, y2⟩ := three ms
          have hcl := clone_ints (w := (wr.alloc (.cells #[.string nm, .int .i64 sg, .slice ta tt.length tc] 64)).drew) ((HSl.out.1.below hbel).below (to_drew ba)) (by have := hF.sr l hll; rw [← HK.out] at this; exact this)
          clear hH e3 hbox hres hbel hr s0 s1 s2
          go_wp2_with fail
          go_region_with (first | (go_at_call 33; refine hcl.mono ?_; rintro e w1 ⟨vt, rfl, hrt, bt⟩; have bt := below_drew bt; have bw := Below.on ba bt; have hN := HD.out.below bw; obtain ⟨z0, z1, z2, z3, z4⟩ := five hN.box; have HRT : Hid (w1.ownsRow wr.heap.size 3 1 vt tt.length (ints tt)) := row_mono hrt (by show _ ≤ (wr.alloc _).heap.size; simp); obtain ⟨oa, oc, rfl⟩ := row_slice hrt; have q2 := (bw.cell (p := ⟨g, l * 3 + 2, none⟩) hgl.2).trans t2; have qf : w1.frozen? ⟨g, l * 3 + 2, none⟩ = false := by (obtain ⟨⟨val, hH, _, _, _, e3⟩, _⟩ := hN; have hr := hH.row .snaps (.inl ⟨by decide, rfl⟩); rw [e3] at hr; exact hr.frozenAt _)))
          all_goals
            have HN : Hid (CpR w (w1.setCell ⟨g, l * 3 + 2, none⟩ (.slice oa tt.length oc)) m tv qv (.slice qa m.root.length qc) (.slice pa m.slots.length pc) (.slice ka m.refs.length kc) (.slice (some ⟨g, 0, none⟩) m.snaps.length jc) m.slots.length (l + 1)) := HD.out.sr bw (by rw [← HK.out]; exact HRT.out)
            go_wp2_with fail
            go_roundw
            case rel => exact ⟨l + 1, by omega, by go_num, HN⟩
            case measure => simp [intOf]; omega
        · have el : l = m.snaps.length := by omega
          subst el
          obtain ⟨⟨val, hH, e0, e1, e2, e3⟩, hbox, hres, hbel⟩ := HD.out
          obtain ⟨x0, x1, x2, x3, x4⟩ := five hbox
          obtain ⟨z0, z1, z2, z3, z4⟩ := five hres
          have y0 := cells_frozen hres 0
          have y1 := cells_frozen hres 1
          have y2 := cells_frozen hres 2
          have y3 := cells_frozen hres 3
          have y4 := cells_frozen hres 4
          have HF : Hid (OI wr (w.heap.size + 2) val m) := hH.done
          clear hH
          go_wp2_with fail
          have hf : ∀ a, Live m a → (val a).ownBlock ≠ some (w.heap.size + 1) := fun a ha e => by have := ((HF.out.row a ha).lt _ e).1; omega
          have hB1 : w.heap.size ≤ w.heap.size + 1 := Nat.le_succ _
          refine bodyPost_ret (v := .agg #[.int .i64 m.guest, .slice qa m.root.length qc, .slice pa m.slots.length pc, .slice ka m.refs.length kc, .slice ja m.snaps.length jc]) (by simp [results, Try.results69, go_sem, z0, z1, z2, z3, z4]) rfl ⟨val, ?_, OI.mono (((((HF.out.far hf).far hf).far hf).far hf).far hf) (by omega), ((((hbel.setCell hB1 _).setCell hB1 _).setCell hB1 _).setCell hB1 _).setCell hB1 _⟩
          unfold imgV
          rw [e0, e1, e2, e3]
theorem copied_is {w : World} {v : Value} {m : ImgD} (h : Img w v m) (hF : Fits m) :
    Calls Try.prog 69 #[v] w fun r w' => ∃ val, r = .returned (imgV m.guest val) ∧ OI w' w.heap.size val m ∧ Below w.heap.size w w' := by
  obtain ⟨ra, rc, sa, sc, fa, fc, na, nc, rfl, h1, h2, h3, h4⟩ := h.parts
  exact copied_at m ra _ rc sa _ sc fa _ fc na _ nc w h1 h2 h3 h4 hF
end Go.Proofs.Ytehleeibgkpjmae
/- Contract of Of: a copy is turned, and settled; where no slot is left, the panic is caught. -/
namespace Go.Proofs.Ytehleeibgkpjmae
open Go.RowKit Go.Shelf
set_option maxRecDepth 20000

theorem catch_idle (p : Addr) (w : World) :
    CallsD Try.prog 68 #[.pointer (some p)] .returning w fun e u' w' => e = .returned (.tuple #[]) ∧ u' = .returning ∧ w' = w := by
  refine callsD_of_wpS Try.func68 rfl fun c₀ cs hu => ?_
  apply wpS_seq
  apply wpS_region
  simp [wpOpsS, go_sem, recoverD, hu, Try.ntmps68, Exit.thenS]
  refine wpS_of_wp ?_
  simp only [Array.replicate_succ, Array.replicate_zero, List.push_toArray, List.append_toArray, List.nil_append, List.cons_append, List.setIfInBounds_toArray, List.set_cons_zero, List.set_cons_succ]
  go_wp2
  cases c₀
  simp_all [bodyPostS, results, Try.results68]
set_option maxHeartbeats 1000000 in
theorem catch_full (b : Nat) (x : Int) (older : List PanicEntry) (w : World) (hc : w.cell? ⟨b, 0, none⟩ = some (.int .i64 x)) (hz : w.frozen? ⟨b, 0, none⟩ = false) (hb : b < w.heap.size) :
    CallsD Try.prog 68 #[.pointer (some ⟨b, 0, none⟩)] (.panicking ({ v := .iface 94 (.agg #[]), recovered := false } :: older)) w fun e u' w' =>
      e = .returned (.tuple #[]) ∧ u' = .panicking ({ v := .iface 94 (.agg #[]), recovered := true } :: older) ∧ w' = (w.setCell ⟨b, 0, none⟩ (.int .i64 7)).alloc (.cells #[] 94) := by
  have hta : ∀ w, (Instr.typeAssert (.iface 94 (.agg #[])) 20 94 true).run Try.prog w = .ok (.tuple #[.agg #[], .bool true]) w := fun w => by kernel_rfl
  have hcA : (w.alloc (.cells #[] 94)).cell? ⟨b, 0, none⟩ = some (.int .i64 x) := (World.cell?_alloc_past _ _ _ hb).trans hc
  have hbn : ¬ b = w.heap.size := by omega
  refine callsD_of_wpS Try.func68 rfl fun c₀ cs hu => ?_
  apply wpS_seq
  apply wpS_region
  simp [wpOpsS, go_sem, recoverD, hu, Try.ntmps68, Exit.thenS]
  refine wpS_of_wp ?_
  simp only [Array.replicate_succ, Array.replicate_zero, List.push_toArray, List.append_toArray, List.nil_append, List.cons_append, List.setIfInBounds_toArray, List.set_cons_zero, List.set_cons_succ]
  go_wp2
  cases c₀
  simp_all [bodyPostS, results, Try.results68]

abbrev noSlotP : List PanicEntry := [{ v := .iface 94 (.agg #[]), recovered := false }]
def Turns (w : World) (N : Nat) (caps : Array Value) (m : ImgD) (o : Option ImgD) : Prop :=
  ∀ (W : World) (D B : Nat) (val : Nm → Value), Below w.heap.size w W → w.heap.size ≤ B → B ≤ W.heap.size → DK W B D val m →
    Calls Try.prog N (#[.pointer (some ⟨D, 0, none⟩)] ++ caps) W fun r W' => match o with
      | some m' => ∃ val', r = .returned (.tuple #[]) ∧ DTo W W' B D m val nilV m' val'
      | none => r = .panicked noSlotP ∧ Below B W W'
theorem desk_new {w : World} {B : Nat} {val : Nm → Value} {m : ImgD} (h : OI w B val m) (hB : B ≤ w.heap.size) : DK (w.alloc (.cells #[.int .i64 m.guest, val .root, val .slots, val .refs, val .snaps] 61)) B w.heap.size val m :=
  ⟨h.alloc _, World.alloc_heap_new _ _, hB, h.lt (Nat.le_refl _)⟩

set_option maxHeartbeats 4000000 in
theorem of_full (m : ImgD) (ra : Option Addr) (rn rc : Nat) (sa : Option Addr) (sn sc : Nat) (fa : Option Addr) (fn fc : Nat) (na : Option Addr) (nn nc : Nat) (N : Nat) (caps : Array Value) (w : World) (h : Img w (.agg #[.int .i64 m.guest, .slice ra rn rc, .slice sa sn sc, .slice fa fn fc, .slice na nn nc]) m) (hF : Fits m) (hN : ∀ (args : Array Value) (w : World), (callFunc N args).run Try.prog w = .ok (.enter N args) w) (ht : Turns w N caps m none) :
    Calls Try.prog 31 #[.agg #[.int .i64 m.guest, .slice ra rn rc, .slice sa sn sc, .slice fa fn fc, .slice na nn nc], .func (.func N) #[] caps] w (AnsI w w.heap.size imgZ 7) := by
  have hmf : ∀ (fn : Fn) (first cap : Array Value) (w : World), (Instr.makeFunc fn first cap).run Try.prog w = .ok (.func fn first cap) w := fun _ _ _ _ => rfl
  have b0 : Below w.heap.size w (((w.alloc (.cells #[.int .i64 m.guest, .slice ra rn rc, .slice sa sn sc, .slice fa fn fc, .slice na nn nc] 26)).alloc (.cells #[.int .i64 0, .slice none 0 0, .slice none 0 0, .slice none 0 0, .slice none 0 0] 26)).alloc (.cells #[.int .i64 0] 27)) := (((Below.refl _ _).alloc (Nat.le_refl _) _).alloc (by simp) _).alloc (by simp <;> omega) _
  have m0 : (((w.alloc (.cells #[.int .i64 m.guest, .slice ra rn rc, .slice sa sn sc, .slice fa fn fc, .slice na nn nc] 26)).alloc (.cells #[.int .i64 0, .slice none 0 0, .slice none 0 0, .slice none 0 0, .slice none 0 0] 26)).alloc (.cells #[.int .i64 0] 27)).heap[w.heap.size]? = some (.cells #[.int .i64 m.guest, .slice ra rn rc, .slice sa sn sc, .slice fa fn fc, .slice na nn nc] 26) := cells_alloc (cells_alloc (World.alloc_heap_new _ _) _) _
  have m1 : (((w.alloc (.cells #[.int .i64 m.guest, .slice ra rn rc, .slice sa sn sc, .slice fa fn fc, .slice na nn nc] 26)).alloc (.cells #[.int .i64 0, .slice none 0 0, .slice none 0 0, .slice none 0 0, .slice none 0 0] 26)).alloc (.cells #[.int .i64 0] 27)).heap[w.heap.size + 1]? = some (.cells #[.int .i64 0, .slice none 0 0, .slice none 0 0, .slice none 0 0, .slice none 0 0] 26) := cells_alloc (by have := World.alloc_heap_new (w.alloc (.cells #[.int .i64 m.guest, .slice ra rn rc, .slice sa sn sc, .slice fa fn fc, .slice na nn nc] 26)) (.cells #[.int .i64 0, .slice none 0 0, .slice none 0 0, .slice none 0 0, .slice none 0 0] 26); simpa using this) _
  have m2 : (((w.alloc (.cells #[.int .i64 m.guest, .slice ra rn rc, .slice sa sn sc, .slice fa fn fc, .slice na nn nc] 26)).alloc (.cells #[.int .i64 0, .slice none 0 0, .slice none 0 0, .slice none 0 0, .slice none 0 0] 26)).alloc (.cells #[.int .i64 0] 27)).heap[w.heap.size + 1 + 1]? = some (.cells #[.int .i64 0] 27) := by have := World.alloc_heap_new ((w.alloc (.cells #[.int .i64 m.guest, .slice ra rn rc, .slice sa sn sc, .slice fa fn fc, .slice na nn nc] 26)).alloc (.cells #[.int .i64 0, .slice none 0 0, .slice none 0 0, .slice none 0 0, .slice none 0 0] 26)) (.cells #[.int .i64 0] 27); simpa using this
  have hz3 : (((w.alloc (.cells #[.int .i64 m.guest, .slice ra rn rc, .slice sa sn sc, .slice fa fn fc, .slice na nn nc] 26)).alloc (.cells #[.int .i64 0, .slice none 0 0, .slice none 0 0, .slice none 0 0, .slice none 0 0] 26)).alloc (.cells #[.int .i64 0] 27)).heap.size = w.heap.size + 1 + 1 + 1 := by simp
  obtain ⟨c0, c1, c2, c3, c4⟩ := five m0
  have hcp := copied_is (h.below b0) hF
  have HX : Hid (True) := trivial
  clear h
  go_enter_defers Try.func31, Try.ntmps31
  go_wp2_with (go_at_call 69; refine hcp.mono ?_; rintro e w1 ⟨val, rfl, hO, b1⟩; obtain ⟨qa, qc, q0, _⟩ := hO.forms .root (Live.root m); obtain ⟨pa, pc, q1, _⟩ := hO.forms .slots (Live.slots m); obtain ⟨ka, kc, q2, _⟩ := hO.forms .refs (Live.refs m); obtain ⟨ja, jc, q3, _⟩ := hO.forms .snaps (Live.snaps m); unfold imgV; rw [q0, q1, q2, q3])
  have hD := desk_new hO b1.size
  rw [q0, q1, q2, q3] at hD
  have b1' : Below (((w.alloc (.cells #[.int .i64 m.guest, .slice ra rn rc, .slice sa sn sc, .slice fa fn fc, .slice na nn nc] 26)).alloc (.cells #[.int .i64 0, .slice none 0 0, .slice none 0 0, .slice none 0 0, .slice none 0 0] 26)).alloc (.cells #[.int .i64 0] 27)).heap.size (((w.alloc (.cells #[.int .i64 m.guest, .slice ra rn rc, .slice sa sn sc, .slice fa fn fc, .slice na nn nc] 26)).alloc (.cells #[.int .i64 0, .slice none 0 0, .slice none 0 0, .slice none 0 0, .slice none 0 0] 26)).alloc (.cells #[.int .i64 0] 27)) (w1.alloc (.cells #[.int .i64 m.guest, .slice qa (rowN m .root) qc, .slice pa (rowN m .slots) pc, .slice ka (rowN m .refs) kc, .slice ja (rowN m .snaps) jc] 61)) := b1.alloc b1.size _
  have hbw := Below.on b0 b1'
  refine (ht _ _ _ _ hbw b0.size b1'.size hD).mono ?_
  rintro e w2 ⟨rfl, b2⟩
  dsimp only
  have b3 := b1'.trans b2
  have k1 := cells_below m1 b3 (by rw [hz3]; omega)
  have k2 := cells_below m2 b3 (by rw [hz3]; omega)
  have b4 : Below w.heap.size w w2 := b0.trans (b3.mono (by rw [hz3]; omega))
  obtain ⟨z0, z1, z2, z3, z4⟩ := five k1
  have ce : w2.cell? ⟨w.heap.size + 1 + 1, 0, none⟩ = some (.int .i64 0) := by simp [World.cell?, k2]
  have ne : ¬ w.heap.size + 1 = w.heap.size + 1 + 1 := by omega
  have hlt : w.heap.size + 1 + 1 < w2.heap.size := (Array.getElem?_eq_some_iff.1 k2).1
  have hlt1 : w.heap.size + 1 < w2.heap.size := by omega
  refine leaves_cons (f := 68) (args := #[.pointer (some ⟨w.heap.size + 1 + 1, 0, none⟩)]) (by simp) (by simp [go_sem]) ?_
  refine (catch_full (w.heap.size + 1 + 1) 0 [] w2 ce (cells_frozen k2 0) hlt).mono ?_
  rintro e u' w'' ⟨rfl, rfl, rfl⟩
  have k3 : ((w2.setCell ⟨w.heap.size + 1 + 1, 0, none⟩ (.int .i64 7)).alloc (.cells #[] 94)).heap[w.heap.size + 1]? = some (.cells #[.int .i64 0, .slice none 0 0, .slice none 0 0, .slice none 0 0, .slice none 0 0] 26) := cells_alloc (cells_other k1 ne _ _) _
  have k4 : ((w2.setCell ⟨w.heap.size + 1 + 1, 0, none⟩ (.int .i64 7)).alloc (.cells #[] 94)).heap[w.heap.size + 1 + 1]? = some (.cells #[.int .i64 7] 27) := cells_alloc (cells_set k2 0 _) _
  obtain ⟨z0, z1, z2, z3, z4⟩ := five k3
  have ce : ((w2.setCell ⟨w.heap.size + 1 + 1, 0, none⟩ (.int .i64 7)).alloc (.cells #[] 94)).cell? ⟨w.heap.size + 1 + 1, 0, none⟩ = some (.int .i64 7) := by simp only [World.cell?, k4]; rfl
  refine ⟨_, ?_, AnsI.bad 7 ((b4.setCell (by show _ ≤ w.heap.size + 1 + 1; omega) _).alloc (by simp [World.setCell]; have := b4.size; omega) _)⟩
  clear k3 k4
  generalize (w2.setCell ⟨w.heap.size + 1 + 1, 0, none⟩ (.int .i64 7)).alloc (.cells #[] 94) = Wf at z0 z1 z2 z3 z4 ce ⊢
  simp [results, Try.results31, go_sem, z0, z1, z2, z3, z4, ce]
set_option maxHeartbeats 4000000 in
theorem of_bad (m M : ImgD) (ra : Option Addr) (rn rc : Nat) (sa : Option Addr) (sn sc : Nat) (fa : Option Addr) (fn fc : Nat) (na : Option Addr) (nn nc : Nat) (N : Nat) (caps : Array Value) (w : World) (h : Img w (.agg #[.int .i64 m.guest, .slice ra rn rc, .slice sa sn sc, .slice fa fn fc, .slice na nn nc]) m) (hF : Fits m) (hN : ∀ (args : Array Value) (w : World), (callFunc N args).run Try.prog w = .ok (.enter N args) w) (ht : Turns w N caps m (some M)) (E : Int) (hE : shapeE M = E) (hne : E ≠ 0) :
    Calls Try.prog 31 #[.agg #[.int .i64 m.guest, .slice ra rn rc, .slice sa sn sc, .slice fa fn fc, .slice na nn nc], .func (.func N) #[] caps] w (AnsI w w.heap.size imgZ E) := by
  have hmf : ∀ (fn : Fn) (first cap : Array Value) (w : World), (Instr.makeFunc fn first cap).run Try.prog w = .ok (.func fn first cap) w := fun _ _ _ _ => rfl
  have b0 : Below w.heap.size w (((w.alloc (.cells #[.int .i64 m.guest, .slice ra rn rc, .slice sa sn sc, .slice fa fn fc, .slice na nn nc] 26)).alloc (.cells #[.int .i64 0, .slice none 0 0, .slice none 0 0, .slice none 0 0, .slice none 0 0] 26)).alloc (.cells #[.int .i64 0] 27)) := (((Below.refl _ _).alloc (Nat.le_refl _) _).alloc (by simp) _).alloc (by simp <;> omega) _
  have m0 : (((w.alloc (.cells #[.int .i64 m.guest, .slice ra rn rc, .slice sa sn sc, .slice fa fn fc, .slice na nn nc] 26)).alloc (.cells #[.int .i64 0, .slice none 0 0, .slice none 0 0, .slice none 0 0, .slice none 0 0] 26)).alloc (.cells #[.int .i64 0] 27)).heap[w.heap.size]? = some (.cells #[.int .i64 m.guest, .slice ra rn rc, .slice sa sn sc, .slice fa fn fc, .slice na nn nc] 26) := cells_alloc (cells_alloc (World.alloc_heap_new _ _) _) _
  have m1 : (((w.alloc (.cells #[.int .i64 m.guest, .slice ra rn rc, .slice sa sn sc, .slice fa fn fc, .slice na nn nc] 26)).alloc (.cells #[.int .i64 0, .slice none 0 0, .slice none 0 0, .slice none 0 0, .slice none 0 0] 26)).alloc (.cells #[.int .i64 0] 27)).heap[w.heap.size + 1]? = some (.cells #[.int .i64 0, .slice none 0 0, .slice none 0 0, .slice none 0 0, .slice none 0 0] 26) := cells_alloc (by have := World.alloc_heap_new (w.alloc (.cells #[.int .i64 m.guest, .slice ra rn rc, .slice sa sn sc, .slice fa fn fc, .slice na nn nc] 26)) (.cells #[.int .i64 0, .slice none 0 0, .slice none 0 0, .slice none 0 0, .slice none 0 0] 26); simpa using this) _
  have m2 : (((w.alloc (.cells #[.int .i64 m.guest, .slice ra rn rc, .slice sa sn sc, .slice fa fn fc, .slice na nn nc] 26)).alloc (.cells #[.int .i64 0, .slice none 0 0, .slice none 0 0, .slice none 0 0, .slice none 0 0] 26)).alloc (.cells #[.int .i64 0] 27)).heap[w.heap.size + 1 + 1]? = some (.cells #[.int .i64 0] 27) := by have := World.alloc_heap_new ((w.alloc (.cells #[.int .i64 m.guest, .slice ra rn rc, .slice sa sn sc, .slice fa fn fc, .slice na nn nc] 26)).alloc (.cells #[.int .i64 0, .slice none 0 0, .slice none 0 0, .slice none 0 0, .slice none 0 0] 26)) (.cells #[.int .i64 0] 27); simpa using this
  have hz3 : (((w.alloc (.cells #[.int .i64 m.guest, .slice ra rn rc, .slice sa sn sc, .slice fa fn fc, .slice na nn nc] 26)).alloc (.cells #[.int .i64 0, .slice none 0 0, .slice none 0 0, .slice none 0 0, .slice none 0 0] 26)).alloc (.cells #[.int .i64 0] 27)).heap.size = w.heap.size + 1 + 1 + 1 := by simp
  obtain ⟨c0, c1, c2, c3, c4⟩ := five m0
  have hcp := copied_is (h.below b0) hF
  have HX : Hid (shapeE M = E ∧ E ≠ 0) := ⟨hE, hne⟩
  clear h hE hne
  go_enter_defers Try.func31, Try.ntmps31
  go_wp2_with (go_at_call 69; refine hcp.mono ?_; rintro e w1 ⟨val, rfl, hO, b1⟩; obtain ⟨qa, qc, q0, _⟩ := hO.forms .root (Live.root m); obtain ⟨pa, pc, q1, _⟩ := hO.forms .slots (Live.slots m); obtain ⟨ka, kc, q2, _⟩ := hO.forms .refs (Live.refs m); obtain ⟨ja, jc, q3, _⟩ := hO.forms .snaps (Live.snaps m); unfold imgV; rw [q0, q1, q2, q3])
  have hD := desk_new hO b1.size
  rw [q0, q1, q2, q3] at hD
  have b1' : Below (((w.alloc (.cells #[.int .i64 m.guest, .slice ra rn rc, .slice sa sn sc, .slice fa fn fc, .slice na nn nc] 26)).alloc (.cells #[.int .i64 0, .slice none 0 0, .slice none 0 0, .slice none 0 0, .slice none 0 0] 26)).alloc (.cells #[.int .i64 0] 27)).heap.size (((w.alloc (.cells #[.int .i64 m.guest, .slice ra rn rc, .slice sa sn sc, .slice fa fn fc, .slice na nn nc] 26)).alloc (.cells #[.int .i64 0, .slice none 0 0, .slice none 0 0, .slice none 0 0, .slice none 0 0] 26)).alloc (.cells #[.int .i64 0] 27)) (w1.alloc (.cells #[.int .i64 m.guest, .slice qa (rowN m .root) qc, .slice pa (rowN m .slots) pc, .slice ka (rowN m .refs) kc, .slice ja (rowN m .snaps) jc] 61)) := b1.alloc b1.size _
  have hbw := Below.on b0 b1'
  refine (ht _ _ _ _ hbw b0.size b1'.size hD).mono ?_
  rintro e w2 ⟨val2, rfl, hT⟩
  dsimp only
  have b3 := b1'.trans hT.bel
  have k1 := cells_below m1 b3 (by rw [hz3]; omega)
  have k2 := cells_below m2 b3 (by rw [hz3]; omega)
  have b4 : Below w.heap.size w w2 := b0.trans (b3.mono (by rw [hz3]; omega))
  have hcall := settled_bad hT.dk HX.out.1 HX.out.2
  clear hT hD
  go_wp2_with (go_at_call 70; refine hcall.mono ?_; rintro e w3 ⟨rfl, b5⟩; have r1 := cells_below k1 b5 (Array.getElem?_eq_some_iff.1 k1).1; have r2 := cells_below k2 b5 (Array.getElem?_eq_some_iff.1 k2).1; obtain ⟨z0, z1, z2, z3, z4⟩ := five r1; have y0 := cells_frozen r1 0; have y1 := cells_frozen r1 1; have y2 := cells_frozen r1 2; have y3 := cells_frozen r1 3; have y4 := cells_frozen r1 4; have x0 := cells_frozen r2 0; have ce : w3.cell? ⟨w.heap.size + 1 + 1, 0, none⟩ = some (.int .i64 0) := by simp [World.cell?, r2])
  refine leaves_cons (f := 68) (args := #[.pointer (some ⟨w.heap.size + 1 + 1, 0, none⟩)]) (by simp) (by simp [go_sem]) ?_
  refine (catch_idle ⟨w.heap.size + 1 + 1, 0, none⟩ _).mono ?_
  rintro e u' w'' ⟨rfl, rfl, rfl⟩
  have b6 := Below.on b4 b5
  have i1 : w.heap.size ≤ w.heap.size + 1 := Nat.le_succ _
  have i2 : w.heap.size ≤ w.heap.size + 1 + 1 := by omega
  refine ⟨_, ?_, AnsI.bad E ((((((b6.setCell i1 _).setCell i1 _).setCell i1 _).setCell i1 _).setCell i1 _).setCell i2 _)⟩
  simp [results, Try.results31, go_sem, z0, z1, z2, z3, z4, ce]
set_option maxHeartbeats 4000000 in
theorem of_ok (m M : ImgD) (ra : Option Addr) (rn rc : Nat) (sa : Option Addr) (sn sc : Nat) (fa : Option Addr) (fn fc : Nat) (na : Option Addr) (nn nc : Nat) (N : Nat) (caps : Array Value) (w : World) (h : Img w (.agg #[.int .i64 m.guest, .slice ra rn rc, .slice sa sn sc, .slice fa fn fc, .slice na nn nc]) m) (hF : Fits m) (hN : ∀ (args : Array Value) (w : World), (callFunc N args).run Try.prog w = .ok (.enter N args) w) (ht : Turns w N caps m (some M)) (hE : shapeE M = 0) :
    Calls Try.prog 31 #[.agg #[.int .i64 m.guest, .slice ra rn rc, .slice sa sn sc, .slice fa fn fc, .slice na nn nc], .func (.func N) #[] caps] w (AnsI w w.heap.size (countedD M) 0) := by
  have hmf : ∀ (fn : Fn) (first cap : Array Value) (w : World), (Instr.makeFunc fn first cap).run Try.prog w = .ok (.func fn first cap) w := fun _ _ _ _ => rfl
  have b0 : Below w.heap.size w (((w.alloc (.cells #[.int .i64 m.guest, .slice ra rn rc, .slice sa sn sc, .slice fa fn fc, .slice na nn nc] 26)).alloc (.cells #[.int .i64 0, .slice none 0 0, .slice none 0 0, .slice none 0 0, .slice none 0 0] 26)).alloc (.cells #[.int .i64 0] 27)) := (((Below.refl _ _).alloc (Nat.le_refl _) _).alloc (by simp) _).alloc (by simp <;> omega) _
  have m0 : (((w.alloc (.cells #[.int .i64 m.guest, .slice ra rn rc, .slice sa sn sc, .slice fa fn fc, .slice na nn nc] 26)).alloc (.cells #[.int .i64 0, .slice none 0 0, .slice none 0 0, .slice none 0 0, .slice none 0 0] 26)).alloc (.cells #[.int .i64 0] 27)).heap[w.heap.size]? = some (.cells #[.int .i64 m.guest, .slice ra rn rc, .slice sa sn sc, .slice fa fn fc, .slice na nn nc] 26) := cells_alloc (cells_alloc (World.alloc_heap_new _ _) _) _
  have m1 : (((w.alloc (.cells #[.int .i64 m.guest, .slice ra rn rc, .slice sa sn sc, .slice fa fn fc, .slice na nn nc] 26)).alloc (.cells #[.int .i64 0, .slice none 0 0, .slice none 0 0, .slice none 0 0, .slice none 0 0] 26)).alloc (.cells #[.int .i64 0] 27)).heap[w.heap.size + 1]? = some (.cells #[.int .i64 0, .slice none 0 0, .slice none 0 0, .slice none 0 0, .slice none 0 0] 26) := cells_alloc (by have := World.alloc_heap_new (w.alloc (.cells #[.int .i64 m.guest, .slice ra rn rc, .slice sa sn sc, .slice fa fn fc, .slice na nn nc] 26)) (.cells #[.int .i64 0, .slice none 0 0, .slice none 0 0, .slice none 0 0, .slice none 0 0] 26); simpa using this) _
  have m2 : (((w.alloc (.cells #[.int .i64 m.guest, .slice ra rn rc, .slice sa sn sc, .slice fa fn fc, .slice na nn nc] 26)).alloc (.cells #[.int .i64 0, .slice none 0 0, .slice none 0 0, .slice none 0 0, .slice none 0 0] 26)).alloc (.cells #[.int .i64 0] 27)).heap[w.heap.size + 1 + 1]? = some (.cells #[.int .i64 0] 27) := by have := World.alloc_heap_new ((w.alloc (.cells #[.int .i64 m.guest, .slice ra rn rc, .slice sa sn sc, .slice fa fn fc, .slice na nn nc] 26)).alloc (.cells #[.int .i64 0, .slice none 0 0, .slice none 0 0, .slice none 0 0, .slice none 0 0] 26)) (.cells #[.int .i64 0] 27); simpa using this
  have hz3 : (((w.alloc (.cells #[.int .i64 m.guest, .slice ra rn rc, .slice sa sn sc, .slice fa fn fc, .slice na nn nc] 26)).alloc (.cells #[.int .i64 0, .slice none 0 0, .slice none 0 0, .slice none 0 0, .slice none 0 0] 26)).alloc (.cells #[.int .i64 0] 27)).heap.size = w.heap.size + 1 + 1 + 1 := by simp
  obtain ⟨c0, c1, c2, c3, c4⟩ := five m0
  have hcp := copied_is (h.below b0) hF
  have HX : Hid (shapeE M = 0) := hE
  clear h hE
  go_enter_defers Try.func31, Try.ntmps31
  go_wp2_with (go_at_call 69; refine hcp.mono ?_; rintro e w1 ⟨val, rfl, hO, b1⟩; obtain ⟨qa, qc, q0, _⟩ := hO.forms .root (Live.root m); obtain ⟨pa, pc, q1, _⟩ := hO.forms .slots (Live.slots m); obtain ⟨ka, kc, q2, _⟩ := hO.forms .refs (Live.refs m); obtain ⟨ja, jc, q3, _⟩ := hO.forms .snaps (Live.snaps m); unfold imgV; rw [q0, q1, q2, q3])
  have hD := desk_new hO b1.size
  rw [q0, q1, q2, q3] at hD
  have b1' : Below (((w.alloc (.cells #[.int .i64 m.guest, .slice ra rn rc, .slice sa sn sc, .slice fa fn fc, .slice na nn nc] 26)).alloc (.cells #[.int .i64 0, .slice none 0 0, .slice none 0 0, .slice none 0 0, .slice none 0 0] 26)).alloc (.cells #[.int .i64 0] 27)).heap.size (((w.alloc (.cells #[.int .i64 m.guest, .slice ra rn rc, .slice sa sn sc, .slice fa fn fc, .slice na nn nc] 26)).alloc (.cells #[.int .i64 0, .slice none 0 0, .slice none 0 0, .slice none 0 0, .slice none 0 0] 26)).alloc (.cells #[.int .i64 0] 27)) (w1.alloc (.cells #[.int .i64 m.guest, .slice qa (rowN m .root) qc, .slice pa (rowN m .slots) pc, .slice ka (rowN m .refs) kc, .slice ja (rowN m .snaps) jc] 61)) := b1.alloc b1.size _
  have hbw := Below.on b0 b1'
  refine (ht _ _ _ _ hbw b0.size b1'.size hD).mono ?_
  rintro e w2 ⟨val2, rfl, hT⟩
  dsimp only
  have b3 := b1'.trans hT.bel
  have k1 := cells_below m1 b3 (by rw [hz3]; omega)
  have k2 := cells_below m2 b3 (by rw [hz3]; omega)
  have b4 : Below w.heap.size w w2 := b0.trans (b3.mono (by rw [hz3]; omega))
  have hcall := settled_ok hT.dk (Nat.le_trans b1'.size hT.bel.size) HX.out
  go_wp2_with fail
  refine hcall.mono ?_
  rintro e w3 ⟨val3, rfl, hT3⟩
  dsimp only
  have hO3 := hT3.dk.own
  have b5 := hT3.bel
  rw [hz3] at b5
  have r1 := cells_below k1 b5 (by omega)
  have r2 := cells_below k2 b5 (by omega)
  obtain ⟨z0, z1, z2, z3, z4⟩ := five r1
  have y0 := cells_frozen r1 0
  have y1 := cells_frozen r1 1
  have y2 := cells_frozen r1 2
  have y3 := cells_frozen r1 3
  have y4 := cells_frozen r1 4
  have x0 := cells_frozen r2 0
  have ce : w3.cell? ⟨w.heap.size + 1 + 1, 0, none⟩ = some (.int .i64 0) := by simp [World.cell?, r2]
  obtain ⟨ga, gc, g0, _⟩ := hO3.forms .root (Live.root _)
  obtain ⟨la, lc, g1, _⟩ := hO3.forms .slots (Live.slots _)
  obtain ⟨oa, oc, g2, _⟩ := hO3.forms .refs (Live.refs _)
  obtain ⟨ta, tc, g3, _⟩ := hO3.forms .snaps (Live.snaps _)
  unfold imgV
  rw [g0, g1, g2, g3]
  have HO : Hid (OI w3 (w.heap.size + 3) val3 (countedD M) ∧ val3 .root = _ ∧ val3 .slots = _ ∧ val3 .refs = _ ∧ val3 .snaps = _) := ⟨by rw [hz3] at hO3; exact hO3, g0, g1, g2, g3⟩
  have HB : Hid (Below w.heap.size w w3) := b4.trans (b5.mono (by omega))
  clear hO3 hT hT3 hD hcall g0 g1 g2 g3 b5 b4 b3 b1 b1' hbw hO q0 q1 q2 q3
  go_wp2_with fail
  refine leaves_cons (f := 68) (args := #[.pointer (some ⟨w.heap.size + 1 + 1, 0, none⟩)]) (by simp) (by simp [go_sem]) ?_
  refine (catch_idle ⟨w.heap.size + 1 + 1, 0, none⟩ _).mono ?_
  rintro e u' w'' ⟨rfl, rfl, rfl⟩
  obtain ⟨hO, g0, g1, g2, g3⟩ := HO.out
  have b6 := HB.out
  have i1 : w.heap.size ≤ w.heap.size + 1 := Nat.le_succ _
  have i2 : w.heap.size ≤ w.heap.size + 1 + 1 := by omega
  have hf1 : ∀ a, Live (countedD M) a → (val3 a).ownBlock ≠ some (w.heap.size + 1) := fun a ha e => by have := ((hO.row a ha).lt _ e).1; omega
  have hf2 : ∀ a, Live (countedD M) a → (val3 a).ownBlock ≠ some (w.heap.size + 1 + 1) := fun a ha e => by have := ((hO.row a ha).lt _ e).1; omega
  refine ⟨.tuple #[.agg #[.int .i64 M.guest, .slice ga (rowN (countedD M) .root) gc, .slice la (rowN (countedD M) .slots) lc, .slice oa (rowN (countedD M) .refs) oc, .slice ta (rowN (countedD M) .snaps) tc], .int .i64 0], ?_, val3, ?_, OI.mono ((((((hO.far hf1).far hf1).far hf1).far hf1).far hf1).far hf2) (by omega), ((((((b6.setCell i1 _).setCell i1 _).setCell i1 _).setCell i1 _).setCell i1 _).setCell i2 _)⟩
  · simp [results, Try.results31, go_sem, z0, z1, z2, z3, z4, ce]
  · unfold imgV
    rw [g0, g1, g2, g3]
    rfl
def ofM (o : Option ImgD) : ImgD := match o with | none => imgZ | some M => if shapeE M = 0 then countedD M else imgZ
def ofE (o : Option ImgD) : Int := match o with | none => 7 | some M => shapeE M
theorem of_is {w : World} {v : Value} {m : ImgD} {o : Option ImgD} {N : Nat} {caps : Array Value} (h : Img w v m) (hF : Fits m) (hN : ∀ (args : Array Value) (w : World), (callFunc N args).run Try.prog w = .ok (.enter N args) w) (ht : Turns w N caps m o) :
    Calls Try.prog 31 #[v, .func (.func N) #[] caps] w (AnsI w w.heap.size (ofM o) (ofE o)) := by
  have h' := h
  obtain ⟨ra, rc, sa, sc, fa, fc, na, nc, rfl, _⟩ := h.parts
  cases o with
  | none => exact of_full m ra _ rc sa _ sc fa _ fc na _ nc N caps w h' hF hN ht
  | some M =>
    unfold ofM ofE
    dsimp only
    by_cases hE : shapeE M = 0
    · rw [if_pos hE, hE]
      exact of_ok m M ra _ rc sa _ sc fa _ fc na _ nc N caps w h' hF hN ht hE
    · rw [if_neg hE]
      exact of_bad m M ra _ rc sa _ sc fa _ fc na _ nc N caps w h' hF hN ht _ rfl hE
end Go.Proofs.Ytehleeibgkpjmae
/- What Delete, Revert and Create do on the desk. -/
namespace Go.Proofs.Ytehleeibgkpjmae
open Go.RowKit Go.Shelf Go.Lib
set_option maxRecDepth 20000
set_option linter.unusedVariables false
set_option linter.unusedSimpArgs false

theorem flatN_one {W : World} {B : Nat} {val : Nm → Value} {m : ImgD} (h : OI W B val m) : ∀ u ∈ flatN m.snaps (fun j => val (.sr j)), u.oneCell' = true :=
  flatN_mem fun j hj => slice_one (h.row (.sr j) (Live.sr hj))
set_option maxHeartbeats 2000000 in
theorem delete_desk {W : World} {B D k : Nat} {val : Nm → Value} {m : ImgD} (h : DK W B D val m) (hB : B ≤ W.heap.size) (hk : k < m.snaps.length) (h3 : m.snaps.length ≤ 1000) :
    Calls Try.prog 37 #[.pointer (some ⟨D, 0, none⟩), .int .i64 k] W fun r W' => ∃ val', r = .returned (.tuple #[]) ∧ DTo W W' B D m val nilV (deleteM m k) val' := by
  have hrow : W.ownsRow B 64 3 (val .snaps) m.snaps.length (flatN m.snaps (fun j => val (.sr j))) := h.own.row .snaps (Live.snaps m)
  have hdel := delete_is B m.snaps.length k (val .snaps) _ W hk hrow (flatN_one h.own)
  obtain ⟨c0, c1, c2, c3, c4⟩ := h.five
  obtain ⟨ao, cap, hvs⟩ := row_slice hrow
  have hw1 : IntKind.i64.wrap ((k : Int) + 1) = (k : Int) + 1 := by rw [IntKind.wrap_i64]; omega
  rw [hvs] at c4 hdel
  obtain ⟨n1, hn1⟩ : ∃ n1, n1 = m.snaps.length - 1 := ⟨_, rfl⟩
  rw [← hn1] at hdel
  have HP : Hid (∀ v' w', w'.ownsRow B 64 3 v' n1 ((flatN m.snaps (fun j => val (.sr j))).take (k * 3) ++ (flatN m.snaps (fun j => val (.sr j))).drop ((k + 1) * 3)) → W.grownBy w' (Value.slice ao m.snaps.length cap).ownBlock → v'.ownBlock = (Value.slice ao m.snaps.length cap).ownBlock → DTo W (w'.setCell ⟨D, 4, none⟩ v') B D m val nilV (deleteM m k) (delVal val v' k) ∧ w'.heap[D]? = some (.cells #[.int .i64 m.guest, val .root, val .slots, val .refs, val .snaps] 61)) := fun v' w' a b c => ⟨DTo.del h hB hk (hn1 ▸ a) (by rw [hvs]; exact b) (by rw [hvs]; exact c), (b.block D h.lt (fun e => h.far .snaps (Live.snaps m) (by rw [hvs]; exact e.symm))).trans h.box⟩
  clear c0 c1 c2 c3 hrow h hvs hn1
  go_enter Try.func37, Try.ntmps37
  go_wp2_with (go_at_call 38; refine hdel.mono ?_; rintro e w1 ⟨v1, rfl, k1, k2, k3⟩; obtain ⟨ao1, cap1, rfl⟩ := row_slice k1; have hq := HP.out _ w1 k1 k2 k3; have d4 := (five hq.2).2.2.2.2; have f4 : w1.frozen? ⟨D, 4, none⟩ = false := cells_frozen hq.2 4; have HQ : Hid (DTo W (w1.setCell ⟨D, 4, none⟩ (.slice ao1 n1 cap1)) B D m val nilV (deleteM m k) (delVal val (.slice ao1 n1 cap1) k)) := hq.1; clear hq k1 k2 k3)
  go_end0
  exact ⟨_, rfl, HQ.out⟩
end Go.Proofs.Ytehleeibgkpjmae
/- The library's contracts that are used here, at this program: strings.Repeat, strings.Join. -/
namespace Go.Proofs
open Go.Shelf
def Try.lays106_ren : Go.Shelf.Ren := ⟨fun | 106 => 67 | 213 => 90 | 265 => 109 | n => n, fun | 9 => 9 | 3 => 3 | n => n, fun | n => n⟩
theorem Try.lays106 : Go.Proofs.Lays.n106 Try.prog Try.lays106_ren := {
  mixed := by kernel_rfl
  f106 := Try.func67.trans (congrArg some (by kernel_rfl))
  f213 := Try.func90.trans (congrArg some (by kernel_rfl))
  f265 := Try.func109.trans (congrArg some (by kernel_rfl))
  t3 := Try.underlying3
  a3 := Try.isAgg3
  z3 := Try.sizeOf3
  v3 := Try.zeroValue3
  t9 := Try.underlying9
  a9 := Try.isAgg9
  z9 := Try.sizeOf9
  v9 := Try.zeroValue9 }
open Go.RowKit in
theorem Try.strings_Compare (a b : ByteArray) (w : World) :
    Calls Try.prog 67 #[.string a, .string b] w fun e w' => e = .returned (.int .i64 (Lib.compareBytes a.data.toList b.data.toList)) ∧ w' = w := Any.strings_Compare Try.lays106 a b w
end Go.Proofs
/- Contracts of the program's snaps: the comparison that find hands on. -/
namespace Go.Proofs.Ytehleeibgkpjmae
open Go.RowKit Go.Shelf
set_option maxRecDepth 20000
set_option linter.unusedVariables false
set_option linter.unusedSimpArgs false

theorem findCmp_is (a nm : ByteArray) (g : Int) (ra : Option Addr) (rn rc : Nat) (w : World) :
    Calls Try.prog 66 #[.agg #[.string a, .int .i64 g, .slice ra rn rc], .string nm] w fun r w' => r = .returned (.int .i64 (Lib.compareBytes a.data.toList nm.data.toList)) ∧ Below w.heap.size w w' := by
  have b0 : Below w.heap.size w (w.alloc (.cells #[.string a, .int .i64 g, .slice ra rn rc] 64)) := (Below.refl _ _).alloc (Nat.le_refl _) _
  go_enter Try.func66, Try.ntmps66
  go_wp2_with (go_at_call 67; refine (Try.strings_Compare _ _ _).mono ?_; rintro e w' ⟨rfl, hw⟩; rw [hw]; clear hw)
  go_ret
  exact ⟨rfl, b0⟩




set_option maxHeartbeats 4000000 in
theorem bsearch_at (b off cap n k : Nat) (nm : ByteArray) (c : Nat → Int) (w : World) (h3 : n ≤ 3) (hlt : b < w.heap.size) (HC : Hid (∀ j, j < n → ∃ (a : ByteArray) (g : Int) (ra : Option Addr) (rn rc : Nat), w.cell? ⟨b, off + j * 3, none⟩ = some (.string a) ∧ w.cell? ⟨b, off + j * 3 + 1, none⟩ = some (.int .i64 g) ∧ w.cell? ⟨b, off + j * 3 + 1 + 1, none⟩ = some (.slice ra rn rc) ∧ Lib.compareBytes a.data.toList nm.data.toList = c j))
    (hk : k ≤ n) (HL : Hid (∀ j, j < n → (c j < 0 ↔ j < k))) :
    Calls Try.prog 65 #[.slice (some ⟨b, off, none⟩) n cap, .string nm, .func (.func 66) #[] #[]] w fun r w' => r = .returned (.tuple #[.int .i64 (k : Int), .bool (decide (k < n) && c k == 0)]) ∧ Below w.heap.size w w' := by
  go_enter Try.func65, Try.ntmps65
  go_wp2_with fail
  go_loopw [9, 10, 11] (fun s9 s10 _ wr => ∃ i j : Nat, s9 = .int .i64 i ∧ s10 = .int .i64 j ∧ i ≤ k ∧ k ≤ j ∧ j ≤ n ∧ Below w.heap.size w wr) (fun s9 s10 _ _ => (intOf s10).toNat - (intOf s9).toNat)
  case atStart => exact ⟨0, n, rfl, rfl, Nat.zero_le _, hk, Nat.le_refl _, Below.refl _ _⟩
  case round =>
    obtain ⟨i, j, rfl, rfl, hi, hj, hjn, hbel⟩ := hrel
    by_cases hlt2 : i < j
    · have hcase : (i = 0 ∧ j = 1) ∨ (i = 0 ∧ j = 2) ∨ (i = 0 ∧ j = 3) ∨ (i = 1 ∧ j = 2) ∨ (i = 1 ∧ j = 3) ∨ (i = 2 ∧ j = 3) := by omega
      rcases hcase with ⟨rfl, rfl⟩ | ⟨rfl, rfl⟩ | ⟨rfl, rfl⟩ | ⟨rfl, rfl⟩ | ⟨rfl, rfl⟩ | ⟨rfl, rfl⟩
      · obtain ⟨a, g, ra, rn, rc, k0, k1, k2, hcc⟩ := HC.out 0 (by omega)
        have k0 := (hbel.cell (p := ⟨b, off + 0 * 3, none⟩) hlt).trans k0
        have k1 := (hbel.cell (p := ⟨b, off + 0 * 3 + 1, none⟩) hlt).trans k1
        have k2 := (hbel.cell (p := ⟨b, off + 0 * 3 + 1 + 1, none⟩) hlt).trans k2
        simp only [Nat.reduceMul, Nat.add_assoc, Nat.reduceAdd, Nat.add_zero] at k0 k1 k2
        have hn0 : ((0 : Nat) : Int) < (n : Int) := by omega
        have hnn : (0 : Int) < (n : Int) := by omega
        have hL := HL.out 0 (by omega)
        have hcall := fun W => findCmp_is a nm g ra rn rc W
        rw [hcc] at hcall
        clear hcc
        generalize c 0 = ch at hcall hL
        by_cases hs : ch < 0
        · have hs1 : decide (ch < 0) = true := by simpa using hs
          have hk2 := hL.1 hs
          clear hL
          go_wp2_with (go_at_call 66; refine (hcall _).mono ?_; rintro e w1 ⟨rfl, b1⟩)
          go_roundw
          case rel => exact ⟨1, 1, by go_num, by go_num, hk2, hj, hjn, Below.on hbel b1⟩
          case measure => simp [intOf]
        · have hs1 : decide (ch < 0) = false := by simpa using hs
          have hk2 : k ≤ 0 := by have := fun x => hs (hL.2 x); omega
          clear hL
          go_wp2_with (go_at_call 66; refine (hcall _).mono ?_; rintro e w1 ⟨rfl, b1⟩)
          go_roundw
          case rel => exact ⟨0, 0, by go_num, by go_num, hi, hk2, by omega, Below.on hbel b1⟩
          case measure => simp [intOf]
      · obtain ⟨a, g, ra, rn, rc, k0, k1, k2, hcc⟩ := HC.out 1 (by omega)
        have k0 := (hbel.cell (p := ⟨b, off + 1 * 3, none⟩) hlt).trans k0
        have k1 := (hbel.cell (p := ⟨b, off + 1 * 3 + 1, none⟩) hlt).trans k1
        have k2 := (hbel.cell (p := ⟨b, off + 1 * 3 + 1 + 1, none⟩) hlt).trans k2
        simp only [Nat.reduceMul, Nat.add_assoc, Nat.reduceAdd, Nat.add_zero] at k0 k1 k2
        have hn1 : ((1 : Nat) : Int) < (n : Int) := by omega
        have hnn : (1 : Int) < (n : Int) := by omega
        have hL := HL.out 1 (by omega)
        have hcall := fun W => findCmp_is a nm g ra rn rc W
        rw [hcc] at hcall
        clear hcc
        generalize c 1 = ch at hcall hL
        by_cases hs : ch < 0
        · have hs1 : decide (ch < 0) = true := by simpa using hs
          have hk2 := hL.1 hs
          clear hL
          go_wp2_with (go_at_call 66; refine (hcall _).mono ?_; rintro e w1 ⟨rfl, b1⟩)
          go_roundw
          case rel => exact ⟨2, 2, by go_num, by go_num, hk2, hj, hjn, Below.on hbel b1⟩
          case measure => simp [intOf]
        · have hs1 : decide (ch < 0) = false := by simpa using hs
          have hk2 : k ≤ 1 := by have := fun x => hs (hL.2 x); omega
          clear hL
          go_wp2_with (go_at_call 66; refine (hcall _).mono ?_; rintro e w1 ⟨rfl, b1⟩)
          go_roundw
          case rel => exact ⟨0, 1, by go_num, by go_num, hi, hk2, by omega, Below.on hbel b1⟩
          case measure => simp [intOf]
      · obtain ⟨a, g, ra, rn, rc, k0, k1, k2, hcc⟩ := HC.out 1 (by omega)
        have k0 := (hbel.cell (p := ⟨b, off + 1 * 3, none⟩) hlt).trans k0
        have k1 := (hbel.cell (p := ⟨b, off + 1 * 3 + 1, none⟩) hlt).trans k1
        have k2 := (hbel.cell (p := ⟨b, off + 1 * 3 + 1 + 1, none⟩) hlt).trans k2
        simp only [Nat.reduceMul, Nat.add_assoc, Nat.reduceAdd, Nat.add_zero] at k0 k1 k2
        have hn1 : ((1 : Nat) : Int) < (n : Int) := by omega
        have hnn : (1 : Int) < (n : Int) := by omega
        have hL := HL.out 1 (by omega)
        have hcall := fun W => findCmp_is a nm g ra rn rc W
        rw [hcc] at hcall
        clear hcc
        generalize c 1 = ch at hcall hL
        by_cases hs : ch < 0
        · have hs1 : decide (ch < 0) = true := by simpa using hs
          have hk2 := hL.1 hs
          clear hL
          go_wp2_with (go_at_call 66; refine (hcall _).mono ?_; rintro e w1 ⟨rfl, b1⟩)
          go_roundw
          case rel => exact ⟨2, 3, by go_num, by go_num, hk2, hj, hjn, Below.on hbel b1⟩
          case measure => simp [intOf]
        · have hs1 : decide (ch < 0) = false := by simpa using hs
          have hk2 : k ≤ 1 := by have := fun x => hs (hL.2 x); omega
          clear hL
          go_wp2_with (go_at_call 66; refine (hcall _).mono ?_; rintro e w1 ⟨rfl, b1⟩)
          go_roundw
          case rel => exact ⟨0, 1, by go_num, by go_num, hi, hk2, by omega, Below.on hbel b1⟩
          case measure => simp [intOf]
      · obtain ⟨a, g, ra, rn, rc, k0, k1, k2, hcc⟩ := HC.out 1 (by omega)
        have k0 := (hbel.cell (p := ⟨b, off + 1 * 3, none⟩) hlt).trans k0
        have k1 := (hbel.cell (p := ⟨b, off + 1 * 3 + 1, none⟩) hlt).trans k1
        have k2 := (hbel.cell (p := ⟨b, off + 1 * 3 + 1 + 1, none⟩) hlt).trans k2
        simp only [Nat.reduceMul, Nat.add_assoc, Nat.reduceAdd, Nat.add_zero] at k0 k1 k2
        have hn1 : ((1 : Nat) : Int) < (n : Int) := by omega
        have hnn : (1 : Int) < (n : Int) := by omega
        have hL := HL.out 1 (by omega)
        have hcall := fun W => findCmp_is a nm g ra rn rc W
        rw [hcc] at hcall
        clear hcc
        generalize c 1 = ch at hcall hL
        by_cases hs : ch < 0
        · have hs1 : decide (ch < 0) = true := by simpa using hs
          have hk2 := hL.1 hs
          clear hL
          go_wp2_with (go_at_call 66; refine (hcall _).mono ?_; rintro e w1 ⟨rfl, b1⟩)
          go_roundw
          case rel => exact ⟨2, 2, by go_num, by go_num, hk2, hj, hjn, Below.on hbel b1⟩
          case measure => simp [intOf]
        · have hs1 : decide (ch < 0) = false := by simpa using hs
          have hk2 : k ≤ 1 := by have := fun x => hs (hL.2 x); omega
          clear hL
          go_wp2_with (go_at_call 66; refine (hcall _).mono ?_; rintro e w1 ⟨rfl, b1⟩)
          go_roundw
          case rel => exact ⟨1, 1, by go_num, by go_num, hi, hk2, by omega, Below.on hbel b1⟩
          case measure => simp [intOf]
      · obtain ⟨a, g, ra, rn, rc, k0, k1, k2, hcc⟩ := HC.out 2 (by omega)
        have k0 := (hbel.cell (p := ⟨b, off + 2 * 3, none⟩) hlt).trans k0
        have k1 := (hbel.cell (p := ⟨b, off + 2 * 3 + 1, none⟩) hlt).trans k1
        have k2 := (hbel.cell (p := ⟨b, off + 2 * 3 + 1 + 1, none⟩) hlt).trans k2
        simp only [Nat.reduceMul, Nat.add_assoc, Nat.reduceAdd, Nat.add_zero] at k0 k1 k2
        have hn2 : ((2 : Nat) : Int) < (n : Int) := by omega
        have hnn : (2 : Int) < (n : Int) := by omega
        have hL := HL.out 2 (by omega)
        have hcall := fun W => findCmp_is a nm g ra rn rc W
        rw [hcc] at hcall
        clear hcc
        generalize c 2 = ch at hcall hL
        by_cases hs : ch < 0
        · have hs1 : decide (ch < 0) = true := by simpa using hs
          have hk2 := hL.1 hs
          clear hL
          go_wp2_with (go_at_call 66; refine (hcall _).mono ?_; rintro e w1 ⟨rfl, b1⟩)
          go_roundw
          case rel => exact ⟨3, 3, by go_num, by go_num, hk2, hj, hjn, Below.on hbel b1⟩
          case measure => simp [intOf]
        · have hs1 : decide (ch < 0) = false := by simpa using hs
          have hk2 : k ≤ 2 := by have := fun x => hs (hL.2 x); omega
          clear hL
          go_wp2_with (go_at_call 66; refine (hcall _).mono ?_; rintro e w1 ⟨rfl, b1⟩)
          go_roundw
          case rel => exact ⟨1, 2, by go_num, by go_num, hi, hk2, by omega, Below.on hbel b1⟩
          case measure => simp [intOf]
      · obtain ⟨a, g, ra, rn, rc, k0, k1, k2, hcc⟩ := HC.out 2 (by omega)
        have k0 := (hbel.cell (p := ⟨b, off + 2 * 3, none⟩) hlt).trans k0
        have k1 := (hbel.cell (p := ⟨b, off + 2 * 3 + 1, none⟩) hlt).trans k1
        have k2 := (hbel.cell (p := ⟨b, off + 2 * 3 + 1 + 1, none⟩) hlt).trans k2
        simp only [Nat.reduceMul, Nat.add_assoc, Nat.reduceAdd, Nat.add_zero] at k0 k1 k2
        have hn2 : ((2 : Nat) : Int) < (n : Int) := by omega
        have hnn : (2 : Int) < (n : Int) := by omega
        have hL := HL.out 2 (by omega)
        have hcall := fun W => findCmp_is a nm g ra rn rc W
        rw [hcc] at hcall
        clear hcc
        generalize c 2 = ch at hcall hL
        by_cases hs : ch < 0
        · have hs1 : decide (ch < 0) = true := by simpa using hs
          have hk2 := hL.1 hs
          clear hL
          go_wp2_with (go_at_call 66; refine (hcall _).mono ?_; rintro e w1 ⟨rfl, b1⟩)
          go_roundw
          case rel => exact ⟨3, 3, by go_num, by go_num, hk2, hj, hjn, Below.on hbel b1⟩
          case measure => simp [intOf]
        · have hs1 : decide (ch < 0) = false := by simpa using hs
          have hk2 : k ≤ 2 := by have := fun x => hs (hL.2 x); omega
          clear hL
          go_wp2_with (go_at_call 66; refine (hcall _).mono ?_; rintro e w1 ⟨rfl, b1⟩)
          go_roundw
          case rel => exact ⟨2, 2, by go_num, by go_num, hi, hk2, by omega, Below.on hbel b1⟩
          case measure => simp [intOf]
    · have e1 : i = k := by omega
      subst e1
      by_cases hin : i < n
      · obtain ⟨a, g, ra, rn, rc, k0, k1, k2, hcc⟩ := HC.out i hin
        have k0 := (hbel.cell (p := ⟨b, off + i * 3, none⟩) hlt).trans k0
        have k1 := (hbel.cell (p := ⟨b, off + i * 3 + 1, none⟩) hlt).trans k1
        have k2 := (hbel.cell (p := ⟨b, off + i * 3 + 1 + 1, none⟩) hlt).trans k2
        have hni : (i : Int) < (n : Int) := by omega
        have hd : decide ((i : Int) < (n : Int)) = true := by simpa using hni
        have hcall := fun W => findCmp_is a nm g ra rn rc W
        rw [hcc] at hcall
        clear hcc
        have hdn : decide (i < n) = true := by simpa using hin
        have HDn : Hid (decide (i < n) = true) := hdn
        clear hdn hin
        go_wp2_with (go_at_call 66; refine (hcall _).mono ?_; rintro e w1 ⟨rfl, b1⟩)
        go_ret2
        exact ⟨by rw [HDn.out, Bool.true_and]; rfl, Below.on hbel b1⟩
      · have e2 : i = n := by omega
        subst e2
        have hd : decide ((i : Int) < (i : Int)) = false := by simp
        have HDn : Hid (decide (i < i) = false) := by show decide (i < i) = false; simp
        clear hin
        go_wp2_with fail
        go_ret2
        exact ⟨by rw [HDn.out, Bool.false_and]; rfl, hbel⟩
end Go.Proofs.Ytehleeibgkpjmae
/- The program's find: where a name stands among snapshots, or would stand. -/
namespace Go.Proofs.Ytehleeibgkpjmae
open Go.RowKit Go.Shelf
set_option maxRecDepth 20000
set_option linter.unusedVariables false
set_option linter.unusedSimpArgs false

theorem cmp_less : ∀ x y : List UInt8, Lib.compareBytes x y < 0 ↔ Op.bytesLess x y = true
  | [], [] => by simp [Lib.compareBytes, Op.bytesLess]
  | [], _ :: _ => by simp [Lib.compareBytes, Op.bytesLess]
  | _ :: _, [] => by simp [Lib.compareBytes, Op.bytesLess]
  | a :: x, b :: y => by
    have ih := cmp_less x y
    unfold Lib.compareBytes
    simp only [Op.bytesLess, Bool.or_eq_true, Bool.and_eq_true, decide_eq_true_eq, beq_iff_eq]
    by_cases h : a < b
    · simp [h]
    · by_cases h2 : b < a
      · have hne : a ≠ b := fun e => by subst e; exact h h2
        simp [h, h2, hne]
      · have e : a = b := by
          rw [UInt8.lt_iff_toNat_lt] at h h2
          exact UInt8.toNat_inj.1 (by omega)
        simp [h, h2, e, ih]
theorem cmp_zero : ∀ x y : List UInt8, Lib.compareBytes x y = 0 ↔ x = y
  | [], [] => by simp [Lib.compareBytes]
  | [], _ :: _ => by simp [Lib.compareBytes]
  | _ :: _, [] => by simp [Lib.compareBytes]
  | a :: x, b :: y => by
    have ih := cmp_zero x y
    unfold Lib.compareBytes
    by_cases h : a < b
    · have hne : a ≠ b := fun e => by subst e; rw [UInt8.lt_iff_toNat_lt] at h; omega
      simp [h, hne]
    · by_cases h2 : b < a
      · have hne : a ≠ b := fun e => by subst e; exact h h2
        simp [h, h2, hne]
      · have e : a = b := by
          rw [UInt8.lt_iff_toNat_lt] at h h2
          exact UInt8.toNat_inj.1 (by omega)
        simp [h, h2, e, ih]

def posS (S : List SnapD) (nm : ByteArray) : Nat := (S.takeWhile (fun x => lessN x.1 nm)).length
theorem posS_le (S : List SnapD) (nm : ByteArray) : posS S nm ≤ S.length := by
  unfold posS
  have := congrArg List.length (List.takeWhile_append_dropWhile (p := fun x : SnapD => lessN x.1 nm) (l := S))
  rw [List.length_append] at this
  omega
theorem tw_lt {p : SnapD → Bool} : ∀ {L : List SnapD} {j : Nat} (hj : j < L.length), j < (L.takeWhile p).length → p L[j] = true
  | a :: L, 0, _, h => by
    rw [List.takeWhile_cons] at h
    split at h
    · assumption
    · simp at h
  | a :: L, j + 1, hj, h => by
    rw [List.takeWhile_cons] at h
    split at h
    · exact tw_lt (L := L) (by simpa using hj) (by simpa using h)
    · simp at h
theorem tw_at {p : SnapD → Bool} : ∀ {L : List SnapD} (hj : (L.takeWhile p).length < L.length), p (L[(L.takeWhile p).length]) = false
  | [], h => by simp at h
  | a :: L, h => by
    by_cases hp : p a = true
    · have e : ((a :: L).takeWhile p) = a :: L.takeWhile p := by rw [List.takeWhile_cons, if_pos hp]
      have h2 : (L.takeWhile p).length < L.length := by rw [e] at h; simpa using h
      have := tw_at (L := L) h2
      simp only [e, List.length_cons, List.getElem_cons_succ]
      exact this
    · have e : ((a :: L).takeWhile p) = [] := by rw [List.takeWhile_cons, if_neg hp]
      simp only [e, List.length_nil, List.getElem_cons_zero]
      simpa using hp

theorem pos_iff {S : List SnapD} (h : NamesP S) (nm : ByteArray) {j : Nat} (hj : j < S.length) : lessN S[j].1 nm = true ↔ j < posS S nm := by
  constructor
  · intro hl
    apply Decidable.byContradiction
    intro hn
    have hp : posS S nm < S.length := by omega
    have hf : lessN (S[posS S nm]).1 nm = false := tw_at (p := fun x => lessN x.1 nm) hp
    rcases Nat.lt_or_ge (posS S nm) j with h1 | h1
    · have := (List.pairwise_iff_getElem.1 h.2) (posS S nm) j hp hj h1
      have := less_trans this hl
      exact absurd (hf.symm.trans this) (by decide)
    · have e : posS S nm = j := by omega
      simp only [e] at hf
      rw [hl] at hf; cases hf
  · intro h1
    exact tw_lt (p := fun x => lessN x.1 nm) hj h1
theorem pos_here {S : List SnapD} (h : NamesP S) {nm : ByteArray} {k : Nat} (hk : snapIx S nm = some k) : posS S nm = k := by
  have hkl := snapIx_some hk
  unfold snapIx at hk
  have he : (S[k]).1.toList = nm.toList := by
    have := (List.findIdx?_eq_some_iff_getElem.1 hk).2.1
    simpa using this
  have h1 : ¬ k < posS S nm := fun hh => by
    have := (pos_iff h nm hkl).2 hh
    unfold lessN at this
    rw [he, less_irr] at this; cases this
  have h2 : ¬ posS S nm < k := fun hh => by
    have hp : posS S nm < S.length := by omega
    have := (List.pairwise_iff_getElem.1 h.2) (posS S nm) k hp hkl hh
    unfold lessN at this
    rw [he] at this
    have := (pos_iff h nm hp).1 this
    omega
  omega
theorem pos_found {S : List SnapD} (h : NamesP S) (nm : ByteArray) : (snapIx S nm).isSome = (decide (posS S nm < S.length) && ((S.getD (posS S nm) default).1.toList == nm.toList)) := by
  cases hs : snapIx S nm with
  | some k =>
    have hp := pos_here h hs
    have hkl := snapIx_some hs
    unfold snapIx at hs
    have he : (S[k]).1.toList = nm.toList := by
      have := (List.findIdx?_eq_some_iff_getElem.1 hs).2.1
      simpa using this
    rw [hp]
    simp [hkl, he]
  | none =>
    by_cases hl : posS S nm < S.length
    · have := snapIx_none hs S[posS S nm] (List.getElem_mem hl)
      simp [hl, this]
    · simp [hl]

theorem bsearch_none (ao : Option Addr) (cap : Nat) (nm : ByteArray) (w : World) :
    Calls Try.prog 65 #[.slice ao 0 cap, .string nm, .func (.func 66) #[] #[]] w fun r w' => r = .returned (.tuple #[.int .i64 (0 : Int), .bool false]) ∧ Below w.heap.size w w' := by
  go_enter Try.func65, Try.ntmps65
  go_wp2_with fail
  go_loopw [9, 10, 11] (fun s9 s10 _ wr => s9 = .int .i64 0 ∧ s10 = .int .i64 0 ∧ wr = w) (fun _ _ _ _ => 0)
  case atStart => exact ⟨rfl, rfl, rfl⟩
  case round =>
    obtain ⟨rfl, rfl, hw⟩ := hrel
    subst hw
    go_wp2_with fail
    go_ret2
    exact ⟨rfl, Below.refl _ _⟩

theorem find_is {w : World} {v : Value} {S : List SnapD} (h : Snaps w v S) (hN : NamesP S) (h3 : S.length ≤ 3) (nm : ByteArray) {k : Nat} (hk : posS S nm = k) {t : Bool} (ht : (snapIx S nm).isSome = t) :
    Calls Try.prog 30 #[v, .string nm] w fun r w' => r = .returned (.tuple #[.int .i64 (k : Int), .bool t]) ∧ Below w.heap.size w w' := by
  have hb : Calls Try.prog 65 #[v, .string nm, .func (.func 66) #[] #[]] w fun r w' => r = .returned (.tuple #[.int .i64 (k : Int), .bool t]) ∧ Below w.heap.size w w' := by
    obtain ⟨ao, cap, rfl, hm, hc, hS⟩ := h
    rw [pos_found hN] at ht
    by_cases e : S = []
    · subst e
      have e1 : k = 0 := by rw [← hk]; rfl
      have e2 : t = false := by rw [← ht]; simp
      subst e1 e2
      exact bsearch_none ao cap nm w
    · obtain ⟨b, off, rfl, hlt, hA⟩ := hS e
      have hle := posS_le S nm
      have hcz : ∀ j, (hj : j < S.length) → Lib.compareBytes (S.getD j default).1.data.toList nm.data.toList = Lib.compareBytes S[j].1.data.toList nm.data.toList := fun j hj => by simp [List.getD, hj]
      refine (bsearch_at b off cap S.length k nm (fun j => Lib.compareBytes (S.getD j default).1.data.toList nm.data.toList) w h3 hlt (fun j hj => ?_) (by rw [← hk]; exact hle) (fun j hj => ?_)).mono ?_
      · obtain ⟨rv, a0, a1, a2, a3⟩ := hA j hj
        obtain ⟨ra, rc, rfl⟩ := a3.form
        exact ⟨_, _, ra, _, rc, a0, a1, a2, (hcz j hj).symm⟩
      · rw [hcz j hj, cmp_less, ← ByteArray.toList_eq, ← ByteArray.toList_eq, ← hk]
        exact pos_iff hN nm hj
      · rintro r w' ⟨rfl, hbb⟩
        refine ⟨?_, hbb⟩
        rw [← ht, hk]
        by_cases hkl : k < S.length
        · have : ((Lib.compareBytes (S.getD k default).1.data.toList nm.data.toList) == 0) = ((S.getD k default).1.toList == nm.toList) := by
            rw [Bool.eq_iff_iff, beq_iff_eq, beq_iff_eq, cmp_zero, ByteArray.toList_eq, ByteArray.toList_eq]
          rw [this]
        · simp [hkl]
  obtain ⟨ao, cap, rfl⟩ := h.form
  generalize S.length = n at hb
  clear h hN h3 hk ht
  go_enter Try.func30, Try.ntmps30
  go_wp2_with (go_at_call 65; refine hb.mono ?_; rintro e w1 ⟨rfl, b1⟩)
  go_ret2
  exact ⟨rfl, b1⟩
end Go.Proofs.Ytehleeibgkpjmae
/- The desk with a snapshot more. -/
namespace Go.Proofs.Ytehleeibgkpjmae
open Go.RowKit Go.Shelf
set_option maxRecDepth 20000
set_option linter.unusedVariables false
set_option linter.unusedSimpArgs false

def insN (k : Nat) (S : List SnapD) (s : SnapD) : List SnapD := S.take k ++ s :: S.drop k
theorem insN_length {k : Nat} {S : List SnapD} (s : SnapD) (hk : k ≤ S.length) : (insN k S s).length = S.length + 1 := by
  unfold insN; simp; omega
theorem tw_take {p : SnapD → Bool} : ∀ (L : List SnapD), L.takeWhile p = L.take (L.takeWhile p).length ∧ L.dropWhile p = L.drop (L.takeWhile p).length
  | [] => ⟨rfl, rfl⟩
  | a :: L => by
    have ih := tw_take (p := p) L
    cases e : p a with
    | true => rw [List.takeWhile_cons, List.dropWhile_cons, if_pos e, if_pos e]; simp only [List.length_cons, List.take_succ_cons, List.drop_succ_cons]; exact ⟨by rw [← ih.1], ih.2⟩
    | false => rw [List.takeWhile_cons, List.dropWhile_cons, if_neg (by rw [e]; decide), if_neg (by rw [e]; decide)]; exact ⟨rfl, rfl⟩
theorem insS_insN (S : List SnapD) (s : SnapD) : insS S s = insN (posS S s.1) S s := by
  unfold insS insN posS
  rw [← (tw_take S).1, ← (tw_take S).2]
def skip2 (k j : Nat) : Nat := if j < k then j else j - 1
theorem getD_ins {S : List SnapD} {k : Nat} (s : SnapD) (hk : k ≤ S.length) (j : Nat) : (insN k S s).getD j default = if j = k then s else S.getD (skip2 k j) default := by
  have ht : (S.take k).length = k := by rw [List.length_take]; omega
  unfold insN skip2
  simp only [List.getD_eq_getElem?_getD, List.getElem?_append, ht]
  by_cases h : j < k
  · rw [if_pos h, if_neg (by omega), if_pos h, List.getElem?_take, if_pos h]
  · rw [if_neg h, if_neg h]
    by_cases e : j = k
    · rw [if_pos e, e]; simp
    · rw [if_neg e]
      obtain ⟨d, rfl⟩ : ∃ d, j = k + d + 1 := ⟨j - k - 1, by omega⟩
      rw [show k + d + 1 - k = d + 1 by omega, List.getElem?_cons_succ, List.getElem?_drop, show k + d + 1 - 1 = k + d by omega]
def insQ (qv : Nat → Value) (rv : Value) (k : Nat) : Nat → Value := fun j => if j = k then rv else qv (skip2 k j)
theorem flatN_ins {S : List SnapD} {k : Nat} (s : SnapD) (rv : Value) (hk : k ≤ S.length) (qv : Nat → Value) : flatN (insN k S s) (insQ qv rv k) = (flatN S qv).take (k * 3) ++ [.string s.1, .int .i64 s.2.1, rv] ++ (flatN S qv).drop (k * 3) := by
  have hl := flatN_length S qv
  have he := insN_length s hk
  have ht : ((flatN S qv).take (k * 3)).length = k * 3 := by rw [List.length_take, hl]; omega
  refine ext3 (n := S.length + 1) (by rw [flatN_length, he]) (by simp only [List.length_append, List.length_drop, ht, hl, List.length_cons, List.length_nil]; omega) fun q hq => ?_
  obtain ⟨a, b, c⟩ := flatN_get (S := insN k S s) (qv := insQ qv rv k) (j := q) (by omega)
  rw [a, b, c, getD_ins s hk]
  unfold insQ
  simp only [List.append_assoc, List.getElem?_append, ht]
  by_cases h : q < k
  · obtain ⟨a', b', c'⟩ := flatN_get (S := S) (qv := qv) (j := q) (by omega)
    have n1 : ¬ q = k := by omega
    have p0 : q * 3 < k * 3 := by omega
    have p1 : q * 3 + 1 < k * 3 := by omega
    have p2 : q * 3 + 2 < k * 3 := by omega
    rw [if_neg n1, if_neg n1, if_pos p0, if_pos p1, if_pos p2]
    simp only [List.getElem?_take, if_pos p0, if_pos p1, if_pos p2]
    rw [a', b', c']
    unfold skip2; rw [if_pos h]; exact ⟨rfl, rfl, rfl⟩
  · rw [if_neg (show ¬ q * 3 < k * 3 by omega), if_neg (show ¬ q * 3 + 1 < k * 3 by omega), if_neg (show ¬ q * 3 + 2 < k * 3 by omega)]
    by_cases e : q = k
    · subst e
      rw [if_pos rfl, if_pos rfl, show q * 3 - q * 3 = 0 by omega, show q * 3 + 1 - q * 3 = 1 by omega, show q * 3 + 2 - q * 3 = 2 by omega]
      exact ⟨rfl, rfl, rfl⟩
    · rw [if_neg e, if_neg e]
      obtain ⟨a', b', c'⟩ := flatN_get (S := S) (qv := qv) (j := q - 1) (by omega)
      unfold skip2
      rw [if_neg h, ← a', ← b', ← c']
      simp only [List.length_cons, List.length_nil]
      rw [if_neg (show ¬ q * 3 - k * 3 < 0 + 1 + 1 + 1 by omega), if_neg (show ¬ q * 3 + 1 - k * 3 < 0 + 1 + 1 + 1 by omega), if_neg (show ¬ q * 3 + 2 - k * 3 < 0 + 1 + 1 + 1 by omega)]
      simp only [List.getElem?_drop]
      exact ⟨by congr 1; omega, by congr 1; omega, by congr 1; omega⟩

def insVal (val : Nm → Value) (v rv : Value) (k : Nat) : Nm → Value := fun a => if a.kind = 5 then insQ (fun j => val (.sr j)) rv k a.ix else if a.kind = 3 then v else val a
def insNm (k : Nat) (a : Nm) : Nm := if a.kind = 5 then .sr (skip2 k a.ix) else a
def isNew (k : Nat) (a : Nm) : Prop := a.kind = 5 ∧ a.ix = k
def insM (m : ImgD) (k : Nat) (s : SnapD) : ImgD := { m with snaps := insN k m.snaps s }
theorem insVal_new {val : Nm → Value} {v rv : Value} {k : Nat} {a : Nm} (h : isNew k a) : insVal val v rv k a = rv := by
  unfold insVal insQ; rw [if_pos h.1, if_pos h.2]
theorem insVal_eq {val : Nm → Value} {v rv : Value} {k : Nat} {a : Nm} (h : a.kind ≠ 3) (hn : ¬ isNew k a) : insVal val v rv k a = val (insNm k a) := by
  unfold insVal insNm
  by_cases e : a.kind = 5
  · rw [if_pos e, if_pos e]; unfold insQ; rw [if_neg (fun x => hn ⟨e, x⟩)]
  · rw [if_neg e, if_neg e, if_neg h]
theorem insNm_kind (k : Nat) (a : Nm) : (insNm k a).kind = a.kind := by
  unfold insNm
  split
  · rename_i e; rw [e]
  · rfl
theorem insNm_live {m : ImgD} {k : Nat} {s : SnapD} (hk : k ≤ m.snaps.length) {a : Nm} (h : Live (insM m k s) a) (hn : ¬ isNew k a) : Live m (insNm k a) := by
  have he := insN_length s hk
  rcases h with ⟨h1, h2⟩ | ⟨h1, h2⟩ | ⟨h1, h2⟩
  · have : a.kind ≠ 5 := by omega
    unfold insNm; rw [if_neg this]; exact .inl ⟨h1, h2⟩
  · have : a.kind ≠ 5 := by omega
    unfold insNm; rw [if_neg this]; exact .inr (.inl ⟨h1, h2⟩)
  · unfold insNm; rw [if_pos h1]
    have h2 : a.ix < (insN k m.snaps s).length := h2
    have hne : a.ix ≠ k := fun x => hn ⟨h1, x⟩
    exact Live.sr (by unfold skip2; split <;> omega)
theorem insNm_inj {k : Nat} {a b : Nm} (h : a ≠ b) (ha : ¬ isNew k a) (hb : ¬ isNew k b) : insNm k a ≠ insNm k b := fun e => by
  have hk := congrArg Nm.kind e
  rw [insNm_kind, insNm_kind] at hk
  apply h
  unfold insNm at e
  by_cases h5 : a.kind = 5
  · rw [if_pos h5, if_pos (hk ▸ h5)] at e
    have e := congrArg Nm.ix e
    have e : skip2 k a.ix = skip2 k b.ix := e
    have na : a.ix ≠ k := fun x => ha ⟨h5, x⟩
    have nb : b.ix ≠ k := fun x => hb ⟨hk ▸ h5, x⟩
    have : a.ix = b.ix := by unfold skip2 at e; split at e <;> split at e <;> omega
    cases a; cases b; simp_all
  · rw [if_neg h5, if_neg (hk ▸ h5)] at e
    exact e
theorem isNew_eq {k : Nat} {a : Nm} (h : isNew k a) : a = .sr k := by obtain ⟨x, y⟩ := a; obtain ⟨h1, h2⟩ := h; simp_all

theorem OI.ins {W W' : World} {B k : Nat} {val : Nm → Value} {m : ImgD} {v rv : Value} {s : SnapD} (h : OI W B val m) (hk : k ≤ m.snaps.length)
    (hr : W.ownsRow B 3 1 rv s.2.2.length (ints s.2.2)) (hrf : ∀ b, Live m b → ∀ g, rv.ownBlock = some g → (val b).ownBlock ≠ some g)
    (hv : W'.ownsRow B 64 3 v (m.snaps.length + 1) ((flatN m.snaps (fun j => val (.sr j))).take (k * 3) ++ [.string s.1, .int .i64 s.2.1, rv] ++ (flatN m.snaps (fun j => val (.sr j))).drop (k * 3)))
    (hg : W.grownBy W' (val .snaps).ownBlock) (hb : v.ownBlock = (val .snaps).ownBlock ∨ v.ownBlock = some W.heap.size) : OI W' B (insVal val v rv k) (insM m k s) := by
  have hold : ∀ a, Live m a → a ≠ .snaps → ∀ g, (val a).ownBlock = some g → v.ownBlock ≠ some g := fun a ha hne g hga x => by
    rcases hb with e | e
    · exact h.apart a .snaps ha (Live.snaps m) hne g hga (e.symm.trans x)
    · rw [e] at x
      have := ((h.row a ha).lt g hga).2
      have x := Option.some.inj x
      omega
  have hnew : ∀ g, rv.ownBlock = some g → v.ownBlock ≠ some g := fun g hga x => by
    rcases hb with e | e
    · exact hrf .snaps (Live.snaps m) g hga (e.symm.trans x)
    · rw [e] at x
      have := (hr.lt g hga).2
      have x := Option.some.inj x
      omega
  have hns : ∀ {a : Nm}, a.kind ≠ 3 → insNm k a ≠ .snaps := fun {a} e y => e (by rw [← insNm_kind k a, y])
  refine ⟨fun a ha => ?_, fun a b ha hb2 hab g hga => ?_⟩
  · by_cases e : a.kind = 3
    · have ea := live3 ha e
      subst ea
      rw [← flatN_ins s rv hk, ← insN_length s hk] at hv
      exact hv
    · by_cases en : isNew k a
      · have ea := isNew_eq en
        subst ea
        have hr' := hr.kept hg (by
          cases eq : rv.ownBlock with
          | none => exact .inl rfl
          | some g => exact .inr (fun x => hrf .snaps (Live.snaps m) g eq x.symm))
        rw [insVal_new en]
        have e3 : rowN (insM m k s) (.sr k) = s.2.2.length := by
          show ((insN k m.snaps s).getD k default).2.2.length = _
          rw [getD_ins s hk, if_pos rfl]
        have e4 : rowV (insM m k s) (insVal val v rv k) (.sr k) = ints s.2.2 := by
          show ints ((insN k m.snaps s).getD k default).2.2 = _
          rw [getD_ins s hk, if_pos rfl]
        rw [e3, e4]; exact hr'
      · have hl := insNm_live hk ha en
        have hr := h.row (insNm k a) hl
        have hr := hr.kept hg (by
          cases eq : (val (insNm k a)).ownBlock with
          | none => exact .inl rfl
          | some g => exact .inr (fun x => h.apart (insNm k a) .snaps hl (Live.snaps m) (hns e) g eq x.symm))
        rw [insVal_eq e en]
        have e1 : rowT (insNm k a) = rowT a := by unfold rowT; rw [insNm_kind]
        have e2 : rowS (insNm k a) = rowS a := by unfold rowS; rw [insNm_kind]
        rw [e1, e2] at hr
        rcases ha.cases with rfl | rfl | rfl | rfl | ⟨j, rfl, hj⟩ | ⟨j, rfl, hj⟩
        · exact hr
        · exact hr
        · exact hr
        · exact absurd rfl e
        · exact hr
        · have hjk : j ≠ k := fun x => en ⟨rfl, x⟩
          have e3 : rowN (insM m k s) (.sr j) = rowN m (insNm k (.sr j)) := by
            show ((insN k m.snaps s).getD j default).2.2.length = (m.snaps.getD (skip2 k j) default).2.2.length
            rw [getD_ins s hk, if_neg hjk]
          have e4 : rowV (insM m k s) (insVal val v rv k) (.sr j) = rowV m val (insNm k (.sr j)) := by
            show ints ((insN k m.snaps s).getD j default).2.2 = ints (m.snaps.getD (skip2 k j) default).2.2
            rw [getD_ins s hk, if_neg hjk]
          rw [e3, e4]; exact hr
  · by_cases ea : a.kind = 3
    · have ea' := live3 ha ea
      have eb : b.kind ≠ 3 := fun x => hab (ea'.trans (live3 hb2 x).symm)
      subst ea'
      have hga : v.ownBlock = some g := hga
      by_cases nb : isNew k b
      · rw [insVal_new nb]; exact fun x => hnew g x hga
      · rw [insVal_eq eb nb]; exact fun x => hold _ (insNm_live hk hb2 nb) (hns eb) g x hga
    · by_cases na : isNew k a
      · rw [insVal_new na] at hga
        by_cases eb : b.kind = 3
        · have eb' := live3 hb2 eb
          subst eb'
          exact hnew g hga
        · have nb : ¬ isNew k b := fun x => hab ((isNew_eq na).trans (isNew_eq x).symm)
          rw [insVal_eq eb nb]
          exact hrf _ (insNm_live hk hb2 nb) g hga
      · rw [insVal_eq ea na] at hga
        by_cases eb : b.kind = 3
        · have eb' := live3 hb2 eb
          subst eb'
          exact hold _ (insNm_live hk ha na) (hns ea) g hga
        · by_cases nb : isNew k b
          · rw [insVal_new nb]; exact fun x => hrf _ (insNm_live hk ha na) g x hga
          · rw [insVal_eq eb nb]
            exact h.apart _ _ (insNm_live hk ha na) (insNm_live hk hb2 nb) (insNm_inj hab na nb) g hga

theorem DTo.ins {W W' : World} {B D k : Nat} {val : Nm → Value} {m : ImgD} {v rv : Value} {s : SnapD} (h : DK W B D val m) (hB : B ≤ W.heap.size) (hk : k ≤ m.snaps.length)
    (hr : W.ownsRow B 3 1 rv s.2.2.length (ints s.2.2)) (hrf : ∀ b, Live m b → ∀ g, rv.ownBlock = some g → (val b).ownBlock ≠ some g) (hrD : rv.ownBlock ≠ some D)
    (hv : W'.ownsRow B 64 3 v (m.snaps.length + 1) ((flatN m.snaps (fun j => val (.sr j))).take (k * 3) ++ [.string s.1, .int .i64 s.2.1, rv] ++ (flatN m.snaps (fun j => val (.sr j))).drop (k * 3)))
    (hg : W.grownBy W' (val .snaps).ownBlock) (hb : v.ownBlock = (val .snaps).ownBlock ∨ v.ownBlock = some W.heap.size) : DTo W (W'.setCell ⟨D, 4, none⟩ v) B D m val rv (insM m k s) (insVal val v rv k) := by
  have hval : ∀ q, q < W.heap.size → rv.ownBlock ≠ some q → (∀ b, Live m b → (val b).ownBlock ≠ some q) → ∀ a, Live (insM m k s) a → (insVal val v rv k a).ownBlock ≠ some q := fun q hq hrq hm a ha => by
    by_cases e : a.kind = 3
    · have ea := live3 ha e
      subst ea
      show v.ownBlock ≠ some q
      rcases hb with x | x
      · rw [x]; exact hm .snaps (Live.snaps m)
      · rw [x]; intro y; have := Option.some.inj y; omega
    · by_cases en : isNew k a
      · rw [insVal_new en]; exact hrq
      · rw [insVal_eq e en]; exact hm _ (insNm_live hk ha en)
  have hf := hval D h.lt hrD h.far
  have hbel : Below B W W' := Below.grown (Below.refl _ _) hg hB (fun q e => ((h.own.row .snaps (Live.snaps m)).lt q e).1)
  refine ⟨⟨(h.own.ins hk hr hrf hv hg hb).far hf, ?_, h.ge, hf⟩, hbel.setCell h.ge _, fun q hq hD _ hm => (Below.heap_setCell W' ⟨D, 4, none⟩ v q hD).trans (hg.block q hq (fun e => hm .snaps (Live.snaps m) e.symm)), fun q hq hrq hm => hval q hq hrq hm⟩
  have hbox := (hg.block D h.lt (fun e => h.far .snaps (Live.snaps m) e.symm)).trans h.box
  exact cells_set hbox 4 v
end Go.Proofs.Ytehleeibgkpjmae
