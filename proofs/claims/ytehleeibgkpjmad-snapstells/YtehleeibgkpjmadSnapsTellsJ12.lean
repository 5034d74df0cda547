/- Texts joined: SnW, SnC. -/
import Derived.Test.YtehleeibgkpjmadSnapsTellsJ11
import Derived.Test.YtehleeibgkpjmadSnapsTellsJ5
import Derived.Test.YtehleeibgkpjmadSnapsTellsJ9
/- What Create, Revert do on the desk; and the closure of with. -/
namespace Go.Proofs.Ytehleeibgkpjmad
open Go.RowKit Go.Shelf Go.Lib
set_option maxRecDepth 20000
set_option linter.unusedVariables false
set_option linter.unusedSimpArgs false

theorem row_blkN {W W' : World} {B n size : Nat} {e : TypeId} {v : Value} {xs : List Value} (h : W.ownsRow B e size v n xs) (hb : ∀ g, v.ownBlock = some g → W'.heap[g]? = W.heap[g]?) : W'.ownsRow B e size v n xs := by
  refine ⟨h.1, ?_⟩
  rcases h.2 with hn | ⟨g, cap, cur, hv, hb', hg, rest⟩
  · exact .inl hn
  · exact .inr ⟨g, cap, cur, hv, hb', (hb g (by rw [hv]; rfl)).trans hg, rest⟩
theorem oneN {W : World} {B : Nat} {a0 : Value} {t : TypeId} (h : W.heap[B]? = some (.cells #[a0] t)) : W.cell? ⟨B, 0, none⟩ = some a0 := by simp [World.cell?, h]
theorem to_drewN {n : Nat} {w W : World} (h : Below n w W) : Below n w W.drew := h.drew
structure CrR (W wx : World) (B b4 : Nat) (nm : ByteArray) (g : Int) (rv : Value) (r : List Int) : Prop where
  bel : Below W.heap.size W wx
  ge : W.heap.size ≤ b4
  box : wx.heap[b4]? = some (.cells #[.string nm, .int .i64 g, rv] 72)
  row : wx.ownsRow B 3 1 rv r.length (ints r)
  new : ∀ q, rv.ownBlock = some q → W.heap.size ≤ q ∧ q ≠ b4
theorem threeC {W : World} {B : Nat} {a b c : Value} {t : TypeId} (h : W.heap[B]? = some (.cells #[a, b, c] t)) : W.cell? ⟨B, 0, none⟩ = some a ∧ W.cell? ⟨B, 1, none⟩ = some b ∧ W.cell? ⟨B, 2, none⟩ = some c := by
  refine ⟨?_, ?_, ?_⟩ <;> simp [World.cell?, h]
theorem heap_three {W : World} {D : Nat} {x0 x1 x2 : Value} {T : TypeId} (h : W.heap[D]? = some (.cells #[x0, x1, x2] T)) (a0 a1 a2 : Value) : (((W.setCell ⟨D, 0, none⟩ a0).setCell ⟨D, 1, none⟩ a1).setCell ⟨D, 2, none⟩ a2).heap[D]? = some (.cells #[a0, a1, a2] T) := by
  have h1 := cells_set h 0 a0
  have h2 := cells_set h1 1 a1
  have h3 := cells_set h2 2 a2
  exact h3
theorem heap_threeF {W : World} {D q : Nat} (a0 a1 a2 : Value) (hq : q ≠ D) : (((W.setCell ⟨D, 0, none⟩ a0).setCell ⟨D, 1, none⟩ a1).setCell ⟨D, 2, none⟩ a2).heap[q]? = W.heap[q]? :=
  (Below.heap_setCell _ ⟨D, 2, none⟩ a2 q hq).trans ((Below.heap_setCell _ ⟨D, 1, none⟩ a1 q hq).trans (Below.heap_setCell _ ⟨D, 0, none⟩ a0 q hq))
theorem CrR.mk3 {W X : World} {B b4 : Nat} {nm : ByteArray} {g : Int} {rv : Value} {r : List Int} {x0 x1 x2 : Value} (hb : Below W.heap.size W X) (hge : W.heap.size ≤ b4) (hbox : X.heap[b4]? = some (.cells #[x0, x1, x2] 72)) (hrow : X.ownsRow B 3 1 rv r.length (ints r)) (hnew : ∀ q, rv.ownBlock = some q → W.heap.size ≤ q ∧ q ≠ b4) :
    CrR W (((X.setCell ⟨b4, 0, none⟩ (.string nm)).setCell ⟨b4, 1, none⟩ (.int .i64 g)).setCell ⟨b4, 2, none⟩ rv) B b4 nm g rv r :=
  ⟨((hb.setCell hge _).setCell hge _).setCell hge _, hge, heap_three hbox _ _ _, row_blkN hrow (fun q e => heap_threeF _ _ _ (hnew q e).2), hnew⟩
set_option maxHeartbeats 4000000 in
theorem create_turn {w : World} {m : ImgD} {nm : ByteArray} {k bn bi : Nat} (cn : w.cell? ⟨bn, 0, none⟩ = some (.string nm)) (ci : w.cell? ⟨bi, 0, none⟩ = some (.int .i64 (k : Int))) (ln : bn < w.heap.size) (li : bi < w.heap.size) (hs : shapeE m = 0) (hk : k ≤ m.snaps.length) :
    Turns w 52 #[.pointer (some ⟨bn, 0, none⟩), .pointer (some ⟨bi, 0, none⟩)] m (some (insM m k (nm, m.guest, m.root))) := by
  intro W D B val hb h1 h2 hK
  have cn := (hb.cell (p := ⟨bn, 0, none⟩) ln).trans cn
  have ci := (hb.cell (p := ⟨bi, 0, none⟩) li).trans ci
  have lnW : bn < W.heap.size := Nat.lt_of_lt_of_le ln hb.size
  have liW : bi < W.heap.size := Nat.lt_of_lt_of_le li hb.size
  have liB : bi < B := Nat.lt_of_lt_of_le li h1
  have hDB := hK.ge
  have hDlt := hK.lt
  show Calls Try.prog 52 #[.pointer (some ⟨D, 0, none⟩), .pointer (some ⟨bn, 0, none⟩), .pointer (some ⟨bi, 0, none⟩)] W (fun r W' => ∃ val', r = .returned (.tuple #[]) ∧ DTo W W' B D m val nilV (insM m k (nm, m.guest, m.root)) val')
  have h3l := (shapeE_zero hs).1
  have hr4 : m.root.length ≤ 4 := by
    obtain ⟨f1, f2, f3, _⟩ := snap_fit hs (s := (⟨#[]⟩, m.guest, m.root)) List.mem_cons_self
    dsimp only at f1 f2 f3
    omega
  obtain ⟨ra, rc, e0, _⟩ := hK.own.forms .root (Live.root m)
  obtain ⟨sa, sc, e1, _⟩ := hK.own.forms .slots (Live.slots m)
  obtain ⟨fa, fc, e2, _⟩ := hK.own.forms .refs (Live.refs m)
  obtain ⟨na, nc, e3, _⟩ := hK.own.forms .snaps (Live.snaps m)
  have e0 : val .root = .slice ra m.root.length rc := e0
  have e1 : val .slots = .slice sa m.slots.length sc := e1
  have e2 : val .refs = .slice fa m.refs.length fc := e2
  have e3 : val .snaps = .slice na m.snaps.length nc := e3
  have hbox := hK.box
  rw [e0, e1, e2, e3] at hbox
  have HC : Hid (∀ X, Below W.heap.size W X → Calls Try.prog 53 #[.slice ra m.root.length rc] X fun r w' => ∃ v', r = .returned v' ∧ w'.ownsRow X.heap.size 3 1 v' m.root.length (ints m.root) ∧ Below X.heap.size X w') := fun X hX => by
    have := clone_ints (row_sl ((hK.below hX).own.row .root (Live.root m))) (by have := room_is; omega)
    rw [e0] at this
    exact this
  have HK : Hid (DK W B D val m ∧ B ≤ W.heap.size ∧ val .snaps = .slice na m.snaps.length nc) := ⟨hK, h2, e3⟩
  clear hb h1 h2 hK e0 e1 e2 e3 hs
  go_enter Try.func52, Try.ntmps52
  go_upto_region 0 with fail
  go_cut [4] from 5 (fun s wx => ∃ b4 rv, s = .pointer (some ⟨b4, 0, none⟩) ∧ Hid (CrR W wx B b4 nm m.guest rv m.root))
  case first =>
    refine wp_region_held_drew (S := (fun X : World => X.heap[D]? = some (.cells #[.int .i64 m.guest, .slice ra m.root.length rc, .slice sa m.slots.length sc, .slice fa m.refs.length fc, .slice na m.snaps.length nc] 57) ∧ X.cell? ⟨bn, 0, none⟩ = some (.string nm))) (by kernel_rfl) ⟨hbox, cn⟩ (fun hHeld => ?_)
    refine wpAnyH_take (i := 0) (v := .string nm) rfl (by kernel_rfl) (by kernel_rfl) (by kernel_rfl) (fun _ _ _ h => h) (Or.inl ⟨by rfl, fun w' hSw => by obtain ⟨qa, qb⟩ := hSw; obtain ⟨j0, j1, j2, j3, j4⟩ := five qa; go_simp⟩) hHeld ?_
    simp only [Act.put, List.getElem_toArray, List.getElem_cons_succ, List.getElem_cons_zero, List.setIfInBounds_toArray, List.set_cons_zero, List.set_cons_succ]
    refine wpAnyH_take (i := 1) (v := .pointer (some ⟨D, 0, none⟩)) rfl (by kernel_rfl) (by kernel_rfl) (by kernel_rfl) (fun _ _ _ h => h) (Or.inl ⟨by rfl, fun w' hSw => by go_simp⟩) hHeld ?_
    simp only [Act.put, List.getElem_toArray, List.getElem_cons_succ, List.getElem_cons_zero, List.setIfInBounds_toArray, List.set_cons_zero, List.set_cons_succ]
    refine wpAnyH_take (i := 2) (v := .pointer (some ⟨D, 0, none⟩)) rfl (by kernel_rfl) (by kernel_rfl) (by kernel_rfl) (fun _ _ _ h => h) (Or.inl ⟨by rfl, fun w' hSw => by go_simp⟩) hHeld ?_
    simp only [Act.put, List.getElem_toArray, List.getElem_cons_succ, List.getElem_cons_zero, List.setIfInBounds_toArray, List.set_cons_zero, List.set_cons_succ]
    refine wpAnyH_take (i := 3) (v := .pointer (some ⟨D, 0, none⟩)) rfl (by kernel_rfl) (by kernel_rfl) (by kernel_rfl) (fun _ _ _ h => h) (Or.inl ⟨by rfl, fun w' hSw => by go_simp⟩) hHeld ?_
    simp only [Act.put, List.getElem_toArray, List.getElem_cons_succ, List.getElem_cons_zero, List.setIfInBounds_toArray, List.set_cons_zero, List.set_cons_succ]
    refine wpAnyH_take (i := 4) (v := .pointer (some ⟨D, 0, none⟩)) rfl (by kernel_rfl) (by kernel_rfl) (by kernel_rfl) (fun _ _ _ h => h) (Or.inl ⟨by rfl, fun w' hSw => by go_simp⟩) hHeld ?_
    simp only [Act.put, List.getElem_toArray, List.getElem_cons_succ, List.getElem_cons_zero, List.setIfInBounds_toArray, List.set_cons_zero, List.set_cons_succ]
    refine wpAnyH_take (i := 5) (v := .int .i64 m.guest) rfl (by kernel_rfl) (by kernel_rfl) (by kernel_rfl) (fun _ _ _ h => h) (Or.inl ⟨by rfl, fun w' hSw => by obtain ⟨qa, qb⟩ := hSw; obtain ⟨j0, j1, j2, j3, j4⟩ := five qa; go_simp⟩) hHeld ?_
    simp only [Act.put, List.getElem_toArray, List.getElem_cons_succ, List.getElem_cons_zero, List.setIfInBounds_toArray, List.set_cons_zero, List.set_cons_succ]
    refine wpAnyH_take (i := 6) (v := .pointer (some ⟨D, 0, none⟩)) rfl (by kernel_rfl) (by kernel_rfl) (by kernel_rfl) (fun _ _ _ h => h) (Or.inl ⟨by rfl, fun w' hSw => by go_simp⟩) hHeld ?_
    simp only [Act.put, List.getElem_toArray, List.getElem_cons_succ, List.getElem_cons_zero, List.setIfInBounds_toArray, List.set_cons_zero, List.set_cons_succ]
    refine wpAnyH_take (i := 7) (v := .pointer (some ⟨D, 0, none⟩)) rfl (by kernel_rfl) (by kernel_rfl) (by kernel_rfl) (fun _ _ _ h => h) (Or.inl ⟨by rfl, fun w' hSw => by go_simp⟩) hHeld ?_
    simp only [Act.put, List.getElem_toArray, List.getElem_cons_succ, List.getElem_cons_zero, List.setIfInBounds_toArray, List.set_cons_zero, List.set_cons_succ]
    refine wpAnyH_take (i := 8) (v := .pointer (some ⟨D, 0, none⟩)) rfl (by kernel_rfl) (by kernel_rfl) (by kernel_rfl) (fun _ _ _ h => h) (Or.inl ⟨by rfl, fun w' hSw => by go_simp⟩) hHeld ?_
    simp only [Act.put, List.getElem_toArray, List.getElem_cons_succ, List.getElem_cons_zero, List.setIfInBounds_toArray, List.set_cons_zero, List.set_cons_succ]
    refine wpAnyH_take (i := 9) (v := .pointer (some ⟨D, 1, none⟩)) rfl (by kernel_rfl) (by kernel_rfl) (by kernel_rfl) (fun _ _ _ h => h) (Or.inl ⟨by rfl, fun w' hSw => by go_simp⟩) hHeld ?_
    simp only [Act.put, List.getElem_toArray, List.getElem_cons_succ, List.getElem_cons_zero, List.setIfInBounds_toArray, List.set_cons_zero, List.set_cons_succ]
    refine wpAnyH_take (i := 10) (v := .slice ra m.root.length rc) rfl (by kernel_rfl) (by kernel_rfl) (by kernel_rfl) (fun _ _ _ h => h) (Or.inl ⟨by rfl, fun w' hSw => by obtain ⟨qa, qb⟩ := hSw; obtain ⟨j0, j1, j2, j3, j4⟩ := five qa; go_simp⟩) hHeld ?_
    simp only [Act.put, List.getElem_toArray, List.getElem_cons_succ, List.getElem_cons_zero, List.setIfInBounds_toArray, List.set_cons_zero, List.set_cons_succ]
    refine wpAnyH_ready (rs := [11, 13]) (by kernel_rfl) (by simp) ?_
    refine AllReadyH.cons rfl (fun K hK => ?_) (AllReadyH.cons rfl (fun K hK => ?_) AllReadyH.nil)
    · clear hHeld
      simp only [Act.put, List.getElem_toArray, List.getElem_cons_succ, List.getElem_cons_zero, List.setIfInBounds_toArray, List.set_cons_zero, List.set_cons_succ]
      rw [if_pos (by rfl)]
      go_wp2_with (go_at_call 53; refine (HC.out _ (to_drewN (Below.refl _ _))).mono ?_; rintro e9 w1 ⟨rv, rfl, hrow, b1⟩; obtain ⟨va, vc, rfl⟩ := row_slice hrow)
      have b1 : Below W.heap.size W w1 := below_drew b1
      have hrow : w1.ownsRow W.heap.size 3 1 (.slice va m.root.length vc) m.root.length (ints m.root) := hrow
      have hb1 := cells_below hbox b1 hDlt
      have cn1 := (b1.cell (p := ⟨bn, 0, none⟩) lnW).trans cn
      refine hK.out _ _ ⟨hb1, cn1⟩ (fun hHeld => ?_)
      clear hK K
      try simp only [Act.put, List.getElem_toArray, List.getElem_cons_succ, List.getElem_cons_zero, List.setIfInBounds_toArray, List.set_cons_zero, List.set_cons_succ]
      refine wpAnyH_take (i := 12) (v := .agg #[.string nm, .int .i64 m.guest, .slice va m.root.length vc]) rfl (by kernel_rfl) (by kernel_rfl) (by kernel_rfl) (fun _ _ _ h => h) (Or.inl ⟨by rfl, fun w' hSw => by go_simp⟩) hHeld ?_
      simp only [Act.put, List.getElem_toArray, List.getElem_cons_succ, List.getElem_cons_zero, List.setIfInBounds_toArray, List.set_cons_zero, List.set_cons_succ]
      refine wpAnyH_ready (rs := [13]) (by kernel_rfl) (by simp) ?_
      refine AllReadyH.cons rfl (fun K hK => ?_) AllReadyH.nil
      clear hHeld
      simp only [Act.put, List.getElem_toArray, List.getElem_cons_succ, List.getElem_cons_zero, List.setIfInBounds_toArray, List.set_cons_zero, List.set_cons_succ]
      rw [if_pos (by rfl)]
      go_simp
      obtain ⟨X1, hX1⟩ : ∃ X, X = (w1.alloc (.cells #[.string ⟨#[]⟩, .int .i64 0, .slice none 0 0] 72)) := ⟨_, rfl⟩
      have hX1b : Below W.heap.size W X1 := by rw [hX1]; exact b1.alloc b1.size _
      have k4 : X1.heap[w1.heap.size]? = some (.cells #[.string ⟨#[]⟩, .int .i64 0, .slice none 0 0] 72) := by rw [hX1]; exact World.alloc_heap_new _ _
      have hrowX : X1.ownsRow W.heap.size 3 1 (.slice va m.root.length vc) m.root.length (ints m.root) := by rw [hX1]; exact row_blkN hrow (fun q e => Below.heap_alloc w1 _ q ((hrow.lt q e).2))
      have HH : Hid (X1.heap[D]? = some (.cells #[.int .i64 m.guest, .slice ra m.root.length rc, .slice sa m.slots.length sc, .slice fa m.refs.length fc, .slice na m.snaps.length nc] 57) ∧ X1.cell? ⟨bn, 0, none⟩ = some (.string nm)) := ⟨by rw [hX1]; exact cells_alloc hb1 _, (hX1b.cell (p := ⟨bn, 0, none⟩) lnW).trans cn⟩
      rw [← hX1]
      clear hX1
      refine hK.out _ _ HH.out (fun hHeld => ?_)
      clear hK K
      try simp only [Act.put, List.getElem_toArray, List.getElem_cons_succ, List.getElem_cons_zero, List.setIfInBounds_toArray, List.set_cons_zero, List.set_cons_succ]
      refine wpAnyH_ready (rs := [14]) (by kernel_rfl) (by simp) ?_
      refine AllReadyH.cons rfl (fun K hK => ?_) AllReadyH.nil
      clear hHeld
      simp only [Act.put, List.getElem_toArray, List.getElem_cons_succ, List.getElem_cons_zero, List.setIfInBounds_toArray, List.set_cons_zero, List.set_cons_succ]
      rw [if_pos (by rfl)]
      have hb4 : X1.heap[w1.heap.size]? = some (.cells #[.string ⟨#[]⟩, .int .i64 0, .slice none 0 0] 72) := k4
      obtain ⟨t0, t1, t2⟩ := threeC hb4
      have y0 := cells_frozen hb4 0
      have y1 := cells_frozen hb4 1
      have y2 := cells_frozen hb4 2
      have HR : Hid (CrR W (((X1.setCell ⟨w1.heap.size, 0, none⟩ (.string nm)).setCell ⟨w1.heap.size, 1, none⟩ (.int .i64 m.guest)).setCell ⟨w1.heap.size, 2, none⟩ (.slice va m.root.length vc)) B (w1.heap.size) nm m.guest (.slice va m.root.length vc) m.root) := CrR.mk3 (hX1b) (b1.size) hb4 (row_mono hrowX HK.out.2.1) (fun q e => ⟨(hrow.lt q e).1, by have := (hrow.lt q e).2; omega⟩)
      have HS : Hid ((fun X : World => X.heap[D]? = some (.cells #[.int .i64 m.guest, .slice ra m.root.length rc, .slice sa m.slots.length sc, .slice fa m.refs.length fc, .slice na m.snaps.length nc] 57) ∧ X.cell? ⟨bn, 0, none⟩ = some (.string nm)) (((X1.setCell ⟨w1.heap.size, 0, none⟩ (.string nm)).setCell ⟨w1.heap.size, 1, none⟩ (.int .i64 m.guest)).setCell ⟨w1.heap.size, 2, none⟩ (.slice va m.root.length vc))) := ⟨(heap_threeF _ _ _ (by have := b1.size; omega)).trans (HH.out.1), (by have := HR.out.bel.cell (p := ⟨bn, 0, none⟩) lnW; exact this.trans cn)⟩
      clear hb4
      go_simp
      refine hK.out _ _ HS.out (fun hHeld => ?_)
      clear hK K hHeld
      try simp only [Act.put, List.getElem_toArray, List.getElem_cons_succ, List.getElem_cons_zero, List.setIfInBounds_toArray, List.set_cons_zero, List.set_cons_succ]
      refine wpAnyH_done (by kernel_rfl) ?_ _
      go_wp2_with fail
      go_meet
      exact ⟨_, _, rfl, HR⟩
    · clear hHeld
      simp only [Act.put, List.getElem_toArray, List.getElem_cons_succ, List.getElem_cons_zero, List.setIfInBounds_toArray, List.set_cons_zero, List.set_cons_succ]
      rw [if_pos (by rfl)]
      go_simp
      obtain ⟨X1, hX1⟩ : ∃ X, X = (W.alloc (.cells #[.string ⟨#[]⟩, .int .i64 0, .slice none 0 0] 72)).drew := ⟨_, rfl⟩
      have b0 : Below W.heap.size W X1 := by rw [hX1]; exact to_drewN ((Below.refl _ _).alloc (Nat.le_refl _) _)
      have hz1 : X1.heap.size = W.heap.size + 1 := by rw [hX1]; show (W.alloc (.cells #[.string ⟨#[]⟩, .int .i64 0, .slice none 0 0] 72)).heap.size = _; simp
      have k4 : X1.heap[W.heap.size]? = some (.cells #[.string ⟨#[]⟩, .int .i64 0, .slice none 0 0] 72) := by rw [hX1]; exact World.alloc_heap_new _ _
      have HH0 : Hid (X1.heap[D]? = some (.cells #[.int .i64 m.guest, .slice ra m.root.length rc, .slice sa m.slots.length sc, .slice fa m.refs.length fc, .slice na m.snaps.length nc] 57) ∧ X1.cell? ⟨bn, 0, none⟩ = some (.string nm)) := ⟨cells_below hbox b0 hDlt, (b0.cell (p := ⟨bn, 0, none⟩) lnW).trans cn⟩
      rw [← hX1]
      clear hX1
      refine hK.out _ _ HH0.out (fun hHeld => ?_)
      clear hK K
      try simp only [Act.put, List.getElem_toArray, List.getElem_cons_succ, List.getElem_cons_zero, List.setIfInBounds_toArray, List.set_cons_zero, List.set_cons_succ]
      refine wpAnyH_ready (rs := [11]) (by kernel_rfl) (by simp) ?_
      refine AllReadyH.cons rfl (fun K hK => ?_) AllReadyH.nil
      clear hHeld
      simp only [Act.put, List.getElem_toArray, List.getElem_cons_succ, List.getElem_cons_zero, List.setIfInBounds_toArray, List.set_cons_zero, List.set_cons_succ]
      rw [if_pos (by rfl)]
      go_wp2_with (go_at_call 53; refine (HC.out _ (b0)).mono ?_; rintro e9 w1 ⟨rv, rfl, hrow, b1⟩; obtain ⟨va, vc, rfl⟩ := row_slice hrow)
      have b2 : Below W.heap.size W w1 := b0.trans (b1.mono (by omega))
      have k4 := cells_below k4 b1 (by omega)
      have HH : Hid (w1.heap[D]? = some (.cells #[.int .i64 m.guest, .slice ra m.root.length rc, .slice sa m.slots.length sc, .slice fa m.refs.length fc, .slice na m.snaps.length nc] 57) ∧ w1.cell? ⟨bn, 0, none⟩ = some (.string nm)) := ⟨cells_below hbox b2 hDlt, (b2.cell (p := ⟨bn, 0, none⟩) lnW).trans cn⟩
      refine hK.out _ _ HH.out (fun hHeld => ?_)
      clear hK K
      try simp only [Act.put, List.getElem_toArray, List.getElem_cons_succ, List.getElem_cons_zero, List.setIfInBounds_toArray, List.set_cons_zero, List.set_cons_succ]
      refine wpAnyH_take (i := 12) (v := .agg #[.string nm, .int .i64 m.guest, .slice va m.root.length vc]) rfl (by kernel_rfl) (by kernel_rfl) (by kernel_rfl) (fun _ _ _ h => h) (Or.inl ⟨by rfl, fun w' hSw => by go_simp⟩) hHeld ?_
      simp only [Act.put, List.getElem_toArray, List.getElem_cons_succ, List.getElem_cons_zero, List.setIfInBounds_toArray, List.set_cons_zero, List.set_cons_succ]
      refine wpAnyH_ready (rs := [14]) (by kernel_rfl) (by simp) ?_
      refine AllReadyH.cons rfl (fun K hK => ?_) AllReadyH.nil
      clear hHeld
      simp only [Act.put, List.getElem_toArray, List.getElem_cons_succ, List.getElem_cons_zero, List.setIfInBounds_toArray, List.set_cons_zero, List.set_cons_succ]
      rw [if_pos (by rfl)]
      have hb4 : w1.heap[W.heap.size]? = some (.cells #[.string ⟨#[]⟩, .int .i64 0, .slice none 0 0] 72) := k4
      obtain ⟨t0, t1, t2⟩ := threeC hb4
      have y0 := cells_frozen hb4 0
      have y1 := cells_frozen hb4 1
      have y2 := cells_frozen hb4 2
      have HR : Hid (CrR W (((w1.setCell ⟨W.heap.size, 0, none⟩ (.string nm)).setCell ⟨W.heap.size, 1, none⟩ (.int .i64 m.guest)).setCell ⟨W.heap.size, 2, none⟩ (.slice va m.root.length vc)) B (W.heap.size) nm m.guest (.slice va m.root.length vc) m.root) := CrR.mk3 (b2) (Nat.le_refl W.heap.size) hb4 (row_mono hrow (by have := HK.out.2.1; omega)) (fun q e => ⟨by have := (hrow.lt q e).1; omega, by have := (hrow.lt q e).1; omega⟩)
      have HS : Hid ((fun X : World => X.heap[D]? = some (.cells #[.int .i64 m.guest, .slice ra m.root.length rc, .slice sa m.slots.length sc, .slice fa m.refs.length fc, .slice na m.snaps.length nc] 57) ∧ X.cell? ⟨bn, 0, none⟩ = some (.string nm)) (((w1.setCell ⟨W.heap.size, 0, none⟩ (.string nm)).setCell ⟨W.heap.size, 1, none⟩ (.int .i64 m.guest)).setCell ⟨W.heap.size, 2, none⟩ (.slice va m.root.length vc))) := ⟨(heap_threeF _ _ _ (by have := Nat.le_refl W.heap.size; omega)).trans (HH.out.1), (by have := HR.out.bel.cell (p := ⟨bn, 0, none⟩) lnW; exact this.trans cn)⟩
      clear hb4
      go_simp
      refine hK.out _ _ HS.out (fun hHeld => ?_)
      clear hK K hHeld
      try simp only [Act.put, List.getElem_toArray, List.getElem_cons_succ, List.getElem_cons_zero, List.setIfInBounds_toArray, List.set_cons_zero, List.set_cons_succ]
      refine wpAnyH_done (by kernel_rfl) ?_ _
      go_wp2_with fail
      go_meet
      exact ⟨_, _, rfl, HR⟩
  case rest =>
  obtain ⟨b4, rv, rfl, HR⟩ := hcut
  obtain ⟨W1, hW1⟩ : ∃ X, X = wc := ⟨_, rfl⟩
  subst hW1
  obtain ⟨va, vc, rfl⟩ := row_slice HR.out.row
  have b1 := HR.out.bel
  have hge := HR.out.ge
  have hbx1 := HR.out.box
  have ci1 := (b1.cell (p := ⟨bi, 0, none⟩) liW).trans ci
  have hbD := cells_below hbox b1 hDlt
  obtain ⟨o0, o1, o2, o3, o4⟩ := five hbD
  have hb4lt := (Array.getElem?_eq_some_iff.1 hbx1).1
  have hs1 := b1.size
  have HI : Hid (∀ X N, Below W1.heap.size W1 X → X.heap[N]? = some (.cells #[.string nm, .int .i64 m.guest, .slice va m.root.length vc] 72) → W1.heap.size ≤ N → Calls Try.prog 54 #[.slice na m.snaps.length nc, .int .i64 (k : Int), .slice (some ⟨N, 0, none⟩) 1 1] X fun r w' => ∃ v', r = .returned v' ∧ DTo W (w'.setCell ⟨D, 4, none⟩ v') B D m val nilV (insM m k (nm, m.guest, m.root)) (insVal val v' (.slice va m.root.length vc) k) ∧ w'.heap[D]? = some (.cells #[.int .i64 m.guest, .slice ra m.root.length rc, .slice sa m.slots.length sc, .slice fa m.refs.length fc, .slice na m.snaps.length nc] 57) ∧ w'.heap[b4]? = some (.cells #[.string nm, .int .i64 m.guest, .slice va m.root.length vc] 72) ∧ w'.cell? ⟨bi, 0, none⟩ = some (.int .i64 (k : Int)) ∧ ∃ a c, v' = .slice a (m.snaps.length + 1) c) := fun X N hX hN hNge => by
    have hD := HK.out.1.below (Below.on b1 hX)
    have hrow : X.ownsRow B 72 3 (val .snaps) m.snaps.length (flatN m.snaps (fun j => val (.sr j))) := hD.own.row .snaps (Live.snaps m)
    have hins := insert_is B m.snaps.length k N (val .snaps) _ (.string nm) (.int .i64 m.guest) (.slice va m.root.length vc) X (Nat.le_trans HK.out.2.1 (Nat.le_trans hs1 hX.size)) (by omega) hk hrow (flatN_one hD.own) hN (fun e => by have := ((HK.out.1.own.row .snaps (Live.snaps m)).lt N e).2; omega) (by intro u hu; simp at hu; rcases hu with rfl | rfl | rfl <;> rfl)
    rw [HK.out.2.2] at hins
    refine hins.mono ?_
    rintro r w' ⟨v', rfl, k1, k2, k3⟩
    have hne : ∀ q, W.heap.size ≤ q → ¬ (val .snaps).ownBlock = some q := fun q hq e => by have := ((HK.out.1.own.row .snaps (Live.snaps m)).lt q e).2; omega
    have hrv : X.ownsRow B 3 1 (.slice va m.root.length vc) m.root.length (ints m.root) := row_blkN HR.out.row (fun q e => hX.block q ((HR.out.row.lt q e).2))
    have k2' : X.grownBy w' (val .snaps).ownBlock := by rw [HK.out.2.2]; exact k2
    have hT := DTo.ins (s := (nm, m.guest, m.root)) hD (Nat.le_trans HK.out.2.1 (Nat.le_trans hs1 hX.size)) hk hrv (fun b hb g hg x => by have := (HR.out.new g hg).1; have := ((HK.out.1.own.row b hb).lt g x).2; omega) (fun e => by have := (HR.out.new D e).1; omega) k1 k2' (by rw [HK.out.2.2]; exact k3)
    have hbel : Below B X w' := Below.grown (Below.refl _ _) k2' (Nat.le_trans HK.out.2.1 (Nat.le_trans hs1 hX.size)) (fun q e => ((hrow).lt q e).1)
    refine ⟨v', rfl, DTo.first (Below.on b1 hX) HK.out.2.1 hT (fun q e => (HR.out.new q e).1), ?_, ?_, ?_, row_slice k1⟩
    · exact (k2'.block D (Nat.lt_of_lt_of_le hDlt (Nat.le_trans hs1 hX.size)) (fun e => HK.out.1.far .snaps (Live.snaps m) e.symm)).trans (cells_below hbD hX (Nat.lt_of_lt_of_le hDlt hs1))
    · exact (k2'.block b4 (Nat.lt_of_lt_of_le hb4lt hX.size) (fun e => hne b4 hge e.symm)).trans (cells_below hbx1 hX hb4lt)
    · exact (hbel.cell (p := ⟨bi, 0, none⟩) liB).trans ((hX.cell (p := ⟨bi, 0, none⟩) (Nat.lt_of_lt_of_le liW hs1)).trans ci1)
  go_upto_region 1 with fail
  refine wp_region_held_drew (S := (fun X : World => X.cell? ⟨bi, 0, none⟩ = some (.int .i64 (k : Int)) ∧ X.heap[b4]? = some (.cells #[.string nm, .int .i64 m.guest, .slice va m.root.length vc] 72))) (by kernel_rfl) ⟨ci1, hbx1⟩ (fun hHeld => ?_)
  refine wpAnyH_take (i := 0) (v := .pointer (some ⟨D, 0, none⟩)) rfl (by kernel_rfl) (by kernel_rfl) (by kernel_rfl) (fun _ _ _ h => h) (Or.inl ⟨by rfl, fun w' hSw => by go_simp⟩) hHeld ?_
  simp only [Act.put, List.getElem_toArray, List.getElem_cons_succ, List.getElem_cons_zero, List.setIfInBounds_toArray, List.set_cons_zero, List.set_cons_succ]
  refine wpAnyH_take (i := 1) (v := .pointer (some ⟨D, 0, none⟩)) rfl (by kernel_rfl) (by kernel_rfl) (by kernel_rfl) (fun _ _ _ h => h) (Or.inl ⟨by rfl, fun w' hSw => by go_simp⟩) hHeld ?_
  simp only [Act.put, List.getElem_toArray, List.getElem_cons_succ, List.getElem_cons_zero, List.setIfInBounds_toArray, List.set_cons_zero, List.set_cons_succ]
  refine wpAnyH_take (i := 2) (v := .pointer (some ⟨D, 0, none⟩)) rfl (by kernel_rfl) (by kernel_rfl) (by kernel_rfl) (fun _ _ _ h => h) (Or.inl ⟨by rfl, fun w' hSw => by go_simp⟩) hHeld ?_
  simp only [Act.put, List.getElem_toArray, List.getElem_cons_succ, List.getElem_cons_zero, List.setIfInBounds_toArray, List.set_cons_zero, List.set_cons_succ]
  refine wpAnyH_take (i := 3) (v := .pointer (some ⟨D, 0, none⟩)) rfl (by kernel_rfl) (by kernel_rfl) (by kernel_rfl) (fun _ _ _ h => h) (Or.inl ⟨by rfl, fun w' hSw => by go_simp⟩) hHeld ?_
  simp only [Act.put, List.getElem_toArray, List.getElem_cons_succ, List.getElem_cons_zero, List.setIfInBounds_toArray, List.set_cons_zero, List.set_cons_succ]
  refine wpAnyH_take (i := 4) (v := .pointer (some ⟨D, 4, none⟩)) rfl (by kernel_rfl) (by kernel_rfl) (by kernel_rfl) (fun _ _ _ h => h) (Or.inl ⟨by rfl, fun w' hSw => by go_simp⟩) hHeld ?_
  simp only [Act.put, List.getElem_toArray, List.getElem_cons_succ, List.getElem_cons_zero, List.setIfInBounds_toArray, List.set_cons_zero, List.set_cons_succ]
  refine wpAnyH_take (i := 6) (v := .int .i64 (k : Int)) rfl (by kernel_rfl) (by kernel_rfl) (by kernel_rfl) (fun _ _ _ h => h) (Or.inl ⟨by rfl, fun w' hSw => by obtain ⟨qa, qb⟩ := hSw; obtain ⟨j0, j1, j2⟩ := threeC qb; go_simp⟩) hHeld ?_
  simp only [Act.put, List.getElem_toArray, List.getElem_cons_succ, List.getElem_cons_zero, List.setIfInBounds_toArray, List.set_cons_zero, List.set_cons_succ]
  refine wpAnyH_take (i := 7) (v := .agg #[.string nm, .int .i64 m.guest, .slice va m.root.length vc]) rfl (by kernel_rfl) (by kernel_rfl) (by kernel_rfl) (fun _ _ _ h => h) (Or.inl ⟨by rfl, fun w' hSw => by obtain ⟨qa, qb⟩ := hSw; obtain ⟨j0, j1, j2⟩ := threeC qb; go_simp⟩) hHeld ?_
  simp only [Act.put, List.getElem_toArray, List.getElem_cons_succ, List.getElem_cons_zero, List.setIfInBounds_toArray, List.set_cons_zero, List.set_cons_succ]
  refine wpAnyH_ready (rs := [5, 8]) (by kernel_rfl) (by simp) ?_
  refine AllReadyH.cons rfl (fun K hK => ?_) (AllReadyH.cons rfl (fun K hK => ?_) AllReadyH.nil)
  · clear hHeld
    simp only [Act.put, List.getElem_toArray, List.getElem_cons_succ, List.getElem_cons_zero, List.setIfInBounds_toArray, List.set_cons_zero, List.set_cons_succ]
    rw [if_pos (by rfl)]
    have o4' : W1.drew.cell? ⟨D, 4, none⟩ = some (.slice na m.snaps.length nc) := o4
    go_simp
    refine hK.out _ _ ⟨ci1, hbx1⟩ (fun hHeld => ?_)
    clear hK K
    try simp only [Act.put, List.getElem_toArray, List.getElem_cons_succ, List.getElem_cons_zero, List.setIfInBounds_toArray, List.set_cons_zero, List.set_cons_succ]
    refine wpAnyH_ready (rs := [8]) (by kernel_rfl) (by simp) ?_
    refine AllReadyH.cons rfl (fun K hK => ?_) AllReadyH.nil
    clear hHeld
    simp only [Act.put, List.getElem_toArray, List.getElem_cons_succ, List.getElem_cons_zero, List.setIfInBounds_toArray, List.set_cons_zero, List.set_cons_succ]
    rw [if_pos (by rfl)]
    go_simp
    have HS2 : Hid ((fun X : World => X.cell? ⟨bi, 0, none⟩ = some (.int .i64 (k : Int)) ∧ X.heap[b4]? = some (.cells #[.string nm, .int .i64 m.guest, .slice va m.root.length vc] 72)) (W1.alloc (.cells #[.string nm, .int .i64 m.guest, .slice va m.root.length vc] 72)).drew) := ⟨(((Below.refl _ _).alloc (Nat.le_refl _) _).cell (p := ⟨bi, 0, none⟩) (Nat.lt_of_lt_of_le liW hs1)).trans ci1, cells_alloc hbx1 _⟩
    obtain ⟨X2, hX2⟩ : ∃ X, X = (W1.alloc (.cells #[.string nm, .int .i64 m.guest, .slice va m.root.length vc] 72)).drew := ⟨_, rfl⟩
    have b2 : Below W1.heap.size W1 X2 := by rw [hX2]; exact to_drewN ((Below.refl _ _).alloc (Nat.le_refl _) _)
    have k2 : X2.heap[W1.heap.size]? = some (.cells #[.string nm, .int .i64 m.guest, .slice va m.root.length vc] 72) := by rw [hX2]; exact World.alloc_heap_new _ _
    rw [← hX2] at HS2 ⊢
    clear hX2
    refine hK.out _ _ HS2.out (fun hHeld => ?_)
    clear hK K
    try simp only [Act.put, List.getElem_toArray, List.getElem_cons_succ, List.getElem_cons_zero, List.setIfInBounds_toArray, List.set_cons_zero, List.set_cons_succ]
    refine wpAnyH_ready (rs := [9]) (by kernel_rfl) (by simp) ?_
    refine AllReadyH.cons rfl (fun K hK => ?_) AllReadyH.nil
    clear hHeld
    simp only [Act.put, List.getElem_toArray, List.getElem_cons_succ, List.getElem_cons_zero, List.setIfInBounds_toArray, List.set_cons_zero, List.set_cons_succ]
    rw [if_pos (by rfl)]
    go_wp2_with (go_at_call 54; refine (HI.out _ W1.heap.size (b2) (k2) (Nat.le_refl _)).mono ?_; rintro e9 w2 ⟨v2, rfl, hT, hD2, h42, hi2, a2, c2, rfl⟩; have HT : Hid (DTo W (w2.setCell ⟨D, 4, none⟩ (.slice a2 (m.snaps.length + 1) c2)) B D m val nilV (insM m k (nm, m.guest, m.root)) (insVal val (.slice a2 (m.snaps.length + 1) c2) (.slice va m.root.length vc) k)) := hT; clear hT)
    refine hK.out _ _ ⟨hi2, h42⟩ (fun hHeld => ?_)
    clear hK K
    try simp only [Act.put, List.getElem_toArray, List.getElem_cons_succ, List.getElem_cons_zero, List.setIfInBounds_toArray, List.set_cons_zero, List.set_cons_succ]
    refine wpAnyH_take (i := 10) (v := .pointer (some ⟨D, 0, none⟩)) rfl (by kernel_rfl) (by kernel_rfl) (by kernel_rfl) (fun _ _ _ h => h) (Or.inl ⟨by rfl, fun w' hSw => by go_simp⟩) hHeld ?_
    simp only [Act.put, List.getElem_toArray, List.getElem_cons_succ, List.getElem_cons_zero, List.setIfInBounds_toArray, List.set_cons_zero, List.set_cons_succ]
    refine wpAnyH_take (i := 11) (v := .pointer (some ⟨D, 0, none⟩)) rfl (by kernel_rfl) (by kernel_rfl) (by kernel_rfl) (fun _ _ _ h => h) (Or.inl ⟨by rfl, fun w' hSw => by go_simp⟩) hHeld ?_
    simp only [Act.put, List.getElem_toArray, List.getElem_cons_succ, List.getElem_cons_zero, List.setIfInBounds_toArray, List.set_cons_zero, List.set_cons_succ]
    refine wpAnyH_take (i := 12) (v := .pointer (some ⟨D, 4, none⟩)) rfl (by kernel_rfl) (by kernel_rfl) (by kernel_rfl) (fun _ _ _ h => h) (Or.inl ⟨by rfl, fun w' hSw => by go_simp⟩) hHeld ?_
    simp only [Act.put, List.getElem_toArray, List.getElem_cons_succ, List.getElem_cons_zero, List.setIfInBounds_toArray, List.set_cons_zero, List.set_cons_succ]
    refine wpAnyH_ready (rs := [13]) (by kernel_rfl) (by simp) ?_
    refine AllReadyH.cons rfl (fun K hK => ?_) AllReadyH.nil
    clear hHeld
    simp only [Act.put, List.getElem_toArray, List.getElem_cons_succ, List.getElem_cons_zero, List.setIfInBounds_toArray, List.set_cons_zero, List.set_cons_succ]
    rw [if_pos (by rfl)]
    have f4 := cells_frozen hD2 4
    obtain ⟨p0, p1, p2, p3, p4⟩ := five hD2
    have HS : Hid ((fun X : World => X.cell? ⟨bi, 0, none⟩ = some (.int .i64 (k : Int)) ∧ X.heap[b4]? = some (.cells #[.string nm, .int .i64 m.guest, .slice va m.root.length vc] 72)) (w2.setCell ⟨D, 4, none⟩ (.slice a2 (m.snaps.length + 1) c2))) := ⟨(((Below.refl (D) w2).setCell (Nat.le_refl _) _).cell (p := ⟨bi, 0, none⟩) (Nat.lt_of_lt_of_le liB hDB)).trans hi2, cells_other h42 (by omega) _ _⟩
    clear hD2 hi2 h42
    go_simp
    refine hK.out _ _ HS.out (fun hHeld => ?_)
    clear hK K hHeld
    try simp only [Act.put, List.getElem_toArray, List.getElem_cons_succ, List.getElem_cons_zero, List.setIfInBounds_toArray, List.set_cons_zero, List.set_cons_succ]
    refine wpAnyH_done (by kernel_rfl) ?_ _
    go_wp2_with fail
    go_end0
    first | exact ⟨_, rfl, HT.out⟩ | exact ⟨_, _, rfl, HT.out⟩ | exact ⟨_, rfl, _, rfl, HT.out⟩ | exact ⟨rfl, _, HT.out⟩
  · clear hHeld
    simp only [Act.put, List.getElem_toArray, List.getElem_cons_succ, List.getElem_cons_zero, List.setIfInBounds_toArray, List.set_cons_zero, List.set_cons_succ]
    rw [if_pos (by rfl)]
    go_simp
    have HS2 : Hid ((fun X : World => X.cell? ⟨bi, 0, none⟩ = some (.int .i64 (k : Int)) ∧ X.heap[b4]? = some (.cells #[.string nm, .int .i64 m.guest, .slice va m.root.length vc] 72)) (W1.alloc (.cells #[.string nm, .int .i64 m.guest, .slice va m.root.length vc] 72)).drew) := ⟨(((Below.refl _ _).alloc (Nat.le_refl _) _).cell (p := ⟨bi, 0, none⟩) (Nat.lt_of_lt_of_le liW hs1)).trans ci1, cells_alloc hbx1 _⟩
    obtain ⟨X2, hX2⟩ : ∃ X, X = (W1.alloc (.cells #[.string nm, .int .i64 m.guest, .slice va m.root.length vc] 72)).drew := ⟨_, rfl⟩
    have b2 : Below W1.heap.size W1 X2 := by rw [hX2]; exact to_drewN ((Below.refl _ _).alloc (Nat.le_refl _) _)
    have k2 : X2.heap[W1.heap.size]? = some (.cells #[.string nm, .int .i64 m.guest, .slice va m.root.length vc] 72) := by rw [hX2]; exact World.alloc_heap_new _ _
    rw [← hX2] at HS2 ⊢
    clear hX2
    have o4' := (b2.cell (p := ⟨D, 4, none⟩) (Nat.lt_of_lt_of_le hDlt hs1)).trans o4
    refine hK.out _ _ HS2.out (fun hHeld => ?_)
    clear hK K
    try simp only [Act.put, List.getElem_toArray, List.getElem_cons_succ, List.getElem_cons_zero, List.setIfInBounds_toArray, List.set_cons_zero, List.set_cons_succ]
    refine wpAnyH_ready (rs := [5]) (by kernel_rfl) (by simp) ?_
    refine AllReadyH.cons rfl (fun K hK => ?_) AllReadyH.nil
    clear hHeld
    simp only [Act.put, List.getElem_toArray, List.getElem_cons_succ, List.getElem_cons_zero, List.setIfInBounds_toArray, List.set_cons_zero, List.set_cons_succ]
    rw [if_pos (by rfl)]
    go_simp
    refine hK.out _ _ HS2.out (fun hHeld => ?_)
    clear hK K
    try simp only [Act.put, List.getElem_toArray, List.getElem_cons_succ, List.getElem_cons_zero, List.setIfInBounds_toArray, List.set_cons_zero, List.set_cons_succ]
    refine wpAnyH_ready (rs := [9]) (by kernel_rfl) (by simp) ?_
    refine AllReadyH.cons rfl (fun K hK => ?_) AllReadyH.nil
    clear hHeld
    simp only [Act.put, List.getElem_toArray, List.getElem_cons_succ, List.getElem_cons_zero, List.setIfInBounds_toArray, List.set_cons_zero, List.set_cons_succ]
    rw [if_pos (by rfl)]
    go_wp2_with (go_at_call 54; refine (HI.out _ W1.heap.size (b2) (k2) (Nat.le_refl _)).mono ?_; rintro e9 w2 ⟨v2, rfl, hT, hD2, h42, hi2, a2, c2, rfl⟩; have HT : Hid (DTo W (w2.setCell ⟨D, 4, none⟩ (.slice a2 (m.snaps.length + 1) c2)) B D m val nilV (insM m k (nm, m.guest, m.root)) (insVal val (.slice a2 (m.snaps.length + 1) c2) (.slice va m.root.length vc) k)) := hT; clear hT)
    refine hK.out _ _ ⟨hi2, h42⟩ (fun hHeld => ?_)
    clear hK K
    try simp only [Act.put, List.getElem_toArray, List.getElem_cons_succ, List.getElem_cons_zero, List.setIfInBounds_toArray, List.set_cons_zero, List.set_cons_succ]
    refine wpAnyH_take (i := 10) (v := .pointer (some ⟨D, 0, none⟩)) rfl (by kernel_rfl) (by kernel_rfl) (by kernel_rfl) (fun _ _ _ h => h) (Or.inl ⟨by rfl, fun w' hSw => by go_simp⟩) hHeld ?_
    simp only [Act.put, List.getElem_toArray, List.getElem_cons_succ, List.getElem_cons_zero, List.setIfInBounds_toArray, List.set_cons_zero, List.set_cons_succ]
    refine wpAnyH_take (i := 11) (v := .pointer (some ⟨D, 0, none⟩)) rfl (by kernel_rfl) (by kernel_rfl) (by kernel_rfl) (fun _ _ _ h => h) (Or.inl ⟨by rfl, fun w' hSw => by go_simp⟩) hHeld ?_
    simp only [Act.put, List.getElem_toArray, List.getElem_cons_succ, List.getElem_cons_zero, List.setIfInBounds_toArray, List.set_cons_zero, List.set_cons_succ]
    refine wpAnyH_take (i := 12) (v := .pointer (some ⟨D, 4, none⟩)) rfl (by kernel_rfl) (by kernel_rfl) (by kernel_rfl) (fun _ _ _ h => h) (Or.inl ⟨by rfl, fun w' hSw => by go_simp⟩) hHeld ?_
    simp only [Act.put, List.getElem_toArray, List.getElem_cons_succ, List.getElem_cons_zero, List.setIfInBounds_toArray, List.set_cons_zero, List.set_cons_succ]
    refine wpAnyH_ready (rs := [13]) (by kernel_rfl) (by simp) ?_
    refine AllReadyH.cons rfl (fun K hK => ?_) AllReadyH.nil
    clear hHeld
    simp only [Act.put, List.getElem_toArray, List.getElem_cons_succ, List.getElem_cons_zero, List.setIfInBounds_toArray, List.set_cons_zero, List.set_cons_succ]
    rw [if_pos (by rfl)]
    have f4 := cells_frozen hD2 4
    obtain ⟨p0, p1, p2, p3, p4⟩ := five hD2
    have HS : Hid ((fun X : World => X.cell? ⟨bi, 0, none⟩ = some (.int .i64 (k : Int)) ∧ X.heap[b4]? = some (.cells #[.string nm, .int .i64 m.guest, .slice va m.root.length vc] 72)) (w2.setCell ⟨D, 4, none⟩ (.slice a2 (m.snaps.length + 1) c2))) := ⟨(((Below.refl (D) w2).setCell (Nat.le_refl _) _).cell (p := ⟨bi, 0, none⟩) (Nat.lt_of_lt_of_le liB hDB)).trans hi2, cells_other h42 (by omega) _ _⟩
    clear hD2 hi2 h42
    go_simp
    refine hK.out _ _ HS.out (fun hHeld => ?_)
    clear hK K hHeld
    try simp only [Act.put, List.getElem_toArray, List.getElem_cons_succ, List.getElem_cons_zero, List.setIfInBounds_toArray, List.set_cons_zero, List.set_cons_succ]
    refine wpAnyH_done (by kernel_rfl) ?_ _
    go_wp2_with fail
    go_end0
    first | exact ⟨_, rfl, HT.out⟩ | exact ⟨_, _, rfl, HT.out⟩ | exact ⟨_, rfl, _, rfl, HT.out⟩ | exact ⟨rfl, _, HT.out⟩

theorem with_turn {w : World} {m M0 : ImgD} {N k bt bi : Nat} (ct : w.cell? ⟨bt, 0, none⟩ = some (.func (.func N) #[] #[])) (ci : w.cell? ⟨bi, 0, none⟩ = some (.int .i64 (k : Int))) (lt : bt < w.heap.size) (li : bi < w.heap.size)
    (hN : ∀ (args : Array Value) (w : World), (callFunc N args).run Try.prog w = .ok (.enter N args) w) (hT : ∀ (W : World) (D B : Nat) (val : Nm → Value), B ≤ W.heap.size → DK W B D val m → Calls Try.prog N #[.pointer (some ⟨D, 0, none⟩), .int .i64 (k : Int)] W fun r W' => ∃ val', r = .returned (.tuple #[]) ∧ DTo W W' B D m val nilV M0 val') :
    Turns w 88 #[.pointer (some ⟨bt, 0, none⟩), .pointer (some ⟨bi, 0, none⟩)] m (some M0) := by
  intro W D B val hb h1 h2 hK
  have ct := (hb.cell (p := ⟨bt, 0, none⟩) lt).trans ct
  have ci := (hb.cell (p := ⟨bi, 0, none⟩) li).trans ci
  have hcall := hT W D B val h2 hK
  show Calls Try.prog 88 #[.pointer (some ⟨D, 0, none⟩), .pointer (some ⟨bt, 0, none⟩), .pointer (some ⟨bi, 0, none⟩)] W (fun r W' => ∃ val', r = .returned (.tuple #[]) ∧ DTo W W' B D m val nilV M0 val')
  clear hT hK hb
  go_enter Try.func88, Try.ntmps88
  go_wp2_with fail
  refine hcall.mono ?_
  rintro e w1 ⟨val1, rfl, hD⟩
  dsimp only
  have HD : Hid (DTo W w1 B D m val nilV M0 val1) := hD
  clear hD
  go_wp2_with fail
  go_end0
  exact ⟨_, rfl, HD.out⟩

set_option maxHeartbeats 4000000 in
theorem revert_desk {W : World} {B D k : Nat} {val : Nm → Value} {m : ImgD} (hK : DK W B D val m) (hB : B ≤ W.heap.size) (hk : k < m.snaps.length) (h3 : m.snaps.length ≤ 1000) (hs : shapeE m = 0) :
    Calls Try.prog 56 #[.pointer (some ⟨D, 0, none⟩), .int .i64 k] W fun r W' => ∃ val', r = .returned (.tuple #[]) ∧ DTo W W' B D m val nilV (revertM m k) val' := by
  have hDlt := hK.lt
  have hge := hK.ge
  obtain ⟨na, nc, e3, hna⟩ := hK.own.forms .snaps (Live.snaps m)
  have e3 : val .snaps = .slice na m.snaps.length nc := e3
  obtain ⟨nb, rfl⟩ := hna (by show 0 < m.snaps.length; omega)
  have hrow : W.ownsRow B 72 3 (val .snaps) m.snaps.length (flatN m.snaps (fun j => val (.sr j))) := hK.own.row .snaps (Live.snaps m)
  rw [e3] at hrow
  have hcx := fun i (hi : i < 3) => hrow.cellAt (k * 3 + i) (by omega)
  obtain ⟨g0, g1, g2⟩ := flatN_get (qv := fun j => val (.sr j)) hk
  obtain ⟨qa, qc, eq, _⟩ := hK.own.forms (.sr k) (Live.sr hk)
  have k0 : W.cell? ⟨nb, k * 3, none⟩ = _ := (hcx 0 (by omega)).trans g0
  have k1 := (hcx 1 (by omega)).trans g1
  have k2 : W.cell? ⟨nb, k * 3 + 1 + 1, none⟩ = _ := (hcx 2 (by omega)).trans g2
  have hsr : Sl W (val (.sr k)) (m.snaps.getD k default).2.2 := row_sl (hK.own.row (.sr k) (Live.sr hk))
  have hq4 : (m.snaps.getD k default).2.2.length ≤ 4 := by
    have hm : m.snaps.getD k default ∈ m.snaps := by rw [show m.snaps.getD k default = m.snaps[k] by simp [List.getD, hk]]; exact List.getElem_mem hk
    obtain ⟨f1, f2, f3, _⟩ := snap_fit hs (List.mem_cons_of_mem _ hm)
    omega
  have HM : Hid (revertM m k = { { m with guest := (m.snaps.getD k default).2.1 } with root := (m.snaps.getD k default).2.2 }) := rfl
  have eq : val (.sr k) = .slice qa (m.snaps.getD k default).2.2.length qc := eq
  obtain ⟨⟨sn, sg, sr⟩, hsn⟩ : ∃ s, s = m.snaps.getD k default := ⟨_, rfl⟩
  rw [← hsn] at k0 k1 hsr hq4 HM eq
  dsimp only at k0 k1 k2 hsr hq4 eq
  rw [eq] at k2 hsr
  clear hsn eq
  have c4 : W.cell? ⟨D, 4, none⟩ = some (.slice (some ⟨nb, 0, none⟩) m.snaps.length nc) := by have := hK.five.2.2.2.2; rw [e3] at this; exact this
  have hnbl : nb < W.heap.size := (row_lt hrow).2.1
  have HC : Hid (∀ X, Below W.heap.size W X → Calls Try.prog 53 #[.slice qa sr.length qc] X fun r w' => ∃ v', r = .returned v' ∧ w'.ownsRow X.heap.size 3 1 v' sr.length (ints sr) ∧ Below X.heap.size X w') := fun X hX => clone_ints (hsr.below hX) (by have := room_is; omega)
  have HK : Hid (DK W B D val m ∧ B ≤ W.heap.size) := ⟨hK, hB⟩
  have hkn : (k : Int) < (m.snaps.length : Int) := by omega
  clear hK hB hrow hcx g0 g1 g2 hna e3 hsr
  go_enter Try.func56, Try.ntmps56
  go_upto_region 1 with fail
  have hb0 : Below W.heap.size W (W.alloc (.cells #[.string sn, .int .i64 sg, .slice qa sr.length qc] 72)) := (Below.refl _ _).alloc (Nat.le_refl _) _
  have hbx : (W.alloc (.cells #[.string sn, .int .i64 sg, .slice qa sr.length qc] 72)).heap[W.heap.size]? = some (.cells #[.string sn, .int .i64 sg, .slice qa sr.length qc] 72) := World.alloc_heap_new _ _
  refine wp_region_held_drew (S := (fun X : World => X.heap[W.heap.size]? = some (.cells #[.string sn, .int .i64 sg, .slice qa sr.length qc] 72))) (by kernel_rfl) hbx (fun hHeld => ?_)
  refine wpAnyH_take (i := 0) (v := .pointer (some ⟨D, 0, none⟩)) rfl (by kernel_rfl) (by kernel_rfl) (by kernel_rfl) (fun _ _ _ h => h) (Or.inl ⟨by rfl, fun w' hSw => by go_simp⟩) hHeld ?_
  simp only [Act.put, List.getElem_toArray, List.getElem_cons_succ, List.getElem_cons_zero, List.setIfInBounds_toArray, List.set_cons_zero, List.set_cons_succ]
  refine wpAnyH_take (i := 1) (v := .pointer (some ⟨D, 0, none⟩)) rfl (by kernel_rfl) (by kernel_rfl) (by kernel_rfl) (fun _ _ _ h => h) (Or.inl ⟨by rfl, fun w' hSw => by go_simp⟩) hHeld ?_
  simp only [Act.put, List.getElem_toArray, List.getElem_cons_succ, List.getElem_cons_zero, List.setIfInBounds_toArray, List.set_cons_zero, List.set_cons_succ]
  refine wpAnyH_take (i := 2) (v := .pointer (some ⟨W.heap.size, 1, none⟩)) rfl (by kernel_rfl) (by kernel_rfl) (by kernel_rfl) (fun _ _ _ h => h) (Or.inl ⟨by rfl, fun w' hSw => by go_simp⟩) hHeld ?_
  simp only [Act.put, List.getElem_toArray, List.getElem_cons_succ, List.getElem_cons_zero, List.setIfInBounds_toArray, List.set_cons_zero, List.set_cons_succ]
  refine wpAnyH_take (i := 3) (v := .int .i64 sg) rfl (by kernel_rfl) (by kernel_rfl) (by kernel_rfl) (fun _ _ _ h => h) (Or.inl ⟨by rfl, fun w' hSw => by obtain ⟨j0, j1, j2⟩ := threeC hSw; go_simp⟩) hHeld ?_
  simp only [Act.put, List.getElem_toArray, List.getElem_cons_succ, List.getElem_cons_zero, List.setIfInBounds_toArray, List.set_cons_zero, List.set_cons_succ]
  refine wpAnyH_take (i := 4) (v := .pointer (some ⟨W.heap.size, 2, none⟩)) rfl (by kernel_rfl) (by kernel_rfl) (by kernel_rfl) (fun _ _ _ h => h) (Or.inl ⟨by rfl, fun w' hSw => by go_simp⟩) hHeld ?_
  simp only [Act.put, List.getElem_toArray, List.getElem_cons_succ, List.getElem_cons_zero, List.setIfInBounds_toArray, List.set_cons_zero, List.set_cons_succ]
  refine wpAnyH_take (i := 5) (v := .slice qa sr.length qc) rfl (by kernel_rfl) (by kernel_rfl) (by kernel_rfl) (fun _ _ _ h => h) (Or.inl ⟨by rfl, fun w' hSw => by obtain ⟨j0, j1, j2⟩ := threeC hSw; go_simp⟩) hHeld ?_
  simp only [Act.put, List.getElem_toArray, List.getElem_cons_succ, List.getElem_cons_zero, List.setIfInBounds_toArray, List.set_cons_zero, List.set_cons_succ]
  refine wpAnyH_ready (rs := [6]) (by kernel_rfl) (by simp) ?_
  refine AllReadyH.cons rfl (fun K hK => ?_) AllReadyH.nil
  clear hHeld
  simp only [Act.put, List.getElem_toArray, List.getElem_cons_succ, List.getElem_cons_zero, List.setIfInBounds_toArray, List.set_cons_zero, List.set_cons_succ]
  rw [if_pos (by rfl)]
  go_wp2_with (go_at_call 53; refine (HC.out _ (to_drewN hb0)).mono ?_; rintro e9 w1 ⟨rv, rfl, hrw, b1⟩; obtain ⟨va, vc, rfl⟩ := row_slice hrw)
  have b1 : Below (W.alloc (.cells #[.string sn, .int .i64 sg, .slice qa sr.length qc] 72)).heap.size (W.alloc (.cells #[.string sn, .int .i64 sg, .slice qa sr.length qc] 72)) w1 := below_drew b1
  have hrw : w1.ownsRow (W.alloc (.cells #[.string sn, .int .i64 sg, .slice qa sr.length qc] 72)).heap.size 3 1 (.slice va sr.length vc) sr.length (ints sr) := hrw
  have hz0 : (W.alloc (.cells #[.string sn, .int .i64 sg, .slice qa sr.length qc] 72)).heap.size = W.heap.size + 1 := by simp
  have hbx1 := cells_below hbx b1 (by omega)
  have hbw : Below W.heap.size W w1 := Below.on hb0 b1
  have hD1 := HK.out.1.below hbw
  have hT1 : DTo W w1 B D m val nilV m val := (DTo.refl HK.out.1 nilV).below HK.out.2 hbw
  have hT2 := hT1.setGuest sg
  have hf0 := hD1.frozen 0
  have hf1 := hD1.frozen 1
  obtain ⟨u0, u1, _, _, _⟩ := hD1.five
  have hT3 := hT2.swapRoot (v := .slice va sr.length vc) (r := sr) (row_mono (row_blkN hrw (fun q e => Below.heap_setCell w1 ⟨D, 0, none⟩ _ q (by have := (hrw.lt q e).1; show q ≠ D; omega))) (by have := HK.out.2; omega)) (fun b hb _ g hg x => by have := (hrw.lt g hg).1; have := ((HK.out.1.own.row b hb).lt g x).2; omega) (fun e => by have := (hrw.lt D e).1; omega) (fun q e => .inr (by have := (hrw.lt q e).1; omega))
  have HT : Hid (∃ val', DTo W ((w1.setCell ⟨D, 0, none⟩ (.int .i64 sg)).setCell ⟨D, 1, none⟩ (.slice va sr.length vc)) B D m val nilV (revertM m k) val') := ⟨_, by rw [HM.out]; exact hT3⟩
  have hn1 : W.heap.size ≠ D := by omega
  have HS2 : Hid ((fun X : World => X.heap[W.heap.size]? = some (.cells #[.string sn, .int .i64 sg, .slice qa sr.length qc] 72)) (w1.setCell ⟨D, 0, none⟩ (.int .i64 sg))) := cells_other hbx1 hn1 _ _
  have HS3 : Hid ((fun X : World => X.heap[W.heap.size]? = some (.cells #[.string sn, .int .i64 sg, .slice qa sr.length qc] 72)) ((w1.setCell ⟨D, 0, none⟩ (.int .i64 sg)).setCell ⟨D, 1, none⟩ (.slice va sr.length vc))) := cells_other HS2.out hn1 _ _
  have hf1' : (w1.setCell ⟨D, 0, none⟩ (.int .i64 sg)).frozen? ⟨D, 1, none⟩ = false := hT2.dk.frozen 1
  have u1' : (w1.setCell ⟨D, 0, none⟩ (.int .i64 sg)).cell? ⟨D, 1, none⟩ = some (val .root) := hT2.dk.five.2.1
  clear hT1 hT2 hT3 hD1 hrw
  refine hK.out _ _ hbx1 (fun hHeld => ?_)
  clear hK K
  try simp only [Act.put, List.getElem_toArray, List.getElem_cons_succ, List.getElem_cons_zero, List.setIfInBounds_toArray, List.set_cons_zero, List.set_cons_succ]
  refine wpAnyH_take (i := 7) (v := .pointer (some ⟨D, 0, none⟩)) rfl (by kernel_rfl) (by kernel_rfl) (by kernel_rfl) (fun _ _ _ h => h) (Or.inl ⟨by rfl, fun w' hSw => by go_simp⟩) hHeld ?_
  simp only [Act.put, List.getElem_toArray, List.getElem_cons_succ, List.getElem_cons_zero, List.setIfInBounds_toArray, List.set_cons_zero, List.set_cons_succ]
  refine wpAnyH_take (i := 8) (v := .pointer (some ⟨D, 0, none⟩)) rfl (by kernel_rfl) (by kernel_rfl) (by kernel_rfl) (fun _ _ _ h => h) (Or.inl ⟨by rfl, fun w' hSw => by go_simp⟩) hHeld ?_
  simp only [Act.put, List.getElem_toArray, List.getElem_cons_succ, List.getElem_cons_zero, List.setIfInBounds_toArray, List.set_cons_zero, List.set_cons_succ]
  refine wpAnyH_take (i := 9) (v := .pointer (some ⟨D, 0, none⟩)) rfl (by kernel_rfl) (by kernel_rfl) (by kernel_rfl) (fun _ _ _ h => h) (Or.inl ⟨by rfl, fun w' hSw => by go_simp⟩) hHeld ?_
  simp only [Act.put, List.getElem_toArray, List.getElem_cons_succ, List.getElem_cons_zero, List.setIfInBounds_toArray, List.set_cons_zero, List.set_cons_succ]
  refine wpAnyH_ready (rs := [10]) (by kernel_rfl) (by simp) ?_
  refine AllReadyH.cons rfl (fun K hK => ?_) AllReadyH.nil
  clear hHeld
  simp only [Act.put, List.getElem_toArray, List.getElem_cons_succ, List.getElem_cons_zero, List.setIfInBounds_toArray, List.set_cons_zero, List.set_cons_succ]
  rw [if_pos (by rfl)]
  go_simp
  refine hK.out _ _ HS2.out (fun hHeld => ?_)
  clear hK K
  try simp only [Act.put, List.getElem_toArray, List.getElem_cons_succ, List.getElem_cons_zero, List.setIfInBounds_toArray, List.set_cons_zero, List.set_cons_succ]
  refine wpAnyH_take (i := 11) (v := .pointer (some ⟨D, 0, none⟩)) rfl (by kernel_rfl) (by kernel_rfl) (by kernel_rfl) (fun _ _ _ h => h) (Or.inl ⟨by rfl, fun w' hSw => by go_simp⟩) hHeld ?_
  simp only [Act.put, List.getElem_toArray, List.getElem_cons_succ, List.getElem_cons_zero, List.setIfInBounds_toArray, List.set_cons_zero, List.set_cons_succ]
  refine wpAnyH_take (i := 12) (v := .pointer (some ⟨D, 0, none⟩)) rfl (by kernel_rfl) (by kernel_rfl) (by kernel_rfl) (fun _ _ _ h => h) (Or.inl ⟨by rfl, fun w' hSw => by go_simp⟩) hHeld ?_
  simp only [Act.put, List.getElem_toArray, List.getElem_cons_succ, List.getElem_cons_zero, List.setIfInBounds_toArray, List.set_cons_zero, List.set_cons_succ]
  refine wpAnyH_take (i := 13) (v := .pointer (some ⟨D, 1, none⟩)) rfl (by kernel_rfl) (by kernel_rfl) (by kernel_rfl) (fun _ _ _ h => h) (Or.inl ⟨by rfl, fun w' hSw => by go_simp⟩) hHeld ?_
  simp only [Act.put, List.getElem_toArray, List.getElem_cons_succ, List.getElem_cons_zero, List.setIfInBounds_toArray, List.set_cons_zero, List.set_cons_succ]
  refine wpAnyH_ready (rs := [14]) (by kernel_rfl) (by simp) ?_
  refine AllReadyH.cons rfl (fun K hK => ?_) AllReadyH.nil
  clear hHeld
  simp only [Act.put, List.getElem_toArray, List.getElem_cons_succ, List.getElem_cons_zero, List.setIfInBounds_toArray, List.set_cons_zero, List.set_cons_succ]
  rw [if_pos (by rfl)]
  go_simp
  refine hK.out _ _ HS3.out (fun hHeld => ?_)
  clear hK K hHeld
  try simp only [Act.put, List.getElem_toArray, List.getElem_cons_succ, List.getElem_cons_zero, List.setIfInBounds_toArray, List.set_cons_zero, List.set_cons_succ]
  refine wpAnyH_done (by kernel_rfl) ?_ _
  obtain ⟨val', hfin⟩ := HT.out
  have HF : Hid (DTo W ((w1.setCell ⟨D, 0, none⟩ (.int .i64 sg)).setCell ⟨D, 1, none⟩ (.slice va sr.length vc)) B D m val nilV (revertM m k) val') := hfin
  clear hfin HT
  go_wp2_with fail
  go_end0
  exact ⟨rfl, _, HF.out⟩
end Go.Proofs.Ytehleeibgkpjmad
/- Contracts of snapshots: Create, Revert, Delete. -/
namespace Go.Proofs.Ytehleeibgkpjmad
open Go.RowKit Go.Shelf
set_option maxRecDepth 20000
set_option linter.unusedVariables false
set_option linter.unusedSimpArgs false

set_option maxHeartbeats 4000000 in
theorem create_bad_at (m : ImgD) (ra : Option Addr) (rc : Nat) (sa : Option Addr) (sc : Nat) (fa : Option Addr) (fc : Nat) (na : Option Addr) (nc : Nat) (nm : ByteArray) (E : Int) (w : World) (h : Img w (.agg #[.int .i64 m.guest, .slice ra m.root.length rc, .slice sa m.slots.length sc, .slice fa m.refs.length fc, .slice na m.snaps.length nc]) m) (hE : checkE m = E) (hne : (E != 0) = true) :
    Calls Try.prog 24 #[.agg #[.int .i64 m.guest, .slice ra m.root.length rc, .slice sa m.slots.length sc, .slice fa m.refs.length fc, .slice na m.snaps.length nc], .string nm] w (AnsI w w.heap.size imgZ E) := by
  have b0 : Below w.heap.size w (((w.alloc (.cells #[.int .i64 m.guest, .slice ra m.root.length rc, .slice sa m.slots.length sc, .slice fa m.refs.length fc, .slice na m.snaps.length nc] 26)).alloc (.cells #[.string nm] 9)).alloc (.cells #[.int .i64 0, .slice none 0 0, .slice none 0 0, .slice none 0 0, .slice none 0 0] 26)) := (((Below.refl _ _).alloc (by simp; try omega) _).alloc (by simp; try omega) _).alloc (by simp; try omega) _
  have q0 : (w.alloc (.cells #[.int .i64 m.guest, .slice ra m.root.length rc, .slice sa m.slots.length sc, .slice fa m.refs.length fc, .slice na m.snaps.length nc] 26)).heap[w.heap.size]? = some (.cells #[.int .i64 m.guest, .slice ra m.root.length rc, .slice sa m.slots.length sc, .slice fa m.refs.length fc, .slice na m.snaps.length nc] 26) := by have := World.alloc_heap_new w (.cells #[.int .i64 m.guest, .slice ra m.root.length rc, .slice sa m.slots.length sc, .slice fa m.refs.length fc, .slice na m.snaps.length nc] 26); simpa using this
  have m0 : (((w.alloc (.cells #[.int .i64 m.guest, .slice ra m.root.length rc, .slice sa m.slots.length sc, .slice fa m.refs.length fc, .slice na m.snaps.length nc] 26)).alloc (.cells #[.string nm] 9)).alloc (.cells #[.int .i64 0, .slice none 0 0, .slice none 0 0, .slice none 0 0, .slice none 0 0] 26)).heap[w.heap.size]? = some (.cells #[.int .i64 m.guest, .slice ra m.root.length rc, .slice sa m.slots.length sc, .slice fa m.refs.length fc, .slice na m.snaps.length nc] 26) := (cells_alloc (cells_alloc q0 _) _)
  have q1 : ((w.alloc (.cells #[.int .i64 m.guest, .slice ra m.root.length rc, .slice sa m.slots.length sc, .slice fa m.refs.length fc, .slice na m.snaps.length nc] 26)).alloc (.cells #[.string nm] 9)).heap[w.heap.size + 1]? = some (.cells #[.string nm] 9) := by have := World.alloc_heap_new (w.alloc (.cells #[.int .i64 m.guest, .slice ra m.root.length rc, .slice sa m.slots.length sc, .slice fa m.refs.length fc, .slice na m.snaps.length nc] 26)) (.cells #[.string nm] 9); simpa using this
  have m1 : (((w.alloc (.cells #[.int .i64 m.guest, .slice ra m.root.length rc, .slice sa m.slots.length sc, .slice fa m.refs.length fc, .slice na m.snaps.length nc] 26)).alloc (.cells #[.string nm] 9)).alloc (.cells #[.int .i64 0, .slice none 0 0, .slice none 0 0, .slice none 0 0, .slice none 0 0] 26)).heap[w.heap.size + 1]? = some (.cells #[.string nm] 9) := (cells_alloc q1 _)
  have q2 : (((w.alloc (.cells #[.int .i64 m.guest, .slice ra m.root.length rc, .slice sa m.slots.length sc, .slice fa m.refs.length fc, .slice na m.snaps.length nc] 26)).alloc (.cells #[.string nm] 9)).alloc (.cells #[.int .i64 0, .slice none 0 0, .slice none 0 0, .slice none 0 0, .slice none 0 0] 26)).heap[w.heap.size + 1 + 1]? = some (.cells #[.int .i64 0, .slice none 0 0, .slice none 0 0, .slice none 0 0, .slice none 0 0] 26) := by have := World.alloc_heap_new ((w.alloc (.cells #[.int .i64 m.guest, .slice ra m.root.length rc, .slice sa m.slots.length sc, .slice fa m.refs.length fc, .slice na m.snaps.length nc] 26)).alloc (.cells #[.string nm] 9)) (.cells #[.int .i64 0, .slice none 0 0, .slice none 0 0, .slice none 0 0, .slice none 0 0] 26); simpa using this
  have m2 : (((w.alloc (.cells #[.int .i64 m.guest, .slice ra m.root.length rc, .slice sa m.slots.length sc, .slice fa m.refs.length fc, .slice na m.snaps.length nc] 26)).alloc (.cells #[.string nm] 9)).alloc (.cells #[.int .i64 0, .slice none 0 0, .slice none 0 0, .slice none 0 0, .slice none 0 0] 26)).heap[w.heap.size + 1 + 1]? = some (.cells #[.int .i64 0, .slice none 0 0, .slice none 0 0, .slice none 0 0, .slice none 0 0] 26) := q2
  have hz : (((w.alloc (.cells #[.int .i64 m.guest, .slice ra m.root.length rc, .slice sa m.slots.length sc, .slice fa m.refs.length fc, .slice na m.snaps.length nc] 26)).alloc (.cells #[.string nm] 9)).alloc (.cells #[.int .i64 0, .slice none 0 0, .slice none 0 0, .slice none 0 0, .slice none 0 0] 26)).heap.size = w.heap.size + 1 + 1 + 1 := by simp
  clear q0 q1 q2
  have hchk := tcheck_is (h.below b0) hE
  obtain ⟨c0, c1, c2, c3, c4⟩ := five m0
  have HM : Hid ((Below w.heap.size w (((w.alloc (.cells #[.int .i64 m.guest, .slice ra m.root.length rc, .slice sa m.slots.length sc, .slice fa m.refs.length fc, .slice na m.snaps.length nc] 26)).alloc (.cells #[.string nm] 9)).alloc (.cells #[.int .i64 0, .slice none 0 0, .slice none 0 0, .slice none 0 0, .slice none 0 0] 26)) ∧ (((w.alloc (.cells #[.int .i64 m.guest, .slice ra m.root.length rc, .slice sa m.slots.length sc, .slice fa m.refs.length fc, .slice na m.snaps.length nc] 26)).alloc (.cells #[.string nm] 9)).alloc (.cells #[.int .i64 0, .slice none 0 0, .slice none 0 0, .slice none 0 0, .slice none 0 0] 26)).heap.size = w.heap.size + 1 + 1 + 1) ∧ (((w.alloc (.cells #[.int .i64 m.guest, .slice ra m.root.length rc, .slice sa m.slots.length sc, .slice fa m.refs.length fc, .slice na m.snaps.length nc] 26)).alloc (.cells #[.string nm] 9)).alloc (.cells #[.int .i64 0, .slice none 0 0, .slice none 0 0, .slice none 0 0, .slice none 0 0] 26)).heap[w.heap.size]? = some (.cells #[.int .i64 m.guest, .slice ra m.root.length rc, .slice sa m.slots.length sc, .slice fa m.refs.length fc, .slice na m.snaps.length nc] 26) ∧ (((w.alloc (.cells #[.int .i64 m.guest, .slice ra m.root.length rc, .slice sa m.slots.length sc, .slice fa m.refs.length fc, .slice na m.snaps.length nc] 26)).alloc (.cells #[.string nm] 9)).alloc (.cells #[.int .i64 0, .slice none 0 0, .slice none 0 0, .slice none 0 0, .slice none 0 0] 26)).heap[w.heap.size + 1]? = some (.cells #[.string nm] 9) ∧ (((w.alloc (.cells #[.int .i64 m.guest, .slice ra m.root.length rc, .slice sa m.slots.length sc, .slice fa m.refs.length fc, .slice na m.snaps.length nc] 26)).alloc (.cells #[.string nm] 9)).alloc (.cells #[.int .i64 0, .slice none 0 0, .slice none 0 0, .slice none 0 0, .slice none 0 0] 26)).heap[w.heap.size + 1 + 1]? = some (.cells #[.int .i64 0, .slice none 0 0, .slice none 0 0, .slice none 0 0, .slice none 0 0] 26)) := ⟨⟨b0, hz⟩, m0, m1, m2⟩
  clear h m0 m1 m2 hz b0
  go_enter Try.func24, Try.ntmps24
  go_wp2_with (first
    | (go_at_call 13; refine hchk.mono ?_; rintro e w1 ⟨rfl, b1⟩; have BB := b1; clear b1; have k3 := cells_below HM.out.2.2.2 BB (by rw [HM.out.1.2]; omega); obtain ⟨z0, z1, z2, z3, z4⟩ := five k3; have y0 := cells_frozen k3 0; have y1 := cells_frozen k3 1; have y2 := cells_frozen k3 2; have y3 := cells_frozen k3 3; have y4 := cells_frozen k3 4; have HB : Hid (Below w.heap.size w w1) := Below.on HM.out.1.1 BB; have hsz : w.heap.size + 1 + 1 + 1 ≤ w1.heap.size := (by have := BB.size; rw [HM.out.1.2] at this; omega); clear k3))
  have i1 : w.heap.size ≤ w.heap.size + 1 + 1 := by omega
  refine bodyPost_ret (v := .tuple #[.agg #[.int .i64 0, .slice none 0 0, .slice none 0 0, .slice none 0 0, .slice none 0 0], .int .i64 E]) (by simp [results, Try.results24, go_sem, z0, z1, z2, z3, z4]) rfl (AnsI.bad E (((((HB.out.setCell i1 _).setCell i1 _).setCell i1 _).setCell i1 _).setCell i1 _))

set_option maxHeartbeats 4000000 in
theorem create_name_at (m : ImgD) (ra : Option Addr) (rc : Nat) (sa : Option Addr) (sc : Nat) (fa : Option Addr) (fc : Nat) (na : Option Addr) (nc : Nat) (nm : ByteArray) (w : World) (h : Img w (.agg #[.int .i64 m.guest, .slice ra m.root.length rc, .slice sa m.slots.length sc, .slice fa m.refs.length fc, .slice na m.snaps.length nc]) m) (hE : checkE m = 0) (hNm : isNm nm = false) :
    Calls Try.prog 24 #[.agg #[.int .i64 m.guest, .slice ra m.root.length rc, .slice sa m.slots.length sc, .slice fa m.refs.length fc, .slice na m.snaps.length nc], .string nm] w (AnsI w w.heap.size imgZ 4) := by
  have b0 : Below w.heap.size w (((w.alloc (.cells #[.int .i64 m.guest, .slice ra m.root.length rc, .slice sa m.slots.length sc, .slice fa m.refs.length fc, .slice na m.snaps.length nc] 26)).alloc (.cells #[.string nm] 9)).alloc (.cells #[.int .i64 0, .slice none 0 0, .slice none 0 0, .slice none 0 0, .slice none 0 0] 26)) := (((Below.refl _ _).alloc (by simp; try omega) _).alloc (by simp; try omega) _).alloc (by simp; try omega) _
  have q0 : (w.alloc (.cells #[.int .i64 m.guest, .slice ra m.root.length rc, .slice sa m.slots.length sc, .slice fa m.refs.length fc, .slice na m.snaps.length nc] 26)).heap[w.heap.size]? = some (.cells #[.int .i64 m.guest, .slice ra m.root.length rc, .slice sa m.slots.length sc, .slice fa m.refs.length fc, .slice na m.snaps.length nc] 26) := by have := World.alloc_heap_new w (.cells #[.int .i64 m.guest, .slice ra m.root.length rc, .slice sa m.slots.length sc, .slice fa m.refs.length fc, .slice na m.snaps.length nc] 26); simpa using this
  have m0 : (((w.alloc (.cells #[.int .i64 m.guest, .slice ra m.root.length rc, .slice sa m.slots.length sc, .slice fa m.refs.length fc, .slice na m.snaps.length nc] 26)).alloc (.cells #[.string nm] 9)).alloc (.cells #[.int .i64 0, .slice none 0 0, .slice none 0 0, .slice none 0 0, .slice none 0 0] 26)).heap[w.heap.size]? = some (.cells #[.int .i64 m.guest, .slice ra m.root.length rc, .slice sa m.slots.length sc, .slice fa m.refs.length fc, .slice na m.snaps.length nc] 26) := (cells_alloc (cells_alloc q0 _) _)
  have q1 : ((w.alloc (.cells #[.int .i64 m.guest, .slice ra m.root.length rc, .slice sa m.slots.length sc, .slice fa m.refs.length fc, .slice na m.snaps.length nc] 26)).alloc (.cells #[.string nm] 9)).heap[w.heap.size + 1]? = some (.cells #[.string nm] 9) := by have := World.alloc_heap_new (w.alloc (.cells #[.int .i64 m.guest, .slice ra m.root.length rc, .slice sa m.slots.length sc, .slice fa m.refs.length fc, .slice na m.snaps.length nc] 26)) (.cells #[.string nm] 9); simpa using this
  have m1 : (((w.alloc (.cells #[.int .i64 m.guest, .slice ra m.root.length rc, .slice sa m.slots.length sc, .slice fa m.refs.length fc, .slice na m.snaps.length nc] 26)).alloc (.cells #[.string nm] 9)).alloc (.cells #[.int .i64 0, .slice none 0 0, .slice none 0 0, .slice none 0 0, .slice none 0 0] 26)).heap[w.heap.size + 1]? = some (.cells #[.string nm] 9) := (cells_alloc q1 _)
  have q2 : (((w.alloc (.cells #[.int .i64 m.guest, .slice ra m.root.length rc, .slice sa m.slots.length sc, .slice fa m.refs.length fc, .slice na m.snaps.length nc] 26)).alloc (.cells #[.string nm] 9)).alloc (.cells #[.int .i64 0, .slice none 0 0, .slice none 0 0, .slice none 0 0, .slice none 0 0] 26)).heap[w.heap.size + 1 + 1]? = some (.cells #[.int .i64 0, .slice none 0 0, .slice none 0 0, .slice none 0 0, .slice none 0 0] 26) := by have := World.alloc_heap_new ((w.alloc (.cells #[.int .i64 m.guest, .slice ra m.root.length rc, .slice sa m.slots.length sc, .slice fa m.refs.length fc, .slice na m.snaps.length nc] 26)).alloc (.cells #[.string nm] 9)) (.cells #[.int .i64 0, .slice none 0 0, .slice none 0 0, .slice none 0 0, .slice none 0 0] 26); simpa using this
  have m2 : (((w.alloc (.cells #[.int .i64 m.guest, .slice ra m.root.length rc, .slice sa m.slots.length sc, .slice fa m.refs.length fc, .slice na m.snaps.length nc] 26)).alloc (.cells #[.string nm] 9)).alloc (.cells #[.int .i64 0, .slice none 0 0, .slice none 0 0, .slice none 0 0, .slice none 0 0] 26)).heap[w.heap.size + 1 + 1]? = some (.cells #[.int .i64 0, .slice none 0 0, .slice none 0 0, .slice none 0 0, .slice none 0 0] 26) := q2
  have hz : (((w.alloc (.cells #[.int .i64 m.guest, .slice ra m.root.length rc, .slice sa m.slots.length sc, .slice fa m.refs.length fc, .slice na m.snaps.length nc] 26)).alloc (.cells #[.string nm] 9)).alloc (.cells #[.int .i64 0, .slice none 0 0, .slice none 0 0, .slice none 0 0, .slice none 0 0] 26)).heap.size = w.heap.size + 1 + 1 + 1 := by simp
  clear q0 q1 q2
  have hchk := tcheck_is (h.below b0) hE
  obtain ⟨c0, c1, c2, c3, c4⟩ := five m0
  have HM : Hid ((Below w.heap.size w (((w.alloc (.cells #[.int .i64 m.guest, .slice ra m.root.length rc, .slice sa m.slots.length sc, .slice fa m.refs.length fc, .slice na m.snaps.length nc] 26)).alloc (.cells #[.string nm] 9)).alloc (.cells #[.int .i64 0, .slice none 0 0, .slice none 0 0, .slice none 0 0, .slice none 0 0] 26)) ∧ (((w.alloc (.cells #[.int .i64 m.guest, .slice ra m.root.length rc, .slice sa m.slots.length sc, .slice fa m.refs.length fc, .slice na m.snaps.length nc] 26)).alloc (.cells #[.string nm] 9)).alloc (.cells #[.int .i64 0, .slice none 0 0, .slice none 0 0, .slice none 0 0, .slice none 0 0] 26)).heap.size = w.heap.size + 1 + 1 + 1) ∧ (((w.alloc (.cells #[.int .i64 m.guest, .slice ra m.root.length rc, .slice sa m.slots.length sc, .slice fa m.refs.length fc, .slice na m.snaps.length nc] 26)).alloc (.cells #[.string nm] 9)).alloc (.cells #[.int .i64 0, .slice none 0 0, .slice none 0 0, .slice none 0 0, .slice none 0 0] 26)).heap[w.heap.size]? = some (.cells #[.int .i64 m.guest, .slice ra m.root.length rc, .slice sa m.slots.length sc, .slice fa m.refs.length fc, .slice na m.snaps.length nc] 26) ∧ (((w.alloc (.cells #[.int .i64 m.guest, .slice ra m.root.length rc, .slice sa m.slots.length sc, .slice fa m.refs.length fc, .slice na m.snaps.length nc] 26)).alloc (.cells #[.string nm] 9)).alloc (.cells #[.int .i64 0, .slice none 0 0, .slice none 0 0, .slice none 0 0, .slice none 0 0] 26)).heap[w.heap.size + 1]? = some (.cells #[.string nm] 9) ∧ (((w.alloc (.cells #[.int .i64 m.guest, .slice ra m.root.length rc, .slice sa m.slots.length sc, .slice fa m.refs.length fc, .slice na m.snaps.length nc] 26)).alloc (.cells #[.string nm] 9)).alloc (.cells #[.int .i64 0, .slice none 0 0, .slice none 0 0, .slice none 0 0, .slice none 0 0] 26)).heap[w.heap.size + 1 + 1]? = some (.cells #[.int .i64 0, .slice none 0 0, .slice none 0 0, .slice none 0 0, .slice none 0 0] 26)) := ⟨⟨b0, hz⟩, m0, m1, m2⟩
  clear h m0 m1 m2 hz b0
  go_enter Try.func24, Try.ntmps24
  go_wp2_with (first
    | (go_at_call 50; refine (isName_is _ hNm).mono ?_; rintro e w2 ⟨rfl, b2⟩; have BB := Below.on b1 b2; clear b1 b2; have k3 := cells_below HM.out.2.2.2 BB (by rw [HM.out.1.2]; omega); obtain ⟨z0, z1, z2, z3, z4⟩ := five k3; have y0 := cells_frozen k3 0; have y1 := cells_frozen k3 1; have y2 := cells_frozen k3 2; have y3 := cells_frozen k3 3; have y4 := cells_frozen k3 4; have HB : Hid (Below w.heap.size w w2) := Below.on HM.out.1.1 BB; have hsz : w.heap.size + 1 + 1 + 1 ≤ w2.heap.size := (by have := BB.size; rw [HM.out.1.2] at this; omega); clear k3)
    | (go_at_call 13; refine hchk.mono ?_; rintro e w1 ⟨rfl, b1⟩; have cn := oneN (cells_below HM.out.2.2.1 b1 (by rw [HM.out.1.2]; omega)); have dx := cells_below HM.out.2.1 b1 (by rw [HM.out.1.2]; omega); obtain ⟨d0, d1, d2, d3, d4⟩ := five dx))
  have i1 : w.heap.size ≤ w.heap.size + 1 + 1 := by omega
  refine bodyPost_ret (v := .tuple #[.agg #[.int .i64 0, .slice none 0 0, .slice none 0 0, .slice none 0 0, .slice none 0 0], .int .i64 4]) (by simp [results, Try.results24, go_sem, z0, z1, z2, z3, z4]) rfl (AnsI.bad 4 (((((HB.out.setCell i1 _).setCell i1 _).setCell i1 _).setCell i1 _).setCell i1 _))

set_option maxHeartbeats 4000000 in
theorem create_there_at (m : ImgD) (ra : Option Addr) (rc : Nat) (sa : Option Addr) (sc : Nat) (fa : Option Addr) (fc : Nat) (na : Option Addr) (nc : Nat) (nm : ByteArray) (k : Nat) (w : World) (h : Img w (.agg #[.int .i64 m.guest, .slice ra m.root.length rc, .slice sa m.slots.length sc, .slice fa m.refs.length fc, .slice na m.snaps.length nc]) m) (hE : checkE m = 0) (hNm : isNm nm = true) (hk : posS m.snaps nm = k) (hx : (snapIx m.snaps nm).isSome = true) :
    Calls Try.prog 24 #[.agg #[.int .i64 m.guest, .slice ra m.root.length rc, .slice sa m.slots.length sc, .slice fa m.refs.length fc, .slice na m.snaps.length nc], .string nm] w (AnsI w w.heap.size imgZ 6) := by
  have b0 : Below w.heap.size w (((w.alloc (.cells #[.int .i64 m.guest, .slice ra m.root.length rc, .slice sa m.slots.length sc, .slice fa m.refs.length fc, .slice na m.snaps.length nc] 26)).alloc (.cells #[.string nm] 9)).alloc (.cells #[.int .i64 0, .slice none 0 0, .slice none 0 0, .slice none 0 0, .slice none 0 0] 26)) := (((Below.refl _ _).alloc (by simp; try omega) _).alloc (by simp; try omega) _).alloc (by simp; try omega) _
  have q0 : (w.alloc (.cells #[.int .i64 m.guest, .slice ra m.root.length rc, .slice sa m.slots.length sc, .slice fa m.refs.length fc, .slice na m.snaps.length nc] 26)).heap[w.heap.size]? = some (.cells #[.int .i64 m.guest, .slice ra m.root.length rc, .slice sa m.slots.length sc, .slice fa m.refs.length fc, .slice na m.snaps.length nc] 26) := by have := World.alloc_heap_new w (.cells #[.int .i64 m.guest, .slice ra m.root.length rc, .slice sa m.slots.length sc, .slice fa m.refs.length fc, .slice na m.snaps.length nc] 26); simpa using this
  have m0 : (((w.alloc (.cells #[.int .i64 m.guest, .slice ra m.root.length rc, .slice sa m.slots.length sc, .slice fa m.refs.length fc, .slice na m.snaps.length nc] 26)).alloc (.cells #[.string nm] 9)).alloc (.cells #[.int .i64 0, .slice none 0 0, .slice none 0 0, .slice none 0 0, .slice none 0 0] 26)).heap[w.heap.size]? = some (.cells #[.int .i64 m.guest, .slice ra m.root.length rc, .slice sa m.slots.length sc, .slice fa m.refs.length fc, .slice na m.snaps.length nc] 26) := (cells_alloc (cells_alloc q0 _) _)
  have q1 : ((w.alloc (.cells #[.int .i64 m.guest, .slice ra m.root.length rc, .slice sa m.slots.length sc, .slice fa m.refs.length fc, .slice na m.snaps.length nc] 26)).alloc (.cells #[.string nm] 9)).heap[w.heap.size + 1]? = some (.cells #[.string nm] 9) := by have := World.alloc_heap_new (w.alloc (.cells #[.int .i64 m.guest, .slice ra m.root.length rc, .slice sa m.slots.length sc, .slice fa m.refs.length fc, .slice na m.snaps.length nc] 26)) (.cells #[.string nm] 9); simpa using this
  have m1 : (((w.alloc (.cells #[.int .i64 m.guest, .slice ra m.root.length rc, .slice sa m.slots.length sc, .slice fa m.refs.length fc, .slice na m.snaps.length nc] 26)).alloc (.cells #[.string nm] 9)).alloc (.cells #[.int .i64 0, .slice none 0 0, .slice none 0 0, .slice none 0 0, .slice none 0 0] 26)).heap[w.heap.size + 1]? = some (.cells #[.string nm] 9) := (cells_alloc q1 _)
  have q2 : (((w.alloc (.cells #[.int .i64 m.guest, .slice ra m.root.length rc, .slice sa m.slots.length sc, .slice fa m.refs.length fc, .slice na m.snaps.length nc] 26)).alloc (.cells #[.string nm] 9)).alloc (.cells #[.int .i64 0, .slice none 0 0, .slice none 0 0, .slice none 0 0, .slice none 0 0] 26)).heap[w.heap.size + 1 + 1]? = some (.cells #[.int .i64 0, .slice none 0 0, .slice none 0 0, .slice none 0 0, .slice none 0 0] 26) := by have := World.alloc_heap_new ((w.alloc (.cells #[.int .i64 m.guest, .slice ra m.root.length rc, .slice sa m.slots.length sc, .slice fa m.refs.length fc, .slice na m.snaps.length nc] 26)).alloc (.cells #[.string nm] 9)) (.cells #[.int .i64 0, .slice none 0 0, .slice none 0 0, .slice none 0 0, .slice none 0 0] 26); simpa using this
  have m2 : (((w.alloc (.cells #[.int .i64 m.guest, .slice ra m.root.length rc, .slice sa m.slots.length sc, .slice fa m.refs.length fc, .slice na m.snaps.length nc] 26)).alloc (.cells #[.string nm] 9)).alloc (.cells #[.int .i64 0, .slice none 0 0, .slice none 0 0, .slice none 0 0, .slice none 0 0] 26)).heap[w.heap.size + 1 + 1]? = some (.cells #[.int .i64 0, .slice none 0 0, .slice none 0 0, .slice none 0 0, .slice none 0 0] 26) := q2
  have hz : (((w.alloc (.cells #[.int .i64 m.guest, .slice ra m.root.length rc, .slice sa m.slots.length sc, .slice fa m.refs.length fc, .slice na m.snaps.length nc] 26)).alloc (.cells #[.string nm] 9)).alloc (.cells #[.int .i64 0, .slice none 0 0, .slice none 0 0, .slice none 0 0, .slice none 0 0] 26)).heap.size = w.heap.size + 1 + 1 + 1 := by simp
  clear q0 q1 q2
  have hchk := tcheck_is (h.below b0) hE
  have hF4 := h.four.2.2.2
  have hNP := (namesOK_iff _).1 (shapeE_zero (checkE_shape hE)).2.2.2.1
  have h3l := (shapeE_zero (checkE_shape hE)).1
  have HF : Hid (∀ w2, Below (((w.alloc (.cells #[.int .i64 m.guest, .slice ra m.root.length rc, .slice sa m.slots.length sc, .slice fa m.refs.length fc, .slice na m.snaps.length nc] 26)).alloc (.cells #[.string nm] 9)).alloc (.cells #[.int .i64 0, .slice none 0 0, .slice none 0 0, .slice none 0 0, .slice none 0 0] 26)).heap.size (((w.alloc (.cells #[.int .i64 m.guest, .slice ra m.root.length rc, .slice sa m.slots.length sc, .slice fa m.refs.length fc, .slice na m.snaps.length nc] 26)).alloc (.cells #[.string nm] 9)).alloc (.cells #[.int .i64 0, .slice none 0 0, .slice none 0 0, .slice none 0 0, .slice none 0 0] 26)) w2 → Calls Try.prog 51 #[.slice na m.snaps.length nc, .string nm] w2 fun r w' => r = .returned (.tuple #[.int .i64 (k : Int), .bool true]) ∧ Below w2.heap.size w2 w') := fun w2 hb2 => find_is ((hF4.below b0).below hb2) hNP h3l nm hk hx
  clear hF4 hNP h3l
  obtain ⟨c0, c1, c2, c3, c4⟩ := five m0
  have HM : Hid ((Below w.heap.size w (((w.alloc (.cells #[.int .i64 m.guest, .slice ra m.root.length rc, .slice sa m.slots.length sc, .slice fa m.refs.length fc, .slice na m.snaps.length nc] 26)).alloc (.cells #[.string nm] 9)).alloc (.cells #[.int .i64 0, .slice none 0 0, .slice none 0 0, .slice none 0 0, .slice none 0 0] 26)) ∧ (((w.alloc (.cells #[.int .i64 m.guest, .slice ra m.root.length rc, .slice sa m.slots.length sc, .slice fa m.refs.length fc, .slice na m.snaps.length nc] 26)).alloc (.cells #[.string nm] 9)).alloc (.cells #[.int .i64 0, .slice none 0 0, .slice none 0 0, .slice none 0 0, .slice none 0 0] 26)).heap.size = w.heap.size + 1 + 1 + 1) ∧ (((w.alloc (.cells #[.int .i64 m.guest, .slice ra m.root.length rc, .slice sa m.slots.length sc, .slice fa m.refs.length fc, .slice na m.snaps.length nc] 26)).alloc (.cells #[.string nm] 9)).alloc (.cells #[.int .i64 0, .slice none 0 0, .slice none 0 0, .slice none 0 0, .slice none 0 0] 26)).heap[w.heap.size]? = some (.cells #[.int .i64 m.guest, .slice ra m.root.length rc, .slice sa m.slots.length sc, .slice fa m.refs.length fc, .slice na m.snaps.length nc] 26) ∧ (((w.alloc (.cells #[.int .i64 m.guest, .slice ra m.root.length rc, .slice sa m.slots.length sc, .slice fa m.refs.length fc, .slice na m.snaps.length nc] 26)).alloc (.cells #[.string nm] 9)).alloc (.cells #[.int .i64 0, .slice none 0 0, .slice none 0 0, .slice none 0 0, .slice none 0 0] 26)).heap[w.heap.size + 1]? = some (.cells #[.string nm] 9) ∧ (((w.alloc (.cells #[.int .i64 m.guest, .slice ra m.root.length rc, .slice sa m.slots.length sc, .slice fa m.refs.length fc, .slice na m.snaps.length nc] 26)).alloc (.cells #[.string nm] 9)).alloc (.cells #[.int .i64 0, .slice none 0 0, .slice none 0 0, .slice none 0 0, .slice none 0 0] 26)).heap[w.heap.size + 1 + 1]? = some (.cells #[.int .i64 0, .slice none 0 0, .slice none 0 0, .slice none 0 0, .slice none 0 0] 26)) := ⟨⟨b0, hz⟩, m0, m1, m2⟩
  clear h m0 m1 m2 hz b0
  go_enter Try.func24, Try.ntmps24
  go_wp2_with (first
    | (go_at_call 51; refine (HF.out _ b12).mono ?_; rintro e w5 ⟨rfl, bf⟩; have BB := Below.on b12 bf; clear b12 bf; have gx := cells_alloc (cells_below HM.out.2.1 BB (by rw [HM.out.1.2]; omega)) (.cells #[.int .i64 (k : Int)] 3); obtain ⟨g0, g1, g2, g3, g4⟩ := five gx; have k3 := cells_alloc (cells_below HM.out.2.2.2 BB (by rw [HM.out.1.2]; omega)) (.cells #[.int .i64 (k : Int)] 3); obtain ⟨z0, z1, z2, z3, z4⟩ := five k3; have y0 := cells_frozen k3 0; have y1 := cells_frozen k3 1; have y2 := cells_frozen k3 2; have y3 := cells_frozen k3 3; have y4 := cells_frozen k3 4; have HB : Hid (Below w.heap.size w (w5.alloc (.cells #[.int .i64 (k : Int)] 3))) := (Below.on HM.out.1.1 BB).alloc (by have := BB.size; rw [HM.out.1.2] at this; omega) _; have hsz : w.heap.size + 1 + 1 + 1 ≤ w5.heap.size := (by have := BB.size; rw [HM.out.1.2] at this; omega); clear k3)
    | (go_at_call 50; refine (isName_is _ hNm).mono ?_; rintro e w2 ⟨rfl, b2⟩; have b12 := Below.on b1 b2; clear b1 b2; have cn2 := oneN (cells_below HM.out.2.2.1 b12 (by rw [HM.out.1.2]; omega)); have fx := cells_below HM.out.2.1 b12 (by rw [HM.out.1.2]; omega); obtain ⟨f0, f1, f2, f3, f4⟩ := five fx)
    | (go_at_call 13; refine hchk.mono ?_; rintro e w1 ⟨rfl, b1⟩; have cn := oneN (cells_below HM.out.2.2.1 b1 (by rw [HM.out.1.2]; omega)); have dx := cells_below HM.out.2.1 b1 (by rw [HM.out.1.2]; omega); obtain ⟨d0, d1, d2, d3, d4⟩ := five dx))
  have i1 : w.heap.size ≤ w.heap.size + 1 + 1 := by omega
  refine bodyPost_ret (v := .tuple #[.agg #[.int .i64 0, .slice none 0 0, .slice none 0 0, .slice none 0 0, .slice none 0 0], .int .i64 6]) (by simp [results, Try.results24, go_sem, z0, z1, z2, z3, z4]) rfl (AnsI.bad 6 (((((HB.out.setCell i1 _).setCell i1 _).setCell i1 _).setCell i1 _).setCell i1 _))

set_option maxHeartbeats 4000000 in
theorem create_many_at (m : ImgD) (ra : Option Addr) (rc : Nat) (sa : Option Addr) (sc : Nat) (fa : Option Addr) (fc : Nat) (na : Option Addr) (nc : Nat) (nm : ByteArray) (k : Nat) (w : World) (h : Img w (.agg #[.int .i64 m.guest, .slice ra m.root.length rc, .slice sa m.slots.length sc, .slice fa m.refs.length fc, .slice na m.snaps.length nc]) m) (hE : checkE m = 0) (hNm : isNm nm = true) (hk : posS m.snaps nm = k) (hx : (snapIx m.snaps nm).isSome = false) (h3 : m.snaps.length = 3) :
    Calls Try.prog 24 #[.agg #[.int .i64 m.guest, .slice ra m.root.length rc, .slice sa m.slots.length sc, .slice fa m.refs.length fc, .slice na m.snaps.length nc], .string nm] w (AnsI w w.heap.size imgZ 2) := by
  have b0 : Below w.heap.size w (((w.alloc (.cells #[.int .i64 m.guest, .slice ra m.root.length rc, .slice sa m.slots.length sc, .slice fa m.refs.length fc, .slice na m.snaps.length nc] 26)).alloc (.cells #[.string nm] 9)).alloc (.cells #[.int .i64 0, .slice none 0 0, .slice none 0 0, .slice none 0 0, .slice none 0 0] 26)) := (((Below.refl _ _).alloc (by simp; try omega) _).alloc (by simp; try omega) _).alloc (by simp; try omega) _
  have q0 : (w.alloc (.cells #[.int .i64 m.guest, .slice ra m.root.length rc, .slice sa m.slots.length sc, .slice fa m.refs.length fc, .slice na m.snaps.length nc] 26)).heap[w.heap.size]? = some (.cells #[.int .i64 m.guest, .slice ra m.root.length rc, .slice sa m.slots.length sc, .slice fa m.refs.length fc, .slice na m.snaps.length nc] 26) := by have := World.alloc_heap_new w (.cells #[.int .i64 m.guest, .slice ra m.root.length rc, .slice sa m.slots.length sc, .slice fa m.refs.length fc, .slice na m.snaps.length nc] 26); simpa using this
  have m0 : (((w.alloc (.cells #[.int .i64 m.guest, .slice ra m.root.length rc, .slice sa m.slots.length sc, .slice fa m.refs.length fc, .slice na m.snaps.length nc] 26)).alloc (.cells #[.string nm] 9)).alloc (.cells #[.int .i64 0, .slice none 0 0, .slice none 0 0, .slice none 0 0, .slice none 0 0] 26)).heap[w.heap.size]? = some (.cells #[.int .i64 m.guest, .slice ra m.root.length rc, .slice sa m.slots.length sc, .slice fa m.refs.length fc, .slice na m.snaps.length nc] 26) := (cells_alloc (cells_alloc q0 _) _)
  have q1 : ((w.alloc (.cells #[.int .i64 m.guest, .slice ra m.root.length rc, .slice sa m.slots.length sc, .slice fa m.refs.length fc, .slice na m.snaps.length nc] 26)).alloc (.cells #[.string nm] 9)).heap[w.heap.size + 1]? = some (.cells #[.string nm] 9) := by have := World.alloc_heap_new (w.alloc (.cells #[.int .i64 m.guest, .slice ra m.root.length rc, .slice sa m.slots.length sc, .slice fa m.refs.length fc, .slice na m.snaps.length nc] 26)) (.cells #[.string nm] 9); simpa using this
  have m1 : (((w.alloc (.cells #[.int .i64 m.guest, .slice ra m.root.length rc, .slice sa m.slots.length sc, .slice fa m.refs.length fc, .slice na m.snaps.length nc] 26)).alloc (.cells #[.string nm] 9)).alloc (.cells #[.int .i64 0, .slice none 0 0, .slice none 0 0, .slice none 0 0, .slice none 0 0] 26)).heap[w.heap.size + 1]? = some (.cells #[.string nm] 9) := (cells_alloc q1 _)
  have q2 : (((w.alloc (.cells #[.int .i64 m.guest, .slice ra m.root.length rc, .slice sa m.slots.length sc, .slice fa m.refs.length fc, .slice na m.snaps.length nc] 26)).alloc (.cells #[.string nm] 9)).alloc (.cells #[.int .i64 0, .slice none 0 0, .slice none 0 0, .slice none 0 0, .slice none 0 0] 26)).heap[w.heap.size + 1 + 1]? = some (.cells #[.int .i64 0, .slice none 0 0, .slice none 0 0, .slice none 0 0, .slice none 0 0] 26) := by have := World.alloc_heap_new ((w.alloc (.cells #[.int .i64 m.guest, .slice ra m.root.length rc, .slice sa m.slots.length sc, .slice fa m.refs.length fc, .slice na m.snaps.length nc] 26)).alloc (.cells #[.string nm] 9)) (.cells #[.int .i64 0, .slice none 0 0, .slice none 0 0, .slice none 0 0, .slice none 0 0] 26); simpa using this
  have m2 : (((w.alloc (.cells #[.int .i64 m.guest, .slice ra m.root.length rc, .slice sa m.slots.length sc, .slice fa m.refs.length fc, .slice na m.snaps.length nc] 26)).alloc (.cells #[.string nm] 9)).alloc (.cells #[.int .i64 0, .slice none 0 0, .slice none 0 0, .slice none 0 0, .slice none 0 0] 26)).heap[w.heap.size + 1 + 1]? = some (.cells #[.int .i64 0, .slice none 0 0, .slice none 0 0, .slice none 0 0, .slice none 0 0] 26) := q2
  have hz : (((w.alloc (.cells #[.int .i64 m.guest, .slice ra m.root.length rc, .slice sa m.slots.length sc, .slice fa m.refs.length fc, .slice na m.snaps.length nc] 26)).alloc (.cells #[.string nm] 9)).alloc (.cells #[.int .i64 0, .slice none 0 0, .slice none 0 0, .slice none 0 0, .slice none 0 0] 26)).heap.size = w.heap.size + 1 + 1 + 1 := by simp
  clear q0 q1 q2
  have hchk := tcheck_is (h.below b0) hE
  have hF4 := h.four.2.2.2
  have hNP := (namesOK_iff _).1 (shapeE_zero (checkE_shape hE)).2.2.2.1
  have h3l := (shapeE_zero (checkE_shape hE)).1
  have HF : Hid (∀ w2, Below (((w.alloc (.cells #[.int .i64 m.guest, .slice ra m.root.length rc, .slice sa m.slots.length sc, .slice fa m.refs.length fc, .slice na m.snaps.length nc] 26)).alloc (.cells #[.string nm] 9)).alloc (.cells #[.int .i64 0, .slice none 0 0, .slice none 0 0, .slice none 0 0, .slice none 0 0] 26)).heap.size (((w.alloc (.cells #[.int .i64 m.guest, .slice ra m.root.length rc, .slice sa m.slots.length sc, .slice fa m.refs.length fc, .slice na m.snaps.length nc] 26)).alloc (.cells #[.string nm] 9)).alloc (.cells #[.int .i64 0, .slice none 0 0, .slice none 0 0, .slice none 0 0, .slice none 0 0] 26)) w2 → Calls Try.prog 51 #[.slice na m.snaps.length nc, .string nm] w2 fun r w' => r = .returned (.tuple #[.int .i64 (k : Int), .bool false]) ∧ Below w2.heap.size w2 w') := fun w2 hb2 => find_is ((hF4.below b0).below hb2) hNP h3l nm hk hx
  clear hF4 hNP h3l
  have h3b : ((m.snaps.length : Int) == 3) = true := by simp; omega
  clear h3
  obtain ⟨c0, c1, c2, c3, c4⟩ := five m0
  have HM : Hid ((Below w.heap.size w (((w.alloc (.cells #[.int .i64 m.guest, .slice ra m.root.length rc, .slice sa m.slots.length sc, .slice fa m.refs.length fc, .slice na m.snaps.length nc] 26)).alloc (.cells #[.string nm] 9)).alloc (.cells #[.int .i64 0, .slice none 0 0, .slice none 0 0, .slice none 0 0, .slice none 0 0] 26)) ∧ (((w.alloc (.cells #[.int .i64 m.guest, .slice ra m.root.length rc, .slice sa m.slots.length sc, .slice fa m.refs.length fc, .slice na m.snaps.length nc] 26)).alloc (.cells #[.string nm] 9)).alloc (.cells #[.int .i64 0, .slice none 0 0, .slice none 0 0, .slice none 0 0, .slice none 0 0] 26)).heap.size = w.heap.size + 1 + 1 + 1) ∧ (((w.alloc (.cells #[.int .i64 m.guest, .slice ra m.root.length rc, .slice sa m.slots.length sc, .slice fa m.refs.length fc, .slice na m.snaps.length nc] 26)).alloc (.cells #[.string nm] 9)).alloc (.cells #[.int .i64 0, .slice none 0 0, .slice none 0 0, .slice none 0 0, .slice none 0 0] 26)).heap[w.heap.size]? = some (.cells #[.int .i64 m.guest, .slice ra m.root.length rc, .slice sa m.slots.length sc, .slice fa m.refs.length fc, .slice na m.snaps.length nc] 26) ∧ (((w.alloc (.cells #[.int .i64 m.guest, .slice ra m.root.length rc, .slice sa m.slots.length sc, .slice fa m.refs.length fc, .slice na m.snaps.length nc] 26)).alloc (.cells #[.string nm] 9)).alloc (.cells #[.int .i64 0, .slice none 0 0, .slice none 0 0, .slice none 0 0, .slice none 0 0] 26)).heap[w.heap.size + 1]? = some (.cells #[.string nm] 9) ∧ (((w.alloc (.cells #[.int .i64 m.guest, .slice ra m.root.length rc, .slice sa m.slots.length sc, .slice fa m.refs.length fc, .slice na m.snaps.length nc] 26)).alloc (.cells #[.string nm] 9)).alloc (.cells #[.int .i64 0, .slice none 0 0, .slice none 0 0, .slice none 0 0, .slice none 0 0] 26)).heap[w.heap.size + 1 + 1]? = some (.cells #[.int .i64 0, .slice none 0 0, .slice none 0 0, .slice none 0 0, .slice none 0 0] 26)) := ⟨⟨b0, hz⟩, m0, m1, m2⟩
  clear h m0 m1 m2 hz b0
  go_enter Try.func24, Try.ntmps24
  go_wp2_with (first
    | (go_at_call 51; refine (HF.out _ b12).mono ?_; rintro e w5 ⟨rfl, bf⟩; have BB := Below.on b12 bf; clear b12 bf; have gx := cells_alloc (cells_below HM.out.2.1 BB (by rw [HM.out.1.2]; omega)) (.cells #[.int .i64 (k : Int)] 3); obtain ⟨g0, g1, g2, g3, g4⟩ := five gx; have k3 := cells_alloc (cells_below HM.out.2.2.2 BB (by rw [HM.out.1.2]; omega)) (.cells #[.int .i64 (k : Int)] 3); obtain ⟨z0, z1, z2, z3, z4⟩ := five k3; have y0 := cells_frozen k3 0; have y1 := cells_frozen k3 1; have y2 := cells_frozen k3 2; have y3 := cells_frozen k3 3; have y4 := cells_frozen k3 4; have HB : Hid (Below w.heap.size w (w5.alloc (.cells #[.int .i64 (k : Int)] 3))) := (Below.on HM.out.1.1 BB).alloc (by have := BB.size; rw [HM.out.1.2] at this; omega) _; have hsz : w.heap.size + 1 + 1 + 1 ≤ w5.heap.size := (by have := BB.size; rw [HM.out.1.2] at this; omega); clear k3)
    | (go_at_call 50; refine (isName_is _ hNm).mono ?_; rintro e w2 ⟨rfl, b2⟩; have b12 := Below.on b1 b2; clear b1 b2; have cn2 := oneN (cells_below HM.out.2.2.1 b12 (by rw [HM.out.1.2]; omega)); have fx := cells_below HM.out.2.1 b12 (by rw [HM.out.1.2]; omega); obtain ⟨f0, f1, f2, f3, f4⟩ := five fx)
    | (go_at_call 13; refine hchk.mono ?_; rintro e w1 ⟨rfl, b1⟩; have cn := oneN (cells_below HM.out.2.2.1 b1 (by rw [HM.out.1.2]; omega)); have dx := cells_below HM.out.2.1 b1 (by rw [HM.out.1.2]; omega); obtain ⟨d0, d1, d2, d3, d4⟩ := five dx))
  have i1 : w.heap.size ≤ w.heap.size + 1 + 1 := by omega
  refine bodyPost_ret (v := .tuple #[.agg #[.int .i64 0, .slice none 0 0, .slice none 0 0, .slice none 0 0, .slice none 0 0], .int .i64 2]) (by simp [results, Try.results24, go_sem, z0, z1, z2, z3, z4]) rfl (AnsI.bad 2 (((((HB.out.setCell i1 _).setCell i1 _).setCell i1 _).setCell i1 _).setCell i1 _))

set_option maxHeartbeats 4000000 in
theorem create_ok_at (m : ImgD) (ra : Option Addr) (rc : Nat) (sa : Option Addr) (sc : Nat) (fa : Option Addr) (fc : Nat) (na : Option Addr) (nc : Nat) (nm : ByteArray) (k : Nat) (w : World) (h : Img w (.agg #[.int .i64 m.guest, .slice ra m.root.length rc, .slice sa m.slots.length sc, .slice fa m.refs.length fc, .slice na m.snaps.length nc]) m) (hE : checkE m = 0) (hNm : isNm nm = true) (hk : posS m.snaps nm = k) (hx : (snapIx m.snaps nm).isSome = false) (h3 : m.snaps.length < 3) (hkl : k ≤ m.snaps.length) (hsh : shapeE (insM m k (nm, m.guest, m.root)) = 0) (M : ImgD) (hM : countedD (insM m k (nm, m.guest, m.root)) = M) :
    Calls Try.prog 24 #[.agg #[.int .i64 m.guest, .slice ra m.root.length rc, .slice sa m.slots.length sc, .slice fa m.refs.length fc, .slice na m.snaps.length nc], .string nm] w (AnsI w w.heap.size M 0) := by
  have b0 : Below w.heap.size w (((w.alloc (.cells #[.int .i64 m.guest, .slice ra m.root.length rc, .slice sa m.slots.length sc, .slice fa m.refs.length fc, .slice na m.snaps.length nc] 26)).alloc (.cells #[.string nm] 9)).alloc (.cells #[.int .i64 0, .slice none 0 0, .slice none 0 0, .slice none 0 0, .slice none 0 0] 26)) := (((Below.refl _ _).alloc (by simp; try omega) _).alloc (by simp; try omega) _).alloc (by simp; try omega) _
  have q0 : (w.alloc (.cells #[.int .i64 m.guest, .slice ra m.root.length rc, .slice sa m.slots.length sc, .slice fa m.refs.length fc, .slice na m.snaps.length nc] 26)).heap[w.heap.size]? = some (.cells #[.int .i64 m.guest, .slice ra m.root.length rc, .slice sa m.slots.length sc, .slice fa m.refs.length fc, .slice na m.snaps.length nc] 26) := by have := World.alloc_heap_new w (.cells #[.int .i64 m.guest, .slice ra m.root.length rc, .slice sa m.slots.length sc, .slice fa m.refs.length fc, .slice na m.snaps.length nc] 26); simpa using this
  have m0 : (((w.alloc (.cells #[.int .i64 m.guest, .slice ra m.root.length rc, .slice sa m.slots.length sc, .slice fa m.refs.length fc, .slice na m.snaps.length nc] 26)).alloc (.cells #[.string nm] 9)).alloc (.cells #[.int .i64 0, .slice none 0 0, .slice none 0 0, .slice none 0 0, .slice none 0 0] 26)).heap[w.heap.size]? = some (.cells #[.int .i64 m.guest, .slice ra m.root.length rc, .slice sa m.slots.length sc, .slice fa m.refs.length fc, .slice na m.snaps.length nc] 26) := (cells_alloc (cells_alloc q0 _) _)
  have q1 : ((w.alloc (.cells #[.int .i64 m.guest, .slice ra m.root.length rc, .slice sa m.slots.length sc, .slice fa m.refs.length fc, .slice na m.snaps.length nc] 26)).alloc (.cells #[.string nm] 9)).heap[w.heap.size + 1]? = some (.cells #[.string nm] 9) := by have := World.alloc_heap_new (w.alloc (.cells #[.int .i64 m.guest, .slice ra m.root.length rc, .slice sa m.slots.length sc, .slice fa m.refs.length fc, .slice na m.snaps.length nc] 26)) (.cells #[.string nm] 9); simpa using this
  have m1 : (((w.alloc (.cells #[.int .i64 m.guest, .slice ra m.root.length rc, .slice sa m.slots.length sc, .slice fa m.refs.length fc, .slice na m.snaps.length nc] 26)).alloc (.cells #[.string nm] 9)).alloc (.cells #[.int .i64 0, .slice none 0 0, .slice none 0 0, .slice none 0 0, .slice none 0 0] 26)).heap[w.heap.size + 1]? = some (.cells #[.string nm] 9) := (cells_alloc q1 _)
  have q2 : (((w.alloc (.cells #[.int .i64 m.guest, .slice ra m.root.length rc, .slice sa m.slots.length sc, .slice fa m.refs.length fc, .slice na m.snaps.length nc] 26)).alloc (.cells #[.string nm] 9)).alloc (.cells #[.int .i64 0, .slice none 0 0, .slice none 0 0, .slice none 0 0, .slice none 0 0] 26)).heap[w.heap.size + 1 + 1]? = some (.cells #[.int .i64 0, .slice none 0 0, .slice none 0 0, .slice none 0 0, .slice none 0 0] 26) := by have := World.alloc_heap_new ((w.alloc (.cells #[.int .i64 m.guest, .slice ra m.root.length rc, .slice sa m.slots.length sc, .slice fa m.refs.length fc, .slice na m.snaps.length nc] 26)).alloc (.cells #[.string nm] 9)) (.cells #[.int .i64 0, .slice none 0 0, .slice none 0 0, .slice none 0 0, .slice none 0 0] 26); simpa using this
  have m2 : (((w.alloc (.cells #[.int .i64 m.guest, .slice ra m.root.length rc, .slice sa m.slots.length sc, .slice fa m.refs.length fc, .slice na m.snaps.length nc] 26)).alloc (.cells #[.string nm] 9)).alloc (.cells #[.int .i64 0, .slice none 0 0, .slice none 0 0, .slice none 0 0, .slice none 0 0] 26)).heap[w.heap.size + 1 + 1]? = some (.cells #[.int .i64 0, .slice none 0 0, .slice none 0 0, .slice none 0 0, .slice none 0 0] 26) := q2
  have hz : (((w.alloc (.cells #[.int .i64 m.guest, .slice ra m.root.length rc, .slice sa m.slots.length sc, .slice fa m.refs.length fc, .slice na m.snaps.length nc] 26)).alloc (.cells #[.string nm] 9)).alloc (.cells #[.int .i64 0, .slice none 0 0, .slice none 0 0, .slice none 0 0, .slice none 0 0] 26)).heap.size = w.heap.size + 1 + 1 + 1 := by simp
  clear q0 q1 q2
  have hchk := tcheck_is (h.below b0) hE
  have hF4 := h.four.2.2.2
  have hNP := (namesOK_iff _).1 (shapeE_zero (checkE_shape hE)).2.2.2.1
  have h3l := (shapeE_zero (checkE_shape hE)).1
  have HF : Hid (∀ w2, Below (((w.alloc (.cells #[.int .i64 m.guest, .slice ra m.root.length rc, .slice sa m.slots.length sc, .slice fa m.refs.length fc, .slice na m.snaps.length nc] 26)).alloc (.cells #[.string nm] 9)).alloc (.cells #[.int .i64 0, .slice none 0 0, .slice none 0 0, .slice none 0 0, .slice none 0 0] 26)).heap.size (((w.alloc (.cells #[.int .i64 m.guest, .slice ra m.root.length rc, .slice sa m.slots.length sc, .slice fa m.refs.length fc, .slice na m.snaps.length nc] 26)).alloc (.cells #[.string nm] 9)).alloc (.cells #[.int .i64 0, .slice none 0 0, .slice none 0 0, .slice none 0 0, .slice none 0 0] 26)) w2 → Calls Try.prog 51 #[.slice na m.snaps.length nc, .string nm] w2 fun r w' => r = .returned (.tuple #[.int .i64 (k : Int), .bool false]) ∧ Below w2.heap.size w2 w') := fun w2 hb2 => find_is ((hF4.below b0).below hb2) hNP h3l nm hk hx
  clear hF4 hNP h3l
  have h3b : ((m.snaps.length : Int) == 3) = false := by simp; omega
  have HO : Hid (∀ w5, Below (((w.alloc (.cells #[.int .i64 m.guest, .slice ra m.root.length rc, .slice sa m.slots.length sc, .slice fa m.refs.length fc, .slice na m.snaps.length nc] 26)).alloc (.cells #[.string nm] 9)).alloc (.cells #[.int .i64 0, .slice none 0 0, .slice none 0 0, .slice none 0 0, .slice none 0 0] 26)).heap.size (((w.alloc (.cells #[.int .i64 m.guest, .slice ra m.root.length rc, .slice sa m.slots.length sc, .slice fa m.refs.length fc, .slice na m.snaps.length nc] 26)).alloc (.cells #[.string nm] 9)).alloc (.cells #[.int .i64 0, .slice none 0 0, .slice none 0 0, .slice none 0 0, .slice none 0 0] 26)) w5 → Calls Try.prog 33 #[.agg #[.int .i64 m.guest, .slice ra m.root.length rc, .slice sa m.slots.length sc, .slice fa m.refs.length fc, .slice na m.snaps.length nc], .func (.func 52) #[] #[.pointer (some ⟨w.heap.size + 1, 0, none⟩), .pointer (some ⟨w5.heap.size, 0, none⟩)]] (w5.alloc (.cells #[.int .i64 (k : Int)] 3)) (AnsI (w5.alloc (.cells #[.int .i64 (k : Int)] 3)) (w5.alloc (.cells #[.int .i64 (k : Int)] 3)).heap.size M 0)) := fun w5 b5 => by
    have hsz : w.heap.size + 1 + 1 + 1 ≤ w5.heap.size := (by have := b5.size; rw [hz] at this; exact this)
    have b6 : Below (((w.alloc (.cells #[.int .i64 m.guest, .slice ra m.root.length rc, .slice sa m.slots.length sc, .slice fa m.refs.length fc, .slice na m.snaps.length nc] 26)).alloc (.cells #[.string nm] 9)).alloc (.cells #[.int .i64 0, .slice none 0 0, .slice none 0 0, .slice none 0 0, .slice none 0 0] 26)).heap.size (((w.alloc (.cells #[.int .i64 m.guest, .slice ra m.root.length rc, .slice sa m.slots.length sc, .slice fa m.refs.length fc, .slice na m.snaps.length nc] 26)).alloc (.cells #[.string nm] 9)).alloc (.cells #[.int .i64 0, .slice none 0 0, .slice none 0 0, .slice none 0 0, .slice none 0 0] 26)) (w5.alloc (.cells #[.int .i64 (k : Int)] 3)) := b5.alloc (by rw [hz]; exact hsz) _
    have hz1 : (w5.alloc (.cells #[.int .i64 (k : Int)] 3)).heap.size = w5.heap.size + 1 := by simp
    have ho := of_is (h.below (Below.on b0 b6)) (fits_of_shape (checkE_shape hE)) (enters_of Try.func52 (by kernel_rfl) rfl) (create_turn (nm := nm) (oneN (cells_below m1 b6 (by rw [hz]; omega))) (oneN (World.alloc_heap_new _ _)) (by omega) (by omega) (checkE_shape hE) hkl)
    have e1 : ofM (some (insM m k (nm, m.guest, m.root))) = M := by unfold ofM; dsimp only; rw [if_pos hsh]; exact hM
    have e2 : ofE (some (insM m k (nm, m.guest, m.root))) = 0 := hsh
    rw [e1, e2] at ho
    exact ho
  obtain ⟨c0, c1, c2, c3, c4⟩ := five m0
  have HM : Hid ((Below w.heap.size w (((w.alloc (.cells #[.int .i64 m.guest, .slice ra m.root.length rc, .slice sa m.slots.length sc, .slice fa m.refs.length fc, .slice na m.snaps.length nc] 26)).alloc (.cells #[.string nm] 9)).alloc (.cells #[.int .i64 0, .slice none 0 0, .slice none 0 0, .slice none 0 0, .slice none 0 0] 26)) ∧ (((w.alloc (.cells #[.int .i64 m.guest, .slice ra m.root.length rc, .slice sa m.slots.length sc, .slice fa m.refs.length fc, .slice na m.snaps.length nc] 26)).alloc (.cells #[.string nm] 9)).alloc (.cells #[.int .i64 0, .slice none 0 0, .slice none 0 0, .slice none 0 0, .slice none 0 0] 26)).heap.size = w.heap.size + 1 + 1 + 1) ∧ (((w.alloc (.cells #[.int .i64 m.guest, .slice ra m.root.length rc, .slice sa m.slots.length sc, .slice fa m.refs.length fc, .slice na m.snaps.length nc] 26)).alloc (.cells #[.string nm] 9)).alloc (.cells #[.int .i64 0, .slice none 0 0, .slice none 0 0, .slice none 0 0, .slice none 0 0] 26)).heap[w.heap.size]? = some (.cells #[.int .i64 m.guest, .slice ra m.root.length rc, .slice sa m.slots.length sc, .slice fa m.refs.length fc, .slice na m.snaps.length nc] 26) ∧ (((w.alloc (.cells #[.int .i64 m.guest, .slice ra m.root.length rc, .slice sa m.slots.length sc, .slice fa m.refs.length fc, .slice na m.snaps.length nc] 26)).alloc (.cells #[.string nm] 9)).alloc (.cells #[.int .i64 0, .slice none 0 0, .slice none 0 0, .slice none 0 0, .slice none 0 0] 26)).heap[w.heap.size + 1]? = some (.cells #[.string nm] 9) ∧ (((w.alloc (.cells #[.int .i64 m.guest, .slice ra m.root.length rc, .slice sa m.slots.length sc, .slice fa m.refs.length fc, .slice na m.snaps.length nc] 26)).alloc (.cells #[.string nm] 9)).alloc (.cells #[.int .i64 0, .slice none 0 0, .slice none 0 0, .slice none 0 0, .slice none 0 0] 26)).heap[w.heap.size + 1 + 1]? = some (.cells #[.int .i64 0, .slice none 0 0, .slice none 0 0, .slice none 0 0, .slice none 0 0] 26)) := ⟨⟨b0, hz⟩, m0, m1, m2⟩
  clear h m0 m1 m2 hz b0
  clear hM hsh
  go_enter Try.func24, Try.ntmps24
  go_wp2_with (first
    | (go_at_call 51; refine (HF.out _ b12).mono ?_; rintro e w5 ⟨rfl, bf⟩; have BB := Below.on b12 bf; clear b12 bf; have gx := cells_alloc (cells_below HM.out.2.1 BB (by rw [HM.out.1.2]; omega)) (.cells #[.int .i64 (k : Int)] 3); obtain ⟨g0, g1, g2, g3, g4⟩ := five gx; have hof := HO.out w5 BB; have d0 := cells_alloc (cells_below HM.out.2.1 BB (by rw [HM.out.1.2]; omega)) (.cells #[.int .i64 (k : Int)] 3); obtain ⟨x1, x2, x3, x4, x5⟩ := five d0; have ck : (w5.alloc (.cells #[.int .i64 (k : Int)] 3)).cell? ⟨w5.heap.size, 0, none⟩ = some (.int .i64 (k : Int)) := oneN (World.alloc_heap_new _ _); have HV : Hid (Below w.heap.size w (w5.alloc (.cells #[.int .i64 (k : Int)] 3)) ∧ (w5.alloc (.cells #[.int .i64 (k : Int)] 3)).heap[w.heap.size + 1 + 1]? = some (.cells #[.int .i64 0, .slice none 0 0, .slice none 0 0, .slice none 0 0, .slice none 0 0] 26) ∧ w.heap.size + 1 + 1 < (w5.alloc (.cells #[.int .i64 (k : Int)] 3)).heap.size) := ⟨(Below.on HM.out.1.1 BB).alloc (by have := BB.size; rw [HM.out.1.2] at this; omega) _, cells_alloc (cells_below HM.out.2.2.2 BB (by rw [HM.out.1.2]; omega)) _, (by have := BB.size; rw [HM.out.1.2] at this; have hz1 : (w5.alloc (.cells #[.int .i64 (k : Int)] 3)).heap.size = w5.heap.size + 1 := (by simp); omega)⟩; clear d0)
    | (go_at_call 50; refine (isName_is _ hNm).mono ?_; rintro e w2 ⟨rfl, b2⟩; have b12 := Below.on b1 b2; clear b1 b2; have cn2 := oneN (cells_below HM.out.2.2.1 b12 (by rw [HM.out.1.2]; omega)); have fx := cells_below HM.out.2.1 b12 (by rw [HM.out.1.2]; omega); obtain ⟨f0, f1, f2, f3, f4⟩ := five fx)
    | (go_at_call 13; refine hchk.mono ?_; rintro e w1 ⟨rfl, b1⟩; have cn := oneN (cells_below HM.out.2.2.1 b1 (by rw [HM.out.1.2]; omega)); have dx := cells_below HM.out.2.1 b1 (by rw [HM.out.1.2]; omega); obtain ⟨d0, d1, d2, d3, d4⟩ := five dx))
  refine hof.mono ?_
  intro e w3 hA
  obtain ⟨val, ga, gc, la, lc, oa, oc, ta, tc, rfl, hO, b1, hI⟩ := hA.open
  dsimp only
  have k3 := cells_below HV.out.2.1 b1 HV.out.2.2
  obtain ⟨z0, z1, z2, z3, z4⟩ := five k3
  have y0 := cells_frozen k3 0
  have y1 := cells_frozen k3 1
  have y2 := cells_frozen k3 2
  have y3 := cells_frozen k3 3
  have y4 := cells_frozen k3 4
  have HP : Hid (OI w3 (w5.alloc (.cells #[.int .i64 (k : Int)] 3)).heap.size val M) := hO
  have HB : Hid (Below w.heap.size w w3) := Below.on HV.out.1 b1
  have HI : Hid (imgV M.guest val = .agg #[.int .i64 M.guest, .slice ga M.root.length gc, .slice la M.slots.length lc, .slice oa M.refs.length oc, .slice ta M.snaps.length tc]) := hI
  clear hO b1 hI hof hA
  go_wp2_with fail
  have i1 : w.heap.size ≤ w.heap.size + 1 + 1 := by omega
  have hf1 : ∀ a, Live M a → (val a).ownBlock ≠ some (w.heap.size + 1 + 1) := fun a ha e => by have := ((HP.out.row a ha).lt _ e).1; have := HV.out.2.2; omega
  refine bodyPost_ret (v := .tuple #[.agg #[.int .i64 M.guest, .slice ga M.root.length gc, .slice la M.slots.length lc, .slice oa M.refs.length oc, .slice ta M.snaps.length tc], .int .i64 0]) (by simp [results, Try.results24, go_sem, z0, z1, z2, z3, z4]) rfl ⟨val, by rw [HI.out], OI.mono (((((HP.out.far hf1).far hf1).far hf1).far hf1).far hf1) (by have := HV.out.2.2; omega), ((((HB.out.setCell i1 _).setCell i1 _).setCell i1 _).setCell i1 _).setCell i1 _⟩

theorem create_is {w : World} {v : Value} {m : ImgD} (h : Img w v m) (nm : ByteArray) {M : ImgD} {E : Int} (hM : crM m nm = M) (hE : crE m nm = E) :
    Calls Try.prog 24 #[v, .string nm] w (AnsI w w.heap.size M E) := by
  have h' := h
  obtain ⟨ra, rc, sa, sc, fa, fc, na, nc, rfl, _⟩ := h.parts
  subst hM hE
  by_cases h0 : crE m nm = 0
  · obtain ⟨hC, hn, hx, h3, e, hs, _⟩ := cr_ok h0
    rw [h0]
    rw [createM_insN] at e hs
    exact create_ok_at m ra rc sa sc fa fc na nc nm _ w h' hC hn rfl (by rw [hx]; rfl) h3 (posS_le _ _) hs _ e.symm
  · rw [cr_bad h0]
    unfold crE
    by_cases hC : checkE m = 0
    · rw [if_neg (fun x => x hC)]
      by_cases hn : isNm nm = false
      · rw [if_pos hn]; exact create_name_at m ra rc sa sc fa fc na nc nm w h' hC hn
      · rw [if_neg hn]
        have hn' : isNm nm = true := by simpa using hn
        by_cases hx : (snapIx m.snaps nm).isSome = true
        · rw [if_pos hx]; exact create_there_at m ra rc sa sc fa fc na nc nm _ w h' hC hn' rfl hx
        · rw [if_neg hx]
          by_cases h3 : m.snaps.length = 3
          · rw [if_pos h3]; exact create_many_at m ra rc sa sc fa fc na nc nm _ w h' hC hn' rfl (by simpa using hx) h3
          · exact absurd (by unfold crE; rw [if_neg (fun x => x hC), if_neg hn, if_neg hx, if_neg h3]) h0
    · rw [if_pos hC]
      exact create_bad_at m ra rc sa sc fa fc na nc nm _ w h' rfl (by simp [hC])
end Go.Proofs.Ytehleeibgkpjmad
