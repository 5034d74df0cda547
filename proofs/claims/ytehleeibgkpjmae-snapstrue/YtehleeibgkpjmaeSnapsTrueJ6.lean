/- Texts joined: SnW, Strs, FlPlain, WrR, WrA, SnQ, FitP, MendI. -/
import Derived.Test.YtehleeibgkpjmaeSnapsTrueJ5
import Derived.Test.YtehleeibgkpjmaeSnapsTrueJ4
import Derived.Test.YtehleeibgkpjmaeSnapsTrueJ1
import Derived.Test.YtehleeibgkpjmaeSnapsTrueJ3
/- What Create, Revert do on the desk; and the closure of with. -/
namespace Go.Proofs.Ytehleeibgkpjmae
open Go.RowKit Go.Shelf Go.Lib
set_option maxRecDepth 20000
set_option linter.unusedVariables false
set_option linter.unusedSimpArgs false

theorem row_blkN {W W' : World} {B n size : Nat} {e : TypeId} {v : Value} {xs : List Value} (h : W.ownsRow B e size v n xs) (hb : ∀ g, v.ownBlock = some g → W'.heap[g]? = W.heap[g]?) : W'.ownsRow B e size v n xs := by
  refine ⟨h.1, ?_⟩
  rcases h.2 with hn | ⟨g, cap, cur, hv, hb', hg, rest⟩
  · exact .inl hn
  · exact .inr ⟨g, cap, cur, hv, hb', (hb g (by rw [hv]; rfl)).trans hg, rest⟩
theorem oneN {W : World} {B : Nat} {a0 : Value} {t : TypeId} (h : W.heap[B]? = some (.cells #[a0] t)) : W.cell? ⟨B, 0, none⟩ = some a0 := by simp [World.cell?, h]
theorem to_drewN {n : Nat} {w W : World} (h : Below n w W) : Below n w W.drew := h.drew
structure CrR (W wx : World) (B b4 : Nat) (nm : ByteArray) (g : Int) (rv : Value) (r : List Int) : Prop where
  bel : Below W.heap.size W wx
  ge : W.heap.size ≤ b4
  box : wx.heap[b4]? = some (.cells #[.string nm, .int .i64 g, rv] 64)
  row : wx.ownsRow B 3 1 rv r.length (ints r)
  new : ∀ q, rv.ownBlock = some q → W.heap.size ≤ q ∧ q ≠ b4
theorem threeC {W : World} {B : Nat} {a b c : Value} {t : TypeId} (h : W.heap[B]? = some (.cells #[a, b, c] t)) : W.cell? ⟨B, 0, none⟩ = some a ∧ W.cell? ⟨B, 1, none⟩ = some b ∧ W.cell? ⟨B, 2, none⟩ = some c := by
  refine ⟨?_, ?_, ?_⟩ <;> simp [World.cell?, h]
theorem heap_three {W : World} {D : Nat} {x0 x1 x2 : Value} {T : TypeId} (h : W.heap[D]? = some (.cells #[x0, x1, x2] T)) (a0 a1 a2 : Value) : (((W.setCell ⟨D, 0, none⟩ a0).setCell ⟨D, 1, none⟩ a1).setCell ⟨D, 2, none⟩ a2).heap[D]? = some (.cells #[a0, a1, a2] T) := by
  have h1 := cells_set h 0 a0
  have h2 := cells_set h1 1 a1
  have h3 := cells_set h2 2 a2
  exact h3
theorem heap_threeF {W : World} {D q : Nat} (a0 a1 a2 : Value) (hq : q ≠ D) : (((W.setCell ⟨D, 0, none⟩ a0).setCell ⟨D, 1, none⟩ a1).setCell ⟨D, 2, none⟩ a2).heap[q]? = W.heap[q]? :=
  (Below.heap_setCell _ ⟨D, 2, none⟩ a2 q hq).trans ((Below.heap_setCell _ ⟨D, 1, none⟩ a1 q hq).trans (Below.heap_setCell _ ⟨D, 0, none⟩ a0 q hq))
theorem CrR.mk3 {W X : World} {B b4 : Nat} {nm : ByteArray} {g : Int} {rv : Value} {r : List Int} {x0 x1 x2 : Value} (hb : Below W.heap.size W X) (hge : W.heap.size ≤ b4) (hbox : X.heap[b4]? = some (.cells #[x0, x1, x2] 64)) (hrow : X.ownsRow B 3 1 rv r.length (ints r)) (hnew : ∀ q, rv.ownBlock = some q → W.heap.size ≤ q ∧ q ≠ b4) :
    CrR W (((X.setCell ⟨b4, 0, none⟩ (.string nm)).setCell ⟨b4, 1, none⟩ (.int .i64 g)).setCell ⟨b4, 2, none⟩ rv) B b4 nm g rv r :=
  ⟨((hb.setCell hge _).setCell hge _).setCell hge _, hge, heap_three hbox _ _ _, row_blkN hrow (fun q e => heap_threeF _ _ _ (hnew q e).2), hnew⟩
set_option maxHeartbeats 4000000 in
theorem create_turn {w : World} {m : ImgD} {nm : ByteArray} {k bn bi : Nat} (cn : w.cell? ⟨bn, 0, none⟩ = some (.string nm)) (ci : w.cell? ⟨bi, 0, none⟩ = some (.int .i64 (k : Int))) (ln : bn < w.heap.size) (li : bi < w.heap.size) (hs : shapeE m = 0) (hk : k ≤ m.snaps.length) :
    Turns w 32 #[.pointer (some ⟨bn, 0, none⟩), .pointer (some ⟨bi, 0, none⟩)] m (some (insM m k (nm, m.guest, m.root))) := by
  intro W D B val hb h1 h2 hK
  have cn := (hb.cell (p := ⟨bn, 0, none⟩) ln).trans cn
  have ci := (hb.cell (p := ⟨bi, 0, none⟩) li).trans ci
  have lnW : bn < W.heap.size := Nat.lt_of_lt_of_le ln hb.size
  have liW : bi < W.heap.size := Nat.lt_of_lt_of_le li hb.size
  have liB : bi < B := Nat.lt_of_lt_of_le li h1
  have hDB := hK.ge
  have hDlt := hK.lt
  show Calls Try.prog 32 #[.pointer (some ⟨D, 0, none⟩), .pointer (some ⟨bn, 0, none⟩), .pointer (some ⟨bi, 0, none⟩)] W (fun r W' => ∃ val', r = .returned (.tuple #[]) ∧ DTo W W' B D m val nilV (insM m k (nm, m.guest, m.root)) val')
  have h3l := (shapeE_zero hs).1
  have hr4 : m.root.length ≤ 4 := by
    obtain ⟨f1, f2, f3, _⟩ := snap_fit hs (s := (⟨#[]⟩, m.guest, m.root)) List.mem_cons_self
    dsimp only at f1 f2 f3
    omega
  obtain ⟨ra, rc, e0, _⟩ := hK.own.forms .root (Live.root m)
  obtain ⟨sa, sc, e1, _⟩ := hK.own.forms .slots (Live.slots m)
  obtain ⟨fa, fc, e2, _⟩ := hK.own.forms .refs (Live.refs m)
  obtain ⟨na, nc, e3, _⟩ := hK.own.forms .snaps (Live.snaps m)
  have e0 : val .root = .slice ra m.root.length rc := e0
  have e1 : val .slots = .slice sa m.slots.length sc := e1
  have e2 : val .refs = .slice fa m.refs.length fc := e2
  have e3 : val .snaps = .slice na m.snaps.length nc := e3
  have hbox := hK.box
  rw [e0, e1, e2, e3] at hbox
  have HC : Hid (∀ X, Below W.heap.size W X → Calls Try.prog 33 #[.slice ra m.root.length rc] X fun r w' => ∃ v', r = .returned v' ∧ w'.ownsRow X.heap.size 3 1 v' m.root.length (ints m.root) ∧ Below X.heap.size X w') := fun X hX => by
    have := clone_ints (row_sl ((hK.below hX).own.row .root (Live.root m))) (by have := room_is; omega)
    rw [e0] at this
    exact this
  have HK : Hid (DK W B D val m ∧ B ≤ W.heap.size ∧ val .snaps = .slice na m.snaps.length nc) := ⟨hK, h2, e3⟩
  clear hb h1 h2 hK e0 e1 e2 e3 hs
  go_enter Try.func32, Try.ntmps32
  go_upto_region 0 with fail
  go_cut [4] from 5 (fun s wx => ∃ b4 rv, s = .pointer (some ⟨b4, 0, none⟩) ∧ Hid (CrR W wx B b4 nm m.guest rv m.root))
  case first =>
    refine wp_region_held_drew (S := (fun X : World => X.heap[D]? = some (.cells #[.int .i64 m.guest, .slice ra m.root.length rc, .slice sa m.slots.length sc, .slice fa m.refs.length fc, .slice na m.snaps.length nc] 61) ∧ X.cell? ⟨bn, 0, none⟩ = some (.string nm))) (by kernel_rfl) ⟨hbox, cn⟩ (fun hHeld => ?_)
    refine wpAnyH_take (i := 0) (v := .string nm) rfl (by kernel_rfl) (by kernel_rfl) (by kernel_rfl) (fun _ _ _ h => h) (Or.inl ⟨by rfl, fun w' hSw => by obtain ⟨qa, qb⟩ := hSw; obtain ⟨j0, j1, j2, j3, j4⟩ := five qa; go_simp⟩) hHeld ?_
    simp only [Act.put, List.getElem_toArray, List.getElem_cons_succ, List.getElem_cons_zero, List.setIfInBounds_toArray, List.set_cons_zero, List.set_cons_succ]
    refine wpAnyH_take (i := 1) (v := .pointer (some ⟨D, 0, none⟩)) rfl (by kernel_rfl) (by kernel_rfl) (by kernel_rfl) (fun _ _ _ h => h) (Or.inl ⟨by rfl, fun w' hSw => by go_simp⟩) hHeld ?_
    simp only [Act.put, List.getElem_toArray, List.getElem_cons_succ, List.getElem_cons_zero, List.setIfInBounds_toArray, List.set_cons_zero, List.set_cons_succ]
    refine wpAnyH_take (i := 2) (v := .pointer (some ⟨D, 0, none⟩)) rfl (by kernel_rfl) (by kernel_rfl) (by kernel_rfl) (fun _ _ _ h => h) (Or.inl ⟨by rfl, fun w' hSw => by go_simp⟩) hHeld ?_
    simp only [Act.put, List.getElem_toArray, List.getElem_cons_succ, List.getElem_cons_zero, List.setIfInBounds_toArray, List.set_cons_zero, List.set_cons_succ]
    refine wpAnyH_take (i := 3) (v := .pointer (some ⟨D, 0, none⟩)) rfl (by kernel_rfl) (by kernel_rfl) (by kernel_rfl) (fun _ _ _ h => h) (Or.inl ⟨by rfl, fun w' hSw => by go_simp⟩) hHeld ?_
    simp only [Act.put, List.getElem_toArray, List.getElem_cons_succ, List.getElem_cons_zero, List.setIfInBounds_toArray, List.set_cons_zero, List.set_cons_succ]
    refine wpAnyH_take (i := 4) (v := .pointer (some ⟨D, 0, none⟩)) rfl (by kernel_rfl) (by kernel_rfl) (by kernel_rfl) (fun _ _ _ h => h) (Or.inl ⟨by rfl, fun w' hSw => by go_simp⟩) hHeld ?_
    simp only [Act.put, List.getElem_toArray, List.getElem_cons_succ, List.getElem_cons_zero, List.setIfInBounds_toArray, List.set_cons_zero, List.set_cons_succ]
    refine wpAnyH_take (i := 5) (v := .int .i64 m.guest) rfl (by kernel_rfl) (by kernel_rfl) (by kernel_rfl) (fun _ _ _ h => h) (Or.inl ⟨by rfl, fun w' hSw => by obtain ⟨qa, qb⟩ := hSw; obtain ⟨j0, j1, j2, j3, j4⟩ := five qa; go_simp⟩) hHeld ?_
    simp only [Act.put, List.getElem_toArray, List.getElem_cons_succ, List.getElem_cons_zero, List.setIfInBounds_toArray, List.set_cons_zero, List.set_cons_succ]
    refine wpAnyH_take (i := 6) (v := .pointer (some ⟨D, 0, none⟩)) rfl (by kernel_rfl) (by kernel_rfl) (by kernel_rfl) (fun _ _ _ h => h) (Or.inl ⟨by rfl, fun w' hSw => by go_simp⟩) hHeld ?_
    simp only [Act.put, List.getElem_toArray, List.getElem_cons_succ, List.getElem_cons_zero, List.setIfInBounds_toArray, List.set_cons_zero, List.set_cons_succ]
    refine wpAnyH_take (i := 7) (v := .pointer (some ⟨D, 0, none⟩)) rfl (by kernel_rfl) (by kernel_rfl) (by kernel_rfl) (fun _ _ _ h => h) (Or.inl ⟨by rfl, fun w' hSw => by go_simp⟩) hHeld ?_
    simp only [Act.put, List.getElem_toArray, List.getElem_cons_succ, List.getElem_cons_zero, List.setIfInBounds_toArray, List.set_cons_zero, List.set_cons_succ]
    refine wpAnyH_take (i := 8) (v := .pointer (some ⟨D, 0, none⟩)) rfl (by kernel_rfl) (by kernel_rfl) (by kernel_rfl) (fun _ _ _ h => h) (Or.inl ⟨by rfl, fun w' hSw => by go_simp⟩) hHeld ?_
    simp only [Act.put, List.getElem_toArray, List.getElem_cons_succ, List.getElem_cons_zero, List.setIfInBounds_toArray, List.set_cons_zero, List.set_cons_succ]
    refine wpAnyH_take (i := 9) (v := .pointer (some ⟨D, 1, none⟩)) rfl (by kernel_rfl) (by kernel_rfl) (by kernel_rfl) (fun _ _ _ h => h) (Or.inl ⟨by rfl, fun w' hSw => by go_simp⟩) hHeld ?_
    simp only [Act.put, List.getElem_toArray, List.getElem_cons_succ, List.getElem_cons_zero, List.setIfInBounds_toArray, List.set_cons_zero, List.set_cons_succ]
    refine wpAnyH_take (i := 10) (v := .slice ra m.root.length rc) rfl (by kernel_rfl) (by kernel_rfl) (by kernel_rfl) (fun _ _ _ h => h) (Or.inl ⟨by rfl, fun w' hSw => by obtain ⟨qa, qb⟩ := hSw; obtain ⟨j0, j1, j2, j3, j4⟩ := five qa; go_simp⟩) hHeld ?_
    simp only [Act.put, List.getElem_toArray, List.getElem_cons_succ, List.getElem_cons_zero, List.setIfInBounds_toArray, List.set_cons_zero, List.set_cons_succ]
    refine wpAnyH_ready (rs := [11, 13]) (by kernel_rfl) (by simp) ?_
    refine AllReadyH.cons rfl (fun K hK => ?_) (AllReadyH.cons rfl (fun K hK => ?_) AllReadyH.nil)
    · clear hHeld
      simp only [Act.put, List.getElem_toArray, List.getElem_cons_succ, List.getElem_cons_zero, List.setIfInBounds_toArray, List.set_cons_zero, List.set_cons_succ]
      rw [if_pos (by rfl)]
      go_wp2_with (go_at_call 33; refine (HC.out _ (to_drewN (Below.refl _ _))).mono ?_; rintro e9 w1 ⟨rv, rfl, hrow, b1⟩; obtain ⟨va, vc, rfl⟩ := row_slice hrow)
      have b1 : Below W.heap.size W w1 := below_drew b1
      have hrow : w1.ownsRow W.heap.size 3 1 (.slice va m.root.length vc) m.root.length (ints m.root) := hrow
      have hb1 := cells_below hbox b1 hDlt
      have cn1 := (b1.cell (p := ⟨bn, 0, none⟩) lnW).trans cn
      refine hK.out _ _ ⟨hb1, cn1⟩ (fun hHeld => ?_)
      clear hK K
      try simp only [Act.put, List.getElem_toArray, List.getElem_cons_succ, List.getElem_cons_zero, List.setIfInBounds_toArray, List.set_cons_zero, List.set_cons_succ]
      refine wpAnyH_take (i := 12) (v := .agg #[.string nm, .int .i64 m.guest, .slice va m.root.length vc]) rfl (by kernel_rfl) (by kernel_rfl) (by kernel_rfl) (fun _ _ _ h => h) (Or.inl ⟨by rfl, fun w' hSw => by go_simp⟩) hHeld ?_
      simp only [Act.put, List.getElem_toArray, List.getElem_cons_succ, List.getElem_cons_zero, List.setIfInBounds_toArray, List.set_cons_zero, List.set_cons_succ]
      refine wpAnyH_ready (rs := [13]) (by kernel_rfl) (by simp) ?_
      refine AllReadyH.cons rfl (fun K hK => ?_) AllReadyH.nil
      clear hHeld
      simp only [Act.put, List.getElem_toArray, List.getElem_cons_succ, List.getElem_cons_zero, List.setIfInBounds_toArray, List.set_cons_zero, List.set_cons_succ]
      rw [if_pos (by rfl)]
      go_simp
      obtain ⟨X1, hX1⟩ : ∃ X, X = (w1.alloc (.cells #[.string ⟨#[]⟩, .int .i64 0, .slice none 0 0] 64)) := ⟨_, rfl⟩
      have hX1b : Below W.heap.size W X1 := by rw [hX1]; exact b1.alloc b1.size _
      have k4 : X1.heap[w1.heap.size]? = some (.cells #[.string ⟨#[]⟩, .int .i64 0, .slice none 0 0] 64) := by rw [hX1]; exact World.alloc_heap_new _ _
      have hrowX : X1.ownsRow W.heap.size 3 1 (.slice va m.root.length vc) m.root.length (ints m.root) := by rw [hX1]; exact row_blkN hrow (fun q e => Below.heap_alloc w1 _ q ((hrow.lt q e).2))
      have HH : Hid (X1.heap[D]? = some (.cells #[.int .i64 m.guest, .slice ra m.root.length rc, .slice sa m.slots.length sc, .slice fa m.refs.length fc, .slice na m.snaps.length nc] 61) ∧ X1.cell? ⟨bn, 0, none⟩ = some (.string nm)) := ⟨by rw [hX1]; exact cells_alloc hb1 _, (hX1b.cell (p := ⟨bn, 0, none⟩) lnW).trans cn⟩
      rw [← hX1]
      clear hX1
      refine hK.out _ _ HH.out (fun hHeld => ?_)
      clear hK K
      try simp only [Act.put, List.getElem_toArray, List.getElem_cons_succ, List.getElem_cons_zero, List.setIfInBounds_toArray, List.set_cons_zero, List.set_cons_succ]
      refine wpAnyH_ready (rs := [14]) (by kernel_rfl) (by simp) ?_
      refine AllReadyH.cons rfl (fun K hK => ?_) AllReadyH.nil
      clear hHeld
      simp only [Act.put, List.getElem_toArray, List.getElem_cons_succ, List.getElem_cons_zero, List.setIfInBounds_toArray, List.set_cons_zero, List.set_cons_succ]
      rw [if_pos (by rfl)]
      have hb4 : X1.heap[w1.heap.size]? = some (.cells #[.string ⟨#[]⟩, .int .i64 0, .slice none 0 0] 64) := k4
      obtain ⟨t0, t1, t2⟩ := threeC hb4
      have y0 := cells_frozen hb4 0
      have y1 := cells_frozen hb4 1
      have y2 := cells_frozen hb4 2
      have HR : Hid (CrR W (((X1.setCell ⟨w1.heap.size, 0, none⟩ (.string nm)).setCell ⟨w1.heap.size, 1, none⟩ (.int .i64 m.guest)).setCell ⟨w1.heap.size, 2, none⟩ (.slice va m.root.length vc)) B (w1.heap.size) nm m.guest (.slice va m.root.length vc) m.root) := CrR.mk3 (hX1b) (b1.size) hb4 (row_mono hrowX HK.out.2.1) (fun q e => ⟨(hrow.lt q e).1, by have := (hrow.lt q e).2; omega⟩)
      have HS : Hid ((fun X : World => X.heap[D]? = some (.cells #[.int .i64 m.guest, .slice ra m.root.length rc, .slice sa m.slots.length sc, .slice fa m.refs.length fc, .slice na m.snaps.length nc] 61) ∧ X.cell? ⟨bn, 0, none⟩ = some (.string nm)) (((X1.setCell ⟨w1.heap.size, 0, none⟩ (.string nm)).setCell ⟨w1.heap.size, 1, none⟩ (.int .i64 m.guest)).setCell ⟨w1.heap.size, 2, none⟩ (.slice va m.root.length vc))) := ⟨(heap_threeF _ _ _ (by have := b1.size; omega)).trans (HH.out.1), (by have := HR.out.bel.cell (p := ⟨bn, 0, none⟩) lnW; exact this.trans cn)⟩
      clear hb4
      go_simp
      refine hK.out _ _ HS.out (fun hHeld => ?_)
      clear hK K hHeld
      try simp only [Act.put, List.getElem_toArray, List.getElem_cons_succ, List.getElem_cons_zero, List.setIfInBounds_toArray, List.set_cons_zero, List.set_cons_succ]
      refine wpAnyH_done (by kernel_rfl) ?_ _
      go_wp2_with fail
      go_meet
      exact ⟨_, _, rfl, HR⟩
    · clear hHeld
      simp only [Act.put, List.getElem_toArray, List.getElem_cons_succ, List.getElem_cons_zero, List.setIfInBounds_toArray, List.set_cons_zero, List.set_cons_succ]
      rw [if_pos (by rfl)]
      go_simp
      obtain ⟨X1, hX1⟩ : ∃ X, X = (W.alloc (.cells #[.string ⟨#[]⟩, .int .i64 0, .slice none 0 0] 64)).drew := ⟨_, rfl⟩
      have b0 : Below W.heap.size W X1 := by rw [hX1]; exact to_drewN ((Below.refl _ _).alloc (Nat.le_refl _) _)
      have hz1 : X1.heap.size = W.heap.size + 1 := by rw [hX1]; show (W.alloc (.cells #[.string ⟨#[]⟩, .int .i64 0, .slice none 0 0] 64)).heap.size = _; simp
      have k4 : X1.heap[W.heap.size]? = some (.cells #[.string ⟨#[]⟩, .int .i64 0, .slice none 0 0] 64) := by rw [hX1]; exact World.alloc_heap_new _ _
      have HH0 : Hid (X1.heap[D]? = some (.cells #[.int .i64 m.guest, .slice ra m.root.length rc, .slice sa m.slots.length sc, .slice fa m.refs.length fc, .slice na m.snaps.length nc] 61) ∧ X1.cell? ⟨bn, 0, none⟩ = some (.string nm)) := ⟨cells_below hbox b0 hDlt, (b0.cell (p := ⟨bn, 0, none⟩) lnW).trans cn⟩
      rw [← hX1]
      clear hX1
      refine hK.out _ _ HH0.out (fun hHeld => ?_)
      clear hK K
      try simp only [Act.put, List.getElem_toArray, List.getElem_cons_succ, List.getElem_cons_zero, List.setIfInBounds_toArray, List.set_cons_zero, List.set_cons_succ]
      refine wpAnyH_ready (rs := [11]) (by kernel_rfl) (by simp) ?_
      refine AllReadyH.cons rfl (fun K hK => ?_) AllReadyH.nil
      clear hHeld
      simp only [Act.put, List.getElem_toArray, List.getElem_cons_succ, List.getElem_cons_zero, List.setIfInBounds_toArray, List.set_cons_zero, List.set_cons_succ]
      rw [if_pos (by rfl)]
      go_wp2_with (go_at_call 33; refine (HC.out _ (b0)).mono ?_; rintro e9 w1 ⟨rv, rfl, hrow, b1⟩; obtain ⟨va, vc, rfl⟩ := row_slice hrow)
      have b2 : Below W.heap.size W w1 := b0.trans (b1.mono (by omega))
      have k4 := cells_below k4 b1 (by omega)
      have HH : Hid (w1.heap[D]? = some (.cells #[.int .i64 m.guest, .slice ra m.root.length rc, .slice sa m.slots.length sc, .slice fa m.refs.length fc, .slice na m.snaps.length nc] 61) ∧ w1.cell? ⟨bn, 0, none⟩ = some (.string nm)) := ⟨cells_below hbox b2 hDlt, (b2.cell (p := ⟨bn, 0, none⟩) lnW).trans cn⟩
      refine hK.out _ _ HH.out (fun hHeld => ?_)
      clear hK K
      try simp only [Act.put, List.getElem_toArray, List.getElem_cons_succ, List.getElem_cons_zero, List.setIfInBounds_toArray, List.set_cons_zero, List.set_cons_succ]
      refine wpAnyH_take (i := 12) (v := .agg #[.string nm, .int .i64 m.guest, .slice va m.root.length vc]) rfl (by kernel_rfl) (by kernel_rfl) (by kernel_rfl) (fun _ _ _ h => h) (Or.inl ⟨by rfl, fun w' hSw => by go_simp⟩) hHeld ?_
      simp only [Act.put, List.getElem_toArray, List.getElem_cons_succ, List.getElem_cons_zero, List.setIfInBounds_toArray, List.set_cons_zero, List.set_cons_succ]
      refine wpAnyH_ready (rs := [14]) (by kernel_rfl) (by simp) ?_
      refine AllReadyH.cons rfl (fun K hK => ?_) AllReadyH.nil
      clear hHeld
      simp only [Act.put, List.getElem_toArray, List.getElem_cons_succ, List.getElem_cons_zero, List.setIfInBounds_toArray, List.set_cons_zero, List.set_cons_succ]
      rw [if_pos (by rfl)]
      have hb4 : w1.heap[W.heap.size]? = some (.cells #[.string ⟨#[]⟩, .int .i64 0, .slice none 0 0] 64) := k4
      obtain ⟨t0, t1, t2⟩ := threeC hb4
      have y0 := cells_frozen hb4 0
      have y1 := cells_frozen hb4 1
      have y2 := cells_frozen hb4 2
      have HR : Hid (CrR W (((w1.setCell ⟨W.heap.size, 0, none⟩ (.string nm)).setCell ⟨W.heap.size, 1, none⟩ (.int .i64 m.guest)).setCell ⟨W.heap.size, 2, none⟩ (.slice va m.root.length vc)) B (W.heap.size) nm m.guest (.slice va m.root.length vc) m.root) := CrR.mk3 (b2) (Nat.le_refl W.heap.size) hb4 (row_mono hrow (by have := HK.out.2.1; omega)) (fun q e => ⟨by have := (hrow.lt q e).1; omega, by have := (hrow.lt q e).1; omega⟩)
      have HS : Hid ((fun X : World => X.heap[D]? = some (.cells #[.int .i64 m.guest, .slice ra m.root.length rc, .slice sa m.slots.length sc, .slice fa m.refs.length fc, .slice na m.snaps.length nc] 61) ∧ X.cell? ⟨bn, 0, none⟩ = some (.string nm)) (((w1.setCell ⟨W.heap.size, 0, none⟩ (.string nm)).setCell ⟨W.heap.size, 1, none⟩ (.int .i64 m.guest)).setCell ⟨W.heap.size, 2, none⟩ (.slice va m.root.length vc))) := ⟨(heap_threeF _ _ _ (by have := Nat.le_refl W.heap.size; omega)).trans (HH.out.1), (by have := HR.out.bel.cell (p := ⟨bn, 0, none⟩) lnW; exact this.trans cn)⟩
      clear hb4
      go_simp
      refine hK.out _ _ HS.out (fun hHeld => ?_)
      clear hK K hHeld
      try simp only [Act.put, List.getElem_toArray, List.getElem_cons_succ, List.getElem_cons_zero, List.setIfInBounds_toArray, List.set_cons_zero, List.set_cons_succ]
      refine wpAnyH_done (by kernel_rfl) ?_ _
      go_wp2_with fail
      go_meet
      exact ⟨_, _, rfl, HR⟩
  case rest =>
  obtain ⟨b4, rv, rfl, HR⟩ := hcut
  obtain ⟨W1, hW1⟩ : ∃ X, X = wc := ⟨_, rfl⟩
  subst hW1
  obtain ⟨va, vc, rfl⟩ := row_slice HR.out.row
  have b1 := HR.out.bel
  have hge := HR.out.ge
  have hbx1 := HR.out.box
  have ci1 := (b1.cell (p := ⟨bi, 0, none⟩) liW).trans ci
  have hbD := cells_below hbox b1 hDlt
  obtain ⟨o0, o1, o2, o3, o4⟩ := five hbD
  have hb4lt := (Array.getElem?_eq_some_iff.1 hbx1).1
  have hs1 := b1.size
  have HI : Hid (∀ X N, Below W1.heap.size W1 X → X.heap[N]? = some (.cells #[.string nm, .int .i64 m.guest, .slice va m.root.length vc] 64) → W1.heap.size ≤ N → Calls Try.prog 34 #[.slice na m.snaps.length nc, .int .i64 (k : Int), .slice (some ⟨N, 0, none⟩) 1 1] X fun r w' => ∃ v', r = .returned v' ∧ DTo W (w'.setCell ⟨D, 4, none⟩ v') B D m val nilV (insM m k (nm, m.guest, m.root)) (insVal val v' (.slice va m.root.length vc) k) ∧ w'.heap[D]? = some (.cells #[.int .i64 m.guest, .slice ra m.root.length rc, .slice sa m.slots.length sc, .slice fa m.refs.length fc, .slice na m.snaps.length nc] 61) ∧ w'.heap[b4]? = some (.cells #[.string nm, .int .i64 m.guest, .slice va m.root.length vc] 64) ∧ w'.cell? ⟨bi, 0, none⟩ = some (.int .i64 (k : Int)) ∧ ∃ a c, v' = .slice a (m.snaps.length + 1) c) := fun X N hX hN hNge => by
    have hD := HK.out.1.below (Below.on b1 hX)
    have hrow : X.ownsRow B 64 3 (val .snaps) m.snaps.length (flatN m.snaps (fun j => val (.sr j))) := hD.own.row .snaps (Live.snaps m)
    have hins := insert_is B m.snaps.length k N (val .snaps) _ (.string nm) (.int .i64 m.guest) (.slice va m.root.length vc) X (Nat.le_trans HK.out.2.1 (Nat.le_trans hs1 hX.size)) (by omega) hk hrow (flatN_one hD.own) hN (fun e => by have := ((HK.out.1.own.row .snaps (Live.snaps m)).lt N e).2; omega) (by intro u hu; simp at hu; rcases hu with rfl | rfl | rfl <;> rfl)
    rw [HK.out.2.2] at hins
    refine hins.mono ?_
    rintro r w' ⟨v', rfl, k1, k2, k3⟩
    have hne : ∀ q, W.heap.size ≤ q → ¬ (val .snaps).ownBlock = some q := fun q hq e => by have := ((HK.out.1.own.row .snaps (Live.snaps m)).lt q e).2; omega
    have hrv : X.ownsRow B 3 1 (.slice va m.root.length vc) m.root.length (ints m.root) := row_blkN HR.out.row (fun q e => hX.block q ((HR.out.row.lt q e).2))
    have k2' : X.grownBy w' (val .snaps).ownBlock := by rw [HK.out.2.2]; exact k2
    have hT := DTo.ins (s := (nm, m.guest, m.root)) hD (Nat.le_trans HK.out.2.1 (Nat.le_trans hs1 hX.size)) hk hrv (fun b hb g hg x => by have := (HR.out.new g hg).1; have := ((HK.out.1.own.row b hb).lt g x).2; omega) (fun e => by have := (HR.out.new D e).1; omega) k1 k2' (by rw [HK.out.2.2]; exact k3)
    have hbel : Below B X w' := Below.grown (Below.refl _ _) k2' (Nat.le_trans HK.out.2.1 (Nat.le_trans hs1 hX.size)) (fun q e => ((hrow).lt q e).1)
    refine ⟨v', rfl, DTo.first (Below.on b1 hX) HK.out.2.1 hT (fun q e => (HR.out.new q e).1), ?_, ?_, ?_, row_slice k1⟩
    · exact (k2'.block D (Nat.lt_of_lt_of_le hDlt (Nat.le_trans hs1 hX.size)) (fun e => HK.out.1.far .snaps (Live.snaps m) e.symm)).trans (cells_below hbD hX (Nat.lt_of_lt_of_le hDlt hs1))
    · exact (k2'.block b4 (Nat.lt_of_lt_of_le hb4lt hX.size) (fun e => hne b4 hge e.symm)).trans (cells_below hbx1 hX hb4lt)
    · exact (hbel.cell (p := ⟨bi, 0, none⟩) liB).trans ((hX.cell (p := ⟨bi, 0, none⟩) (Nat.lt_of_lt_of_le liW hs1)).trans ci1)
  go_upto_region 1 with fail
  refine wp_region_held_drew (S := (fun X : World => X.cell? ⟨bi, 0, none⟩ = some (.int .i64 (k : Int)) ∧ X.heap[b4]? = some (.cells #[.string nm, .int .i64 m.guest, .slice va m.root.length vc] 64))) (by kernel_rfl) ⟨ci1, hbx1⟩ (fun hHeld => ?_)
  refine wpAnyH_take (i := 0) (v := .pointer (some ⟨D, 0, none⟩)) rfl (by kernel_rfl) (by kernel_rfl) (by kernel_rfl) (fun _ _ _ h => h) (Or.inl ⟨by rfl, fun w' hSw => by go_simp⟩) hHeld ?_
  simp only [Act.put, List.getElem_toArray, List.getElem_cons_succ, List.getElem_cons_zero, List.setIfInBounds_toArray, List.set_cons_zero, List.set_cons_succ]
  refine wpAnyH_take (i := 1) (v := .pointer (some ⟨D, 0, none⟩)) rfl (by kernel_rfl) (by kernel_rfl) (by kernel_rfl) (fun _ _ _ h => h) (Or.inl ⟨by rfl, fun w' hSw => by go_simp⟩) hHeld ?_
  simp only [Act.put, List.getElem_toArray, List.getElem_cons_succ, List.getElem_cons_zero, List.setIfInBounds_toArray, List.set_cons_zero, List.set_cons_succ]
  refine wpAnyH_take (i := 2) (v := .pointer (some ⟨D, 0, none⟩)) rfl (by kernel_rfl) (by kernel_rfl) (by kernel_rfl) (fun _ _ _ h => h) (Or.inl ⟨by rfl, fun w' hSw => by go_simp⟩) hHeld ?_
  simp only [Act.put, List.getElem_toArray, List.getElem_cons_succ, List.getElem_cons_zero, List.setIfInBounds_toArray, List.set_cons_zero, List.set_cons_succ]
  refine wpAnyH_take (i := 3) (v := .pointer (some ⟨D, 0, none⟩)) rfl (by kernel_rfl) (by kernel_rfl) (by kernel_rfl) (fun _ _ _ h => h) (Or.inl ⟨by rfl, fun w' hSw => by go_simp⟩) hHeld ?_
  simp only [Act.put, List.getElem_toArray, List.getElem_cons_succ, List.getElem_cons_zero, List.setIfInBounds_toArray, List.set_cons_zero, List.set_cons_succ]
  refine wpAnyH_take (i := 4) (v := .pointer (some ⟨D, 4, none⟩)) rfl (by kernel_rfl) (by kernel_rfl) (by kernel_rfl) (fun _ _ _ h => h) (Or.inl ⟨by rfl, fun w' hSw => by go_simp⟩) hHeld ?_
  simp only [Act.put, List.getElem_toArray, List.getElem_cons_succ, List.getElem_cons_zero, List.setIfInBounds_toArray, List.set_cons_zero, List.set_cons_succ]
  refine wpAnyH_take (i := 6) (v := .int .i64 (k : Int)) rfl (by kernel_rfl) (by kernel_rfl) (by kernel_rfl) (fun _ _ _ h => h) (Or.inl ⟨by rfl, fun w' hSw => by obtain ⟨qa, qb⟩ := hSw; obtain ⟨j0, j1, j2⟩ := threeC qb; go_simp⟩) hHeld ?_
  simp only [Act.put, List.getElem_toArray, List.getElem_cons_succ, List.getElem_cons_zero, List.setIfInBounds_toArray, List.set_cons_zero, List.set_cons_succ]
  refine wpAnyH_take (i := 7) (v := .agg #[.string nm, .int .i64 m.guest, .slice va m.root.length vc]) rfl (by kernel_rfl) (by kernel_rfl) (by kernel_rfl) (fun _ _ _ h => h) (Or.inl ⟨by rfl, fun w' hSw => by obtain ⟨qa, qb⟩ := hSw; obtain ⟨j0, j1, j2⟩ := threeC qb; go_simp⟩) hHeld ?_
  simp only [Act.put, List.getElem_toArray, List.getElem_cons_succ, List.getElem_cons_zero, List.setIfInBounds_toArray, List.set_cons_zero, List.set_cons_succ]
  refine wpAnyH_ready (rs := [5, 8]) (by kernel_rfl) (by simp) ?_
  refine AllReadyH.cons rfl (fun K hK => ?_) (AllReadyH.cons rfl (fun K hK => ?_) AllReadyH.nil)
  · clear hHeld
    simp only [Act.put, List.getElem_toArray, List.getElem_cons_succ, List.getElem_cons_zero, List.setIfInBounds_toArray, List.set_cons_zero, List.set_cons_succ]
    rw [if_pos (by rfl)]
    have o4' : W1.drew.cell? ⟨D, 4, none⟩ = some (.slice na m.snaps.length nc) := o4
    go_simp
    refine hK.out _ _ ⟨ci1, hbx1⟩ (fun hHeld => ?_)
    clear hK K
    try simp only [Act.put, List.getElem_toArray, List.getElem_cons_succ, List.getElem_cons_zero, List.setIfInBounds_toArray, List.set_cons_zero, List.set_cons_succ]
    refine wpAnyH_ready (rs := [8]) (by kernel_rfl) (by simp) ?_
    refine AllReadyH.cons rfl (fun K hK => ?_) AllReadyH.nil
    clear hHeld
    simp only [Act.put, List.getElem_toArray, List.getElem_cons_succ, List.getElem_cons_zero, List.setIfInBounds_toArray, List.set_cons_zero, List.set_cons_succ]
    rw [if_pos (by rfl)]
    go_simp
    have HS2 : Hid ((fun X : World => X.cell? ⟨bi, 0, none⟩ = some (.int .i64 (k : Int)) ∧ X.heap[b4]? = some (.cells #[.string nm, .int .i64 m.guest, .slice va m.root.length vc] 64)) (W1.alloc (.cells #[.string nm, .int .i64 m.guest, .slice va m.root.length vc] 64)).drew) := ⟨(((Below.refl _ _).alloc (Nat.le_refl _) _).cell (p := ⟨bi, 0, none⟩) (Nat.lt_of_lt_of_le liW hs1)).trans ci1, cells_alloc hbx1 _⟩
    obtain ⟨X2, hX2⟩ : ∃ X, X = (W1.alloc (.cells #[.string nm, .int .i64 m.guest, .slice va m.root.length vc] 64)).drew := ⟨_, rfl⟩
    have b2 : Below W1.heap.size W1 X2 := by rw [hX2]; exact to_drewN ((Below.refl _ _).alloc (Nat.le_refl _) _)
    have k2 : X2.heap[W1.heap.size]? = some (.cells #[.string nm, .int .i64 m.guest, .slice va m.root.length vc] 64) := by rw [hX2]; exact World.alloc_heap_new _ _
    rw [← hX2] at HS2 ⊢
    clear hX2
    refine hK.out _ _ HS2.out (fun hHeld => ?_)
    clear hK K
    try simp only [Act.put, List.getElem_toArray, List.getElem_cons_succ, List.getElem_cons_zero, List.setIfInBounds_toArray, List.set_cons_zero, List.set_cons_succ]
    refine wpAnyH_ready (rs := [9]) (by kernel_rfl) (by simp) ?_
    refine AllReadyH.cons rfl (fun K hK => ?_) AllReadyH.nil
    clear hHeld
    simp only [Act.put, List.getElem_toArray, List.getElem_cons_succ, List.getElem_cons_zero, List.setIfInBounds_toArray, List.set_cons_zero, List.set_cons_succ]
    rw [if_pos (by rfl)]
    go_wp2_with (go_at_call 34; refine (HI.out _ W1.heap.size (b2) (k2) (Nat.le_refl _)).mono ?_; rintro e9 w2 ⟨v2, rfl, hT, hD2, h42, hi2, a2, c2, rfl⟩; have HT : Hid (DTo W (w2.setCell ⟨D, 4, none⟩ (.slice a2 (m.snaps.length + 1) c2)) B D m val nilV (insM m k (nm, m.guest, m.root)) (insVal val (.slice a2 (m.snaps.length + 1) c2) (.slice va m.root.length vc) k)) := hT; clear hT)
    refine hK.out _ _ ⟨hi2, h42⟩ (fun hHeld => ?_)
    clear hK K
    try simp only [Act.put, List.getElem_toArray, List.getElem_cons_succ, List.getElem_cons_zero, List.setIfInBounds_toArray, List.set_cons_zero, List.set_cons_succ]
    refine wpAnyH_take (i := 10) (v := .pointer (some ⟨D, 0, none⟩)) rfl (by kernel_rfl) (by kernel_rfl) (by kernel_rfl) (fun _ _ _ h => h) (Or.inl ⟨by rfl, fun w' hSw => by go_simp⟩) hHeld ?_
    simp only [Act.put, List.getElem_toArray, List.getElem_cons_succ, List.getElem_cons_zero, List.setIfInBounds_toArray, List.set_cons_zero, List.set_cons_succ]
    refine wpAnyH_take (i := 11) (v := .pointer (some ⟨D, 0, none⟩)) rfl (by kernel_rfl) (by kernel_rfl) (by kernel_rfl) (fun _ _ _ h => h) (Or.inl ⟨by rfl, fun w' hSw => by go_simp⟩) hHeld ?_
    simp only [Act.put, List.getElem_toArray, List.getElem_cons_succ, List.getElem_cons_zero, List.setIfInBounds_toArray, List.set_cons_zero, List.set_cons_succ]
    refine wpAnyH_take (i := 12) (v := .pointer (some ⟨D, 4, none⟩)) rfl (by kernel_rfl) (by kernel_rfl) (by kernel_rfl) (fun _ _ _ h => h) (Or.inl ⟨by rfl, fun w' hSw => by go_simp⟩) hHeld ?_
    simp only [Act.put, List.getElem_toArray, List.getElem_cons_succ, List.getElem_cons_zero, List.setIfInBounds_toArray, List.set_cons_zero, List.set_cons_succ]
    refine wpAnyH_ready (rs := [13]) (by kernel_rfl) (by simp) ?_
    refine AllReadyH.cons rfl (fun K hK => ?_) AllReadyH.nil
    clear hHeld
    simp only [Act.put, List.getElem_toArray, List.getElem_cons_succ, List.getElem_cons_zero, List.setIfInBounds_toArray, List.set_cons_zero, List.set_cons_succ]
    rw [if_pos (by rfl)]
    have f4 := cells_frozen hD2 4
    obtain ⟨p0, p1, p2, p3, p4⟩ := five hD2
    have HS : Hid ((fun X : World => X.cell? ⟨bi, 0, none⟩ = some (.int .i64 (k : Int)) ∧ X.heap[b4]? = some (.cells #[.string nm, .int .i64 m.guest, .slice va m.root.length vc] 64)) (w2.setCell ⟨D, 4, none⟩ (.slice a2 (m.snaps.length + 1) c2))) := ⟨(((Below.refl (D) w2).setCell (Nat.le_refl _) _).cell (p := ⟨bi, 0, none⟩) (Nat.lt_of_lt_of_le liB hDB)).trans hi2, cells_other h42 (by omega) _ _⟩
    clear hD2 hi2 h42
    go_simp
    refine hK.out _ _ HS.out (fun hHeld => ?_)
    clear hK K hHeld
    try simp only [Act.put, List.getElem_toArray, List.getElem_cons_succ, List.getElem_cons_zero, List.setIfInBounds_toArray, List.set_cons_zero, List.set_cons_succ]
    refine wpAnyH_done (by kernel_rfl) ?_ _
    go_wp2_with fail
    go_end0
    first | exact ⟨_, rfl, HT.out⟩ | exact ⟨_, _, rfl, HT.out⟩ | exact ⟨_, rfl, _, rfl, HT.out⟩ | exact ⟨rfl, _, HT.out⟩
  · clear hHeld
    simp only [Act.put, List.getElem_toArray, List.getElem_cons_succ, List.getElem_cons_zero, List.setIfInBounds_toArray, List.set_cons_zero, List.set_cons_succ]
    rw [if_pos (by rfl)]
    go_simp
    have HS2 : Hid ((fun X : World => X.cell? ⟨bi, 0, none⟩ = some (.int .i64 (k : Int)) ∧ X.heap[b4]? = some (.cells #[.string nm, .int .i64 m.guest, .slice va m.root.length vc] 64)) (W1.alloc (.cells #[.string nm, .int .i64 m.guest, .slice va m.root.length vc] 64)).drew) := ⟨(((Below.refl _ _).alloc (Nat.le_refl _) _).cell (p := ⟨bi, 0, none⟩) (Nat.lt_of_lt_of_le liW hs1)).trans ci1, cells_alloc hbx1 _⟩
    obtain ⟨X2, hX2⟩ : ∃ X, X = (W1.alloc (.cells #[.string nm, .int .i64 m.guest, .slice va m.root.length vc] 64)).drew := ⟨_, rfl⟩
    have b2 : Below W1.heap.size W1 X2 := by rw [hX2]; exact to_drewN ((Below.refl _ _).alloc (Nat.le_refl _) _)
    have k2 : X2.heap[W1.heap.size]? = some (.cells #[.string nm, .int .i64 m.guest, .slice va m.root.length vc] 64) := by rw [hX2]; exact World.alloc_heap_new _ _
    rw [← hX2] at HS2 ⊢
    clear hX2
    have o4' := (b2.cell (p := ⟨D, 4, none⟩) (Nat.lt_of_lt_of_le hDlt hs1)).trans o4
    refine hK.out _ _ HS2.out (fun hHeld => ?_)
    clear hK K
    try simp only [Act.put, List.getElem_toArray, List.getElem_cons_succ, List.getElem_cons_zero, List.setIfInBounds_toArray, List.set_cons_zero, List.set_cons_succ]
    refine wpAnyH_ready (rs := [5]) (by kernel_rfl) (by simp) ?_
    refine AllReadyH.cons rfl (fun K hK => ?_) AllReadyH.nil
    clear hHeld
    simp only [Act.put, List.getElem_toArray, List.getElem_cons_succ, List.getElem_cons_zero, List.setIfInBounds_toArray, List.set_cons_zero, List.set_cons_succ]
    rw [if_pos (by rfl)]
    go_simp
    refine hK.out _ _ HS2.out (fun hHeld => ?_)
    clear hK K
    try simp only [Act.put, List.getElem_toArray, List.getElem_cons_succ, List.getElem_cons_zero, List.setIfInBounds_toArray, List.set_cons_zero, List.set_cons_succ]
    refine wpAnyH_ready (rs := [9]) (by kernel_rfl) (by simp) ?_
    refine AllReadyH.cons rfl (fun K hK => ?_) AllReadyH.nil
    clear hHeld
    simp only [Act.put, List.getElem_toArray, List.getElem_cons_succ, List.getElem_cons_zero, List.setIfInBounds_toArray, List.set_cons_zero, List.set_cons_succ]
    rw [if_pos (by rfl)]
    go_wp2_with (go_at_call 34; refine (HI.out _ W1.heap.size (b2) (k2) (Nat.le_refl _)).mono ?_; rintro e9 w2 ⟨v2, rfl, hT, hD2, h42, hi2, a2, c2, rfl⟩; have HT : Hid (DTo W (w2.setCell ⟨D, 4, none⟩ (.slice a2 (m.snaps.length + 1) c2)) B D m val nilV (insM m k (nm, m.guest, m.root)) (insVal val (.slice a2 (m.snaps.length + 1) c2) (.slice va m.root.length vc) k)) := hT; clear hT)
    refine hK.out _ _ ⟨hi2, h42⟩ (fun hHeld => ?_)
    clear hK K
    try simp only [Act.put, List.getElem_toArray, List.getElem_cons_succ, List.getElem_cons_zero, List.setIfInBounds_toArray, List.set_cons_zero, List.set_cons_succ]
    refine wpAnyH_take (i := 10) (v := .pointer (some ⟨D, 0, none⟩)) rfl (by kernel_rfl) (by kernel_rfl) (by kernel_rfl) (fun _ _ _ h => h) (Or.inl ⟨by rfl, fun w' hSw => by go_simp⟩) hHeld ?_
    simp only [Act.put, List.getElem_toArray, List.getElem_cons_succ, List.getElem_cons_zero, List.setIfInBounds_toArray, List.set_cons_zero, List.set_cons_succ]
    refine wpAnyH_take (i := 11) (v := .pointer (some ⟨D, 0, none⟩)) rfl (by kernel_rfl) (by kernel_rfl) (by kernel_rfl) (fun _ _ _ h => h) (Or.inl ⟨by rfl, fun w' hSw => by go_simp⟩) hHeld ?_
    simp only [Act.put, List.getElem_toArray, List.getElem_cons_succ, List.getElem_cons_zero, List.setIfInBounds_toArray, List.set_cons_zero, List.set_cons_succ]
    refine wpAnyH_take (i := 12) (v := .pointer (some ⟨D, 4, none⟩)) rfl (by kernel_rfl) (by kernel_rfl) (by kernel_rfl) (fun _ _ _ h => h) (Or.inl ⟨by rfl, fun w' hSw => by go_simp⟩) hHeld ?_
    simp only [Act.put, List.getElem_toArray, List.getElem_cons_succ, List.getElem_cons_zero, List.setIfInBounds_toArray, List.set_cons_zero, List.set_cons_succ]
    refine wpAnyH_ready (rs := [13]) (by kernel_rfl) (by simp) ?_
    refine AllReadyH.cons rfl (fun K hK => ?_) AllReadyH.nil
    clear hHeld
    simp only [Act.put, List.getElem_toArray, List.getElem_cons_succ, List.getElem_cons_zero, List.setIfInBounds_toArray, List.set_cons_zero, List.set_cons_succ]
    rw [if_pos (by rfl)]
    have f4 := cells_frozen hD2 4
    obtain ⟨p0, p1, p2, p3, p4⟩ := five hD2
    have HS : Hid ((fun X : World => X.cell? ⟨bi, 0, none⟩ = some (.int .i64 (k : Int)) ∧ X.heap[b4]? = some (.cells #[.string nm, .int .i64 m.guest, .slice va m.root.length vc] 64)) (w2.setCell ⟨D, 4, none⟩ (.slice a2 (m.snaps.length + 1) c2))) := ⟨(((Below.refl (D) w2).setCell (Nat.le_refl _) _).cell (p := ⟨bi, 0, none⟩) (Nat.lt_of_lt_of_le liB hDB)).trans hi2, cells_other h42 (by omega) _ _⟩
    clear hD2 hi2 h42
    go_simp
    refine hK.out _ _ HS.out (fun hHeld => ?_)
    clear hK K hHeld
    try simp only [Act.put, List.getElem_toArray, List.getElem_cons_succ, List.getElem_cons_zero, List.setIfInBounds_toArray, List.set_cons_zero, List.set_cons_succ]
    refine wpAnyH_done (by kernel_rfl) ?_ _
    go_wp2_with fail
    go_end0
    first | exact ⟨_, rfl, HT.out⟩ | exact ⟨_, _, rfl, HT.out⟩ | exact ⟨_, rfl, _, rfl, HT.out⟩ | exact ⟨rfl, _, HT.out⟩

theorem with_turn {w : World} {m M0 : ImgD} {N k bt bi : Nat} (ct : w.cell? ⟨bt, 0, none⟩ = some (.func (.func N) #[] #[])) (ci : w.cell? ⟨bi, 0, none⟩ = some (.int .i64 (k : Int))) (lt : bt < w.heap.size) (li : bi < w.heap.size)
    (hN : ∀ (args : Array Value) (w : World), (callFunc N args).run Try.prog w = .ok (.enter N args) w) (hT : ∀ (W : World) (D B : Nat) (val : Nm → Value), B ≤ W.heap.size → DK W B D val m → Calls Try.prog N #[.pointer (some ⟨D, 0, none⟩), .int .i64 (k : Int)] W fun r W' => ∃ val', r = .returned (.tuple #[]) ∧ DTo W W' B D m val nilV M0 val') :
    Turns w 73 #[.pointer (some ⟨bt, 0, none⟩), .pointer (some ⟨bi, 0, none⟩)] m (some M0) := by
  intro W D B val hb h1 h2 hK
  have ct := (hb.cell (p := ⟨bt, 0, none⟩) lt).trans ct
  have ci := (hb.cell (p := ⟨bi, 0, none⟩) li).trans ci
  have hcall := hT W D B val h2 hK
  show Calls Try.prog 73 #[.pointer (some ⟨D, 0, none⟩), .pointer (some ⟨bt, 0, none⟩), .pointer (some ⟨bi, 0, none⟩)] W (fun r W' => ∃ val', r = .returned (.tuple #[]) ∧ DTo W W' B D m val nilV M0 val')
  clear hT hK hb
  go_enter Try.func73, Try.ntmps73
  go_wp2_with fail
  refine hcall.mono ?_
  rintro e w1 ⟨val1, rfl, hD⟩
  dsimp only
  have HD : Hid (DTo W w1 B D m val nilV M0 val1) := hD
  clear hD
  go_wp2_with fail
  go_end0
  exact ⟨_, rfl, HD.out⟩

set_option maxHeartbeats 4000000 in
theorem revert_desk {W : World} {B D k : Nat} {val : Nm → Value} {m : ImgD} (hK : DK W B D val m) (hB : B ≤ W.heap.size) (hk : k < m.snaps.length) (h3 : m.snaps.length ≤ 1000) (hs : shapeE m = 0) :
    Calls Try.prog 36 #[.pointer (some ⟨D, 0, none⟩), .int .i64 k] W fun r W' => ∃ val', r = .returned (.tuple #[]) ∧ DTo W W' B D m val nilV (revertM m k) val' := by
  have hDlt := hK.lt
  have hge := hK.ge
  obtain ⟨na, nc, e3, hna⟩ := hK.own.forms .snaps (Live.snaps m)
  have e3 : val .snaps = .slice na m.snaps.length nc := e3
  obtain ⟨nb, rfl⟩ := hna (by show 0 < m.snaps.length; omega)
  have hrow : W.ownsRow B 64 3 (val .snaps) m.snaps.length (flatN m.snaps (fun j => val (.sr j))) := hK.own.row .snaps (Live.snaps m)
  rw [e3] at hrow
  have hcx := fun i (hi : i < 3) => hrow.cellAt (k * 3 + i) (by omega)
  obtain ⟨g0, g1, g2⟩ := flatN_get (qv := fun j => val (.sr j)) hk
  obtain ⟨qa, qc, eq, _⟩ := hK.own.forms (.sr k) (Live.sr hk)
  have k0 : W.cell? ⟨nb, k * 3, none⟩ = _ := (hcx 0 (by omega)).trans g0
  have k1 := (hcx 1 (by omega)).trans g1
  have k2 : W.cell? ⟨nb, k * 3 + 1 + 1, none⟩ = _ := (hcx 2 (by omega)).trans g2
  have hsr : Sl W (val (.sr k)) (m.snaps.getD k default).2.2 := row_sl (hK.own.row (.sr k) (Live.sr hk))
  have hq4 : (m.snaps.getD k default).2.2.length ≤ 4 := by
    have hm : m.snaps.getD k default ∈ m.snaps := by rw [show m.snaps.getD k default = m.snaps[k] by simp [List.getD, hk]]; exact List.getElem_mem hk
    obtain ⟨f1, f2, f3, _⟩ := snap_fit hs (List.mem_cons_of_mem _ hm)
    omega
  have HM : Hid (revertM m k = { { m with guest := (m.snaps.getD k default).2.1 } with root := (m.snaps.getD k default).2.2 }) := rfl
  have eq : val (.sr k) = .slice qa (m.snaps.getD k default).2.2.length qc := eq
  obtain ⟨⟨sn, sg, sr⟩, hsn⟩ : ∃ s, s = m.snaps.getD k default := ⟨_, rfl⟩
  rw [← hsn] at k0 k1 hsr hq4 HM eq
  dsimp only at k0 k1 k2 hsr hq4 eq
  rw [eq] at k2 hsr
  clear hsn eq
  have c4 : W.cell? ⟨D, 4, none⟩ = some (.slice (some ⟨nb, 0, none⟩) m.snaps.length nc) := by have := hK.five.2.2.2.2; rw [e3] at this; exact this
  have hnbl : nb < W.heap.size := (row_lt hrow).2.1
  have HC : Hid (∀ X, Below W.heap.size W X → Calls Try.prog 33 #[.slice qa sr.length qc] X fun r w' => ∃ v', r = .returned v' ∧ w'.ownsRow X.heap.size 3 1 v' sr.length (ints sr) ∧ Below X.heap.size X w') := fun X hX => clone_ints (hsr.below hX) (by have := room_is; omega)
  have HK : Hid (DK W B D val m ∧ B ≤ W.heap.size) := ⟨hK, hB⟩
  have hkn : (k : Int) < (m.snaps.length : Int) := by omega
  clear hK hB hrow hcx g0 g1 g2 hna e3 hsr
  go_enter Try.func36, Try.ntmps36
  go_upto_region 1 with fail
  have hb0 : Below W.heap.size W (W.alloc (.cells #[.string sn, .int .i64 sg, .slice qa sr.length qc] 64)) := (Below.refl _ _).alloc (Nat.le_refl _) _
  have hbx : (W.alloc (.cells #[.string sn, .int .i64 sg, .slice qa sr.length qc] 64)).heap[W.heap.size]? = some (.cells #[.string sn, .int .i64 sg, .slice qa sr.length qc] 64) := World.alloc_heap_new _ _
  refine wp_region_held_drew (S := (fun X : World => X.heap[W.heap.size]? = some (.cells #[.string sn, .int .i64 sg, .slice qa sr.length qc] 64))) (by kernel_rfl) hbx (fun hHeld => ?_)
  refine wpAnyH_take (i := 0) (v := .pointer (some ⟨D, 0, none⟩)) rfl (by kernel_rfl) (by kernel_rfl) (by kernel_rfl) (fun _ _ _ h => h) (Or.inl ⟨by rfl, fun w' hSw => by go_simp⟩) hHeld ?_
  simp only [Act.put, List.getElem_toArray, List.getElem_cons_succ, List.getElem_cons_zero, List.setIfInBounds_toArray, List.set_cons_zero, List.set_cons_succ]
  refine wpAnyH_take (i := 1) (v := .pointer (some ⟨D, 0, none⟩)) rfl (by kernel_rfl) (by kernel_rfl) (by kernel_rfl) (fun _ _ _ h => h) (Or.inl ⟨by rfl, fun w' hSw => by go_simp⟩) hHeld ?_
  simp only [Act.put, List.getElem_toArray, List.getElem_cons_succ, List.getElem_cons_zero, List.setIfInBounds_toArray, List.set_cons_zero, List.set_cons_succ]
  refine wpAnyH_take (i := 2) (v := .pointer (some ⟨W.heap.size, 1, none⟩)) rfl (by kernel_rfl) (by kernel_rfl) (by kernel_rfl) (fun _ _ _ h => h) (Or.inl ⟨by rfl, fun w' hSw => by go_simp⟩) hHeld ?_
  simp only [Act.put, List.getElem_toArray, List.getElem_cons_succ, List.getElem_cons_zero, List.setIfInBounds_toArray, List.set_cons_zero, List.set_cons_succ]
  refine wpAnyH_take (i := 3) (v := .int .i64 sg) rfl (by kernel_rfl) (by kernel_rfl) (by kernel_rfl) (fun _ _ _ h => h) (Or.inl ⟨by rfl, fun w' hSw => by obtain ⟨j0, j1, j2⟩ := threeC hSw; go_simp⟩) hHeld ?_
  simp only [Act.put, List.getElem_toArray, List.getElem_cons_succ, List.getElem_cons_zero, List.setIfInBounds_toArray, List.set_cons_zero, List.set_cons_succ]
  refine wpAnyH_take (i := 4) (v := .pointer (some ⟨W.heap.size, 2, none⟩)) rfl (by kernel_rfl) (by kernel_rfl) (by kernel_rfl) (fun _ _ _ h => h) (Or.inl ⟨by rfl, fun w' hSw => by go_simp⟩) hHeld ?_
  simp only [Act.put, List.getElem_toArray, List.getElem_cons_succ, List.getElem_cons_zero, List.setIfInBounds_toArray, List.set_cons_zero, List.set_cons_succ]
  refine wpAnyH_take (i := 5) (v := .slice qa sr.length qc) rfl (by kernel_rfl) (by kernel_rfl) (by kernel_rfl) (fun _ _ _ h => h) (Or.inl ⟨by rfl, fun w' hSw => by obtain ⟨j0, j1, j2⟩ := threeC hSw; go_simp⟩) hHeld ?_
  simp only [Act.put, List.getElem_toArray, List.getElem_cons_succ, List.getElem_cons_zero, List.setIfInBounds_toArray, List.set_cons_zero, List.set_cons_succ]
  refine wpAnyH_ready (rs := [6]) (by kernel_rfl) (by simp) ?_
  refine AllReadyH.cons rfl (fun K hK => ?_) AllReadyH.nil
  clear hHeld
  simp only [Act.put, List.getElem_toArray, List.getElem_cons_succ, List.getElem_cons_zero, List.setIfInBounds_toArray, List.set_cons_zero, List.set_cons_succ]
  rw [if_pos (by rfl)]
  go_wp2_with (go_at_call 33; refine (HC.out _ (to_drewN hb0)).mono ?_; rintro e9 w1 ⟨rv, rfl, hrw, b1⟩; obtain ⟨va, vc, rfl⟩ := row_slice hrw)
  have b1 : Below (W.alloc (.cells #[.string sn, .int .i64 sg, .slice qa sr.length qc] 64)).heap.size (W.alloc (.cells #[.string sn, .int .i64 sg, .slice qa sr.length qc] 64)) w1 := below_drew b1
  have hrw : w1.ownsRow (W.alloc (.cells #[.string sn, .int .i64 sg, .slice qa sr.length qc] 64)).heap.size 3 1 (.slice va sr.length vc) sr.length (ints sr) := hrw
  have hz0 : (W.alloc (.cells #[.string sn, .int .i64 sg, .slice qa sr.length qc] 64)).heap.size = W.heap.size + 1 := by simp
  have hbx1 := cells_below hbx b1 (by omega)
  have hbw : Below W.heap.size W w1 := Below.on hb0 b1
  have hD1 := HK.out.1.below hbw
  have hT1 : DTo W w1 B D m val nilV m val := (DTo.refl HK.out.1 nilV).below HK.out.2 hbw
  have hT2 := hT1.setGuest sg
  have hf0 := hD1.frozen 0
  have hf1 := hD1.frozen 1
  obtain ⟨u0, u1, _, _, _⟩ := hD1.five
  have hT3 := hT2.swapRoot (v := .slice va sr.length vc) (r := sr) (row_mono (row_blkN hrw (fun q e => Below.heap_setCell w1 ⟨D, 0, none⟩ _ q (by have := (hrw.lt q e).1; show q ≠ D; omega))) (by have := HK.out.2; omega)) (fun b hb _ g hg x => by have := (hrw.lt g hg).1; have := ((HK.out.1.own.row b hb).lt g x).2; omega) (fun e => by have := (hrw.lt D e).1; omega) (fun q e => .inr (by have := (hrw.lt q e).1; omega))
  have HT : Hid (∃ val', DTo W ((w1.setCell ⟨D, 0, none⟩ (.int .i64 sg)).setCell ⟨D, 1, none⟩ (.slice va sr.length vc)) B D m val nilV (revertM m k) val') := ⟨_, by rw [HM.out]; exact hT3⟩
  have hn1 : W.heap.size ≠ D := by omega
  have HS2 : Hid ((fun X : World => X.heap[W.heap.size]? = some (.cells #[.string sn, .int .i64 sg, .slice qa sr.length qc] 64)) (w1.setCell ⟨D, 0, none⟩ (.int .i64 sg))) := cells_other hbx1 hn1 _ _
  have HS3 : Hid ((fun X : World => X.heap[W.heap.size]? = some (.cells #[.string sn, .int .i64 sg, .slice qa sr.length qc] 64)) ((w1.setCell ⟨D, 0, none⟩ (.int .i64 sg)).setCell ⟨D, 1, none⟩ (.slice va sr.length vc))) := cells_other HS2.out hn1 _ _
  have hf1' : (w1.setCell ⟨D, 0, none⟩ (.int .i64 sg)).frozen? ⟨D, 1, none⟩ = false := hT2.dk.frozen 1
  have u1' : (w1.setCell ⟨D, 0, none⟩ (.int .i64 sg)).cell? ⟨D, 1, none⟩ = some (val .root) := hT2.dk.five.2.1
  clear hT1 hT2 hT3 hD1 hrw
  refine hK.out _ _ hbx1 (fun hHeld => ?_)
  clear hK K
  try simp only [Act.put, List.getElem_toArray, List.getElem_cons_succ, List.getElem_cons_zero, List.setIfInBounds_toArray, List.set_cons_zero, List.set_cons_succ]
  refine wpAnyH_take (i := 7) (v := .pointer (some ⟨D, 0, none⟩)) rfl (by kernel_rfl) (by kernel_rfl) (by kernel_rfl) (fun _ _ _ h => h) (Or.inl ⟨by rfl, fun w' hSw => by go_simp⟩) hHeld ?_
  simp only [Act.put, List.getElem_toArray, List.getElem_cons_succ, List.getElem_cons_zero, List.setIfInBounds_toArray, List.set_cons_zero, List.set_cons_succ]
  refine wpAnyH_take (i := 8) (v := .pointer (some ⟨D, 0, none⟩)) rfl (by kernel_rfl) (by kernel_rfl) (by kernel_rfl) (fun _ _ _ h => h) (Or.inl ⟨by rfl, fun w' hSw => by go_simp⟩) hHeld ?_
  simp only [Act.put, List.getElem_toArray, List.getElem_cons_succ, List.getElem_cons_zero, List.setIfInBounds_toArray, List.set_cons_zero, List.set_cons_succ]
  refine wpAnyH_take (i := 9) (v := .pointer (some ⟨D, 0, none⟩)) rfl (by kernel_rfl) (by kernel_rfl) (by kernel_rfl) (fun _ _ _ h => h) (Or.inl ⟨by rfl, fun w' hSw => by go_simp⟩) hHeld ?_
  simp only [Act.put, List.getElem_toArray, List.getElem_cons_succ, List.getElem_cons_zero, List.setIfInBounds_toArray, List.set_cons_zero, List.set_cons_succ]
  refine wpAnyH_ready (rs := [10]) (by kernel_rfl) (by simp) ?_
  refine AllReadyH.cons rfl (fun K hK => ?_) AllReadyH.nil
  clear hHeld
  simp only [Act.put, List.getElem_toArray, List.getElem_cons_succ, List.getElem_cons_zero, List.setIfInBounds_toArray, List.set_cons_zero, List.set_cons_succ]
  rw [if_pos (by rfl)]
  go_simp
  refine hK.out _ _ HS2.out (fun hHeld => ?_)
  clear hK K
  try simp only [Act.put, List.getElem_toArray, List.getElem_cons_succ, List.getElem_cons_zero, List.setIfInBounds_toArray, List.set_cons_zero, List.set_cons_succ]
  refine wpAnyH_take (i := 11) (v := .pointer (some ⟨D, 0, none⟩)) rfl (by kernel_rfl) (by kernel_rfl) (by kernel_rfl) (fun _ _ _ h => h) (Or.inl ⟨by rfl, fun w' hSw => by go_simp⟩) hHeld ?_
  simp only [Act.put, List.getElem_toArray, List.getElem_cons_succ, List.getElem_cons_zero, List.setIfInBounds_toArray, List.set_cons_zero, List.set_cons_succ]
  refine wpAnyH_take (i := 12) (v := .pointer (some ⟨D, 0, none⟩)) rfl (by kernel_rfl) (by kernel_rfl) (by kernel_rfl) (fun _ _ _ h => h) (Or.inl ⟨by rfl, fun w' hSw => by go_simp⟩) hHeld ?_
  simp only [Act.put, List.getElem_toArray, List.getElem_cons_succ, List.getElem_cons_zero, List.setIfInBounds_toArray, List.set_cons_zero, List.set_cons_succ]
  refine wpAnyH_take (i := 13) (v := .pointer (some ⟨D, 1, none⟩)) rfl (by kernel_rfl) (by kernel_rfl) (by kernel_rfl) (fun _ _ _ h => h) (Or.inl ⟨by rfl, fun w' hSw => by go_simp⟩) hHeld ?_
  simp only [Act.put, List.getElem_toArray, List.getElem_cons_succ, List.getElem_cons_zero, List.setIfInBounds_toArray, List.set_cons_zero, List.set_cons_succ]
  refine wpAnyH_ready (rs := [14]) (by kernel_rfl) (by simp) ?_
  refine AllReadyH.cons rfl (fun K hK => ?_) AllReadyH.nil
  clear hHeld
  simp only [Act.put, List.getElem_toArray, List.getElem_cons_succ, List.getElem_cons_zero, List.setIfInBounds_toArray, List.set_cons_zero, List.set_cons_succ]
  rw [if_pos (by rfl)]
  go_simp
  refine hK.out _ _ HS3.out (fun hHeld => ?_)
  clear hK K hHeld
  try simp only [Act.put, List.getElem_toArray, List.getElem_cons_succ, List.getElem_cons_zero, List.setIfInBounds_toArray, List.set_cons_zero, List.set_cons_succ]
  refine wpAnyH_done (by kernel_rfl) ?_ _
  obtain ⟨val', hfin⟩ := HT.out
  have HF : Hid (DTo W ((w1.setCell ⟨D, 0, none⟩ (.int .i64 sg)).setCell ⟨D, 1, none⟩ (.slice va sr.length vc)) B D m val nilV (revertM m k) val') := hfin
  clear hfin HT
  go_wp2_with fail
  go_end0
  exact ⟨rfl, _, HF.out⟩
end Go.Proofs.Ytehleeibgkpjmae
/- Slices of strings: what it means that a slice value holds them in a world. -/
namespace Go.Proofs.Ytehleeibgkpjmae
open Go.RowKit
set_option maxRecDepth 20000

def Ss (w : World) (v : Value) (xs : List ByteArray) : Prop :=
  ∃ ao cap, v = .slice ao xs.length cap ∧ xs.length ≤ maxLen ∧ xs.length ≤ cap ∧ (xs ≠ [] → ∃ b off, ao = some ⟨b, off, none⟩ ∧ b < w.heap.size ∧ ∀ j, j < xs.length → w.cell? ⟨b, off + j, none⟩ = some (.string (xs.getD j ByteArray.empty)))

theorem Ss.below {w w1 : World} {v : Value} {xs : List ByteArray} (h : Ss w v xs) (hb : Below w.heap.size w w1) : Ss w1 v xs := by
  obtain ⟨ao, cap, hv, hm, hcp, hc⟩ := h
  refine ⟨ao, cap, hv, hm, hcp, fun hne => ?_⟩
  obtain ⟨b, off, ha, hlt, hcell⟩ := hc hne
  exact ⟨b, off, ha, Nat.lt_of_lt_of_le hlt hb.size, fun j hj => (hb.cell (p := ⟨b, off + j, none⟩) hlt).trans (hcell j hj)⟩

theorem Ss.nil (w : World) : Ss w (.slice none 0 0) [] := ⟨none, 0, rfl, Nat.zero_le _, Nat.zero_le _, fun h => absurd rfl h⟩

theorem Ss.cells {w : World} {ao : Option Addr} {n cap : Nat} {xs : List ByteArray} (h : Ss w (.slice ao n cap) xs) :
    xs.length = n ∧ n ≤ 9223372036854775807 ∧ n ≤ cap ∧ ∀ j, j < n → ∃ b off, ao = some ⟨b, off, none⟩ ∧ b < w.heap.size ∧ w.cell? ⟨b, off + j, none⟩ = some (.string (xs.getD j ByteArray.empty)) := by
  obtain ⟨ao', cap', hv, hm, hcp, hc⟩ := h
  simp only [Value.slice.injEq] at hv
  obtain ⟨rfl, rfl, rfl⟩ := hv
  unfold maxLen at hm
  refine ⟨rfl, by omega, hcp, fun j hj => ?_⟩
  obtain ⟨b, off, rfl, hlt, hcell⟩ := hc (by intro e; rw [e] at hj; simp at hj)
  exact ⟨b, off, rfl, hlt, hcell j hj⟩

theorem Ss.form {w : World} {v : Value} {xs : List ByteArray} (h : Ss w v xs) : ∃ ao cap, v = .slice ao xs.length cap := by
  obtain ⟨ao, cap, hv, _⟩ := h; exact ⟨ao, cap, hv⟩

theorem Ss.at {w : World} {ao : Option Addr} {n cap : Nat} {xs : List ByteArray} (h : Ss w (.slice ao n cap) xs) (hpos : 0 < n) :
    ∃ b off, ao = some ⟨b, off, none⟩ ∧ b < w.heap.size ∧ ∀ j, j < n → w.cell? ⟨b, off + j, none⟩ = some (.string (xs.getD j ByteArray.empty)) := by
  obtain ⟨ao', cap', hv, hm, hcp, hc⟩ := h
  simp only [Value.slice.injEq] at hv
  obtain ⟨rfl, rfl, rfl⟩ := hv
  exact hc (by intro e; rw [e] at hpos; simp at hpos)

theorem Ss.past {w : World} {v : Value} {xs : List ByteArray} (h : Ss w v xs) (o : Obj) : Ss (w.alloc o) v xs := h.below ((Below.refl _ _).alloc (Nat.le_refl _) o)


end Go.Proofs.Ytehleeibgkpjmae
/- Flat images, plainly: what Read, Write and Resize answer, over lists of pages. -/
namespace Go.Proofs.Ytehleeibgkpjmae
open Go.RowKit
end Go.Proofs.Ytehleeibgkpjmae
/- Resizing: what comes is right, and how it is read; the answers of Write, Wipe, Punch, Resize. Plain lists. -/
namespace Go.Proofs.Ytehleeibgkpjmae
open Go.RowKit Go.Shelf
end Go.Proofs.Ytehleeibgkpjmae
/- What Write, Wipe, Punch and Resize answer, plain: it is right, how much greater it is, and how it is read. -/
namespace Go.Proofs.Ytehleeibgkpjmae
open Go.RowKit Go.Shelf
set_option maxRecDepth 20000


end Go.Proofs.Ytehleeibgkpjmae
/- Snapshots: what Create, Revert and Delete answer, and how that is read. Plain lists. -/
namespace Go.Proofs.Ytehleeibgkpjmae
open Go.RowKit Go.Shelf
set_option maxRecDepth 20000
set_option linter.unusedVariables false
set_option linter.unusedSimpArgs false

def crE (m : ImgD) (nm : ByteArray) : Int := if checkE m ≠ 0 then checkE m else if isNm nm = false then 4 else if (snapIx m.snaps nm).isSome = true then 6 else if m.snaps.length = 3 then 2 else 0
def crM (m : ImgD) (nm : ByteArray) : ImgD := if crE m nm = 0 then countedD (createM m nm) else imgZ
def rvM (m : ImgD) (nm : ByteArray) : ImgD := if checkE m ≠ 0 then imgZ else match snapIx m.snaps nm with | some k => countedD (revertM m k) | none => imgZ
def dlM (m : ImgD) (nm : ByteArray) : ImgD := if checkE m ≠ 0 then imgZ else match snapIx m.snaps nm with | some k => countedD (deleteM m k) | none => imgZ
theorem isSome_false {α : Type} {o : Option α} (h : ¬ o.isSome = true) : o = none := by cases o with | none => rfl | some x => exact absurd rfl h
theorem cr_ok {m : ImgD} {nm : ByteArray} (h : crE m nm = 0) : checkE m = 0 ∧ isNm nm = true ∧ snapIx m.snaps nm = none ∧ m.snaps.length < 3 ∧ crM m nm = countedD (createM m nm) ∧ shapeE (createM m nm) = 0 ∧ checkE (crM m nm) = 0 ∧ (crM m nm).slots = m.slots := by
  have e : crM m nm = countedD (createM m nm) := by unfold crM; rw [if_pos h]
  unfold crE at h
  by_cases hC : checkE m = 0
  · rw [if_neg (fun x => x hC)] at h
    by_cases hn : isNm nm = false
    · rw [if_pos hn] at h; cases h
    · rw [if_neg hn] at h
      by_cases hx : (snapIx m.snaps nm).isSome = true
      · rw [if_pos hx] at h; cases h
      · rw [if_neg hx] at h
        by_cases h3 : m.snaps.length = 3
        · rw [if_pos h3] at h; cases h
        · have hn : isNm nm = true := by simpa using hn
          have hx := isSome_false hx
          have h3 : m.snaps.length < 3 := by have := (shapeE_zero (checkE_shape hC)).1; omega
          have hs := create_shape (checkE_shape hC) hn hx h3
          exact ⟨hC, hn, hx, h3, e, hs, e ▸ counted_right hs, e ▸ slots_more hC hs rfl (flat_create m nm)⟩
  · rw [if_pos hC] at h; exact absurd h hC
theorem cr_bad {m : ImgD} {nm : ByteArray} (h : crE m nm ≠ 0) : crM m nm = imgZ := by unfold crM; rw [if_neg h]
theorem pastE_ok {m : ImgD} {nm : ByteArray} (h : pastE m nm = 0) : checkE m = 0 ∧ ∃ k, snapIx m.snaps nm = some k ∧ k < m.snaps.length := by
  unfold pastE at h
  by_cases hC : checkE m = 0
  · rw [if_neg (fun x => x hC)] at h
    cases e : snapIx m.snaps nm with
    | none => rw [e] at h; cases h
    | some k => exact ⟨hC, k, rfl, snapIx_some e⟩
  · rw [if_pos hC] at h; exact absurd h hC
theorem rv_ok {m : ImgD} {nm : ByteArray} (h : pastE m nm = 0) : checkE m = 0 ∧ ∃ k, snapIx m.snaps nm = some k ∧ k < m.snaps.length ∧ rvM m nm = countedD (revertM m k) ∧ shapeE (revertM m k) = 0 ∧ checkE (rvM m nm) = 0 ∧ usedN (rvM m nm).slots ≤ usedN m.slots := by
  obtain ⟨hC, k, hk, hl⟩ := pastE_ok h
  have e : rvM m nm = countedD (revertM m k) := by unfold rvM; rw [if_neg (fun x => x hC), hk]
  have hs := revert_shape (checkE_shape hC) hl
  exact ⟨hC, k, hk, hl, e, hs, e ▸ counted_right hs, e ▸ used_fewer _ _⟩
theorem dl_ok {m : ImgD} {nm : ByteArray} (h : pastE m nm = 0) : checkE m = 0 ∧ ∃ k, snapIx m.snaps nm = some k ∧ k < m.snaps.length ∧ dlM m nm = countedD (deleteM m k) ∧ shapeE (deleteM m k) = 0 ∧ checkE (dlM m nm) = 0 ∧ usedN (dlM m nm).slots ≤ usedN m.slots := by
  obtain ⟨hC, k, hk, hl⟩ := pastE_ok h
  have e : dlM m nm = countedD (deleteM m k) := by unfold dlM; rw [if_neg (fun x => x hC), hk]
  have hs := delete_shape (checkE_shape hC) k
  exact ⟨hC, k, hk, hl, e, hs, e ▸ counted_right hs, e ▸ used_fewer _ _⟩
theorem rv_bad {m : ImgD} {nm : ByteArray} (h : pastE m nm ≠ 0) : rvM m nm = imgZ := by
  unfold rvM; unfold pastE at h
  split
  · rfl
  · rename_i hC
    rw [if_neg hC] at h
    cases e : snapIx m.snaps nm with
    | none => rfl
    | some k => rw [e] at h; exact absurd rfl h
theorem dl_bad {m : ImgD} {nm : ByteArray} (h : pastE m nm ≠ 0) : dlM m nm = imgZ := by
  unfold dlM; unfold pastE at h
  split
  · rfl
  · rename_i hC
    rw [if_neg hC] at h
    cases e : snapIx m.snaps nm with
    | none => rfl
    | some k => rw [e] at h; exact absurd rfl h


def named (S : List SnapD) (nm : ByteArray) : Option SnapD := S.find? (fun s => s.1.toList == nm.toList)
theorem named_ix (S : List SnapD) (nm : ByteArray) : named S nm = (snapIx S nm).map (fun k => S.getD k default) := by
  unfold named snapIx
  induction S with
  | nil => rfl
  | cons a S ih =>
    rw [List.find?_cons, List.findIdx?_cons]
    cases e : a.1.toList == nm.toList with
    | true => rfl
    | false =>
      dsimp only
      rw [ih]
      cases List.findIdx? (fun s : SnapD => s.1.toList == nm.toList) S with
      | none => rfl
      | some k => rfl
theorem past_named {m : ImgD} (hC : checkE m = 0) (nm : ByteArray) : pastV m nm = (match named m.snaps nm with | some s => allP m s.2.2 s.2.1.toNat | none => []) ∧ pastE m nm = (match named m.snaps nm with | some _ => 0 | none => 5) := by
  unfold pastV pastE
  rw [if_neg (fun x => x hC), if_neg (fun x => x hC), named_ix]
  cases snapIx m.snaps nm with
  | none => exact ⟨rfl, rfl⟩
  | some k => exact ⟨rfl, rfl⟩
theorem named_mem {S : List SnapD} {nm : ByteArray} {s : SnapD} (h : named S nm = some s) : s ∈ S ∧ s.1.toList = nm.toList := ⟨List.mem_of_find?_eq_some h, by have := List.find?_some h; simpa using this⟩
theorem named_none {S : List SnapD} {nm : ByteArray} (h : snapIx S nm = none) : named S nm = none := by rw [named_ix, h]; rfl
theorem named_insN {S : List SnapD} {k : Nat} {s : SnapD} {nm : ByteArray} (h : s.1.toList ≠ nm.toList) : named (insN k S s) nm = named S nm := by
  have e : (s.1.toList == nm.toList) = false := by simpa using h
  unfold named insN
  rw [List.find?_append, List.find?_cons, e]
  dsimp only
  rw [← List.find?_append, List.take_append_drop]
theorem named_ins_here {S : List SnapD} {k : Nat} {s : SnapD} {nm : ByteArray} (h : s.1.toList = nm.toList) (hn : named S nm = none) : named (insN k S s) nm = some s := by
  have e : (s.1.toList == nm.toList) = true := by simpa using h
  unfold named insN at *
  rw [List.find?_append, List.find?_cons, e]
  rw [← List.take_append_drop k S, List.find?_append] at hn
  cases e2 : List.find? (fun s : SnapD => s.1.toList == nm.toList) (S.take k) with
  | none => rfl
  | some x => rw [e2] at hn; cases hn
theorem erase_parts (S : List SnapD) {k : Nat} (hk : k < S.length) : S = S.take k ++ S.getD k default :: S.drop (k + 1) ∧ S.eraseIdx k = S.take k ++ S.drop (k + 1) := by
  refine ⟨?_, List.eraseIdx_eq_take_drop_succ S k⟩
  rw [show S.getD k default = S[k] by simp [List.getD, hk], List.getElem_cons_drop, List.take_append_drop]
theorem named_erase {S : List SnapD} {k : Nat} (hk : k < S.length) {nm : ByteArray} (h : (S.getD k default).1.toList ≠ nm.toList) : named (S.eraseIdx k) nm = named S nm := by
  obtain ⟨e1, e2⟩ := erase_parts S hk
  have e : ((S.getD k default).1.toList == nm.toList) = false := by simpa using h
  have : named S nm = named (S.take k ++ S.getD k default :: S.drop (k + 1)) nm := congrArg (fun x => named x nm) e1
  rw [e2, this]
  unfold named
  rw [List.find?_append, List.find?_append, List.find?_cons, e]
theorem less_ne {a b : ByteArray} (h : lessN a b = true) : a.toList ≠ b.toList := fun e => by
  have h : Op.bytesLess a.toList b.toList = true := h
  rw [e, less_irr] at h; cases h
theorem named_gone {S : List SnapD} (hN : NamesP S) {k : Nat} (hk : k < S.length) {nm : ByteArray} (h : (S.getD k default).1.toList = nm.toList) : named (S.eraseIdx k) nm = none := by
  obtain ⟨e1, e2⟩ := erase_parts S hk
  have hp := hN.2
  rw [e1, List.pairwise_append, List.pairwise_cons] at hp
  rw [e2]
  unfold named
  rw [List.find?_eq_none]
  intro x hx
  have : x.1.toList ≠ nm.toList := by
    rw [← h]
    rcases List.mem_append.1 hx with hx | hx
    · exact less_ne (hp.2.2 x hx _ List.mem_cons_self)
    · exact fun e => less_ne (hp.2.1.1 x hx) e.symm
  simpa using this
theorem snap_name {S : List SnapD} {nm : ByteArray} {k : Nat} (h : snapIx S nm = some k) : (S.getD k default).1.toList = nm.toList := by
  have : named S nm = some (S.getD k default) := by rw [named_ix, h]; rfl
  exact (named_mem this).2
theorem createM_insN (m : ImgD) (nm : ByteArray) : createM m nm = insM m (posS m.snaps nm) (nm, m.guest, m.root) := by
  unfold createM insM; rw [insS_insN]


theorem allV_of {m : ImgD} (hC : checkE m = 0) : allV m = allP m m.root m.guest.toNat := by unfold allV; rw [if_pos hC]
theorem allP_slots {m M : ImgD} (h : M.slots = m.slots) (r : List Int) (g : Nat) : allP M r g = allP m r g := by unfold allP lookV; rw [h]
theorem cr_reads {m : ImgD} {nm : ByteArray} (h : crE m nm = 0) : allV (crM m nm) = allV m ∧ pastE (crM m nm) nm = 0 ∧ pastV (crM m nm) nm = allV m ∧ ∀ o : ByteArray, nm.toList ≠ o.toList → pastV (crM m nm) o = pastV m o ∧ pastE (crM m nm) o = pastE m o := by
  obtain ⟨hC, hn, hx, h3, e, hs, hR, hsl⟩ := cr_ok h
  have hsn : (crM m nm).snaps = insN (posS m.snaps nm) m.snaps (nm, m.guest, m.root) := by rw [e]; show (createM m nm).snaps = _; rw [createM_insN]; rfl
  have hr : (crM m nm).root = m.root := by rw [e]; rfl
  have hg : (crM m nm).guest = m.guest := by rw [e]; rfl
  have hhere := named_ins_here (S := m.snaps) (k := posS m.snaps nm) (s := (nm, m.guest, m.root)) (nm := nm) rfl (named_none hx)
  have hp := past_named hR nm
  rw [hsn, hhere] at hp
  refine ⟨?_, hp.2, ?_, fun o ho => ?_⟩
  · rw [allV_of hR, allV_of hC, hr, hg, allP_slots hsl]
  · rw [hp.1, allV_of hC]; exact allP_slots hsl _ _
  · have hq := past_named hR o
    rw [hsn, named_insN (s := (nm, m.guest, m.root)) ho] at hq
    have hq' := past_named hC o
    rw [hq.1, hq.2, hq'.1, hq'.2]
    cases named m.snaps o with
    | none => exact ⟨rfl, rfl⟩
    | some s => exact ⟨allP_slots hsl _ _, rfl⟩
theorem rv_reads {m : ImgD} {nm : ByteArray} (h : pastE m nm = 0) : allV (rvM m nm) = pastV m nm ∧ ∀ o : ByteArray, pastV (rvM m nm) o = pastV m o ∧ pastE (rvM m nm) o = pastE m o := by
  obtain ⟨hC, k, hk, hl, e, hs, hR, _⟩ := rv_ok h
  have hsn : (rvM m nm).snaps = m.snaps := by rw [e]; rfl
  refine ⟨?_, fun o => ?_⟩
  · have hp := past_named hC nm
    have hq : named m.snaps nm = some (m.snaps.getD k default) := by rw [named_ix, hk]; rfl
    rw [hq] at hp
    rw [allV_of hR, hp.1, e]
    have := allP_counted hs (s := (⟨#[]⟩, (revertM m k).guest, (revertM m k).root)) List.mem_cons_self
    exact this.trans (allP_slots rfl _ _)
  · have hq := past_named hR o
    have hq' := past_named hC o
    rw [hsn] at hq
    rw [hq.1, hq.2, hq'.1, hq'.2]
    cases hx : named m.snaps o with
    | none => exact ⟨rfl, rfl⟩
    | some s =>
      refine ⟨?_, rfl⟩
      dsimp only
      rw [e]
      exact (allP_counted hs (s := s) (List.mem_cons_of_mem _ (named_mem hx).1)).trans (allP_slots rfl _ _)
theorem dl_reads {m : ImgD} {nm : ByteArray} (h : pastE m nm = 0) : allV (dlM m nm) = allV m ∧ pastE (dlM m nm) nm = 5 ∧ ∀ o : ByteArray, nm.toList ≠ o.toList → pastV (dlM m nm) o = pastV m o ∧ pastE (dlM m nm) o = pastE m o := by
  obtain ⟨hC, k, hk, hl, e, hs, hR, _⟩ := dl_ok h
  have hsn : (dlM m nm).snaps = m.snaps.eraseIdx k := by rw [e]; rfl
  have hN := (namesOK_iff _).1 (shapeE_zero (checkE_shape hC)).2.2.2.1
  have hnm := snap_name hk
  refine ⟨?_, ?_, fun o ho => ?_⟩
  · rw [allV_of hR, allV_of hC, e]
    have := allP_counted hs (s := (⟨#[]⟩, (deleteM m k).guest, (deleteM m k).root)) List.mem_cons_self
    exact this.trans (allP_slots rfl _ _)
  · have hq := past_named hR nm
    rw [hsn, named_gone hN hl hnm] at hq
    exact hq.2
  · have hq := past_named hR o
    have hq' := past_named hC o
    rw [hsn, named_erase hl (by rw [hnm]; exact ho)] at hq
    rw [hq.1, hq.2, hq'.1, hq'.2]
    cases hx : named m.snaps o with
    | none => exact ⟨rfl, rfl⟩
    | some s =>
      refine ⟨?_, rfl⟩
      dsimp only
      rw [e]
      have hmem : s ∈ m.snaps.eraseIdx k := by
        have := named_erase (S := m.snaps) hl (nm := o) (by rw [hnm]; exact ho)
        rw [hx] at this
        exact (named_mem this).1
      exact (allP_counted hs (s := s) (List.mem_cons_of_mem _ hmem)).trans (allP_slots rfl _ _)
end Go.Proofs.Ytehleeibgkpjmae
/- An image of right shape is not too wide to be copied. -/
namespace Go.Proofs.Ytehleeibgkpjmae
open Go.RowKit
set_option maxRecDepth 20000

theorem okD_len {s : SlotD} (h : okD s = true) : s.2.2.length ≤ 4 := by
  unfold okD slotOK at h
  split at h
  · simp at h; rw [h.2]; exact Nat.zero_le _
  · split at h
    · simp at h; rw [h.2]; exact Nat.zero_le _
    · split at h
      · simp at h; rw [ckE_len h.1]; exact Nat.le_refl _
      · cases h
theorem fits_of_shape {m : ImgD} (h : shapeE m = 0) : Fits m := by
  obtain ⟨h1, h2, h3, h4, h5, h6, h7⟩ := shapeE_zero h
  have hs := slotsE_parts h2
  have hR : ∀ s ∈ rootsOf m, s.2.2.length ≤ 5 := fun s hs => by
    have hg := List.all_eq_true.1 h5 s hs
    have hf := List.all_eq_true.1 h7 s hs
    unfold guestOK at hg
    unfold rootFit at hf
    simp only [Bool.and_eq_true, decide_eq_true_eq] at hg hf
    omega
  have hroot := hR (⟨#[]⟩, m.guest, m.root) List.mem_cons_self
  have hroot : m.root.length ≤ 5 := hroot
  have hr : room = 140737488355328 := room_is
  refine ⟨by omega, by omega, by omega, by omega, fun j hj => ?_, fun j hj => ?_⟩
  · have ok := slotsE_all h2 hj
    have e : m.slots.getD j default = m.slots[j] := by simp [List.getD, hj]
    rw [e]
    have : m.slots[j].2.2.length ≤ 4 := okD_len ok
    omega
  · have e : m.snaps.getD j default = m.snaps[j] := by simp [List.getD, hj]
    rw [e]
    have := hR m.snaps[j] (List.mem_cons_of_mem _ (List.getElem_mem hj))
    omega
end Go.Proofs.Ytehleeibgkpjmae
/- Contracts of mending: Repair and Leaks. -/
namespace Go.Proofs.Ytehleeibgkpjmae
open Go.RowKit Go.Shelf
theorem AnsI.open {w w' : World} {B : Nat} {m : ImgD} {err : Int} {r : Ending} (h : AnsI w B m err r w') : ∃ val ra rc sa sc fa fc na nc, r = .returned (.tuple #[.agg #[.int .i64 m.guest, .slice ra m.root.length rc, .slice sa m.slots.length sc, .slice fa m.refs.length fc, .slice na m.snaps.length nc], .int .i64 err]) ∧ OI w' B val m ∧ Below B w w' ∧ imgV m.guest val = .agg #[.int .i64 m.guest, .slice ra m.root.length rc, .slice sa m.slots.length sc, .slice fa m.refs.length fc, .slice na m.snaps.length nc] := by
  obtain ⟨val, rfl, hO, hb⟩ := h
  obtain ⟨ra, rc, e0, _⟩ := hO.forms .root (Live.root m)
  obtain ⟨sa, sc, e1, _⟩ := hO.forms .slots (Live.slots m)
  obtain ⟨fa, fc, e2, _⟩ := hO.forms .refs (Live.refs m)
  obtain ⟨na, nc, e3, _⟩ := hO.forms .snaps (Live.snaps m)
  have e : imgV m.guest val = .agg #[.int .i64 m.guest, .slice ra m.root.length rc, .slice sa m.slots.length sc, .slice fa m.refs.length fc, .slice na m.snaps.length nc] := by
    unfold imgV
    rw [e0, e1, e2, e3]
    rfl
  exact ⟨val, ra, rc, sa, sc, fa, fc, na, nc, by rw [e], hO, hb, e⟩


end Go.Proofs.Ytehleeibgkpjmae
