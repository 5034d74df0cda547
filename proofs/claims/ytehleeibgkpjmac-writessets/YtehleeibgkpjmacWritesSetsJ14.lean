/- Texts joined: PutI, Pair, PDec, SameInts. -/
import Derived.Test.YtehleeibgkpjmacWritesSetsJ7
import Derived.Test.YtehleeibgkpjmacWritesSetsJ9
import Derived.Test.YtehleeibgkpjmacWritesSetsJ13
import Derived.Test.YtehleeibgkpjmacWritesSetsJ5
import Derived.Test.YtehleeibgkpjmacWritesSetsJ1
import Derived.Deep.QuietTactic
import Derived.BigQuiet
/- Contract of the document's putOf. -/
namespace Go.Proofs.Ytehleeibgkpjmac
open Go.RowKit Go.Shelf
set_option maxRecDepth 20000
set_option linter.unusedVariables false
set_option linter.unusedSimpArgs false

/-- What a function of the document answers: an image, and an error. -/
def AnsJ (w : World) (M : ImgD) (err : Int) (r : Ending) (w' : World) : Prop := ∃ a0 c0 a1 c1 a2 c2 a3 c3, r = .returned (.tuple #[.agg #[.int .i64 M.guest, .slice a0 M.root.length c0, .slice a1 M.slots.length c1, .slice a2 M.refs.length c2, .slice a3 M.snaps.length c3], .int .i64 err]) ∧ (∀ W', (∀ q, w.heap.size ≤ q → W'.heap[q]? = w'.heap[q]?) → Img W' (.agg #[.int .i64 M.guest, .slice a0 M.root.length c0, .slice a1 M.slots.length c1, .slice a2 M.refs.length c2, .slice a3 M.snaps.length c3]) M) ∧ Below w.heap.size w w'
theorem imgZ_im (W : World) : Img W (.agg #[.int .i64 0, .slice none 0 0, .slice none 0 0, .slice none 0 0, .slice none 0 0]) imgZ := (OI.zero W 0).img
theorem OX.four' {W : World} {B : Nat} {val : Nm → Value} {m : ImgD} (h : OX W B val m) : ∃ a0 c0 a1 c1 a2 c2 a3 c3, val .root = .slice a0 m.root.length c0 ∧ val .slots = .slice a1 m.slots.length c1 ∧ val .refs = .slice a2 m.refs.length c2 ∧ val .snaps = .slice a3 m.snaps.length c3 := by
  obtain ⟨a0, c0, h0, _⟩ := h.forms .root (LiveX.root _)
  obtain ⟨a1, c1, h1, _⟩ := h.forms .slots (LiveX.slots _)
  obtain ⟨a2, c2, h2, _⟩ := h.forms .refs (LiveX.refs _)
  obtain ⟨a3, c3, h3, _⟩ := h.forms .snaps (LiveX.snaps _)
  exact ⟨a0, c0, a1, c1, a2, c2, a3, c3, h0, h1, h2, h3⟩
/-- Five cells of a block that is none of the image's. -/
theorem OX.five {W : World} {B D : Nat} {val : Nm → Value} {m : ImgD} (h : OX W B val m) (hf : ∀ a, LiveX m a → (val a).ownBlock ≠ some D) (a0 a1 a2 a3 a4 : Value) : OX (((((W.setCell ⟨D, 0, none⟩ a0).setCell ⟨D, 1, none⟩ a1).setCell ⟨D, 2, none⟩ a2).setCell ⟨D, 3, none⟩ a3).setCell ⟨D, 4, none⟩ a4) B val m := ((((h.far hf).far hf).far hf).far hf).far hf
theorem below_five {w W : World} {B D : Nat} (h : Below B w W) (hD : B ≤ D) (a0 a1 a2 a3 a4 : Value) : Below B w (((((W.setCell ⟨D, 0, none⟩ a0).setCell ⟨D, 1, none⟩ a1).setCell ⟨D, 2, none⟩ a2).setCell ⟨D, 3, none⟩ a3).setCell ⟨D, 4, none⟩ a4) :=
  ((((h.setCell (p := ⟨D, 0, none⟩) hD _).setCell (p := ⟨D, 1, none⟩) hD _).setCell (p := ⟨D, 2, none⟩) hD _).setCell (p := ⟨D, 3, none⟩) hD _).setCell (p := ⟨D, 4, none⟩) hD _
theorem heap_five {W : World} {D : Nat} (a0 a1 a2 a3 a4 : Value) (q : Nat) (hq : q ≠ D) : (((((W.setCell ⟨D, 0, none⟩ a0).setCell ⟨D, 1, none⟩ a1).setCell ⟨D, 2, none⟩ a2).setCell ⟨D, 3, none⟩ a3).setCell ⟨D, 4, none⟩ a4).heap[q]? = W.heap[q]? := by
  rw [Below.heap_setCell _ _ _ q hq, Below.heap_setCell _ _ _ q hq, Below.heap_setCell _ _ _ q hq, Below.heap_setCell _ _ _ q hq, Below.heap_setCell _ _ _ q hq]
theorem tabAt_O {m : ImgD} {k t : Nat} (ht : m.root.getD k 0 = (t : Int)) : tabAt m.slots t = tableO m k := by
  unfold tabAt tableO
  rw [ht]
  by_cases h : t = 0
  · rw [if_pos h, if_pos (by omega)]
  · rw [if_neg h, if_neg (by omega)]
    unfold tabOf
    rw [Int.toNat_natCast]

theorem shape_rfq {m : ImgD} (h : shapeE m = 0) : shapeE { m with refs := rfZ m.slots } = 0 := by
  obtain ⟨z1, z2, z3, z4, z5, z6, z7⟩ := shapeE_zero h
  unfold shapeE
  rw [if_neg (by show ¬ 3 < m.snaps.length; omega), if_neg (by show ¬ slotsE m.slots ≠ 0; simpa using z2), if_neg, if_neg (by show ¬ (rootsOf m).all _ = false; rw [z5]; decide), if_neg (by show ¬ tabFit m.slots = false; rw [z6]; decide), if_neg (by show ¬ (rootsOf m).all _ = false; rw [z7]; decide)]
  rintro (x | x)
  · apply x; show (rfZ m.slots).length = m.slots.length; simp [rfZ]
  · have : namesOK m.snaps = false := x
    rw [z4] at this; cases this
/-- tabled, then counted: what tabledD says. -/
theorem tabledM_facts {m : ImgD} (hC : checkE m = 0) {k : Nat} (hk : k < m.root.length) {es : List Int} (hes : ckE es = 0) (hents : ∀ e ∈ es, tabE m.slots e = true) (hz : TailZ m k es) (hnf : ¬ (bareL es = false ∧ tabN m k = 40)) :
    shapeE { tabledM m k es with refs := rfZ (tabledM m k es).slots } = 0 ∧ ∃ M, tabledD m k es = some M ∧ countedD M = countedD (tabledM m k es) := by
  by_cases hb : bareL es = true
  · have e1 : tabledD m k es = some { m with root := m.root.set k 0 } := by unfold tabledD; rw [if_pos hb]
    have e2 : tabledM m k es = { m with root := m.root.set k 0 } := by unfold tabledM; rw [if_pos hb]
    have hL := (tabled_laid hC hk hes hents hz e1).1.shape
    rw [e2]
    exact ⟨shape_rfq hL, _, e1, rfl⟩
  · have hb' : bareL es = false := by simpa using hb
    have e1 : tabledD m k es = some (tabSet m k (tabN m k) (tabL m k es) (rfZ (tabL m k es))) := by unfold tabledD; rw [if_neg hb, if_neg (fun x => hnf ⟨hb', x⟩)]
    have e2 : tabledM m k es = { m with root := m.root.set k (tabN m k : Int), slots := tabL m k es } := by unfold tabledM; rw [if_neg hb]
    have hL := (tabled_laid hC hk hes hents hz e1).1.shape
    rw [e2]
    exact ⟨hL, _, e1, rfl⟩
theorem tabledM_guest (m : ImgD) (k : Nat) (es : List Int) : (tabledM m k es).guest = m.guest := by unfold tabledM; split <;> rfl
set_option maxHeartbeats 8000000 in
theorem putOf_same (rb ro : Nat) (rc : Nat) (sa : Option Addr) (sc : Nat) (fa : Option Addr) (fc : Nat) (na : Option Addr) (nc : Nat) (m : ImgD) (n : Nat) (e : Int) (w : World) (h : Img w (.agg #[.int .i64 m.guest, .slice (some ⟨rb, ro, none⟩) m.root.length rc, .slice sa m.slots.length sc, .slice fa m.refs.length fc, .slice na m.snaps.length nc]) m) (hrc : ∀ j, j < m.root.length → w.cell? ⟨rb, ro + j, none⟩ = some (.int .i64 (m.root.getD j 0))) (hrl : rb < w.heap.size) (hC : checkE m = 0) (hn : (n : Int) < m.guest) (x : Int) (hx : (tableO m (n / 4)).getD (n % 4) 0 = x) (hxe : (x == e) = true) :
    Calls Try.prog 66 #[.agg #[.int .i64 m.guest, .slice (some ⟨rb, ro, none⟩) m.root.length rc, .slice sa m.slots.length sc, .slice fa m.refs.length fc, .slice na m.snaps.length nc], .int .i64 (n : Int), .int .i64 e] w (AnsJ w m 0) := by
  have b0 : Below w.heap.size w ((w.alloc (.cells #[.int .i64 m.guest, .slice (some ⟨rb, ro, none⟩) m.root.length rc, .slice sa m.slots.length sc, .slice fa m.refs.length fc, .slice na m.snaps.length nc] 26)).alloc (.cells #[.int .i64 0, .slice none 0 0, .slice none 0 0, .slice none 0 0, .slice none 0 0] 26)) := ((Below.refl _ _).alloc (Nat.le_refl _) _).alloc (by simp) _
  have m0 : ((w.alloc (.cells #[.int .i64 m.guest, .slice (some ⟨rb, ro, none⟩) m.root.length rc, .slice sa m.slots.length sc, .slice fa m.refs.length fc, .slice na m.snaps.length nc] 26)).alloc (.cells #[.int .i64 0, .slice none 0 0, .slice none 0 0, .slice none 0 0, .slice none 0 0] 26)).heap[w.heap.size]? = some (.cells #[.int .i64 m.guest, .slice (some ⟨rb, ro, none⟩) m.root.length rc, .slice sa m.slots.length sc, .slice fa m.refs.length fc, .slice na m.snaps.length nc] 26) := cells_alloc (World.alloc_heap_new _ _) _
  have m1 : ((w.alloc (.cells #[.int .i64 m.guest, .slice (some ⟨rb, ro, none⟩) m.root.length rc, .slice sa m.slots.length sc, .slice fa m.refs.length fc, .slice na m.snaps.length nc] 26)).alloc (.cells #[.int .i64 0, .slice none 0 0, .slice none 0 0, .slice none 0 0, .slice none 0 0] 26)).heap[w.heap.size + 1]? = some (.cells #[.int .i64 0, .slice none 0 0, .slice none 0 0, .slice none 0 0, .slice none 0 0] 26) := by have := World.alloc_heap_new (w.alloc (.cells #[.int .i64 m.guest, .slice (some ⟨rb, ro, none⟩) m.root.length rc, .slice sa m.slots.length sc, .slice fa m.refs.length fc, .slice na m.snaps.length nc] 26)) (.cells #[.int .i64 0, .slice none 0 0, .slice none 0 0, .slice none 0 0, .slice none 0 0] 26); simpa using this
  have hsz : w.heap.size + 1 < ((w.alloc (.cells #[.int .i64 m.guest, .slice (some ⟨rb, ro, none⟩) m.root.length rc, .slice sa m.slots.length sc, .slice fa m.refs.length fc, .slice na m.snaps.length nc] 26)).alloc (.cells #[.int .i64 0, .slice none 0 0, .slice none 0 0, .slice none 0 0, .slice none 0 0] 26)).heap.size := by simp
  have hs := checkE_shape hC
  have hgt := guest_ok hs
  have hrt := root_ok hs
  have hr : n / 4 < m.root.length := by omega
  obtain ⟨t, ht, htl⟩ := root_nat hs hr
  have I0 := h.below b0
  have hown := ownImage_is I0 hs
  have hlen : (tableO m (n / 4)).length = 4 := ckE_len (tableO_ok hs hr).1
  have e4 : ((n / 4 : Nat) : Int) = (n : Int) / 4 := by omega
  have hq1 : ((n : Int) / 4).toNat = n / 4 := by omega
  have hq2 : ((n : Int) % 4).toNat = n % 4 := by omega
  have hri : (n : Int) / 4 < (m.root.length : Int) := by omega
  have h4 : n % 4 < 4 := by omega
  have h4i : (n : Int) % 4 < 4 := by omega
  have h16 : n < 16 := by omega
  have h0q : ¬ (n : Int) / 4 < 0 := by omega
  have h0r : ¬ (n : Int) % 4 < 0 := by omega
  have h0a : 0 ≤ (n : Int) / 4 := by omega
  have h0b : 0 ≤ (n : Int) % 4 := by omega
  have HR : Hid (((w.alloc (.cells #[.int .i64 m.guest, .slice (some ⟨rb, ro, none⟩) m.root.length rc, .slice sa m.slots.length sc, .slice fa m.refs.length fc, .slice na m.snaps.length nc] 26)).alloc (.cells #[.int .i64 0, .slice none 0 0, .slice none 0 0, .slice none 0 0, .slice none 0 0] 26)).cell? ⟨rb, ro + n / 4, none⟩ = some (.int .i64 (t : Int)) ∧ rb < ((w.alloc (.cells #[.int .i64 m.guest, .slice (some ⟨rb, ro, none⟩) m.root.length rc, .slice sa m.slots.length sc, .slice fa m.refs.length fc, .slice na m.snaps.length nc] 26)).alloc (.cells #[.int .i64 0, .slice none 0 0, .slice none 0 0, .slice none 0 0, .slice none 0 0] 26)).heap.size) := ⟨by rw [← ht]; exact (b0.cell (p := ⟨rb, ro + n / 4, none⟩) hrl).trans (hrc (n / 4) hr), Nat.lt_of_lt_of_le hrl b0.size⟩
  have HT : Hid (∀ W, Below ((w.alloc (.cells #[.int .i64 m.guest, .slice (some ⟨rb, ro, none⟩) m.root.length rc, .slice sa m.slots.length sc, .slice fa m.refs.length fc, .slice na m.snaps.length nc] 26)).alloc (.cells #[.int .i64 0, .slice none 0 0, .slice none 0 0, .slice none 0 0, .slice none 0 0] 26)).heap.size ((w.alloc (.cells #[.int .i64 m.guest, .slice (some ⟨rb, ro, none⟩) m.root.length rc, .slice sa m.slots.length sc, .slice fa m.refs.length fc, .slice na m.snaps.length nc] 26)).alloc (.cells #[.int .i64 0, .slice none 0 0, .slice none 0 0, .slice none 0 0, .slice none 0 0] 26)) W → Calls Try.prog 63 #[.agg #[.int .i64 m.guest, .slice (some ⟨rb, ro, none⟩) m.root.length rc, .slice sa m.slots.length sc, .slice fa m.refs.length fc, .slice na m.snaps.length nc], .int .i64 (t : Int)] W fun r w' => ∃ g cap, r = .returned (.slice (some ⟨g, 0, none⟩) 4 cap) ∧ w'.ownsRow W.heap.size 3 1 (.slice (some ⟨g, 0, none⟩) 4 cap) 4 (ints (tableO m (n / 4))) ∧ W.heap.size ≤ g ∧ Below W.heap.size W w') := fun W hW => by
    have e := tabAt_O ht
    refine (tableOf_is (I0.below hW) htl (by rw [e, hlen]; decide)).mono ?_
    rintro r w' ⟨v, rfl, h1, h2, h3⟩
    rw [e, hlen] at h1
    obtain ⟨g, cap, rfl⟩ := row_some h1
    exact ⟨g, cap, rfl, h1, h2 g rfl, h3⟩
  clear h I0 hrt hgt hs hC hn ht
  go_enter Try.func66, Try.ntmps66
  obtain ⟨c0, c1, c2, c3, c4⟩ := five m0
  go_wp2_with (go_at_call 60; refine hown.mono ?_; rintro e1 w1 ⟨val, rfl, hO, b1⟩; obtain ⟨p0, q0, p1, q1, p2, q2, p3, q3, x0, x1, x2, x3⟩ := hO.four'; unfold imgV; rw [x0, x1, x2, x3])
  clear c0 c1 c2 c3 c4
  have n0 := cells_alloc (cells_below m0 b1 (by omega)) (.cells #[.int .i64 m.guest, .slice p0 m.root.length q0, .slice p1 m.slots.length q1, .slice p2 m.refs.length q2, .slice p3 m.snaps.length q3] 26)
  have n1 := cells_alloc (cells_below m1 b1 hsz) (.cells #[.int .i64 m.guest, .slice p0 m.root.length q0, .slice p1 m.slots.length q1, .slice p2 m.refs.length q2, .slice p3 m.snaps.length q3] 26)
  have nD : (w1.alloc (.cells #[.int .i64 m.guest, .slice p0 m.root.length q0, .slice p1 m.slots.length q1, .slice p2 m.refs.length q2, .slice p3 m.snaps.length q3] 26)).heap[w1.heap.size]? = some (.cells #[.int .i64 m.guest, .slice p0 m.root.length q0, .slice p1 m.slots.length q1, .slice p2 m.refs.length q2, .slice p3 m.snaps.length q3] 26) := World.alloc_heap_new _ _
  have hb2 : Below ((w.alloc (.cells #[.int .i64 m.guest, .slice (some ⟨rb, ro, none⟩) m.root.length rc, .slice sa m.slots.length sc, .slice fa m.refs.length fc, .slice na m.snaps.length nc] 26)).alloc (.cells #[.int .i64 0, .slice none 0 0, .slice none 0 0, .slice none 0 0, .slice none 0 0] 26)).heap.size ((w.alloc (.cells #[.int .i64 m.guest, .slice (some ⟨rb, ro, none⟩) m.root.length rc, .slice sa m.slots.length sc, .slice fa m.refs.length fc, .slice na m.snaps.length nc] 26)).alloc (.cells #[.int .i64 0, .slice none 0 0, .slice none 0 0, .slice none 0 0, .slice none 0 0] 26)) (w1.alloc (.cells #[.int .i64 m.guest, .slice p0 m.root.length q0, .slice p1 m.slots.length q1, .slice p2 m.refs.length q2, .slice p3 m.snaps.length q3] 26)) := b1.alloc b1.size _
  have cR := (hb2.cell (p := ⟨rb, ro + n / 4, none⟩) HR.out.2).trans HR.out.1
  have hs1 := b1.size
  refine wp_region_held_drew (S := (fun X : World => X.heap[w.heap.size]? = some (.cells #[.int .i64 m.guest, .slice (some ⟨rb, ro, none⟩) m.root.length rc, .slice sa m.slots.length sc, .slice fa m.refs.length fc, .slice na m.snaps.length nc] 26) ∧ X.cell? ⟨rb, ro + n / 4, none⟩ = some (.int .i64 (t : Int)))) (by kernel_rfl) ⟨n0, cR⟩ (fun hHeld => ?_)
  refine wpAnyH_take (i := 0) (v := .agg #[.int .i64 m.guest, .slice (some ⟨rb, ro, none⟩) m.root.length rc, .slice sa m.slots.length sc, .slice fa m.refs.length fc, .slice na m.snaps.length nc]) rfl (by kernel_rfl) (by kernel_rfl) (by kernel_rfl) (fun _ _ _ h => h) (Or.inl ⟨by rfl, fun w' hSw => by obtain ⟨qa, qb⟩ := hSw; obtain ⟨j0, j1, j2, j3, j4⟩ := five qa; go_simp⟩) hHeld ?_
  simp only [Act.put, List.getElem_toArray, List.getElem_cons_succ, List.getElem_cons_zero, List.setIfInBounds_toArray, List.set_cons_zero, List.set_cons_succ]
  refine wpAnyH_take (i := 1) (v := .pointer (some ⟨w.heap.size, 1, none⟩)) rfl (by kernel_rfl) (by kernel_rfl) (by kernel_rfl) (fun _ _ _ h => h) (Or.inl ⟨by rfl, fun w' hSw => by obtain ⟨qa, qb⟩ := hSw; obtain ⟨j0, j1, j2, j3, j4⟩ := five qa; go_simp⟩) hHeld ?_
  simp only [Act.put, List.getElem_toArray, List.getElem_cons_succ, List.getElem_cons_zero, List.setIfInBounds_toArray, List.set_cons_zero, List.set_cons_succ]
  refine wpAnyH_take (i := 2) (v := .slice (some ⟨rb, ro, none⟩) m.root.length rc) rfl (by kernel_rfl) (by kernel_rfl) (by kernel_rfl) (fun _ _ _ h => h) (Or.inl ⟨by rfl, fun w' hSw => by obtain ⟨qa, qb⟩ := hSw; obtain ⟨j0, j1, j2, j3, j4⟩ := five qa; go_simp⟩) hHeld ?_
  simp only [Act.put, List.getElem_toArray, List.getElem_cons_succ, List.getElem_cons_zero, List.setIfInBounds_toArray, List.set_cons_zero, List.set_cons_succ]
  refine wpAnyH_take (i := 3) (v := .int .i64 ((n : Int) / 4)) rfl (by kernel_rfl) (by kernel_rfl) (by kernel_rfl) (fun _ _ _ h => h) (Or.inl ⟨by rfl, fun w' hSw => by obtain ⟨qa, qb⟩ := hSw; obtain ⟨j0, j1, j2, j3, j4⟩ := five qa; go_simp⟩) hHeld ?_
  simp only [Act.put, List.getElem_toArray, List.getElem_cons_succ, List.getElem_cons_zero, List.setIfInBounds_toArray, List.set_cons_zero, List.set_cons_succ]
  refine wpAnyH_take (i := 4) (v := .pointer (some ⟨rb, ro + n / 4, none⟩)) rfl (by kernel_rfl) (by kernel_rfl) (by kernel_rfl) (fun _ _ _ h => h) (Or.inl ⟨by rfl, fun w' hSw => by obtain ⟨qa, qb⟩ := hSw; obtain ⟨j0, j1, j2, j3, j4⟩ := five qa; go_simp⟩) hHeld ?_
  simp only [Act.put, List.getElem_toArray, List.getElem_cons_succ, List.getElem_cons_zero, List.setIfInBounds_toArray, List.set_cons_zero, List.set_cons_succ]
  refine wpAnyH_take (i := 5) (v := .int .i64 (t : Int)) rfl (by kernel_rfl) (by kernel_rfl) (by kernel_rfl) (fun _ _ _ h => h) (Or.inl ⟨by rfl, fun w' hSw => by obtain ⟨qa, qb⟩ := hSw; obtain ⟨j0, j1, j2, j3, j4⟩ := five qa; go_simp⟩) hHeld ?_
  simp only [Act.put, List.getElem_toArray, List.getElem_cons_succ, List.getElem_cons_zero, List.setIfInBounds_toArray, List.set_cons_zero, List.set_cons_succ]
  refine wpAnyH_ready (rs := [6]) (by kernel_rfl) (by simp) ?_
  refine AllReadyH.cons rfl (fun K hK => ?_) AllReadyH.nil
  clear hHeld
  simp only [Act.put, List.getElem_toArray, List.getElem_cons_succ, List.getElem_cons_zero, List.setIfInBounds_toArray, List.set_cons_zero, List.set_cons_succ]
  rw [if_pos (by rfl)]
  go_wp2_with (go_at_call 63; refine (HT.out _ (to_drew hb2)).mono ?_; rintro e2 w3 ⟨g, cap, rfl, hev, hge, b3⟩)
  have b3' : Below (w1.alloc (.cells #[.int .i64 m.guest, .slice p0 m.root.length q0, .slice p1 m.slots.length q1, .slice p2 m.refs.length q2, .slice p3 m.snaps.length q3] 26)).heap.size (w1.alloc (.cells #[.int .i64 m.guest, .slice p0 m.root.length q0, .slice p1 m.slots.length q1, .slice p2 m.refs.length q2, .slice p3 m.snaps.length q3] 26)) w3 := below_drew b3
  have hge' : w1.heap.size + 1 ≤ g := by have : (w1.alloc (.cells #[.int .i64 m.guest, .slice p0 m.root.length q0, .slice p1 m.slots.length q1, .slice p2 m.refs.length q2, .slice p3 m.snaps.length q3] 26)).heap.size ≤ g := hge; simpa using this
  have hz2 : (w1.alloc (.cells #[.int .i64 m.guest, .slice p0 m.root.length q0, .slice p1 m.slots.length q1, .slice p2 m.refs.length q2, .slice p3 m.snaps.length q3] 26)).heap.size = w1.heap.size + 1 := by simp
  have k0 := cells_below n0 b3' (by omega)
  have k1 := cells_below n1 b3' (by omega)
  have kD := cells_below nD b3' (by omega)
  have cR3 := (b3'.cell (p := ⟨rb, ro + n / 4, none⟩) (by have := HR.out.2; show rb < _; omega)).trans cR
  have hO3 : OX w3 ((w.alloc (.cells #[.int .i64 m.guest, .slice (some ⟨rb, ro, none⟩) m.root.length rc, .slice sa m.slots.length sc, .slice fa m.refs.length fc, .slice na m.snaps.length nc] 26)).alloc (.cells #[.int .i64 0, .slice none 0 0, .slice none 0 0, .slice none 0 0, .slice none 0 0] 26)).heap.size val m := (hO.alloc _).below b3'
  refine hK.out _ _ ⟨k0, cR3⟩ (fun hHeld => ?_)
  clear hK K
  try simp only [Act.put, List.getElem_toArray, List.getElem_cons_succ, List.getElem_cons_zero, List.setIfInBounds_toArray, List.set_cons_zero, List.set_cons_succ]
  refine wpAnyH_take (i := 7) (v := .slice (some ⟨g, 0, none⟩) 4 cap) rfl (by kernel_rfl) (by kernel_rfl) (by kernel_rfl) (fun _ _ _ h => h) (Or.inl ⟨by rfl, fun w' hSw => by go_simp⟩) hHeld ?_
  simp only [Act.put, List.getElem_toArray, List.getElem_cons_succ, List.getElem_cons_zero, List.setIfInBounds_toArray, List.set_cons_zero, List.set_cons_succ]
  clear hHeld
  refine wpAnyH_done (by kernel_rfl) ?_ _
  have hev : w3.ownsRow (w1.heap.size + 1) 3 1 (.slice (some ⟨g, 0, none⟩) 4 cap) 4 (ints (tableO m (n / 4))) := row_mono hev (by show w1.heap.size + 1 ≤ (w1.alloc (.cells #[.int .i64 m.guest, .slice p0 m.root.length q0, .slice p1 m.slots.length q1, .slice p2 m.refs.length q2, .slice p3 m.snaps.length q3] 26)).heap.size; omega)
  have hce : w3.cell? ⟨g, n % 4, none⟩ = some (.int .i64 x) := by
    refine (hev.cellAt (n % 4) (by omega)).trans ?_
    unfold ints
    rw [List.getElem?_map, List.getElem?_eq_getElem (by rw [hlen]; exact h4), ← hx]
    simp [List.getD, hlen, h4]
  obtain ⟨c0, c1, c2, c3, c4⟩ := five k0
  obtain ⟨d0, d1, d2, d3, d4⟩ := five kD
  obtain ⟨z0, z1, z2, z3, z4⟩ := five k1
  have y0 := cells_frozen k1 0; have y1 := cells_frozen k1 1; have y2 := cells_frozen k1 2; have y3 := cells_frozen k1 3; have y4 := cells_frozen k1 4
  have HO : Hid (OX w3 ((w.alloc (.cells #[.int .i64 m.guest, .slice (some ⟨rb, ro, none⟩) m.root.length rc, .slice sa m.slots.length sc, .slice fa m.refs.length fc, .slice na m.snaps.length nc] 26)).alloc (.cells #[.int .i64 0, .slice none 0 0, .slice none 0 0, .slice none 0 0, .slice none 0 0] 26)).heap.size val m ∧ Below ((w.alloc (.cells #[.int .i64 m.guest, .slice (some ⟨rb, ro, none⟩) m.root.length rc, .slice sa m.slots.length sc, .slice fa m.refs.length fc, .slice na m.snaps.length nc] 26)).alloc (.cells #[.int .i64 0, .slice none 0 0, .slice none 0 0, .slice none 0 0, .slice none 0 0] 26)).heap.size ((w.alloc (.cells #[.int .i64 m.guest, .slice (some ⟨rb, ro, none⟩) m.root.length rc, .slice sa m.slots.length sc, .slice fa m.refs.length fc, .slice na m.snaps.length nc] 26)).alloc (.cells #[.int .i64 0, .slice none 0 0, .slice none 0 0, .slice none 0 0, .slice none 0 0] 26)) w3 ∧ w3.heap[w.heap.size + 1]? = some (.cells #[.int .i64 0, .slice none 0 0, .slice none 0 0, .slice none 0 0, .slice none 0 0] 26) ∧ w3.heap[w1.heap.size]? = some (.cells #[.int .i64 m.guest, .slice p0 m.root.length q0, .slice p1 m.slots.length q1, .slice p2 m.refs.length q2, .slice p3 m.snaps.length q3] 26) ∧ w1.heap.size + 1 ≤ w3.heap.size ∧ ((w.alloc (.cells #[.int .i64 m.guest, .slice (some ⟨rb, ro, none⟩) m.root.length rc, .slice sa m.slots.length sc, .slice fa m.refs.length fc, .slice na m.snaps.length nc] 26)).alloc (.cells #[.int .i64 0, .slice none 0 0, .slice none 0 0, .slice none 0 0, .slice none 0 0] 26)).heap.size ≤ w1.heap.size) := ⟨hO3, hb2.trans (b3'.mono (by omega)), k1, kD, by have := b3'.size; omega, hs1⟩
  have hev5 := hev.frozenAt (n % 4)
  have HE : Hid (w3.ownsRow (w1.heap.size + 1) 3 1 (.slice (some ⟨g, 0, none⟩) 4 cap) 4 (ints (tableO m (n / 4)))) := hev
  have HX : Hid (val .root = .slice p0 m.root.length q0 ∧ val .slots = .slice p1 m.slots.length q1 ∧ val .refs = .slice p2 m.refs.length q2 ∧ val .snaps = .slice p3 m.snaps.length q3) := ⟨x0, x1, x2, x3⟩
  have HLT : Hid (∀ a, LiveX m a → ∀ q, (val a).ownBlock = some q → q < w1.heap.size) := fun a ha q hq => ((hO.row a ha).lt q hq).2
  have HB : Hid (Below w.heap.size w w3) := b0.trans ((hb2.trans (b3'.mono (by omega))).mono (by omega))
  clear hev hO3 hO hown b1 b3 b3' hb2 cR cR3 k0 k1 kD n0 n1 nD m0 m1 HT HR hge b0 x0 x1 x2 x3 hlen hx
  go_wp2_with fail
  have hfr : ∀ a, LiveX m a → (val a).ownBlock ≠ some (w.heap.size + 1) := fun a ha e => by
    have := ((HO.out.1.row a ha).lt _ e).1
    omega
  have hI := fun a0 a1 a2 a3 a4 => HO.out.1.five hfr a0 a1 a2 a3 a4
  have eI : imgV m.guest val = .agg #[.int .i64 m.guest, .slice p0 m.root.length q0, .slice p1 m.slots.length q1, .slice p2 m.refs.length q2, .slice p3 m.snaps.length q3] := by unfold imgV; rw [HX.out.1, HX.out.2.1, HX.out.2.2.1, HX.out.2.2.2]
  refine bodyPost_ret (v := .tuple #[.agg #[.int .i64 m.guest, .slice p0 m.root.length q0, .slice p1 m.slots.length q1, .slice p2 m.refs.length q2, .slice p3 m.snaps.length q3], .int .i64 0]) (by simp [results, Try.results66, go_sem, z0, z1, z2, z3, z4]) rfl ⟨p0, q0, p1, q1, p2, q2, p3, q3, rfl, fun W' hW => (by have := ((hI _ _ _ _ _).keep (fun q hq _ => hW q (by omega))).img; rw [eI] at this; exact this), below_five HB.out (Nat.le_succ _) _ _ _ _ _⟩

set_option maxHeartbeats 8000000 in
theorem putOf_full (rb ro : Nat) (rc : Nat) (sa : Option Addr) (sc : Nat) (fa : Option Addr) (fc : Nat) (na : Option Addr) (nc : Nat) (m : ImgD) (n : Nat) (e : Int) (w : World) (h : Img w (.agg #[.int .i64 m.guest, .slice (some ⟨rb, ro, none⟩) m.root.length rc, .slice sa m.slots.length sc, .slice fa m.refs.length fc, .slice na m.snaps.length nc]) m) (hrc : ∀ j, j < m.root.length → w.cell? ⟨rb, ro + j, none⟩ = some (.int .i64 (m.root.getD j 0))) (hrl : rb < w.heap.size) (hC : checkE m = 0) (hn : (n : Int) < m.guest) (x : Int) (hx : (tableO m (n / 4)).getD (n % 4) 0 = x) (hxe : (x == e) = false) (hfull : (bareL ((tableO m (n / 4)).set (n % 4) e) = false ∧ tabN m (n / 4) = 40)) :
    Calls Try.prog 66 #[.agg #[.int .i64 m.guest, .slice (some ⟨rb, ro, none⟩) m.root.length rc, .slice sa m.slots.length sc, .slice fa m.refs.length fc, .slice na m.snaps.length nc], .int .i64 (n : Int), .int .i64 e] w (AnsJ w imgZ 7) := by
  have b0 : Below w.heap.size w ((w.alloc (.cells #[.int .i64 m.guest, .slice (some ⟨rb, ro, none⟩) m.root.length rc, .slice sa m.slots.length sc, .slice fa m.refs.length fc, .slice na m.snaps.length nc] 26)).alloc (.cells #[.int .i64 0, .slice none 0 0, .slice none 0 0, .slice none 0 0, .slice none 0 0] 26)) := ((Below.refl _ _).alloc (Nat.le_refl _) _).alloc (by simp) _
  have m0 : ((w.alloc (.cells #[.int .i64 m.guest, .slice (some ⟨rb, ro, none⟩) m.root.length rc, .slice sa m.slots.length sc, .slice fa m.refs.length fc, .slice na m.snaps.length nc] 26)).alloc (.cells #[.int .i64 0, .slice none 0 0, .slice none 0 0, .slice none 0 0, .slice none 0 0] 26)).heap[w.heap.size]? = some (.cells #[.int .i64 m.guest, .slice (some ⟨rb, ro, none⟩) m.root.length rc, .slice sa m.slots.length sc, .slice fa m.refs.length fc, .slice na m.snaps.length nc] 26) := cells_alloc (World.alloc_heap_new _ _) _
  have m1 : ((w.alloc (.cells #[.int .i64 m.guest, .slice (some ⟨rb, ro, none⟩) m.root.length rc, .slice sa m.slots.length sc, .slice fa m.refs.length fc, .slice na m.snaps.length nc] 26)).alloc (.cells #[.int .i64 0, .slice none 0 0, .slice none 0 0, .slice none 0 0, .slice none 0 0] 26)).heap[w.heap.size + 1]? = some (.cells #[.int .i64 0, .slice none 0 0, .slice none 0 0, .slice none 0 0, .slice none 0 0] 26) := by have := World.alloc_heap_new (w.alloc (.cells #[.int .i64 m.guest, .slice (some ⟨rb, ro, none⟩) m.root.length rc, .slice sa m.slots.length sc, .slice fa m.refs.length fc, .slice na m.snaps.length nc] 26)) (.cells #[.int .i64 0, .slice none 0 0, .slice none 0 0, .slice none 0 0, .slice none 0 0] 26); simpa using this
  have hsz : w.heap.size + 1 < ((w.alloc (.cells #[.int .i64 m.guest, .slice (some ⟨rb, ro, none⟩) m.root.length rc, .slice sa m.slots.length sc, .slice fa m.refs.length fc, .slice na m.snaps.length nc] 26)).alloc (.cells #[.int .i64 0, .slice none 0 0, .slice none 0 0, .slice none 0 0, .slice none 0 0] 26)).heap.size := by simp
  have hs := checkE_shape hC
  have hgt := guest_ok hs
  have hrt := root_ok hs
  have hr : n / 4 < m.root.length := by omega
  obtain ⟨t, ht, htl⟩ := root_nat hs hr
  have I0 := h.below b0
  have hown := ownImage_is I0 hs
  have hlen : (tableO m (n / 4)).length = 4 := ckE_len (tableO_ok hs hr).1
  have e4 : ((n / 4 : Nat) : Int) = (n : Int) / 4 := by omega
  have hq1 : ((n : Int) / 4).toNat = n / 4 := by omega
  have hq2 : ((n : Int) % 4).toNat = n % 4 := by omega
  have hri : (n : Int) / 4 < (m.root.length : Int) := by omega
  have h4 : n % 4 < 4 := by omega
  have h4i : (n : Int) % 4 < 4 := by omega
  have h16 : n < 16 := by omega
  have h0q : ¬ (n : Int) / 4 < 0 := by omega
  have h0r : ¬ (n : Int) % 4 < 0 := by omega
  have h0a : 0 ≤ (n : Int) / 4 := by omega
  have h0b : 0 ≤ (n : Int) % 4 := by omega
  have HR : Hid (((w.alloc (.cells #[.int .i64 m.guest, .slice (some ⟨rb, ro, none⟩) m.root.length rc, .slice sa m.slots.length sc, .slice fa m.refs.length fc, .slice na m.snaps.length nc] 26)).alloc (.cells #[.int .i64 0, .slice none 0 0, .slice none 0 0, .slice none 0 0, .slice none 0 0] 26)).cell? ⟨rb, ro + n / 4, none⟩ = some (.int .i64 (t : Int)) ∧ rb < ((w.alloc (.cells #[.int .i64 m.guest, .slice (some ⟨rb, ro, none⟩) m.root.length rc, .slice sa m.slots.length sc, .slice fa m.refs.length fc, .slice na m.snaps.length nc] 26)).alloc (.cells #[.int .i64 0, .slice none 0 0, .slice none 0 0, .slice none 0 0, .slice none 0 0] 26)).heap.size) := ⟨by rw [← ht]; exact (b0.cell (p := ⟨rb, ro + n / 4, none⟩) hrl).trans (hrc (n / 4) hr), Nat.lt_of_lt_of_le hrl b0.size⟩
  have HT : Hid (∀ W, Below ((w.alloc (.cells #[.int .i64 m.guest, .slice (some ⟨rb, ro, none⟩) m.root.length rc, .slice sa m.slots.length sc, .slice fa m.refs.length fc, .slice na m.snaps.length nc] 26)).alloc (.cells #[.int .i64 0, .slice none 0 0, .slice none 0 0, .slice none 0 0, .slice none 0 0] 26)).heap.size ((w.alloc (.cells #[.int .i64 m.guest, .slice (some ⟨rb, ro, none⟩) m.root.length rc, .slice sa m.slots.length sc, .slice fa m.refs.length fc, .slice na m.snaps.length nc] 26)).alloc (.cells #[.int .i64 0, .slice none 0 0, .slice none 0 0, .slice none 0 0, .slice none 0 0] 26)) W → Calls Try.prog 63 #[.agg #[.int .i64 m.guest, .slice (some ⟨rb, ro, none⟩) m.root.length rc, .slice sa m.slots.length sc, .slice fa m.refs.length fc, .slice na m.snaps.length nc], .int .i64 (t : Int)] W fun r w' => ∃ g cap, r = .returned (.slice (some ⟨g, 0, none⟩) 4 cap) ∧ w'.ownsRow W.heap.size 3 1 (.slice (some ⟨g, 0, none⟩) 4 cap) 4 (ints (tableO m (n / 4))) ∧ W.heap.size ≤ g ∧ Below W.heap.size W w') := fun W hW => by
    have e := tabAt_O ht
    refine (tableOf_is (I0.below hW) htl (by rw [e, hlen]; decide)).mono ?_
    rintro r w' ⟨v, rfl, h1, h2, h3⟩
    rw [e, hlen] at h1
    obtain ⟨g, cap, rfl⟩ := row_some h1
    exact ⟨g, cap, rfl, h1, h2 g rfl, h3⟩
  have HT1 : Hid (m.root.getD (n / 4) 0 = (t : Int)) := ht
  have HT2 : Hid (m.refs.length = m.slots.length ∧ m.slots.length ≤ 40) := ⟨(shapeE_zero hs).2.2.1, (slotsE_parts (shapeE_zero hs).2.1).2⟩
  have HT4 : Hid ((tableO m (n / 4)).length = 4) := hlen
  clear h I0 hrt hgt hs hC hn ht
  go_enter Try.func66, Try.ntmps66
  obtain ⟨c0, c1, c2, c3, c4⟩ := five m0
  go_wp2_with (go_at_call 60; refine hown.mono ?_; rintro e1 w1 ⟨val, rfl, hO, b1⟩; obtain ⟨p0, q0, p1, q1, p2, q2, p3, q3, x0, x1, x2, x3⟩ := hO.four'; unfold imgV; rw [x0, x1, x2, x3])
  clear c0 c1 c2 c3 c4
  have n0 := cells_alloc (cells_below m0 b1 (by omega)) (.cells #[.int .i64 m.guest, .slice p0 m.root.length q0, .slice p1 m.slots.length q1, .slice p2 m.refs.length q2, .slice p3 m.snaps.length q3] 26)
  have n1 := cells_alloc (cells_below m1 b1 hsz) (.cells #[.int .i64 m.guest, .slice p0 m.root.length q0, .slice p1 m.slots.length q1, .slice p2 m.refs.length q2, .slice p3 m.snaps.length q3] 26)
  have nD : (w1.alloc (.cells #[.int .i64 m.guest, .slice p0 m.root.length q0, .slice p1 m.slots.length q1, .slice p2 m.refs.length q2, .slice p3 m.snaps.length q3] 26)).heap[w1.heap.size]? = some (.cells #[.int .i64 m.guest, .slice p0 m.root.length q0, .slice p1 m.slots.length q1, .slice p2 m.refs.length q2, .slice p3 m.snaps.length q3] 26) := World.alloc_heap_new _ _
  have hb2 : Below ((w.alloc (.cells #[.int .i64 m.guest, .slice (some ⟨rb, ro, none⟩) m.root.length rc, .slice sa m.slots.length sc, .slice fa m.refs.length fc, .slice na m.snaps.length nc] 26)).alloc (.cells #[.int .i64 0, .slice none 0 0, .slice none 0 0, .slice none 0 0, .slice none 0 0] 26)).heap.size ((w.alloc (.cells #[.int .i64 m.guest, .slice (some ⟨rb, ro, none⟩) m.root.length rc, .slice sa m.slots.length sc, .slice fa m.refs.length fc, .slice na m.snaps.length nc] 26)).alloc (.cells #[.int .i64 0, .slice none 0 0, .slice none 0 0, .slice none 0 0, .slice none 0 0] 26)) (w1.alloc (.cells #[.int .i64 m.guest, .slice p0 m.root.length q0, .slice p1 m.slots.length q1, .slice p2 m.refs.length q2, .slice p3 m.snaps.length q3] 26)) := b1.alloc b1.size _
  have cR := (hb2.cell (p := ⟨rb, ro + n / 4, none⟩) HR.out.2).trans HR.out.1
  have hs1 := b1.size
  refine wp_region_held_drew (S := (fun X : World => X.heap[w.heap.size]? = some (.cells #[.int .i64 m.guest, .slice (some ⟨rb, ro, none⟩) m.root.length rc, .slice sa m.slots.length sc, .slice fa m.refs.length fc, .slice na m.snaps.length nc] 26) ∧ X.cell? ⟨rb, ro + n / 4, none⟩ = some (.int .i64 (t : Int)))) (by kernel_rfl) ⟨n0, cR⟩ (fun hHeld => ?_)
  refine wpAnyH_take (i := 0) (v := .agg #[.int .i64 m.guest, .slice (some ⟨rb, ro, none⟩) m.root.length rc, .slice sa m.slots.length sc, .slice fa m.refs.length fc, .slice na m.snaps.length nc]) rfl (by kernel_rfl) (by kernel_rfl) (by kernel_rfl) (fun _ _ _ h => h) (Or.inl ⟨by rfl, fun w' hSw => by obtain ⟨qa, qb⟩ := hSw; obtain ⟨j0, j1, j2, j3, j4⟩ := five qa; go_simp⟩) hHeld ?_
  simp only [Act.put, List.getElem_toArray, List.getElem_cons_succ, List.getElem_cons_zero, List.setIfInBounds_toArray, List.set_cons_zero, List.set_cons_succ]
  refine wpAnyH_take (i := 1) (v := .pointer (some ⟨w.heap.size, 1, none⟩)) rfl (by kernel_rfl) (by kernel_rfl) (by kernel_rfl) (fun _ _ _ h => h) (Or.inl ⟨by rfl, fun w' hSw => by obtain ⟨qa, qb⟩ := hSw; obtain ⟨j0, j1, j2, j3, j4⟩ := five qa; go_simp⟩) hHeld ?_
  simp only [Act.put, List.getElem_toArray, List.getElem_cons_succ, List.getElem_cons_zero, List.setIfInBounds_toArray, List.set_cons_zero, List.set_cons_succ]
  refine wpAnyH_take (i := 2) (v := .slice (some ⟨rb, ro, none⟩) m.root.length rc) rfl (by kernel_rfl) (by kernel_rfl) (by kernel_rfl) (fun _ _ _ h => h) (Or.inl ⟨by rfl, fun w' hSw => by obtain ⟨qa, qb⟩ := hSw; obtain ⟨j0, j1, j2, j3, j4⟩ := five qa; go_simp⟩) hHeld ?_
  simp only [Act.put, List.getElem_toArray, List.getElem_cons_succ, List.getElem_cons_zero, List.setIfInBounds_toArray, List.set_cons_zero, List.set_cons_succ]
  refine wpAnyH_take (i := 3) (v := .int .i64 ((n : Int) / 4)) rfl (by kernel_rfl) (by kernel_rfl) (by kernel_rfl) (fun _ _ _ h => h) (Or.inl ⟨by rfl, fun w' hSw => by obtain ⟨qa, qb⟩ := hSw; obtain ⟨j0, j1, j2, j3, j4⟩ := five qa; go_simp⟩) hHeld ?_
  simp only [Act.put, List.getElem_toArray, List.getElem_cons_succ, List.getElem_cons_zero, List.setIfInBounds_toArray, List.set_cons_zero, List.set_cons_succ]
  refine wpAnyH_take (i := 4) (v := .pointer (some ⟨rb, ro + n / 4, none⟩)) rfl (by kernel_rfl) (by kernel_rfl) (by kernel_rfl) (fun _ _ _ h => h) (Or.inl ⟨by rfl, fun w' hSw => by obtain ⟨qa, qb⟩ := hSw; obtain ⟨j0, j1, j2, j3, j4⟩ := five qa; go_simp⟩) hHeld ?_
  simp only [Act.put, List.getElem_toArray, List.getElem_cons_succ, List.getElem_cons_zero, List.setIfInBounds_toArray, List.set_cons_zero, List.set_cons_succ]
  refine wpAnyH_take (i := 5) (v := .int .i64 (t : Int)) rfl (by kernel_rfl) (by kernel_rfl) (by kernel_rfl) (fun _ _ _ h => h) (Or.inl ⟨by rfl, fun w' hSw => by obtain ⟨qa, qb⟩ := hSw; obtain ⟨j0, j1, j2, j3, j4⟩ := five qa; go_simp⟩) hHeld ?_
  simp only [Act.put, List.getElem_toArray, List.getElem_cons_succ, List.getElem_cons_zero, List.setIfInBounds_toArray, List.set_cons_zero, List.set_cons_succ]
  refine wpAnyH_ready (rs := [6]) (by kernel_rfl) (by simp) ?_
  refine AllReadyH.cons rfl (fun K hK => ?_) AllReadyH.nil
  clear hHeld
  simp only [Act.put, List.getElem_toArray, List.getElem_cons_succ, List.getElem_cons_zero, List.setIfInBounds_toArray, List.set_cons_zero, List.set_cons_succ]
  rw [if_pos (by rfl)]
  go_wp2_with (go_at_call 63; refine (HT.out _ (to_drew hb2)).mono ?_; rintro e2 w3 ⟨g, cap, rfl, hev, hge, b3⟩)
  have b3' : Below (w1.alloc (.cells #[.int .i64 m.guest, .slice p0 m.root.length q0, .slice p1 m.slots.length q1, .slice p2 m.refs.length q2, .slice p3 m.snaps.length q3] 26)).heap.size (w1.alloc (.cells #[.int .i64 m.guest, .slice p0 m.root.length q0, .slice p1 m.slots.length q1, .slice p2 m.refs.length q2, .slice p3 m.snaps.length q3] 26)) w3 := below_drew b3
  have hge' : w1.heap.size + 1 ≤ g := by have : (w1.alloc (.cells #[.int .i64 m.guest, .slice p0 m.root.length q0, .slice p1 m.slots.length q1, .slice p2 m.refs.length q2, .slice p3 m.snaps.length q3] 26)).heap.size ≤ g := hge; simpa using this
  have hz2 : (w1.alloc (.cells #[.int .i64 m.guest, .slice p0 m.root.length q0, .slice p1 m.slots.length q1, .slice p2 m.refs.length q2, .slice p3 m.snaps.length q3] 26)).heap.size = w1.heap.size + 1 := by simp
  have k0 := cells_below n0 b3' (by omega)
  have k1 := cells_below n1 b3' (by omega)
  have kD := cells_below nD b3' (by omega)
  have cR3 := (b3'.cell (p := ⟨rb, ro + n / 4, none⟩) (by have := HR.out.2; show rb < _; omega)).trans cR
  have hO3 : OX w3 ((w.alloc (.cells #[.int .i64 m.guest, .slice (some ⟨rb, ro, none⟩) m.root.length rc, .slice sa m.slots.length sc, .slice fa m.refs.length fc, .slice na m.snaps.length nc] 26)).alloc (.cells #[.int .i64 0, .slice none 0 0, .slice none 0 0, .slice none 0 0, .slice none 0 0] 26)).heap.size val m := (hO.alloc _).below b3'
  refine hK.out _ _ ⟨k0, cR3⟩ (fun hHeld => ?_)
  clear hK K
  try simp only [Act.put, List.getElem_toArray, List.getElem_cons_succ, List.getElem_cons_zero, List.setIfInBounds_toArray, List.set_cons_zero, List.set_cons_succ]
  refine wpAnyH_take (i := 7) (v := .slice (some ⟨g, 0, none⟩) 4 cap) rfl (by kernel_rfl) (by kernel_rfl) (by kernel_rfl) (fun _ _ _ h => h) (Or.inl ⟨by rfl, fun w' hSw => by go_simp⟩) hHeld ?_
  simp only [Act.put, List.getElem_toArray, List.getElem_cons_succ, List.getElem_cons_zero, List.setIfInBounds_toArray, List.set_cons_zero, List.set_cons_succ]
  clear hHeld
  refine wpAnyH_done (by kernel_rfl) ?_ _
  have hev : w3.ownsRow (w1.heap.size + 1) 3 1 (.slice (some ⟨g, 0, none⟩) 4 cap) 4 (ints (tableO m (n / 4))) := row_mono hev (by show w1.heap.size + 1 ≤ (w1.alloc (.cells #[.int .i64 m.guest, .slice p0 m.root.length q0, .slice p1 m.slots.length q1, .slice p2 m.refs.length q2, .slice p3 m.snaps.length q3] 26)).heap.size; omega)
  have hce : w3.cell? ⟨g, n % 4, none⟩ = some (.int .i64 x) := by
    refine (hev.cellAt (n % 4) (by omega)).trans ?_
    unfold ints
    rw [List.getElem?_map, List.getElem?_eq_getElem (by rw [hlen]; exact h4), ← hx]
    simp [List.getD, hlen, h4]
  obtain ⟨c0, c1, c2, c3, c4⟩ := five k0
  obtain ⟨d0, d1, d2, d3, d4⟩ := five kD
  obtain ⟨z0, z1, z2, z3, z4⟩ := five k1
  have y0 := cells_frozen k1 0; have y1 := cells_frozen k1 1; have y2 := cells_frozen k1 2; have y3 := cells_frozen k1 3; have y4 := cells_frozen k1 4
  have HO : Hid (OX w3 ((w.alloc (.cells #[.int .i64 m.guest, .slice (some ⟨rb, ro, none⟩) m.root.length rc, .slice sa m.slots.length sc, .slice fa m.refs.length fc, .slice na m.snaps.length nc] 26)).alloc (.cells #[.int .i64 0, .slice none 0 0, .slice none 0 0, .slice none 0 0, .slice none 0 0] 26)).heap.size val m ∧ Below ((w.alloc (.cells #[.int .i64 m.guest, .slice (some ⟨rb, ro, none⟩) m.root.length rc, .slice sa m.slots.length sc, .slice fa m.refs.length fc, .slice na m.snaps.length nc] 26)).alloc (.cells #[.int .i64 0, .slice none 0 0, .slice none 0 0, .slice none 0 0, .slice none 0 0] 26)).heap.size ((w.alloc (.cells #[.int .i64 m.guest, .slice (some ⟨rb, ro, none⟩) m.root.length rc, .slice sa m.slots.length sc, .slice fa m.refs.length fc, .slice na m.snaps.length nc] 26)).alloc (.cells #[.int .i64 0, .slice none 0 0, .slice none 0 0, .slice none 0 0, .slice none 0 0] 26)) w3 ∧ w3.heap[w.heap.size + 1]? = some (.cells #[.int .i64 0, .slice none 0 0, .slice none 0 0, .slice none 0 0, .slice none 0 0] 26) ∧ w3.heap[w1.heap.size]? = some (.cells #[.int .i64 m.guest, .slice p0 m.root.length q0, .slice p1 m.slots.length q1, .slice p2 m.refs.length q2, .slice p3 m.snaps.length q3] 26) ∧ w1.heap.size + 1 ≤ w3.heap.size ∧ ((w.alloc (.cells #[.int .i64 m.guest, .slice (some ⟨rb, ro, none⟩) m.root.length rc, .slice sa m.slots.length sc, .slice fa m.refs.length fc, .slice na m.snaps.length nc] 26)).alloc (.cells #[.int .i64 0, .slice none 0 0, .slice none 0 0, .slice none 0 0, .slice none 0 0] 26)).heap.size ≤ w1.heap.size) := ⟨hO3, hb2.trans (b3'.mono (by omega)), k1, kD, by have := b3'.size; omega, hs1⟩
  have hev5 := hev.frozenAt (n % 4)
  have HE : Hid (w3.ownsRow (w1.heap.size + 1) 3 1 (.slice (some ⟨g, 0, none⟩) 4 cap) 4 (ints (tableO m (n / 4)))) := hev
  have HX : Hid (val .root = .slice p0 m.root.length q0 ∧ val .slots = .slice p1 m.slots.length q1 ∧ val .refs = .slice p2 m.refs.length q2 ∧ val .snaps = .slice p3 m.snaps.length q3) := ⟨x0, x1, x2, x3⟩
  have HLT : Hid (∀ a, LiveX m a → ∀ q, (val a).ownBlock = some q → q < w1.heap.size) := fun a ha q hq => ((hO.row a ha).lt q hq).2
  have HB : Hid (Below w.heap.size w w3) := b0.trans ((hb2.trans (b3'.mono (by omega))).mono (by omega))
  clear hev hO3 hO hown b1 b3 b3' hb2 cR cR3 k0 k1 kD n0 n1 nD m0 m1 HT HR hge b0 x0 x1 x2 x3 hlen hx
  have hgd : g ≠ w1.heap.size := by omega
  have hgr : g ≠ w.heap.size + 1 := by have := HO.out.2.2.2.2.2; omega
  have hgl : g < w3.heap.size := (HE.out.lt g rfl).2
  have kD4 := cells_other HO.out.2.2.2.1 (show w1.heap.size ≠ g from fun x => hgd x.symm) (n % 4) (.int .i64 e)
  have k14 := cells_other HO.out.2.2.1 (show w.heap.size + 1 ≠ g from fun x => hgr x.symm) (n % 4) (.int .i64 e)
  have hO4 : OX (w3.setCell ⟨g, n % 4, none⟩ (.int .i64 e)) ((w.alloc (.cells #[.int .i64 m.guest, .slice (some ⟨rb, ro, none⟩) m.root.length rc, .slice sa m.slots.length sc, .slice fa m.refs.length fc, .slice na m.snaps.length nc] 26)).alloc (.cells #[.int .i64 0, .slice none 0 0, .slice none 0 0, .slice none 0 0, .slice none 0 0] 26)).heap.size val m := HO.out.1.far (fun a ha x => by have := HLT.out a ha g x; omega)
  have hsz4 : (w3.setCell ⟨g, n % 4, none⟩ (.int .i64 e)).heap.size = w3.heap.size := by simp
  have he4 : (w3.setCell ⟨g, n % 4, none⟩ (.int .i64 e)).ownsRow ((w.alloc (.cells #[.int .i64 m.guest, .slice (some ⟨rb, ro, none⟩) m.root.length rc, .slice sa m.slots.length sc, .slice fa m.refs.length fc, .slice na m.snaps.length nc] 26)).alloc (.cells #[.int .i64 0, .slice none 0 0, .slice none 0 0, .slice none 0 0, .slice none 0 0] 26)).heap.size 3 1 (.slice (some ⟨g, 0, none⟩) 4 cap) ((tableO m (n / 4)).set (n % 4) e).length (ints ((tableO m (n / 4)).set (n % 4) e)) := by
    have h1 := (HE.out.stored (n % 4) (.int .i64 e)).1
    rw [← ints_set] at h1
    have h2 := row_mono h1 (B' := ((w.alloc (.cells #[.int .i64 m.guest, .slice (some ⟨rb, ro, none⟩) m.root.length rc, .slice sa m.slots.length sc, .slice fa m.refs.length fc, .slice na m.snaps.length nc] 26)).alloc (.cells #[.int .i64 0, .slice none 0 0, .slice none 0 0, .slice none 0 0, .slice none 0 0] 26)).heap.size) (by have := HO.out.2.2.2.2.2; omega)
    rw [List.length_set, HT4.out]
    exact h2
  have HK : Hid (Calls Try.prog 70 #[.agg #[.int .i64 m.guest, .slice p0 m.root.length q0, .slice p1 m.slots.length q1, .slice p2 m.refs.length q2, .slice p3 m.snaps.length q3], .int .i64 ((n : Int) / 4), .slice (some ⟨g, 0, none⟩) 4 cap] (w3.setCell ⟨g, n % 4, none⟩ (.int .i64 e)) (fun r w' => ∃ g0 a0 b0 c0 a1 b1 c1 a2 b2 c2 a3 b3 c3, r = .returned (.tuple #[.agg #[.int .i64 g0, .slice a0 b0 c0, .slice a1 b1 c1, .slice a2 b2 c2, .slice a3 b3 c3], .bool false]) ∧ Below ((w.alloc (.cells #[.int .i64 m.guest, .slice (some ⟨rb, ro, none⟩) m.root.length rc, .slice sa m.slots.length sc, .slice fa m.refs.length fc, .slice na m.snaps.length nc] 26)).alloc (.cells #[.int .i64 0, .slice none 0 0, .slice none 0 0, .slice none 0 0, .slice none 0 0] 26)).heap.size (w3.setCell ⟨g, n % 4, none⟩ (.int .i64 e)) w' ∧ KeepX (w3.setCell ⟨g, n % 4, none⟩ (.int .i64 e)) w' m val)) := by
    have hc := tabledX_is m.guest (k := n / 4) hO4 (by have := HO.out.2.1.size; omega) hr HT1.out htl he4 (fun a b hb _ q hq x => by have := HLT.out b hb q x; have hq : g = q := Option.some.inj hq; omega) HT2.out.1 HT2.out.2
    rw [e4] at hc
    unfold imgV at hc
    rw [HX.out.1, HX.out.2.1, HX.out.2.2.1, HX.out.2.2.2] at hc
    exact hc.mono (fun r w' hh => by rcases hh with ⟨_, _, ⟨v, ⟨g0, a0, b0, c0, a1, b1, c1, a2, b2, c2, a3, b3, c3, rfl⟩, rfl⟩, h1, h2⟩ | ⟨hno, _⟩; (exact ⟨g0, a0, b0, c0, a1, b1, c1, a2, b2, c2, a3, b3, c3, rfl, h1, h2⟩); exact absurd hfull hno)
  have nD1 : ¬ w1.heap.size = w.heap.size + 1 := by have := HO.out.2.2.2.2.2; omega
  have nD2 : ¬ w.heap.size + 1 = w1.heap.size := by omega
  have gg1 : ¬ g = w1.heap.size := hgd
  have gg2 : ¬ w1.heap.size = g := fun x => hgd x.symm
  have gg3 : ¬ g = w.heap.size + 1 := hgr
  have gg4 : ¬ w.heap.size + 1 = g := fun x => hgr x.symm
  go_wp2_with (go_at_call 70; refine HK.out.mono ?_; rintro e2 w5 ⟨g0, a0, r0, c0, a1, r1, c1, a2, r2, c2, a3, r3, c3, rfl, b5, k5⟩; have kD5 := (k5 w1.heap.size (by have := HO.out.2.2.2.2.1; omega) (fun a ha x => by have := HLT.out a ha _ x; omega)).trans kD4; have k15 := (k5 (w.heap.size + 1) (by have := HO.out.2.2.2.2.1; have := HO.out.2.2.2.2.2; omega) (fun a ha x => by have := ((HO.out.1.row a ha).lt _ x).1; omega)).trans k14; obtain ⟨f0, f1, f2, f3, f4⟩ := five kD5; have ff0 := cells_frozen kD5 0; have ff1 := cells_frozen kD5 1; have ff2 := cells_frozen kD5 2; have ff3 := cells_frozen kD5 3; have ff4 := cells_frozen kD5 4; obtain ⟨z0, z1, z2, z3, z4⟩ := five k15; have y0 := cells_frozen k15 0; have y1 := cells_frozen k15 1; have y2 := cells_frozen k15 2; have y3 := cells_frozen k15 3; have y4 := cells_frozen k15 4)
  have hB5 : Below w.heap.size w w5 := (HB.out.setCell (p := ⟨g, n % 4, none⟩) (show w.heap.size ≤ g by have := HO.out.2.2.2.2.2; omega) _).trans (b5.mono (by omega))
  refine bodyPost_ret (v := .tuple #[.agg #[.int .i64 0, .slice none 0 0, .slice none 0 0, .slice none 0 0, .slice none 0 0], .int .i64 7]) (by simp [results, Try.results66, go_sem, z0, z1, z2, z3, z4]) rfl ⟨none, 0, none, 0, none, 0, none, 0, rfl, fun W' _ => imgZ_im W', below_five (below_five hB5 (show w.heap.size ≤ w1.heap.size by have := HO.out.2.2.2.2.2; omega) _ _ _ _ _) (Nat.le_succ _) _ _ _ _ _⟩

set_option maxHeartbeats 8000000 in
theorem putOf_ok (rb ro : Nat) (rc : Nat) (sa : Option Addr) (sc : Nat) (fa : Option Addr) (fc : Nat) (na : Option Addr) (nc : Nat) (m : ImgD) (n : Nat) (e : Int) (w : World) (h : Img w (.agg #[.int .i64 m.guest, .slice (some ⟨rb, ro, none⟩) m.root.length rc, .slice sa m.slots.length sc, .slice fa m.refs.length fc, .slice na m.snaps.length nc]) m) (hrc : ∀ j, j < m.root.length → w.cell? ⟨rb, ro + j, none⟩ = some (.int .i64 (m.root.getD j 0))) (hrl : rb < w.heap.size) (hC : checkE m = 0) (hn : (n : Int) < m.guest) (x : Int) (hx : (tableO m (n / 4)).getD (n % 4) 0 = x) (hxe : (x == e) = false) (hnf : ¬ (bareL ((tableO m (n / 4)).set (n % 4) e) = false ∧ tabN m (n / 4) = 40)) (TM : ImgD) (hTM : tabledM m (n / 4) ((tableO m (n / 4)).set (n % 4) e) = TM) (hSh : shapeE { TM with refs := rfZ TM.slots } = 0) :
    Calls Try.prog 66 #[.agg #[.int .i64 m.guest, .slice (some ⟨rb, ro, none⟩) m.root.length rc, .slice sa m.slots.length sc, .slice fa m.refs.length fc, .slice na m.snaps.length nc], .int .i64 (n : Int), .int .i64 e] w (AnsJ w (countedD TM) 0) := by
  have b0 : Below w.heap.size w ((w.alloc (.cells #[.int .i64 m.guest, .slice (some ⟨rb, ro, none⟩) m.root.length rc, .slice sa m.slots.length sc, .slice fa m.refs.length fc, .slice na m.snaps.length nc] 26)).alloc (.cells #[.int .i64 0, .slice none 0 0, .slice none 0 0, .slice none 0 0, .slice none 0 0] 26)) := ((Below.refl _ _).alloc (Nat.le_refl _) _).alloc (by simp) _
  have m0 : ((w.alloc (.cells #[.int .i64 m.guest, .slice (some ⟨rb, ro, none⟩) m.root.length rc, .slice sa m.slots.length sc, .slice fa m.refs.length fc, .slice na m.snaps.length nc] 26)).alloc (.cells #[.int .i64 0, .slice none 0 0, .slice none 0 0, .slice none 0 0, .slice none 0 0] 26)).heap[w.heap.size]? = some (.cells #[.int .i64 m.guest, .slice (some ⟨rb, ro, none⟩) m.root.length rc, .slice sa m.slots.length sc, .slice fa m.refs.length fc, .slice na m.snaps.length nc] 26) := cells_alloc (World.alloc_heap_new _ _) _
  have m1 : ((w.alloc (.cells #[.int .i64 m.guest, .slice (some ⟨rb, ro, none⟩) m.root.length rc, .slice sa m.slots.length sc, .slice fa m.refs.length fc, .slice na m.snaps.length nc] 26)).alloc (.cells #[.int .i64 0, .slice none 0 0, .slice none 0 0, .slice none 0 0, .slice none 0 0] 26)).heap[w.heap.size + 1]? = some (.cells #[.int .i64 0, .slice none 0 0, .slice none 0 0, .slice none 0 0, .slice none 0 0] 26) := by have := World.alloc_heap_new (w.alloc (.cells #[.int .i64 m.guest, .slice (some ⟨rb, ro, none⟩) m.root.length rc, .slice sa m.slots.length sc, .slice fa m.refs.length fc, .slice na m.snaps.length nc] 26)) (.cells #[.int .i64 0, .slice none 0 0, .slice none 0 0, .slice none 0 0, .slice none 0 0] 26); simpa using this
  have hsz : w.heap.size + 1 < ((w.alloc (.cells #[.int .i64 m.guest, .slice (some ⟨rb, ro, none⟩) m.root.length rc, .slice sa m.slots.length sc, .slice fa m.refs.length fc, .slice na m.snaps.length nc] 26)).alloc (.cells #[.int .i64 0, .slice none 0 0, .slice none 0 0, .slice none 0 0, .slice none 0 0] 26)).heap.size := by simp
  have hs := checkE_shape hC
  have hgt := guest_ok hs
  have hrt := root_ok hs
  have hr : n / 4 < m.root.length := by omega
  obtain ⟨t, ht, htl⟩ := root_nat hs hr
  have I0 := h.below b0
  have hown := ownImage_is I0 hs
  have hlen : (tableO m (n / 4)).length = 4 := ckE_len (tableO_ok hs hr).1
  have e4 : ((n / 4 : Nat) : Int) = (n : Int) / 4 := by omega
  have hq1 : ((n : Int) / 4).toNat = n / 4 := by omega
  have hq2 : ((n : Int) % 4).toNat = n % 4 := by omega
  have hri : (n : Int) / 4 < (m.root.length : Int) := by omega
  have h4 : n % 4 < 4 := by omega
  have h4i : (n : Int) % 4 < 4 := by omega
  have h16 : n < 16 := by omega
  have h0q : ¬ (n : Int) / 4 < 0 := by omega
  have h0r : ¬ (n : Int) % 4 < 0 := by omega
  have h0a : 0 ≤ (n : Int) / 4 := by omega
  have h0b : 0 ≤ (n : Int) % 4 := by omega
  have HR : Hid (((w.alloc (.cells #[.int .i64 m.guest, .slice (some ⟨rb, ro, none⟩) m.root.length rc, .slice sa m.slots.length sc, .slice fa m.refs.length fc, .slice na m.snaps.length nc] 26)).alloc (.cells #[.int .i64 0, .slice none 0 0, .slice none 0 0, .slice none 0 0, .slice none 0 0] 26)).cell? ⟨rb, ro + n / 4, none⟩ = some (.int .i64 (t : Int)) ∧ rb < ((w.alloc (.cells #[.int .i64 m.guest, .slice (some ⟨rb, ro, none⟩) m.root.length rc, .slice sa m.slots.length sc, .slice fa m.refs.length fc, .slice na m.snaps.length nc] 26)).alloc (.cells #[.int .i64 0, .slice none 0 0, .slice none 0 0, .slice none 0 0, .slice none 0 0] 26)).heap.size) := ⟨by rw [← ht]; exact (b0.cell (p := ⟨rb, ro + n / 4, none⟩) hrl).trans (hrc (n / 4) hr), Nat.lt_of_lt_of_le hrl b0.size⟩
  have HT : Hid (∀ W, Below ((w.alloc (.cells #[.int .i64 m.guest, .slice (some ⟨rb, ro, none⟩) m.root.length rc, .slice sa m.slots.length sc, .slice fa m.refs.length fc, .slice na m.snaps.length nc] 26)).alloc (.cells #[.int .i64 0, .slice none 0 0, .slice none 0 0, .slice none 0 0, .slice none 0 0] 26)).heap.size ((w.alloc (.cells #[.int .i64 m.guest, .slice (some ⟨rb, ro, none⟩) m.root.length rc, .slice sa m.slots.length sc, .slice fa m.refs.length fc, .slice na m.snaps.length nc] 26)).alloc (.cells #[.int .i64 0, .slice none 0 0, .slice none 0 0, .slice none 0 0, .slice none 0 0] 26)) W → Calls Try.prog 63 #[.agg #[.int .i64 m.guest, .slice (some ⟨rb, ro, none⟩) m.root.length rc, .slice sa m.slots.length sc, .slice fa m.refs.length fc, .slice na m.snaps.length nc], .int .i64 (t : Int)] W fun r w' => ∃ g cap, r = .returned (.slice (some ⟨g, 0, none⟩) 4 cap) ∧ w'.ownsRow W.heap.size 3 1 (.slice (some ⟨g, 0, none⟩) 4 cap) 4 (ints (tableO m (n / 4))) ∧ W.heap.size ≤ g ∧ Below W.heap.size W w') := fun W hW => by
    have e := tabAt_O ht
    refine (tableOf_is (I0.below hW) htl (by rw [e, hlen]; decide)).mono ?_
    rintro r w' ⟨v, rfl, h1, h2, h3⟩
    rw [e, hlen] at h1
    obtain ⟨g, cap, rfl⟩ := row_some h1
    exact ⟨g, cap, rfl, h1, h2 g rfl, h3⟩
  have HT1 : Hid (m.root.getD (n / 4) 0 = (t : Int)) := ht
  have HT2 : Hid (m.refs.length = m.slots.length ∧ m.slots.length ≤ 40) := ⟨(shapeE_zero hs).2.2.1, (slotsE_parts (shapeE_zero hs).2.1).2⟩
  have HT4 : Hid ((tableO m (n / 4)).length = 4) := hlen
  have HTM : Hid (tabledM m (n / 4) ((tableO m (n / 4)).set (n % 4) e) = TM) := hTM
  have HSh : Hid (shapeE { TM with refs := rfZ TM.slots } = 0) := hSh
  have HGd : Hid (TM.guest = m.guest) := by show TM.guest = m.guest; rw [← hTM]; exact tabledM_guest _ _ _
  clear h I0 hrt hgt hs hC hn ht hTM hSh
  go_enter Try.func66, Try.ntmps66
  obtain ⟨c0, c1, c2, c3, c4⟩ := five m0
  go_wp2_with (go_at_call 60; refine hown.mono ?_; rintro e1 w1 ⟨val, rfl, hO, b1⟩; obtain ⟨p0, q0, p1, q1, p2, q2, p3, q3, x0, x1, x2, x3⟩ := hO.four'; unfold imgV; rw [x0, x1, x2, x3])
  clear c0 c1 c2 c3 c4
  have n0 := cells_alloc (cells_below m0 b1 (by omega)) (.cells #[.int .i64 m.guest, .slice p0 m.root.length q0, .slice p1 m.slots.length q1, .slice p2 m.refs.length q2, .slice p3 m.snaps.length q3] 26)
  have n1 := cells_alloc (cells_below m1 b1 hsz) (.cells #[.int .i64 m.guest, .slice p0 m.root.length q0, .slice p1 m.slots.length q1, .slice p2 m.refs.length q2, .slice p3 m.snaps.length q3] 26)
  have nD : (w1.alloc (.cells #[.int .i64 m.guest, .slice p0 m.root.length q0, .slice p1 m.slots.length q1, .slice p2 m.refs.length q2, .slice p3 m.snaps.length q3] 26)).heap[w1.heap.size]? = some (.cells #[.int .i64 m.guest, .slice p0 m.root.length q0, .slice p1 m.slots.length q1, .slice p2 m.refs.length q2, .slice p3 m.snaps.length q3] 26) := World.alloc_heap_new _ _
  have hb2 : Below ((w.alloc (.cells #[.int .i64 m.guest, .slice (some ⟨rb, ro, none⟩) m.root.length rc, .slice sa m.slots.length sc, .slice fa m.refs.length fc, .slice na m.snaps.length nc] 26)).alloc (.cells #[.int .i64 0, .slice none 0 0, .slice none 0 0, .slice none 0 0, .slice none 0 0] 26)).heap.size ((w.alloc (.cells #[.int .i64 m.guest, .slice (some ⟨rb, ro, none⟩) m.root.length rc, .slice sa m.slots.length sc, .slice fa m.refs.length fc, .slice na m.snaps.length nc] 26)).alloc (.cells #[.int .i64 0, .slice none 0 0, .slice none 0 0, .slice none 0 0, .slice none 0 0] 26)) (w1.alloc (.cells #[.int .i64 m.guest, .slice p0 m.root.length q0, .slice p1 m.slots.length q1, .slice p2 m.refs.length q2, .slice p3 m.snaps.length q3] 26)) := b1.alloc b1.size _
  have cR := (hb2.cell (p := ⟨rb, ro + n / 4, none⟩) HR.out.2).trans HR.out.1
  have hs1 := b1.size
  refine wp_region_held_drew (S := (fun X : World => X.heap[w.heap.size]? = some (.cells #[.int .i64 m.guest, .slice (some ⟨rb, ro, none⟩) m.root.length rc, .slice sa m.slots.length sc, .slice fa m.refs.length fc, .slice na m.snaps.length nc] 26) ∧ X.cell? ⟨rb, ro + n / 4, none⟩ = some (.int .i64 (t : Int)))) (by kernel_rfl) ⟨n0, cR⟩ (fun hHeld => ?_)
  refine wpAnyH_take (i := 0) (v := .agg #[.int .i64 m.guest, .slice (some ⟨rb, ro, none⟩) m.root.length rc, .slice sa m.slots.length sc, .slice fa m.refs.length fc, .slice na m.snaps.length nc]) rfl (by kernel_rfl) (by kernel_rfl) (by kernel_rfl) (fun _ _ _ h => h) (Or.inl ⟨by rfl, fun w' hSw => by obtain ⟨qa, qb⟩ := hSw; obtain ⟨j0, j1, j2, j3, j4⟩ := five qa; go_simp⟩) hHeld ?_
  simp only [Act.put, List.getElem_toArray, List.getElem_cons_succ, List.getElem_cons_zero, List.setIfInBounds_toArray, List.set_cons_zero, List.set_cons_succ]
  refine wpAnyH_take (i := 1) (v := .pointer (some ⟨w.heap.size, 1, none⟩)) rfl (by kernel_rfl) (by kernel_rfl) (by kernel_rfl) (fun _ _ _ h => h) (Or.inl ⟨by rfl, fun w' hSw => by obtain ⟨qa, qb⟩ := hSw; obtain ⟨j0, j1, j2, j3, j4⟩ := five qa; go_simp⟩) hHeld ?_
  simp only [Act.put, List.getElem_toArray, List.getElem_cons_succ, List.getElem_cons_zero, List.setIfInBounds_toArray, List.set_cons_zero, List.set_cons_succ]
  refine wpAnyH_take (i := 2) (v := .slice (some ⟨rb, ro, none⟩) m.root.length rc) rfl (by kernel_rfl) (by kernel_rfl) (by kernel_rfl) (fun _ _ _ h => h) (Or.inl ⟨by rfl, fun w' hSw => by obtain ⟨qa, qb⟩ := hSw; obtain ⟨j0, j1, j2, j3, j4⟩ := five qa; go_simp⟩) hHeld ?_
  simp only [Act.put, List.getElem_toArray, List.getElem_cons_succ, List.getElem_cons_zero, List.setIfInBounds_toArray, List.set_cons_zero, List.set_cons_succ]
  refine wpAnyH_take (i := 3) (v := .int .i64 ((n : Int) / 4)) rfl (by kernel_rfl) (by kernel_rfl) (by kernel_rfl) (fun _ _ _ h => h) (Or.inl ⟨by rfl, fun w' hSw => by obtain ⟨qa, qb⟩ := hSw; obtain ⟨j0, j1, j2, j3, j4⟩ := five qa; go_simp⟩) hHeld ?_
  simp only [Act.put, List.getElem_toArray, List.getElem_cons_succ, List.getElem_cons_zero, List.setIfInBounds_toArray, List.set_cons_zero, List.set_cons_succ]
  refine wpAnyH_take (i := 4) (v := .pointer (some ⟨rb, ro + n / 4, none⟩)) rfl (by kernel_rfl) (by kernel_rfl) (by kernel_rfl) (fun _ _ _ h => h) (Or.inl ⟨by rfl, fun w' hSw => by obtain ⟨qa, qb⟩ := hSw; obtain ⟨j0, j1, j2, j3, j4⟩ := five qa; go_simp⟩) hHeld ?_
  simp only [Act.put, List.getElem_toArray, List.getElem_cons_succ, List.getElem_cons_zero, List.setIfInBounds_toArray, List.set_cons_zero, List.set_cons_succ]
  refine wpAnyH_take (i := 5) (v := .int .i64 (t : Int)) rfl (by kernel_rfl) (by kernel_rfl) (by kernel_rfl) (fun _ _ _ h => h) (Or.inl ⟨by rfl, fun w' hSw => by obtain ⟨qa, qb⟩ := hSw; obtain ⟨j0, j1, j2, j3, j4⟩ := five qa; go_simp⟩) hHeld ?_
  simp only [Act.put, List.getElem_toArray, List.getElem_cons_succ, List.getElem_cons_zero, List.setIfInBounds_toArray, List.set_cons_zero, List.set_cons_succ]
  refine wpAnyH_ready (rs := [6]) (by kernel_rfl) (by simp) ?_
  refine AllReadyH.cons rfl (fun K hK => ?_) AllReadyH.nil
  clear hHeld
  simp only [Act.put, List.getElem_toArray, List.getElem_cons_succ, List.getElem_cons_zero, List.setIfInBounds_toArray, List.set_cons_zero, List.set_cons_succ]
  rw [if_pos (by rfl)]
  go_wp2_with (go_at_call 63; refine (HT.out _ (to_drew hb2)).mono ?_; rintro e2 w3 ⟨g, cap, rfl, hev, hge, b3⟩)
  have b3' : Below (w1.alloc (.cells #[.int .i64 m.guest, .slice p0 m.root.length q0, .slice p1 m.slots.length q1, .slice p2 m.refs.length q2, .slice p3 m.snaps.length q3] 26)).heap.size (w1.alloc (.cells #[.int .i64 m.guest, .slice p0 m.root.length q0, .slice p1 m.slots.length q1, .slice p2 m.refs.length q2, .slice p3 m.snaps.length q3] 26)) w3 := below_drew b3
  have hge' : w1.heap.size + 1 ≤ g := by have : (w1.alloc (.cells #[.int .i64 m.guest, .slice p0 m.root.length q0, .slice p1 m.slots.length q1, .slice p2 m.refs.length q2, .slice p3 m.snaps.length q3] 26)).heap.size ≤ g := hge; simpa using this
  have hz2 : (w1.alloc (.cells #[.int .i64 m.guest, .slice p0 m.root.length q0, .slice p1 m.slots.length q1, .slice p2 m.refs.length q2, .slice p3 m.snaps.length q3] 26)).heap.size = w1.heap.size + 1 := by simp
  have k0 := cells_below n0 b3' (by omega)
  have k1 := cells_below n1 b3' (by omega)
  have kD := cells_below nD b3' (by omega)
  have cR3 := (b3'.cell (p := ⟨rb, ro + n / 4, none⟩) (by have := HR.out.2; show rb < _; omega)).trans cR
  have hO3 : OX w3 ((w.alloc (.cells #[.int .i64 m.guest, .slice (some ⟨rb, ro, none⟩) m.root.length rc, .slice sa m.slots.length sc, .slice fa m.refs.length fc, .slice na m.snaps.length nc] 26)).alloc (.cells #[.int .i64 0, .slice none 0 0, .slice none 0 0, .slice none 0 0, .slice none 0 0] 26)).heap.size val m := (hO.alloc _).below b3'
  refine hK.out _ _ ⟨k0, cR3⟩ (fun hHeld => ?_)
  clear hK K
  try simp only [Act.put, List.getElem_toArray, List.getElem_cons_succ, List.getElem_cons_zero, List.setIfInBounds_toArray, List.set_cons_zero, List.set_cons_succ]
  refine wpAnyH_take (i := 7) (v := .slice (some ⟨g, 0, none⟩) 4 cap) rfl (by kernel_rfl) (by kernel_rfl) (by kernel_rfl) (fun _ _ _ h => h) (Or.inl ⟨by rfl, fun w' hSw => by go_simp⟩) hHeld ?_
  simp only [Act.put, List.getElem_toArray, List.getElem_cons_succ, List.getElem_cons_zero, List.setIfInBounds_toArray, List.set_cons_zero, List.set_cons_succ]
  clear hHeld
  refine wpAnyH_done (by kernel_rfl) ?_ _
  have hev : w3.ownsRow (w1.heap.size + 1) 3 1 (.slice (some ⟨g, 0, none⟩) 4 cap) 4 (ints (tableO m (n / 4))) := row_mono hev (by show w1.heap.size + 1 ≤ (w1.alloc (.cells #[.int .i64 m.guest, .slice p0 m.root.length q0, .slice p1 m.slots.length q1, .slice p2 m.refs.length q2, .slice p3 m.snaps.length q3] 26)).heap.size; omega)
  have hce : w3.cell? ⟨g, n % 4, none⟩ = some (.int .i64 x) := by
    refine (hev.cellAt (n % 4) (by omega)).trans ?_
    unfold ints
    rw [List.getElem?_map, List.getElem?_eq_getElem (by rw [hlen]; exact h4), ← hx]
    simp [List.getD, hlen, h4]
  obtain ⟨c0, c1, c2, c3, c4⟩ := five k0
  obtain ⟨d0, d1, d2, d3, d4⟩ := five kD
  obtain ⟨z0, z1, z2, z3, z4⟩ := five k1
  have y0 := cells_frozen k1 0; have y1 := cells_frozen k1 1; have y2 := cells_frozen k1 2; have y3 := cells_frozen k1 3; have y4 := cells_frozen k1 4
  have HO : Hid (OX w3 ((w.alloc (.cells #[.int .i64 m.guest, .slice (some ⟨rb, ro, none⟩) m.root.length rc, .slice sa m.slots.length sc, .slice fa m.refs.length fc, .slice na m.snaps.length nc] 26)).alloc (.cells #[.int .i64 0, .slice none 0 0, .slice none 0 0, .slice none 0 0, .slice none 0 0] 26)).heap.size val m ∧ Below ((w.alloc (.cells #[.int .i64 m.guest, .slice (some ⟨rb, ro, none⟩) m.root.length rc, .slice sa m.slots.length sc, .slice fa m.refs.length fc, .slice na m.snaps.length nc] 26)).alloc (.cells #[.int .i64 0, .slice none 0 0, .slice none 0 0, .slice none 0 0, .slice none 0 0] 26)).heap.size ((w.alloc (.cells #[.int .i64 m.guest, .slice (some ⟨rb, ro, none⟩) m.root.length rc, .slice sa m.slots.length sc, .slice fa m.refs.length fc, .slice na m.snaps.length nc] 26)).alloc (.cells #[.int .i64 0, .slice none 0 0, .slice none 0 0, .slice none 0 0, .slice none 0 0] 26)) w3 ∧ w3.heap[w.heap.size + 1]? = some (.cells #[.int .i64 0, .slice none 0 0, .slice none 0 0, .slice none 0 0, .slice none 0 0] 26) ∧ w3.heap[w1.heap.size]? = some (.cells #[.int .i64 m.guest, .slice p0 m.root.length q0, .slice p1 m.slots.length q1, .slice p2 m.refs.length q2, .slice p3 m.snaps.length q3] 26) ∧ w1.heap.size + 1 ≤ w3.heap.size ∧ ((w.alloc (.cells #[.int .i64 m.guest, .slice (some ⟨rb, ro, none⟩) m.root.length rc, .slice sa m.slots.length sc, .slice fa m.refs.length fc, .slice na m.snaps.length nc] 26)).alloc (.cells #[.int .i64 0, .slice none 0 0, .slice none 0 0, .slice none 0 0, .slice none 0 0] 26)).heap.size ≤ w1.heap.size) := ⟨hO3, hb2.trans (b3'.mono (by omega)), k1, kD, by have := b3'.size; omega, hs1⟩
  have hev5 := hev.frozenAt (n % 4)
  have HE : Hid (w3.ownsRow (w1.heap.size + 1) 3 1 (.slice (some ⟨g, 0, none⟩) 4 cap) 4 (ints (tableO m (n / 4)))) := hev
  have HX : Hid (val .root = .slice p0 m.root.length q0 ∧ val .slots = .slice p1 m.slots.length q1 ∧ val .refs = .slice p2 m.refs.length q2 ∧ val .snaps = .slice p3 m.snaps.length q3) := ⟨x0, x1, x2, x3⟩
  have HLT : Hid (∀ a, LiveX m a → ∀ q, (val a).ownBlock = some q → q < w1.heap.size) := fun a ha q hq => ((hO.row a ha).lt q hq).2
  have HB : Hid (Below w.heap.size w w3) := b0.trans ((hb2.trans (b3'.mono (by omega))).mono (by omega))
  clear hev hO3 hO hown b1 b3 b3' hb2 cR cR3 k0 k1 kD n0 n1 nD m0 m1 HT HR hge b0 x0 x1 x2 x3 hlen hx
  have hgd : g ≠ w1.heap.size := by omega
  have hgr : g ≠ w.heap.size + 1 := by have := HO.out.2.2.2.2.2; omega
  have hgl : g < w3.heap.size := (HE.out.lt g rfl).2
  have kD4 := cells_other HO.out.2.2.2.1 (show w1.heap.size ≠ g from fun x => hgd x.symm) (n % 4) (.int .i64 e)
  have k14 := cells_other HO.out.2.2.1 (show w.heap.size + 1 ≠ g from fun x => hgr x.symm) (n % 4) (.int .i64 e)
  have hO4 : OX (w3.setCell ⟨g, n % 4, none⟩ (.int .i64 e)) ((w.alloc (.cells #[.int .i64 m.guest, .slice (some ⟨rb, ro, none⟩) m.root.length rc, .slice sa m.slots.length sc, .slice fa m.refs.length fc, .slice na m.snaps.length nc] 26)).alloc (.cells #[.int .i64 0, .slice none 0 0, .slice none 0 0, .slice none 0 0, .slice none 0 0] 26)).heap.size val m := HO.out.1.far (fun a ha x => by have := HLT.out a ha g x; omega)
  have hsz4 : (w3.setCell ⟨g, n % 4, none⟩ (.int .i64 e)).heap.size = w3.heap.size := by simp
  have he4 : (w3.setCell ⟨g, n % 4, none⟩ (.int .i64 e)).ownsRow ((w.alloc (.cells #[.int .i64 m.guest, .slice (some ⟨rb, ro, none⟩) m.root.length rc, .slice sa m.slots.length sc, .slice fa m.refs.length fc, .slice na m.snaps.length nc] 26)).alloc (.cells #[.int .i64 0, .slice none 0 0, .slice none 0 0, .slice none 0 0, .slice none 0 0] 26)).heap.size 3 1 (.slice (some ⟨g, 0, none⟩) 4 cap) ((tableO m (n / 4)).set (n % 4) e).length (ints ((tableO m (n / 4)).set (n % 4) e)) := by
    have h1 := (HE.out.stored (n % 4) (.int .i64 e)).1
    rw [← ints_set] at h1
    have h2 := row_mono h1 (B' := ((w.alloc (.cells #[.int .i64 m.guest, .slice (some ⟨rb, ro, none⟩) m.root.length rc, .slice sa m.slots.length sc, .slice fa m.refs.length fc, .slice na m.snaps.length nc] 26)).alloc (.cells #[.int .i64 0, .slice none 0 0, .slice none 0 0, .slice none 0 0, .slice none 0 0] 26)).heap.size) (by have := HO.out.2.2.2.2.2; omega)
    rw [List.length_set, HT4.out]
    exact h2
  have HK : Hid (Calls Try.prog 70 #[.agg #[.int .i64 m.guest, .slice p0 m.root.length q0, .slice p1 m.slots.length q1, .slice p2 m.refs.length q2, .slice p3 m.snaps.length q3], .int .i64 ((n : Int) / 4), .slice (some ⟨g, 0, none⟩) 4 cap] (w3.setCell ⟨g, n % 4, none⟩ (.int .i64 e)) (fun r w' => ∃ val', r = .returned (.tuple #[imgV m.guest val', .bool true]) ∧ OX w' ((w.alloc (.cells #[.int .i64 m.guest, .slice (some ⟨rb, ro, none⟩) m.root.length rc, .slice sa m.slots.length sc, .slice fa m.refs.length fc, .slice na m.snaps.length nc] 26)).alloc (.cells #[.int .i64 0, .slice none 0 0, .slice none 0 0, .slice none 0 0, .slice none 0 0] 26)).heap.size val' TM ∧ Below ((w.alloc (.cells #[.int .i64 m.guest, .slice (some ⟨rb, ro, none⟩) m.root.length rc, .slice sa m.slots.length sc, .slice fa m.refs.length fc, .slice na m.snaps.length nc] 26)).alloc (.cells #[.int .i64 0, .slice none 0 0, .slice none 0 0, .slice none 0 0, .slice none 0 0] 26)).heap.size (w3.setCell ⟨g, n % 4, none⟩ (.int .i64 e)) w' ∧ KeepX (w3.setCell ⟨g, n % 4, none⟩ (.int .i64 e)) w' m val ∧ SrcX (w3.setCell ⟨g, n % 4, none⟩ (.int .i64 e)) m val (.slice (some ⟨g, 0, none⟩) 4 cap) TM val')) := by
    have hc := tabledX_is m.guest (k := n / 4) hO4 (by have := HO.out.2.1.size; omega) hr HT1.out htl he4 (fun a b hb _ q hq x => by have := HLT.out b hb q x; have hq : g = q := Option.some.inj hq; omega) HT2.out.1 HT2.out.2
    rw [e4] at hc
    unfold imgV at hc
    rw [HX.out.1, HX.out.2.1, HX.out.2.2.1, HX.out.2.2.2] at hc
    exact hc.mono (fun r w' hh => by rw [HTM.out] at hh; rcases hh with ⟨h1, h2, _⟩ | ⟨_, hok⟩; (exact absurd ⟨h1, h2⟩ hnf); exact hok)
  have nD1 : ¬ w1.heap.size = w.heap.size + 1 := by have := HO.out.2.2.2.2.2; omega
  have nD2 : ¬ w.heap.size + 1 = w1.heap.size := by omega
  have gg1 : ¬ g = w1.heap.size := hgd
  have gg2 : ¬ w1.heap.size = g := fun x => hgd x.symm
  have gg3 : ¬ g = w.heap.size + 1 := hgr
  have gg4 : ¬ w.heap.size + 1 = g := fun x => hgr x.symm
  go_wp2_with (first
    | (go_at_call 64; refine (HCt.out _ _ _ _ _).mono ?_; rintro e3 w7 ⟨val2, rfl, hO7, b7, k7, s7⟩; obtain ⟨u0, v0, u1, v1, u2, v2, u3, v3, j0, j1, j2, j3⟩ := hO7.four'; have k17 := (k7 (w.heap.size + 1) (by simp; have := HZ5.out; omega) (fun a ha x => by have := ((HO5.out.row a ha).lt _ x).1; omega)).trans ((heap_five _ _ _ _ _ _ nD2).trans HK15.out); obtain ⟨z0, z1, z2, z3, z4⟩ := five k17; have y0 := cells_frozen k17 0; have y1 := cells_frozen k17 1; have y2 := cells_frozen k17 2; have y3 := cells_frozen k17 3; have y4 := cells_frozen k17 4; unfold imgV; rw [j0, j1, j2, j3])
    | (go_at_call 70; refine HK.out.mono ?_; rintro e2 w5 ⟨val1, rfl, hO5, b5, k5, s5⟩; obtain ⟨a0, c0, a1, c1, a2, c2, a3, c3, i0, i1, i2, i3⟩ := hO5.four'; have kD5 := (k5 w1.heap.size (by have := HO.out.2.2.2.2.1; omega) (fun a ha x => by have := HLT.out a ha _ x; omega)).trans kD4; have k15 := (k5 (w.heap.size + 1) (by have := HO.out.2.2.2.2.1; have := HO.out.2.2.2.2.2; omega) (fun a ha x => by have := ((HO.out.1.row a ha).lt _ x).1; omega)).trans k14; obtain ⟨f0, f1, f2, f3, f4⟩ := five kD5; have ff0 := cells_frozen kD5 0; have ff1 := cells_frozen kD5 1; have ff2 := cells_frozen kD5 2; have ff3 := cells_frozen kD5 3; have ff4 := cells_frozen kD5 4; have HK15 : Hid (w5.heap[w.heap.size + 1]? = some (.cells #[.int .i64 0, .slice none 0 0, .slice none 0 0, .slice none 0 0, .slice none 0 0] 26)) := k15; have HO5 : Hid (OX w5 ((w.alloc (.cells #[.int .i64 m.guest, .slice (some ⟨rb, ro, none⟩) m.root.length rc, .slice sa m.slots.length sc, .slice fa m.refs.length fc, .slice na m.snaps.length nc] 26)).alloc (.cells #[.int .i64 0, .slice none 0 0, .slice none 0 0, .slice none 0 0, .slice none 0 0] 26)).heap.size val1 TM) := hO5; have hz5 := b5.size; have HZ5 : Hid (w.heap.size + 1 < w5.heap.size) := (by have := HO.out.2.2.2.2.1; have := HO.out.2.2.2.2.2; show w.heap.size + 1 < w5.heap.size; omega); have hfD : ∀ a, LiveX TM a → (val1 a).ownBlock ≠ some w1.heap.size := s5 w1.heap.size (by have := HO.out.2.2.2.2.1; omega) (fun x => hgd (Option.some.inj x)) (fun b hb x => by have := HLT.out b hb _ x; omega); have HCt : Hid (∀ x0 x1 x2 x3 x4, Calls Try.prog 64 #[.agg #[.int .i64 m.guest, .slice a0 TM.root.length c0, .slice a1 TM.slots.length c1, .slice a2 TM.refs.length c2, .slice a3 TM.snaps.length c3]] (((((w5.setCell ⟨w1.heap.size, 0, none⟩ x0).setCell ⟨w1.heap.size, 1, none⟩ x1).setCell ⟨w1.heap.size, 2, none⟩ x2).setCell ⟨w1.heap.size, 3, none⟩ x3).setCell ⟨w1.heap.size, 4, none⟩ x4) fun r w' => ∃ val', r = .returned (imgV m.guest val') ∧ OX w' ((w.alloc (.cells #[.int .i64 m.guest, .slice (some ⟨rb, ro, none⟩) m.root.length rc, .slice sa m.slots.length sc, .slice fa m.refs.length fc, .slice na m.snaps.length nc] 26)).alloc (.cells #[.int .i64 0, .slice none 0 0, .slice none 0 0, .slice none 0 0, .slice none 0 0] 26)).heap.size val' (countedD TM) ∧ Below ((w.alloc (.cells #[.int .i64 m.guest, .slice (some ⟨rb, ro, none⟩) m.root.length rc, .slice sa m.slots.length sc, .slice fa m.refs.length fc, .slice na m.snaps.length nc] 26)).alloc (.cells #[.int .i64 0, .slice none 0 0, .slice none 0 0, .slice none 0 0, .slice none 0 0] 26)).heap.size (((((w5.setCell ⟨w1.heap.size, 0, none⟩ x0).setCell ⟨w1.heap.size, 1, none⟩ x1).setCell ⟨w1.heap.size, 2, none⟩ x2).setCell ⟨w1.heap.size, 3, none⟩ x3).setCell ⟨w1.heap.size, 4, none⟩ x4) w' ∧ KeepX (((((w5.setCell ⟨w1.heap.size, 0, none⟩ x0).setCell ⟨w1.heap.size, 1, none⟩ x1).setCell ⟨w1.heap.size, 2, none⟩ x2).setCell ⟨w1.heap.size, 3, none⟩ x3).setCell ⟨w1.heap.size, 4, none⟩ x4) w' TM val1 ∧ SrcX (((((w5.setCell ⟨w1.heap.size, 0, none⟩ x0).setCell ⟨w1.heap.size, 1, none⟩ x1).setCell ⟨w1.heap.size, 2, none⟩ x2).setCell ⟨w1.heap.size, 3, none⟩ x3).setCell ⟨w1.heap.size, 4, none⟩ x4) TM val1 (.slice none 0 0) (countedD TM) val') := (fun x0 x1 x2 x3 x4 => by have hc := countedX_is (hO5.five hfD x0 x1 x2 x3 x4) (by simp; have := HO.out.2.1.size; omega) HSh.out; rw [HGd.out] at hc; unfold imgV at hc; rw [i0, i1, i2, i3] at hc; exact hc); unfold imgV; rw [i0, i1, i2, i3]))
  have hfr : ∀ a, LiveX (countedD TM) a → (val2 a).ownBlock ≠ some (w.heap.size + 1) := fun a ha x => by
    have := ((hO7.row a ha).lt _ x).1
    omega
  have hI := fun x0 x1 x2 x3 x4 => hO7.five hfr x0 x1 x2 x3 x4
  have eG : (countedD TM).guest = m.guest := HGd.out
  have eI : imgV (countedD TM).guest val2 = .agg #[.int .i64 m.guest, .slice u0 (countedD TM).root.length v0, .slice u1 (countedD TM).slots.length v1, .slice u2 (countedD TM).refs.length v2, .slice u3 (countedD TM).snaps.length v3] := by unfold imgV; rw [j0, j1, j2, j3, eG]
  have hB5 : Below w.heap.size w w5 := (HB.out.setCell (p := ⟨g, n % 4, none⟩) (show w.heap.size ≤ g by have := HO.out.2.2.2.2.2; omega) _).trans (b5.mono (by omega))
  have hD0 : w.heap.size ≤ w1.heap.size := by have := HO.out.2.2.2.2.2; omega
  have hB7 := fun x0 x1 x2 x3 x4 => below_five hB5 hD0 x0 x1 x2 x3 x4
  have hB8 : Below w.heap.size w w7 := (hB7 _ _ _ _ _).trans (b7.mono (by omega))
  refine bodyPost_ret (v := .tuple #[.agg #[.int .i64 m.guest, .slice u0 (countedD TM).root.length v0, .slice u1 (countedD TM).slots.length v1, .slice u2 (countedD TM).refs.length v2, .slice u3 (countedD TM).snaps.length v3], .int .i64 0]) (by simp [results, Try.results66, go_sem, z0, z1, z2, z3, z4]) rfl ⟨u0, v0, u1, v1, u2, v2, u3, v3, by rw [eG], fun W' hW => (by have := ((hI _ _ _ _ _).keep (fun q hq _ => hW q (by omega))).img; rw [eI] at this; rw [eG]; exact this), below_five hB8 (Nat.le_succ _) _ _ _ _ _⟩

theorem putOf_is {w : World} {v : Value} {m : ImgD} (h : Img w v m) (hC : checkE m = 0) {n : Nat} (hn : (n : Int) < m.guest) {e : Int} (he : e = 0 ∨ e = -1) :
    Calls Try.prog 66 #[v, .int .i64 (n : Int), .int .i64 e] w (AnsJ w ((putD m n e).getD imgZ) (errO (putD m n e))) := by
  have h' := h
  obtain ⟨ra, rc, sa, sc, fa, fc, na, nc, rfl, _⟩ := h.parts
  have hs := checkE_shape hC
  have hgt := guest_ok hs
  have hrt := root_ok hs
  have hr : n / 4 < m.root.length := by omega
  obtain ⟨ao, cap, ev, _, _, hcell⟩ := h'.four.1
  obtain ⟨rb, ro, rfl, hrl, hrc⟩ := hcell (by intro x; rw [x] at hr; simp at hr)
  simp only [Value.slice.injEq] at ev
  obtain ⟨rfl, _, rfl⟩ := ev
  by_cases hx : (tableO m (n / 4)).getD (n % 4) 0 = e
  · have e1 : putD m n e = some m := by unfold putD; rw [if_pos hx]
    rw [e1]
    exact putOf_same rb ro _ sa sc fa fc na nc m n e w h' hrc hrl hC hn _ rfl (beq_iff_eq.2 hx)
  · obtain ⟨ock, oent⟩ := tableO_ok hs hr
    have hes : ckE ((tableO m (n / 4)).set (n % 4) e) = 0 := set_ck ock (by rcases he with rfl | rfl <;> rfl)
    have hents : ∀ x ∈ (tableO m (n / 4)).set (n % 4) e, tabE m.slots x = true := fun x hx => by
      rcases mem_set hx with hx | rfl
      · exact oent x hx
      · rcases he with rfl | rfl <;> rfl
    have hz := tail_set (tableO_tail hs _) hn rfl hrt.1 e
    by_cases hf : (bareL ((tableO m (n / 4)).set (n % 4) e) = false ∧ tabN m (n / 4) = 40)
    · have e1 : putD m n e = none := by unfold putD tabledD; rw [if_neg hx, if_neg (by rw [hf.1]; decide), if_pos hf.2]; rfl
      rw [e1]
      exact putOf_full rb ro _ sa sc fa fc na nc m n e w h' hrc hrl hC hn _ rfl (beq_eq_false_iff_ne.2 hx) hf
    · obtain ⟨hsh, M, hM, hcd⟩ := tabledM_facts hC hr hes hents hz hf
      have e1 : putD m n e = some (countedD (tabledM m (n / 4) ((tableO m (n / 4)).set (n % 4) e))) := by unfold putD; rw [if_neg hx, hM, Option.map_some, hcd]
      rw [e1]
      exact putOf_ok rb ro _ sa sc fa fc na nc m n e w h' hrc hrl hC hn _ rfl (beq_eq_false_iff_ne.2 hx) hf _ rfl hsh

set_option maxHeartbeats 4000000 in
theorem wipeOf_bad (ra : Option Addr) (rc : Nat) (sa : Option Addr) (sc : Nat) (fa : Option Addr) (fc : Nat) (na : Option Addr) (nc : Nat) (m : ImgD) (n : Int) (w : World) (h : Img w (.agg #[.int .i64 m.guest, .slice ra m.root.length rc, .slice sa m.slots.length sc, .slice fa m.refs.length fc, .slice na m.snaps.length nc]) m) (E : Int) (hE : lookE m n = E) (hne : (E != 0) = true) :
    Calls Try.prog 32 #[.agg #[.int .i64 m.guest, .slice ra m.root.length rc, .slice sa m.slots.length sc, .slice fa m.refs.length fc, .slice na m.snaps.length nc], .int .i64 n] w (AnsJ w imgZ E) := by
  have b0 : Below w.heap.size w ((w.alloc (.cells #[.int .i64 m.guest, .slice ra m.root.length rc, .slice sa m.slots.length sc, .slice fa m.refs.length fc, .slice na m.snaps.length nc] 26)).alloc (.cells #[.int .i64 0, .slice none 0 0, .slice none 0 0, .slice none 0 0, .slice none 0 0] 26)) := ((Below.refl _ _).alloc (Nat.le_refl _) _).alloc (by simp) _
  have m0 : ((w.alloc (.cells #[.int .i64 m.guest, .slice ra m.root.length rc, .slice sa m.slots.length sc, .slice fa m.refs.length fc, .slice na m.snaps.length nc] 26)).alloc (.cells #[.int .i64 0, .slice none 0 0, .slice none 0 0, .slice none 0 0, .slice none 0 0] 26)).heap[w.heap.size]? = some (.cells #[.int .i64 m.guest, .slice ra m.root.length rc, .slice sa m.slots.length sc, .slice fa m.refs.length fc, .slice na m.snaps.length nc] 26) := cells_alloc (World.alloc_heap_new _ _) _
  have m1 : ((w.alloc (.cells #[.int .i64 m.guest, .slice ra m.root.length rc, .slice sa m.slots.length sc, .slice fa m.refs.length fc, .slice na m.snaps.length nc] 26)).alloc (.cells #[.int .i64 0, .slice none 0 0, .slice none 0 0, .slice none 0 0, .slice none 0 0] 26)).heap[w.heap.size + 1]? = some (.cells #[.int .i64 0, .slice none 0 0, .slice none 0 0, .slice none 0 0, .slice none 0 0] 26) := by have := World.alloc_heap_new (w.alloc (.cells #[.int .i64 m.guest, .slice ra m.root.length rc, .slice sa m.slots.length sc, .slice fa m.refs.length fc, .slice na m.snaps.length nc] 26)) (.cells #[.int .i64 0, .slice none 0 0, .slice none 0 0, .slice none 0 0, .slice none 0 0] 26); simpa using this
  have hsz : w.heap.size + 1 < ((w.alloc (.cells #[.int .i64 m.guest, .slice ra m.root.length rc, .slice sa m.slots.length sc, .slice fa m.refs.length fc, .slice na m.snaps.length nc] 26)).alloc (.cells #[.int .i64 0, .slice none 0 0, .slice none 0 0, .slice none 0 0, .slice none 0 0] 26)).heap.size := by simp
  obtain ⟨c0, c1, c2, c3, c4⟩ := five m0
  have hlk := lookErr_is (h.below b0) n hE
  clear h hE
  go_enter Try.func32, Try.ntmps32
  go_wp2_with (go_at_call 17; refine hlk.mono ?_; rintro e1 w1 ⟨rfl, b1⟩; have n0 := cells_below m0 b1 (by omega); have n1 := cells_below m1 b1 hsz; obtain ⟨d0, d1, d2, d3, d4⟩ := five n0; obtain ⟨z0, z1, z2, z3, z4⟩ := five n1; have y0 := cells_frozen n1 0; have y1 := cells_frozen n1 1; have y2 := cells_frozen n1 2; have y3 := cells_frozen n1 3; have y4 := cells_frozen n1 4)
  refine bodyPost_ret (v := .tuple #[.agg #[.int .i64 0, .slice none 0 0, .slice none 0 0, .slice none 0 0, .slice none 0 0], .int .i64 E]) (by simp [results, Try.results32, go_sem, z0, z1, z2, z3, z4]) rfl ⟨none, 0, none, 0, none, 0, none, 0, rfl, fun W' _ => imgZ_im W', below_five (Below.on b0 b1) (Nat.le_succ _) _ _ _ _ _⟩
set_option maxHeartbeats 4000000 in
theorem wipeOf_ok (ra : Option Addr) (rc : Nat) (sa : Option Addr) (sc : Nat) (fa : Option Addr) (fc : Nat) (na : Option Addr) (nc : Nat) (m : ImgD) (n : Nat) (w : World) (h : Img w (.agg #[.int .i64 m.guest, .slice ra m.root.length rc, .slice sa m.slots.length sc, .slice fa m.refs.length fc, .slice na m.snaps.length nc]) m) (hE : lookE m (n : Int) = 0) (M : ImgD) (E : Int) (hM : (putD m n (-1)).getD imgZ = M) (hEr : errO (putD m n (-1)) = E) :
    Calls Try.prog 32 #[.agg #[.int .i64 m.guest, .slice ra m.root.length rc, .slice sa m.slots.length sc, .slice fa m.refs.length fc, .slice na m.snaps.length nc], .int .i64 (n : Int)] w (AnsJ w M E) := by
  have b0 : Below w.heap.size w ((w.alloc (.cells #[.int .i64 m.guest, .slice ra m.root.length rc, .slice sa m.slots.length sc, .slice fa m.refs.length fc, .slice na m.snaps.length nc] 26)).alloc (.cells #[.int .i64 0, .slice none 0 0, .slice none 0 0, .slice none 0 0, .slice none 0 0] 26)) := ((Below.refl _ _).alloc (Nat.le_refl _) _).alloc (by simp) _
  have m0 : ((w.alloc (.cells #[.int .i64 m.guest, .slice ra m.root.length rc, .slice sa m.slots.length sc, .slice fa m.refs.length fc, .slice na m.snaps.length nc] 26)).alloc (.cells #[.int .i64 0, .slice none 0 0, .slice none 0 0, .slice none 0 0, .slice none 0 0] 26)).heap[w.heap.size]? = some (.cells #[.int .i64 m.guest, .slice ra m.root.length rc, .slice sa m.slots.length sc, .slice fa m.refs.length fc, .slice na m.snaps.length nc] 26) := cells_alloc (World.alloc_heap_new _ _) _
  have m1 : ((w.alloc (.cells #[.int .i64 m.guest, .slice ra m.root.length rc, .slice sa m.slots.length sc, .slice fa m.refs.length fc, .slice na m.snaps.length nc] 26)).alloc (.cells #[.int .i64 0, .slice none 0 0, .slice none 0 0, .slice none 0 0, .slice none 0 0] 26)).heap[w.heap.size + 1]? = some (.cells #[.int .i64 0, .slice none 0 0, .slice none 0 0, .slice none 0 0, .slice none 0 0] 26) := by have := World.alloc_heap_new (w.alloc (.cells #[.int .i64 m.guest, .slice ra m.root.length rc, .slice sa m.slots.length sc, .slice fa m.refs.length fc, .slice na m.snaps.length nc] 26)) (.cells #[.int .i64 0, .slice none 0 0, .slice none 0 0, .slice none 0 0, .slice none 0 0] 26); simpa using this
  have hsz : w.heap.size + 1 < ((w.alloc (.cells #[.int .i64 m.guest, .slice ra m.root.length rc, .slice sa m.slots.length sc, .slice fa m.refs.length fc, .slice na m.snaps.length nc] 26)).alloc (.cells #[.int .i64 0, .slice none 0 0, .slice none 0 0, .slice none 0 0, .slice none 0 0] 26)).heap.size := by simp
  obtain ⟨c0, c1, c2, c3, c4⟩ := five m0
  have hlk := lookErr_is (h.below b0) (n : Int) hE
  have HP : Hid (∀ w1, Below ((w.alloc (.cells #[.int .i64 m.guest, .slice ra m.root.length rc, .slice sa m.slots.length sc, .slice fa m.refs.length fc, .slice na m.snaps.length nc] 26)).alloc (.cells #[.int .i64 0, .slice none 0 0, .slice none 0 0, .slice none 0 0, .slice none 0 0] 26)).heap.size ((w.alloc (.cells #[.int .i64 m.guest, .slice ra m.root.length rc, .slice sa m.slots.length sc, .slice fa m.refs.length fc, .slice na m.snaps.length nc] 26)).alloc (.cells #[.int .i64 0, .slice none 0 0, .slice none 0 0, .slice none 0 0, .slice none 0 0] 26)) w1 → Calls Try.prog 66 #[.agg #[.int .i64 m.guest, .slice ra m.root.length rc, .slice sa m.slots.length sc, .slice fa m.refs.length fc, .slice na m.snaps.length nc], .int .i64 (n : Int), .int .i64 (-1)] w1 (AnsJ w1 M E)) := fun w1 b1 => by
    have hl := lookE_prt hE
    rw [← hM, ← hEr]
    exact putOf_is ((h.below b0).below b1) hl.1 hl.2.2 (by decide)
  clear h hE hM hEr
  go_enter Try.func32, Try.ntmps32
  go_wp2_with (first
    | (go_at_call 66; refine (HP.out w1 b1).mono ?_; rintro e2 w2 ⟨a0, r0, a1, r1, a2, r2, a3, r3, rfl, hst, b2⟩; have n12 := cells_below n1 b2 (by have := b1.size; omega); obtain ⟨z0, z1, z2, z3, z4⟩ := five n12; have y0 := cells_frozen n12 0; have y1 := cells_frozen n12 1; have y2 := cells_frozen n12 2; have y3 := cells_frozen n12 3; have y4 := cells_frozen n12 4)
    | (go_at_call 17; refine hlk.mono ?_; rintro e1 w1 ⟨rfl, b1⟩; have n0 := cells_below m0 b1 (by omega); have n1 := cells_below m1 b1 hsz; obtain ⟨d0, d1, d2, d3, d4⟩ := five n0; obtain ⟨z0, z1, z2, z3, z4⟩ := five n1; have y0 := cells_frozen n1 0; have y1 := cells_frozen n1 1; have y2 := cells_frozen n1 2; have y3 := cells_frozen n1 3; have y4 := cells_frozen n1 4))
  have hs1 := b1.size
  refine bodyPost_ret (v := .tuple #[.agg #[.int .i64 M.guest, .slice a0 M.root.length r0, .slice a1 M.slots.length r1, .slice a2 M.refs.length r2, .slice a3 M.snaps.length r3], .int .i64 E]) (by simp [results, Try.results32, go_sem, z0, z1, z2, z3, z4]) rfl ⟨a0, r0, a1, r1, a2, r2, a3, r3, rfl, fun W' hW => hst W' (fun q hq => (hW q (by omega)).trans (heap_five _ _ _ _ _ q (by omega))), below_five (Below.on (Below.on b0 b1) b2) (Nat.le_succ _) _ _ _ _ _⟩
theorem wipeOf_is {w : World} {v : Value} {m : ImgD} (h : Img w v m) (n : Int) {M : ImgD} {E : Int} (hM : puM m n (-1) = M) (hE : puE m n (-1) = E) : Calls Try.prog 32 #[v, .int .i64 n] w (AnsJ w M E) := by
  have h' := h
  obtain ⟨ra, rc, sa, sc, fa, fc, na, nc, rfl, _⟩ := h.parts
  subst hM hE
  unfold puM puE
  by_cases hl : lookE m n = 0
  · rw [if_pos hl, if_pos hl]
    obtain ⟨k, rfl⟩ := Int.eq_ofNat_of_zero_le (lookE_prt hl).2.1
    exact wipeOf_ok ra rc sa sc fa fc na nc m k w h' hl _ _ rfl rfl
  · rw [if_neg hl, if_neg hl]
    exact wipeOf_bad ra rc sa sc fa fc na nc m n w h' _ rfl (by simpa using hl)

set_option maxHeartbeats 4000000 in
theorem punchOf_bad (ra : Option Addr) (rc : Nat) (sa : Option Addr) (sc : Nat) (fa : Option Addr) (fc : Nat) (na : Option Addr) (nc : Nat) (m : ImgD) (n : Int) (w : World) (h : Img w (.agg #[.int .i64 m.guest, .slice ra m.root.length rc, .slice sa m.slots.length sc, .slice fa m.refs.length fc, .slice na m.snaps.length nc]) m) (E : Int) (hE : lookE m n = E) (hne : (E != 0) = true) :
    Calls Try.prog 33 #[.agg #[.int .i64 m.guest, .slice ra m.root.length rc, .slice sa m.slots.length sc, .slice fa m.refs.length fc, .slice na m.snaps.length nc], .int .i64 n] w (AnsJ w imgZ E) := by
  have b0 : Below w.heap.size w ((w.alloc (.cells #[.int .i64 m.guest, .slice ra m.root.length rc, .slice sa m.slots.length sc, .slice fa m.refs.length fc, .slice na m.snaps.length nc] 26)).alloc (.cells #[.int .i64 0, .slice none 0 0, .slice none 0 0, .slice none 0 0, .slice none 0 0] 26)) := ((Below.refl _ _).alloc (Nat.le_refl _) _).alloc (by simp) _
  have m0 : ((w.alloc (.cells #[.int .i64 m.guest, .slice ra m.root.length rc, .slice sa m.slots.length sc, .slice fa m.refs.length fc, .slice na m.snaps.length nc] 26)).alloc (.cells #[.int .i64 0, .slice none 0 0, .slice none 0 0, .slice none 0 0, .slice none 0 0] 26)).heap[w.heap.size]? = some (.cells #[.int .i64 m.guest, .slice ra m.root.length rc, .slice sa m.slots.length sc, .slice fa m.refs.length fc, .slice na m.snaps.length nc] 26) := cells_alloc (World.alloc_heap_new _ _) _
  have m1 : ((w.alloc (.cells #[.int .i64 m.guest, .slice ra m.root.length rc, .slice sa m.slots.length sc, .slice fa m.refs.length fc, .slice na m.snaps.length nc] 26)).alloc (.cells #[.int .i64 0, .slice none 0 0, .slice none 0 0, .slice none 0 0, .slice none 0 0] 26)).heap[w.heap.size + 1]? = some (.cells #[.int .i64 0, .slice none 0 0, .slice none 0 0, .slice none 0 0, .slice none 0 0] 26) := by have := World.alloc_heap_new (w.alloc (.cells #[.int .i64 m.guest, .slice ra m.root.length rc, .slice sa m.slots.length sc, .slice fa m.refs.length fc, .slice na m.snaps.length nc] 26)) (.cells #[.int .i64 0, .slice none 0 0, .slice none 0 0, .slice none 0 0, .slice none 0 0] 26); simpa using this
  have hsz : w.heap.size + 1 < ((w.alloc (.cells #[.int .i64 m.guest, .slice ra m.root.length rc, .slice sa m.slots.length sc, .slice fa m.refs.length fc, .slice na m.snaps.length nc] 26)).alloc (.cells #[.int .i64 0, .slice none 0 0, .slice none 0 0, .slice none 0 0, .slice none 0 0] 26)).heap.size := by simp
  obtain ⟨c0, c1, c2, c3, c4⟩ := five m0
  have hlk := lookErr_is (h.below b0) n hE
  clear h hE
  go_enter Try.func33, Try.ntmps33
  go_wp2_with (go_at_call 17; refine hlk.mono ?_; rintro e1 w1 ⟨rfl, b1⟩; have n0 := cells_below m0 b1 (by omega); have n1 := cells_below m1 b1 hsz; obtain ⟨d0, d1, d2, d3, d4⟩ := five n0; obtain ⟨z0, z1, z2, z3, z4⟩ := five n1; have y0 := cells_frozen n1 0; have y1 := cells_frozen n1 1; have y2 := cells_frozen n1 2; have y3 := cells_frozen n1 3; have y4 := cells_frozen n1 4)
  refine bodyPost_ret (v := .tuple #[.agg #[.int .i64 0, .slice none 0 0, .slice none 0 0, .slice none 0 0, .slice none 0 0], .int .i64 E]) (by simp [results, Try.results33, go_sem, z0, z1, z2, z3, z4]) rfl ⟨none, 0, none, 0, none, 0, none, 0, rfl, fun W' _ => imgZ_im W', below_five (Below.on b0 b1) (Nat.le_succ _) _ _ _ _ _⟩
set_option maxHeartbeats 4000000 in
theorem punchOf_ok (ra : Option Addr) (rc : Nat) (sa : Option Addr) (sc : Nat) (fa : Option Addr) (fc : Nat) (na : Option Addr) (nc : Nat) (m : ImgD) (n : Nat) (w : World) (h : Img w (.agg #[.int .i64 m.guest, .slice ra m.root.length rc, .slice sa m.slots.length sc, .slice fa m.refs.length fc, .slice na m.snaps.length nc]) m) (hE : lookE m (n : Int) = 0) (M : ImgD) (E : Int) (hM : (putD m n 0).getD imgZ = M) (hEr : errO (putD m n 0) = E) :
    Calls Try.prog 33 #[.agg #[.int .i64 m.guest, .slice ra m.root.length rc, .slice sa m.slots.length sc, .slice fa m.refs.length fc, .slice na m.snaps.length nc], .int .i64 (n : Int)] w (AnsJ w M E) := by
  have b0 : Below w.heap.size w ((w.alloc (.cells #[.int .i64 m.guest, .slice ra m.root.length rc, .slice sa m.slots.length sc, .slice fa m.refs.length fc, .slice na m.snaps.length nc] 26)).alloc (.cells #[.int .i64 0, .slice none 0 0, .slice none 0 0, .slice none 0 0, .slice none 0 0] 26)) := ((Below.refl _ _).alloc (Nat.le_refl _) _).alloc (by simp) _
  have m0 : ((w.alloc (.cells #[.int .i64 m.guest, .slice ra m.root.length rc, .slice sa m.slots.length sc, .slice fa m.refs.length fc, .slice na m.snaps.length nc] 26)).alloc (.cells #[.int .i64 0, .slice none 0 0, .slice none 0 0, .slice none 0 0, .slice none 0 0] 26)).heap[w.heap.size]? = some (.cells #[.int .i64 m.guest, .slice ra m.root.length rc, .slice sa m.slots.length sc, .slice fa m.refs.length fc, .slice na m.snaps.length nc] 26) := cells_alloc (World.alloc_heap_new _ _) _
  have m1 : ((w.alloc (.cells #[.int .i64 m.guest, .slice ra m.root.length rc, .slice sa m.slots.length sc, .slice fa m.refs.length fc, .slice na m.snaps.length nc] 26)).alloc (.cells #[.int .i64 0, .slice none 0 0, .slice none 0 0, .slice none 0 0, .slice none 0 0] 26)).heap[w.heap.size + 1]? = some (.cells #[.int .i64 0, .slice none 0 0, .slice none 0 0, .slice none 0 0, .slice none 0 0] 26) := by have := World.alloc_heap_new (w.alloc (.cells #[.int .i64 m.guest, .slice ra m.root.length rc, .slice sa m.slots.length sc, .slice fa m.refs.length fc, .slice na m.snaps.length nc] 26)) (.cells #[.int .i64 0, .slice none 0 0, .slice none 0 0, .slice none 0 0, .slice none 0 0] 26); simpa using this
  have hsz : w.heap.size + 1 < ((w.alloc (.cells #[.int .i64 m.guest, .slice ra m.root.length rc, .slice sa m.slots.length sc, .slice fa m.refs.length fc, .slice na m.snaps.length nc] 26)).alloc (.cells #[.int .i64 0, .slice none 0 0, .slice none 0 0, .slice none 0 0, .slice none 0 0] 26)).heap.size := by simp
  obtain ⟨c0, c1, c2, c3, c4⟩ := five m0
  have hlk := lookErr_is (h.below b0) (n : Int) hE
  have HP : Hid (∀ w1, Below ((w.alloc (.cells #[.int .i64 m.guest, .slice ra m.root.length rc, .slice sa m.slots.length sc, .slice fa m.refs.length fc, .slice na m.snaps.length nc] 26)).alloc (.cells #[.int .i64 0, .slice none 0 0, .slice none 0 0, .slice none 0 0, .slice none 0 0] 26)).heap.size ((w.alloc (.cells #[.int .i64 m.guest, .slice ra m.root.length rc, .slice sa m.slots.length sc, .slice fa m.refs.length fc, .slice na m.snaps.length nc] 26)).alloc (.cells #[.int .i64 0, .slice none 0 0, .slice none 0 0, .slice none 0 0, .slice none 0 0] 26)) w1 → Calls Try.prog 66 #[.agg #[.int .i64 m.guest, .slice ra m.root.length rc, .slice sa m.slots.length sc, .slice fa m.refs.length fc, .slice na m.snaps.length nc], .int .i64 (n : Int), .int .i64 0] w1 (AnsJ w1 M E)) := fun w1 b1 => by
    have hl := lookE_prt hE
    rw [← hM, ← hEr]
    exact putOf_is ((h.below b0).below b1) hl.1 hl.2.2 (by decide)
  clear h hE hM hEr
  go_enter Try.func33, Try.ntmps33
  go_wp2_with (first
    | (go_at_call 66; refine (HP.out w1 b1).mono ?_; rintro e2 w2 ⟨a0, r0, a1, r1, a2, r2, a3, r3, rfl, hst, b2⟩; have n12 := cells_below n1 b2 (by have := b1.size; omega); obtain ⟨z0, z1, z2, z3, z4⟩ := five n12; have y0 := cells_frozen n12 0; have y1 := cells_frozen n12 1; have y2 := cells_frozen n12 2; have y3 := cells_frozen n12 3; have y4 := cells_frozen n12 4)
    | (go_at_call 17; refine hlk.mono ?_; rintro e1 w1 ⟨rfl, b1⟩; have n0 := cells_below m0 b1 (by omega); have n1 := cells_below m1 b1 hsz; obtain ⟨d0, d1, d2, d3, d4⟩ := five n0; obtain ⟨z0, z1, z2, z3, z4⟩ := five n1; have y0 := cells_frozen n1 0; have y1 := cells_frozen n1 1; have y2 := cells_frozen n1 2; have y3 := cells_frozen n1 3; have y4 := cells_frozen n1 4))
  have hs1 := b1.size
  refine bodyPost_ret (v := .tuple #[.agg #[.int .i64 M.guest, .slice a0 M.root.length r0, .slice a1 M.slots.length r1, .slice a2 M.refs.length r2, .slice a3 M.snaps.length r3], .int .i64 E]) (by simp [results, Try.results33, go_sem, z0, z1, z2, z3, z4]) rfl ⟨a0, r0, a1, r1, a2, r2, a3, r3, rfl, fun W' hW => hst W' (fun q hq => (hW q (by omega)).trans (heap_five _ _ _ _ _ q (by omega))), below_five (Below.on (Below.on b0 b1) b2) (Nat.le_succ _) _ _ _ _ _⟩
theorem punchOf_is {w : World} {v : Value} {m : ImgD} (h : Img w v m) (n : Int) {M : ImgD} {E : Int} (hM : puM m n 0 = M) (hE : puE m n 0 = E) : Calls Try.prog 33 #[v, .int .i64 n] w (AnsJ w M E) := by
  have h' := h
  obtain ⟨ra, rc, sa, sc, fa, fc, na, nc, rfl, _⟩ := h.parts
  subst hM hE
  unfold puM puE
  by_cases hl : lookE m n = 0
  · rw [if_pos hl, if_pos hl]
    obtain ⟨k, rfl⟩ := Int.eq_ofNat_of_zero_le (lookE_prt hl).2.1
    exact punchOf_ok ra rc sa sc fa fc na nc m k w h' hl _ _ rfl rfl
  · rw [if_neg hl, if_neg hl]
    exact punchOf_bad ra rc sa sc fa fc na nc m n w h' _ rfl (by simpa using hl)
end Go.Proofs.Ytehleeibgkpjmac
/- Contract of pair: the image that every beginning looks at. -/
namespace Go.Proofs.Ytehleeibgkpjmac
open Go.RowKit Go.Shelf
set_option maxRecDepth 20000

def aaaa : ByteArray := ⟨#[97, 97, 97, 97]⟩
def bbbb : ByteArray := ⟨#[98, 98, 98, 98]⟩
def nOld : ByteArray := ⟨#[111, 108, 100]⟩

/-- The image of pair, where its second table and its Refs may have been changed. -/
def pairD (g : Int) (R T : List Int) : ImgD := ⟨g, [2, 4], [(0, ⟨#[]⟩, []), (1, aaaa, []), (2, ⟨#[]⟩, [1, 0, -1, 1]), (1, bbbb, []), (2, ⟨#[]⟩, T)], R, [(nOld, 4, [2])]⟩
structure PairW (n : Nat) (W : World) (R T : List Int) : Prop where
  root : LAt W (n + 1) [2, 4]
  ta : LAt W (n + 2) [1, 0, -1, 1]
  tb : LAt W (n + 3) T
  slots : W.heap[n + 4]? = some (.cells #[.int .i64 0, .string ⟨#[]⟩, .slice none 0 0, .int .i64 1, .string aaaa, .slice none 0 0, .int .i64 2, .string ⟨#[]⟩, .slice (some ⟨n + 2, 0, none⟩) 4 4, .int .i64 1, .string bbbb, .slice none 0 0, .int .i64 2, .string ⟨#[]⟩, .slice (some ⟨n + 3, 0, none⟩) 4 4] 33)
  refs : LAt W (n + 5) R
  sroot : LAt W (n + 6) [2]
  snaps : W.heap[n + 7]? = some (.cells #[.string nOld, .int .i64 4, .slice (some ⟨n + 6, 0, none⟩) 1 1] 61)

theorem alloc_get (W : World) (o : Obj) (i : Nat) : (W.alloc o).heap[i]? = if i = W.heap.size then some o else W.heap[i]? := by
  show (W.heap.push o)[i]? = _
  rw [Array.getElem?_push]

theorem size_alloc (W : World) (o : Obj) : (W.alloc o).heap.size = W.heap.size + 1 := by simp

set_option linter.unusedSimpArgs false in
theorem pair_at (w : World) : Calls Try.prog 37 #[] w fun r w' => r = .returned (.agg #[.int .i64 6, .slice (some ⟨w.heap.size + 1, 0, none⟩) 2 2, .slice (some ⟨w.heap.size + 4, 0, none⟩) 5 5, .slice (some ⟨w.heap.size + 5, 0, none⟩) 5 5, .slice (some ⟨w.heap.size + 7, 0, none⟩) 1 1]) ∧ PairW w.heap.size w' [0, 2, 2, 1, 1] [3, 0, 0, 0] ∧ Below w.heap.size w w' := by
  go_enter Try.func37, Try.ntmps37
  go_wp2
  refine bodyPost_ret (v := .agg #[.int .i64 6, .slice (some ⟨w.heap.size + 1, 0, none⟩) 2 2, .slice (some ⟨w.heap.size + 4, 0, none⟩) 5 5, .slice (some ⟨w.heap.size + 5, 0, none⟩) 5 5, .slice (some ⟨w.heap.size + 7, 0, none⟩) 1 1]) (by simp [results, Try.results37, go_sem]) rfl ⟨rfl, ⟨?_, ?_, ?_, ?_, ?_, ?_, ?_⟩, ?_⟩
  · show _ = _; simp only [alloc_get, size_alloc, Nat.add_right_cancel_iff, Nat.add_assoc, Nat.reduceAdd, Nat.add_left_cancel_iff, Nat.reduceEqDiff, ↓reduceIte, List.map, Nat.left_eq_add, reduceCtorEq, Nat.add_eq_left, Nat.succ_ne_self]
  · show _ = _; simp only [alloc_get, size_alloc, Nat.add_right_cancel_iff, Nat.add_assoc, Nat.reduceAdd, Nat.add_left_cancel_iff, Nat.reduceEqDiff, ↓reduceIte, List.map, Nat.left_eq_add, reduceCtorEq, Nat.add_eq_left, Nat.succ_ne_self]
  · show _ = _; simp only [alloc_get, size_alloc, Nat.add_right_cancel_iff, Nat.add_assoc, Nat.reduceAdd, Nat.add_left_cancel_iff, Nat.reduceEqDiff, ↓reduceIte, List.map, Nat.left_eq_add, reduceCtorEq, Nat.add_eq_left, Nat.succ_ne_self]
  · show _ = _; simp only [alloc_get, size_alloc, Nat.add_assoc, Nat.reduceAdd, Nat.add_left_cancel_iff, Nat.reduceEqDiff, ↓reduceIte, aaaa, bbbb]
  · show _ = _; simp only [alloc_get, size_alloc, Nat.add_right_cancel_iff, Nat.add_assoc, Nat.reduceAdd, Nat.add_left_cancel_iff, Nat.reduceEqDiff, ↓reduceIte, List.map, Nat.left_eq_add, reduceCtorEq, Nat.add_eq_left, Nat.succ_ne_self]
  · show _ = _; simp only [alloc_get, size_alloc, Nat.add_right_cancel_iff, Nat.add_assoc, Nat.reduceAdd, Nat.add_left_cancel_iff, Nat.reduceEqDiff, ↓reduceIte, List.map, Nat.left_eq_add, reduceCtorEq, Nat.add_eq_left, Nat.succ_ne_self]
  · show _ = _; simp only [alloc_get, size_alloc, Nat.add_assoc, Nat.reduceAdd, Nat.add_left_cancel_iff, Nat.reduceEqDiff, ↓reduceIte, nOld]
  · exact ((((((((Below.refl _ _).alloc (Nat.le_refl _) _).alloc (by simp) _).alloc (by simp; omega) _).alloc (by simp; omega) _).alloc (by simp; omega) _).alloc (by simp; omega) _).alloc (by simp; omega) _).alloc (by simp; omega) _

theorem PairW.below {n : Nat} {W W' : World} {R T : List Int} (h : PairW n W R T) {k : Nat} (hb : Below k W W') (hk : n + 8 ≤ k) : PairW n W' R T :=
  ⟨(hb.block _ (by omega)).trans h.root, (hb.block _ (by omega)).trans h.ta, (hb.block _ (by omega)).trans h.tb, (hb.block _ (by omega)).trans h.slots, (hb.block _ (by omega)).trans h.refs, (hb.block _ (by omega)).trans h.sroot, (hb.block _ (by omega)).trans h.snaps⟩
theorem PairW.size {n : Nat} {W : World} {R T : List Int} (h : PairW n W R T) : n + 8 ≤ W.heap.size := by
  have := (Array.getElem?_eq_some_iff.1 h.snaps).1; omega
theorem cell_of {W : World} {g : Nat} {A : Array Value} {t : TypeId} {fr : Nat × Nat} (h : W.heap[g]? = some (.cells A t fr)) {j : Nat} {v : Value} (hv : A[j]? = some v) : W.cell? ⟨g, j, none⟩ = some v := by
  simp [World.cell?, h, hv]
theorem PairW.img {n : Nat} {W : World} {R T : List Int} (h : PairW n W R T) (hR : R.length = 5) (hT : T.length = 4) (g : Int) :
    Img W (.agg #[.int .i64 g, .slice (some ⟨n + 1, 0, none⟩) 2 2, .slice (some ⟨n + 4, 0, none⟩) 5 5, .slice (some ⟨n + 5, 0, none⟩) 5 5, .slice (some ⟨n + 7, 0, none⟩) 1 1]) (pairD g R T) := by
  refine ⟨_, _, _, _, rfl, h.root.sl rfl (by decide), ⟨some ⟨n + 4, 0, none⟩, 5, rfl, show (5 : Nat) ≤ maxLen by decide, Nat.le_refl _, fun _ => ⟨n + 4, 0, rfl, (Array.getElem?_eq_some_iff.1 h.slots).1, ?_⟩⟩, h.refs.sl hR (by decide), ⟨some ⟨n + 7, 0, none⟩, 1, rfl, show (1 : Nat) ≤ maxLen by decide, Nat.le_refl _, fun _ => ⟨n + 7, 0, rfl, (Array.getElem?_eq_some_iff.1 h.snaps).1, ?_⟩⟩⟩
  · intro j hj
    have h5 : j < 5 := hj
    match j, h5 with
    | 0, _ => exact ⟨_, cell_of h.slots rfl, cell_of h.slots rfl, cell_of h.slots rfl, Sl.nil W⟩
    | 1, _ => exact ⟨_, cell_of h.slots rfl, cell_of h.slots rfl, cell_of h.slots rfl, Sl.nil W⟩
    | 2, _ => exact ⟨_, cell_of h.slots rfl, cell_of h.slots rfl, cell_of h.slots rfl, h.ta.sl rfl (by decide)⟩
    | 3, _ => exact ⟨_, cell_of h.slots rfl, cell_of h.slots rfl, cell_of h.slots rfl, Sl.nil W⟩
    | 4, _ => exact ⟨_, cell_of h.slots rfl, cell_of h.slots rfl, cell_of h.slots rfl, h.tb.sl hT (by decide)⟩
  · intro j hj
    have h1 : j < 1 := hj
    match j, h1 with
    | 0, _ => exact ⟨_, cell_of h.snaps rfl, cell_of h.snaps rfl, cell_of h.snaps rfl, h.sroot.sl rfl (by decide)⟩
theorem LAt.other {W : World} {g g' : Nat} {l : List Int} (h : LAt W g l) (hne : g ≠ g') (j : Nat) (v : Value) : LAt (W.setCell ⟨g', j, none⟩ v) g l := ((Only.set g' W j v).block g hne).trans h
theorem PairW.setRefs {n : Nat} {W : World} {R T : List Int} (h : PairW n W R T) (j : Nat) (x : Int) : PairW n (W.setCell ⟨n + 5, j, none⟩ (.int .i64 x)) (R.set j x) T :=
  ⟨h.root.other (by omega) _ _, h.ta.other (by omega) _ _, h.tb.other (by omega) _ _, ((Only.set (n + 5) W j _).block _ (by omega)).trans h.slots, h.refs.set j x, h.sroot.other (by omega) _ _, ((Only.set (n + 5) W j _).block _ (by omega)).trans h.snaps⟩
theorem pair_is (w : World) : Calls Try.prog 37 #[] w fun r w' => (∃ v, r = .returned v ∧ Img w' v (pairD 6 [0, 2, 2, 1, 1] [3, 0, 0, 0])) ∧ Below w.heap.size w w' :=
  (pair_at w).mono fun _ _ h => ⟨⟨_, h.1, h.2.1.img rfl rfl 6⟩, h.2.2⟩
end Go.Proofs.Ytehleeibgkpjmac
/- The image of pair: what is decided of it. -/
namespace Go.Proofs.Ytehleeibgkpjmac
open Go.RowKit Go.Shelf
set_option maxRecDepth 20000

abbrev pD : ImgD := pairD 6 [0, 2, 2, 1, 1] [3, 0, 0, 0]
end Go.Proofs.Ytehleeibgkpjmac
/- Contract of SameInts. -/
namespace Go.Proofs.Ytehleeibgkpjmac
open Go.RowKit
set_option maxRecDepth 20000

theorem same_at (ao bo : Option Addr) (n cap cap' : Nat) (xs : List Int) (w : World) (hn : xs.length = n) (hm : n ≤ 9223372036854775807)
    (hc : ∀ j, j < n → ∃ b off, ao = some ⟨b, off, none⟩ ∧ b < w.heap.size ∧ w.cell? ⟨b, off + j, none⟩ = some (.int .i64 (xs.getD j 0)))
    (hd : ∀ j, j < n → ∃ b off, bo = some ⟨b, off, none⟩ ∧ b < w.heap.size ∧ w.cell? ⟨b, off + j, none⟩ = some (.int .i64 (xs.getD j 0))) :
    Calls Try.prog 39 #[.slice ao n cap, .slice bo n cap'] w fun r w' => r = .returned (.bool true) ∧ Below w.heap.size w w' := by
  have HC : Hid (∀ j, j < n → ∃ b off, ao = some ⟨b, off, none⟩ ∧ b < w.heap.size ∧ w.cell? ⟨b, off + j, none⟩ = some (.int .i64 (xs.getD j 0))) := hc
  have HD : Hid (∀ j, j < n → ∃ b off, bo = some ⟨b, off, none⟩ ∧ b < w.heap.size ∧ w.cell? ⟨b, off + j, none⟩ = some (.int .i64 (xs.getD j 0))) := hd
  clear hc hd
  have HN : Hid (xs.length = n) := hn
  clear hn
  go_enter Try.func39, Try.ntmps39
  go_wp2
  go_loopw [5] (fun i wr => ∃ k : Nat, k ≤ n ∧ i = .int .i64 k ∧ Below w.heap.size w wr) (fun i _ => n - (intOf i).toNat)
  case atStart => exact ⟨0, by omega, rfl, Below.refl _ _⟩
  case round =>
    obtain ⟨k, hk, rfl, hbel⟩ := hrel
    by_cases hlt : k < n
    · obtain ⟨x, hx⟩ : ∃ x, xs.getD k 0 = x := ⟨_, rfl⟩
      obtain ⟨b, off, hao, hl1, hck⟩ := HC.out k hlt
      obtain ⟨b', off', hbo, hl2, hck'⟩ := HD.out k hlt
      rw [hx] at hck hck'
      clear hx
      have g1 : wr.cell? ⟨b, off + k, none⟩ = some (.int .i64 x) := (hbel.cell (p := ⟨b, off + k, none⟩) hl1).trans hck
      have g2 : wr.cell? ⟨b', off' + k, none⟩ = some (.int .i64 x) := (hbel.cell (p := ⟨b', off' + k, none⟩) hl2).trans hck'
      have i1 : (k : Int) < (n : Int) := by omega
      go_wp2
      go_quiet (fail)
      go_wp2
      go_roundw
      case rel => exact ⟨k + 1, by omega, by go_num, below_drewN hbel _⟩
      case measure => simp [intOf]; omega
    · have e4 : k = n := by omega
      subst e4
      go_wp2
      go_ret
      exact ⟨rfl, hbel⟩
theorem same_any {v u : Value} {xs : List Int} {w : World} (h : Sl w v xs) (k : Sl w u xs) :
    Calls Try.prog 39 #[v, u] w fun r w' => r = .returned (.bool true) ∧ Below w.heap.size w w' := by
  obtain ⟨ao, cap, rfl⟩ := h.form
  obtain ⟨bo, cap', rfl⟩ := k.form
  obtain ⟨hn, hm, _, hc⟩ := h.cells
  obtain ⟨_, _, _, hd⟩ := k.cells
  exact same_at ao bo _ cap cap' xs w hn hm hc hd

end Go.Proofs.Ytehleeibgkpjmac
