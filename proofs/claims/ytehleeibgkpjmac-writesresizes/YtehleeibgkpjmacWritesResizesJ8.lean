/- Texts joined: OxL, OxC, SlotRef, TbdI, TbdJ. -/
import Derived.Test.YtehleeibgkpjmacWritesResizesJ6
import Derived.Test.YtehleeibgkpjmacWritesResizesJ5
import Derived.Test.YtehleeibgkpjmacWritesResizesJ4
/- Contract of the document's lay, of an image as the document makes it. -/
namespace Go.Proofs.Ytehleeibgkpjmac
open Go.RowKit Go.Shelf
set_option maxRecDepth 20000
set_option linter.unusedVariables false

theorem row_loose {W : World} {B : Nat} {v : Value} {es : List Int} (h : W.ownsRow B 3 1 v es.length (ints es)) (e : es = []) : ∃ ao cap, v = .slice ao 0 cap := by
  subst e
  rcases row_form h with ⟨x, _⟩ | ⟨g', cap', x, _⟩
  · exact ⟨_, _, x⟩
  · exact ⟨_, _, x⟩
set_option maxHeartbeats 4000000 in
theorem layX_new (m : ImgD) (gm : Int) (ra : Option Addr) (rn rc : Nat) (sa : Option Addr) (sc : Nat) (fa : Option Addr) (fn fc : Nat) (na : Option Addr) (nn nc : Nat) (k : Int) (d : ByteArray) (ea : Option Addr) (en ec : Nat) (es : List Int) (B : Nat) (val : Nm → Value) (w : World) (hO : OX w B val m) (e0 : val .root = .slice ra rn rc) (e1 : val .slots = .slice sa m.slots.length sc) (e2 : val .refs = .slice fa fn fc) (e3 : val .snaps = .slice na nn nc) (hB : B ≤ w.heap.size)
    (he : w.ownsRow B 3 1 (.slice ea en ec) es.length (ints es)) (hfar : FarX m val (.tab m.slots.length) (.slice ea en ec)) (hle : m.slots.length ≤ 1000) :
    Calls Try.prog 62 #[.agg #[.int .i64 gm, .slice ra rn rc, .slice sa m.slots.length sc, .slice fa fn fc, .slice na nn nc], .int .i64 (m.slots.length : Int), .agg #[.int .i64 k, .string d, .slice ea en ec]] w fun r w' => ∃ val', r = .returned (imgV gm val') ∧ OX w' B val' { m with slots := m.slots ++ [(k, d, es)] } ∧ Below B w w' ∧ KeepX w w' m val ∧ SrcX w m val (.slice ea en ec) { m with slots := m.slots ++ [(k, d, es)] } val' ∧ (∀ a, a ≠ .slots → a ≠ .tab m.slots.length → val' a = val a) := by
  have m0 : (((w.alloc (.cells #[.int .i64 gm, .slice ra rn rc, .slice sa m.slots.length sc, .slice fa fn fc, .slice na nn nc] 26)).alloc (.cells #[.int .i64 k, .string d, .slice ea en ec] 33)).alloc (.cells #[.int .i64 0, .slice none 0 0, .slice none 0 0, .slice none 0 0, .slice none 0 0] 26)).heap[w.heap.size]? = some (.cells #[.int .i64 gm, .slice ra rn rc, .slice sa m.slots.length sc, .slice fa fn fc, .slice na nn nc] 26) := cells_alloc (cells_alloc (World.alloc_heap_new _ _) _) _
  have m1 : (((w.alloc (.cells #[.int .i64 gm, .slice ra rn rc, .slice sa m.slots.length sc, .slice fa fn fc, .slice na nn nc] 26)).alloc (.cells #[.int .i64 k, .string d, .slice ea en ec] 33)).alloc (.cells #[.int .i64 0, .slice none 0 0, .slice none 0 0, .slice none 0 0, .slice none 0 0] 26)).heap[w.heap.size + 1]? = some (.cells #[.int .i64 k, .string d, .slice ea en ec] 33) := cells_alloc (by have := World.alloc_heap_new (w.alloc (.cells #[.int .i64 gm, .slice ra rn rc, .slice sa m.slots.length sc, .slice fa fn fc, .slice na nn nc] 26)) (.cells #[.int .i64 k, .string d, .slice ea en ec] 33); simpa using this) _
  have m2 : (((w.alloc (.cells #[.int .i64 gm, .slice ra rn rc, .slice sa m.slots.length sc, .slice fa fn fc, .slice na nn nc] 26)).alloc (.cells #[.int .i64 k, .string d, .slice ea en ec] 33)).alloc (.cells #[.int .i64 0, .slice none 0 0, .slice none 0 0, .slice none 0 0, .slice none 0 0] 26)).heap[w.heap.size + 1 + 1]? = some (.cells #[.int .i64 0, .slice none 0 0, .slice none 0 0, .slice none 0 0, .slice none 0 0] 26) := by have := World.alloc_heap_new ((w.alloc (.cells #[.int .i64 gm, .slice ra rn rc, .slice sa m.slots.length sc, .slice fa fn fc, .slice na nn nc] 26)).alloc (.cells #[.int .i64 k, .string d, .slice ea en ec] 33)) (.cells #[.int .i64 0, .slice none 0 0, .slice none 0 0, .slice none 0 0, .slice none 0 0] 26); simpa using this
  obtain ⟨c0, c1, c2, c3, c4⟩ := five m0
  go_enter Try.func62, Try.ntmps62
  have hown : (((w.alloc (.cells #[.int .i64 gm, .slice ra rn rc, .slice sa m.slots.length sc, .slice fa fn fc, .slice na nn nc] 26)).alloc (.cells #[.int .i64 k, .string d, .slice ea en ec] 33)).alloc (.cells #[.int .i64 0, .slice none 0 0, .slice none 0 0, .slice none 0 0, .slice none 0 0] 26)).ownsRow B 33 3 (.slice sa m.slots.length sc) m.slots.length (flatS m.slots (fun j => val (.tab j))) := by
    have := hO.row .slots (LiveX.slots m)
    rw [e1] at this
    exact ((this.alloc _).alloc _).alloc _
  go_wp2_with (at_builtin; refine wpList_app3 (by rfl) _ _ 23 33 _ Try.underlying23 infoSlot (by rfl) (by rfl) (B := B) (v := .slice sa m.slots.length sc) (c0 := .int .i64 k) (c1 := .string d) (c2 := .slice ea en ec) (by rfl) (by rfl) (by rfl) (by rfl) (by rfl) (by simp) hown hle (by simp <;> omega) ?_; intro v1 w1 h1 h2 h3; obtain ⟨g1, cap1, hv1⟩ := row_some h1.out; subst hv1; have q0 := (h2.block w.heap.size (by simp <;> omega) (ownX_old hO (LiveX.slots m) e1 (Nat.le_refl _))).trans (cells_alloc m0 _); obtain ⟨d0, d1, d2, d3, d4⟩ := five q0; have f2 := cells_frozen q0 2; have q2 := (h2.block (w.heap.size + 1 + 1) (by simp <;> omega) (ownX_old hO (LiveX.slots m) e1 (by omega))).trans (cells_alloc m2 _); obtain ⟨z0, z1, z2, z3, z4⟩ := five q2; have y0 := cells_frozen q2 0; have y1 := cells_frozen q2 1; have y2 := cells_frozen q2 2; have y3 := cells_frozen q2 3; have y4 := cells_frozen q2 4)
  have hA : OX ((((w.alloc (.cells #[.int .i64 gm, .slice ra rn rc, .slice sa m.slots.length sc, .slice fa fn fc, .slice na nn nc] 26)).alloc (.cells #[.int .i64 k, .string d, .slice ea en ec] 33)).alloc (.cells #[.int .i64 0, .slice none 0 0, .slice none 0 0, .slice none 0 0, .slice none 0 0] 26)).alloc (.cells #[.int .i64 k, .string d, .slice ea en ec] 33)) B val m := (((hO.alloc _).alloc _).alloc _).alloc _
  have hz : ((((w.alloc (.cells #[.int .i64 gm, .slice ra rn rc, .slice sa m.slots.length sc, .slice fa fn fc, .slice na nn nc] 26)).alloc (.cells #[.int .i64 k, .string d, .slice ea en ec] 33)).alloc (.cells #[.int .i64 0, .slice none 0 0, .slice none 0 0, .slice none 0 0, .slice none 0 0] 26)).alloc (.cells #[.int .i64 k, .string d, .slice ea en ec] 33)).heap.size = w.heap.size + 4 := by simp
  have hz0 : (((w.alloc (.cells #[.int .i64 gm, .slice ra rn rc, .slice sa m.slots.length sc, .slice fa fn fc, .slice na nn nc] 26)).alloc (.cells #[.int .i64 k, .string d, .slice ea en ec] 33)).alloc (.cells #[.int .i64 0, .slice none 0 0, .slice none 0 0, .slice none 0 0, .slice none 0 0] 26)).heap.size = w.heap.size + 3 := by simp
  have h3' : (Value.slice (some ⟨g1, 0, none⟩) (m.slots.length + 1) cap1).ownBlock = (val .slots).ownBlock ∨ (Value.slice (some ⟨g1, 0, none⟩) (m.slots.length + 1) cap1).ownBlock = some (w.heap.size + 4) := by
    rcases h3.out with e | e
    · exact .inl (e.trans (by rw [e1]))
    · refine .inr (e.trans ?_); rw [hz0]
  have hN := hA.addSlot (k := k) (d := d) (fun _ => (((he.alloc _).alloc _).alloc _).alloc _) (row_loose he) (fun _ => hfar) (by rw [e1]; exact h2) h1.out (h3'.imp id (fun e g hg => by rw [e] at hg; cases hg; omega))
  have hev : ∀ g, w.heap.size ≤ g → (Value.slice ea en ec).ownBlock ≠ some g := fun g hg e => by have := (he.lt g e).2; omega
  have hsv : ∀ g, w.heap.size ≤ g → g < w.heap.size + 4 → (Value.slice (some ⟨g1, 0, none⟩) (m.slots.length + 1) cap1).ownBlock ≠ some g := fun g hg hg4 e => by
    rcases h3' with x | x
    · rw [x] at e; exact hO.lt hg .slots (LiveX.slots m) e
    · rw [x] at e; cases e; omega
  have hf1 := addX_far (s := (k, d, es)) (hO.lt (Nat.le_refl _)) (fun _ => hev _ (Nat.le_refl _)) (hsv w.heap.size (Nat.le_refl _) (by omega))
  have hf2 := addX_far (s := (k, d, es)) (hO.lt (g := w.heap.size + 1 + 1) (by omega)) (fun _ => hev _ (by omega)) (hsv (w.heap.size + 1 + 1) (by omega) (by omega))
  have kB : KeepX w w1 m val := KeepX.grown (((((KeepX.refl w m val).alloc (Nat.le_refl _) _).alloc (by simp) _).alloc (by simp <;> omega) _).alloc (by simp <;> omega) _) (by simp <;> omega) (LiveX.slots m) e1 h2
  have bB : Below B w w1 := by
    refine Below.grown (row := (Value.slice sa m.slots.length sc).ownBlock) (((((Below.refl B w).alloc hB _).alloc (by simp <;> omega) _).alloc (by simp <;> omega) _).alloc (by simp <;> omega) _) h2 (by simp <;> omega) (fun q e => ?_)
    exact ((hO.row .slots (LiveX.slots m)).lt q (by rw [e1]; exact e)).1
  refine bodyPost_ret (v := .agg #[.int .i64 gm, .slice ra rn rc, .slice (some ⟨g1, 0, none⟩) (m.slots.length + 1) cap1, .slice fa fn fc, .slice na nn nc]) (by simp [results, Try.results62, go_sem, z0, z1, z2, z3, z4]) rfl ⟨_, ?_, (((((hN.far hf1).far hf2).far hf2).far hf2).far hf2).far hf2, (((((bB.setCell hB _).setCell (by show _ ≤ w.heap.size + 1 + 1; omega) _).setCell (by show _ ≤ w.heap.size + 1 + 1; omega) _).setCell (by show _ ≤ w.heap.size + 1 + 1; omega) _).setCell (by show _ ≤ w.heap.size + 1 + 1; omega) _).setCell (by show _ ≤ w.heap.size + 1 + 1; omega) _, ((((((kB.new (Nat.le_refl _)).new (by omega)).new (by omega)).new (by omega)).new (by omega)).new (by omega)), fun g hg hev' hm => addX_far hm (fun _ => hev') (fun e => by rcases h3' with x | x; (rw [x] at e; exact hm .slots (LiveX.slots m) e); (rw [x] at e; have e : w.heap.size + 4 = g := Option.some.inj e; omega)), fun a h1 h2 => ?_⟩
  · unfold imgV
    rw [upd_same, upd_other _ _ (by intro x; cases x), upd_other _ _ (by intro x; cases x), upd_other _ _ (by intro x; cases x), upd_other _ _ (by intro x; cases x), upd_other _ _ (by intro x; cases x), upd_other _ _ (by intro x; cases x), e0, e2, e3]
  · rw [upd_other _ _ h1, upd_other _ _ h2]

set_option maxHeartbeats 4000000 in
theorem layX_old (m : ImgD) (gm : Int) (ra : Option Addr) (rn rc : Nat) (sc : Nat) (fa : Option Addr) (fn fc : Nat) (na : Option Addr) (nn nc : Nat) (k : Int) (d : ByteArray) (ea : Option Addr) (en ec : Nat) (es : List Int) (i : Nat) (g : Nat) (B : Nat) (val : Nm → Value) (w : World) (hO : OX w B val m) (e0 : val .root = .slice ra rn rc) (e1 : val .slots = .slice (some ⟨g, 0, none⟩) m.slots.length sc) (e2 : val .refs = .slice fa fn fc) (e3 : val .snaps = .slice na nn nc) (hB : B ≤ w.heap.size)
    (he : w.ownsRow B 3 1 (.slice ea en ec) es.length (ints es)) (hfar : FarX m val (.tab i) (.slice ea en ec)) (hi : i < m.slots.length) :
    Calls Try.prog 62 #[.agg #[.int .i64 gm, .slice ra rn rc, .slice (some ⟨g, 0, none⟩) m.slots.length sc, .slice fa fn fc, .slice na nn nc], .int .i64 (i : Int), .agg #[.int .i64 k, .string d, .slice ea en ec]] w fun r w' => ∃ val', r = .returned (imgV gm val') ∧ OX w' B val' { m with slots := m.slots.set i (k, d, es) } ∧ Below B w w' ∧ KeepX w w' m val ∧ SrcX w m val (.slice ea en ec) { m with slots := m.slots.set i (k, d, es) } val' ∧ (∀ a, a ≠ .slots → a ≠ .tab i → val' a = val a) := by
  have m0 : (((w.alloc (.cells #[.int .i64 gm, .slice ra rn rc, .slice (some ⟨g, 0, none⟩) m.slots.length sc, .slice fa fn fc, .slice na nn nc] 26)).alloc (.cells #[.int .i64 k, .string d, .slice ea en ec] 33)).alloc (.cells #[.int .i64 0, .slice none 0 0, .slice none 0 0, .slice none 0 0, .slice none 0 0] 26)).heap[w.heap.size]? = some (.cells #[.int .i64 gm, .slice ra rn rc, .slice (some ⟨g, 0, none⟩) m.slots.length sc, .slice fa fn fc, .slice na nn nc] 26) := cells_alloc (cells_alloc (World.alloc_heap_new _ _) _) _
  have m1 : (((w.alloc (.cells #[.int .i64 gm, .slice ra rn rc, .slice (some ⟨g, 0, none⟩) m.slots.length sc, .slice fa fn fc, .slice na nn nc] 26)).alloc (.cells #[.int .i64 k, .string d, .slice ea en ec] 33)).alloc (.cells #[.int .i64 0, .slice none 0 0, .slice none 0 0, .slice none 0 0, .slice none 0 0] 26)).heap[w.heap.size + 1]? = some (.cells #[.int .i64 k, .string d, .slice ea en ec] 33) := cells_alloc (by have := World.alloc_heap_new (w.alloc (.cells #[.int .i64 gm, .slice ra rn rc, .slice (some ⟨g, 0, none⟩) m.slots.length sc, .slice fa fn fc, .slice na nn nc] 26)) (.cells #[.int .i64 k, .string d, .slice ea en ec] 33); simpa using this) _
  have m2 : (((w.alloc (.cells #[.int .i64 gm, .slice ra rn rc, .slice (some ⟨g, 0, none⟩) m.slots.length sc, .slice fa fn fc, .slice na nn nc] 26)).alloc (.cells #[.int .i64 k, .string d, .slice ea en ec] 33)).alloc (.cells #[.int .i64 0, .slice none 0 0, .slice none 0 0, .slice none 0 0, .slice none 0 0] 26)).heap[w.heap.size + 1 + 1]? = some (.cells #[.int .i64 0, .slice none 0 0, .slice none 0 0, .slice none 0 0, .slice none 0 0] 26) := by have := World.alloc_heap_new ((w.alloc (.cells #[.int .i64 gm, .slice ra rn rc, .slice (some ⟨g, 0, none⟩) m.slots.length sc, .slice fa fn fc, .slice na nn nc] 26)).alloc (.cells #[.int .i64 k, .string d, .slice ea en ec] 33)) (.cells #[.int .i64 0, .slice none 0 0, .slice none 0 0, .slice none 0 0, .slice none 0 0] 26); simpa using this
  obtain ⟨c0, c1, c2, c3, c4⟩ := five m0
  obtain ⟨z0, z1, z2, z3, z4⟩ := five m2
  have y0 := cells_frozen m2 0
  have y1 := cells_frozen m2 1
  have y2 := cells_frozen m2 2
  have y3 := cells_frozen m2 3
  have y4 := cells_frozen m2 4
  have hA : OX (((w.alloc (.cells #[.int .i64 gm, .slice ra rn rc, .slice (some ⟨g, 0, none⟩) m.slots.length sc, .slice fa fn fc, .slice na nn nc] 26)).alloc (.cells #[.int .i64 k, .string d, .slice ea en ec] 33)).alloc (.cells #[.int .i64 0, .slice none 0 0, .slice none 0 0, .slice none 0 0, .slice none 0 0] 26)) B val m := ((hO.alloc _).alloc _).alloc _
  have hr := hA.row .slots (LiveX.slots m)
  rw [e1] at hr
  obtain ⟨s0, s1, s2⟩ := flatS_get (tv := fun j => val (.tab j)) hi
  have t0 : (((w.alloc (.cells #[.int .i64 gm, .slice ra rn rc, .slice (some ⟨g, 0, none⟩) m.slots.length sc, .slice fa fn fc, .slice na nn nc] 26)).alloc (.cells #[.int .i64 k, .string d, .slice ea en ec] 33)).alloc (.cells #[.int .i64 0, .slice none 0 0, .slice none 0 0, .slice none 0 0, .slice none 0 0] 26)).cell? ⟨g, i * 3, none⟩ = some _ := (hr.cellAt (i * 3) (by show _ < _ * 3; omega)).trans s0
  have t1 : (((w.alloc (.cells #[.int .i64 gm, .slice ra rn rc, .slice (some ⟨g, 0, none⟩) m.slots.length sc, .slice fa fn fc, .slice na nn nc] 26)).alloc (.cells #[.int .i64 k, .string d, .slice ea en ec] 33)).alloc (.cells #[.int .i64 0, .slice none 0 0, .slice none 0 0, .slice none 0 0, .slice none 0 0] 26)).cell? ⟨g, i * 3 + 1, none⟩ = some _ := (hr.cellAt (i * 3 + 1) (by show _ < _ * 3; omega)).trans s1
  have t2 : (((w.alloc (.cells #[.int .i64 gm, .slice ra rn rc, .slice (some ⟨g, 0, none⟩) m.slots.length sc, .slice fa fn fc, .slice na nn nc] 26)).alloc (.cells #[.int .i64 k, .string d, .slice ea en ec] 33)).alloc (.cells #[.int .i64 0, .slice none 0 0, .slice none 0 0, .slice none 0 0, .slice none 0 0] 26)).cell? ⟨g, i * 3 + 2, none⟩ = some _ := (hr.cellAt (i * 3 + 2) (by show _ < _ * 3; omega)).trans s2
  have u0 := hr.frozenAt (i * 3)
  have u1 := hr.frozenAt (i * 3 + 1)
  have u2 := hr.frozenAt (i * 3 + 2)
  have hne : ((i : Int) == (m.slots.length : Int)) = false := by simp; omega
  have hne' : ¬ (i : Int) = (m.slots.length : Int) := by omega
  have hil : (i : Int) < (m.slots.length : Int) := by omega
  have hgl : g < w.heap.size := by
    have := hO.row .slots (LiveX.slots m)
    rw [e1] at this
    exact (this.lt g rfl).2
  have hgB : B ≤ g := by
    have := hO.row .slots (LiveX.slots m)
    rw [e1] at this
    exact (this.lt g rfl).1
  have g1 : ¬ g = w.heap.size := by omega
  have g2 : ¬ w.heap.size = g := by omega
  have g3 : ¬ g = w.heap.size + 1 + 1 := by omega
  have g4 : ¬ w.heap.size + 1 + 1 = g := by omega
  go_enter Try.func62, Try.ntmps62
  go_wp2_with fail
  have hN := hA.setSlot hi e1 k d es (((he.alloc _).alloc _).alloc _) hfar
  have hev : ∀ g, w.heap.size ≤ g → (Value.slice ea en ec).ownBlock ≠ some g := fun g hg e => by have := (he.lt g e).2; omega
  have hf2 := setX_far (s := (k, d, es)) (hO.lt (g := w.heap.size + 1 + 1) (by omega)) (hev (w.heap.size + 1 + 1) (by omega)) (i := i)
  have kB : KeepX w (((w.alloc (.cells #[.int .i64 gm, .slice ra rn rc, .slice (some ⟨g, 0, none⟩) m.slots.length sc, .slice fa fn fc, .slice na nn nc] 26)).alloc (.cells #[.int .i64 k, .string d, .slice ea en ec] 33)).alloc (.cells #[.int .i64 0, .slice none 0 0, .slice none 0 0, .slice none 0 0, .slice none 0 0] 26)) m val := (((KeepX.refl w m val).alloc (Nat.le_refl _) _).alloc (by simp) _).alloc (by simp <;> omega) _
  have bB : Below B w (((w.alloc (.cells #[.int .i64 gm, .slice ra rn rc, .slice (some ⟨g, 0, none⟩) m.slots.length sc, .slice fa fn fc, .slice na nn nc] 26)).alloc (.cells #[.int .i64 k, .string d, .slice ea en ec] 33)).alloc (.cells #[.int .i64 0, .slice none 0 0, .slice none 0 0, .slice none 0 0, .slice none 0 0] 26)) := (((Below.refl B w).alloc hB _).alloc (by simp <;> omega) _).alloc (by simp <;> omega) _
  refine bodyPost_ret (v := .agg #[.int .i64 gm, .slice ra rn rc, .slice (some ⟨g, 0, none⟩) m.slots.length sc, .slice fa fn fc, .slice na nn nc]) (by simp [results, Try.results62, go_sem, z0, z1, z2, z3, z4]) rfl ⟨_, ?_, ((((hN.far hf2).far hf2).far hf2).far hf2).far hf2, (((((((bB.setCell hgB _).setCell hgB _).setCell hgB _).setCell (by show _ ≤ w.heap.size + 1 + 1; omega) _).setCell (by show _ ≤ w.heap.size + 1 + 1; omega) _).setCell (by show _ ≤ w.heap.size + 1 + 1; omega) _).setCell (by show _ ≤ w.heap.size + 1 + 1; omega) _).setCell (by show _ ≤ w.heap.size + 1 + 1; omega) _, ((((((((kB.own (LiveX.slots m) e1).own (LiveX.slots m) e1).own (LiveX.slots m) e1).new (by omega)).new (by omega)).new (by omega)).new (by omega)).new (by omega)), fun _ _ hev' hm => setX_far hm hev', fun a _ h2 => upd_other _ _ h2⟩
  unfold imgV
  rw [upd_other _ _ (by intro x; cases x), upd_other _ _ (by intro x; cases x), upd_other _ _ (by intro x; cases x), upd_other _ _ (by intro x; cases x), e0, e1, e2, e3]

theorem layX_is {m : ImgD} (gm : Int) {k : Int} {d : ByteArray} {ev : Value} {es : List Int} {B : Nat} {val : Nm → Value} {w : World} (hO : OX w B val m) (hB : B ≤ w.heap.size) {i : Nat} (hi : i ≤ m.slots.length) (hle : m.slots.length ≤ 1000)
    (he : w.ownsRow B 3 1 ev es.length (ints es)) (hfar : FarX m val (.tab i) ev) :
    Calls Try.prog 62 #[imgV gm val, .int .i64 (i : Int), .agg #[.int .i64 k, .string d, ev]] w fun r w' => ∃ val', r = .returned (imgV gm val') ∧ OX w' B val' { m with slots := layS m.slots i (k, d, es) } ∧ Below B w w' ∧ KeepX w w' m val ∧ SrcX w m val ev { m with slots := layS m.slots i (k, d, es) } val' ∧ (∀ a, a ≠ .slots → a ≠ .tab i → val' a = val a) := by
  obtain ⟨ra, rc, e0, _⟩ := hO.forms .root (LiveX.root m)
  obtain ⟨sa, sc, e1, hs⟩ := hO.forms .slots (LiveX.slots m)
  obtain ⟨fa, fc, e2, _⟩ := hO.forms .refs (LiveX.refs m)
  obtain ⟨na, nc, e3, _⟩ := hO.forms .snaps (LiveX.snaps m)
  have hev : ∃ ea en ec, ev = .slice ea en ec := by
    rcases row_form he with ⟨e, _⟩ | ⟨g, cap, e, _⟩
    · exact ⟨_, _, _, e⟩
    · exact ⟨_, _, _, e⟩
  obtain ⟨ea, en, ec, rfl⟩ := hev
  have e1 : val .slots = .slice sa m.slots.length sc := e1
  unfold imgV
  rw [e0, e1, e2, e3]
  unfold layS
  by_cases e : i = m.slots.length
  · subst e
    rw [if_pos rfl]
    exact layX_new m gm ra _ rc sa sc fa _ fc na _ nc k d ea en ec es B val w hO e0 e1 e2 e3 hB he hfar hle
  · rw [if_neg e]
    obtain ⟨g, rfl⟩ := hs (by show 0 < m.slots.length; omega)
    exact layX_old m gm ra _ rc sc fa _ fc na _ nc k d ea en ec es i g B val w hO e0 e1 e2 e3 hB he hfar (by omega)
end Go.Proofs.Ytehleeibgkpjmac
/- Contract of the document's counted, of an image as the document makes it. -/
namespace Go.Proofs.Ytehleeibgkpjmac
open Go.RowKit Go.Shelf
set_option maxRecDepth 20000
set_option linter.unusedVariables false

theorem liveX_frT {m : ImgD} {k : Nat} {a : Nm} (h : LiveX (frT m k) a) : LiveX m a := by
  rcases h.cases with rfl | rfl | rfl | rfl | ⟨j, rfl, hj, hn⟩ | ⟨j, rfl, hj⟩
  · exact LiveX.root m
  · exact LiveX.slots m
  · exact LiveX.refs m
  · exact LiveX.snaps m
  · rw [frT_length] at hj
    refine LiveX.tab ⟨hj, fun e => hn ?_⟩
    show ((frT m k).slots.getD j default).2.2 = []
    rw [frT_get m k hj]
    split
    · rfl
    · exact e
  · exact LiveX.sr hj
theorem liveX_counted {m : ImgD} {a : Nm} (h : LiveX (countedD m) a) : LiveX m a := by
  rw [← frT_end] at h; exact liveX_frT h
structure CtX (w wr : World) (B : Nat) (m : ImgD) (val : Nm → Value) (k : Nat) : Prop where
  own : ∃ vk, OX wr B vk (frT m k) ∧ vk .root = val .root ∧ vk .slots = val .slots ∧ vk .refs = .slice (some ⟨w.heap.size + 4, 0, none⟩) m.slots.length m.slots.length ∧ vk .snaps = val .snaps ∧ (∀ a, LiveX m a → a ≠ .refs → ∀ q, q < w.heap.size + 2 → (∀ b, LiveX m b → (val b).ownBlock ≠ some q) → (vk a).ownBlock ≠ some q)
  box : wr.heap[w.heap.size]? = some (.cells #[.int .i64 m.guest, val .root, val .slots, .slice (some ⟨w.heap.size + 4, 0, none⟩) m.slots.length m.slots.length, val .snaps] 26)
  res : wr.heap[w.heap.size + 1]? = some (.cells #[.int .i64 0, .slice none 0 0, .slice none 0 0, .slice none 0 0, .slice none 0 0] 26)
  bel : Below B w wr
  kep : KeepX w wr m val

set_option maxHeartbeats 4000000 in
theorem countedX_at (m : ImgD) (ra : Option Addr) (rn rc : Nat) (g sc : Nat) (fa : Option Addr) (fn fc : Nat) (na : Option Addr) (nn nc : Nat) (B : Nat) (val : Nm → Value) (w : World) (hO : OX w B val m) (e0 : val .root = .slice ra rn rc) (e1 : val .slots = .slice (some ⟨g, 0, none⟩) m.slots.length sc) (e3 : val .snaps = .slice na nn nc) (hB : B ≤ w.heap.size) (hE : shapeE { m with refs := rfZ m.slots } = 0) :
    Calls Try.prog 64 #[.agg #[.int .i64 m.guest, .slice ra rn rc, .slice (some ⟨g, 0, none⟩) m.slots.length sc, .slice fa fn fc, .slice na nn nc]] w fun r w' => ∃ val', r = .returned (imgV m.guest val') ∧ OX w' B val' (countedD m) ∧ Below B w w' ∧ KeepX w w' m val ∧ SrcX w m val (.slice none 0 0) (countedD m) val' := by
  have m0 : ((w.alloc (.cells #[.int .i64 m.guest, .slice ra rn rc, .slice (some ⟨g, 0, none⟩) m.slots.length sc, .slice fa fn fc, .slice na nn nc] 26)).alloc (.cells #[.int .i64 0, .slice none 0 0, .slice none 0 0, .slice none 0 0, .slice none 0 0] 26)).heap[w.heap.size]? = some (.cells #[.int .i64 m.guest, .slice ra rn rc, .slice (some ⟨g, 0, none⟩) m.slots.length sc, .slice fa fn fc, .slice na nn nc] 26) := cells_alloc (World.alloc_heap_new _ _) _
  have m2 : ((w.alloc (.cells #[.int .i64 m.guest, .slice ra rn rc, .slice (some ⟨g, 0, none⟩) m.slots.length sc, .slice fa fn fc, .slice na nn nc] 26)).alloc (.cells #[.int .i64 0, .slice none 0 0, .slice none 0 0, .slice none 0 0, .slice none 0 0] 26)).heap[w.heap.size + 1]? = some (.cells #[.int .i64 0, .slice none 0 0, .slice none 0 0, .slice none 0 0, .slice none 0 0] 26) := by have := World.alloc_heap_new (w.alloc (.cells #[.int .i64 m.guest, .slice ra rn rc, .slice (some ⟨g, 0, none⟩) m.slots.length sc, .slice fa fn fc, .slice na nn nc] 26)) (.cells #[.int .i64 0, .slice none 0 0, .slice none 0 0, .slice none 0 0, .slice none 0 0] 26); simpa using this
  obtain ⟨c0, c1, c2, c3, c4⟩ := five m0
  have f3 := cells_frozen m0 3
  have h40 : m.slots.length ≤ 40 := (slotsE_parts (shapeE_zero hE).2.1).2
  have h1s : 1 ≤ m.slots.length := (slotsE_parts (shapeE_zero hE).2.1).1
  have hmk := mk_ints m.slots.length h40
  go_enter Try.func64, Try.ntmps64
  have hz0 : ((w.alloc (.cells #[.int .i64 m.guest, .slice ra rn rc, .slice (some ⟨g, 0, none⟩) m.slots.length sc, .slice (some ⟨w.heap.size + 1 + 1, 0, none⟩) m.slots.length m.slots.length, .slice na nn nc] 26)).alloc (.cells #[.int .i64 0, .slice none 0 0, .slice none 0 0, .slice none 0 0, .slice none 0 0] 26)).heap.size = w.heap.size + 1 + 1 := by simp
  have hz1 : (((w.alloc (.cells #[.int .i64 m.guest, .slice ra rn rc, .slice (some ⟨g, 0, none⟩) m.slots.length sc, .slice (some ⟨w.heap.size + 1 + 1, 0, none⟩) m.slots.length m.slots.length, .slice na nn nc] 26)).alloc (.cells #[.int .i64 0, .slice none 0 0, .slice none 0 0, .slice none 0 0, .slice none 0 0] 26)).alloc (.cells (Array.replicate m.slots.length (.int .i64 0)) 3)).heap.size = w.heap.size + 3 := by simp
  have hlz : (rfZ m.slots).length = m.slots.length := by simp [rfZ]
  have hAr : Array.replicate m.slots.length (Value.int .i64 0) = (ints (rfZ m.slots)).toArray := by simp [ints, rfZ]
  have hrow : (((w.alloc (.cells #[.int .i64 m.guest, .slice ra rn rc, .slice (some ⟨g, 0, none⟩) m.slots.length sc, .slice (some ⟨w.heap.size + 1 + 1, 0, none⟩) m.slots.length m.slots.length, .slice na nn nc] 26)).alloc (.cells #[.int .i64 0, .slice none 0 0, .slice none 0 0, .slice none 0 0, .slice none 0 0] 26)).alloc (.cells (Array.replicate m.slots.length (.int .i64 0)) 3)).ownsRow B 3 1 (.slice (some ⟨w.heap.size + 1 + 1, 0, none⟩) m.slots.length m.slots.length) (rfZ m.slots).length (ints (rfZ m.slots)) := by
    have := new_row ((w.alloc (.cells #[.int .i64 m.guest, .slice ra rn rc, .slice (some ⟨g, 0, none⟩) m.slots.length sc, .slice (some ⟨w.heap.size + 1 + 1, 0, none⟩) m.slots.length m.slots.length, .slice na nn nc] 26)).alloc (.cells #[.int .i64 0, .slice none 0 0, .slice none 0 0, .slice none 0 0, .slice none 0 0] 26)) (rfZ m.slots) (by rw [hlz]; omega) (B := B) (by rw [hz0]; omega)
    rw [hz0, hlz] at this
    rw [hAr, hlz]
    exact this
  have hA0 : OX ((w.alloc (.cells #[.int .i64 m.guest, .slice ra rn rc, .slice (some ⟨g, 0, none⟩) m.slots.length sc, .slice (some ⟨w.heap.size + 1 + 1, 0, none⟩) m.slots.length m.slots.length, .slice na nn nc] 26)).alloc (.cells #[.int .i64 0, .slice none 0 0, .slice none 0 0, .slice none 0 0, .slice none 0 0] 26)) B val m := (hO.alloc _).alloc _
  have hZ := (hA0.alloc (.cells (Array.replicate m.slots.length (.int .i64 0)) 3)).swapRefs hrow (farX_new hA0 .refs (fun q e => by cases e; rw [hz0]; exact Nat.le_refl _))
  have hI := hZ.img
  have hcall := countsOf_is hI hE
  have eI : imgV m.guest (upd val .refs (.slice (some ⟨w.heap.size + 1 + 1, 0, none⟩) m.slots.length m.slots.length)) = .agg #[.int .i64 m.guest, .slice ra rn rc, .slice (some ⟨g, 0, none⟩) m.slots.length sc, .slice (some ⟨w.heap.size + 1 + 1, 0, none⟩) m.slots.length m.slots.length, .slice na nn nc] := by
    unfold imgV
    rw [upd_same, upd_other _ _ (by intro x; cases x), upd_other _ _ (by intro x; cases x), upd_other _ _ (by intro x; cases x), e0, e1, e3]
  have hcall : Calls Try.prog 48 #[.agg #[.int .i64 m.guest, .slice ra rn rc, .slice (some ⟨g, 0, none⟩) m.slots.length sc, .slice (some ⟨w.heap.size + 1 + 1, 0, none⟩) m.slots.length m.slots.length, .slice na nn nc]] (((w.alloc (.cells #[.int .i64 m.guest, .slice ra rn rc, .slice (some ⟨g, 0, none⟩) m.slots.length sc, .slice (some ⟨w.heap.size + 1 + 1, 0, none⟩) m.slots.length m.slots.length, .slice na nn nc] 26)).alloc (.cells #[.int .i64 0, .slice none 0 0, .slice none 0 0, .slice none 0 0, .slice none 0 0] 26)).alloc (.cells (Array.replicate m.slots.length (.int .i64 0)) 3)) fun r w' => (r = .returned (.slice (some ⟨w.heap.size + 4, 0, none⟩) m.slots.length m.slots.length) ∧ Hid (LAt w' (w.heap.size + 4) (cntL m))) ∧ Hid (Below (w.heap.size + 3) (((w.alloc (.cells #[.int .i64 m.guest, .slice ra rn rc, .slice (some ⟨g, 0, none⟩) m.slots.length sc, .slice (some ⟨w.heap.size + 1 + 1, 0, none⟩) m.slots.length m.slots.length, .slice na nn nc] 26)).alloc (.cells #[.int .i64 0, .slice none 0 0, .slice none 0 0, .slice none 0 0, .slice none 0 0] 26)).alloc (.cells (Array.replicate m.slots.length (.int .i64 0)) 3)) w') := by
    have h := hcall
    rw [hz1, show imgV ({ m with refs := rfZ m.slots } : ImgD).guest (upd val .refs (.slice (some ⟨w.heap.size + 1 + 1, 0, none⟩) m.slots.length m.slots.length)) = .agg #[.int .i64 m.guest, .slice ra rn rc, .slice (some ⟨g, 0, none⟩) m.slots.length sc, .slice (some ⟨w.heap.size + 1 + 1, 0, none⟩) m.slots.length m.slots.length, .slice na nn nc] from eI] at h
    exact h
  have p0 : (((w.alloc (.cells #[.int .i64 m.guest, .slice ra rn rc, .slice (some ⟨g, 0, none⟩) m.slots.length sc, .slice (some ⟨w.heap.size + 1 + 1, 0, none⟩) m.slots.length m.slots.length, .slice na nn nc] 26)).alloc (.cells #[.int .i64 0, .slice none 0 0, .slice none 0 0, .slice none 0 0, .slice none 0 0] 26)).alloc (.cells (Array.replicate m.slots.length (.int .i64 0)) 3)).heap[w.heap.size]? = some (.cells #[.int .i64 m.guest, .slice ra rn rc, .slice (some ⟨g, 0, none⟩) m.slots.length sc, .slice (some ⟨w.heap.size + 1 + 1, 0, none⟩) m.slots.length m.slots.length, .slice na nn nc] 26) := cells_alloc (cells_alloc (World.alloc_heap_new _ _) _) _
  have p1 : (((w.alloc (.cells #[.int .i64 m.guest, .slice ra rn rc, .slice (some ⟨g, 0, none⟩) m.slots.length sc, .slice (some ⟨w.heap.size + 1 + 1, 0, none⟩) m.slots.length m.slots.length, .slice na nn nc] 26)).alloc (.cells #[.int .i64 0, .slice none 0 0, .slice none 0 0, .slice none 0 0, .slice none 0 0] 26)).alloc (.cells (Array.replicate m.slots.length (.int .i64 0)) 3)).heap[w.heap.size + 1]? = some (.cells #[.int .i64 0, .slice none 0 0, .slice none 0 0, .slice none 0 0, .slice none 0 0] 26) := cells_alloc (by have := World.alloc_heap_new (w.alloc (.cells #[.int .i64 m.guest, .slice ra rn rc, .slice (some ⟨g, 0, none⟩) m.slots.length sc, .slice (some ⟨w.heap.size + 1 + 1, 0, none⟩) m.slots.length m.slots.length, .slice na nn nc] 26)) (.cells #[.int .i64 0, .slice none 0 0, .slice none 0 0, .slice none 0 0, .slice none 0 0] 26); simpa using this) _
  have hfarO : ∀ a, LiveX m a → (val a).ownBlock ≠ some w.heap.size ∧ (val a).ownBlock ≠ some (w.heap.size + 1) := fun a ha => ⟨hO.lt (Nat.le_refl _) a ha, hO.lt (by omega) a ha⟩
  have hBV : Below B w (((w.alloc (.cells #[.int .i64 m.guest, .slice ra rn rc, .slice (some ⟨g, 0, none⟩) m.slots.length sc, .slice (some ⟨w.heap.size + 1 + 1, 0, none⟩) m.slots.length m.slots.length, .slice na nn nc] 26)).alloc (.cells #[.int .i64 0, .slice none 0 0, .slice none 0 0, .slice none 0 0, .slice none 0 0] 26)).alloc (.cells (Array.replicate m.slots.length (.int .i64 0)) 3)) := (((Below.refl B w).alloc hB _).alloc (by simp <;> omega) _).alloc (by simp <;> omega) _
  have hAV : OX (((w.alloc (.cells #[.int .i64 m.guest, .slice ra rn rc, .slice (some ⟨g, 0, none⟩) m.slots.length sc, .slice (some ⟨w.heap.size + 1 + 1, 0, none⟩) m.slots.length m.slots.length, .slice na nn nc] 26)).alloc (.cells #[.int .i64 0, .slice none 0 0, .slice none 0 0, .slice none 0 0, .slice none 0 0] 26)).alloc (.cells (Array.replicate m.slots.length (.int .i64 0)) 3)) B val m := hA0.alloc _
  have hlc : (cntL m).length = m.slots.length := cntL_length m
  clear hI hZ hrow hAr
  go_wp2_with (go_at_call 48; refine hcall.mono ?_; rintro e w3 ⟨⟨rfl, hL⟩, hb3⟩; have q0 := cells_below p0 hb3.out (by omega); have q1 := cells_below p1 hb3.out (by omega); obtain ⟨d0, d1, d2, d3, d4⟩ := five q0; have fz := cells_frozen q0 3)
  have hb3' : Below (((w.alloc (.cells #[.int .i64 m.guest, .slice ra rn rc, .slice (some ⟨g, 0, none⟩) m.slots.length sc, .slice (some ⟨w.heap.size + 1 + 1, 0, none⟩) m.slots.length m.slots.length, .slice na nn nc] 26)).alloc (.cells #[.int .i64 0, .slice none 0 0, .slice none 0 0, .slice none 0 0, .slice none 0 0] 26)).alloc (.cells (Array.replicate m.slots.length (.int .i64 0)) 3)).heap.size (((w.alloc (.cells #[.int .i64 m.guest, .slice ra rn rc, .slice (some ⟨g, 0, none⟩) m.slots.length sc, .slice (some ⟨w.heap.size + 1 + 1, 0, none⟩) m.slots.length m.slots.length, .slice na nn nc] 26)).alloc (.cells #[.int .i64 0, .slice none 0 0, .slice none 0 0, .slice none 0 0, .slice none 0 0] 26)).alloc (.cells (Array.replicate m.slots.length (.int .i64 0)) 3)) w3 := by rw [hz1]; exact hb3.out
  have hO3 : OX w3 B val m := hAV.below hb3'
  have hrc : w3.ownsRow B 3 1 (.slice (some ⟨w.heap.size + 4, 0, none⟩) m.slots.length m.slots.length) (cntL m).length (ints (cntL m)) := by
    have := row_LAt hL.out (B := B) (by omega) (by rw [hlc]; omega)
    rw [hlc] at this ⊢
    exact this
  have hS3 := hO3.swapRefs hrc (farX_new hAV .refs (fun q e => by cases e; rw [hz1]; show w.heap.size + 3 ≤ w.heap.size + 4; omega))
  have hfa : ∀ a, LiveX m a → a ≠ .refs → ∀ q, q < w.heap.size + 2 → (∀ b, LiveX m b → (val b).ownBlock ≠ some q) → (upd val .refs (.slice (some ⟨w.heap.size + 4, 0, none⟩) m.slots.length m.slots.length) a).ownBlock ≠ some q := fun a ha hne q _ hm => by rw [upd_other _ _ hne]; exact hm a ha
  have HFO : Hid (∀ b, LiveX m b → (val b).ownBlock ≠ some (w.heap.size + 1)) := fun b hb => (hfarO b hb).2
  have HS : Hid (CtX w (w3.setCell ⟨w.heap.size, 3, none⟩ (.slice (some ⟨w.heap.size + 4, 0, none⟩) m.slots.length m.slots.length)) B m val 0) := by
    refine ⟨⟨upd val .refs (.slice (some ⟨w.heap.size + 4, 0, none⟩) m.slots.length m.slots.length), ?_, upd_other _ _ (by intro x; cases x), upd_other _ _ (by intro x; cases x), upd_same _ _ _, upd_other _ _ (by intro x; cases x), hfa⟩, ?_, cells_other q1 (by omega) _ _, (hBV.trans (hb3'.mono (by rw [hz1]; omega))).setCell hB _, (KeepX.below ((((KeepX.refl w m val).alloc (Nat.le_refl _) _).alloc (by simp) _).alloc (by simp <;> omega) _) (n := w.heap.size + 3) (by omega) hb3.out).new (Nat.le_refl _)⟩
    · rw [frT_zero]
      refine hS3.far (fun a ha => ?_)
      by_cases e : a = .refs
      · subst e; rw [upd_same]; intro x; have x : w.heap.size + 4 = w.heap.size := Option.some.inj x; omega
      · exact hfa a ha e w.heap.size (by omega) (fun b hb => (hfarO b hb).1)
    · have := cells_set q0 3 (.slice (some ⟨w.heap.size + 4, 0, none⟩) m.slots.length m.slots.length)
      rw [e0, e1, e3]
      exact this
  have HV : Hid (val .root = .slice ra rn rc ∧ val .slots = .slice (some ⟨g, 0, none⟩) m.slots.length sc ∧ val .snaps = .slice na nn nc) := ⟨e0, e1, e3⟩
  have HG : Hid (B ≤ g ∧ g < w.heap.size) := by
    have := hO.row .slots (LiveX.slots m)
    rw [e1] at this
    exact this.lt g rfl
  clear hb3' hO3 hrc hS3 hfa hfarO hBV hAV hA0 hO hE hz0 hz1 hlz hcall hL hb3 q0 q1 d0 d1 d2 d3 d4 fz p0 p1 m0 m2 c0 c1 c2 c3 c4 f3 e0 e1 e3 hmk eI
  go_loopw [3] (fun i wr => ∃ k : Nat, k ≤ m.slots.length ∧ i = .int .i64 k ∧ Hid (CtX w wr B m val k)) (fun i _ => m.slots.length - (intOf i).toNat)
  case atStart => exact ⟨0, Nat.zero_le _, rfl, HS⟩
  case round =>
    obtain ⟨k, hk, rfl, HC⟩ := hrel
    obtain ⟨⟨vk, hOk, v0, v1, v2, v3, hfk⟩, hbox, hres, hbel, hkep⟩ := HC.out
    obtain ⟨e0, e1, e3⟩ := HV.out
    rw [e0] at v0
    rw [e1] at v1
    rw [e3] at v3
    rw [e0, e1, e3] at hbox
    obtain ⟨d0, d1, d2, d3, d4⟩ := five hbox
    have hgl := HG.out
    have g1 : ¬ g = w.heap.size := by omega
    have g2 : ¬ w.heap.size = g := by omega
    have g3 : ¬ g = w.heap.size + 1 := by omega
    have g4 : ¬ w.heap.size + 1 = g := by omega
    by_cases hlk : k < m.slots.length
    · have hki : (k : Int) < (m.slots.length : Int) := by omega
      obtain ⟨x, hx⟩ : ∃ x, x = (cntL m).getD k 0 := ⟨_, rfl⟩
      have cx : wr.cell? ⟨w.heap.size + 4, k, none⟩ = some (.int .i64 x) := by
        have hr := hOk.row .refs (LiveX.refs _)
        rw [v2] at hr
        have hr : wr.ownsRow B 3 1 (.slice (some ⟨w.heap.size + 4, 0, none⟩) m.slots.length m.slots.length) (cntL m).length (ints (cntL m)) := hr
        rw [hlc] at hr
        rw [hx]
        refine (hr.cellAt k (by omega)).trans ?_
        unfold ints
        rw [List.getElem?_map, List.getElem?_eq_getElem (by rw [hlc]; exact hlk)]
        simp [List.getD, hlc, hlk]
      have HX : Hid (x = (cntL m).getD k 0) := hx
      clear hx
      by_cases h0 : x = 0
      · have h0' : (x == 0) = true := by simp [h0]
        have H0 : Hid ((cntL m).getD k 0 = 0) := HX.out.symm.trans h0
        clear h0
        have hls := frT_length m k
        have hr := hOk.row .slots (LiveX.slots _)
        rw [v1] at hr
        obtain ⟨s0, s1, s2⟩ := flatS_get (L := (frT m k).slots) (tv := fun j => vk (.tab j)) (j := k) (by rw [hls]; exact hlk)
        have hr : wr.ownsRow B 33 3 (.slice (some ⟨g, 0, none⟩) m.slots.length sc) m.slots.length (flatS (frT m k).slots (fun j => vk (.tab j))) := by rw [← hls]; rw [← hls] at hr; exact hr
        have t0 : wr.cell? ⟨g, k * 3, none⟩ = some _ := (hr.cellAt (k * 3) (by omega)).trans s0
        have t1 : wr.cell? ⟨g, k * 3 + 1, none⟩ = some _ := (hr.cellAt (k * 3 + 1) (by omega)).trans s1
        have t2 : wr.cell? ⟨g, k * 3 + 2, none⟩ = some _ := (hr.cellAt (k * 3 + 2) (by omega)).trans s2
        have u0 := hr.frozenAt (k * 3)
        have u1 := hr.frozenAt (k * 3 + 1)
        have u2 := hr.frozenAt (k * 3 + 2)
        have HN : Hid (CtX w (((wr.setCell ⟨g, k * 3, none⟩ (.int .i64 0)).setCell ⟨g, k * 3 + 1, none⟩ (.string ⟨#[]⟩)).setCell ⟨g, k * 3 + 2, none⟩ (.slice none 0 0)) B m val (k + 1)) := by
          have hN := hOk.setSlot (t := k) (by rw [hls]; exact hlk) v1 0 ⟨#[]⟩ [] (ev := .slice none 0 0) (World.ownsRow_nil _ _ _ _) (farX_nil _ _ _ _ _)
          refine ⟨⟨upd vk (.tab k) (.slice none 0 0), ?_, (upd_other _ _ (by intro x; cases x)).trans (v0.trans e0.symm), (upd_other _ _ (by intro x; cases x)).trans (v1.trans e1.symm), (upd_other _ _ (by intro x; cases x)).trans v2, (upd_other _ _ (by intro x; cases x)).trans (v3.trans e3.symm), fun a ha hne q hq hm => ?_⟩, ?_, ?_, ((hbel.setCell hgl.1 _).setCell hgl.1 _).setCell hgl.1 _, ((hkep.own (LiveX.slots m) e1).own (LiveX.slots m) e1).own (LiveX.slots m) e1⟩
          · rw [frT_gone m H0.out]; exact hN
          · by_cases e : a = .tab k
            · subst e; rw [upd_same]; intro x; cases x
            · rw [upd_other _ _ e]; exact hfk a ha hne q hq hm
          · rw [e0, e1, e3]
            exact cells_other (cells_other (cells_other hbox g2 _ _) g2 _ _) g2 _ _
          · exact cells_other (cells_other (cells_other hres g4 _ _) g4 _ _) g4 _ _
        clear hkep hOk hbox hres hbel hr s0 s1 s2 e0 e1 e3 v0 v1 v2 v3 hfk HC HX H0 hls
        go_wp2_with fail
        go_roundw
        case rel => exact ⟨k + 1, by omega, by go_num, HN⟩
        case measure => simp [intOf]; omega
      · have h0' : (x == 0) = false := by simp [h0]
        have HN : Hid (CtX w wr B m val (k + 1)) := by
          refine ⟨⟨vk, ?_, v0.trans e0.symm, v1.trans e1.symm, v2, v3.trans e3.symm, hfk⟩, HC.out.box, HC.out.res, HC.out.bel, HC.out.kep⟩
          rw [frT_kept m (fun e => h0 (HX.out.trans e))]
          exact hOk
        clear hkep hOk hbox hres hbel e0 e1 e3 v0 v1 v2 v3 hfk HC HX
        go_wp2_with fail
        go_roundw
        case rel => exact ⟨k + 1, by omega, by go_num, HN⟩
        case measure => simp [intOf]; omega
    · have ek : k = m.slots.length := by omega
      subst ek
      obtain ⟨z0, z1, z2, z3, z4⟩ := five hres
      have y0 := cells_frozen hres 0
      have y1 := cells_frozen hres 1
      have y2 := cells_frozen hres 2
      have y3 := cells_frozen hres 3
      have y4 := cells_frozen hres 4
      have hfr : ∀ a, LiveX (frT m m.slots.length) a → (vk a).ownBlock ≠ some (w.heap.size + 1) := fun a ha => by
        by_cases e : a = .refs
        · subst e; rw [v2]; intro x; have x : w.heap.size + 4 = w.heap.size + 1 := Option.some.inj x; omega
        · exact (hfk a (liveX_frT ha) e _ (by omega) HFO.out)
      have hF : OX wr B vk (frT m m.slots.length) := hOk
      rw [frT_end] at hF hfr
      have HF : Hid (OX wr B vk (countedD m)) := hF
      have hsrc : SrcX w m val (.slice none 0 0) (countedD m) vk := fun q hq _ hm a ha => by
        by_cases e : a = .refs
        · subst e; rw [v2]; intro x; have x : w.heap.size + 4 = q := Option.some.inj x; omega
        · exact hfk a (liveX_counted ha) e q (by omega) hm
      clear hF hOk HC
      go_wp2_with fail
      have hB1 : B ≤ w.heap.size + 1 := by omega
      refine bodyPost_ret (v := .agg #[.int .i64 m.guest, .slice ra rn rc, .slice (some ⟨g, 0, none⟩) m.slots.length sc, .slice (some ⟨w.heap.size + 4, 0, none⟩) m.slots.length m.slots.length, .slice na nn nc]) (by simp [results, Try.results64, go_sem, z0, z1, z2, z3, z4]) rfl ⟨vk, ?_, ((((HF.out.far hfr).far hfr).far hfr).far hfr).far hfr, ((((hbel.setCell hB1 _).setCell hB1 _).setCell hB1 _).setCell hB1 _).setCell hB1 _, ((((hkep.new (by omega)).new (by omega)).new (by omega)).new (by omega)).new (by omega), hsrc⟩
      unfold imgV
      rw [v0, v1, v2, v3]

theorem countedX_is {m : ImgD} {B : Nat} {val : Nm → Value} {w : World} (hO : OX w B val m) (hB : B ≤ w.heap.size) (hE : shapeE { m with refs := rfZ m.slots } = 0) :
    Calls Try.prog 64 #[imgV m.guest val] w fun r w' => ∃ val', r = .returned (imgV m.guest val') ∧ OX w' B val' (countedD m) ∧ Below B w w' ∧ KeepX w w' m val ∧ SrcX w m val (.slice none 0 0) (countedD m) val' := by
  obtain ⟨ra, rc, e0, _⟩ := hO.forms .root (LiveX.root m)
  obtain ⟨sa, sc, e1, hs⟩ := hO.forms .slots (LiveX.slots m)
  obtain ⟨fa, fc, e2, _⟩ := hO.forms .refs (LiveX.refs m)
  obtain ⟨na, nc, e3, _⟩ := hO.forms .snaps (LiveX.snaps m)
  have h1s : 1 ≤ m.slots.length := (slotsE_parts (shapeE_zero hE).2.1).1
  obtain ⟨g, rfl⟩ := hs (by show 0 < m.slots.length; omega)
  have e1 : val .slots = .slice (some ⟨g, 0, none⟩) m.slots.length sc := e1
  unfold imgV
  rw [e0, e1, e2, e3]
  exact countedX_at m ra _ rc g sc fa _ fc na _ nc B val w hO e0 e1 e3 hB hE
end Go.Proofs.Ytehleeibgkpjmac
/- Contracts of the document's GrabOf, UsedOf. -/
namespace Go.Proofs.Ytehleeibgkpjmac
open Go.RowKit
set_option maxRecDepth 20000

set_option maxHeartbeats 1000000 in
theorem grabOf_at (b off cap n g : Nat) (L : List SlotD) (w : World) (hn : L.length = n) (h1 : 1 ≤ n) (h40 : n ≤ 40) (hc : ∀ j, (h : j < L.length) → SlAt w b (off + j * 3) L[j]) (hg : GrabAt L g) (c : Int) (hcc : (if g = 40 then (0 : Int) else g) = c) :
    Calls Try.prog 61 #[.slice (some ⟨b, off, none⟩) n cap] w fun r w' => r = .returned (.int .i64 c) ∧ w' = w := by
  have HQ : Hid ((if g = 40 then (0 : Int) else g) = c) := hcc
  clear hcc
  have HC : Hid (∀ j, (h : j < L.length) → SlAt w b (off + j * 3) L[j]) := hc
  have HN : Hid (L.length = n) := hn
  have HG : Hid (GrabAt L g) := hg
  clear hc hn hg
  go_enter Try.func61, Try.ntmps61
  go_wp2
  go_loop [3] (fun i => ∃ k : Nat, 1 ≤ k ∧ k ≤ n ∧ i = .int .i64 k ∧ ∀ j, (h : j < L.length) → 1 ≤ j → j < k → (L[j]).1 ≠ 0) (fun i => n - (intOf i).toNat)
  case atStart => exact ⟨1, Nat.le_refl _, h1, rfl, fun j h hj hj' => absurd hj' (by omega)⟩
  case round =>
    obtain ⟨k, hk1, hk, rfl, hall⟩ := hrel
    have HA : Hid (∀ j, (h : j < L.length) → 1 ≤ j → j < k → (L[j]).1 ≠ 0) := hall
    clear hall
    by_cases hlk : k < n
    · obtain ⟨s, hs'⟩ : ∃ s, s = L[k]'(by rw [HN.out]; exact hlk) := ⟨_, rfl⟩
      obtain ⟨kk, dd, tt⟩ := s
      have hS : SlAt w b (off + k * 3) (kk, dd, tt) := by rw [hs']; exact HC.out k _
      obtain ⟨tv, c1, _, _, _⟩ := hS
      have HS : Hid ((kk, dd, tt) = L[k]'(by rw [HN.out]; exact hlk)) := hs'
      clear hs'
      have hki : (k : Int) < (n : Int) := by omega
      by_cases h0 : kk = 0
      · have h0' : (kk == 0) = true := by simp [h0]
        have H0 : Hid (kk = 0) := h0
        clear h0
        have HE : Hid (g = k) := HG.out.unique ⟨hk1, by rw [HN.out]; exact hk, HA.out, fun h => by rw [← HS.out]; exact H0.out⟩
        go_wp2
        go_ret
        exact ⟨ret_int (by rw [← HQ.out, HE.out, if_neg (by omega)]), rfl⟩
      · have h0' : (kk == 0) = false := by simp [h0]
        go_wp2
        go_round
        case rel => exact ⟨k + 1, by omega, by omega, by go_num, fun j h hj hj' => by
          by_cases e : j = k
          · subst e; rw [← HS.out]; exact h0
          · exact HA.out j h hj (by omega)⟩
        case measure => simp [intOf]; omega
    · have e4 : k = n := by omega
      subst e4
      have HE : Hid (g = k) := HG.out.unique ⟨hk1, by rw [HN.out]; exact hk, HA.out, fun h => absurd h (by rw [HN.out]; omega)⟩
      by_cases e40 : k = 40
      · subst e40
        go_wp2
        go_ret
        exact ⟨ret_int (by rw [← HQ.out, HE.out, if_pos rfl]), rfl⟩
      · have hne : (k : Int) < 40 := by omega
        go_wp2
        go_ret
        exact ⟨ret_int (by rw [← HQ.out, HE.out, if_neg e40]), rfl⟩

end Go.Proofs.Ytehleeibgkpjmac
/- Contract of the document's tabled: a table is stored. -/
namespace Go.Proofs.Ytehleeibgkpjmac
open Go.RowKit Go.Shelf
theorem grabOf_row {W : World} {B g cap : Nat} {L : List SlotD} {tv : Nat → Value} (h : W.ownsRow B 33 3 (.slice (some ⟨g, 0, none⟩) L.length cap) L.length (flatS L tv)) (ht : ∀ j, j < L.length → Sl W (tv j) (L.getD j default).2.2) (h1 : 1 ≤ L.length) (h40 : L.length ≤ 40) {c : Int} (hc : (if grabN L = 40 then (0 : Int) else grabN L) = c) :
    Calls Try.prog 61 #[.slice (some ⟨g, 0, none⟩) L.length cap] W fun r w' => r = .returned (.int .i64 c) ∧ w' = W := by
  obtain ⟨ao, cap', e, _, _, hs⟩ := row_slots h ht
  obtain ⟨b, off, ha, hlt, hcl⟩ := hs (by intro x; rw [x] at h1; simp at h1)
  subst ha
  cases e
  exact grabOf_at g 0 cap _ _ L W rfl h1 h40 hcl (grabN_at h1) c hc

theorem root_cell {W : World} {B g cap : Nat} {l : List Int} (h : W.ownsRow B 3 1 (.slice (some ⟨g, 0, none⟩) l.length cap) l.length (ints l)) {k : Nat} (hk : k < l.length) : W.cell? ⟨g, k, none⟩ = some (.int .i64 (l.getD k 0)) :=
  (h.cellAt k (by omega)).trans (by unfold ints; rw [List.getElem?_map, List.getElem?_eq_getElem hk]; simp [List.getD, hk])

end Go.Proofs.Ytehleeibgkpjmac
/- tabled, its ways joined. -/
namespace Go.Proofs.Ytehleeibgkpjmac
open Go.RowKit Go.Shelf
set_option maxRecDepth 20000

def tabledM (m : ImgD) (k : Nat) (es : List Int) : ImgD := if bareL es = true then { m with root := m.root.set k 0 } else { m with root := m.root.set k (tabN m k : Int), slots := tabL m k es }
theorem set_same (l : List Int) (k : Nat) (x : Int) (h : l.getD k 0 = x) (hk : k < l.length) : l.set k x = l := by
  apply List.ext_getElem (by simp)
  intro j h1 h2
  rw [List.getElem_set]
  split
  · rename_i e; subst e; rw [← h]; simp [List.getD, hk]
  · rfl
end Go.Proofs.Ytehleeibgkpjmac
