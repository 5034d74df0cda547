/- Texts joined: OxL, OxC, SlotRef, TbdI, TbdJ, OxT, Strs, FlPlain, WrR, WrA, SetI, CpyH. -/
import Derived.Test.YtehleeibgkpjmacWritesWritesJ5
import Derived.Test.YtehleeibgkpjmacWritesWritesJ3
import Derived.Test.YtehleeibgkpjmacWritesWritesJ1
import Derived.Test.YtehleeibgkpjmacWritesWritesJ4
import Derived.Test.YtehleeibgkpjmacWritesWritesJ6
import Derived.Deep.RegionHeld3
/- Contract of the document's lay, of an image as the document makes it. -/
namespace Go.Proofs.Ytehleeibgkpjmac
open Go.RowKit Go.Shelf
set_option maxRecDepth 20000
set_option linter.unusedVariables false

theorem row_loose {W : World} {B : Nat} {v : Value} {es : List Int} (h : W.ownsRow B 3 1 v es.length (ints es)) (e : es = []) : ∃ ao cap, v = .slice ao 0 cap := by
  subst e
  rcases row_form h with ⟨x, _⟩ | ⟨g', cap', x, _⟩
  · exact ⟨_, _, x⟩
  · exact ⟨_, _, x⟩
set_option maxHeartbeats 4000000 in
theorem layX_new (m : ImgD) (gm : Int) (ra : Option Addr) (rn rc : Nat) (sa : Option Addr) (sc : Nat) (fa : Option Addr) (fn fc : Nat) (na : Option Addr) (nn nc : Nat) (k : Int) (d : ByteArray) (ea : Option Addr) (en ec : Nat) (es : List Int) (B : Nat) (val : Nm → Value) (w : World) (hO : OX w B val m) (e0 : val .root = .slice ra rn rc) (e1 : val .slots = .slice sa m.slots.length sc) (e2 : val .refs = .slice fa fn fc) (e3 : val .snaps = .slice na nn nc) (hB : B ≤ w.heap.size)
    (he : w.ownsRow B 3 1 (.slice ea en ec) es.length (ints es)) (hfar : FarX m val (.tab m.slots.length) (.slice ea en ec)) (hle : m.slots.length ≤ 1000) :
    Calls Try.prog 62 #[.agg #[.int .i64 gm, .slice ra rn rc, .slice sa m.slots.length sc, .slice fa fn fc, .slice na nn nc], .int .i64 (m.slots.length : Int), .agg #[.int .i64 k, .string d, .slice ea en ec]] w fun r w' => ∃ val', r = .returned (imgV gm val') ∧ OX w' B val' { m with slots := m.slots ++ [(k, d, es)] } ∧ Below B w w' ∧ KeepX w w' m val ∧ SrcX w m val (.slice ea en ec) { m with slots := m.slots ++ [(k, d, es)] } val' ∧ (∀ a, a ≠ .slots → a ≠ .tab m.slots.length → val' a = val a) := by
  have m0 : (((w.alloc (.cells #[.int .i64 gm, .slice ra rn rc, .slice sa m.slots.length sc, .slice fa fn fc, .slice na nn nc] 26)).alloc (.cells #[.int .i64 k, .string d, .slice ea en ec] 33)).alloc (.cells #[.int .i64 0, .slice none 0 0, .slice none 0 0, .slice none 0 0, .slice none 0 0] 26)).heap[w.heap.size]? = some (.cells #[.int .i64 gm, .slice ra rn rc, .slice sa m.slots.length sc, .slice fa fn fc, .slice na nn nc] 26) := cells_alloc (cells_alloc (World.alloc_heap_new _ _) _) _
  have m1 : (((w.alloc (.cells #[.int .i64 gm, .slice ra rn rc, .slice sa m.slots.length sc, .slice fa fn fc, .slice na nn nc] 26)).alloc (.cells #[.int .i64 k, .string d, .slice ea en ec] 33)).alloc (.cells #[.int .i64 0, .slice none 0 0, .slice none 0 0, .slice none 0 0, .slice none 0 0] 26)).heap[w.heap.size + 1]? = some (.cells #[.int .i64 k, .string d, .slice ea en ec] 33) := cells_alloc (by have := World.alloc_heap_new (w.alloc (.cells #[.int .i64 gm, .slice ra rn rc, .slice sa m.slots.length sc, .slice fa fn fc, .slice na nn nc] 26)) (.cells #[.int .i64 k, .string d, .slice ea en ec] 33); simpa using this) _
  have m2 : (((w.alloc (.cells #[.int .i64 gm, .slice ra rn rc, .slice sa m.slots.length sc, .slice fa fn fc, .slice na nn nc] 26)).alloc (.cells #[.int .i64 k, .string d, .slice ea en ec] 33)).alloc (.cells #[.int .i64 0, .slice none 0 0, .slice none 0 0, .slice none 0 0, .slice none 0 0] 26)).heap[w.heap.size + 1 + 1]? = some (.cells #[.int .i64 0, .slice none 0 0, .slice none 0 0, .slice none 0 0, .slice none 0 0] 26) := by have := World.alloc_heap_new ((w.alloc (.cells #[.int .i64 gm, .slice ra rn rc, .slice sa m.slots.length sc, .slice fa fn fc, .slice na nn nc] 26)).alloc (.cells #[.int .i64 k, .string d, .slice ea en ec] 33)) (.cells #[.int .i64 0, .slice none 0 0, .slice none 0 0, .slice none 0 0, .slice none 0 0] 26); simpa using this
  obtain ⟨c0, c1, c2, c3, c4⟩ := five m0
  go_enter Try.func62, Try.ntmps62
  have hown : (((w.alloc (.cells #[.int .i64 gm, .slice ra rn rc, .slice sa m.slots.length sc, .slice fa fn fc, .slice na nn nc] 26)).alloc (.cells #[.int .i64 k, .string d, .slice ea en ec] 33)).alloc (.cells #[.int .i64 0, .slice none 0 0, .slice none 0 0, .slice none 0 0, .slice none 0 0] 26)).ownsRow B 33 3 (.slice sa m.slots.length sc) m.slots.length (flatS m.slots (fun j => val (.tab j))) := by
    have := hO.row .slots (LiveX.slots m)
    rw [e1] at this
    exact ((this.alloc _).alloc _).alloc _
  go_wp2_with (at_builtin; refine wpList_app3 (by rfl) _ _ 23 33 _ Try.underlying23 infoSlot (by rfl) (by rfl) (B := B) (v := .slice sa m.slots.length sc) (c0 := .int .i64 k) (c1 := .string d) (c2 := .slice ea en ec) (by rfl) (by rfl) (by rfl) (by rfl) (by rfl) (by simp) hown hle (by simp <;> omega) ?_; intro v1 w1 h1 h2 h3; obtain ⟨g1, cap1, hv1⟩ := row_some h1.out; subst hv1; have q0 := (h2.block w.heap.size (by simp <;> omega) (ownX_old hO (LiveX.slots m) e1 (Nat.le_refl _))).trans (cells_alloc m0 _); obtain ⟨d0, d1, d2, d3, d4⟩ := five q0; have f2 := cells_frozen q0 2; have q2 := (h2.block (w.heap.size + 1 + 1) (by simp <;> omega) (ownX_old hO (LiveX.slots m) e1 (by omega))).trans (cells_alloc m2 _); obtain ⟨z0, z1, z2, z3, z4⟩ := five q2; have y0 := cells_frozen q2 0; have y1 := cells_frozen q2 1; have y2 := cells_frozen q2 2; have y3 := cells_frozen q2 3; have y4 := cells_frozen q2 4)
  have hA : OX ((((w.alloc (.cells #[.int .i64 gm, .slice ra rn rc, .slice sa m.slots.length sc, .slice fa fn fc, .slice na nn nc] 26)).alloc (.cells #[.int .i64 k, .string d, .slice ea en ec] 33)).alloc (.cells #[.int .i64 0, .slice none 0 0, .slice none 0 0, .slice none 0 0, .slice none 0 0] 26)).alloc (.cells #[.int .i64 k, .string d, .slice ea en ec] 33)) B val m := (((hO.alloc _).alloc _).alloc _).alloc _
  have hz : ((((w.alloc (.cells #[.int .i64 gm, .slice ra rn rc, .slice sa m.slots.length sc, .slice fa fn fc, .slice na nn nc] 26)).alloc (.cells #[.int .i64 k, .string d, .slice ea en ec] 33)).alloc (.cells #[.int .i64 0, .slice none 0 0, .slice none 0 0, .slice none 0 0, .slice none 0 0] 26)).alloc (.cells #[.int .i64 k, .string d, .slice ea en ec] 33)).heap.size = w.heap.size + 4 := by simp
  have hz0 : (((w.alloc (.cells #[.int .i64 gm, .slice ra rn rc, .slice sa m.slots.length sc, .slice fa fn fc, .slice na nn nc] 26)).alloc (.cells #[.int .i64 k, .string d, .slice ea en ec] 33)).alloc (.cells #[.int .i64 0, .slice none 0 0, .slice none 0 0, .slice none 0 0, .slice none 0 0] 26)).heap.size = w.heap.size + 3 := by simp
  have h3' : (Value.slice (some ⟨g1, 0, none⟩) (m.slots.length + 1) cap1).ownBlock = (val .slots).ownBlock ∨ (Value.slice (some ⟨g1, 0, none⟩) (m.slots.length + 1) cap1).ownBlock = some (w.heap.size + 4) := by
    rcases h3.out with e | e
    · exact .inl (e.trans (by rw [e1]))
    · refine .inr (e.trans ?_); rw [hz0]
  have hN := hA.addSlot (k := k) (d := d) (fun _ => (((he.alloc _).alloc _).alloc _).alloc _) (row_loose he) (fun _ => hfar) (by rw [e1]; exact h2) h1.out (h3'.imp id (fun e g hg => by rw [e] at hg; cases hg; omega))
  have hev : ∀ g, w.heap.size ≤ g → (Value.slice ea en ec).ownBlock ≠ some g := fun g hg e => by have := (he.lt g e).2; omega
  have hsv : ∀ g, w.heap.size ≤ g → g < w.heap.size + 4 → (Value.slice (some ⟨g1, 0, none⟩) (m.slots.length + 1) cap1).ownBlock ≠ some g := fun g hg hg4 e => by
    rcases h3' with x | x
    · rw [x] at e; exact hO.lt hg .slots (LiveX.slots m) e
    · rw [x] at e; cases e; omega
  have hf1 := addX_far (s := (k, d, es)) (hO.lt (Nat.le_refl _)) (fun _ => hev _ (Nat.le_refl _)) (hsv w.heap.size (Nat.le_refl _) (by omega))
  have hf2 := addX_far (s := (k, d, es)) (hO.lt (g := w.heap.size + 1 + 1) (by omega)) (fun _ => hev _ (by omega)) (hsv (w.heap.size + 1 + 1) (by omega) (by omega))
  have kB : KeepX w w1 m val := KeepX.grown (((((KeepX.refl w m val).alloc (Nat.le_refl _) _).alloc (by simp) _).alloc (by simp <;> omega) _).alloc (by simp <;> omega) _) (by simp <;> omega) (LiveX.slots m) e1 h2
  have bB : Below B w w1 := by
    refine Below.grown (row := (Value.slice sa m.slots.length sc).ownBlock) (((((Below.refl B w).alloc hB _).alloc (by simp <;> omega) _).alloc (by simp <;> omega) _).alloc (by simp <;> omega) _) h2 (by simp <;> omega) (fun q e => ?_)
    exact ((hO.row .slots (LiveX.slots m)).lt q (by rw [e1]; exact e)).1
  refine bodyPost_ret (v := .agg #[.int .i64 gm, .slice ra rn rc, .slice (some ⟨g1, 0, none⟩) (m.slots.length + 1) cap1, .slice fa fn fc, .slice na nn nc]) (by simp [results, Try.results62, go_sem, z0, z1, z2, z3, z4]) rfl ⟨_, ?_, (((((hN.far hf1).far hf2).far hf2).far hf2).far hf2).far hf2, (((((bB.setCell hB _).setCell (by show _ ≤ w.heap.size + 1 + 1; omega) _).setCell (by show _ ≤ w.heap.size + 1 + 1; omega) _).setCell (by show _ ≤ w.heap.size + 1 + 1; omega) _).setCell (by show _ ≤ w.heap.size + 1 + 1; omega) _).setCell (by show _ ≤ w.heap.size + 1 + 1; omega) _, ((((((kB.new (Nat.le_refl _)).new (by omega)).new (by omega)).new (by omega)).new (by omega)).new (by omega)), fun g hg hev' hm => addX_far hm (fun _ => hev') (fun e => by rcases h3' with x | x; (rw [x] at e; exact hm .slots (LiveX.slots m) e); (rw [x] at e; have e : w.heap.size + 4 = g := Option.some.inj e; omega)), fun a h1 h2 => ?_⟩
  · unfold imgV
    rw [upd_same, upd_other _ _ (by intro x; cases x), upd_other _ _ (by intro x; cases x), upd_other _ _ (by intro x; cases x), upd_other _ _ (by intro x; cases x), upd_other _ _ (by intro x; cases x), upd_other _ _ (by intro x; cases x), e0, e2, e3]
  · rw [upd_other _ _ h1, upd_other _ _ h2]

set_option maxHeartbeats 4000000 in
theorem layX_old (m : ImgD) (gm : Int) (ra : Option Addr) (rn rc : Nat) (sc : Nat) (fa : Option Addr) (fn fc : Nat) (na : Option Addr) (nn nc : Nat) (k : Int) (d : ByteArray) (ea : Option Addr) (en ec : Nat) (es : List Int) (i : Nat) (g : Nat) (B : Nat) (val : Nm → Value) (w : World) (hO : OX w B val m) (e0 : val .root = .slice ra rn rc) (e1 : val .slots = .slice (some ⟨g, 0, none⟩) m.slots.length sc) (e2 : val .refs = .slice fa fn fc) (e3 : val .snaps = .slice na nn nc) (hB : B ≤ w.heap.size)
    (he : w.ownsRow B 3 1 (.slice ea en ec) es.length (ints es)) (hfar : FarX m val (.tab i) (.slice ea en ec)) (hi : i < m.slots.length) :
    Calls Try.prog 62 #[.agg #[.int .i64 gm, .slice ra rn rc, .slice (some ⟨g, 0, none⟩) m.slots.length sc, .slice fa fn fc, .slice na nn nc], .int .i64 (i : Int), .agg #[.int .i64 k, .string d, .slice ea en ec]] w fun r w' => ∃ val', r = .returned (imgV gm val') ∧ OX w' B val' { m with slots := m.slots.set i (k, d, es) } ∧ Below B w w' ∧ KeepX w w' m val ∧ SrcX w m val (.slice ea en ec) { m with slots := m.slots.set i (k, d, es) } val' ∧ (∀ a, a ≠ .slots → a ≠ .tab i → val' a = val a) := by
  have m0 : (((w.alloc (.cells #[.int .i64 gm, .slice ra rn rc, .slice (some ⟨g, 0, none⟩) m.slots.length sc, .slice fa fn fc, .slice na nn nc] 26)).alloc (.cells #[.int .i64 k, .string d, .slice ea en ec] 33)).alloc (.cells #[.int .i64 0, .slice none 0 0, .slice none 0 0, .slice none 0 0, .slice none 0 0] 26)).heap[w.heap.size]? = some (.cells #[.int .i64 gm, .slice ra rn rc, .slice (some ⟨g, 0, none⟩) m.slots.length sc, .slice fa fn fc, .slice na nn nc] 26) := cells_alloc (cells_alloc (World.alloc_heap_new _ _) _) _
  have m1 : (((w.alloc (.cells #[.int .i64 gm, .slice ra rn rc, .slice (some ⟨g, 0, none⟩) m.slots.length sc, .slice fa fn fc, .slice na nn nc] 26)).alloc (.cells #[.int .i64 k, .string d, .slice ea en ec] 33)).alloc (.cells #[.int .i64 0, .slice none 0 0, .slice none 0 0, .slice none 0 0, .slice none 0 0] 26)).heap[w.heap.size + 1]? = some (.cells #[.int .i64 k, .string d, .slice ea en ec] 33) := cells_alloc (by have := World.alloc_heap_new (w.alloc (.cells #[.int .i64 gm, .slice ra rn rc, .slice (some ⟨g, 0, none⟩) m.slots.length sc, .slice fa fn fc, .slice na nn nc] 26)) (.cells #[.int .i64 k, .string d, .slice ea en ec] 33); simpa using this) _
  have m2 : (((w.alloc (.cells #[.int .i64 gm, .slice ra rn rc, .slice (some ⟨g, 0, none⟩) m.slots.length sc, .slice fa fn fc, .slice na nn nc] 26)).alloc (.cells #[.int .i64 k, .string d, .slice ea en ec] 33)).alloc (.cells #[.int .i64 0, .slice none 0 0, .slice none 0 0, .slice none 0 0, .slice none 0 0] 26)).heap[w.heap.size + 1 + 1]? = some (.cells #[.int .i64 0, .slice none 0 0, .slice none 0 0, .slice none 0 0, .slice none 0 0] 26) := by have := World.alloc_heap_new ((w.alloc (.cells #[.int .i64 gm, .slice ra rn rc, .slice (some ⟨g, 0, none⟩) m.slots.length sc, .slice fa fn fc, .slice na nn nc] 26)).alloc (.cells #[.int .i64 k, .string d, .slice ea en ec] 33)) (.cells #[.int .i64 0, .slice none 0 0, .slice none 0 0, .slice none 0 0, .slice none 0 0] 26); simpa using this
  obtain ⟨c0, c1, c2, c3, c4⟩ := five m0
  obtain ⟨z0, z1, z2, z3, z4⟩ := five m2
  have y0 := cells_frozen m2 0
  have y1 := cells_frozen m2 1
  have y2 := cells_frozen m2 2
  have y3 := cells_frozen m2 3
  have y4 := cells_frozen m2 4
  have hA : OX (((w.alloc (.cells #[.int .i64 gm, .slice ra rn rc, .slice (some ⟨g, 0, none⟩) m.slots.length sc, .slice fa fn fc, .slice na nn nc] 26)).alloc (.cells #[.int .i64 k, .string d, .slice ea en ec] 33)).alloc (.cells #[.int .i64 0, .slice none 0 0, .slice none 0 0, .slice none 0 0, .slice none 0 0] 26)) B val m := ((hO.alloc _).alloc _).alloc _
  have hr := hA.row .slots (LiveX.slots m)
  rw [e1] at hr
  obtain ⟨s0, s1, s2⟩ := flatS_get (tv := fun j => val (.tab j)) hi
  have t0 : (((w.alloc (.cells #[.int .i64 gm, .slice ra rn rc, .slice (some ⟨g, 0, none⟩) m.slots.length sc, .slice fa fn fc, .slice na nn nc] 26)).alloc (.cells #[.int .i64 k, .string d, .slice ea en ec] 33)).alloc (.cells #[.int .i64 0, .slice none 0 0, .slice none 0 0, .slice none 0 0, .slice none 0 0] 26)).cell? ⟨g, i * 3, none⟩ = some _ := (hr.cellAt (i * 3) (by show _ < _ * 3; omega)).trans s0
  have t1 : (((w.alloc (.cells #[.int .i64 gm, .slice ra rn rc, .slice (some ⟨g, 0, none⟩) m.slots.length sc, .slice fa fn fc, .slice na nn nc] 26)).alloc (.cells #[.int .i64 k, .string d, .slice ea en ec] 33)).alloc (.cells #[.int .i64 0, .slice none 0 0, .slice none 0 0, .slice none 0 0, .slice none 0 0] 26)).cell? ⟨g, i * 3 + 1, none⟩ = some _ := (hr.cellAt (i * 3 + 1) (by show _ < _ * 3; omega)).trans s1
  have t2 : (((w.alloc (.cells #[.int .i64 gm, .slice ra rn rc, .slice (some ⟨g, 0, none⟩) m.slots.length sc, .slice fa fn fc, .slice na nn nc] 26)).alloc (.cells #[.int .i64 k, .string d, .slice ea en ec] 33)).alloc (.cells #[.int .i64 0, .slice none 0 0, .slice none 0 0, .slice none 0 0, .slice none 0 0] 26)).cell? ⟨g, i * 3 + 2, none⟩ = some _ := (hr.cellAt (i * 3 + 2) (by show _ < _ * 3; omega)).trans s2
  have u0 := hr.frozenAt (i * 3)
  have u1 := hr.frozenAt (i * 3 + 1)
  have u2 := hr.frozenAt (i * 3 + 2)
  have hne : ((i : Int) == (m.slots.length : Int)) = false := by simp; omega
  have hne' : ¬ (i : Int) = (m.slots.length : Int) := by omega
  have hil : (i : Int) < (m.slots.length : Int) := by omega
  have hgl : g < w.heap.size := by
    have := hO.row .slots (LiveX.slots m)
    rw [e1] at this
    exact (this.lt g rfl).2
  have hgB : B ≤ g := by
    have := hO.row .slots (LiveX.slots m)
    rw [e1] at this
    exact (this.lt g rfl).1
  have g1 : ¬ g = w.heap.size := by omega
  have g2 : ¬ w.heap.size = g := by omega
  have g3 : ¬ g = w.heap.size + 1 + 1 := by omega
  have g4 : ¬ w.heap.size + 1 + 1 = g := by omega
  go_enter Try.func62, Try.ntmps62
  go_wp2_with fail
  have hN := hA.setSlot hi e1 k d es (((he.alloc _).alloc _).alloc _) hfar
  have hev : ∀ g, w.heap.size ≤ g → (Value.slice ea en ec).ownBlock ≠ some g := fun g hg e => by have := (he.lt g e).2; omega
  have hf2 := setX_far (s := (k, d, es)) (hO.lt (g := w.heap.size + 1 + 1) (by omega)) (hev (w.heap.size + 1 + 1) (by omega)) (i := i)
  have kB : KeepX w (((w.alloc (.cells #[.int .i64 gm, .slice ra rn rc, .slice (some ⟨g, 0, none⟩) m.slots.length sc, .slice fa fn fc, .slice na nn nc] 26)).alloc (.cells #[.int .i64 k, .string d, .slice ea en ec] 33)).alloc (.cells #[.int .i64 0, .slice none 0 0, .slice none 0 0, .slice none 0 0, .slice none 0 0] 26)) m val := (((KeepX.refl w m val).alloc (Nat.le_refl _) _).alloc (by simp) _).alloc (by simp <;> omega) _
  have bB : Below B w (((w.alloc (.cells #[.int .i64 gm, .slice ra rn rc, .slice (some ⟨g, 0, none⟩) m.slots.length sc, .slice fa fn fc, .slice na nn nc] 26)).alloc (.cells #[.int .i64 k, .string d, .slice ea en ec] 33)).alloc (.cells #[.int .i64 0, .slice none 0 0, .slice none 0 0, .slice none 0 0, .slice none 0 0] 26)) := (((Below.refl B w).alloc hB _).alloc (by simp <;> omega) _).alloc (by simp <;> omega) _
  refine bodyPost_ret (v := .agg #[.int .i64 gm, .slice ra rn rc, .slice (some ⟨g, 0, none⟩) m.slots.length sc, .slice fa fn fc, .slice na nn nc]) (by simp [results, Try.results62, go_sem, z0, z1, z2, z3, z4]) rfl ⟨_, ?_, ((((hN.far hf2).far hf2).far hf2).far hf2).far hf2, (((((((bB.setCell hgB _).setCell hgB _).setCell hgB _).setCell (by show _ ≤ w.heap.size + 1 + 1; omega) _).setCell (by show _ ≤ w.heap.size + 1 + 1; omega) _).setCell (by show _ ≤ w.heap.size + 1 + 1; omega) _).setCell (by show _ ≤ w.heap.size + 1 + 1; omega) _).setCell (by show _ ≤ w.heap.size + 1 + 1; omega) _, ((((((((kB.own (LiveX.slots m) e1).own (LiveX.slots m) e1).own (LiveX.slots m) e1).new (by omega)).new (by omega)).new (by omega)).new (by omega)).new (by omega)), fun _ _ hev' hm => setX_far hm hev', fun a _ h2 => upd_other _ _ h2⟩
  unfold imgV
  rw [upd_other _ _ (by intro x; cases x), upd_other _ _ (by intro x; cases x), upd_other _ _ (by intro x; cases x), upd_other _ _ (by intro x; cases x), e0, e1, e2, e3]

theorem layX_is {m : ImgD} (gm : Int) {k : Int} {d : ByteArray} {ev : Value} {es : List Int} {B : Nat} {val : Nm → Value} {w : World} (hO : OX w B val m) (hB : B ≤ w.heap.size) {i : Nat} (hi : i ≤ m.slots.length) (hle : m.slots.length ≤ 1000)
    (he : w.ownsRow B 3 1 ev es.length (ints es)) (hfar : FarX m val (.tab i) ev) :
    Calls Try.prog 62 #[imgV gm val, .int .i64 (i : Int), .agg #[.int .i64 k, .string d, ev]] w fun r w' => ∃ val', r = .returned (imgV gm val') ∧ OX w' B val' { m with slots := layS m.slots i (k, d, es) } ∧ Below B w w' ∧ KeepX w w' m val ∧ SrcX w m val ev { m with slots := layS m.slots i (k, d, es) } val' ∧ (∀ a, a ≠ .slots → a ≠ .tab i → val' a = val a) := by
  obtain ⟨ra, rc, e0, _⟩ := hO.forms .root (LiveX.root m)
  obtain ⟨sa, sc, e1, hs⟩ := hO.forms .slots (LiveX.slots m)
  obtain ⟨fa, fc, e2, _⟩ := hO.forms .refs (LiveX.refs m)
  obtain ⟨na, nc, e3, _⟩ := hO.forms .snaps (LiveX.snaps m)
  have hev : ∃ ea en ec, ev = .slice ea en ec := by
    rcases row_form he with ⟨e, _⟩ | ⟨g, cap, e, _⟩
    · exact ⟨_, _, _, e⟩
    · exact ⟨_, _, _, e⟩
  obtain ⟨ea, en, ec, rfl⟩ := hev
  have e1 : val .slots = .slice sa m.slots.length sc := e1
  unfold imgV
  rw [e0, e1, e2, e3]
  unfold layS
  by_cases e : i = m.slots.length
  · subst e
    rw [if_pos rfl]
    exact layX_new m gm ra _ rc sa sc fa _ fc na _ nc k d ea en ec es B val w hO e0 e1 e2 e3 hB he hfar hle
  · rw [if_neg e]
    obtain ⟨g, rfl⟩ := hs (by show 0 < m.slots.length; omega)
    exact layX_old m gm ra _ rc sc fa _ fc na _ nc k d ea en ec es i g B val w hO e0 e1 e2 e3 hB he hfar (by omega)
end Go.Proofs.Ytehleeibgkpjmac
/- Contract of the document's counted, of an image as the document makes it. -/
namespace Go.Proofs.Ytehleeibgkpjmac
open Go.RowKit Go.Shelf
set_option maxRecDepth 20000
set_option linter.unusedVariables false

theorem liveX_frT {m : ImgD} {k : Nat} {a : Nm} (h : LiveX (frT m k) a) : LiveX m a := by
  rcases h.cases with rfl | rfl | rfl | rfl | ⟨j, rfl, hj, hn⟩ | ⟨j, rfl, hj⟩
  · exact LiveX.root m
  · exact LiveX.slots m
  · exact LiveX.refs m
  · exact LiveX.snaps m
  · rw [frT_length] at hj
    refine LiveX.tab ⟨hj, fun e => hn ?_⟩
    show ((frT m k).slots.getD j default).2.2 = []
    rw [frT_get m k hj]
    split
    · rfl
    · exact e
  · exact LiveX.sr hj
theorem liveX_counted {m : ImgD} {a : Nm} (h : LiveX (countedD m) a) : LiveX m a := by
  rw [← frT_end] at h; exact liveX_frT h
structure CtX (w wr : World) (B : Nat) (m : ImgD) (val : Nm → Value) (k : Nat) : Prop where
  own : ∃ vk, OX wr B vk (frT m k) ∧ vk .root = val .root ∧ vk .slots = val .slots ∧ vk .refs = .slice (some ⟨w.heap.size + 4, 0, none⟩) m.slots.length m.slots.length ∧ vk .snaps = val .snaps ∧ (∀ a, LiveX m a → a ≠ .refs → ∀ q, q < w.heap.size + 2 → (∀ b, LiveX m b → (val b).ownBlock ≠ some q) → (vk a).ownBlock ≠ some q)
  box : wr.heap[w.heap.size]? = some (.cells #[.int .i64 m.guest, val .root, val .slots, .slice (some ⟨w.heap.size + 4, 0, none⟩) m.slots.length m.slots.length, val .snaps] 26)
  res : wr.heap[w.heap.size + 1]? = some (.cells #[.int .i64 0, .slice none 0 0, .slice none 0 0, .slice none 0 0, .slice none 0 0] 26)
  bel : Below B w wr
  kep : KeepX w wr m val

set_option maxHeartbeats 4000000 in
theorem countedX_at (m : ImgD) (ra : Option Addr) (rn rc : Nat) (g sc : Nat) (fa : Option Addr) (fn fc : Nat) (na : Option Addr) (nn nc : Nat) (B : Nat) (val : Nm → Value) (w : World) (hO : OX w B val m) (e0 : val .root = .slice ra rn rc) (e1 : val .slots = .slice (some ⟨g, 0, none⟩) m.slots.length sc) (e3 : val .snaps = .slice na nn nc) (hB : B ≤ w.heap.size) (hE : shapeE { m with refs := rfZ m.slots } = 0) :
    Calls Try.prog 64 #[.agg #[.int .i64 m.guest, .slice ra rn rc, .slice (some ⟨g, 0, none⟩) m.slots.length sc, .slice fa fn fc, .slice na nn nc]] w fun r w' => ∃ val', r = .returned (imgV m.guest val') ∧ OX w' B val' (countedD m) ∧ Below B w w' ∧ KeepX w w' m val ∧ SrcX w m val (.slice none 0 0) (countedD m) val' := by
  have m0 : ((w.alloc (.cells #[.int .i64 m.guest, .slice ra rn rc, .slice (some ⟨g, 0, none⟩) m.slots.length sc, .slice fa fn fc, .slice na nn nc] 26)).alloc (.cells #[.int .i64 0, .slice none 0 0, .slice none 0 0, .slice none 0 0, .slice none 0 0] 26)).heap[w.heap.size]? = some (.cells #[.int .i64 m.guest, .slice ra rn rc, .slice (some ⟨g, 0, none⟩) m.slots.length sc, .slice fa fn fc, .slice na nn nc] 26) := cells_alloc (World.alloc_heap_new _ _) _
  have m2 : ((w.alloc (.cells #[.int .i64 m.guest, .slice ra rn rc, .slice (some ⟨g, 0, none⟩) m.slots.length sc, .slice fa fn fc, .slice na nn nc] 26)).alloc (.cells #[.int .i64 0, .slice none 0 0, .slice none 0 0, .slice none 0 0, .slice none 0 0] 26)).heap[w.heap.size + 1]? = some (.cells #[.int .i64 0, .slice none 0 0, .slice none 0 0, .slice none 0 0, .slice none 0 0] 26) := by have := World.alloc_heap_new (w.alloc (.cells #[.int .i64 m.guest, .slice ra rn rc, .slice (some ⟨g, 0, none⟩) m.slots.length sc, .slice fa fn fc, .slice na nn nc] 26)) (.cells #[.int .i64 0, .slice none 0 0, .slice none 0 0, .slice none 0 0, .slice none 0 0] 26); simpa using this
  obtain ⟨c0, c1, c2, c3, c4⟩ := five m0
  have f3 := cells_frozen m0 3
  have h40 : m.slots.length ≤ 40 := (slotsE_parts (shapeE_zero hE).2.1).2
  have h1s : 1 ≤ m.slots.length := (slotsE_parts (shapeE_zero hE).2.1).1
  have hmk := mk_ints m.slots.length h40
  go_enter Try.func64, Try.ntmps64
  have hz0 : ((w.alloc (.cells #[.int .i64 m.guest, .slice ra rn rc, .slice (some ⟨g, 0, none⟩) m.slots.length sc, .slice (some ⟨w.heap.size + 1 + 1, 0, none⟩) m.slots.length m.slots.length, .slice na nn nc] 26)).alloc (.cells #[.int .i64 0, .slice none 0 0, .slice none 0 0, .slice none 0 0, .slice none 0 0] 26)).heap.size = w.heap.size + 1 + 1 := by simp
  have hz1 : (((w.alloc (.cells #[.int .i64 m.guest, .slice ra rn rc, .slice (some ⟨g, 0, none⟩) m.slots.length sc, .slice (some ⟨w.heap.size + 1 + 1, 0, none⟩) m.slots.length m.slots.length, .slice na nn nc] 26)).alloc (.cells #[.int .i64 0, .slice none 0 0, .slice none 0 0, .slice none 0 0, .slice none 0 0] 26)).alloc (.cells (Array.replicate m.slots.length (.int .i64 0)) 3)).heap.size = w.heap.size + 3 := by simp
  have hlz : (rfZ m.slots).length = m.slots.length := by simp [rfZ]
  have hAr : Array.replicate m.slots.length (Value.int .i64 0) = (ints (rfZ m.slots)).toArray := by simp [ints, rfZ]
  have hrow : (((w.alloc (.cells #[.int .i64 m.guest, .slice ra rn rc, .slice (some ⟨g, 0, none⟩) m.slots.length sc, .slice (some ⟨w.heap.size + 1 + 1, 0, none⟩) m.slots.length m.slots.length, .slice na nn nc] 26)).alloc (.cells #[.int .i64 0, .slice none 0 0, .slice none 0 0, .slice none 0 0, .slice none 0 0] 26)).alloc (.cells (Array.replicate m.slots.length (.int .i64 0)) 3)).ownsRow B 3 1 (.slice (some ⟨w.heap.size + 1 + 1, 0, none⟩) m.slots.length m.slots.length) (rfZ m.slots).length (ints (rfZ m.slots)) := by
    have := new_row ((w.alloc (.cells #[.int .i64 m.guest, .slice ra rn rc, .slice (some ⟨g, 0, none⟩) m.slots.length sc, .slice (some ⟨w.heap.size + 1 + 1, 0, none⟩) m.slots.length m.slots.length, .slice na nn nc] 26)).alloc (.cells #[.int .i64 0, .slice none 0 0, .slice none 0 0, .slice none 0 0, .slice none 0 0] 26)) (rfZ m.slots) (by rw [hlz]; omega) (B := B) (by rw [hz0]; omega)
    rw [hz0, hlz] at this
    rw [hAr, hlz]
    exact this
  have hA0 : OX ((w.alloc (.cells #[.int .i64 m.guest, .slice ra rn rc, .slice (some ⟨g, 0, none⟩) m.slots.length sc, .slice (some ⟨w.heap.size + 1 + 1, 0, none⟩) m.slots.length m.slots.length, .slice na nn nc] 26)).alloc (.cells #[.int .i64 0, .slice none 0 0, .slice none 0 0, .slice none 0 0, .slice none 0 0] 26)) B val m := (hO.alloc _).alloc _
  have hZ := (hA0.alloc (.cells (Array.replicate m.slots.length (.int .i64 0)) 3)).swapRefs hrow (farX_new hA0 .refs (fun q e => by cases e; rw [hz0]; exact Nat.le_refl _))
  have hI := hZ.img
  have hcall := countsOf_is hI hE
  have eI : imgV m.guest (upd val .refs (.slice (some ⟨w.heap.size + 1 + 1, 0, none⟩) m.slots.length m.slots.length)) = .agg #[.int .i64 m.guest, .slice ra rn rc, .slice (some ⟨g, 0, none⟩) m.slots.length sc, .slice (some ⟨w.heap.size + 1 + 1, 0, none⟩) m.slots.length m.slots.length, .slice na nn nc] := by
    unfold imgV
    rw [upd_same, upd_other _ _ (by intro x; cases x), upd_other _ _ (by intro x; cases x), upd_other _ _ (by intro x; cases x), e0, e1, e3]
  have hcall : Calls Try.prog 48 #[.agg #[.int .i64 m.guest, .slice ra rn rc, .slice (some ⟨g, 0, none⟩) m.slots.length sc, .slice (some ⟨w.heap.size + 1 + 1, 0, none⟩) m.slots.length m.slots.length, .slice na nn nc]] (((w.alloc (.cells #[.int .i64 m.guest, .slice ra rn rc, .slice (some ⟨g, 0, none⟩) m.slots.length sc, .slice (some ⟨w.heap.size + 1 + 1, 0, none⟩) m.slots.length m.slots.length, .slice na nn nc] 26)).alloc (.cells #[.int .i64 0, .slice none 0 0, .slice none 0 0, .slice none 0 0, .slice none 0 0] 26)).alloc (.cells (Array.replicate m.slots.length (.int .i64 0)) 3)) fun r w' => (r = .returned (.slice (some ⟨w.heap.size + 4, 0, none⟩) m.slots.length m.slots.length) ∧ Hid (LAt w' (w.heap.size + 4) (cntL m))) ∧ Hid (Below (w.heap.size + 3) (((w.alloc (.cells #[.int .i64 m.guest, .slice ra rn rc, .slice (some ⟨g, 0, none⟩) m.slots.length sc, .slice (some ⟨w.heap.size + 1 + 1, 0, none⟩) m.slots.length m.slots.length, .slice na nn nc] 26)).alloc (.cells #[.int .i64 0, .slice none 0 0, .slice none 0 0, .slice none 0 0, .slice none 0 0] 26)).alloc (.cells (Array.replicate m.slots.length (.int .i64 0)) 3)) w') := by
    have h := hcall
    rw [hz1, show imgV ({ m with refs := rfZ m.slots } : ImgD).guest (upd val .refs (.slice (some ⟨w.heap.size + 1 + 1, 0, none⟩) m.slots.length m.slots.length)) = .agg #[.int .i64 m.guest, .slice ra rn rc, .slice (some ⟨g, 0, none⟩) m.slots.length sc, .slice (some ⟨w.heap.size + 1 + 1, 0, none⟩) m.slots.length m.slots.length, .slice na nn nc] from eI] at h
    exact h
  have p0 : (((w.alloc (.cells #[.int .i64 m.guest, .slice ra rn rc, .slice (some ⟨g, 0, none⟩) m.slots.length sc, .slice (some ⟨w.heap.size + 1 + 1, 0, none⟩) m.slots.length m.slots.length, .slice na nn nc] 26)).alloc (.cells #[.int .i64 0, .slice none 0 0, .slice none 0 0, .slice none 0 0, .slice none 0 0] 26)).alloc (.cells (Array.replicate m.slots.length (.int .i64 0)) 3)).heap[w.heap.size]? = some (.cells #[.int .i64 m.guest, .slice ra rn rc, .slice (some ⟨g, 0, none⟩) m.slots.length sc, .slice (some ⟨w.heap.size + 1 + 1, 0, none⟩) m.slots.length m.slots.length, .slice na nn nc] 26) := cells_alloc (cells_alloc (World.alloc_heap_new _ _) _) _
  have p1 : (((w.alloc (.cells #[.int .i64 m.guest, .slice ra rn rc, .slice (some ⟨g, 0, none⟩) m.slots.length sc, .slice (some ⟨w.heap.size + 1 + 1, 0, none⟩) m.slots.length m.slots.length, .slice na nn nc] 26)).alloc (.cells #[.int .i64 0, .slice none 0 0, .slice none 0 0, .slice none 0 0, .slice none 0 0] 26)).alloc (.cells (Array.replicate m.slots.length (.int .i64 0)) 3)).heap[w.heap.size + 1]? = some (.cells #[.int .i64 0, .slice none 0 0, .slice none 0 0, .slice none 0 0, .slice none 0 0] 26) := cells_alloc (by have := World.alloc_heap_new (w.alloc (.cells #[.int .i64 m.guest, .slice ra rn rc, .slice (some ⟨g, 0, none⟩) m.slots.length sc, .slice (some ⟨w.heap.size + 1 + 1, 0, none⟩) m.slots.length m.slots.length, .slice na nn nc] 26)) (.cells #[.int .i64 0, .slice none 0 0, .slice none 0 0, .slice none 0 0, .slice none 0 0] 26); simpa using this) _
  have hfarO : ∀ a, LiveX m a → (val a).ownBlock ≠ some w.heap.size ∧ (val a).ownBlock ≠ some (w.heap.size + 1) := fun a ha => ⟨hO.lt (Nat.le_refl _) a ha, hO.lt (by omega) a ha⟩
  have hBV : Below B w (((w.alloc (.cells #[.int .i64 m.guest, .slice ra rn rc, .slice (some ⟨g, 0, none⟩) m.slots.length sc, .slice (some ⟨w.heap.size + 1 + 1, 0, none⟩) m.slots.length m.slots.length, .slice na nn nc] 26)).alloc (.cells #[.int .i64 0, .slice none 0 0, .slice none 0 0, .slice none 0 0, .slice none 0 0] 26)).alloc (.cells (Array.replicate m.slots.length (.int .i64 0)) 3)) := (((Below.refl B w).alloc hB _).alloc (by simp <;> omega) _).alloc (by simp <;> omega) _
  have hAV : OX (((w.alloc (.cells #[.int .i64 m.guest, .slice ra rn rc, .slice (some ⟨g, 0, none⟩) m.slots.length sc, .slice (some ⟨w.heap.size + 1 + 1, 0, none⟩) m.slots.length m.slots.length, .slice na nn nc] 26)).alloc (.cells #[.int .i64 0, .slice none 0 0, .slice none 0 0, .slice none 0 0, .slice none 0 0] 26)).alloc (.cells (Array.replicate m.slots.length (.int .i64 0)) 3)) B val m := hA0.alloc _
  have hlc : (cntL m).length = m.slots.length := cntL_length m
  clear hI hZ hrow hAr
  go_wp2_with (go_at_call 48; refine hcall.mono ?_; rintro e w3 ⟨⟨rfl, hL⟩, hb3⟩; have q0 := cells_below p0 hb3.out (by omega); have q1 := cells_below p1 hb3.out (by omega); obtain ⟨d0, d1, d2, d3, d4⟩ := five q0; have fz := cells_frozen q0 3)
  have hb3' : Below (((w.alloc (.cells #[.int .i64 m.guest, .slice ra rn rc, .slice (some ⟨g, 0, none⟩) m.slots.length sc, .slice (some ⟨w.heap.size + 1 + 1, 0, none⟩) m.slots.length m.slots.length, .slice na nn nc] 26)).alloc (.cells #[.int .i64 0, .slice none 0 0, .slice none 0 0, .slice none 0 0, .slice none 0 0] 26)).alloc (.cells (Array.replicate m.slots.length (.int .i64 0)) 3)).heap.size (((w.alloc (.cells #[.int .i64 m.guest, .slice ra rn rc, .slice (some ⟨g, 0, none⟩) m.slots.length sc, .slice (some ⟨w.heap.size + 1 + 1, 0, none⟩) m.slots.length m.slots.length, .slice na nn nc] 26)).alloc (.cells #[.int .i64 0, .slice none 0 0, .slice none 0 0, .slice none 0 0, .slice none 0 0] 26)).alloc (.cells (Array.replicate m.slots.length (.int .i64 0)) 3)) w3 := by rw [hz1]; exact hb3.out
  have hO3 : OX w3 B val m := hAV.below hb3'
  have hrc : w3.ownsRow B 3 1 (.slice (some ⟨w.heap.size + 4, 0, none⟩) m.slots.length m.slots.length) (cntL m).length (ints (cntL m)) := by
    have := row_LAt hL.out (B := B) (by omega) (by rw [hlc]; omega)
    rw [hlc] at this ⊢
    exact this
  have hS3 := hO3.swapRefs hrc (farX_new hAV .refs (fun q e => by cases e; rw [hz1]; show w.heap.size + 3 ≤ w.heap.size + 4; omega))
  have hfa : ∀ a, LiveX m a → a ≠ .refs → ∀ q, q < w.heap.size + 2 → (∀ b, LiveX m b → (val b).ownBlock ≠ some q) → (upd val .refs (.slice (some ⟨w.heap.size + 4, 0, none⟩) m.slots.length m.slots.length) a).ownBlock ≠ some q := fun a ha hne q _ hm => by rw [upd_other _ _ hne]; exact hm a ha
  have HFO : Hid (∀ b, LiveX m b → (val b).ownBlock ≠ some (w.heap.size + 1)) := fun b hb => (hfarO b hb).2
  have HS : Hid (CtX w (w3.setCell ⟨w.heap.size, 3, none⟩ (.slice (some ⟨w.heap.size + 4, 0, none⟩) m.slots.length m.slots.length)) B m val 0) := by
    refine ⟨⟨upd val .refs (.slice (some ⟨w.heap.size + 4, 0, none⟩) m.slots.length m.slots.length), ?_, upd_other _ _ (by intro x; cases x), upd_other _ _ (by intro x; cases x), upd_same _ _ _, upd_other _ _ (by intro x; cases x), hfa⟩, ?_, cells_other q1 (by omega) _ _, (hBV.trans (hb3'.mono (by rw [hz1]; omega))).setCell hB _, (KeepX.below ((((KeepX.refl w m val).alloc (Nat.le_refl _) _).alloc (by simp) _).alloc (by simp <;> omega) _) (n := w.heap.size + 3) (by omega) hb3.out).new (Nat.le_refl _)⟩
    · rw [frT_zero]
      refine hS3.far (fun a ha => ?_)
      by_cases e : a = .refs
      · subst e; rw [upd_same]; intro x; have x : w.heap.size + 4 = w.heap.size := Option.some.inj x; omega
      · exact hfa a ha e w.heap.size (by omega) (fun b hb => (hfarO b hb).1)
    · have := cells_set q0 3 (.slice (some ⟨w.heap.size + 4, 0, none⟩) m.slots.length m.slots.length)
      rw [e0, e1, e3]
      exact this
  have HV : Hid (val .root = .slice ra rn rc ∧ val .slots = .slice (some ⟨g, 0, none⟩) m.slots.length sc ∧ val .snaps = .slice na nn nc) := ⟨e0, e1, e3⟩
  have HG : Hid (B ≤ g ∧ g < w.heap.size) := by
    have := hO.row .slots (LiveX.slots m)
    rw [e1] at this
    exact this.lt g rfl
  clear hb3' hO3 hrc hS3 hfa hfarO hBV hAV hA0 hO hE hz0 hz1 hlz hcall hL hb3 q0 q1 d0 d1 d2 d3 d4 fz p0 p1 m0 m2 c0 c1 c2 c3 c4 f3 e0 e1 e3 hmk eI
  go_loopw [3] (fun i wr => ∃ k : Nat, k ≤ m.slots.length ∧ i = .int .i64 k ∧ Hid (CtX w wr B m val k)) (fun i _ => m.slots.length - (intOf i).toNat)
  case atStart => exact ⟨0, Nat.zero_le _, rfl, HS⟩
  case round =>
    obtain ⟨k, hk, rfl, HC⟩ := hrel
    obtain ⟨⟨vk, hOk, v0, v1, v2, v3, hfk⟩, hbox, hres, hbel, hkep⟩ := HC.out
    obtain ⟨e0, e1, e3⟩ := HV.out
    rw [e0] at v0
    rw [e1] at v1
    rw [e3] at v3
    rw [e0, e1, e3] at hbox
    obtain ⟨d0, d1, d2, d3, d4⟩ := five hbox
    have hgl := HG.out
    have g1 : ¬ g = w.heap.size := by omega
    have g2 : ¬ w.heap.size = g := by omega
    have g3 : ¬ g = w.heap.size + 1 := by omega
    have g4 : ¬ w.heap.size + 1 = g := by omega
    by_cases hlk : k < m.slots.length
    · have hki : (k : Int) < (m.slots.length : Int) := by omega
      obtain ⟨x, hx⟩ : ∃ x, x = (cntL m).getD k 0 := ⟨_, rfl⟩
      have cx : wr.cell? ⟨w.heap.size + 4, k, none⟩ = some (.int .i64 x) := by
        have hr := hOk.row .refs (LiveX.refs _)
        rw [v2] at hr
        have hr : wr.ownsRow B 3 1 (.slice (some ⟨w.heap.size + 4, 0, none⟩) m.slots.length m.slots.length) (cntL m).length (ints (cntL m)) := hr
        rw [hlc] at hr
        rw [hx]
        refine (hr.cellAt k (by omega)).trans ?_
        unfold ints
        rw [List.getElem?_map, List.getElem?_eq_getElem (by rw [hlc]; exact hlk)]
        simp [List.getD, hlc, hlk]
      have HX : Hid (x = (cntL m).getD k 0) := hx
      clear hx
      by_cases h0 : x = 0
      · have h0' : (x == 0) = true := by simp [h0]
        have H0 : Hid ((cntL m).getD k 0 = 0) := HX.out.symm.trans h0
        clear h0
        have hls := frT_length m k
        have hr := hOk.row .slots (LiveX.slots _)
        rw [v1] at hr
        obtain ⟨s0, s1, s2⟩ := flatS_get (L := (frT m k).slots) (tv := fun j => vk (.tab j)) (j := k) (by rw [hls]; exact hlk)
        have hr : wr.ownsRow B 33 3 (.slice (some ⟨g, 0, none⟩) m.slots.length sc) m.slots.length (flatS (frT m k).slots (fun j => vk (.tab j))) := by rw [← hls]; rw [← hls] at hr; exact hr
        have t0 : wr.cell? ⟨g, k * 3, none⟩ = some _ := (hr.cellAt (k * 3) (by omega)).trans s0
        have t1 : wr.cell? ⟨g, k * 3 + 1, none⟩ = some _ := (hr.cellAt (k * 3 + 1) (by omega)).trans s1
        have t2 : wr.cell? ⟨g, k * 3 + 2, none⟩ = some _ := (hr.cellAt (k * 3 + 2) (by omega)).trans s2
        have u0 := hr.frozenAt (k * 3)
        have u1 := hr.frozenAt (k * 3 + 1)
        have u2 := hr.frozenAt (k * 3 + 2)
        have HN : Hid (CtX w (((wr.setCell ⟨g, k * 3, none⟩ (.int .i64 0)).setCell ⟨g, k * 3 + 1, none⟩ (.string ⟨#[]⟩)).setCell ⟨g, k * 3 + 2, none⟩ (.slice none 0 0)) B m val (k + 1)) := by
          have hN := hOk.setSlot (t := k) (by rw [hls]; exact hlk) v1 0 ⟨#[]⟩ [] (ev := .slice none 0 0) (World.ownsRow_nil _ _ _ _) (farX_nil _ _ _ _ _)
          refine ⟨⟨upd vk (.tab k) (.slice none 0 0), ?_, (upd_other _ _ (by intro x; cases x)).trans (v0.trans e0.symm), (upd_other _ _ (by intro x; cases x)).trans (v1.trans e1.symm), (upd_other _ _ (by intro x; cases x)).trans v2, (upd_other _ _ (by intro x; cases x)).trans (v3.trans e3.symm), fun a ha hne q hq hm => ?_⟩, ?_, ?_, ((hbel.setCell hgl.1 _).setCell hgl.1 _).setCell hgl.1 _, ((hkep.own (LiveX.slots m) e1).own (LiveX.slots m) e1).own (LiveX.slots m) e1⟩
          · rw [frT_gone m H0.out]; exact hN
          · by_cases e : a = .tab k
            · subst e; rw [upd_same]; intro x; cases x
            · rw [upd_other _ _ e]; exact hfk a ha hne q hq hm
          · rw [e0, e1, e3]
            exact cells_other (cells_other (cells_other hbox g2 _ _) g2 _ _) g2 _ _
          · exact cells_other (cells_other (cells_other hres g4 _ _) g4 _ _) g4 _ _
        clear hkep hOk hbox hres hbel hr s0 s1 s2 e0 e1 e3 v0 v1 v2 v3 hfk HC HX H0 hls
        go_wp2_with fail
        go_roundw
        case rel => exact ⟨k + 1, by omega, by go_num, HN⟩
        case measure => simp [intOf]; omega
      · have h0' : (x == 0) = false := by simp [h0]
        have HN : Hid (CtX w wr B m val (k + 1)) := by
          refine ⟨⟨vk, ?_, v0.trans e0.symm, v1.trans e1.symm, v2, v3.trans e3.symm, hfk⟩, HC.out.box, HC.out.res, HC.out.bel, HC.out.kep⟩
          rw [frT_kept m (fun e => h0 (HX.out.trans e))]
          exact hOk
        clear hkep hOk hbox hres hbel e0 e1 e3 v0 v1 v2 v3 hfk HC HX
        go_wp2_with fail
        go_roundw
        case rel => exact ⟨k + 1, by omega, by go_num, HN⟩
        case measure => simp [intOf]; omega
    · have ek : k = m.slots.length := by omega
      subst ek
      obtain ⟨z0, z1, z2, z3, z4⟩ := five hres
      have y0 := cells_frozen hres 0
      have y1 := cells_frozen hres 1
      have y2 := cells_frozen hres 2
      have y3 := cells_frozen hres 3
      have y4 := cells_frozen hres 4
      have hfr : ∀ a, LiveX (frT m m.slots.length) a → (vk a).ownBlock ≠ some (w.heap.size + 1) := fun a ha => by
        by_cases e : a = .refs
        · subst e; rw [v2]; intro x; have x : w.heap.size + 4 = w.heap.size + 1 := Option.some.inj x; omega
        · exact (hfk a (liveX_frT ha) e _ (by omega) HFO.out)
      have hF : OX wr B vk (frT m m.slots.length) := hOk
      rw [frT_end] at hF hfr
      have HF : Hid (OX wr B vk (countedD m)) := hF
      have hsrc : SrcX w m val (.slice none 0 0) (countedD m) vk := fun q hq _ hm a ha => by
        by_cases e : a = .refs
        · subst e; rw [v2]; intro x; have x : w.heap.size + 4 = q := Option.some.inj x; omega
        · exact hfk a (liveX_counted ha) e q (by omega) hm
      clear hF hOk HC
      go_wp2_with fail
      have hB1 : B ≤ w.heap.size + 1 := by omega
      refine bodyPost_ret (v := .agg #[.int .i64 m.guest, .slice ra rn rc, .slice (some ⟨g, 0, none⟩) m.slots.length sc, .slice (some ⟨w.heap.size + 4, 0, none⟩) m.slots.length m.slots.length, .slice na nn nc]) (by simp [results, Try.results64, go_sem, z0, z1, z2, z3, z4]) rfl ⟨vk, ?_, ((((HF.out.far hfr).far hfr).far hfr).far hfr).far hfr, ((((hbel.setCell hB1 _).setCell hB1 _).setCell hB1 _).setCell hB1 _).setCell hB1 _, ((((hkep.new (by omega)).new (by omega)).new (by omega)).new (by omega)).new (by omega), hsrc⟩
      unfold imgV
      rw [v0, v1, v2, v3]

theorem countedX_is {m : ImgD} {B : Nat} {val : Nm → Value} {w : World} (hO : OX w B val m) (hB : B ≤ w.heap.size) (hE : shapeE { m with refs := rfZ m.slots } = 0) :
    Calls Try.prog 64 #[imgV m.guest val] w fun r w' => ∃ val', r = .returned (imgV m.guest val') ∧ OX w' B val' (countedD m) ∧ Below B w w' ∧ KeepX w w' m val ∧ SrcX w m val (.slice none 0 0) (countedD m) val' := by
  obtain ⟨ra, rc, e0, _⟩ := hO.forms .root (LiveX.root m)
  obtain ⟨sa, sc, e1, hs⟩ := hO.forms .slots (LiveX.slots m)
  obtain ⟨fa, fc, e2, _⟩ := hO.forms .refs (LiveX.refs m)
  obtain ⟨na, nc, e3, _⟩ := hO.forms .snaps (LiveX.snaps m)
  have h1s : 1 ≤ m.slots.length := (slotsE_parts (shapeE_zero hE).2.1).1
  obtain ⟨g, rfl⟩ := hs (by show 0 < m.slots.length; omega)
  have e1 : val .slots = .slice (some ⟨g, 0, none⟩) m.slots.length sc := e1
  unfold imgV
  rw [e0, e1, e2, e3]
  exact countedX_at m ra _ rc g sc fa _ fc na _ nc B val w hO e0 e1 e3 hB hE
end Go.Proofs.Ytehleeibgkpjmac
/- Contracts of the document's GrabOf, UsedOf. -/
namespace Go.Proofs.Ytehleeibgkpjmac
open Go.RowKit
set_option maxRecDepth 20000

set_option maxHeartbeats 1000000 in
theorem grabOf_at (b off cap n g : Nat) (L : List SlotD) (w : World) (hn : L.length = n) (h1 : 1 ≤ n) (h40 : n ≤ 40) (hc : ∀ j, (h : j < L.length) → SlAt w b (off + j * 3) L[j]) (hg : GrabAt L g) (c : Int) (hcc : (if g = 40 then (0 : Int) else g) = c) :
    Calls Try.prog 61 #[.slice (some ⟨b, off, none⟩) n cap] w fun r w' => r = .returned (.int .i64 c) ∧ w' = w := by
  have HQ : Hid ((if g = 40 then (0 : Int) else g) = c) := hcc
  clear hcc
  have HC : Hid (∀ j, (h : j < L.length) → SlAt w b (off + j * 3) L[j]) := hc
  have HN : Hid (L.length = n) := hn
  have HG : Hid (GrabAt L g) := hg
  clear hc hn hg
  go_enter Try.func61, Try.ntmps61
  go_wp2
  go_loop [3] (fun i => ∃ k : Nat, 1 ≤ k ∧ k ≤ n ∧ i = .int .i64 k ∧ ∀ j, (h : j < L.length) → 1 ≤ j → j < k → (L[j]).1 ≠ 0) (fun i => n - (intOf i).toNat)
  case atStart => exact ⟨1, Nat.le_refl _, h1, rfl, fun j h hj hj' => absurd hj' (by omega)⟩
  case round =>
    obtain ⟨k, hk1, hk, rfl, hall⟩ := hrel
    have HA : Hid (∀ j, (h : j < L.length) → 1 ≤ j → j < k → (L[j]).1 ≠ 0) := hall
    clear hall
    by_cases hlk : k < n
    · obtain ⟨s, hs'⟩ : ∃ s, s = L[k]'(by rw [HN.out]; exact hlk) := ⟨_, rfl⟩
      obtain ⟨kk, dd, tt⟩ := s
      have hS : SlAt w b (off + k * 3) (kk, dd, tt) := by rw [hs']; exact HC.out k _
      obtain ⟨tv, c1, _, _, _⟩ := hS
      have HS : Hid ((kk, dd, tt) = L[k]'(by rw [HN.out]; exact hlk)) := hs'
      clear hs'
      have hki : (k : Int) < (n : Int) := by omega
      by_cases h0 : kk = 0
      · have h0' : (kk == 0) = true := by simp [h0]
        have H0 : Hid (kk = 0) := h0
        clear h0
        have HE : Hid (g = k) := HG.out.unique ⟨hk1, by rw [HN.out]; exact hk, HA.out, fun h => by rw [← HS.out]; exact H0.out⟩
        go_wp2
        go_ret
        exact ⟨ret_int (by rw [← HQ.out, HE.out, if_neg (by omega)]), rfl⟩
      · have h0' : (kk == 0) = false := by simp [h0]
        go_wp2
        go_round
        case rel => exact ⟨k + 1, by omega, by omega, by go_num, fun j h hj hj' => by
          by_cases e : j = k
          · subst e; rw [← HS.out]; exact h0
          · exact HA.out j h hj (by omega)⟩
        case measure => simp [intOf]; omega
    · have e4 : k = n := by omega
      subst e4
      have HE : Hid (g = k) := HG.out.unique ⟨hk1, by rw [HN.out]; exact hk, HA.out, fun h => absurd h (by rw [HN.out]; omega)⟩
      by_cases e40 : k = 40
      · subst e40
        go_wp2
        go_ret
        exact ⟨ret_int (by rw [← HQ.out, HE.out, if_pos rfl]), rfl⟩
      · have hne : (k : Int) < 40 := by omega
        go_wp2
        go_ret
        exact ⟨ret_int (by rw [← HQ.out, HE.out, if_neg e40]), rfl⟩

end Go.Proofs.Ytehleeibgkpjmac
/- Contract of the document's tabled: a table is stored. -/
namespace Go.Proofs.Ytehleeibgkpjmac
open Go.RowKit Go.Shelf
end Go.Proofs.Ytehleeibgkpjmac
/- tabled, its ways joined. -/
namespace Go.Proofs.Ytehleeibgkpjmac
open Go.RowKit Go.Shelf
end Go.Proofs.Ytehleeibgkpjmac
/- Contract of the document's tabled, of an image as the document makes it. -/
namespace Go.Proofs.Ytehleeibgkpjmac
open Go.RowKit Go.Shelf
end Go.Proofs.Ytehleeibgkpjmac
/- Slices of strings: what it means that a slice value holds them in a world. -/
namespace Go.Proofs.Ytehleeibgkpjmac
open Go.RowKit
set_option maxRecDepth 20000

/-- The slice value v holds the strings xs in the world w. -/
def Ss (w : World) (v : Value) (xs : List ByteArray) : Prop :=
  ∃ ao cap, v = .slice ao xs.length cap ∧ xs.length ≤ maxLen ∧ xs.length ≤ cap ∧ (xs ≠ [] → ∃ b off, ao = some ⟨b, off, none⟩ ∧ b < w.heap.size ∧ ∀ j, j < xs.length → w.cell? ⟨b, off + j, none⟩ = some (.string (xs.getD j ByteArray.empty)))

theorem Ss.below {w w1 : World} {v : Value} {xs : List ByteArray} (h : Ss w v xs) (hb : Below w.heap.size w w1) : Ss w1 v xs := by
  obtain ⟨ao, cap, hv, hm, hcp, hc⟩ := h
  refine ⟨ao, cap, hv, hm, hcp, fun hne => ?_⟩
  obtain ⟨b, off, ha, hlt, hcell⟩ := hc hne
  exact ⟨b, off, ha, Nat.lt_of_lt_of_le hlt hb.size, fun j hj => (hb.cell (p := ⟨b, off + j, none⟩) hlt).trans (hcell j hj)⟩

theorem Ss.nil (w : World) : Ss w (.slice none 0 0) [] := ⟨none, 0, rfl, Nat.zero_le _, Nat.zero_le _, fun h => absurd rfl h⟩

theorem Ss.cells {w : World} {ao : Option Addr} {n cap : Nat} {xs : List ByteArray} (h : Ss w (.slice ao n cap) xs) :
    xs.length = n ∧ n ≤ 9223372036854775807 ∧ n ≤ cap ∧ ∀ j, j < n → ∃ b off, ao = some ⟨b, off, none⟩ ∧ b < w.heap.size ∧ w.cell? ⟨b, off + j, none⟩ = some (.string (xs.getD j ByteArray.empty)) := by
  obtain ⟨ao', cap', hv, hm, hcp, hc⟩ := h
  simp only [Value.slice.injEq] at hv
  obtain ⟨rfl, rfl, rfl⟩ := hv
  unfold maxLen at hm
  refine ⟨rfl, by omega, hcp, fun j hj => ?_⟩
  obtain ⟨b, off, rfl, hlt, hcell⟩ := hc (by intro e; rw [e] at hj; simp at hj)
  exact ⟨b, off, rfl, hlt, hcell j hj⟩

theorem Ss.form {w : World} {v : Value} {xs : List ByteArray} (h : Ss w v xs) : ∃ ao cap, v = .slice ao xs.length cap := by
  obtain ⟨ao, cap, hv, _⟩ := h; exact ⟨ao, cap, hv⟩

theorem Ss.at {w : World} {ao : Option Addr} {n cap : Nat} {xs : List ByteArray} (h : Ss w (.slice ao n cap) xs) (hpos : 0 < n) :
    ∃ b off, ao = some ⟨b, off, none⟩ ∧ b < w.heap.size ∧ ∀ j, j < n → w.cell? ⟨b, off + j, none⟩ = some (.string (xs.getD j ByteArray.empty)) := by
  obtain ⟨ao', cap', hv, hm, hcp, hc⟩ := h
  simp only [Value.slice.injEq] at hv
  obtain ⟨rfl, rfl, rfl⟩ := hv
  exact hc (by intro e; rw [e] at hpos; simp at hpos)

theorem Ss.past {w : World} {v : Value} {xs : List ByteArray} (h : Ss w v xs) (o : Obj) : Ss (w.alloc o) v xs := h.below ((Below.refl _ _).alloc (Nat.le_refl _) o)


end Go.Proofs.Ytehleeibgkpjmac
/- Flat images, plainly: what Read, Write and Resize answer, over lists of pages. -/
namespace Go.Proofs.Ytehleeibgkpjmac
open Go.RowKit
end Go.Proofs.Ytehleeibgkpjmac
/- Resizing: what comes is right, and how it is read; the answers of Write, Wipe, Punch, Resize. Plain lists. -/
namespace Go.Proofs.Ytehleeibgkpjmac
open Go.RowKit Go.Shelf
set_option maxRecDepth 20000

def rerootD (M : ImgD) (g : Nat) : ImgD := { M with guest := (g : Int), root := (M.root ++ List.replicate ((g + 3) / 4 - M.root.length) 0).take ((g + 3) / 4) }
def cutD (m : ImgD) (g : Nat) : Option ImgD :=
  if g % 4 ≠ 0 ∧ g / 4 < m.root.length ∧ cutR (tableO m (g / 4)) (g % 4) ≠ tableO m (g / 4) then tabledD m (g / 4) (cutR (tableO m (g / 4)) (g % 4)) else some m
def resizeD (m : ImgD) (g : Nat) : Option ImgD := (cutD m g).map (fun M => countedD (rerootD M g))

theorem reroot_get (M : ImgD) (g j : Nat) (hj : j < (g + 3) / 4) : (rerootD M g).root.getD j 0 = M.root.getD j 0 := by
  show ((M.root ++ List.replicate ((g + 3) / 4 - M.root.length) 0).take ((g + 3) / 4)).getD j 0 = _
  simp only [List.getD, List.getElem?_take, hj, if_true]
  rw [List.getElem?_append]
  split
  · rfl
  · rename_i h
    rw [List.getElem?_eq_none (l := M.root) (by omega), List.getElem?_replicate]
    split <;> rfl
theorem reroot_length (M : ImgD) (g : Nat) : (rerootD M g).root.length = (g + 3) / 4 := by
  show ((M.root ++ List.replicate ((g + 3) / 4 - M.root.length) 0).take ((g + 3) / 4)).length = _
  simp; omega
theorem reroot_mem {M : ImgD} {g : Nat} {x : Int} (h : x ∈ (rerootD M g).root) : x = 0 ∨ x ∈ M.root := by
  have h : x ∈ M.root ++ List.replicate ((g + 3) / 4 - M.root.length) 0 := List.mem_of_mem_take h
  rcases List.mem_append.1 h with h | h
  · exact .inr h
  · exact .inl (List.mem_replicate.1 h).2

theorem cutR_get {es : List Int} (h4 : es.length = 4) {n : Nat} (hn : n ≤ 4) (i : Nat) : (cutR es n).getD i 0 = if i < n then es.getD i 0 else 0 := by
  unfold cutR
  simp only [List.getD]
  rw [List.getElem?_append, List.length_take]
  by_cases h : i < n
  · rw [if_pos (by omega), if_pos h, List.getElem?_take, if_pos h]
  · rw [if_neg (by omega), if_neg h, List.getElem?_replicate]
    split <;> rfl
theorem cutR_mem {es : List Int} {n : Nat} {x : Int} (h : x ∈ cutR es n) : x ∈ es ∨ x = 0 := by
  unfold cutR at h
  rcases List.mem_append.1 h with h | h
  · exact .inl (List.mem_of_mem_take h)
  · exact .inr (List.mem_replicate.1 h).2
theorem cutR_ck' {es : List Int} (h : ckE es = 0) {n : Nat} (hn : n ≤ 4) : ckE (cutR es n) = 0 := by
  refine ckE_yes (by unfold cutR; simp; have := ckE_len h; omega) ?_
  rw [List.all_eq_true]
  intro x hx
  rcases cutR_mem hx with hm | hm
  · exact List.all_eq_true.1 (ckE_all h) x hm
  · rw [hm]; rfl
theorem drop_zero {es : List Int} {i : Nat} (h : ∀ j, i ≤ j → j < es.length → es.getD j 0 = 0) : (es.drop i).all (fun e => e == 0) = true := by
  rw [List.all_eq_true]
  intro x hx
  obtain ⟨j, hj, rfl⟩ := List.getElem_of_mem hx
  rw [List.getElem_drop]
  simp at hj
  have := h (i + j) (by omega) (by omega)
  rw [getD_at (by omega)] at this
  simpa using this
theorem of_drop_zero {es : List Int} {i : Nat} (h : (es.drop i).all (fun e => e == 0) = true) {j : Nat} (h1 : i ≤ j) : es.getD j 0 = 0 := by
  rcases Nat.lt_or_ge j es.length with hj | hj
  · have hm : es[j] ∈ es.drop i := by
      rw [List.mem_iff_getElem]
      refine ⟨j - i, by simp; omega, ?_⟩
      rw [List.getElem_drop]; congr 1; omega
    have := List.all_eq_true.1 h _ hm
    rw [getD_at hj]; simpa using this
  · simp [List.getD, Nat.not_lt.2 hj]
theorem cut_tail {m : ImgD} {k : Nat} {es : List Int} (h : TailZ m k es) (h4 : es.length = 4) {n : Nat} (hn : n ≤ 4) : TailZ m k (cutR es n) := by
  intro h1 h2
  have := h h1 h2
  refine drop_zero fun j hj hl => ?_
  rw [cutR_get h4 hn]
  split
  · exact of_drop_zero this hj
  · rfl

/-- The table is cut. -/
theorem cut_laid {m : ImgD} (hC : checkE m = 0) {g : Nat} {M : ImgD} (hM : cutD m g = some M) : (∃ es, Laid m M (g / 4) es ∧ (g / 4 < m.root.length → ∀ i, es.getD i 0 = if g % 4 = 0 ∨ i < g % 4 then (tableO m (g / 4)).getD i 0 else 0)) ∧ M.slots.length ≤ m.slots.length + 1 := by
  have h := checkE_shape hC
  unfold cutD at hM
  split at hM
  · rename_i hc
    obtain ⟨h1, h2, h3⟩ := hc
    obtain ⟨ock, oent⟩ := tableO_ok h h2
    have h4 := ckE_len ock
    obtain ⟨hL, hlen⟩ := tabled_laid hC h2 (cutR_ck' ock (by omega)) (fun e he => (cutR_mem he).elim (fun hm => oent e hm) (fun hm => by rw [hm]; rfl)) (cut_tail (tableO_tail h _) h4 (by omega)) hM
    refine ⟨⟨_, hL, fun _ i => ?_⟩, hlen⟩
    rw [cutR_get h4 (by omega)]
    by_cases hi : i < g % 4
    · rw [if_pos hi, if_pos (.inr hi)]
    · rw [if_neg hi, if_neg (fun x => x.elim h1 hi)]
  · rename_i hc
    simp at hM
    subst hM
    refine ⟨⟨tableO m (g / 4), ⟨h, rfl, rfl, rfl, fun q hq => ?_, fun _ _ _ _ => rfl, fun _ _ => rfl⟩, fun hk i => ?_⟩, Nat.le_succ _⟩
    · by_cases e : q / 4 = g / 4
      · rw [if_pos e, ← e, ← lookV_tableO]
      · rw [if_neg e]
    · by_cases hg : g % 4 = 0
      · rw [if_pos (.inl hg)]
      · have hce : cutR (tableO m (g / 4)) (g % 4) = tableO m (g / 4) := Classical.byContradiction fun x => hc ⟨hg, hk, x⟩
        have h4 := ckE_len (tableO_ok h hk).1
        have e := cutR_get h4 (n := g % 4) (by omega) i
        rw [hce] at e
        by_cases hi : i < g % 4
        · rw [if_pos (.inr hi)]
        · rw [if_neg (fun x => x.elim hg hi), e, if_neg hi]

theorem tab_look {M : ImgD} {k i : Nat} (hz : M.root.getD k 0 ≠ 0) (hi : i < 4) : (tabOf M.slots (M.root.getD k 0)).getD i 0 = lookV M M.root (4 * k + i) := by
  unfold lookV
  have e1 : (4 * k + i) / 4 = k := by omega
  have e2 : (4 * k + i) % 4 = i := by omega
  rw [e1, e2, if_neg hz]

/-- Resize: what comes has the form. -/
theorem resize_shape {m : ImgD} (hC : checkE m = 0) {g : Nat} (hg : g ≤ 16) {M : ImgD} (hM : cutD m g = some M) : shapeE (rerootD M g) = 0 := by
  have h := checkE_shape hC
  obtain ⟨⟨es, hL, hes⟩, _⟩ := cut_laid hC hM
  have hrM := root_ok hL.shape
  refine reroot_shape hL.shape (by unfold guestOK; exact decide_eq_true (by omega)) ?_
  show rootFit M.slots (g : Int) (rerootD M g).root = true
  unfold rootFit
  simp only [Bool.and_eq_true, decide_eq_true_eq]
  refine ⟨by rw [reroot_length]; omega, ?_, ?_⟩
  · rw [List.all_eq_true]
    intro x hx
    rcases reroot_mem hx with e | e
    · rw [e]; rfl
    · exact List.all_eq_true.1 hrM.2 x e
  · unfold lastFit
    by_cases hg4 : g % 4 = 0
    · have : ((g : Int) % 4 == 0) = true := by simp; omega
      rw [this]; rfl
    · have hw : (g + 3) / 4 - 1 = g / 4 := by omega
      rw [reroot_length, hw, reroot_get M g _ (by omega)]
      have hgm : ((g : Int) % 4).toNat = g % 4 := by omega
      rw [hgm]
      by_cases hz : M.root.getD (g / 4) 0 = 0
      · rw [hz]; simp
      · have hk : g / 4 < M.root.length := by
          rcases Nat.lt_or_ge (g / 4) M.root.length with h' | h'
          · exact h'
          · exact absurd (by simp [List.getD, Nat.not_lt.2 h']) hz
        have hkm : g / 4 < m.root.length := by rw [← hL.rlen]; exact hk
        have hE := all_at hrM.2 hk
        rw [rootE_x hz] at hE
        have h4 := tab_len (shapeE_zero hL.shape).2.1 hE
        have : ((tabOf M.slots (M.root.getD (g / 4) 0)).drop (g % 4)).all (fun e => e == 0) = true := by
          refine drop_zero fun j hj hl => ?_
          rw [h4] at hl
          rw [tab_look hz hl, hL.look _ (by omega), if_pos (by omega), show (4 * (g / 4) + j) % 4 = j by omega, hes hkm, if_neg (by omega)]
        rw [this]; simp
end Go.Proofs.Ytehleeibgkpjmac
/- What Write, Wipe, Punch and Resize answer, plain: it is right, how much greater it is, and how it is read. -/
namespace Go.Proofs.Ytehleeibgkpjmac
open Go.RowKit Go.Shelf
set_option maxRecDepth 20000

/-! ### In place: nobody else sees the page -/
end Go.Proofs.Ytehleeibgkpjmac
/- Contract of settled: the counts are told, and what nothing tells is free. -/
namespace Go.Proofs.Ytehleeibgkpjmac
open Go.RowKit Go.Shelf
set_option maxRecDepth 20000

/-- What holds in the loop: from world v on. -/
def SetR (v wr : World) (B D : Nat) (m : ImgD) (val : Nm → Value) (q k : Nat) : Prop :=
  ∃ vk, DTo v wr B D m val nilV (frT m k) vk ∧ vk .root = val .root ∧ vk .slots = val .slots ∧ vk .refs = .slice (some ⟨q, 0, none⟩) m.slots.length m.slots.length ∧ vk .snaps = val .snaps

set_option maxHeartbeats 4000000 in
theorem settled_at (m : ImgD) (ra : Option Addr) (rn rc : Nat) (g sc : Nat) (fa : Option Addr) (fn fc : Nat) (na : Option Addr) (nn nc : Nat) (B D : Nat) (val : Nm → Value) (w : World) (hK : DK w B D val m) (e0 : val .root = .slice ra rn rc) (e1 : val .slots = .slice (some ⟨g, 0, none⟩) m.slots.length sc) (e2 : val .refs = .slice fa fn fc) (e3 : val .snaps = .slice na nn nc) (hB : B ≤ w.heap.size) (hE : shapeE m = 0) :
    Calls Try.prog 88 #[.pointer (some ⟨D, 0, none⟩)] w fun r w' => ∃ val', r = .returned (.tuple #[imgV m.guest val', .int .i64 0]) ∧ DTo w w' B D m val nilV (countedD m) val' := by
  have h40 : m.slots.length ≤ 40 := (slotsE_parts (shapeE_zero hE).2.1).2
  have h1s : 1 ≤ m.slots.length := (slotsE_parts (shapeE_zero hE).2.1).1
  have hlc : (cntL m).length = m.slots.length := cntL_length m
  have hDlt := hK.lt
  have hgr := hK.own.row .slots (Live.slots m)
  rw [e1] at hgr
  have hgl := hgr.lt g rfl
  have hDg : g ≠ D := fun e => hK.far .slots (Live.slots m) (by rw [e1, e]; rfl)
  clear hgr
  have hK1 : DK (w.alloc (.cells #[.int .i64 0, .slice none 0 0, .slice none 0 0, .slice none 0 0, .slice none 0 0] 26)) B D val m := hK.alloc _
  obtain ⟨d0, d1, d2, d3, d4⟩ := hK1.five
  have f3 := hK1.frozen 3
  rw [e0] at d1
  rw [e1] at d2
  rw [e2] at d3
  rw [e3] at d4
  have hcall := counts_own hK1.own.img hE
  unfold imgV at hcall
  rw [e0, e1, e2, e3] at hcall
  have hz1 : (w.alloc (.cells #[.int .i64 0, .slice none 0 0, .slice none 0 0, .slice none 0 0, .slice none 0 0] 26)).heap.size = w.heap.size + 1 := by simp
  have mR : (w.alloc (.cells #[.int .i64 0, .slice none 0 0, .slice none 0 0, .slice none 0 0, .slice none 0 0] 26)).heap[w.heap.size]? = some (.cells #[.int .i64 0, .slice none 0 0, .slice none 0 0, .slice none 0 0, .slice none 0 0] 26) := World.alloc_heap_new _ _
  have D1 : ¬ D = w.heap.size := by omega
  have D2 : ¬ w.heap.size = D := by omega
  go_enter Try.func88, Try.ntmps88
  go_wp2_with (go_at_call 11; refine hcall.mono ?_; rintro e w2 ⟨⟨q, hq, rfl, hL⟩, hb2⟩; have hK2 := hK1.below hb2; obtain ⟨c0, c1, c2, c3, c4⟩ := hK2.five; have f2 := hK2.frozen 3; rw [e0] at c1; rw [e1] at c2; rw [e2] at c3; rw [e3] at c4)
  have hb2' : Below (w.alloc (.cells #[.int .i64 0, .slice none 0 0, .slice none 0 0, .slice none 0 0, .slice none 0 0] 26)).heap.size (w.alloc (.cells #[.int .i64 0, .slice none 0 0, .slice none 0 0, .slice none 0 0, .slice none 0 0] 26)) w2 := hb2
  have hq0 := hq
  have hq : w.heap.size + 1 ≤ q := by rw [hz1] at hq; exact hq
  have hrow : w2.ownsRow B 3 1 (.slice (some ⟨q, 0, none⟩) m.slots.length m.slots.length) (cntL m).length (ints (cntL m)) := by
    have := row_LAt hL (B := B) (by omega) (by rw [hlc]; omega)
    rw [hlc] at this ⊢
    exact this
  have hS := (DTo.refl hK1 nilV).below (by rw [hz1]; omega) hb2'
  have hS := hS.swapRefs hrow (far_new hK1.own .refs (fun p e => by cases e; rw [hz1]; exact hq)) (fun e => by have e : q = D := Option.some.inj e; omega) (fun p e => by cases e; rw [hz1]; exact .inr hq)
  have HS : Hid (SetR (w.alloc (.cells #[.int .i64 0, .slice none 0 0, .slice none 0 0, .slice none 0 0, .slice none 0 0] 26)) (w2.setCell ⟨D, 3, none⟩ (.slice (some ⟨q, 0, none⟩) m.slots.length m.slots.length)) B D m val q 0) := by
    refine ⟨upd val .refs (.slice (some ⟨q, 0, none⟩) m.slots.length m.slots.length), ?_, upd_other _ _ (by intro x; cases x), upd_other _ _ (by intro x; cases x), upd_same _ _ _, upd_other _ _ (by intro x; cases x)⟩
    rw [frT_zero]
    exact hS
  have HV : Hid (val .root = .slice ra rn rc ∧ val .slots = .slice (some ⟨g, 0, none⟩) m.slots.length sc ∧ val .snaps = .slice na nn nc) := ⟨e0, e1, e3⟩
  have HK : Hid (DK w B D val m) := hK
  clear hb2' hb2 hrow hS hL hq0 hK1 hK2 c0 c1 c2 c3 c4 d0 d1 d2 d3 d4 f2 f3 hcall hE e0 e1 e2 e3 hK mR hz1
  go_loopw [27] (fun i wr => ∃ k : Nat, k ≤ m.slots.length ∧ i = .int .i64 k ∧ Hid (SetR (w.alloc (.cells #[.int .i64 0, .slice none 0 0, .slice none 0 0, .slice none 0 0, .slice none 0 0] 26)) wr B D m val q k)) (fun i _ => m.slots.length - (intOf i).toNat)
  case atStart => exact ⟨0, Nat.zero_le _, rfl, HS⟩
  case round =>
    obtain ⟨k, hk, rfl, HC⟩ := hrel
    obtain ⟨vk, hT, v0, v1, v2, v3⟩ := HC.out
    obtain ⟨e0, e1, e3⟩ := HV.out
    rw [e0] at v0
    rw [e1] at v1
    rw [e3] at v3
    obtain ⟨d0, d1, d2, d3, d4⟩ := hT.dk.five
    have d0 : wr.cell? ⟨D, 0, none⟩ = some (.int .i64 m.guest) := d0
    rw [v0] at d1
    rw [v1] at d2
    rw [v2] at d3
    rw [v3] at d4
    have hls := frT_length m k
    by_cases hlk : k < m.slots.length
    · have hki : (k : Int) < (m.slots.length : Int) := by omega
      obtain ⟨x, hx⟩ : ∃ x, x = (cntL m).getD k 0 := ⟨_, rfl⟩
      have cx : wr.cell? ⟨q, k, none⟩ = some (.int .i64 x) := by
        have hr := hT.dk.own.row .refs (Live.refs _)
        rw [v2] at hr
        have hr : wr.ownsRow B 3 1 (.slice (some ⟨q, 0, none⟩) m.slots.length m.slots.length) (cntL m).length (ints (cntL m)) := hr
        rw [hlc] at hr
        rw [hx]
        refine (hr.cellAt k (by omega)).trans ?_
        unfold ints
        rw [List.getElem?_map, List.getElem?_eq_getElem (by rw [hlc]; exact hlk)]
        simp [List.getD, hlc, hlk]
      have HX : Hid (x = (cntL m).getD k 0) := hx
      clear hx
      by_cases h0 : x = 0
      · have h0' : (x == 0) = true := by simp [h0]
        have H0 : Hid ((cntL m).getD k 0 = 0) := HX.out.symm.trans h0
        clear h0
        have hr := hT.dk.own.row .slots (Live.slots _)
        rw [v1] at hr
        obtain ⟨s0, s1, s2⟩ := flatS_get (L := (frT m k).slots) (tv := fun j => vk (.tab j)) (j := k) (by rw [hls]; exact hlk)
        have hr : wr.ownsRow B 33 3 (.slice (some ⟨g, 0, none⟩) m.slots.length sc) m.slots.length (flatS (frT m k).slots (fun j => vk (.tab j))) := by rw [← hls]; rw [← hls] at hr; exact hr
        have t0 : wr.cell? ⟨g, k * 3, none⟩ = some _ := (hr.cellAt (k * 3) (by omega)).trans s0
        have t1 : wr.cell? ⟨g, k * 3 + 1, none⟩ = some _ := (hr.cellAt (k * 3 + 1) (by omega)).trans s1
        have t2 : wr.cell? ⟨g, k * 3 + 2, none⟩ = some _ := (hr.cellAt (k * 3 + 2) (by omega)).trans s2
        have u0 := hr.frozenAt (k * 3)
        have u1 := hr.frozenAt (k * 3 + 1)
        have u2 := hr.frozenAt (k * 3 + 2)
        have HN : Hid (SetR (w.alloc (.cells #[.int .i64 0, .slice none 0 0, .slice none 0 0, .slice none 0 0, .slice none 0 0] 26)) (((wr.setCell ⟨g, k * 3, none⟩ (.int .i64 0)).setCell ⟨g, k * 3 + 1, none⟩ (.string ⟨#[]⟩)).setCell ⟨g, k * 3 + 2, none⟩ (.slice none 0 0)) B D m val q (k + 1)) := by
          have hN := hT.setSlot (t := k) (by rw [hls]; exact hlk) v1 0 ⟨#[]⟩ [] (e2 := .slice none 0 0) (World.ownsRow_nil _ _ _ _) (far_nil _ _ _ _ _) (nilV_own _) (fun p e => by cases e)
          refine ⟨upd vk (.tab k) (.slice none 0 0), ?_, (upd_other _ _ (by intro x; cases x)).trans (v0.trans e0.symm), (upd_other _ _ (by intro x; cases x)).trans (v1.trans e1.symm), (upd_other _ _ (by intro x; cases x)).trans v2, (upd_other _ _ (by intro x; cases x)).trans (v3.trans e3.symm)⟩
          rw [frT_gone m H0.out]; exact hN
        clear hT hr s0 s1 s2 e0 e1 e3 v0 v1 v2 v3 HC HX H0 hls
        go_wp2_with fail
        go_roundw
        case rel => exact ⟨k + 1, by omega, by go_num, HN⟩
        case measure => simp [intOf]; omega
      · have h0' : (x == 0) = false := by simp [h0]
        have HN : Hid (SetR (w.alloc (.cells #[.int .i64 0, .slice none 0 0, .slice none 0 0, .slice none 0 0, .slice none 0 0] 26)) wr B D m val q (k + 1)) := by
          refine ⟨vk, ?_, v0.trans e0.symm, v1.trans e1.symm, v2, v3.trans e3.symm⟩
          rw [frT_kept m (fun e => h0 (HX.out.trans e))]
          exact hT
        clear hT e0 e1 e3 v0 v1 v2 v3 HC HX hls
        go_wp2_with fail
        go_roundw
        case rel => exact ⟨k + 1, by omega, by go_num, HN⟩
        case measure => simp [intOf]; omega
    · have ek : k = m.slots.length := by omega
      subst ek
      have hR : wr.heap[w.heap.size]? = some (.cells #[.int .i64 0, .slice none 0 0, .slice none 0 0, .slice none 0 0, .slice none 0 0] 26) := hT.cells (World.alloc_heap_new _ _) (by omega) (nilV_own _) (HK.out.own.lt (Nat.le_refl _))
      obtain ⟨z0, z1, z2, z3, z4⟩ := five hR
      have y0 := cells_frozen hR 0
      have y1 := cells_frozen hR 1
      have y2 := cells_frozen hR 2
      have y3 := cells_frozen hR 3
      have y4 := cells_frozen hR 4
      rw [frT_end] at hT
      have hfr : ∀ a, Live (countedD m) a → (vk a).ownBlock ≠ some w.heap.size := hT.src w.heap.size (by simp) (nilV_own _) (HK.out.own.lt (Nat.le_refl _))
      have HF : Hid (DTo w wr B D m val nilV (countedD m) vk) := DTo.first ((Below.refl _ _).alloc (Nat.le_refl _) _) hB hT (fun p e => by cases e)
      clear hT HC hls
      go_wp2_with fail
      have hn : w.heap.size ≤ w.heap.size := Nat.le_refl _
      refine bodyPost_ret (v := .tuple #[.agg #[.int .i64 m.guest, .slice ra rn rc, .slice (some ⟨g, 0, none⟩) m.slots.length sc, .slice (some ⟨q, 0, none⟩) m.slots.length m.slots.length, .slice na nn nc], .int .i64 0]) (by simp [results, Try.results88, go_sem, z0, z1, z2, z3, z4]) rfl ⟨vk, ?_, ((((HF.out.setNew hB hn D1 hfr).setNew hB hn D1 hfr).setNew hB hn D1 hfr).setNew hB hn D1 hfr).setNew hB hn D1 hfr⟩
      unfold imgV
      rw [v0, v1, v2, v3]

set_option maxHeartbeats 4000000 in
theorem settled_err (m : ImgD) (E : Int) (ra : Option Addr) (rn rc : Nat) (sa : Option Addr) (sn sc : Nat) (fa : Option Addr) (fn fc : Nat) (na : Option Addr) (nn nc : Nat) (B D : Nat) (val : Nm → Value) (w : World) (hK : DK w B D val m) (e0 : val .root = .slice ra rn rc) (e1 : val .slots = .slice sa sn sc) (e2 : val .refs = .slice fa fn fc) (e3 : val .snaps = .slice na nn nc) (hE : shapeE m = E) (hne : (E != 0) = true) :
    Calls Try.prog 88 #[.pointer (some ⟨D, 0, none⟩)] w fun r w' => r = .returned (.tuple #[.agg #[.int .i64 0, nilV, nilV, nilV, nilV], .int .i64 E]) ∧ Below w.heap.size w w' := by
  have hDlt := hK.lt
  have hK1 : DK (w.alloc (.cells #[.int .i64 0, .slice none 0 0, .slice none 0 0, .slice none 0 0, .slice none 0 0] 26)) B D val m := hK.alloc _
  obtain ⟨d0, d1, d2, d3, d4⟩ := hK1.five
  rw [e0] at d1
  rw [e1] at d2
  rw [e2] at d3
  rw [e3] at d4
  have hcall := counts_err hK1.own.img hE hne
  unfold imgV at hcall
  rw [e0, e1, e2, e3] at hcall
  have mR : (w.alloc (.cells #[.int .i64 0, .slice none 0 0, .slice none 0 0, .slice none 0 0, .slice none 0 0] 26)).heap[w.heap.size]? = some (.cells #[.int .i64 0, .slice none 0 0, .slice none 0 0, .slice none 0 0, .slice none 0 0] 26) := World.alloc_heap_new _ _
  have b0 : Below w.heap.size w (w.alloc (.cells #[.int .i64 0, .slice none 0 0, .slice none 0 0, .slice none 0 0, .slice none 0 0] 26)) := (Below.refl _ _).alloc (Nat.le_refl _) _
  clear hE
  go_enter Try.func88, Try.ntmps88
  go_wp2_with (go_at_call 11; refine hcall.mono ?_; rintro e w2 ⟨rfl, hb2⟩; have hR := cells_below mR hb2 (by simp); obtain ⟨z0, z1, z2, z3, z4⟩ := five hR; have y0 := cells_frozen hR 0; have y1 := cells_frozen hR 1; have y2 := cells_frozen hR 2; have y3 := cells_frozen hR 3; have y4 := cells_frozen hR 4)
  have hb := Below.on b0 hb2
  have hn : w.heap.size ≤ w.heap.size := Nat.le_refl _
  refine bodyPost_ret (v := .tuple #[.agg #[.int .i64 0, nilV, nilV, nilV, nilV], .int .i64 E]) (by simp [results, Try.results88, go_sem, z0, z1, z2, z3, z4]) rfl ⟨rfl, ((((hb.setCell hn _).setCell hn _).setCell hn _).setCell hn _).setCell hn _⟩
theorem settled_bad {m : ImgD} {E : Int} {B D : Nat} {val : Nm → Value} {w : World} (hK : DK w B D val m) (hE : shapeE m = E) (hne : E ≠ 0) :
    Calls Try.prog 88 #[.pointer (some ⟨D, 0, none⟩)] w fun r w' => r = .returned (.tuple #[.agg #[.int .i64 0, nilV, nilV, nilV, nilV], .int .i64 E]) ∧ Below w.heap.size w w' := by
  obtain ⟨ra, rc, e0, _⟩ := hK.own.forms .root (Live.root m)
  obtain ⟨sa, sc, e1, _⟩ := hK.own.forms .slots (Live.slots m)
  obtain ⟨fa, fc, e2, _⟩ := hK.own.forms .refs (Live.refs m)
  obtain ⟨na, nc, e3, _⟩ := hK.own.forms .snaps (Live.snaps m)
  exact settled_err m E ra _ rc sa _ sc fa _ fc na _ nc B D val w hK e0 e1 e2 e3 hE (by simpa using hne)
theorem settled_ok {m : ImgD} {B D : Nat} {val : Nm → Value} {w : World} (hK : DK w B D val m) (hB : B ≤ w.heap.size) (hE : shapeE m = 0) :
    Calls Try.prog 88 #[.pointer (some ⟨D, 0, none⟩)] w fun r w' => ∃ val', r = .returned (.tuple #[imgV m.guest val', .int .i64 0]) ∧ DTo w w' B D m val nilV (countedD m) val' := by
  have h1s : 1 ≤ m.slots.length := (slotsE_parts (shapeE_zero hE).2.1).1
  obtain ⟨ra, rc, e0, _⟩ := hK.own.forms .root (Live.root m)
  obtain ⟨sa, sc, e1, hs⟩ := hK.own.forms .slots (Live.slots m)
  obtain ⟨fa, fc, e2, _⟩ := hK.own.forms .refs (Live.refs m)
  obtain ⟨na, nc, e3, _⟩ := hK.own.forms .snaps (Live.snaps m)
  obtain ⟨g, rfl⟩ := hs (by show 0 < m.slots.length; omega)
  exact settled_at m ra _ rc g sc fa _ fc na _ nc B D val w hK e0 e1 e2 e3 hB hE
end Go.Proofs.Ytehleeibgkpjmac
/- Contract of copied: an image of one's own. -/
namespace Go.Proofs.Ytehleeibgkpjmac
open Go.RowKit Go.Shelf
set_option maxRecDepth 20000

/-- The first k tables and the first l snapshots' Roots are one's own; of the others, and what they are, tv and qv tell. -/
def liveH (k l : Nat) (a : Nm) : Prop := (a.kind < 4 ∧ a.ix = 0) ∨ (a.kind = 4 ∧ a.ix < k) ∨ (a.kind = 5 ∧ a.ix < l)
def rowH (m : ImgD) (val : Nm → Value) (tv qv : Nat → Value) (k l : Nat) (a : Nm) : List Value := match a.kind with
  | 0 => ints m.root
  | 1 => flatS m.slots (fun j => if j < k then val (.tab j) else tv j)
  | 2 => ints m.refs
  | 3 => flatN m.snaps (fun j => if j < l then val (.sr j) else qv j)
  | 4 => ints (m.slots.getD a.ix default).2.2
  | _ => ints (m.snaps.getD a.ix default).2.2
structure HC (W : World) (B : Nat) (val : Nm → Value) (m : ImgD) (tv qv : Nat → Value) (k l : Nat) : Prop where
  row : ∀ a, liveH k l a → W.ownsRow B (rowT a) (rowS a) (val a) (rowN m a) (rowH m val tv qv k l a)
  apart : ∀ a b, liveH k l a → liveH k l b → a ≠ b → ∀ g, (val a).ownBlock = some g → (val b).ownBlock ≠ some g
theorem liveH.cases {k l : Nat} {a : Nm} (h : liveH k l a) : a = .root ∨ a = .slots ∨ a = .refs ∨ a = .snaps ∨ (∃ j, a = .tab j ∧ j < k) ∨ ∃ j, a = .sr j ∧ j < l := by
  obtain ⟨x, j⟩ := a
  rcases h with ⟨h1, h2⟩ | ⟨h1, h2⟩ | ⟨h1, h2⟩
  · dsimp only at h1 h2
    subst h2
    match x, h1 with
    | 0, _ => exact .inl rfl
    | 1, _ => exact .inr (.inl rfl)
    | 2, _ => exact .inr (.inr (.inl rfl))
    | 3, _ => exact .inr (.inr (.inr (.inl rfl)))
  · dsimp only at h1 h2; subst h1; exact .inr (.inr (.inr (.inr (.inl ⟨j, rfl, h2⟩))))
  · dsimp only at h1 h2; subst h1; exact .inr (.inr (.inr (.inr (.inr ⟨j, rfl, h2⟩))))
theorem liveH.base {k l : Nat} {a : Nm} (h : a.kind < 4) (h0 : a.ix = 0) : liveH k l a := .inl ⟨h, h0⟩
theorem liveH.old {k l : Nat} {a : Nm} (h : liveH (k + 1) l a) (hne : a ≠ .tab k) : liveH k l a := by
  rcases h.cases with rfl | rfl | rfl | rfl | ⟨j, rfl, hj⟩ | ⟨j, rfl, hj⟩
  · exact .inl ⟨by decide, rfl⟩
  · exact .inl ⟨by decide, rfl⟩
  · exact .inl ⟨by decide, rfl⟩
  · exact .inl ⟨by decide, rfl⟩
  · refine .inr (.inl ⟨rfl, ?_⟩)
    rcases Nat.lt_or_ge j k with h | h
    · exact h
    · exact absurd (by rw [show j = k by omega]) hne
  · exact .inr (.inr ⟨rfl, hj⟩)
theorem liveH.old' {k l : Nat} {a : Nm} (h : liveH k (l + 1) a) (hne : a ≠ .sr l) : liveH k l a := by
  rcases h.cases with rfl | rfl | rfl | rfl | ⟨j, rfl, hj⟩ | ⟨j, rfl, hj⟩
  · exact .inl ⟨by decide, rfl⟩
  · exact .inl ⟨by decide, rfl⟩
  · exact .inl ⟨by decide, rfl⟩
  · exact .inl ⟨by decide, rfl⟩
  · exact .inr (.inl ⟨rfl, hj⟩)
  · refine .inr (.inr ⟨rfl, ?_⟩)
    rcases Nat.lt_or_ge j l with h | h
    · exact h
    · exact absurd (by rw [show j = l by omega]) hne
theorem HC.below {W W' : World} {B : Nat} {val : Nm → Value} {m : ImgD} {tv qv : Nat → Value} {k l : Nat} (h : HC W B val m tv qv k l) (hb : Below W.heap.size W W') : HC W' B val m tv qv k l := by
  refine ⟨fun a ha => ?_, h.apart⟩
  have hr := h.row a ha
  refine ⟨hr.1, ?_⟩
  rcases hr.2 with hn | ⟨g, cap, cur, hv, hb', hg, rest⟩
  · exact .inl hn
  · exact .inr ⟨g, cap, cur, hv, hb', (hb.block g (Array.getElem?_eq_some_iff.1 hg).1).trans hg, rest⟩
theorem HC.far {W : World} {B : Nat} {val : Nm → Value} {m : ImgD} {tv qv : Nat → Value} {k l : Nat} (h : HC W B val m tv qv k l) {g i : Nat} {u : Value} (hg : g < B) : HC (W.setCell ⟨g, i, none⟩ u) B val m tv qv k l :=
  ⟨fun a ha => ownsRow_setCell_other (h.row a ha) (fun e => by have := ((h.row a ha).lt g e).1; omega) u, h.apart⟩
theorem HC.done {W : World} {B : Nat} {val : Nm → Value} {m : ImgD} {tv qv : Nat → Value} (h : HC W B val m tv qv m.slots.length m.snaps.length) : OI W B val m := by
  refine ⟨fun a ha => ?_, fun a b ha hb => h.apart a b ha hb⟩
  have e : rowH m val tv qv m.slots.length m.snaps.length a = rowV m val a := by
    rcases ha.cases with rfl | rfl | rfl | rfl | ⟨j, rfl, hj⟩ | ⟨j, rfl, hj⟩ <;> first | rfl | skip
    · show flatS _ _ = flatS _ _
      unfold flatS
      refine congrArg List.flatten (List.map_congr_left fun j hj => ?_)
      dsimp only
      rw [if_pos (List.mem_range.1 hj)]
    · show flatN _ _ = flatN _ _
      unfold flatN
      refine congrArg List.flatten (List.map_congr_left fun j hj => ?_)
      dsimp only
      rw [if_pos (List.mem_range.1 hj)]
  rw [← e]
  exact h.row a ha
theorem flatN_ext {L : List SnapD} {tv tv' : Nat → Value} (h : ∀ j, j < L.length → tv' j = tv j) : flatN L tv' = flatN L tv := by
  unfold flatN
  refine congrArg List.flatten (List.map_congr_left fun j hj => ?_)
  rw [h j (List.mem_range.1 hj)]
theorem flatS_put {L : List SlotD} {tv tv' : Nat → Value} {t : Nat} (htv : ∀ j, j ≠ t → tv' j = tv j) : flatS L tv' = (flatS L tv).set (t * 3 + 2) (tv' t) := by
  apply List.ext_getElem?
  intro i
  have hlen := flatS_length L tv
  rcases Nat.lt_or_ge i (L.length * 3) with hi | hi
  · obtain ⟨j, r, hj, hr, rfl⟩ : ∃ j r, j < L.length ∧ r < 3 ∧ i = j * 3 + r := ⟨i / 3, i % 3, by omega, Nat.mod_lt _ (by decide), by omega⟩
    obtain ⟨a0, a1, a2⟩ := flatS_get (L := L) (tv := tv') hj
    obtain ⟨b0, b1, b2⟩ := flatS_get (L := L) (tv := tv) hj
    by_cases e : t = j
    · subst e
      match r, hr with
      | 0, _ => rw [Nat.add_zero, a0, List.getElem?_set_ne (by omega), b0]
      | 1, _ => rw [a1, List.getElem?_set_ne (by omega), b1]
      | 2, _ => rw [a2, List.getElem?_set_self (by rw [hlen]; omega)]
    · rw [htv j (fun x => e x.symm)] at a2
      rw [List.getElem?_set_ne (by omega)]
      match r, hr with
      | 0, _ => rw [Nat.add_zero, a0, b0]
      | 1, _ => rw [a1, b1]
      | 2, _ => rw [a2, b2]
  · rw [List.getElem?_eq_none (by rw [flatS_length]; exact hi), List.getElem?_eq_none (by rw [List.length_set, flatS_length]; exact hi)]
theorem flatN_put {L : List SnapD} {tv tv' : Nat → Value} {t : Nat} (htv : ∀ j, j ≠ t → tv' j = tv j) : flatN L tv' = (flatN L tv).set (t * 3 + 2) (tv' t) := by
  apply List.ext_getElem?
  intro i
  have hlen := flatN_length L tv
  rcases Nat.lt_or_ge i (L.length * 3) with hi | hi
  · obtain ⟨j, r, hj, hr, rfl⟩ : ∃ j r, j < L.length ∧ r < 3 ∧ i = j * 3 + r := ⟨i / 3, i % 3, by omega, Nat.mod_lt _ (by decide), by omega⟩
    obtain ⟨a0, a1, a2⟩ := flatN_get (S := L) (qv := tv') hj
    obtain ⟨b0, b1, b2⟩ := flatN_get (S := L) (qv := tv) hj
    by_cases e : t = j
    · subst e
      match r, hr with
      | 0, _ => rw [Nat.add_zero, a0, List.getElem?_set_ne (by omega), b0]
      | 1, _ => rw [a1, List.getElem?_set_ne (by omega), b1]
      | 2, _ => rw [a2, List.getElem?_set_self (by rw [hlen]; omega)]
    · rw [htv j (fun x => e x.symm)] at a2
      rw [List.getElem?_set_ne (by omega)]
      match r, hr with
      | 0, _ => rw [Nat.add_zero, a0, b0]
      | 1, _ => rw [a1, b1]
      | 2, _ => rw [a2, b2]
  · rw [List.getElem?_eq_none (by rw [flatN_length]; exact hi), List.getElem?_eq_none (by rw [List.length_set, flatN_length]; exact hi)]
/-- One table more is one's own. -/
theorem HC.tab {W : World} {B : Nat} {val : Nm → Value} {m : ImgD} {tv qv : Nat → Value} {k l : Nat} (h : HC W B val m tv qv k l) {g n cap : Nat} (hv : val .slots = .slice (some ⟨g, 0, none⟩) n cap) {v : Value} (hr : W.ownsRow B 3 1 v (m.slots.getD k default).2.2.length (ints (m.slots.getD k default).2.2)) (hf : ∀ a, liveH k l a → ∀ q, v.ownBlock = some q → (val a).ownBlock ≠ some q) :
    HC (W.setCell ⟨g, k * 3 + 2, none⟩ v) B (upd val (.tab k) v) m tv qv (k + 1) l := by
  have hsl : liveH k l .slots := .inl ⟨by decide, rfl⟩
  have hvg : v.ownBlock ≠ some g := fun e => hf .slots hsl g e (by rw [hv]; rfl)
  have hnn : n = m.slots.length := by
    rcases row_form (h.row .slots hsl) with ⟨e, _⟩ | ⟨g', cap', e, _⟩
    · rw [hv] at e; simp at e
    · rw [hv] at e; simp at e; exact e.2.1
  refine ⟨fun a ha => ?_, fun a b ha hb hne q hq => ?_⟩
  · by_cases e : a = .tab k
    · subst e
      rw [upd_same]
      exact ownsRow_setCell_other hr hvg v
    · have ha' := ha.old e
      rw [upd_other _ _ e]
      by_cases es : a = .slots
      · subst es
        have hrs := h.row .slots hsl
        have e1 : rowH m (upd val (.tab k) v) tv qv (k + 1) l .slots = (rowH m val tv qv k l .slots).set (k * 3 + 2) v := by
          have := flatS_put (L := m.slots) (tv := fun j => if j < k then val (.tab j) else tv j) (tv' := fun j => if j < k + 1 then upd val (.tab k) v (.tab j) else tv j) (t := k) (fun j hj => by
            by_cases h1 : j < k
            · rw [if_pos (by omega), if_pos h1, upd_other _ _ (by intro x; injection x with _ x; omega)]
            · rw [if_neg (by omega), if_neg h1])
          rw [if_pos (by omega), upd_same] at this
          exact this
        rw [e1]
        have hN : rowN m .slots = n := hnn.symm
        rw [hN, hv] at hrs ⊢
        exact (hrs.stored (k * 3 + 2) v).1
      · have e1 : rowH m (upd val (.tab k) v) tv qv (k + 1) l a = rowH m val tv qv k l a := by
          rcases ha'.cases with rfl | rfl | rfl | rfl | ⟨j, rfl, hj⟩ | ⟨j, rfl, hj⟩ <;> first | rfl | exact absurd rfl es
        rw [e1]
        exact ownsRow_setCell_other (h.row a ha') (h.apart .slots a hsl ha' (fun x => es x.symm) g (by rw [hv]; rfl)) v
  · by_cases e : a = .tab k
    · subst e
      rw [upd_same] at hq
      rw [upd_other _ _ (fun x => hne x.symm)]
      exact hf b (hb.old (fun x => hne x.symm)) q hq
    · rw [upd_other _ _ e] at hq
      by_cases e2 : b = .tab k
      · subst e2; rw [upd_same]; exact fun x => hf a (ha.old e) q x hq
      · rw [upd_other _ _ e2]; exact h.apart a b (ha.old e) (hb.old e2) hne q hq
theorem HC.sr {W : World} {B : Nat} {val : Nm → Value} {m : ImgD} {tv qv : Nat → Value} {k l : Nat} (h : HC W B val m tv qv k l) {g n cap : Nat} (hv : val .snaps = .slice (some ⟨g, 0, none⟩) n cap) {v : Value} (hr : W.ownsRow B 3 1 v (m.snaps.getD l default).2.2.length (ints (m.snaps.getD l default).2.2)) (hf : ∀ a, liveH k l a → ∀ q, v.ownBlock = some q → (val a).ownBlock ≠ some q) :
    HC (W.setCell ⟨g, l * 3 + 2, none⟩ v) B (upd val (.sr l) v) m tv qv k (l + 1) := by
  have hsl : liveH k l .snaps := .inl ⟨by decide, rfl⟩
  have hvg : v.ownBlock ≠ some g := fun e => hf .snaps hsl g e (by rw [hv]; rfl)
  have hnn : n = m.snaps.length := by
    rcases row_form (h.row .snaps hsl) with ⟨e, _⟩ | ⟨g', cap', e, _⟩
    · rw [hv] at e; simp at e
    · rw [hv] at e; simp at e; exact e.2.1
  refine ⟨fun a ha => ?_, fun a b ha hb hne q hq => ?_⟩
  · by_cases e : a = .sr l
    · subst e
      rw [upd_same]
      exact ownsRow_setCell_other hr hvg v
    · have ha' := ha.old' e
      rw [upd_other _ _ e]
      by_cases es : a = .snaps
      · subst es
        have hrs := h.row .snaps hsl
        have e1 : rowH m (upd val (.sr l) v) tv qv k (l + 1) .snaps = (rowH m val tv qv k l .snaps).set (l * 3 + 2) v := by
          have := flatN_put (L := m.snaps) (tv := fun j => if j < l then val (.sr j) else qv j) (tv' := fun j => if j < l + 1 then upd val (.sr l) v (.sr j) else qv j) (t := l) (fun j hj => by
            by_cases h1 : j < l
            · rw [if_pos (by omega), if_pos h1, upd_other _ _ (by intro x; injection x with _ x; omega)]
            · rw [if_neg (by omega), if_neg h1])
          rw [if_pos (by omega), upd_same] at this
          exact this
        rw [e1]
        have hN : rowN m .snaps = n := hnn.symm
        rw [hN, hv] at hrs ⊢
        exact (hrs.stored (l * 3 + 2) v).1
      · have e1 : rowH m (upd val (.sr l) v) tv qv k (l + 1) a = rowH m val tv qv k l a := by
          rcases ha'.cases with rfl | rfl | rfl | rfl | ⟨j, rfl, hj⟩ | ⟨j, rfl, hj⟩ <;> first | rfl | exact absurd rfl es
        rw [e1]
        exact ownsRow_setCell_other (h.row a ha') (h.apart .snaps a hsl ha' (fun x => es x.symm) g (by rw [hv]; rfl)) v
  · by_cases e : a = .sr l
    · subst e
      rw [upd_same] at hq
      rw [upd_other _ _ (fun x => hne x.symm)]
      exact hf b (hb.old' (fun x => hne x.symm)) q hq
    · rw [upd_other _ _ e] at hq
      by_cases e2 : b = .sr l
      · subst e2; rw [upd_same]; exact fun x => hf a (ha.old' e) q x hq
      · rw [upd_other _ _ e2]; exact h.apart a b (ha.old' e) (hb.old' e2) hne q hq
/-- What is wide enough to be copied. -/
structure Fits (m : ImgD) : Prop where
  root : m.root.length * 8 ≤ room
  slots : m.slots.length * 48 ≤ room
  refs : m.refs.length * 8 ≤ room
  snaps : m.snaps.length * 48 ≤ room
  tab : ∀ j, j < m.slots.length → (m.slots.getD j default).2.2.length * 8 ≤ room
  sr : ∀ j, j < m.snaps.length → (m.snaps.getD j default).2.2.length * 8 ≤ room
def val4 (vr vs vf vn : Value) : Nm → Value := fun a => if a.kind = 0 then vr else if a.kind = 1 then vs else if a.kind = 2 then vf else vn
theorem HC.start {W : World} {B : Nat} {m : ImgD} {tv qv : Nat → Value} {vr vs vf vn : Value} (h0 : W.ownsRow B 3 1 vr m.root.length (ints m.root)) (h1 : W.ownsRow B 33 3 vs m.slots.length (flatS m.slots tv)) (h2 : W.ownsRow B 3 1 vf m.refs.length (ints m.refs)) (h3 : W.ownsRow B 61 3 vn m.snaps.length (flatN m.snaps qv))
    (a01 : ∀ q, vs.ownBlock = some q → vr.ownBlock ≠ some q) (a02 : ∀ q, vf.ownBlock = some q → vr.ownBlock ≠ some q) (a03 : ∀ q, vn.ownBlock = some q → vr.ownBlock ≠ some q) (a12 : ∀ q, vs.ownBlock = some q → vf.ownBlock ≠ some q) (a13 : ∀ q, vn.ownBlock = some q → vs.ownBlock ≠ some q) (a23 : ∀ q, vn.ownBlock = some q → vf.ownBlock ≠ some q) : HC W B (val4 vr vs vf vn) m tv qv 0 0 := by
  refine ⟨fun a ha => ?_, fun a b ha hb hne q hq => ?_⟩
  · rcases ha.cases with rfl | rfl | rfl | rfl | ⟨j, rfl, hj⟩ | ⟨j, rfl, hj⟩
    · exact h0
    · exact h1
    · exact h2
    · exact h3
    · exact absurd hj (Nat.not_lt_zero _)
    · exact absurd hj (Nat.not_lt_zero _)
  · rcases ha.cases with rfl | rfl | rfl | rfl | ⟨j, rfl, hj⟩ | ⟨j, rfl, hj⟩
    · rcases hb.cases with rfl | rfl | rfl | rfl | ⟨j, rfl, hj⟩ | ⟨j, rfl, hj⟩
      · exact absurd rfl hne
      · exact fun x => a01 q x hq
      · exact fun x => a02 q x hq
      · exact fun x => a03 q x hq
      · exact absurd hj (Nat.not_lt_zero _)
      · exact absurd hj (Nat.not_lt_zero _)
    · rcases hb.cases with rfl | rfl | rfl | rfl | ⟨j, rfl, hj⟩ | ⟨j, rfl, hj⟩
      · exact a01 q hq
      · exact absurd rfl hne
      · exact a12 q hq
      · exact fun x => a13 q x hq
      · exact absurd hj (Nat.not_lt_zero _)
      · exact absurd hj (Nat.not_lt_zero _)
    · rcases hb.cases with rfl | rfl | rfl | rfl | ⟨j, rfl, hj⟩ | ⟨j, rfl, hj⟩
      · exact a02 q hq
      · exact fun x => a12 q x hq
      · exact absurd rfl hne
      · exact fun x => a23 q x hq
      · exact absurd hj (Nat.not_lt_zero _)
      · exact absurd hj (Nat.not_lt_zero _)
    · rcases hb.cases with rfl | rfl | rfl | rfl | ⟨j, rfl, hj⟩ | ⟨j, rfl, hj⟩
      · exact a03 q hq
      · exact a13 q hq
      · exact a23 q hq
      · exact absurd rfl hne
      · exact absurd hj (Nat.not_lt_zero _)
      · exact absurd hj (Nat.not_lt_zero _)
    · exact absurd hj (Nat.not_lt_zero _)
    · exact absurd hj (Nat.not_lt_zero _)
end Go.Proofs.Ytehleeibgkpjmac
