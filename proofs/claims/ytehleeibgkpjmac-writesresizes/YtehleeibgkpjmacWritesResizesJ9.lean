/- Texts joined: OxT, Strs, FlPlain, WrR, WrA, SetI. -/
import Derived.Test.YtehleeibgkpjmacWritesResizesJ8
import Derived.Test.YtehleeibgkpjmacWritesResizesJ1
import Derived.Test.YtehleeibgkpjmacWritesResizesJ5
import Derived.Test.YtehleeibgkpjmacWritesResizesJ6
/- Contract of the document's tabled, of an image as the document makes it. -/
namespace Go.Proofs.Ytehleeibgkpjmac
open Go.RowKit Go.Shelf
set_option maxRecDepth 20000
set_option linter.unusedVariables false
/-- A value that is an image's five. -/
def FiveV (v : Value) : Prop := ∃ g ra rn rc sa sn sc fa fn fc na nn nc, v = .agg #[.int .i64 g, .slice ra rn rc, .slice sa sn sc, .slice fa fn fc, .slice na nn nc]
set_option maxHeartbeats 4000000 in
theorem tabledX_bare (m : ImgD) (gm : Int) (rg rc : Nat) (sa : Option Addr) (sn sc : Nat) (fa : Option Addr) (fn fc : Nat) (na : Option Addr) (nn nc : Nat) (k : Nat) (t : Int) (ea : Option Addr) (en ec : Nat) (es : List Int) (B : Nat) (val : Nm → Value) (w : World) (hO : OX w B val m) (e0 : val .root = .slice (some ⟨rg, 0, none⟩) m.root.length rc) (e1 : val .slots = .slice sa sn sc) (e2 : val .refs = .slice fa fn fc) (e3 : val .snaps = .slice na nn nc) (hB : B ≤ w.heap.size) (hk : k < m.root.length) (ht : m.root.getD k 0 = t)
    (he : w.ownsRow B 3 1 (.slice ea en ec) es.length (ints es)) (hb : bareL es = true) :
    Calls Try.prog 70 #[.agg #[.int .i64 gm, .slice (some ⟨rg, 0, none⟩) m.root.length rc, .slice sa sn sc, .slice fa fn fc, .slice na nn nc], .int .i64 (k : Int), .slice ea en ec] w fun r w' => ∃ val', r = .returned (.tuple #[imgV gm val', .bool true]) ∧ OX w' B val' { m with root := m.root.set k 0 } ∧ Below B w w' ∧ KeepX w w' m val ∧ SrcX w m val (.slice ea en ec) { m with root := m.root.set k 0 } val' := by
  have m0 : ((w.alloc (.cells #[.int .i64 gm, .slice (some ⟨rg, 0, none⟩) m.root.length rc, .slice sa sn sc, .slice fa fn fc, .slice na nn nc] 26)).alloc (.cells #[.int .i64 0, .slice none 0 0, .slice none 0 0, .slice none 0 0, .slice none 0 0] 26)).heap[w.heap.size]? = some (.cells #[.int .i64 gm, .slice (some ⟨rg, 0, none⟩) m.root.length rc, .slice sa sn sc, .slice fa fn fc, .slice na nn nc] 26) := cells_alloc (World.alloc_heap_new _ _) _
  have m2 : ((w.alloc (.cells #[.int .i64 gm, .slice (some ⟨rg, 0, none⟩) m.root.length rc, .slice sa sn sc, .slice fa fn fc, .slice na nn nc] 26)).alloc (.cells #[.int .i64 0, .slice none 0 0, .slice none 0 0, .slice none 0 0, .slice none 0 0] 26)).heap[w.heap.size + 1]? = some (.cells #[.int .i64 0, .slice none 0 0, .slice none 0 0, .slice none 0 0, .slice none 0 0] 26) := by have := World.alloc_heap_new (w.alloc (.cells #[.int .i64 gm, .slice (some ⟨rg, 0, none⟩) m.root.length rc, .slice sa sn sc, .slice fa fn fc, .slice na nn nc] 26)) (.cells #[.int .i64 0, .slice none 0 0, .slice none 0 0, .slice none 0 0, .slice none 0 0] 26); simpa using this
  obtain ⟨c0, c1, c2, c3, c4⟩ := five m0
  obtain ⟨z0, z1, z2, z3, z4⟩ := five m2
  have y0 := cells_frozen m2 0
  have y1 := cells_frozen m2 1
  have y2 := cells_frozen m2 2
  have y3 := cells_frozen m2 3
  have y4 := cells_frozen m2 4
  have hA : OX ((w.alloc (.cells #[.int .i64 gm, .slice (some ⟨rg, 0, none⟩) m.root.length rc, .slice sa sn sc, .slice fa fn fc, .slice na nn nc] 26)).alloc (.cells #[.int .i64 0, .slice none 0 0, .slice none 0 0, .slice none 0 0, .slice none 0 0] 26)) B val m := (hO.alloc _).alloc _
  have hrr := hA.row .root (LiveX.root m)
  rw [e0] at hrr
  have hrr : ((w.alloc (.cells #[.int .i64 gm, .slice (some ⟨rg, 0, none⟩) m.root.length rc, .slice sa sn sc, .slice fa fn fc, .slice na nn nc] 26)).alloc (.cells #[.int .i64 0, .slice none 0 0, .slice none 0 0, .slice none 0 0, .slice none 0 0] 26)).ownsRow B 3 1 (.slice (some ⟨rg, 0, none⟩) m.root.length rc) m.root.length (ints m.root) := hrr
  have x0 : ((w.alloc (.cells #[.int .i64 gm, .slice (some ⟨rg, 0, none⟩) m.root.length rc, .slice sa sn sc, .slice fa fn fc, .slice na nn nc] 26)).alloc (.cells #[.int .i64 0, .slice none 0 0, .slice none 0 0, .slice none 0 0, .slice none 0 0] 26)).cell? ⟨rg, k, none⟩ = some (.int .i64 t) := (hrr.cellAt k (by omega)).trans (by unfold ints; rw [List.getElem?_map, List.getElem?_eq_getElem hk, ← ht]; simp [List.getD, hk])
  have xf := hrr.frozenAt k
  have hki : (k : Int) < (m.root.length : Int) := by omega
  have hrl : B ≤ rg ∧ rg < w.heap.size := by
    have := hO.row .root (LiveX.root m)
    rw [e0] at this
    exact this.lt rg rfl
  have g1 : ¬ rg = w.heap.size := by omega
  have g2 : ¬ w.heap.size = rg := by omega
  have g3 : ¬ rg = w.heap.size + 1 := by omega
  have g4 : ¬ w.heap.size + 1 = rg := by omega
  have bB : Below B w ((w.alloc (.cells #[.int .i64 gm, .slice (some ⟨rg, 0, none⟩) m.root.length rc, .slice sa sn sc, .slice fa fn fc, .slice na nn nc] 26)).alloc (.cells #[.int .i64 0, .slice none 0 0, .slice none 0 0, .slice none 0 0, .slice none 0 0] 26)) := ((Below.refl B w).alloc hB _).alloc (by simp <;> omega) _
  have hE0 : Sl ((w.alloc (.cells #[.int .i64 gm, .slice (some ⟨rg, 0, none⟩) m.root.length rc, .slice sa sn sc, .slice fa fn fc, .slice na nn nc] 26)).alloc (.cells #[.int .i64 0, .slice none 0 0, .slice none 0 0, .slice none 0 0, .slice none 0 0] 26)) (.slice ea en ec) es := row_sl ((he.alloc _).alloc _)

  go_enter Try.func70, Try.ntmps70
  go_wp2_with (go_at_call 96; refine (bareIn_any _ es _ hE0).mono ?_; rintro e w' ⟨rfl, hw⟩; rw [hw, hb]; clear hw)
  have hN := ((hO.setRoot e0 k 0).alloc (.cells #[.int .i64 gm, .slice (some ⟨rg, 0, none⟩) m.root.length rc, .slice sa sn sc, .slice fa fn fc, .slice na nn nc] 26)).alloc (.cells #[.int .i64 gm, .slice (some ⟨rg, 0, none⟩) m.root.length rc, .slice sa sn sc, .slice fa fn fc, .slice na nn nc] 26)
  have hsz : w.heap.size ≤ (w.setCell ⟨rg, k, none⟩ (.int .i64 0)).heap.size := ((Below.refl B w).setCell (p := ⟨rg, k, none⟩) hrl.1 _).size
  have hs : B ≤ (w.setCell ⟨rg, k, none⟩ (.int .i64 0)).heap.size := Nat.le_trans hB ((Below.refl B w).setCell (p := ⟨rg, k, none⟩) hrl.1 _).size
  refine bodyPost_ret (v := .tuple #[.agg #[.int .i64 gm, .slice (some ⟨rg, 0, none⟩) m.root.length rc, .slice sa sn sc, .slice fa fn fc, .slice na nn nc], .bool true]) (by simp [results, Try.results70, go_sem]) rfl ⟨val, ?_, hN, (((Below.refl B w).setCell hrl.1 _).alloc hs _).alloc (by simp at hs ⊢; omega) _, (((KeepX.refl w m val).own (LiveX.root m) e0).alloc hsz _).alloc (by simp at hsz ⊢) _, fun _ _ _ hm => hm⟩
  unfold imgV
  rw [e0, e1, e2, e3]

set_option maxHeartbeats 4000000 in
theorem tabledX_place (m : ImgD) (gm : Int) (rg rc : Nat) (sg sc : Nat) (fg fc : Nat) (na : Option Addr) (nn nc : Nat) (k t : Nat) (ea : Option Addr) (en ec : Nat) (es : List Int) (B : Nat) (val : Nm → Value) (w : World) (hO : OX w B val m) (e0 : val .root = .slice (some ⟨rg, 0, none⟩) m.root.length rc) (e1 : val .slots = .slice (some ⟨sg, 0, none⟩) m.slots.length sc) (e2 : val .refs = .slice (some ⟨fg, 0, none⟩) m.refs.length fc) (e3 : val .snaps = .slice na nn nc) (hB : B ≤ w.heap.size) (hk : k < m.root.length) (ht : m.root.getD k 0 = (t : Int))
    (he : w.ownsRow B 3 1 (.slice ea en ec) es.length (ints es)) (hfar : FarX m val (.tab t) (.slice ea en ec)) (hb : bareL es = false) (ht1 : 1 ≤ t) (htl : t < m.slots.length) (hrf : m.refs.length = m.slots.length) (h1 : m.refs.getD t 0 = 1) :
    Calls Try.prog 70 #[.agg #[.int .i64 gm, .slice (some ⟨rg, 0, none⟩) m.root.length rc, .slice (some ⟨sg, 0, none⟩) m.slots.length sc, .slice (some ⟨fg, 0, none⟩) m.refs.length fc, .slice na nn nc], .int .i64 (k : Int), .slice ea en ec] w fun r w' => ∃ val', r = .returned (.tuple #[imgV gm val', .bool true]) ∧ OX w' B val' { m with slots := m.slots.set t (2, ⟨#[]⟩, es) } ∧ Below B w w' ∧ KeepX w w' m val ∧ SrcX w m val (.slice ea en ec) { m with slots := m.slots.set t (2, ⟨#[]⟩, es) } val' := by
  have m0 : ((w.alloc (.cells #[.int .i64 gm, .slice (some ⟨rg, 0, none⟩) m.root.length rc, .slice (some ⟨sg, 0, none⟩) m.slots.length sc, .slice (some ⟨fg, 0, none⟩) m.refs.length fc, .slice na nn nc] 26)).alloc (.cells #[.int .i64 0, .slice none 0 0, .slice none 0 0, .slice none 0 0, .slice none 0 0] 26)).heap[w.heap.size]? = some (.cells #[.int .i64 gm, .slice (some ⟨rg, 0, none⟩) m.root.length rc, .slice (some ⟨sg, 0, none⟩) m.slots.length sc, .slice (some ⟨fg, 0, none⟩) m.refs.length fc, .slice na nn nc] 26) := cells_alloc (World.alloc_heap_new _ _) _
  have m2 : ((w.alloc (.cells #[.int .i64 gm, .slice (some ⟨rg, 0, none⟩) m.root.length rc, .slice (some ⟨sg, 0, none⟩) m.slots.length sc, .slice (some ⟨fg, 0, none⟩) m.refs.length fc, .slice na nn nc] 26)).alloc (.cells #[.int .i64 0, .slice none 0 0, .slice none 0 0, .slice none 0 0, .slice none 0 0] 26)).heap[w.heap.size + 1]? = some (.cells #[.int .i64 0, .slice none 0 0, .slice none 0 0, .slice none 0 0, .slice none 0 0] 26) := by have := World.alloc_heap_new (w.alloc (.cells #[.int .i64 gm, .slice (some ⟨rg, 0, none⟩) m.root.length rc, .slice (some ⟨sg, 0, none⟩) m.slots.length sc, .slice (some ⟨fg, 0, none⟩) m.refs.length fc, .slice na nn nc] 26)) (.cells #[.int .i64 0, .slice none 0 0, .slice none 0 0, .slice none 0 0, .slice none 0 0] 26); simpa using this
  obtain ⟨c0, c1, c2, c3, c4⟩ := five m0
  obtain ⟨z0, z1, z2, z3, z4⟩ := five m2
  have y0 := cells_frozen m2 0
  have y1 := cells_frozen m2 1
  have y2 := cells_frozen m2 2
  have y3 := cells_frozen m2 3
  have y4 := cells_frozen m2 4
  have hA : OX ((w.alloc (.cells #[.int .i64 gm, .slice (some ⟨rg, 0, none⟩) m.root.length rc, .slice (some ⟨sg, 0, none⟩) m.slots.length sc, .slice (some ⟨fg, 0, none⟩) m.refs.length fc, .slice na nn nc] 26)).alloc (.cells #[.int .i64 0, .slice none 0 0, .slice none 0 0, .slice none 0 0, .slice none 0 0] 26)) B val m := (hO.alloc _).alloc _
  have hrr := hA.row .root (LiveX.root m)
  rw [e0] at hrr
  have hrr : ((w.alloc (.cells #[.int .i64 gm, .slice (some ⟨rg, 0, none⟩) m.root.length rc, .slice (some ⟨sg, 0, none⟩) m.slots.length sc, .slice (some ⟨fg, 0, none⟩) m.refs.length fc, .slice na nn nc] 26)).alloc (.cells #[.int .i64 0, .slice none 0 0, .slice none 0 0, .slice none 0 0, .slice none 0 0] 26)).ownsRow B 3 1 (.slice (some ⟨rg, 0, none⟩) m.root.length rc) m.root.length (ints m.root) := hrr
  have x0 : ((w.alloc (.cells #[.int .i64 gm, .slice (some ⟨rg, 0, none⟩) m.root.length rc, .slice (some ⟨sg, 0, none⟩) m.slots.length sc, .slice (some ⟨fg, 0, none⟩) m.refs.length fc, .slice na nn nc] 26)).alloc (.cells #[.int .i64 0, .slice none 0 0, .slice none 0 0, .slice none 0 0, .slice none 0 0] 26)).cell? ⟨rg, k, none⟩ = some (.int .i64 (t : Int)) := (hrr.cellAt k (by omega)).trans (by unfold ints; rw [List.getElem?_map, List.getElem?_eq_getElem hk, ← ht]; simp [List.getD, hk])
  have xf := hrr.frozenAt k
  have hki : (k : Int) < (m.root.length : Int) := by omega
  have hrl : B ≤ rg ∧ rg < w.heap.size := by
    have := hO.row .root (LiveX.root m)
    rw [e0] at this
    exact this.lt rg rfl
  have g1 : ¬ rg = w.heap.size := by omega
  have g2 : ¬ w.heap.size = rg := by omega
  have g3 : ¬ rg = w.heap.size + 1 := by omega
  have g4 : ¬ w.heap.size + 1 = rg := by omega
  have bB : Below B w ((w.alloc (.cells #[.int .i64 gm, .slice (some ⟨rg, 0, none⟩) m.root.length rc, .slice (some ⟨sg, 0, none⟩) m.slots.length sc, .slice (some ⟨fg, 0, none⟩) m.refs.length fc, .slice na nn nc] 26)).alloc (.cells #[.int .i64 0, .slice none 0 0, .slice none 0 0, .slice none 0 0, .slice none 0 0] 26)) := ((Below.refl B w).alloc hB _).alloc (by simp <;> omega) _
  have hE0 : Sl ((w.alloc (.cells #[.int .i64 gm, .slice (some ⟨rg, 0, none⟩) m.root.length rc, .slice (some ⟨sg, 0, none⟩) m.slots.length sc, .slice (some ⟨fg, 0, none⟩) m.refs.length fc, .slice na nn nc] 26)).alloc (.cells #[.int .i64 0, .slice none 0 0, .slice none 0 0, .slice none 0 0, .slice none 0 0] 26)) (.slice ea en ec) es := row_sl ((he.alloc _).alloc _)
  have hsr := hA.row .slots (LiveX.slots m)
  rw [e1] at hsr
  have hsr : ((w.alloc (.cells #[.int .i64 gm, .slice (some ⟨rg, 0, none⟩) m.root.length rc, .slice (some ⟨sg, 0, none⟩) m.slots.length sc, .slice (some ⟨fg, 0, none⟩) m.refs.length fc, .slice na nn nc] 26)).alloc (.cells #[.int .i64 0, .slice none 0 0, .slice none 0 0, .slice none 0 0, .slice none 0 0] 26)).ownsRow B 33 3 (.slice (some ⟨sg, 0, none⟩) m.slots.length sc) m.slots.length (flatS m.slots (fun j => val (.tab j))) := hsr
  have hfr := hA.row .refs (LiveX.refs m)
  rw [e2] at hfr
  have hfr : ((w.alloc (.cells #[.int .i64 gm, .slice (some ⟨rg, 0, none⟩) m.root.length rc, .slice (some ⟨sg, 0, none⟩) m.slots.length sc, .slice (some ⟨fg, 0, none⟩) m.refs.length fc, .slice na nn nc] 26)).alloc (.cells #[.int .i64 0, .slice none 0 0, .slice none 0 0, .slice none 0 0, .slice none 0 0] 26)).ownsRow B 3 1 (.slice (some ⟨fg, 0, none⟩) m.refs.length fc) m.refs.length (ints m.refs) := hfr
  have hsl : B ≤ sg ∧ sg < w.heap.size := by
    have := hO.row .slots (LiveX.slots m)
    rw [e1] at this
    exact this.lt sg rfl
  have hfl : B ≤ fg ∧ fg < w.heap.size := by
    have := hO.row .refs (LiveX.refs m)
    rw [e2] at this
    exact this.lt fg rfl
  have s1 : ¬ sg = w.heap.size := by omega
  have s2 : ¬ w.heap.size = sg := by omega
  have s3 : ¬ sg = w.heap.size + 1 := by omega
  have s4 : ¬ w.heap.size + 1 = sg := by omega
  have hti : (t : Int) < (m.slots.length : Int) := by omega
  have htr : (t : Int) < (m.refs.length : Int) := by omega
  have t0 : ¬ (t : Int) = 0 := by omega
  have t0' : ((t : Int) != 0) = true := by simp; omega
  have x1 : ((w.alloc (.cells #[.int .i64 gm, .slice (some ⟨rg, 0, none⟩) m.root.length rc, .slice (some ⟨sg, 0, none⟩) m.slots.length sc, .slice (some ⟨fg, 0, none⟩) m.refs.length fc, .slice na nn nc] 26)).alloc (.cells #[.int .i64 0, .slice none 0 0, .slice none 0 0, .slice none 0 0, .slice none 0 0] 26)).cell? ⟨fg, t, none⟩ = some (.int .i64 1) := (hfr.cellAt t (by omega)).trans (by unfold ints; rw [List.getElem?_map, List.getElem?_eq_getElem (by omega), ← h1]; simp [List.getD, hrf, htl])
  obtain ⟨v0, v1, v2⟩ := flatS_get (tv := fun j => val (.tab j)) htl
  have t1 : ((w.alloc (.cells #[.int .i64 gm, .slice (some ⟨rg, 0, none⟩) m.root.length rc, .slice (some ⟨sg, 0, none⟩) m.slots.length sc, .slice (some ⟨fg, 0, none⟩) m.refs.length fc, .slice na nn nc] 26)).alloc (.cells #[.int .i64 0, .slice none 0 0, .slice none 0 0, .slice none 0 0, .slice none 0 0] 26)).cell? ⟨sg, t * 3, none⟩ = some _ := (hsr.cellAt (t * 3) (by omega)).trans v0
  have t2 : ((w.alloc (.cells #[.int .i64 gm, .slice (some ⟨rg, 0, none⟩) m.root.length rc, .slice (some ⟨sg, 0, none⟩) m.slots.length sc, .slice (some ⟨fg, 0, none⟩) m.refs.length fc, .slice na nn nc] 26)).alloc (.cells #[.int .i64 0, .slice none 0 0, .slice none 0 0, .slice none 0 0, .slice none 0 0] 26)).cell? ⟨sg, t * 3 + 1, none⟩ = some _ := (hsr.cellAt (t * 3 + 1) (by omega)).trans v1
  have t3 : ((w.alloc (.cells #[.int .i64 gm, .slice (some ⟨rg, 0, none⟩) m.root.length rc, .slice (some ⟨sg, 0, none⟩) m.slots.length sc, .slice (some ⟨fg, 0, none⟩) m.refs.length fc, .slice na nn nc] 26)).alloc (.cells #[.int .i64 0, .slice none 0 0, .slice none 0 0, .slice none 0 0, .slice none 0 0] 26)).cell? ⟨sg, t * 3 + 2, none⟩ = some _ := (hsr.cellAt (t * 3 + 2) (by omega)).trans v2
  have u0 := hsr.frozenAt (t * 3)
  have u1 := hsr.frozenAt (t * 3 + 1)
  have u2 := hsr.frozenAt (t * 3 + 2)
  have hsw := hO.row .slots (LiveX.slots m)
  rw [e1] at hsw
  have hsw : w.ownsRow B 33 3 (.slice (some ⟨sg, 0, none⟩) m.slots.length sc) m.slots.length (flatS m.slots (fun j => val (.tab j))) := hsw
  have t4 : w.cell? ⟨sg, t * 3, none⟩ = some _ := (hsw.cellAt (t * 3) (by omega)).trans v0
  have t5 : w.cell? ⟨sg, t * 3 + 1, none⟩ = some _ := (hsw.cellAt (t * 3 + 1) (by omega)).trans v1
  have t6 : w.cell? ⟨sg, t * 3 + 2, none⟩ = some _ := (hsw.cellAt (t * 3 + 2) (by omega)).trans v2
  have u3 := hsw.frozenAt (t * 3)
  have u4 := hsw.frozenAt (t * 3 + 1)
  have u5 := hsw.frozenAt (t * 3 + 2)
  have hslt := hsl.2
  clear v0 v1 v2 hrf h1 ht
  go_enter Try.func70, Try.ntmps70
  go_wp2_with (go_at_call 96; refine (bareIn_any _ es _ hE0).mono ?_; rintro e w' ⟨rfl, hw⟩; rw [hw, hb]; clear hw)
  have hN := ((hO.setSlot htl e1 2 ⟨#[]⟩ es he hfar).alloc (.cells #[.int .i64 gm, .slice (some ⟨rg, 0, none⟩) m.root.length rc, .slice (some ⟨sg, 0, none⟩) m.slots.length sc, .slice (some ⟨fg, 0, none⟩) m.refs.length fc, .slice na nn nc] 26)).alloc (.cells #[.int .i64 gm, .slice (some ⟨rg, 0, none⟩) m.root.length rc, .slice (some ⟨sg, 0, none⟩) m.slots.length sc, .slice (some ⟨fg, 0, none⟩) m.refs.length fc, .slice na nn nc] 26)
  have b1 := (((Below.refl B w).setCell (p := ⟨sg, t * 3, none⟩) hsl.1 (.int .i64 2)).setCell (p := ⟨sg, t * 3 + 1, none⟩) hsl.1 (.string ⟨#[]⟩)).setCell (p := ⟨sg, t * 3 + 2, none⟩) hsl.1 (.slice ea en ec)
  refine bodyPost_ret (v := .tuple #[.agg #[.int .i64 gm, .slice (some ⟨rg, 0, none⟩) m.root.length rc, .slice (some ⟨sg, 0, none⟩) m.slots.length sc, .slice (some ⟨fg, 0, none⟩) m.refs.length fc, .slice na nn nc], .bool true]) (by simp [results, Try.results70, go_sem]) rfl ⟨_, ?_, hN, (b1.alloc (Nat.le_trans hB b1.size) _).alloc (Nat.le_trans hB (b1.alloc (Nat.le_trans hB b1.size) _).size) _, (((((KeepX.refl w m val).own (LiveX.slots m) e1).own (LiveX.slots m) e1).own (LiveX.slots m) e1).alloc b1.size _).alloc (b1.alloc (Nat.le_trans hB b1.size) _).size _, fun _ _ hev' hm => setX_far hm hev'⟩
  unfold imgV
  rw [upd_other _ _ (by intro x; cases x), upd_other _ _ (by intro x; cases x), upd_other _ _ (by intro x; cases x), upd_other _ _ (by intro x; cases x), e0, e1, e2, e3]

set_option maxHeartbeats 4000000 in
theorem tabledX_full0 (m : ImgD) (gm : Int) (rg rc : Nat) (sg sc : Nat) (fg fc : Nat) (na : Option Addr) (nn nc : Nat) (k : Nat) (ea : Option Addr) (en ec : Nat) (es : List Int) (B : Nat) (val : Nm → Value) (w : World) (hO : OX w B val m) (e0 : val .root = .slice (some ⟨rg, 0, none⟩) m.root.length rc) (e1 : val .slots = .slice (some ⟨sg, 0, none⟩) m.slots.length sc) (e2 : val .refs = .slice (some ⟨fg, 0, none⟩) m.refs.length fc) (_e3 : val .snaps = .slice na nn nc) (hB : B ≤ w.heap.size) (hk : k < m.root.length) (ht : m.root.getD k 0 = 0)
    (he : w.ownsRow B 3 1 (.slice ea en ec) es.length (ints es)) (hb : bareL es = false) (hs1 : 1 ≤ m.slots.length) (hs40 : m.slots.length ≤ 40) (hgr : grabN m.slots = 40) :
    Calls Try.prog 70 #[.agg #[.int .i64 gm, .slice (some ⟨rg, 0, none⟩) m.root.length rc, .slice (some ⟨sg, 0, none⟩) m.slots.length sc, .slice (some ⟨fg, 0, none⟩) m.refs.length fc, .slice na nn nc], .int .i64 (k : Int), .slice ea en ec] w fun r w' => ∃ v, FiveV v ∧ r = .returned (.tuple #[v, .bool false]) ∧ Below B w w' ∧ KeepX w w' m val := by
  have m0 : ((w.alloc (.cells #[.int .i64 gm, .slice (some ⟨rg, 0, none⟩) m.root.length rc, .slice (some ⟨sg, 0, none⟩) m.slots.length sc, .slice (some ⟨fg, 0, none⟩) m.refs.length fc, .slice na nn nc] 26)).alloc (.cells #[.int .i64 0, .slice none 0 0, .slice none 0 0, .slice none 0 0, .slice none 0 0] 26)).heap[w.heap.size]? = some (.cells #[.int .i64 gm, .slice (some ⟨rg, 0, none⟩) m.root.length rc, .slice (some ⟨sg, 0, none⟩) m.slots.length sc, .slice (some ⟨fg, 0, none⟩) m.refs.length fc, .slice na nn nc] 26) := cells_alloc (World.alloc_heap_new _ _) _
  have m2 : ((w.alloc (.cells #[.int .i64 gm, .slice (some ⟨rg, 0, none⟩) m.root.length rc, .slice (some ⟨sg, 0, none⟩) m.slots.length sc, .slice (some ⟨fg, 0, none⟩) m.refs.length fc, .slice na nn nc] 26)).alloc (.cells #[.int .i64 0, .slice none 0 0, .slice none 0 0, .slice none 0 0, .slice none 0 0] 26)).heap[w.heap.size + 1]? = some (.cells #[.int .i64 0, .slice none 0 0, .slice none 0 0, .slice none 0 0, .slice none 0 0] 26) := by have := World.alloc_heap_new (w.alloc (.cells #[.int .i64 gm, .slice (some ⟨rg, 0, none⟩) m.root.length rc, .slice (some ⟨sg, 0, none⟩) m.slots.length sc, .slice (some ⟨fg, 0, none⟩) m.refs.length fc, .slice na nn nc] 26)) (.cells #[.int .i64 0, .slice none 0 0, .slice none 0 0, .slice none 0 0, .slice none 0 0] 26); simpa using this
  obtain ⟨c0, c1, c2, c3, c4⟩ := five m0
  obtain ⟨z0, z1, z2, z3, z4⟩ := five m2
  have y0 := cells_frozen m2 0
  have y1 := cells_frozen m2 1
  have y2 := cells_frozen m2 2
  have y3 := cells_frozen m2 3
  have y4 := cells_frozen m2 4
  have hA : OX ((w.alloc (.cells #[.int .i64 gm, .slice (some ⟨rg, 0, none⟩) m.root.length rc, .slice (some ⟨sg, 0, none⟩) m.slots.length sc, .slice (some ⟨fg, 0, none⟩) m.refs.length fc, .slice na nn nc] 26)).alloc (.cells #[.int .i64 0, .slice none 0 0, .slice none 0 0, .slice none 0 0, .slice none 0 0] 26)) B val m := (hO.alloc _).alloc _
  have hrr := hA.row .root (LiveX.root m)
  rw [e0] at hrr
  have hrr : ((w.alloc (.cells #[.int .i64 gm, .slice (some ⟨rg, 0, none⟩) m.root.length rc, .slice (some ⟨sg, 0, none⟩) m.slots.length sc, .slice (some ⟨fg, 0, none⟩) m.refs.length fc, .slice na nn nc] 26)).alloc (.cells #[.int .i64 0, .slice none 0 0, .slice none 0 0, .slice none 0 0, .slice none 0 0] 26)).ownsRow B 3 1 (.slice (some ⟨rg, 0, none⟩) m.root.length rc) m.root.length (ints m.root) := hrr
  have x0 : ((w.alloc (.cells #[.int .i64 gm, .slice (some ⟨rg, 0, none⟩) m.root.length rc, .slice (some ⟨sg, 0, none⟩) m.slots.length sc, .slice (some ⟨fg, 0, none⟩) m.refs.length fc, .slice na nn nc] 26)).alloc (.cells #[.int .i64 0, .slice none 0 0, .slice none 0 0, .slice none 0 0, .slice none 0 0] 26)).cell? ⟨rg, k, none⟩ = some (.int .i64 0) := (hrr.cellAt k (by omega)).trans (by unfold ints; rw [List.getElem?_map, List.getElem?_eq_getElem hk, ← ht]; simp [List.getD, hk])
  have xf := hrr.frozenAt k
  have hki : (k : Int) < (m.root.length : Int) := by omega
  have hrl : B ≤ rg ∧ rg < w.heap.size := by
    have := hO.row .root (LiveX.root m)
    rw [e0] at this
    exact this.lt rg rfl
  have g1 : ¬ rg = w.heap.size := by omega
  have g2 : ¬ w.heap.size = rg := by omega
  have g3 : ¬ rg = w.heap.size + 1 := by omega
  have g4 : ¬ w.heap.size + 1 = rg := by omega
  have bB : Below B w ((w.alloc (.cells #[.int .i64 gm, .slice (some ⟨rg, 0, none⟩) m.root.length rc, .slice (some ⟨sg, 0, none⟩) m.slots.length sc, .slice (some ⟨fg, 0, none⟩) m.refs.length fc, .slice na nn nc] 26)).alloc (.cells #[.int .i64 0, .slice none 0 0, .slice none 0 0, .slice none 0 0, .slice none 0 0] 26)) := ((Below.refl B w).alloc hB _).alloc (by simp <;> omega) _
  have hE0 : Sl ((w.alloc (.cells #[.int .i64 gm, .slice (some ⟨rg, 0, none⟩) m.root.length rc, .slice (some ⟨sg, 0, none⟩) m.slots.length sc, .slice (some ⟨fg, 0, none⟩) m.refs.length fc, .slice na nn nc] 26)).alloc (.cells #[.int .i64 0, .slice none 0 0, .slice none 0 0, .slice none 0 0, .slice none 0 0] 26)) (.slice ea en ec) es := row_sl ((he.alloc _).alloc _)
  have hsr := hA.row .slots (LiveX.slots m)
  rw [e1] at hsr
  have hsr : ((w.alloc (.cells #[.int .i64 gm, .slice (some ⟨rg, 0, none⟩) m.root.length rc, .slice (some ⟨sg, 0, none⟩) m.slots.length sc, .slice (some ⟨fg, 0, none⟩) m.refs.length fc, .slice na nn nc] 26)).alloc (.cells #[.int .i64 0, .slice none 0 0, .slice none 0 0, .slice none 0 0, .slice none 0 0] 26)).ownsRow B 33 3 (.slice (some ⟨sg, 0, none⟩) m.slots.length sc) m.slots.length (flatS m.slots (fun j => val (.tab j))) := hsr
  have hfr := hA.row .refs (LiveX.refs m)
  rw [e2] at hfr
  have hfr : ((w.alloc (.cells #[.int .i64 gm, .slice (some ⟨rg, 0, none⟩) m.root.length rc, .slice (some ⟨sg, 0, none⟩) m.slots.length sc, .slice (some ⟨fg, 0, none⟩) m.refs.length fc, .slice na nn nc] 26)).alloc (.cells #[.int .i64 0, .slice none 0 0, .slice none 0 0, .slice none 0 0, .slice none 0 0] 26)).ownsRow B 3 1 (.slice (some ⟨fg, 0, none⟩) m.refs.length fc) m.refs.length (ints m.refs) := hfr
  have hsl : B ≤ sg ∧ sg < w.heap.size := by
    have := hO.row .slots (LiveX.slots m)
    rw [e1] at this
    exact this.lt sg rfl
  have hfl : B ≤ fg ∧ fg < w.heap.size := by
    have := hO.row .refs (LiveX.refs m)
    rw [e2] at this
    exact this.lt fg rfl
  have s1 : ¬ sg = w.heap.size := by omega
  have s2 : ¬ w.heap.size = sg := by omega
  have s3 : ¬ sg = w.heap.size + 1 := by omega
  have s4 : ¬ w.heap.size + 1 = sg := by omega
  have htab : ∀ j, j < m.slots.length → Sl ((w.alloc (.cells #[.int .i64 gm, .slice (some ⟨rg, 0, none⟩) m.root.length rc, .slice (some ⟨sg, 0, none⟩) m.slots.length sc, .slice (some ⟨fg, 0, none⟩) m.refs.length fc, .slice na nn nc] 26)).alloc (.cells #[.int .i64 0, .slice none 0 0, .slice none 0 0, .slice none 0 0, .slice none 0 0] 26)) (val (.tab j)) (m.slots.getD j default).2.2 := fun j hj => hA.tabSl hj
  have hG := grabOf_row hsr htab hs1 hs40 (if_pos hgr)
  clear ht htab
  go_enter Try.func70, Try.ntmps70
  go_wp2_with (first | (go_at_call 96; refine (bareIn_any _ es _ hE0).mono ?_; rintro e w' ⟨rfl, hw⟩; rw [hw, hb]; clear hw) | (go_at_call 61; refine hG.mono ?_; rintro e w' ⟨rfl, hw⟩; rw [hw]; clear hw))
  refine bodyPost_ret (v := .tuple #[.agg #[.int .i64 gm, .slice (some ⟨rg, 0, none⟩) m.root.length rc, .slice (some ⟨sg, 0, none⟩) m.slots.length sc, .slice (some ⟨fg, 0, none⟩) m.refs.length fc, .slice na nn nc], .bool false]) (by simp [results, Try.results70, go_sem]) rfl ⟨_, ⟨_, _, _, _, _, _, _, _, _, _, _, _, _, rfl⟩, rfl, ((Below.refl B w).alloc hB _).alloc (by simp <;> omega) _, ((KeepX.refl w m val).alloc (Nat.le_refl _) _).alloc (by simp) _⟩

set_option maxHeartbeats 4000000 in
theorem tabledX_full1 (m : ImgD) (gm : Int) (rg rc : Nat) (sg sc : Nat) (fg fc : Nat) (na : Option Addr) (nn nc : Nat) (k : Nat) (t : Nat) (ea : Option Addr) (en ec : Nat) (es : List Int) (B : Nat) (val : Nm → Value) (w : World) (hO : OX w B val m) (e0 : val .root = .slice (some ⟨rg, 0, none⟩) m.root.length rc) (e1 : val .slots = .slice (some ⟨sg, 0, none⟩) m.slots.length sc) (e2 : val .refs = .slice (some ⟨fg, 0, none⟩) m.refs.length fc) (_e3 : val .snaps = .slice na nn nc) (hB : B ≤ w.heap.size) (hk : k < m.root.length) (ht : m.root.getD k 0 = (t : Int)) (ht1 : 1 ≤ t) (htl : t < m.slots.length) (hrf : m.refs.length = m.slots.length) (h1 : m.refs.getD t 0 ≠ 1)
    (he : w.ownsRow B 3 1 (.slice ea en ec) es.length (ints es)) (hb : bareL es = false) (hs1 : 1 ≤ m.slots.length) (hs40 : m.slots.length ≤ 40) (hgr : grabN m.slots = 40) :
    Calls Try.prog 70 #[.agg #[.int .i64 gm, .slice (some ⟨rg, 0, none⟩) m.root.length rc, .slice (some ⟨sg, 0, none⟩) m.slots.length sc, .slice (some ⟨fg, 0, none⟩) m.refs.length fc, .slice na nn nc], .int .i64 (k : Int), .slice ea en ec] w fun r w' => ∃ v, FiveV v ∧ r = .returned (.tuple #[v, .bool false]) ∧ Below B w w' ∧ KeepX w w' m val := by
  have m0 : ((w.alloc (.cells #[.int .i64 gm, .slice (some ⟨rg, 0, none⟩) m.root.length rc, .slice (some ⟨sg, 0, none⟩) m.slots.length sc, .slice (some ⟨fg, 0, none⟩) m.refs.length fc, .slice na nn nc] 26)).alloc (.cells #[.int .i64 0, .slice none 0 0, .slice none 0 0, .slice none 0 0, .slice none 0 0] 26)).heap[w.heap.size]? = some (.cells #[.int .i64 gm, .slice (some ⟨rg, 0, none⟩) m.root.length rc, .slice (some ⟨sg, 0, none⟩) m.slots.length sc, .slice (some ⟨fg, 0, none⟩) m.refs.length fc, .slice na nn nc] 26) := cells_alloc (World.alloc_heap_new _ _) _
  have m2 : ((w.alloc (.cells #[.int .i64 gm, .slice (some ⟨rg, 0, none⟩) m.root.length rc, .slice (some ⟨sg, 0, none⟩) m.slots.length sc, .slice (some ⟨fg, 0, none⟩) m.refs.length fc, .slice na nn nc] 26)).alloc (.cells #[.int .i64 0, .slice none 0 0, .slice none 0 0, .slice none 0 0, .slice none 0 0] 26)).heap[w.heap.size + 1]? = some (.cells #[.int .i64 0, .slice none 0 0, .slice none 0 0, .slice none 0 0, .slice none 0 0] 26) := by have := World.alloc_heap_new (w.alloc (.cells #[.int .i64 gm, .slice (some ⟨rg, 0, none⟩) m.root.length rc, .slice (some ⟨sg, 0, none⟩) m.slots.length sc, .slice (some ⟨fg, 0, none⟩) m.refs.length fc, .slice na nn nc] 26)) (.cells #[.int .i64 0, .slice none 0 0, .slice none 0 0, .slice none 0 0, .slice none 0 0] 26); simpa using this
  obtain ⟨c0, c1, c2, c3, c4⟩ := five m0
  obtain ⟨z0, z1, z2, z3, z4⟩ := five m2
  have y0 := cells_frozen m2 0
  have y1 := cells_frozen m2 1
  have y2 := cells_frozen m2 2
  have y3 := cells_frozen m2 3
  have y4 := cells_frozen m2 4
  have hA : OX ((w.alloc (.cells #[.int .i64 gm, .slice (some ⟨rg, 0, none⟩) m.root.length rc, .slice (some ⟨sg, 0, none⟩) m.slots.length sc, .slice (some ⟨fg, 0, none⟩) m.refs.length fc, .slice na nn nc] 26)).alloc (.cells #[.int .i64 0, .slice none 0 0, .slice none 0 0, .slice none 0 0, .slice none 0 0] 26)) B val m := (hO.alloc _).alloc _
  have hrr := hA.row .root (LiveX.root m)
  rw [e0] at hrr
  have hrr : ((w.alloc (.cells #[.int .i64 gm, .slice (some ⟨rg, 0, none⟩) m.root.length rc, .slice (some ⟨sg, 0, none⟩) m.slots.length sc, .slice (some ⟨fg, 0, none⟩) m.refs.length fc, .slice na nn nc] 26)).alloc (.cells #[.int .i64 0, .slice none 0 0, .slice none 0 0, .slice none 0 0, .slice none 0 0] 26)).ownsRow B 3 1 (.slice (some ⟨rg, 0, none⟩) m.root.length rc) m.root.length (ints m.root) := hrr
  have x0 : ((w.alloc (.cells #[.int .i64 gm, .slice (some ⟨rg, 0, none⟩) m.root.length rc, .slice (some ⟨sg, 0, none⟩) m.slots.length sc, .slice (some ⟨fg, 0, none⟩) m.refs.length fc, .slice na nn nc] 26)).alloc (.cells #[.int .i64 0, .slice none 0 0, .slice none 0 0, .slice none 0 0, .slice none 0 0] 26)).cell? ⟨rg, k, none⟩ = some (.int .i64 (t : Int)) := (hrr.cellAt k (by omega)).trans (by unfold ints; rw [List.getElem?_map, List.getElem?_eq_getElem hk, ← ht]; simp [List.getD, hk])
  have xf := hrr.frozenAt k
  have hki : (k : Int) < (m.root.length : Int) := by omega
  have hrl : B ≤ rg ∧ rg < w.heap.size := by
    have := hO.row .root (LiveX.root m)
    rw [e0] at this
    exact this.lt rg rfl
  have g1 : ¬ rg = w.heap.size := by omega
  have g2 : ¬ w.heap.size = rg := by omega
  have g3 : ¬ rg = w.heap.size + 1 := by omega
  have g4 : ¬ w.heap.size + 1 = rg := by omega
  have bB : Below B w ((w.alloc (.cells #[.int .i64 gm, .slice (some ⟨rg, 0, none⟩) m.root.length rc, .slice (some ⟨sg, 0, none⟩) m.slots.length sc, .slice (some ⟨fg, 0, none⟩) m.refs.length fc, .slice na nn nc] 26)).alloc (.cells #[.int .i64 0, .slice none 0 0, .slice none 0 0, .slice none 0 0, .slice none 0 0] 26)) := ((Below.refl B w).alloc hB _).alloc (by simp <;> omega) _
  have hE0 : Sl ((w.alloc (.cells #[.int .i64 gm, .slice (some ⟨rg, 0, none⟩) m.root.length rc, .slice (some ⟨sg, 0, none⟩) m.slots.length sc, .slice (some ⟨fg, 0, none⟩) m.refs.length fc, .slice na nn nc] 26)).alloc (.cells #[.int .i64 0, .slice none 0 0, .slice none 0 0, .slice none 0 0, .slice none 0 0] 26)) (.slice ea en ec) es := row_sl ((he.alloc _).alloc _)
  have hsr := hA.row .slots (LiveX.slots m)
  rw [e1] at hsr
  have hsr : ((w.alloc (.cells #[.int .i64 gm, .slice (some ⟨rg, 0, none⟩) m.root.length rc, .slice (some ⟨sg, 0, none⟩) m.slots.length sc, .slice (some ⟨fg, 0, none⟩) m.refs.length fc, .slice na nn nc] 26)).alloc (.cells #[.int .i64 0, .slice none 0 0, .slice none 0 0, .slice none 0 0, .slice none 0 0] 26)).ownsRow B 33 3 (.slice (some ⟨sg, 0, none⟩) m.slots.length sc) m.slots.length (flatS m.slots (fun j => val (.tab j))) := hsr
  have hfr := hA.row .refs (LiveX.refs m)
  rw [e2] at hfr
  have hfr : ((w.alloc (.cells #[.int .i64 gm, .slice (some ⟨rg, 0, none⟩) m.root.length rc, .slice (some ⟨sg, 0, none⟩) m.slots.length sc, .slice (some ⟨fg, 0, none⟩) m.refs.length fc, .slice na nn nc] 26)).alloc (.cells #[.int .i64 0, .slice none 0 0, .slice none 0 0, .slice none 0 0, .slice none 0 0] 26)).ownsRow B 3 1 (.slice (some ⟨fg, 0, none⟩) m.refs.length fc) m.refs.length (ints m.refs) := hfr
  have hsl : B ≤ sg ∧ sg < w.heap.size := by
    have := hO.row .slots (LiveX.slots m)
    rw [e1] at this
    exact this.lt sg rfl
  have hfl : B ≤ fg ∧ fg < w.heap.size := by
    have := hO.row .refs (LiveX.refs m)
    rw [e2] at this
    exact this.lt fg rfl
  have s1 : ¬ sg = w.heap.size := by omega
  have s2 : ¬ w.heap.size = sg := by omega
  have s3 : ¬ sg = w.heap.size + 1 := by omega
  have s4 : ¬ w.heap.size + 1 = sg := by omega
  have htr : (t : Int) < (m.refs.length : Int) := by omega
  have t0 : ¬ (t : Int) = 0 := by omega
  have t0' : ((t : Int) != 0) = true := by simp; omega
  obtain ⟨q, hq⟩ : ∃ q, q = m.refs.getD t 0 := ⟨_, rfl⟩
  rw [← hq] at h1
  have q1' : (q == 1) = false := by simp [h1]
  have x1 : ((w.alloc (.cells #[.int .i64 gm, .slice (some ⟨rg, 0, none⟩) m.root.length rc, .slice (some ⟨sg, 0, none⟩) m.slots.length sc, .slice (some ⟨fg, 0, none⟩) m.refs.length fc, .slice na nn nc] 26)).alloc (.cells #[.int .i64 0, .slice none 0 0, .slice none 0 0, .slice none 0 0, .slice none 0 0] 26)).cell? ⟨fg, t, none⟩ = some (.int .i64 q) := (hfr.cellAt t (by omega)).trans (by unfold ints; rw [List.getElem?_map, List.getElem?_eq_getElem (by omega), hq]; simp [List.getD, hrf, htl])
  clear hq hrf
  have htab : ∀ j, j < m.slots.length → Sl ((w.alloc (.cells #[.int .i64 gm, .slice (some ⟨rg, 0, none⟩) m.root.length rc, .slice (some ⟨sg, 0, none⟩) m.slots.length sc, .slice (some ⟨fg, 0, none⟩) m.refs.length fc, .slice na nn nc] 26)).alloc (.cells #[.int .i64 0, .slice none 0 0, .slice none 0 0, .slice none 0 0, .slice none 0 0] 26)) (val (.tab j)) (m.slots.getD j default).2.2 := fun j hj => hA.tabSl hj
  have hG := grabOf_row hsr htab hs1 hs40 (if_pos hgr)
  clear ht htab
  go_enter Try.func70, Try.ntmps70
  go_wp2_with (first | (go_at_call 96; refine (bareIn_any _ es _ hE0).mono ?_; rintro e w' ⟨rfl, hw⟩; rw [hw, hb]; clear hw) | (go_at_call 61; refine hG.mono ?_; rintro e w' ⟨rfl, hw⟩; rw [hw]; clear hw))
  refine bodyPost_ret (v := .tuple #[.agg #[.int .i64 gm, .slice (some ⟨rg, 0, none⟩) m.root.length rc, .slice (some ⟨sg, 0, none⟩) m.slots.length sc, .slice (some ⟨fg, 0, none⟩) m.refs.length fc, .slice na nn nc], .bool false]) (by simp [results, Try.results70, go_sem]) rfl ⟨_, ⟨_, _, _, _, _, _, _, _, _, _, _, _, _, rfl⟩, rfl, ((Below.refl B w).alloc hB _).alloc (by simp <;> omega) _, ((KeepX.refl w m val).alloc (Nat.le_refl _) _).alloc (by simp) _⟩

set_option maxHeartbeats 4000000 in
theorem tabledX_grab0 (m : ImgD) (gm : Int) (rg rc : Nat) (sg sc : Nat) (fg fc : Nat) (na : Option Addr) (nn nc : Nat) (k : Nat) (ea : Option Addr) (en ec : Nat) (es : List Int) (B : Nat) (val : Nm → Value) (w : World) (hO : OX w B val m) (e0 : val .root = .slice (some ⟨rg, 0, none⟩) m.root.length rc) (e1 : val .slots = .slice (some ⟨sg, 0, none⟩) m.slots.length sc) (e2 : val .refs = .slice (some ⟨fg, 0, none⟩) m.refs.length fc) (e3 : val .snaps = .slice na nn nc) (hB : B ≤ w.heap.size) (hk : k < m.root.length) (ht : m.root.getD k 0 = 0)
    (he : w.ownsRow B 3 1 (.slice ea en ec) es.length (ints es)) (hfar : FarX m val (.tab (grabN m.slots)) (.slice ea en ec)) (hb : bareL es = false) (hs1 : 1 ≤ m.slots.length) (hs40 : m.slots.length ≤ 40) (hgr : ¬ grabN m.slots = 40) :
    Calls Try.prog 70 #[.agg #[.int .i64 gm, .slice (some ⟨rg, 0, none⟩) m.root.length rc, .slice (some ⟨sg, 0, none⟩) m.slots.length sc, .slice (some ⟨fg, 0, none⟩) m.refs.length fc, .slice na nn nc], .int .i64 (k : Int), .slice ea en ec] w fun r w' => ∃ val', r = .returned (.tuple #[imgV gm val', .bool true]) ∧ OX w' B val' { m with root := m.root.set k (grabN m.slots : Int), slots := layS m.slots (grabN m.slots) (2, ⟨#[]⟩, es) } ∧ Below B w w' ∧ KeepX w w' m val ∧ SrcX w m val (.slice ea en ec) { m with root := m.root.set k (grabN m.slots : Int), slots := layS m.slots (grabN m.slots) (2, ⟨#[]⟩, es) } val' := by
  have m0 : ((w.alloc (.cells #[.int .i64 gm, .slice (some ⟨rg, 0, none⟩) m.root.length rc, .slice (some ⟨sg, 0, none⟩) m.slots.length sc, .slice (some ⟨fg, 0, none⟩) m.refs.length fc, .slice na nn nc] 26)).alloc (.cells #[.int .i64 0, .slice none 0 0, .slice none 0 0, .slice none 0 0, .slice none 0 0] 26)).heap[w.heap.size]? = some (.cells #[.int .i64 gm, .slice (some ⟨rg, 0, none⟩) m.root.length rc, .slice (some ⟨sg, 0, none⟩) m.slots.length sc, .slice (some ⟨fg, 0, none⟩) m.refs.length fc, .slice na nn nc] 26) := cells_alloc (World.alloc_heap_new _ _) _
  have m2 : ((w.alloc (.cells #[.int .i64 gm, .slice (some ⟨rg, 0, none⟩) m.root.length rc, .slice (some ⟨sg, 0, none⟩) m.slots.length sc, .slice (some ⟨fg, 0, none⟩) m.refs.length fc, .slice na nn nc] 26)).alloc (.cells #[.int .i64 0, .slice none 0 0, .slice none 0 0, .slice none 0 0, .slice none 0 0] 26)).heap[w.heap.size + 1]? = some (.cells #[.int .i64 0, .slice none 0 0, .slice none 0 0, .slice none 0 0, .slice none 0 0] 26) := by have := World.alloc_heap_new (w.alloc (.cells #[.int .i64 gm, .slice (some ⟨rg, 0, none⟩) m.root.length rc, .slice (some ⟨sg, 0, none⟩) m.slots.length sc, .slice (some ⟨fg, 0, none⟩) m.refs.length fc, .slice na nn nc] 26)) (.cells #[.int .i64 0, .slice none 0 0, .slice none 0 0, .slice none 0 0, .slice none 0 0] 26); simpa using this
  obtain ⟨c0, c1, c2, c3, c4⟩ := five m0
  obtain ⟨z0, z1, z2, z3, z4⟩ := five m2
  have y0 := cells_frozen m2 0
  have y1 := cells_frozen m2 1
  have y2 := cells_frozen m2 2
  have y3 := cells_frozen m2 3
  have y4 := cells_frozen m2 4
  have hA : OX ((w.alloc (.cells #[.int .i64 gm, .slice (some ⟨rg, 0, none⟩) m.root.length rc, .slice (some ⟨sg, 0, none⟩) m.slots.length sc, .slice (some ⟨fg, 0, none⟩) m.refs.length fc, .slice na nn nc] 26)).alloc (.cells #[.int .i64 0, .slice none 0 0, .slice none 0 0, .slice none 0 0, .slice none 0 0] 26)) B val m := (hO.alloc _).alloc _
  have hrr := hA.row .root (LiveX.root m)
  rw [e0] at hrr
  have hrr : ((w.alloc (.cells #[.int .i64 gm, .slice (some ⟨rg, 0, none⟩) m.root.length rc, .slice (some ⟨sg, 0, none⟩) m.slots.length sc, .slice (some ⟨fg, 0, none⟩) m.refs.length fc, .slice na nn nc] 26)).alloc (.cells #[.int .i64 0, .slice none 0 0, .slice none 0 0, .slice none 0 0, .slice none 0 0] 26)).ownsRow B 3 1 (.slice (some ⟨rg, 0, none⟩) m.root.length rc) m.root.length (ints m.root) := hrr
  have x0 : ((w.alloc (.cells #[.int .i64 gm, .slice (some ⟨rg, 0, none⟩) m.root.length rc, .slice (some ⟨sg, 0, none⟩) m.slots.length sc, .slice (some ⟨fg, 0, none⟩) m.refs.length fc, .slice na nn nc] 26)).alloc (.cells #[.int .i64 0, .slice none 0 0, .slice none 0 0, .slice none 0 0, .slice none 0 0] 26)).cell? ⟨rg, k, none⟩ = some (.int .i64 0) := (hrr.cellAt k (by omega)).trans (by unfold ints; rw [List.getElem?_map, List.getElem?_eq_getElem hk, ← ht]; simp [List.getD, hk])
  have xf := hrr.frozenAt k
  have hki : (k : Int) < (m.root.length : Int) := by omega
  have hrl : B ≤ rg ∧ rg < w.heap.size := by
    have := hO.row .root (LiveX.root m)
    rw [e0] at this
    exact this.lt rg rfl
  have g1 : ¬ rg = w.heap.size := by omega
  have g2 : ¬ w.heap.size = rg := by omega
  have g3 : ¬ rg = w.heap.size + 1 := by omega
  have g4 : ¬ w.heap.size + 1 = rg := by omega
  have bB : Below B w ((w.alloc (.cells #[.int .i64 gm, .slice (some ⟨rg, 0, none⟩) m.root.length rc, .slice (some ⟨sg, 0, none⟩) m.slots.length sc, .slice (some ⟨fg, 0, none⟩) m.refs.length fc, .slice na nn nc] 26)).alloc (.cells #[.int .i64 0, .slice none 0 0, .slice none 0 0, .slice none 0 0, .slice none 0 0] 26)) := ((Below.refl B w).alloc hB _).alloc (by simp <;> omega) _
  have hE0 : Sl ((w.alloc (.cells #[.int .i64 gm, .slice (some ⟨rg, 0, none⟩) m.root.length rc, .slice (some ⟨sg, 0, none⟩) m.slots.length sc, .slice (some ⟨fg, 0, none⟩) m.refs.length fc, .slice na nn nc] 26)).alloc (.cells #[.int .i64 0, .slice none 0 0, .slice none 0 0, .slice none 0 0, .slice none 0 0] 26)) (.slice ea en ec) es := row_sl ((he.alloc _).alloc _)
  have hsr := hA.row .slots (LiveX.slots m)
  rw [e1] at hsr
  have hsr : ((w.alloc (.cells #[.int .i64 gm, .slice (some ⟨rg, 0, none⟩) m.root.length rc, .slice (some ⟨sg, 0, none⟩) m.slots.length sc, .slice (some ⟨fg, 0, none⟩) m.refs.length fc, .slice na nn nc] 26)).alloc (.cells #[.int .i64 0, .slice none 0 0, .slice none 0 0, .slice none 0 0, .slice none 0 0] 26)).ownsRow B 33 3 (.slice (some ⟨sg, 0, none⟩) m.slots.length sc) m.slots.length (flatS m.slots (fun j => val (.tab j))) := hsr
  have hfr := hA.row .refs (LiveX.refs m)
  rw [e2] at hfr
  have hfr : ((w.alloc (.cells #[.int .i64 gm, .slice (some ⟨rg, 0, none⟩) m.root.length rc, .slice (some ⟨sg, 0, none⟩) m.slots.length sc, .slice (some ⟨fg, 0, none⟩) m.refs.length fc, .slice na nn nc] 26)).alloc (.cells #[.int .i64 0, .slice none 0 0, .slice none 0 0, .slice none 0 0, .slice none 0 0] 26)).ownsRow B 3 1 (.slice (some ⟨fg, 0, none⟩) m.refs.length fc) m.refs.length (ints m.refs) := hfr
  have hsl : B ≤ sg ∧ sg < w.heap.size := by
    have := hO.row .slots (LiveX.slots m)
    rw [e1] at this
    exact this.lt sg rfl
  have hfl : B ≤ fg ∧ fg < w.heap.size := by
    have := hO.row .refs (LiveX.refs m)
    rw [e2] at this
    exact this.lt fg rfl
  have s1 : ¬ sg = w.heap.size := by omega
  have s2 : ¬ w.heap.size = sg := by omega
  have s3 : ¬ sg = w.heap.size + 1 := by omega
  have s4 : ¬ w.heap.size + 1 = sg := by omega
  have htab : ∀ j, j < m.slots.length → Sl ((w.alloc (.cells #[.int .i64 gm, .slice (some ⟨rg, 0, none⟩) m.root.length rc, .slice (some ⟨sg, 0, none⟩) m.slots.length sc, .slice (some ⟨fg, 0, none⟩) m.refs.length fc, .slice na nn nc] 26)).alloc (.cells #[.int .i64 0, .slice none 0 0, .slice none 0 0, .slice none 0 0, .slice none 0 0] 26)) (val (.tab j)) (m.slots.getD j default).2.2 := fun j hj => hA.tabSl hj
  have hgn : 1 ≤ grabN m.slots ∧ grabN m.slots ≤ m.slots.length := ⟨(grabN_at hs1).1, (grabN_at hs1).2.1⟩
  have hG := grabOf_row hsr htab hs1 hs40 (if_neg hgr)
  have hcall : Calls Try.prog 62 #[.agg #[.int .i64 gm, .slice (some ⟨rg, 0, none⟩) m.root.length rc, .slice (some ⟨sg, 0, none⟩) m.slots.length sc, .slice (some ⟨fg, 0, none⟩) m.refs.length fc, .slice na nn nc], .int .i64 (grabN m.slots : Int), .agg #[.int .i64 2, .string ⟨#[]⟩, .slice ea en ec]] ((w.alloc (.cells #[.int .i64 gm, .slice (some ⟨rg, 0, none⟩) m.root.length rc, .slice (some ⟨sg, 0, none⟩) m.slots.length sc, .slice (some ⟨fg, 0, none⟩) m.refs.length fc, .slice na nn nc] 26)).alloc (.cells #[.int .i64 0, .slice none 0 0, .slice none 0 0, .slice none 0 0, .slice none 0 0] 26)) fun r w' => ∃ sa2 sn2 sc2 val2, r = .returned (.agg #[.int .i64 gm, .slice (some ⟨rg, 0, none⟩) m.root.length rc, .slice sa2 sn2 sc2, .slice (some ⟨fg, 0, none⟩) m.refs.length fc, .slice na nn nc]) ∧ Hid (OX w' B val2 { m with slots := layS m.slots (grabN m.slots) (2, ⟨#[]⟩, es) } ∧ imgV gm val2 = .agg #[.int .i64 gm, .slice (some ⟨rg, 0, none⟩) m.root.length rc, .slice sa2 sn2 sc2, .slice (some ⟨fg, 0, none⟩) m.refs.length fc, .slice na nn nc] ∧ val2 .root = .slice (some ⟨rg, 0, none⟩) m.root.length rc) ∧ Hid (Below B ((w.alloc (.cells #[.int .i64 gm, .slice (some ⟨rg, 0, none⟩) m.root.length rc, .slice (some ⟨sg, 0, none⟩) m.slots.length sc, .slice (some ⟨fg, 0, none⟩) m.refs.length fc, .slice na nn nc] 26)).alloc (.cells #[.int .i64 0, .slice none 0 0, .slice none 0 0, .slice none 0 0, .slice none 0 0] 26)) w') ∧ Hid (KeepX ((w.alloc (.cells #[.int .i64 gm, .slice (some ⟨rg, 0, none⟩) m.root.length rc, .slice (some ⟨sg, 0, none⟩) m.slots.length sc, .slice (some ⟨fg, 0, none⟩) m.refs.length fc, .slice na nn nc] 26)).alloc (.cells #[.int .i64 0, .slice none 0 0, .slice none 0 0, .slice none 0 0, .slice none 0 0] 26)) w' m val) ∧ Hid (SrcX ((w.alloc (.cells #[.int .i64 gm, .slice (some ⟨rg, 0, none⟩) m.root.length rc, .slice (some ⟨sg, 0, none⟩) m.slots.length sc, .slice (some ⟨fg, 0, none⟩) m.refs.length fc, .slice na nn nc] 26)).alloc (.cells #[.int .i64 0, .slice none 0 0, .slice none 0 0, .slice none 0 0, .slice none 0 0] 26)) m val (.slice ea en ec) { m with slots := layS m.slots (grabN m.slots) (2, ⟨#[]⟩, es) } val2) := by
    have eI : imgV gm val = .agg #[.int .i64 gm, .slice (some ⟨rg, 0, none⟩) m.root.length rc, .slice (some ⟨sg, 0, none⟩) m.slots.length sc, .slice (some ⟨fg, 0, none⟩) m.refs.length fc, .slice na nn nc] := by unfold imgV; rw [e0, e1, e2, e3]
    have h := layX_is gm (k := 2) (d := ⟨#[]⟩) hA (by simp <;> omega) hgn.2 (by omega) ((he.alloc _).alloc _) hfar
    rw [eI] at h
    refine h.mono ?_
    rintro r w' ⟨val2, rfl, h1, h2, h3, h5, h4⟩
    obtain ⟨sa2, sc2, es2, _⟩ := h1.forms .slots (LiveX.slots _)
    have r2 := (h4 .root (by intro x; cases x) (by intro x; cases x)).trans e0
    have i2 : imgV gm val2 = .agg #[.int .i64 gm, .slice (some ⟨rg, 0, none⟩) m.root.length rc, .slice sa2 (layS m.slots (grabN m.slots) (2, ⟨#[]⟩, es)).length sc2, .slice (some ⟨fg, 0, none⟩) m.refs.length fc, .slice na nn nc] := by
      have es2 : val2 .slots = .slice sa2 (layS m.slots (grabN m.slots) (2, ⟨#[]⟩, es)).length sc2 := es2
      unfold imgV
      rw [r2, es2, h4 .refs (by intro x; cases x) (by intro x; cases x), e2, h4 .snaps (by intro x; cases x) (by intro x; cases x), e3]
    exact ⟨sa2, _, sc2, val2, by rw [i2], ⟨h1, i2, r2⟩, h2, h3, h5⟩
  have hn0 : ¬ (grabN m.slots : Int) = 0 := by omega
  have hn0' : ((grabN m.slots : Int) == 0) = false := by simp; omega
  have hf0 : ∀ a, LiveX m a → (val a).ownBlock ≠ some w.heap.size := hO.lt (Nat.le_refl _)
  have hf1 : ∀ a, LiveX m a → (val a).ownBlock ≠ some (w.heap.size + 1) := hO.lt (by omega)
  obtain ⟨n, hn⟩ : ∃ n, n = grabN m.slots := ⟨_, rfl⟩
  rw [← hn] at hcall hG hn0 hn0'
  have HN : Hid (n = grabN m.slots) := hn
  clear ht htab hn
  go_enter Try.func70, Try.ntmps70
  go_wp2_with (first | (go_at_call 96; refine (bareIn_any _ es _ hE0).mono ?_; rintro e w' ⟨rfl, hw⟩; rw [hw, hb]; clear hw) | (go_at_call 61; refine hG.mono ?_; rintro e w' ⟨rfl, hw⟩; rw [hw]; clear hw) | (go_at_call 62; refine hcall.mono ?_; rintro e w2 ⟨sa2, sn2, sc2, val2, rfl, H2, hb2, hk2, hv2⟩; have q0 := (hk2.out w.heap.size (by simp <;> omega) hf0).trans m0; have q1 := (hk2.out (w.heap.size + 1) (by simp <;> omega) hf1).trans m2; obtain ⟨p0, p1, p2, p3, p4⟩ := five q0; obtain ⟨o0, o1, o2, o3, o4⟩ := five q1; have i0 := cells_frozen q0 0; have i1 := cells_frozen q0 1; have i2 := cells_frozen q0 2; have i3 := cells_frozen q0 3; have i4 := cells_frozen q0 4; have j0 := cells_frozen q1 0; have j1 := cells_frozen q1 1; have j2 := cells_frozen q1 2; have j3 := cells_frozen q1 3; have j4 := cells_frozen q1 4; have hrw : w2.ownsRow B 3 1 (.slice (some ⟨rg, 0, none⟩) m.root.length rc) m.root.length (ints m.root) := (by have := H2.out.1.row .root (LiveX.root _); rw [H2.out.2.2] at this; exact this); have l0 := root_cell hrw hk; have l1 := hrw.frozenAt k))
  have hn : n = grabN m.slots := HN.out
  subst hn
  have hv : ∀ q, w.heap.size ≤ q → (Value.slice ea en ec).ownBlock ≠ some q := fun q hq e => by have := (he.lt q e).2; omega
  have hfa := hv2.out w.heap.size (by simp <;> omega) (hv _ (Nat.le_refl _)) hf0
  have hfb := hv2.out (w.heap.size + 1) (by simp <;> omega) (hv _ (by omega)) hf1
  have hq1 : OX _ B val2 _ := ((((H2.out.1.far (i := 0) (u := .int .i64 gm) hfa).far (i := 1) (u := .slice (some ⟨rg, 0, none⟩) m.root.length rc) hfa).far (i := 2) (u := .slice sa2 sn2 sc2) hfa).far (i := 3) (u := .slice (some ⟨fg, 0, none⟩) m.refs.length fc) hfa).far (i := 4) (u := .slice na nn nc) hfa
  have hq2 := hq1.setRoot H2.out.2.2 k (grabN m.slots : Int)
  have hq3 := ((((hq2.far (i := 0) (u := .int .i64 gm) hfb).far (i := 1) (u := .slice (some ⟨rg, 0, none⟩) m.root.length rc) hfb).far (i := 2) (u := .slice sa2 sn2 sc2) hfb).far (i := 3) (u := .slice (some ⟨fg, 0, none⟩) m.refs.length fc) hfb).far (i := 4) (u := .slice na nn nc) hfb
  have hB0 : B ≤ w.heap.size + 1 := by omega
  have bb := ((((((((((((bB.trans hb2.out).setCell hB (p := ⟨w.heap.size, 0, none⟩) (.int .i64 gm)).setCell hB (p := ⟨w.heap.size, 1, none⟩) (.slice (some ⟨rg, 0, none⟩) m.root.length rc)).setCell hB (p := ⟨w.heap.size, 2, none⟩) (.slice sa2 sn2 sc2)).setCell hB (p := ⟨w.heap.size, 3, none⟩) (.slice (some ⟨fg, 0, none⟩) m.refs.length fc)).setCell hB (p := ⟨w.heap.size, 4, none⟩) (.slice na nn nc)).setCell hrl.1 (p := ⟨rg, k, none⟩) (.int .i64 (grabN m.slots : Int))).setCell hB0 (p := ⟨w.heap.size + 1, 0, none⟩) (.int .i64 gm)).setCell hB0 (p := ⟨w.heap.size + 1, 1, none⟩) (.slice (some ⟨rg, 0, none⟩) m.root.length rc)).setCell hB0 (p := ⟨w.heap.size + 1, 2, none⟩) (.slice sa2 sn2 sc2)).setCell hB0 (p := ⟨w.heap.size + 1, 3, none⟩) (.slice (some ⟨fg, 0, none⟩) m.refs.length fc)).setCell hB0 (p := ⟨w.heap.size + 1, 4, none⟩) (.slice na nn nc))
  have k0 : KeepX w w2 m val := fun q hq hn => (hk2.out q (by simp <;> omega) hn).trans ((((KeepX.refl w m val).alloc (Nat.le_refl _) _).alloc (by simp) _) q hq hn)
  refine bodyPost_ret (v := .tuple #[.agg #[.int .i64 gm, .slice (some ⟨rg, 0, none⟩) m.root.length rc, .slice sa2 sn2 sc2, .slice (some ⟨fg, 0, none⟩) m.refs.length fc, .slice na nn nc], .bool true]) (by simp [results, Try.results70, go_sem, o0, o1, o2, o3, o4]) rfl ⟨val2, by rw [H2.out.2.1], hq3, bb, (((((((((((k0.new (Nat.le_refl _)).new (Nat.le_refl _)).new (Nat.le_refl _)).new (Nat.le_refl _)).new (Nat.le_refl _)).own (LiveX.root m) e0).new (by omega)).new (by omega)).new (by omega)).new (by omega)).new (by omega)), fun q hq hev' hm => hv2.out q (by simp <;> omega) hev' hm⟩

set_option maxHeartbeats 4000000 in
theorem tabledX_grab1 (m : ImgD) (gm : Int) (rg rc : Nat) (sg sc : Nat) (fg fc : Nat) (na : Option Addr) (nn nc : Nat) (k : Nat) (t : Nat) (ea : Option Addr) (en ec : Nat) (es : List Int) (B : Nat) (val : Nm → Value) (w : World) (hO : OX w B val m) (e0 : val .root = .slice (some ⟨rg, 0, none⟩) m.root.length rc) (e1 : val .slots = .slice (some ⟨sg, 0, none⟩) m.slots.length sc) (e2 : val .refs = .slice (some ⟨fg, 0, none⟩) m.refs.length fc) (e3 : val .snaps = .slice na nn nc) (hB : B ≤ w.heap.size) (hk : k < m.root.length) (ht : m.root.getD k 0 = (t : Int)) (ht1 : 1 ≤ t) (htl : t < m.slots.length) (hrf : m.refs.length = m.slots.length) (h1 : m.refs.getD t 0 ≠ 1)
    (he : w.ownsRow B 3 1 (.slice ea en ec) es.length (ints es)) (hfar : FarX m val (.tab (grabN m.slots)) (.slice ea en ec)) (hb : bareL es = false) (hs1 : 1 ≤ m.slots.length) (hs40 : m.slots.length ≤ 40) (hgr : ¬ grabN m.slots = 40) :
    Calls Try.prog 70 #[.agg #[.int .i64 gm, .slice (some ⟨rg, 0, none⟩) m.root.length rc, .slice (some ⟨sg, 0, none⟩) m.slots.length sc, .slice (some ⟨fg, 0, none⟩) m.refs.length fc, .slice na nn nc], .int .i64 (k : Int), .slice ea en ec] w fun r w' => ∃ val', r = .returned (.tuple #[imgV gm val', .bool true]) ∧ OX w' B val' { m with root := m.root.set k (grabN m.slots : Int), slots := layS m.slots (grabN m.slots) (2, ⟨#[]⟩, es) } ∧ Below B w w' ∧ KeepX w w' m val ∧ SrcX w m val (.slice ea en ec) { m with root := m.root.set k (grabN m.slots : Int), slots := layS m.slots (grabN m.slots) (2, ⟨#[]⟩, es) } val' := by
  have m0 : ((w.alloc (.cells #[.int .i64 gm, .slice (some ⟨rg, 0, none⟩) m.root.length rc, .slice (some ⟨sg, 0, none⟩) m.slots.length sc, .slice (some ⟨fg, 0, none⟩) m.refs.length fc, .slice na nn nc] 26)).alloc (.cells #[.int .i64 0, .slice none 0 0, .slice none 0 0, .slice none 0 0, .slice none 0 0] 26)).heap[w.heap.size]? = some (.cells #[.int .i64 gm, .slice (some ⟨rg, 0, none⟩) m.root.length rc, .slice (some ⟨sg, 0, none⟩) m.slots.length sc, .slice (some ⟨fg, 0, none⟩) m.refs.length fc, .slice na nn nc] 26) := cells_alloc (World.alloc_heap_new _ _) _
  have m2 : ((w.alloc (.cells #[.int .i64 gm, .slice (some ⟨rg, 0, none⟩) m.root.length rc, .slice (some ⟨sg, 0, none⟩) m.slots.length sc, .slice (some ⟨fg, 0, none⟩) m.refs.length fc, .slice na nn nc] 26)).alloc (.cells #[.int .i64 0, .slice none 0 0, .slice none 0 0, .slice none 0 0, .slice none 0 0] 26)).heap[w.heap.size + 1]? = some (.cells #[.int .i64 0, .slice none 0 0, .slice none 0 0, .slice none 0 0, .slice none 0 0] 26) := by have := World.alloc_heap_new (w.alloc (.cells #[.int .i64 gm, .slice (some ⟨rg, 0, none⟩) m.root.length rc, .slice (some ⟨sg, 0, none⟩) m.slots.length sc, .slice (some ⟨fg, 0, none⟩) m.refs.length fc, .slice na nn nc] 26)) (.cells #[.int .i64 0, .slice none 0 0, .slice none 0 0, .slice none 0 0, .slice none 0 0] 26); simpa using this
  obtain ⟨c0, c1, c2, c3, c4⟩ := five m0
  obtain ⟨z0, z1, z2, z3, z4⟩ := five m2
  have y0 := cells_frozen m2 0
  have y1 := cells_frozen m2 1
  have y2 := cells_frozen m2 2
  have y3 := cells_frozen m2 3
  have y4 := cells_frozen m2 4
  have hA : OX ((w.alloc (.cells #[.int .i64 gm, .slice (some ⟨rg, 0, none⟩) m.root.length rc, .slice (some ⟨sg, 0, none⟩) m.slots.length sc, .slice (some ⟨fg, 0, none⟩) m.refs.length fc, .slice na nn nc] 26)).alloc (.cells #[.int .i64 0, .slice none 0 0, .slice none 0 0, .slice none 0 0, .slice none 0 0] 26)) B val m := (hO.alloc _).alloc _
  have hrr := hA.row .root (LiveX.root m)
  rw [e0] at hrr
  have hrr : ((w.alloc (.cells #[.int .i64 gm, .slice (some ⟨rg, 0, none⟩) m.root.length rc, .slice (some ⟨sg, 0, none⟩) m.slots.length sc, .slice (some ⟨fg, 0, none⟩) m.refs.length fc, .slice na nn nc] 26)).alloc (.cells #[.int .i64 0, .slice none 0 0, .slice none 0 0, .slice none 0 0, .slice none 0 0] 26)).ownsRow B 3 1 (.slice (some ⟨rg, 0, none⟩) m.root.length rc) m.root.length (ints m.root) := hrr
  have x0 : ((w.alloc (.cells #[.int .i64 gm, .slice (some ⟨rg, 0, none⟩) m.root.length rc, .slice (some ⟨sg, 0, none⟩) m.slots.length sc, .slice (some ⟨fg, 0, none⟩) m.refs.length fc, .slice na nn nc] 26)).alloc (.cells #[.int .i64 0, .slice none 0 0, .slice none 0 0, .slice none 0 0, .slice none 0 0] 26)).cell? ⟨rg, k, none⟩ = some (.int .i64 (t : Int)) := (hrr.cellAt k (by omega)).trans (by unfold ints; rw [List.getElem?_map, List.getElem?_eq_getElem hk, ← ht]; simp [List.getD, hk])
  have xf := hrr.frozenAt k
  have hki : (k : Int) < (m.root.length : Int) := by omega
  have hrl : B ≤ rg ∧ rg < w.heap.size := by
    have := hO.row .root (LiveX.root m)
    rw [e0] at this
    exact this.lt rg rfl
  have g1 : ¬ rg = w.heap.size := by omega
  have g2 : ¬ w.heap.size = rg := by omega
  have g3 : ¬ rg = w.heap.size + 1 := by omega
  have g4 : ¬ w.heap.size + 1 = rg := by omega
  have bB : Below B w ((w.alloc (.cells #[.int .i64 gm, .slice (some ⟨rg, 0, none⟩) m.root.length rc, .slice (some ⟨sg, 0, none⟩) m.slots.length sc, .slice (some ⟨fg, 0, none⟩) m.refs.length fc, .slice na nn nc] 26)).alloc (.cells #[.int .i64 0, .slice none 0 0, .slice none 0 0, .slice none 0 0, .slice none 0 0] 26)) := ((Below.refl B w).alloc hB _).alloc (by simp <;> omega) _
  have hE0 : Sl ((w.alloc (.cells #[.int .i64 gm, .slice (some ⟨rg, 0, none⟩) m.root.length rc, .slice (some ⟨sg, 0, none⟩) m.slots.length sc, .slice (some ⟨fg, 0, none⟩) m.refs.length fc, .slice na nn nc] 26)).alloc (.cells #[.int .i64 0, .slice none 0 0, .slice none 0 0, .slice none 0 0, .slice none 0 0] 26)) (.slice ea en ec) es := row_sl ((he.alloc _).alloc _)
  have hsr := hA.row .slots (LiveX.slots m)
  rw [e1] at hsr
  have hsr : ((w.alloc (.cells #[.int .i64 gm, .slice (some ⟨rg, 0, none⟩) m.root.length rc, .slice (some ⟨sg, 0, none⟩) m.slots.length sc, .slice (some ⟨fg, 0, none⟩) m.refs.length fc, .slice na nn nc] 26)).alloc (.cells #[.int .i64 0, .slice none 0 0, .slice none 0 0, .slice none 0 0, .slice none 0 0] 26)).ownsRow B 33 3 (.slice (some ⟨sg, 0, none⟩) m.slots.length sc) m.slots.length (flatS m.slots (fun j => val (.tab j))) := hsr
  have hfr := hA.row .refs (LiveX.refs m)
  rw [e2] at hfr
  have hfr : ((w.alloc (.cells #[.int .i64 gm, .slice (some ⟨rg, 0, none⟩) m.root.length rc, .slice (some ⟨sg, 0, none⟩) m.slots.length sc, .slice (some ⟨fg, 0, none⟩) m.refs.length fc, .slice na nn nc] 26)).alloc (.cells #[.int .i64 0, .slice none 0 0, .slice none 0 0, .slice none 0 0, .slice none 0 0] 26)).ownsRow B 3 1 (.slice (some ⟨fg, 0, none⟩) m.refs.length fc) m.refs.length (ints m.refs) := hfr
  have hsl : B ≤ sg ∧ sg < w.heap.size := by
    have := hO.row .slots (LiveX.slots m)
    rw [e1] at this
    exact this.lt sg rfl
  have hfl : B ≤ fg ∧ fg < w.heap.size := by
    have := hO.row .refs (LiveX.refs m)
    rw [e2] at this
    exact this.lt fg rfl
  have s1 : ¬ sg = w.heap.size := by omega
  have s2 : ¬ w.heap.size = sg := by omega
  have s3 : ¬ sg = w.heap.size + 1 := by omega
  have s4 : ¬ w.heap.size + 1 = sg := by omega
  have htr : (t : Int) < (m.refs.length : Int) := by omega
  have t0 : ¬ (t : Int) = 0 := by omega
  have t0' : ((t : Int) != 0) = true := by simp; omega
  obtain ⟨q, hq⟩ : ∃ q, q = m.refs.getD t 0 := ⟨_, rfl⟩
  rw [← hq] at h1
  have q1' : (q == 1) = false := by simp [h1]
  have x1 : ((w.alloc (.cells #[.int .i64 gm, .slice (some ⟨rg, 0, none⟩) m.root.length rc, .slice (some ⟨sg, 0, none⟩) m.slots.length sc, .slice (some ⟨fg, 0, none⟩) m.refs.length fc, .slice na nn nc] 26)).alloc (.cells #[.int .i64 0, .slice none 0 0, .slice none 0 0, .slice none 0 0, .slice none 0 0] 26)).cell? ⟨fg, t, none⟩ = some (.int .i64 q) := (hfr.cellAt t (by omega)).trans (by unfold ints; rw [List.getElem?_map, List.getElem?_eq_getElem (by omega), hq]; simp [List.getD, hrf, htl])
  clear hq hrf
  have htab : ∀ j, j < m.slots.length → Sl ((w.alloc (.cells #[.int .i64 gm, .slice (some ⟨rg, 0, none⟩) m.root.length rc, .slice (some ⟨sg, 0, none⟩) m.slots.length sc, .slice (some ⟨fg, 0, none⟩) m.refs.length fc, .slice na nn nc] 26)).alloc (.cells #[.int .i64 0, .slice none 0 0, .slice none 0 0, .slice none 0 0, .slice none 0 0] 26)) (val (.tab j)) (m.slots.getD j default).2.2 := fun j hj => hA.tabSl hj
  have hgn : 1 ≤ grabN m.slots ∧ grabN m.slots ≤ m.slots.length := ⟨(grabN_at hs1).1, (grabN_at hs1).2.1⟩
  have hG := grabOf_row hsr htab hs1 hs40 (if_neg hgr)
  have hcall : Calls Try.prog 62 #[.agg #[.int .i64 gm, .slice (some ⟨rg, 0, none⟩) m.root.length rc, .slice (some ⟨sg, 0, none⟩) m.slots.length sc, .slice (some ⟨fg, 0, none⟩) m.refs.length fc, .slice na nn nc], .int .i64 (grabN m.slots : Int), .agg #[.int .i64 2, .string ⟨#[]⟩, .slice ea en ec]] ((w.alloc (.cells #[.int .i64 gm, .slice (some ⟨rg, 0, none⟩) m.root.length rc, .slice (some ⟨sg, 0, none⟩) m.slots.length sc, .slice (some ⟨fg, 0, none⟩) m.refs.length fc, .slice na nn nc] 26)).alloc (.cells #[.int .i64 0, .slice none 0 0, .slice none 0 0, .slice none 0 0, .slice none 0 0] 26)) fun r w' => ∃ sa2 sn2 sc2 val2, r = .returned (.agg #[.int .i64 gm, .slice (some ⟨rg, 0, none⟩) m.root.length rc, .slice sa2 sn2 sc2, .slice (some ⟨fg, 0, none⟩) m.refs.length fc, .slice na nn nc]) ∧ Hid (OX w' B val2 { m with slots := layS m.slots (grabN m.slots) (2, ⟨#[]⟩, es) } ∧ imgV gm val2 = .agg #[.int .i64 gm, .slice (some ⟨rg, 0, none⟩) m.root.length rc, .slice sa2 sn2 sc2, .slice (some ⟨fg, 0, none⟩) m.refs.length fc, .slice na nn nc] ∧ val2 .root = .slice (some ⟨rg, 0, none⟩) m.root.length rc) ∧ Hid (Below B ((w.alloc (.cells #[.int .i64 gm, .slice (some ⟨rg, 0, none⟩) m.root.length rc, .slice (some ⟨sg, 0, none⟩) m.slots.length sc, .slice (some ⟨fg, 0, none⟩) m.refs.length fc, .slice na nn nc] 26)).alloc (.cells #[.int .i64 0, .slice none 0 0, .slice none 0 0, .slice none 0 0, .slice none 0 0] 26)) w') ∧ Hid (KeepX ((w.alloc (.cells #[.int .i64 gm, .slice (some ⟨rg, 0, none⟩) m.root.length rc, .slice (some ⟨sg, 0, none⟩) m.slots.length sc, .slice (some ⟨fg, 0, none⟩) m.refs.length fc, .slice na nn nc] 26)).alloc (.cells #[.int .i64 0, .slice none 0 0, .slice none 0 0, .slice none 0 0, .slice none 0 0] 26)) w' m val) ∧ Hid (SrcX ((w.alloc (.cells #[.int .i64 gm, .slice (some ⟨rg, 0, none⟩) m.root.length rc, .slice (some ⟨sg, 0, none⟩) m.slots.length sc, .slice (some ⟨fg, 0, none⟩) m.refs.length fc, .slice na nn nc] 26)).alloc (.cells #[.int .i64 0, .slice none 0 0, .slice none 0 0, .slice none 0 0, .slice none 0 0] 26)) m val (.slice ea en ec) { m with slots := layS m.slots (grabN m.slots) (2, ⟨#[]⟩, es) } val2) := by
    have eI : imgV gm val = .agg #[.int .i64 gm, .slice (some ⟨rg, 0, none⟩) m.root.length rc, .slice (some ⟨sg, 0, none⟩) m.slots.length sc, .slice (some ⟨fg, 0, none⟩) m.refs.length fc, .slice na nn nc] := by unfold imgV; rw [e0, e1, e2, e3]
    have h := layX_is gm (k := 2) (d := ⟨#[]⟩) hA (by simp <;> omega) hgn.2 (by omega) ((he.alloc _).alloc _) hfar
    rw [eI] at h
    refine h.mono ?_
    rintro r w' ⟨val2, rfl, h1, h2, h3, h5, h4⟩
    obtain ⟨sa2, sc2, es2, _⟩ := h1.forms .slots (LiveX.slots _)
    have r2 := (h4 .root (by intro x; cases x) (by intro x; cases x)).trans e0
    have i2 : imgV gm val2 = .agg #[.int .i64 gm, .slice (some ⟨rg, 0, none⟩) m.root.length rc, .slice sa2 (layS m.slots (grabN m.slots) (2, ⟨#[]⟩, es)).length sc2, .slice (some ⟨fg, 0, none⟩) m.refs.length fc, .slice na nn nc] := by
      have es2 : val2 .slots = .slice sa2 (layS m.slots (grabN m.slots) (2, ⟨#[]⟩, es)).length sc2 := es2
      unfold imgV
      rw [r2, es2, h4 .refs (by intro x; cases x) (by intro x; cases x), e2, h4 .snaps (by intro x; cases x) (by intro x; cases x), e3]
    exact ⟨sa2, _, sc2, val2, by rw [i2], ⟨h1, i2, r2⟩, h2, h3, h5⟩
  have hn0 : ¬ (grabN m.slots : Int) = 0 := by omega
  have hn0' : ((grabN m.slots : Int) == 0) = false := by simp; omega
  have hf0 : ∀ a, LiveX m a → (val a).ownBlock ≠ some w.heap.size := hO.lt (Nat.le_refl _)
  have hf1 : ∀ a, LiveX m a → (val a).ownBlock ≠ some (w.heap.size + 1) := hO.lt (by omega)
  obtain ⟨n, hn⟩ : ∃ n, n = grabN m.slots := ⟨_, rfl⟩
  rw [← hn] at hcall hG hn0 hn0'
  have HN : Hid (n = grabN m.slots) := hn
  clear ht htab hn
  go_enter Try.func70, Try.ntmps70
  go_wp2_with (first | (go_at_call 96; refine (bareIn_any _ es _ hE0).mono ?_; rintro e w' ⟨rfl, hw⟩; rw [hw, hb]; clear hw) | (go_at_call 61; refine hG.mono ?_; rintro e w' ⟨rfl, hw⟩; rw [hw]; clear hw) | (go_at_call 62; refine hcall.mono ?_; rintro e w2 ⟨sa2, sn2, sc2, val2, rfl, H2, hb2, hk2, hv2⟩; have q0 := (hk2.out w.heap.size (by simp <;> omega) hf0).trans m0; have q1 := (hk2.out (w.heap.size + 1) (by simp <;> omega) hf1).trans m2; obtain ⟨p0, p1, p2, p3, p4⟩ := five q0; obtain ⟨o0, o1, o2, o3, o4⟩ := five q1; have i0 := cells_frozen q0 0; have i1 := cells_frozen q0 1; have i2 := cells_frozen q0 2; have i3 := cells_frozen q0 3; have i4 := cells_frozen q0 4; have j0 := cells_frozen q1 0; have j1 := cells_frozen q1 1; have j2 := cells_frozen q1 2; have j3 := cells_frozen q1 3; have j4 := cells_frozen q1 4; have hrw : w2.ownsRow B 3 1 (.slice (some ⟨rg, 0, none⟩) m.root.length rc) m.root.length (ints m.root) := (by have := H2.out.1.row .root (LiveX.root _); rw [H2.out.2.2] at this; exact this); have l0 := root_cell hrw hk; have l1 := hrw.frozenAt k))
  have hn : n = grabN m.slots := HN.out
  subst hn
  have hv : ∀ q, w.heap.size ≤ q → (Value.slice ea en ec).ownBlock ≠ some q := fun q hq e => by have := (he.lt q e).2; omega
  have hfa := hv2.out w.heap.size (by simp <;> omega) (hv _ (Nat.le_refl _)) hf0
  have hfb := hv2.out (w.heap.size + 1) (by simp <;> omega) (hv _ (by omega)) hf1
  have hq1 : OX _ B val2 _ := ((((H2.out.1.far (i := 0) (u := .int .i64 gm) hfa).far (i := 1) (u := .slice (some ⟨rg, 0, none⟩) m.root.length rc) hfa).far (i := 2) (u := .slice sa2 sn2 sc2) hfa).far (i := 3) (u := .slice (some ⟨fg, 0, none⟩) m.refs.length fc) hfa).far (i := 4) (u := .slice na nn nc) hfa
  have hq2 := hq1.setRoot H2.out.2.2 k (grabN m.slots : Int)
  have hq3 := ((((hq2.far (i := 0) (u := .int .i64 gm) hfb).far (i := 1) (u := .slice (some ⟨rg, 0, none⟩) m.root.length rc) hfb).far (i := 2) (u := .slice sa2 sn2 sc2) hfb).far (i := 3) (u := .slice (some ⟨fg, 0, none⟩) m.refs.length fc) hfb).far (i := 4) (u := .slice na nn nc) hfb
  have hB0 : B ≤ w.heap.size + 1 := by omega
  have bb := ((((((((((((bB.trans hb2.out).setCell hB (p := ⟨w.heap.size, 0, none⟩) (.int .i64 gm)).setCell hB (p := ⟨w.heap.size, 1, none⟩) (.slice (some ⟨rg, 0, none⟩) m.root.length rc)).setCell hB (p := ⟨w.heap.size, 2, none⟩) (.slice sa2 sn2 sc2)).setCell hB (p := ⟨w.heap.size, 3, none⟩) (.slice (some ⟨fg, 0, none⟩) m.refs.length fc)).setCell hB (p := ⟨w.heap.size, 4, none⟩) (.slice na nn nc)).setCell hrl.1 (p := ⟨rg, k, none⟩) (.int .i64 (grabN m.slots : Int))).setCell hB0 (p := ⟨w.heap.size + 1, 0, none⟩) (.int .i64 gm)).setCell hB0 (p := ⟨w.heap.size + 1, 1, none⟩) (.slice (some ⟨rg, 0, none⟩) m.root.length rc)).setCell hB0 (p := ⟨w.heap.size + 1, 2, none⟩) (.slice sa2 sn2 sc2)).setCell hB0 (p := ⟨w.heap.size + 1, 3, none⟩) (.slice (some ⟨fg, 0, none⟩) m.refs.length fc)).setCell hB0 (p := ⟨w.heap.size + 1, 4, none⟩) (.slice na nn nc))
  have k0 : KeepX w w2 m val := fun q hq hn => (hk2.out q (by simp <;> omega) hn).trans ((((KeepX.refl w m val).alloc (Nat.le_refl _) _).alloc (by simp) _) q hq hn)
  refine bodyPost_ret (v := .tuple #[.agg #[.int .i64 gm, .slice (some ⟨rg, 0, none⟩) m.root.length rc, .slice sa2 sn2 sc2, .slice (some ⟨fg, 0, none⟩) m.refs.length fc, .slice na nn nc], .bool true]) (by simp [results, Try.results70, go_sem, o0, o1, o2, o3, o4]) rfl ⟨val2, by rw [H2.out.2.1], hq3, bb, (((((((((((k0.new (Nat.le_refl _)).new (Nat.le_refl _)).new (Nat.le_refl _)).new (Nat.le_refl _)).new (Nat.le_refl _)).own (LiveX.root m) e0).new (by omega)).new (by omega)).new (by omega)).new (by omega)).new (by omega)), fun q hq hev' hm => hv2.out q (by simp <;> omega) hev' hm⟩


theorem tabledX_is {m : ImgD} (gm : Int) {k t : Nat} {ev : Value} {es : List Int} {B : Nat} {val : Nm → Value} {w : World} (hO : OX w B val m) (hB : B ≤ w.heap.size) (hk : k < m.root.length) (ht : m.root.getD k 0 = (t : Int)) (htl : t < m.slots.length)
    (he : w.ownsRow B 3 1 ev es.length (ints es)) (hfar : ∀ a, FarX m val a ev) (hrf : m.refs.length = m.slots.length) (hs40 : m.slots.length ≤ 40) :
    Calls Try.prog 70 #[imgV gm val, .int .i64 (k : Int), ev] w fun r w' => (bareL es = false ∧ tabN m k = 40 ∧ (∃ v, FiveV v ∧ r = .returned (.tuple #[v, .bool false])) ∧ Below B w w' ∧ KeepX w w' m val) ∨
      (¬ (bareL es = false ∧ tabN m k = 40) ∧ ∃ val', r = .returned (.tuple #[imgV gm val', .bool true]) ∧ OX w' B val' (tabledM m k es) ∧ Below B w w' ∧ KeepX w w' m val ∧ SrcX w m val ev (tabledM m k es) val') := by
  obtain ⟨ra, rc, e0, h0⟩ := hO.forms .root (LiveX.root m)
  obtain ⟨sa, sc, e1, h1⟩ := hO.forms .slots (LiveX.slots m)
  obtain ⟨fa, fc, e2, h2⟩ := hO.forms .refs (LiveX.refs m)
  obtain ⟨na, nc, e3, _⟩ := hO.forms .snaps (LiveX.snaps m)
  obtain ⟨rg, rfl⟩ := h0 (by show 0 < m.root.length; omega)
  obtain ⟨sg, rfl⟩ := h1 (by show 0 < m.slots.length; omega)
  obtain ⟨fg, rfl⟩ := h2 (by show 0 < m.refs.length; omega)
  have e0 : val .root = .slice (some ⟨rg, 0, none⟩) m.root.length rc := e0
  have e1 : val .slots = .slice (some ⟨sg, 0, none⟩) m.slots.length sc := e1
  have e2 : val .refs = .slice (some ⟨fg, 0, none⟩) m.refs.length fc := e2
  have hev : ∃ ea en ec, ev = .slice ea en ec := by
    rcases row_form he with ⟨e, _⟩ | ⟨g, cap, e, _⟩
    · exact ⟨_, _, _, e⟩
    · exact ⟨_, _, _, e⟩
  obtain ⟨ea, en, ec, rfl⟩ := hev
  have eI : imgV gm val = .agg #[.int .i64 gm, .slice (some ⟨rg, 0, none⟩) m.root.length rc, .slice (some ⟨sg, 0, none⟩) m.slots.length sc, .slice (some ⟨fg, 0, none⟩) m.refs.length fc, .slice na (rowN m .snaps) nc] := by unfold imgV; rw [e0, e1, e2, e3]
  rw [eI]
  by_cases hb : bareL es = true
  · refine (tabledX_bare m gm rg rc _ _ sc _ _ fc na _ nc k t ea en ec es B val w hO e0 e1 e2 e3 hB hk ht he hb).mono ?_
    rintro r w' ⟨val', rfl, g1, g2, g3, g4⟩
    refine .inr ⟨fun x => by rw [hb] at x; exact absurd x.1 (by decide), val', rfl, ?_, g2, g3, ?_⟩
    · unfold tabledM; rw [if_pos hb]; exact g1
    · unfold tabledM; rw [if_pos hb]; exact g4
  have hb' : bareL es = false := by simpa using hb
  have hM : tabledM m k es = { m with root := m.root.set k (tabN m k : Int), slots := tabL m k es } := by unfold tabledM; rw [if_neg hb]
  have hin : inPl m k = (((t : Int) != 0) && m.refs.getD t 0 == 1) := by unfold inPl; rw [ht]; simp
  by_cases hp : inPl m k = true
  · have hp' := hp
    rw [hin, Bool.and_eq_true] at hp'
    have ht1 : 1 ≤ t := by have := hp'.1; simp at this; omega
    have hn : tabN m k = t := by unfold tabN; rw [if_pos hp, ht]; simp
    refine (tabledX_place m gm rg rc sg sc fg fc na _ nc k t ea en ec es B val w hO e0 e1 e2 e3 hB hk ht he (hfar _) hb' ht1 htl hrf (by simpa using hp'.2)).mono ?_
    rintro r w' ⟨val', rfl, g1, g2, g3, g4⟩
    have hq : tabledM m k es = { m with slots := m.slots.set t (2, ⟨#[]⟩, es) } := by
      rw [hM]
      unfold tabL layS
      rw [hn, if_neg (by omega), set_same m.root k t ht hk]
    exact .inr ⟨fun x => by have := x.2; omega, val', rfl, by rw [hq]; exact g1, g2, g3, by rw [hq]; exact g4⟩
  · have hn : tabN m k = grabN m.slots := by unfold tabN; rw [if_neg hp]
    have hq : tabledM m k es = { m with root := m.root.set k (grabN m.slots : Int), slots := layS m.slots (grabN m.slots) (2, ⟨#[]⟩, es) } := by rw [hM]; unfold tabL; rw [hn]
    rw [hn]
    by_cases ht0 : t = 0
    · subst ht0
      by_cases hg : grabN m.slots = 40
      · refine (tabledX_full0 m gm rg rc sg sc fg fc na _ nc k ea en ec es B val w hO e0 e1 e2 e3 hB hk ht he hb' (by omega) hs40 hg).mono ?_
        rintro r w' ⟨v, hv5, rfl, g1, g2⟩
        exact .inl ⟨hb', hg, ⟨v, hv5, rfl⟩, g1, g2⟩
      · refine (tabledX_grab0 m gm rg rc sg sc fg fc na _ nc k ea en ec es B val w hO e0 e1 e2 e3 hB hk ht he (hfar _) hb' (by omega) hs40 hg).mono ?_
        rintro r w' ⟨val', rfl, g1, g2, g3, g4⟩
        exact .inr ⟨fun x => hg x.2, val', rfl, by rw [hq]; exact g1, g2, g3, by rw [hq]; exact g4⟩
    · have h1r : m.refs.getD t 0 ≠ 1 := fun e => hp (by rw [hin, e]; simp; omega)
      by_cases hg : grabN m.slots = 40
      · refine (tabledX_full1 m gm rg rc sg sc fg fc na _ nc k t ea en ec es B val w hO e0 e1 e2 e3 hB hk ht (by omega) htl hrf h1r he hb' (by omega) hs40 hg).mono ?_
        rintro r w' ⟨v, hv5, rfl, g1, g2⟩
        exact .inl ⟨hb', hg, ⟨v, hv5, rfl⟩, g1, g2⟩
      · refine (tabledX_grab1 m gm rg rc sg sc fg fc na _ nc k t ea en ec es B val w hO e0 e1 e2 e3 hB hk ht (by omega) htl hrf h1r he (hfar _) hb' (by omega) hs40 hg).mono ?_
        rintro r w' ⟨val', rfl, g1, g2, g3, g4⟩
        exact .inr ⟨fun x => hg x.2, val', rfl, by rw [hq]; exact g1, g2, g3, by rw [hq]; exact g4⟩
end Go.Proofs.Ytehleeibgkpjmac
/- Slices of strings: what it means that a slice value holds them in a world. -/
namespace Go.Proofs.Ytehleeibgkpjmac
open Go.RowKit
set_option maxRecDepth 20000

/-- The slice value v holds the strings xs in the world w. -/
def Ss (w : World) (v : Value) (xs : List ByteArray) : Prop :=
  ∃ ao cap, v = .slice ao xs.length cap ∧ xs.length ≤ maxLen ∧ xs.length ≤ cap ∧ (xs ≠ [] → ∃ b off, ao = some ⟨b, off, none⟩ ∧ b < w.heap.size ∧ ∀ j, j < xs.length → w.cell? ⟨b, off + j, none⟩ = some (.string (xs.getD j ByteArray.empty)))

theorem Ss.below {w w1 : World} {v : Value} {xs : List ByteArray} (h : Ss w v xs) (hb : Below w.heap.size w w1) : Ss w1 v xs := by
  obtain ⟨ao, cap, hv, hm, hcp, hc⟩ := h
  refine ⟨ao, cap, hv, hm, hcp, fun hne => ?_⟩
  obtain ⟨b, off, ha, hlt, hcell⟩ := hc hne
  exact ⟨b, off, ha, Nat.lt_of_lt_of_le hlt hb.size, fun j hj => (hb.cell (p := ⟨b, off + j, none⟩) hlt).trans (hcell j hj)⟩

theorem Ss.nil (w : World) : Ss w (.slice none 0 0) [] := ⟨none, 0, rfl, Nat.zero_le _, Nat.zero_le _, fun h => absurd rfl h⟩

theorem Ss.cells {w : World} {ao : Option Addr} {n cap : Nat} {xs : List ByteArray} (h : Ss w (.slice ao n cap) xs) :
    xs.length = n ∧ n ≤ 9223372036854775807 ∧ n ≤ cap ∧ ∀ j, j < n → ∃ b off, ao = some ⟨b, off, none⟩ ∧ b < w.heap.size ∧ w.cell? ⟨b, off + j, none⟩ = some (.string (xs.getD j ByteArray.empty)) := by
  obtain ⟨ao', cap', hv, hm, hcp, hc⟩ := h
  simp only [Value.slice.injEq] at hv
  obtain ⟨rfl, rfl, rfl⟩ := hv
  unfold maxLen at hm
  refine ⟨rfl, by omega, hcp, fun j hj => ?_⟩
  obtain ⟨b, off, rfl, hlt, hcell⟩ := hc (by intro e; rw [e] at hj; simp at hj)
  exact ⟨b, off, rfl, hlt, hcell j hj⟩

theorem Ss.form {w : World} {v : Value} {xs : List ByteArray} (h : Ss w v xs) : ∃ ao cap, v = .slice ao xs.length cap := by
  obtain ⟨ao, cap, hv, _⟩ := h; exact ⟨ao, cap, hv⟩

theorem Ss.at {w : World} {ao : Option Addr} {n cap : Nat} {xs : List ByteArray} (h : Ss w (.slice ao n cap) xs) (hpos : 0 < n) :
    ∃ b off, ao = some ⟨b, off, none⟩ ∧ b < w.heap.size ∧ ∀ j, j < n → w.cell? ⟨b, off + j, none⟩ = some (.string (xs.getD j ByteArray.empty)) := by
  obtain ⟨ao', cap', hv, hm, hcp, hc⟩ := h
  simp only [Value.slice.injEq] at hv
  obtain ⟨rfl, rfl, rfl⟩ := hv
  exact hc (by intro e; rw [e] at hpos; simp at hpos)

theorem Ss.past {w : World} {v : Value} {xs : List ByteArray} (h : Ss w v xs) (o : Obj) : Ss (w.alloc o) v xs := h.below ((Below.refl _ _).alloc (Nat.le_refl _) o)


end Go.Proofs.Ytehleeibgkpjmac
/- Flat images, plainly: what Read, Write and Resize answer, over lists of pages. -/
namespace Go.Proofs.Ytehleeibgkpjmac
open Go.RowKit
end Go.Proofs.Ytehleeibgkpjmac
/- Resizing: what comes is right, and how it is read; the answers of Write, Wipe, Punch, Resize. Plain lists. -/
namespace Go.Proofs.Ytehleeibgkpjmac
open Go.RowKit Go.Shelf
set_option maxRecDepth 20000

def rerootD (M : ImgD) (g : Nat) : ImgD := { M with guest := (g : Int), root := (M.root ++ List.replicate ((g + 3) / 4 - M.root.length) 0).take ((g + 3) / 4) }
def cutD (m : ImgD) (g : Nat) : Option ImgD :=
  if g % 4 ≠ 0 ∧ g / 4 < m.root.length ∧ cutR (tableO m (g / 4)) (g % 4) ≠ tableO m (g / 4) then tabledD m (g / 4) (cutR (tableO m (g / 4)) (g % 4)) else some m
def resizeD (m : ImgD) (g : Nat) : Option ImgD := (cutD m g).map (fun M => countedD (rerootD M g))

theorem reroot_get (M : ImgD) (g j : Nat) (hj : j < (g + 3) / 4) : (rerootD M g).root.getD j 0 = M.root.getD j 0 := by
  show ((M.root ++ List.replicate ((g + 3) / 4 - M.root.length) 0).take ((g + 3) / 4)).getD j 0 = _
  simp only [List.getD, List.getElem?_take, hj, if_true]
  rw [List.getElem?_append]
  split
  · rfl
  · rename_i h
    rw [List.getElem?_eq_none (l := M.root) (by omega), List.getElem?_replicate]
    split <;> rfl
theorem reroot_length (M : ImgD) (g : Nat) : (rerootD M g).root.length = (g + 3) / 4 := by
  show ((M.root ++ List.replicate ((g + 3) / 4 - M.root.length) 0).take ((g + 3) / 4)).length = _
  simp; omega
theorem reroot_mem {M : ImgD} {g : Nat} {x : Int} (h : x ∈ (rerootD M g).root) : x = 0 ∨ x ∈ M.root := by
  have h : x ∈ M.root ++ List.replicate ((g + 3) / 4 - M.root.length) 0 := List.mem_of_mem_take h
  rcases List.mem_append.1 h with h | h
  · exact .inr h
  · exact .inl (List.mem_replicate.1 h).2

theorem cutR_get {es : List Int} (h4 : es.length = 4) {n : Nat} (hn : n ≤ 4) (i : Nat) : (cutR es n).getD i 0 = if i < n then es.getD i 0 else 0 := by
  unfold cutR
  simp only [List.getD]
  rw [List.getElem?_append, List.length_take]
  by_cases h : i < n
  · rw [if_pos (by omega), if_pos h, List.getElem?_take, if_pos h]
  · rw [if_neg (by omega), if_neg h, List.getElem?_replicate]
    split <;> rfl
theorem cutR_mem {es : List Int} {n : Nat} {x : Int} (h : x ∈ cutR es n) : x ∈ es ∨ x = 0 := by
  unfold cutR at h
  rcases List.mem_append.1 h with h | h
  · exact .inl (List.mem_of_mem_take h)
  · exact .inr (List.mem_replicate.1 h).2
theorem cutR_ck' {es : List Int} (h : ckE es = 0) {n : Nat} (hn : n ≤ 4) : ckE (cutR es n) = 0 := by
  refine ckE_yes (by unfold cutR; simp; have := ckE_len h; omega) ?_
  rw [List.all_eq_true]
  intro x hx
  rcases cutR_mem hx with hm | hm
  · exact List.all_eq_true.1 (ckE_all h) x hm
  · rw [hm]; rfl
theorem drop_zero {es : List Int} {i : Nat} (h : ∀ j, i ≤ j → j < es.length → es.getD j 0 = 0) : (es.drop i).all (fun e => e == 0) = true := by
  rw [List.all_eq_true]
  intro x hx
  obtain ⟨j, hj, rfl⟩ := List.getElem_of_mem hx
  rw [List.getElem_drop]
  simp at hj
  have := h (i + j) (by omega) (by omega)
  rw [getD_at (by omega)] at this
  simpa using this
theorem of_drop_zero {es : List Int} {i : Nat} (h : (es.drop i).all (fun e => e == 0) = true) {j : Nat} (h1 : i ≤ j) : es.getD j 0 = 0 := by
  rcases Nat.lt_or_ge j es.length with hj | hj
  · have hm : es[j] ∈ es.drop i := by
      rw [List.mem_iff_getElem]
      refine ⟨j - i, by simp; omega, ?_⟩
      rw [List.getElem_drop]; congr 1; omega
    have := List.all_eq_true.1 h _ hm
    rw [getD_at hj]; simpa using this
  · simp [List.getD, Nat.not_lt.2 hj]
theorem cut_tail {m : ImgD} {k : Nat} {es : List Int} (h : TailZ m k es) (h4 : es.length = 4) {n : Nat} (hn : n ≤ 4) : TailZ m k (cutR es n) := by
  intro h1 h2
  have := h h1 h2
  refine drop_zero fun j hj hl => ?_
  rw [cutR_get h4 hn]
  split
  · exact of_drop_zero this hj
  · rfl

/-- The table is cut. -/
theorem cut_laid {m : ImgD} (hC : checkE m = 0) {g : Nat} {M : ImgD} (hM : cutD m g = some M) : (∃ es, Laid m M (g / 4) es ∧ (g / 4 < m.root.length → ∀ i, es.getD i 0 = if g % 4 = 0 ∨ i < g % 4 then (tableO m (g / 4)).getD i 0 else 0)) ∧ M.slots.length ≤ m.slots.length + 1 := by
  have h := checkE_shape hC
  unfold cutD at hM
  split at hM
  · rename_i hc
    obtain ⟨h1, h2, h3⟩ := hc
    obtain ⟨ock, oent⟩ := tableO_ok h h2
    have h4 := ckE_len ock
    obtain ⟨hL, hlen⟩ := tabled_laid hC h2 (cutR_ck' ock (by omega)) (fun e he => (cutR_mem he).elim (fun hm => oent e hm) (fun hm => by rw [hm]; rfl)) (cut_tail (tableO_tail h _) h4 (by omega)) hM
    refine ⟨⟨_, hL, fun _ i => ?_⟩, hlen⟩
    rw [cutR_get h4 (by omega)]
    by_cases hi : i < g % 4
    · rw [if_pos hi, if_pos (.inr hi)]
    · rw [if_neg hi, if_neg (fun x => x.elim h1 hi)]
  · rename_i hc
    simp at hM
    subst hM
    refine ⟨⟨tableO m (g / 4), ⟨h, rfl, rfl, rfl, fun q hq => ?_, fun _ _ _ _ => rfl, fun _ _ => rfl⟩, fun hk i => ?_⟩, Nat.le_succ _⟩
    · by_cases e : q / 4 = g / 4
      · rw [if_pos e, ← e, ← lookV_tableO]
      · rw [if_neg e]
    · by_cases hg : g % 4 = 0
      · rw [if_pos (.inl hg)]
      · have hce : cutR (tableO m (g / 4)) (g % 4) = tableO m (g / 4) := Classical.byContradiction fun x => hc ⟨hg, hk, x⟩
        have h4 := ckE_len (tableO_ok h hk).1
        have e := cutR_get h4 (n := g % 4) (by omega) i
        rw [hce] at e
        by_cases hi : i < g % 4
        · rw [if_pos (.inr hi)]
        · rw [if_neg (fun x => x.elim hg hi), e, if_neg hi]

theorem tab_look {M : ImgD} {k i : Nat} (hz : M.root.getD k 0 ≠ 0) (hi : i < 4) : (tabOf M.slots (M.root.getD k 0)).getD i 0 = lookV M M.root (4 * k + i) := by
  unfold lookV
  have e1 : (4 * k + i) / 4 = k := by omega
  have e2 : (4 * k + i) % 4 = i := by omega
  rw [e1, e2, if_neg hz]

/-- Resize: what comes has the form. -/
theorem resize_shape {m : ImgD} (hC : checkE m = 0) {g : Nat} (hg : g ≤ 16) {M : ImgD} (hM : cutD m g = some M) : shapeE (rerootD M g) = 0 := by
  have h := checkE_shape hC
  obtain ⟨⟨es, hL, hes⟩, _⟩ := cut_laid hC hM
  have hrM := root_ok hL.shape
  refine reroot_shape hL.shape (by unfold guestOK; exact decide_eq_true (by omega)) ?_
  show rootFit M.slots (g : Int) (rerootD M g).root = true
  unfold rootFit
  simp only [Bool.and_eq_true, decide_eq_true_eq]
  refine ⟨by rw [reroot_length]; omega, ?_, ?_⟩
  · rw [List.all_eq_true]
    intro x hx
    rcases reroot_mem hx with e | e
    · rw [e]; rfl
    · exact List.all_eq_true.1 hrM.2 x e
  · unfold lastFit
    by_cases hg4 : g % 4 = 0
    · have : ((g : Int) % 4 == 0) = true := by simp; omega
      rw [this]; rfl
    · have hw : (g + 3) / 4 - 1 = g / 4 := by omega
      rw [reroot_length, hw, reroot_get M g _ (by omega)]
      have hgm : ((g : Int) % 4).toNat = g % 4 := by omega
      rw [hgm]
      by_cases hz : M.root.getD (g / 4) 0 = 0
      · rw [hz]; simp
      · have hk : g / 4 < M.root.length := by
          rcases Nat.lt_or_ge (g / 4) M.root.length with h' | h'
          · exact h'
          · exact absurd (by simp [List.getD, Nat.not_lt.2 h']) hz
        have hkm : g / 4 < m.root.length := by rw [← hL.rlen]; exact hk
        have hE := all_at hrM.2 hk
        rw [rootE_x hz] at hE
        have h4 := tab_len (shapeE_zero hL.shape).2.1 hE
        have : ((tabOf M.slots (M.root.getD (g / 4) 0)).drop (g % 4)).all (fun e => e == 0) = true := by
          refine drop_zero fun j hj hl => ?_
          rw [h4] at hl
          rw [tab_look hz hl, hL.look _ (by omega), if_pos (by omega), show (4 * (g / 4) + j) % 4 = j by omega, hes hkm, if_neg (by omega)]
        rw [this]; simp
end Go.Proofs.Ytehleeibgkpjmac
/- What Write, Wipe, Punch and Resize answer, plain: it is right, how much greater it is, and how it is read. -/
namespace Go.Proofs.Ytehleeibgkpjmac
open Go.RowKit Go.Shelf
set_option maxRecDepth 20000

/-! ### In place: nobody else sees the page -/
end Go.Proofs.Ytehleeibgkpjmac
/- Contract of settled: the counts are told, and what nothing tells is free. -/
namespace Go.Proofs.Ytehleeibgkpjmac
open Go.RowKit Go.Shelf
set_option maxRecDepth 20000

/-- What holds in the loop: from world v on. -/
def SetR (v wr : World) (B D : Nat) (m : ImgD) (val : Nm → Value) (q k : Nat) : Prop :=
  ∃ vk, DTo v wr B D m val nilV (frT m k) vk ∧ vk .root = val .root ∧ vk .slots = val .slots ∧ vk .refs = .slice (some ⟨q, 0, none⟩) m.slots.length m.slots.length ∧ vk .snaps = val .snaps

set_option maxHeartbeats 4000000 in
theorem settled_at (m : ImgD) (ra : Option Addr) (rn rc : Nat) (g sc : Nat) (fa : Option Addr) (fn fc : Nat) (na : Option Addr) (nn nc : Nat) (B D : Nat) (val : Nm → Value) (w : World) (hK : DK w B D val m) (e0 : val .root = .slice ra rn rc) (e1 : val .slots = .slice (some ⟨g, 0, none⟩) m.slots.length sc) (e2 : val .refs = .slice fa fn fc) (e3 : val .snaps = .slice na nn nc) (hB : B ≤ w.heap.size) (hE : shapeE m = 0) :
    Calls Try.prog 88 #[.pointer (some ⟨D, 0, none⟩)] w fun r w' => ∃ val', r = .returned (.tuple #[imgV m.guest val', .int .i64 0]) ∧ DTo w w' B D m val nilV (countedD m) val' := by
  have h40 : m.slots.length ≤ 40 := (slotsE_parts (shapeE_zero hE).2.1).2
  have h1s : 1 ≤ m.slots.length := (slotsE_parts (shapeE_zero hE).2.1).1
  have hlc : (cntL m).length = m.slots.length := cntL_length m
  have hDlt := hK.lt
  have hgr := hK.own.row .slots (Live.slots m)
  rw [e1] at hgr
  have hgl := hgr.lt g rfl
  have hDg : g ≠ D := fun e => hK.far .slots (Live.slots m) (by rw [e1, e]; rfl)
  clear hgr
  have hK1 : DK (w.alloc (.cells #[.int .i64 0, .slice none 0 0, .slice none 0 0, .slice none 0 0, .slice none 0 0] 26)) B D val m := hK.alloc _
  obtain ⟨d0, d1, d2, d3, d4⟩ := hK1.five
  have f3 := hK1.frozen 3
  rw [e0] at d1
  rw [e1] at d2
  rw [e2] at d3
  rw [e3] at d4
  have hcall := counts_own hK1.own.img hE
  unfold imgV at hcall
  rw [e0, e1, e2, e3] at hcall
  have hz1 : (w.alloc (.cells #[.int .i64 0, .slice none 0 0, .slice none 0 0, .slice none 0 0, .slice none 0 0] 26)).heap.size = w.heap.size + 1 := by simp
  have mR : (w.alloc (.cells #[.int .i64 0, .slice none 0 0, .slice none 0 0, .slice none 0 0, .slice none 0 0] 26)).heap[w.heap.size]? = some (.cells #[.int .i64 0, .slice none 0 0, .slice none 0 0, .slice none 0 0, .slice none 0 0] 26) := World.alloc_heap_new _ _
  have D1 : ¬ D = w.heap.size := by omega
  have D2 : ¬ w.heap.size = D := by omega
  go_enter Try.func88, Try.ntmps88
  go_wp2_with (go_at_call 11; refine hcall.mono ?_; rintro e w2 ⟨⟨q, hq, rfl, hL⟩, hb2⟩; have hK2 := hK1.below hb2; obtain ⟨c0, c1, c2, c3, c4⟩ := hK2.five; have f2 := hK2.frozen 3; rw [e0] at c1; rw [e1] at c2; rw [e2] at c3; rw [e3] at c4)
  have hb2' : Below (w.alloc (.cells #[.int .i64 0, .slice none 0 0, .slice none 0 0, .slice none 0 0, .slice none 0 0] 26)).heap.size (w.alloc (.cells #[.int .i64 0, .slice none 0 0, .slice none 0 0, .slice none 0 0, .slice none 0 0] 26)) w2 := hb2
  have hq0 := hq
  have hq : w.heap.size + 1 ≤ q := by rw [hz1] at hq; exact hq
  have hrow : w2.ownsRow B 3 1 (.slice (some ⟨q, 0, none⟩) m.slots.length m.slots.length) (cntL m).length (ints (cntL m)) := by
    have := row_LAt hL (B := B) (by omega) (by rw [hlc]; omega)
    rw [hlc] at this ⊢
    exact this
  have hS := (DTo.refl hK1 nilV).below (by rw [hz1]; omega) hb2'
  have hS := hS.swapRefs hrow (far_new hK1.own .refs (fun p e => by cases e; rw [hz1]; exact hq)) (fun e => by have e : q = D := Option.some.inj e; omega) (fun p e => by cases e; rw [hz1]; exact .inr hq)
  have HS : Hid (SetR (w.alloc (.cells #[.int .i64 0, .slice none 0 0, .slice none 0 0, .slice none 0 0, .slice none 0 0] 26)) (w2.setCell ⟨D, 3, none⟩ (.slice (some ⟨q, 0, none⟩) m.slots.length m.slots.length)) B D m val q 0) := by
    refine ⟨upd val .refs (.slice (some ⟨q, 0, none⟩) m.slots.length m.slots.length), ?_, upd_other _ _ (by intro x; cases x), upd_other _ _ (by intro x; cases x), upd_same _ _ _, upd_other _ _ (by intro x; cases x)⟩
    rw [frT_zero]
    exact hS
  have HV : Hid (val .root = .slice ra rn rc ∧ val .slots = .slice (some ⟨g, 0, none⟩) m.slots.length sc ∧ val .snaps = .slice na nn nc) := ⟨e0, e1, e3⟩
  have HK : Hid (DK w B D val m) := hK
  clear hb2' hb2 hrow hS hL hq0 hK1 hK2 c0 c1 c2 c3 c4 d0 d1 d2 d3 d4 f2 f3 hcall hE e0 e1 e2 e3 hK mR hz1
  go_loopw [27] (fun i wr => ∃ k : Nat, k ≤ m.slots.length ∧ i = .int .i64 k ∧ Hid (SetR (w.alloc (.cells #[.int .i64 0, .slice none 0 0, .slice none 0 0, .slice none 0 0, .slice none 0 0] 26)) wr B D m val q k)) (fun i _ => m.slots.length - (intOf i).toNat)
  case atStart => exact ⟨0, Nat.zero_le _, rfl, HS⟩
  case round =>
    obtain ⟨k, hk, rfl, HC⟩ := hrel
    obtain ⟨vk, hT, v0, v1, v2, v3⟩ := HC.out
    obtain ⟨e0, e1, e3⟩ := HV.out
    rw [e0] at v0
    rw [e1] at v1
    rw [e3] at v3
    obtain ⟨d0, d1, d2, d3, d4⟩ := hT.dk.five
    have d0 : wr.cell? ⟨D, 0, none⟩ = some (.int .i64 m.guest) := d0
    rw [v0] at d1
    rw [v1] at d2
    rw [v2] at d3
    rw [v3] at d4
    have hls := frT_length m k
    by_cases hlk : k < m.slots.length
    · have hki : (k : Int) < (m.slots.length : Int) := by omega
      obtain ⟨x, hx⟩ : ∃ x, x = (cntL m).getD k 0 := ⟨_, rfl⟩
      have cx : wr.cell? ⟨q, k, none⟩ = some (.int .i64 x) := by
        have hr := hT.dk.own.row .refs (Live.refs _)
        rw [v2] at hr
        have hr : wr.ownsRow B 3 1 (.slice (some ⟨q, 0, none⟩) m.slots.length m.slots.length) (cntL m).length (ints (cntL m)) := hr
        rw [hlc] at hr
        rw [hx]
        refine (hr.cellAt k (by omega)).trans ?_
        unfold ints
        rw [List.getElem?_map, List.getElem?_eq_getElem (by rw [hlc]; exact hlk)]
        simp [List.getD, hlc, hlk]
      have HX : Hid (x = (cntL m).getD k 0) := hx
      clear hx
      by_cases h0 : x = 0
      · have h0' : (x == 0) = true := by simp [h0]
        have H0 : Hid ((cntL m).getD k 0 = 0) := HX.out.symm.trans h0
        clear h0
        have hr := hT.dk.own.row .slots (Live.slots _)
        rw [v1] at hr
        obtain ⟨s0, s1, s2⟩ := flatS_get (L := (frT m k).slots) (tv := fun j => vk (.tab j)) (j := k) (by rw [hls]; exact hlk)
        have hr : wr.ownsRow B 33 3 (.slice (some ⟨g, 0, none⟩) m.slots.length sc) m.slots.length (flatS (frT m k).slots (fun j => vk (.tab j))) := by rw [← hls]; rw [← hls] at hr; exact hr
        have t0 : wr.cell? ⟨g, k * 3, none⟩ = some _ := (hr.cellAt (k * 3) (by omega)).trans s0
        have t1 : wr.cell? ⟨g, k * 3 + 1, none⟩ = some _ := (hr.cellAt (k * 3 + 1) (by omega)).trans s1
        have t2 : wr.cell? ⟨g, k * 3 + 2, none⟩ = some _ := (hr.cellAt (k * 3 + 2) (by omega)).trans s2
        have u0 := hr.frozenAt (k * 3)
        have u1 := hr.frozenAt (k * 3 + 1)
        have u2 := hr.frozenAt (k * 3 + 2)
        have HN : Hid (SetR (w.alloc (.cells #[.int .i64 0, .slice none 0 0, .slice none 0 0, .slice none 0 0, .slice none 0 0] 26)) (((wr.setCell ⟨g, k * 3, none⟩ (.int .i64 0)).setCell ⟨g, k * 3 + 1, none⟩ (.string ⟨#[]⟩)).setCell ⟨g, k * 3 + 2, none⟩ (.slice none 0 0)) B D m val q (k + 1)) := by
          have hN := hT.setSlot (t := k) (by rw [hls]; exact hlk) v1 0 ⟨#[]⟩ [] (e2 := .slice none 0 0) (World.ownsRow_nil _ _ _ _) (far_nil _ _ _ _ _) (nilV_own _) (fun p e => by cases e)
          refine ⟨upd vk (.tab k) (.slice none 0 0), ?_, (upd_other _ _ (by intro x; cases x)).trans (v0.trans e0.symm), (upd_other _ _ (by intro x; cases x)).trans (v1.trans e1.symm), (upd_other _ _ (by intro x; cases x)).trans v2, (upd_other _ _ (by intro x; cases x)).trans (v3.trans e3.symm)⟩
          rw [frT_gone m H0.out]; exact hN
        clear hT hr s0 s1 s2 e0 e1 e3 v0 v1 v2 v3 HC HX H0 hls
        go_wp2_with fail
        go_roundw
        case rel => exact ⟨k + 1, by omega, by go_num, HN⟩
        case measure => simp [intOf]; omega
      · have h0' : (x == 0) = false := by simp [h0]
        have HN : Hid (SetR (w.alloc (.cells #[.int .i64 0, .slice none 0 0, .slice none 0 0, .slice none 0 0, .slice none 0 0] 26)) wr B D m val q (k + 1)) := by
          refine ⟨vk, ?_, v0.trans e0.symm, v1.trans e1.symm, v2, v3.trans e3.symm⟩
          rw [frT_kept m (fun e => h0 (HX.out.trans e))]
          exact hT
        clear hT e0 e1 e3 v0 v1 v2 v3 HC HX hls
        go_wp2_with fail
        go_roundw
        case rel => exact ⟨k + 1, by omega, by go_num, HN⟩
        case measure => simp [intOf]; omega
    · have ek : k = m.slots.length := by omega
      subst ek
      have hR : wr.heap[w.heap.size]? = some (.cells #[.int .i64 0, .slice none 0 0, .slice none 0 0, .slice none 0 0, .slice none 0 0] 26) := hT.cells (World.alloc_heap_new _ _) (by omega) (nilV_own _) (HK.out.own.lt (Nat.le_refl _))
      obtain ⟨z0, z1, z2, z3, z4⟩ := five hR
      have y0 := cells_frozen hR 0
      have y1 := cells_frozen hR 1
      have y2 := cells_frozen hR 2
      have y3 := cells_frozen hR 3
      have y4 := cells_frozen hR 4
      rw [frT_end] at hT
      have hfr : ∀ a, Live (countedD m) a → (vk a).ownBlock ≠ some w.heap.size := hT.src w.heap.size (by simp) (nilV_own _) (HK.out.own.lt (Nat.le_refl _))
      have HF : Hid (DTo w wr B D m val nilV (countedD m) vk) := DTo.first ((Below.refl _ _).alloc (Nat.le_refl _) _) hB hT (fun p e => by cases e)
      clear hT HC hls
      go_wp2_with fail
      have hn : w.heap.size ≤ w.heap.size := Nat.le_refl _
      refine bodyPost_ret (v := .tuple #[.agg #[.int .i64 m.guest, .slice ra rn rc, .slice (some ⟨g, 0, none⟩) m.slots.length sc, .slice (some ⟨q, 0, none⟩) m.slots.length m.slots.length, .slice na nn nc], .int .i64 0]) (by simp [results, Try.results88, go_sem, z0, z1, z2, z3, z4]) rfl ⟨vk, ?_, ((((HF.out.setNew hB hn D1 hfr).setNew hB hn D1 hfr).setNew hB hn D1 hfr).setNew hB hn D1 hfr).setNew hB hn D1 hfr⟩
      unfold imgV
      rw [v0, v1, v2, v3]

set_option maxHeartbeats 4000000 in
theorem settled_err (m : ImgD) (E : Int) (ra : Option Addr) (rn rc : Nat) (sa : Option Addr) (sn sc : Nat) (fa : Option Addr) (fn fc : Nat) (na : Option Addr) (nn nc : Nat) (B D : Nat) (val : Nm → Value) (w : World) (hK : DK w B D val m) (e0 : val .root = .slice ra rn rc) (e1 : val .slots = .slice sa sn sc) (e2 : val .refs = .slice fa fn fc) (e3 : val .snaps = .slice na nn nc) (hE : shapeE m = E) (hne : (E != 0) = true) :
    Calls Try.prog 88 #[.pointer (some ⟨D, 0, none⟩)] w fun r w' => r = .returned (.tuple #[.agg #[.int .i64 0, nilV, nilV, nilV, nilV], .int .i64 E]) ∧ Below w.heap.size w w' := by
  have hDlt := hK.lt
  have hK1 : DK (w.alloc (.cells #[.int .i64 0, .slice none 0 0, .slice none 0 0, .slice none 0 0, .slice none 0 0] 26)) B D val m := hK.alloc _
  obtain ⟨d0, d1, d2, d3, d4⟩ := hK1.five
  rw [e0] at d1
  rw [e1] at d2
  rw [e2] at d3
  rw [e3] at d4
  have hcall := counts_err hK1.own.img hE hne
  unfold imgV at hcall
  rw [e0, e1, e2, e3] at hcall
  have mR : (w.alloc (.cells #[.int .i64 0, .slice none 0 0, .slice none 0 0, .slice none 0 0, .slice none 0 0] 26)).heap[w.heap.size]? = some (.cells #[.int .i64 0, .slice none 0 0, .slice none 0 0, .slice none 0 0, .slice none 0 0] 26) := World.alloc_heap_new _ _
  have b0 : Below w.heap.size w (w.alloc (.cells #[.int .i64 0, .slice none 0 0, .slice none 0 0, .slice none 0 0, .slice none 0 0] 26)) := (Below.refl _ _).alloc (Nat.le_refl _) _
  clear hE
  go_enter Try.func88, Try.ntmps88
  go_wp2_with (go_at_call 11; refine hcall.mono ?_; rintro e w2 ⟨rfl, hb2⟩; have hR := cells_below mR hb2 (by simp); obtain ⟨z0, z1, z2, z3, z4⟩ := five hR; have y0 := cells_frozen hR 0; have y1 := cells_frozen hR 1; have y2 := cells_frozen hR 2; have y3 := cells_frozen hR 3; have y4 := cells_frozen hR 4)
  have hb := Below.on b0 hb2
  have hn : w.heap.size ≤ w.heap.size := Nat.le_refl _
  refine bodyPost_ret (v := .tuple #[.agg #[.int .i64 0, nilV, nilV, nilV, nilV], .int .i64 E]) (by simp [results, Try.results88, go_sem, z0, z1, z2, z3, z4]) rfl ⟨rfl, ((((hb.setCell hn _).setCell hn _).setCell hn _).setCell hn _).setCell hn _⟩
theorem settled_bad {m : ImgD} {E : Int} {B D : Nat} {val : Nm → Value} {w : World} (hK : DK w B D val m) (hE : shapeE m = E) (hne : E ≠ 0) :
    Calls Try.prog 88 #[.pointer (some ⟨D, 0, none⟩)] w fun r w' => r = .returned (.tuple #[.agg #[.int .i64 0, nilV, nilV, nilV, nilV], .int .i64 E]) ∧ Below w.heap.size w w' := by
  obtain ⟨ra, rc, e0, _⟩ := hK.own.forms .root (Live.root m)
  obtain ⟨sa, sc, e1, _⟩ := hK.own.forms .slots (Live.slots m)
  obtain ⟨fa, fc, e2, _⟩ := hK.own.forms .refs (Live.refs m)
  obtain ⟨na, nc, e3, _⟩ := hK.own.forms .snaps (Live.snaps m)
  exact settled_err m E ra _ rc sa _ sc fa _ fc na _ nc B D val w hK e0 e1 e2 e3 hE (by simpa using hne)
theorem settled_ok {m : ImgD} {B D : Nat} {val : Nm → Value} {w : World} (hK : DK w B D val m) (hB : B ≤ w.heap.size) (hE : shapeE m = 0) :
    Calls Try.prog 88 #[.pointer (some ⟨D, 0, none⟩)] w fun r w' => ∃ val', r = .returned (.tuple #[imgV m.guest val', .int .i64 0]) ∧ DTo w w' B D m val nilV (countedD m) val' := by
  have h1s : 1 ≤ m.slots.length := (slotsE_parts (shapeE_zero hE).2.1).1
  obtain ⟨ra, rc, e0, _⟩ := hK.own.forms .root (Live.root m)
  obtain ⟨sa, sc, e1, hs⟩ := hK.own.forms .slots (Live.slots m)
  obtain ⟨fa, fc, e2, _⟩ := hK.own.forms .refs (Live.refs m)
  obtain ⟨na, nc, e3, _⟩ := hK.own.forms .snaps (Live.snaps m)
  obtain ⟨g, rfl⟩ := hs (by show 0 < m.slots.length; omega)
  exact settled_at m ra _ rc g sc fa _ fc na _ nc B D val w hK e0 e1 e2 e3 hB hE
end Go.Proofs.Ytehleeibgkpjmac
