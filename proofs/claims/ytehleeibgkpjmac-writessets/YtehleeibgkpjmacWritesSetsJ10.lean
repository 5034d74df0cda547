/- Texts joined: OxT, Strs, FlPlain, WrR, WrA. -/
import Derived.Test.YtehleeibgkpjmacWritesSetsJ8
import Derived.Test.YtehleeibgkpjmacWritesSetsJ9
import Derived.Test.YtehleeibgkpjmacWritesSetsJ1
import Derived.Test.YtehleeibgkpjmacWritesSetsJ4
import Derived.Test.YtehleeibgkpjmacWritesSetsJ6
/- Contract of the document's tabled, of an image as the document makes it. -/
namespace Go.Proofs.Ytehleeibgkpjmac
open Go.RowKit Go.Shelf
set_option maxRecDepth 20000
set_option linter.unusedVariables false
/-- A value that is an image's five. -/
def FiveV (v : Value) : Prop := ∃ g ra rn rc sa sn sc fa fn fc na nn nc, v = .agg #[.int .i64 g, .slice ra rn rc, .slice sa sn sc, .slice fa fn fc, .slice na nn nc]
set_option maxHeartbeats 4000000 in
theorem tabledX_bare (m : ImgD) (gm : Int) (rg rc : Nat) (sa : Option Addr) (sn sc : Nat) (fa : Option Addr) (fn fc : Nat) (na : Option Addr) (nn nc : Nat) (k : Nat) (t : Int) (ea : Option Addr) (en ec : Nat) (es : List Int) (B : Nat) (val : Nm → Value) (w : World) (hO : OX w B val m) (e0 : val .root = .slice (some ⟨rg, 0, none⟩) m.root.length rc) (e1 : val .slots = .slice sa sn sc) (e2 : val .refs = .slice fa fn fc) (e3 : val .snaps = .slice na nn nc) (hB : B ≤ w.heap.size) (hk : k < m.root.length) (ht : m.root.getD k 0 = t)
    (he : w.ownsRow B 3 1 (.slice ea en ec) es.length (ints es)) (hb : bareL es = true) :
    Calls Try.prog 70 #[.agg #[.int .i64 gm, .slice (some ⟨rg, 0, none⟩) m.root.length rc, .slice sa sn sc, .slice fa fn fc, .slice na nn nc], .int .i64 (k : Int), .slice ea en ec] w fun r w' => ∃ val', r = .returned (.tuple #[imgV gm val', .bool true]) ∧ OX w' B val' { m with root := m.root.set k 0 } ∧ Below B w w' ∧ KeepX w w' m val ∧ SrcX w m val (.slice ea en ec) { m with root := m.root.set k 0 } val' := by
  have m0 : ((w.alloc (.cells #[.int .i64 gm, .slice (some ⟨rg, 0, none⟩) m.root.length rc, .slice sa sn sc, .slice fa fn fc, .slice na nn nc] 26)).alloc (.cells #[.int .i64 0, .slice none 0 0, .slice none 0 0, .slice none 0 0, .slice none 0 0] 26)).heap[w.heap.size]? = some (.cells #[.int .i64 gm, .slice (some ⟨rg, 0, none⟩) m.root.length rc, .slice sa sn sc, .slice fa fn fc, .slice na nn nc] 26) := cells_alloc (World.alloc_heap_new _ _) _
  have m2 : ((w.alloc (.cells #[.int .i64 gm, .slice (some ⟨rg, 0, none⟩) m.root.length rc, .slice sa sn sc, .slice fa fn fc, .slice na nn nc] 26)).alloc (.cells #[.int .i64 0, .slice none 0 0, .slice none 0 0, .slice none 0 0, .slice none 0 0] 26)).heap[w.heap.size + 1]? = some (.cells #[.int .i64 0, .slice none 0 0, .slice none 0 0, .slice none 0 0, .slice none 0 0] 26) := by have := World.alloc_heap_new (w.alloc (.cells #[.int .i64 gm, .slice (some ⟨rg, 0, none⟩) m.root.length rc, .slice sa sn sc, .slice fa fn fc, .slice na nn nc] 26)) (.cells #[.int .i64 0, .slice none 0 0, .slice none 0 0, .slice none 0 0, .slice none 0 0] 26); simpa using this
  obtain ⟨c0, c1, c2, c3, c4⟩ := five m0
  obtain ⟨z0, z1, z2, z3, z4⟩ := five m2
  have y0 := cells_frozen m2 0
  have y1 := cells_frozen m2 1
  have y2 := cells_frozen m2 2
  have y3 := cells_frozen m2 3
  have y4 := cells_frozen m2 4
  have hA : OX ((w.alloc (.cells #[.int .i64 gm, .slice (some ⟨rg, 0, none⟩) m.root.length rc, .slice sa sn sc, .slice fa fn fc, .slice na nn nc] 26)).alloc (.cells #[.int .i64 0, .slice none 0 0, .slice none 0 0, .slice none 0 0, .slice none 0 0] 26)) B val m := (hO.alloc _).alloc _
  have hrr := hA.row .root (LiveX.root m)
  rw [e0] at hrr
  have hrr : ((w.alloc (.cells #[.int .i64 gm, .slice (some ⟨rg, 0, none⟩) m.root.length rc, .slice sa sn sc, .slice fa fn fc, .slice na nn nc] 26)).alloc (.cells #[.int .i64 0, .slice none 0 0, .slice none 0 0, .slice none 0 0, .slice none 0 0] 26)).ownsRow B 3 1 (.slice (some ⟨rg, 0, none⟩) m.root.length rc) m.root.length (ints m.root) := hrr
  have x0 : ((w.alloc (.cells #[.int .i64 gm, .slice (some ⟨rg, 0, none⟩) m.root.length rc, .slice sa sn sc, .slice fa fn fc, .slice na nn nc] 26)).alloc (.cells #[.int .i64 0, .slice none 0 0, .slice none 0 0, .slice none 0 0, .slice none 0 0] 26)).cell? ⟨rg, k, none⟩ = some (.int .i64 t) := (hrr.cellAt k (by omega)).trans (by unfold ints; rw [List.getElem?_map, List.getElem?_eq_getElem hk, ← ht]; simp [List.getD, hk])
  have xf := hrr.frozenAt k
  have hki : (k : Int) < (m.root.length : Int) := by omega
  have hrl : B ≤ rg ∧ rg < w.heap.size := by
    have := hO.row .root (LiveX.root m)
    rw [e0] at this
    exact this.lt rg rfl
  have g1 : ¬ rg = w.heap.size := by omega
  have g2 : ¬ w.heap.size = rg := by omega
  have g3 : ¬ rg = w.heap.size + 1 := by omega
  have g4 : ¬ w.heap.size + 1 = rg := by omega
  have bB : Below B w ((w.alloc (.cells #[.int .i64 gm, .slice (some ⟨rg, 0, none⟩) m.root.length rc, .slice sa sn sc, .slice fa fn fc, .slice na nn nc] 26)).alloc (.cells #[.int .i64 0, .slice none 0 0, .slice none 0 0, .slice none 0 0, .slice none 0 0] 26)) := ((Below.refl B w).alloc hB _).alloc (by simp <;> omega) _
  have hE0 : Sl ((w.alloc (.cells #[.int .i64 gm, .slice (some ⟨rg, 0, none⟩) m.root.length rc, .slice sa sn sc, .slice fa fn fc, .slice na nn nc] 26)).alloc (.cells #[.int .i64 0, .slice none 0 0, .slice none 0 0, .slice none 0 0, .slice none 0 0] 26)) (.slice ea en ec) es := row_sl ((he.alloc _).alloc _)

  go_enter Try.func70, Try.ntmps70
  go_wp2_with (go_at_call 96; refine (bareIn_any _ es _ hE0).mono ?_; rintro e w' ⟨rfl, hw⟩; rw [hw, hb]; clear hw)
  have hN := ((hO.setRoot e0 k 0).alloc (.cells #[.int .i64 gm, .slice (some ⟨rg, 0, none⟩) m.root.length rc, .slice sa sn sc, .slice fa fn fc, .slice na nn nc] 26)).alloc (.cells #[.int .i64 gm, .slice (some ⟨rg, 0, none⟩) m.root.length rc, .slice sa sn sc, .slice fa fn fc, .slice na nn nc] 26)
  have hsz : w.heap.size ≤ (w.setCell ⟨rg, k, none⟩ (.int .i64 0)).heap.size := ((Below.refl B w).setCell (p := ⟨rg, k, none⟩) hrl.1 _).size
  have hs : B ≤ (w.setCell ⟨rg, k, none⟩ (.int .i64 0)).heap.size := Nat.le_trans hB ((Below.refl B w).setCell (p := ⟨rg, k, none⟩) hrl.1 _).size
  refine bodyPost_ret (v := .tuple #[.agg #[.int .i64 gm, .slice (some ⟨rg, 0, none⟩) m.root.length rc, .slice sa sn sc, .slice fa fn fc, .slice na nn nc], .bool true]) (by simp [results, Try.results70, go_sem]) rfl ⟨val, ?_, hN, (((Below.refl B w).setCell hrl.1 _).alloc hs _).alloc (by simp at hs ⊢; omega) _, (((KeepX.refl w m val).own (LiveX.root m) e0).alloc hsz _).alloc (by simp at hsz ⊢) _, fun _ _ _ hm => hm⟩
  unfold imgV
  rw [e0, e1, e2, e3]

set_option maxHeartbeats 4000000 in
theorem tabledX_place (m : ImgD) (gm : Int) (rg rc : Nat) (sg sc : Nat) (fg fc : Nat) (na : Option Addr) (nn nc : Nat) (k t : Nat) (ea : Option Addr) (en ec : Nat) (es : List Int) (B : Nat) (val : Nm → Value) (w : World) (hO : OX w B val m) (e0 : val .root = .slice (some ⟨rg, 0, none⟩) m.root.length rc) (e1 : val .slots = .slice (some ⟨sg, 0, none⟩) m.slots.length sc) (e2 : val .refs = .slice (some ⟨fg, 0, none⟩) m.refs.length fc) (e3 : val .snaps = .slice na nn nc) (hB : B ≤ w.heap.size) (hk : k < m.root.length) (ht : m.root.getD k 0 = (t : Int))
    (he : w.ownsRow B 3 1 (.slice ea en ec) es.length (ints es)) (hfar : FarX m val (.tab t) (.slice ea en ec)) (hb : bareL es = false) (ht1 : 1 ≤ t) (htl : t < m.slots.length) (hrf : m.refs.length = m.slots.length) (h1 : m.refs.getD t 0 = 1) :
    Calls Try.prog 70 #[.agg #[.int .i64 gm, .slice (some ⟨rg, 0, none⟩) m.root.length rc, .slice (some ⟨sg, 0, none⟩) m.slots.length sc, .slice (some ⟨fg, 0, none⟩) m.refs.length fc, .slice na nn nc], .int .i64 (k : Int), .slice ea en ec] w fun r w' => ∃ val', r = .returned (.tuple #[imgV gm val', .bool true]) ∧ OX w' B val' { m with slots := m.slots.set t (2, ⟨#[]⟩, es) } ∧ Below B w w' ∧ KeepX w w' m val ∧ SrcX w m val (.slice ea en ec) { m with slots := m.slots.set t (2, ⟨#[]⟩, es) } val' := by
  have m0 : ((w.alloc (.cells #[.int .i64 gm, .slice (some ⟨rg, 0, none⟩) m.root.length rc, .slice (some ⟨sg, 0, none⟩) m.slots.length sc, .slice (some ⟨fg, 0, none⟩) m.refs.length fc, .slice na nn nc] 26)).alloc (.cells #[.int .i64 0, .slice none 0 0, .slice none 0 0, .slice none 0 0, .slice none 0 0] 26)).heap[w.heap.size]? = some (.cells #[.int .i64 gm, .slice (some ⟨rg, 0, none⟩) m.root.length rc, .slice (some ⟨sg, 0, none⟩) m.slots.length sc, .slice (some ⟨fg, 0, none⟩) m.refs.length fc, .slice na nn nc] 26) := cells_alloc (World.alloc_heap_new _ _) _
  have m2 : ((w.alloc (.cells #[.int .i64 gm, .slice (some ⟨rg, 0, none⟩) m.root.length rc, .slice (some ⟨sg, 0, none⟩) m.slots.length sc, .slice (some ⟨fg, 0, none⟩) m.refs.length fc, .slice na nn nc] 26)).alloc (.cells #[.int .i64 0, .slice none 0 0, .slice none 0 0, .slice none 0 0, .slice none 0 0] 26)).heap[w.heap.size + 1]? = some (.cells #[.int .i64 0, .slice none 0 0, .slice none 0 0, .slice none 0 0, .slice none 0 0] 26) := by have := World.alloc_heap_new (w.alloc (.cells #[.int .i64 gm, .slice (some ⟨rg, 0, none⟩) m.root.length rc, .slice (some ⟨sg, 0, none⟩) m.slots.length sc, .slice (some ⟨fg, 0, none⟩) m.refs.length fc, .slice na nn nc] 26)) (.cells #[.int .i64 0, .slice none 0 0, .slice none 0 0, .slice none 0 0, .slice none 0 0] 26); simpa using this
  obtain ⟨c0, c1, c2, c3, c4⟩ := five m0
  obtain ⟨z0, z1, z2, z3, z4⟩ := five m2
  have y0 := cells_frozen m2 0
  have y1 := cells_frozen m2 1
  have y2 := cells_frozen m2 2
  have y3 := cells_frozen m2 3
  have y4 := cells_frozen m2 4
  have hA : OX ((w.alloc (.cells #[.int .i64 gm, .slice (some ⟨rg, 0, none⟩) m.root.length rc, .slice (some ⟨sg, 0, none⟩) m.slots.length sc, .slice (some ⟨fg, 0, none⟩) m.refs.length fc, .slice na nn nc] 26)).alloc (.cells #[.int .i64 0, .slice none 0 0, .slice none 0 0, .slice none 0 0, .slice none 0 0] 26)) B val m := (hO.alloc _).alloc _
  have hrr := hA.row .root (LiveX.root m)
  rw [e0] at hrr
  have hrr : ((w.alloc (.cells #[.int .i64 gm, .slice (some ⟨rg, 0, none⟩) m.root.length rc, .slice (some ⟨sg, 0, none⟩) m.slots.length sc, .slice (some ⟨fg, 0, none⟩) m.refs.length fc, .slice na nn nc] 26)).alloc (.cells #[.int .i64 0, .slice none 0 0, .slice none 0 0, .slice none 0 0, .slice none 0 0] 26)).ownsRow B 3 1 (.slice (some ⟨rg, 0, none⟩) m.root.length rc) m.root.length (ints m.root) := hrr
  have x0 : ((w.alloc (.cells #[.int .i64 gm, .slice (some ⟨rg, 0, none⟩) m.root.length rc, .slice (some ⟨sg, 0, none⟩) m.slots.length sc, .slice (some ⟨fg, 0, none⟩) m.refs.length fc, .slice na nn nc] 26)).alloc (.cells #[.int .i64 0, .slice none 0 0, .slice none 0 0, .slice none 0 0, .slice none 0 0] 26)).cell? ⟨rg, k, none⟩ = some (.int .i64 (t : Int)) := (hrr.cellAt k (by omega)).trans (by unfold ints; rw [List.getElem?_map, List.getElem?_eq_getElem hk, ← ht]; simp [List.getD, hk])
  have xf := hrr.frozenAt k
  have hki : (k : Int) < (m.root.length : Int) := by omega
  have hrl : B ≤ rg ∧ rg < w.heap.size := by
    have := hO.row .root (LiveX.root m)
    rw [e0] at this
    exact this.lt rg rfl
  have g1 : ¬ rg = w.heap.size := by omega
  have g2 : ¬ w.heap.size = rg := by omega
  have g3 : ¬ rg = w.heap.size + 1 := by omega
  have g4 : ¬ w.heap.size + 1 = rg := by omega
  have bB : Below B w ((w.alloc (.cells #[.int .i64 gm, .slice (some ⟨rg, 0, none⟩) m.root.length rc, .slice (some ⟨sg, 0, none⟩) m.slots.length sc, .slice (some ⟨fg, 0, none⟩) m.refs.length fc, .slice na nn nc] 26)).alloc (.cells #[.int .i64 0, .slice none 0 0, .slice none 0 0, .slice none 0 0, .slice none 0 0] 26)) := ((Below.refl B w).alloc hB _).alloc (by simp <;> omega) _
  have hE0 : Sl ((w.alloc (.cells #[.int .i64 gm, .slice (some ⟨rg, 0, none⟩) m.root.length rc, .slice (some ⟨sg, 0, none⟩) m.slots.length sc, .slice (some ⟨fg, 0, none⟩) m.refs.length fc, .slice na nn nc] 26)).alloc (.cells #[.int .i64 0, .slice none 0 0, .slice none 0 0, .slice none 0 0, .slice none 0 0] 26)) (.slice ea en ec) es := row_sl ((he.alloc _).alloc _)
  have hsr := hA.row .slots (LiveX.slots m)
  rw [e1] at hsr
  have hsr : ((w.alloc (.cells #[.int .i64 gm, .slice (some ⟨rg, 0, none⟩) m.root.length rc, .slice (some ⟨sg, 0, none⟩) m.slots.length sc, .slice (some ⟨fg, 0, none⟩) m.refs.length fc, .slice na nn nc] 26)).alloc (.cells #[.int .i64 0, .slice none 0 0, .slice none 0 0, .slice none 0 0, .slice none 0 0] 26)).ownsRow B 33 3 (.slice (some ⟨sg, 0, none⟩) m.slots.length sc) m.slots.length (flatS m.slots (fun j => val (.tab j))) := hsr
  have hfr := hA.row .refs (LiveX.refs m)
  rw [e2] at hfr
  have hfr : ((w.alloc (.cells #[.int .i64 gm, .slice (some ⟨rg, 0, none⟩) m.root.length rc, .slice (some ⟨sg, 0, none⟩) m.slots.length sc, .slice (some ⟨fg, 0, none⟩) m.refs.length fc, .slice na nn nc] 26)).alloc (.cells #[.int .i64 0, .slice none 0 0, .slice none 0 0, .slice none 0 0, .slice none 0 0] 26)).ownsRow B 3 1 (.slice (some ⟨fg, 0, none⟩) m.refs.length fc) m.refs.length (ints m.refs) := hfr
  have hsl : B ≤ sg ∧ sg < w.heap.size := by
    have := hO.row .slots (LiveX.slots m)
    rw [e1] at this
    exact this.lt sg rfl
  have hfl : B ≤ fg ∧ fg < w.heap.size := by
    have := hO.row .refs (LiveX.refs m)
    rw [e2] at this
    exact this.lt fg rfl
  have s1 : ¬ sg = w.heap.size := by omega
  have s2 : ¬ w.heap.size = sg := by omega
  have s3 : ¬ sg = w.heap.size + 1 := by omega
  have s4 : ¬ w.heap.size + 1 = sg := by omega
  have hti : (t : Int) < (m.slots.length : Int) := by omega
  have htr : (t : Int) < (m.refs.length : Int) := by omega
  have t0 : ¬ (t : Int) = 0 := by omega
  have t0' : ((t : Int) != 0) = true := by simp; omega
  have x1 : ((w.alloc (.cells #[.int .i64 gm, .slice (some ⟨rg, 0, none⟩) m.root.length rc, .slice (some ⟨sg, 0, none⟩) m.slots.length sc, .slice (some ⟨fg, 0, none⟩) m.refs.length fc, .slice na nn nc] 26)).alloc (.cells #[.int .i64 0, .slice none 0 0, .slice none 0 0, .slice none 0 0, .slice none 0 0] 26)).cell? ⟨fg, t, none⟩ = some (.int .i64 1) := (hfr.cellAt t (by omega)).trans (by unfold ints; rw [List.getElem?_map, List.getElem?_eq_getElem (by omega), ← h1]; simp [List.getD, hrf, htl])
  obtain ⟨v0, v1, v2⟩ := flatS_get (tv := fun j => val (.tab j)) htl
  have t1 : ((w.alloc (.cells #[.int .i64 gm, .slice (some ⟨rg, 0, none⟩) m.root.length rc, .slice (some ⟨sg, 0, none⟩) m.slots.length sc, .slice (some ⟨fg, 0, none⟩) m.refs.length fc, .slice na nn nc] 26)).alloc (.cells #[.int .i64 0, .slice none 0 0, .slice none 0 0, .slice none 0 0, .slice none 0 0] 26)).cell? ⟨sg, t * 3, none⟩ = some _ := (hsr.cellAt (t * 3) (by omega)).trans v0
  have t2 : ((w.alloc (.cells #[.int .i64 gm, .slice (some ⟨rg, 0, none⟩) m.root.length rc, .slice (some ⟨sg, 0, none⟩) m.slots.length sc, .slice (some ⟨fg, 0, none⟩) m.refs.length fc, .slice na nn nc] 26)).alloc (.cells #[.int .i64 0, .slice none 0 0, .slice none 0 0, .slice none 0 0, .slice none 0 0] 26)).cell? ⟨sg, t * 3 + 1, none⟩ = some _ := (hsr.cellAt (t * 3 + 1) (by omega)).trans v1
  have t3 : ((w.alloc (.cells #[.int .i64 gm, .slice (some ⟨rg, 0, none⟩) m.root.length rc, .slice (some ⟨sg, 0, none⟩) m.slots.length sc, .slice (some ⟨fg, 0, none⟩) m.refs.length fc, .slice na nn nc] 26)).alloc (.cells #[.int .i64 0, .slice none 0 0, .slice none 0 0, .slice none 0 0, .slice none 0 0] 26)).cell? ⟨sg, t * 3 + 2, none⟩ = some _ := (hsr.cellAt (t * 3 + 2) (by omega)).trans v2
  have u0 := hsr.frozenAt (t * 3)
  have u1 := hsr.frozenAt (t * 3 + 1)
  have u2 := hsr.frozenAt (t * 3 + 2)
  have hsw := hO.row .slots (LiveX.slots m)
  rw [e1] at hsw
  have hsw : w.ownsRow B 33 3 (.slice (some ⟨sg, 0, none⟩) m.slots.length sc) m.slots.length (flatS m.slots (fun j => val (.tab j))) := hsw
  have t4 : w.cell? ⟨sg, t * 3, none⟩ = some _ := (hsw.cellAt (t * 3) (by omega)).trans v0
  have t5 : w.cell? ⟨sg, t * 3 + 1, none⟩ = some _ := (hsw.cellAt (t * 3 + 1) (by omega)).trans v1
  have t6 : w.cell? ⟨sg, t * 3 + 2, none⟩ = some _ := (hsw.cellAt (t * 3 + 2) (by omega)).trans v2
  have u3 := hsw.frozenAt (t * 3)
  have u4 := hsw.frozenAt (t * 3 + 1)
  have u5 := hsw.frozenAt (t * 3 + 2)
  have hslt := hsl.2
  clear v0 v1 v2 hrf h1 ht
  go_enter Try.func70, Try.ntmps70
  go_wp2_with (go_at_call 96; refine (bareIn_any _ es _ hE0).mono ?_; rintro e w' ⟨rfl, hw⟩; rw [hw, hb]; clear hw)
  have hN := ((hO.setSlot htl e1 2 ⟨#[]⟩ es he hfar).alloc (.cells #[.int .i64 gm, .slice (some ⟨rg, 0, none⟩) m.root.length rc, .slice (some ⟨sg, 0, none⟩) m.slots.length sc, .slice (some ⟨fg, 0, none⟩) m.refs.length fc, .slice na nn nc] 26)).alloc (.cells #[.int .i64 gm, .slice (some ⟨rg, 0, none⟩) m.root.length rc, .slice (some ⟨sg, 0, none⟩) m.slots.length sc, .slice (some ⟨fg, 0, none⟩) m.refs.length fc, .slice na nn nc] 26)
  have b1 := (((Below.refl B w).setCell (p := ⟨sg, t * 3, none⟩) hsl.1 (.int .i64 2)).setCell (p := ⟨sg, t * 3 + 1, none⟩) hsl.1 (.string ⟨#[]⟩)).setCell (p := ⟨sg, t * 3 + 2, none⟩) hsl.1 (.slice ea en ec)
  refine bodyPost_ret (v := .tuple #[.agg #[.int .i64 gm, .slice (some ⟨rg, 0, none⟩) m.root.length rc, .slice (some ⟨sg, 0, none⟩) m.slots.length sc, .slice (some ⟨fg, 0, none⟩) m.refs.length fc, .slice na nn nc], .bool true]) (by simp [results, Try.results70, go_sem]) rfl ⟨_, ?_, hN, (b1.alloc (Nat.le_trans hB b1.size) _).alloc (Nat.le_trans hB (b1.alloc (Nat.le_trans hB b1.size) _).size) _, (((((KeepX.refl w m val).own (LiveX.slots m) e1).own (LiveX.slots m) e1).own (LiveX.slots m) e1).alloc b1.size _).alloc (b1.alloc (Nat.le_trans hB b1.size) _).size _, fun _ _ hev' hm => setX_far hm hev'⟩
  unfold imgV
  rw [upd_other _ _ (by intro x; cases x), upd_other _ _ (by intro x; cases x), upd_other _ _ (by intro x; cases x), upd_other _ _ (by intro x; cases x), e0, e1, e2, e3]

set_option maxHeartbeats 4000000 in
theorem tabledX_full0 (m : ImgD) (gm : Int) (rg rc : Nat) (sg sc : Nat) (fg fc : Nat) (na : Option Addr) (nn nc : Nat) (k : Nat) (ea : Option Addr) (en ec : Nat) (es : List Int) (B : Nat) (val : Nm → Value) (w : World) (hO : OX w B val m) (e0 : val .root = .slice (some ⟨rg, 0, none⟩) m.root.length rc) (e1 : val .slots = .slice (some ⟨sg, 0, none⟩) m.slots.length sc) (e2 : val .refs = .slice (some ⟨fg, 0, none⟩) m.refs.length fc) (_e3 : val .snaps = .slice na nn nc) (hB : B ≤ w.heap.size) (hk : k < m.root.length) (ht : m.root.getD k 0 = 0)
    (he : w.ownsRow B 3 1 (.slice ea en ec) es.length (ints es)) (hb : bareL es = false) (hs1 : 1 ≤ m.slots.length) (hs40 : m.slots.length ≤ 40) (hgr : grabN m.slots = 40) :
    Calls Try.prog 70 #[.agg #[.int .i64 gm, .slice (some ⟨rg, 0, none⟩) m.root.length rc, .slice (some ⟨sg, 0, none⟩) m.slots.length sc, .slice (some ⟨fg, 0, none⟩) m.refs.length fc, .slice na nn nc], .int .i64 (k : Int), .slice ea en ec] w fun r w' => ∃ v, FiveV v ∧ r = .returned (.tuple #[v, .bool false]) ∧ Below B w w' ∧ KeepX w w' m val := by
  have m0 : ((w.alloc (.cells #[.int .i64 gm, .slice (some ⟨rg, 0, none⟩) m.root.length rc, .slice (some ⟨sg, 0, none⟩) m.slots.length sc, .slice (some ⟨fg, 0, none⟩) m.refs.length fc, .slice na nn nc] 26)).alloc (.cells #[.int .i64 0, .slice none 0 0, .slice none 0 0, .slice none 0 0, .slice none 0 0] 26)).heap[w.heap.size]? = some (.cells #[.int .i64 gm, .slice (some ⟨rg, 0, none⟩) m.root.length rc, .slice (some ⟨sg, 0, none⟩) m.slots.length sc, .slice (some ⟨fg, 0, none⟩) m.refs.length fc, .slice na nn nc] 26) := cells_alloc (World.alloc_heap_new _ _) _
  have m2 : ((w.alloc (.cells #[.int .i64 gm, .slice (some ⟨rg, 0, none⟩) m.root.length rc, .slice (some ⟨sg, 0, none⟩) m.slots.length sc, .slice (some ⟨fg, 0, none⟩) m.refs.length fc, .slice na nn nc] 26)).alloc (.cells #[.int .i64 0, .slice none 0 0, .slice none 0 0, .slice none 0 0, .slice none 0 0] 26)).heap[w.heap.size + 1]? = some (.cells #[.int .i64 0, .slice none 0 0, .slice none 0 0, .slice none 0 0, .slice none 0 0] 26) := by have := World.alloc_heap_new (w.alloc (.cells #[.int .i64 gm, .slice (some ⟨rg, 0, none⟩) m.root.length rc, .slice (some ⟨sg, 0, none⟩) m.slots.length sc, .slice (some ⟨fg, 0, none⟩) m.refs.length fc, .slice na nn nc] 26)) (.cells #[.int .i64 0, .slice none 0 0, .slice none 0 0, .slice none 0 0, .slice none 0 0] 26); simpa using this
  obtain ⟨c0, c1, c2, c3, c4⟩ := five m0
  obtain ⟨z0, z1, z2, z3, z4⟩ := five m2
  have y0 := cells_frozen m2 0
  have y1 := cells_frozen m2 1
  have y2 := cells_frozen m2 2
  have y3 := cells_frozen m2 3
  have y4 := cells_frozen m2 4
  have hA : OX ((w.alloc (.cells #[.int .i64 gm, .slice (some ⟨rg, 0, none⟩) m.root.length rc, .slice (some ⟨sg, 0, none⟩) m.slots.length sc, .slice (some ⟨fg, 0, none⟩) m.refs.length fc, .slice na nn nc] 26)).alloc (.cells #[.int .i64 0, .slice none 0 0, .slice none 0 0, .slice none 0 0, .slice none 0 0] 26)) B val m := (hO.alloc _).alloc _
  have hrr := hA.row .root (LiveX.root m)
  rw [e0] at hrr
  have hrr : ((w.alloc (.cells #[.int .i64 gm, .slice (some ⟨rg, 0, none⟩) m.root.length rc, .slice (some ⟨sg, 0, none⟩) m.slots.length sc, .slice (some ⟨fg, 0, none⟩) m.refs.length fc, .slice na nn nc] 26)).alloc (.cells #[.int .i64 0, .slice none 0 0, .slice none 0 0, .slice none 0 0, .slice none 0 0] 26)).ownsRow B 3 1 (.slice (some ⟨rg, 0, none⟩) m.root.length rc) m.root.length (ints m.root) := hrr
  have x0 : ((w.alloc (.cells #[.int .i64 gm, .slice (some ⟨rg, 0, none⟩) m.root.length rc, .slice (some ⟨sg, 0, none⟩) m.slots.length sc, .slice (some ⟨fg, 0, none⟩) m.refs.length fc, .slice na nn nc] 26)).alloc (.cells #[.int .i64 0, .slice none 0 0, .slice none 0 0, .slice none 0 0, .slice none 0 0] 26)).cell? ⟨rg, k, none⟩ = some (.int .i64 0) := (hrr.cellAt k (by omega)).trans (by unfold ints; rw [List.getElem?_map, List.getElem?_eq_getElem hk, ← ht]; simp [List.getD, hk])
  have xf := hrr.frozenAt k
  have hki : (k : Int) < (m.root.length : Int) := by omega
  have hrl : B ≤ rg ∧ rg < w.heap.size := by
    have := hO.row .root (LiveX.root m)
    rw [e0] at this
    exact this.lt rg rfl
  have g1 : ¬ rg = w.heap.size := by omega
  have g2 : ¬ w.heap.size = rg := by omega
  have g3 : ¬ rg = w.heap.size + 1 := by omega
  have g4 : ¬ w.heap.size + 1 = rg := by omega
  have bB : Below B w ((w.alloc (.cells #[.int .i64 gm, .slice (some ⟨rg, 0, none⟩) m.root.length rc, .slice (some ⟨sg, 0, none⟩) m.slots.length sc, .slice (some ⟨fg, 0, none⟩) m.refs.length fc, .slice na nn nc] 26)).alloc (.cells #[.int .i64 0, .slice none 0 0, .slice none 0 0, .slice none 0 0, .slice none 0 0] 26)) := ((Below.refl B w).alloc hB _).alloc (by simp <;> omega) _
  have hE0 : Sl ((w.alloc (.cells #[.int .i64 gm, .slice (some ⟨rg, 0, none⟩) m.root.length rc, .slice (some ⟨sg, 0, none⟩) m.slots.length sc, .slice (some ⟨fg, 0, none⟩) m.refs.length fc, .slice na nn nc] 26)).alloc (.cells #[.int .i64 0, .slice none 0 0, .slice none 0 0, .slice none 0 0, .slice none 0 0] 26)) (.slice ea en ec) es := row_sl ((he.alloc _).alloc _)
  have hsr := hA.row .slots (LiveX.slots m)
  rw [e1] at hsr
  have hsr : ((w.alloc (.cells #[.int .i64 gm, .slice (some ⟨rg, 0, none⟩) m.root.length rc, .slice (some ⟨sg, 0, none⟩) m.slots.length sc, .slice (some ⟨fg, 0, none⟩) m.refs.length fc, .slice na nn nc] 26)).alloc (.cells #[.int .i64 0, .slice none 0 0, .slice none 0 0, .slice none 0 0, .slice none 0 0] 26)).ownsRow B 33 3 (.slice (some ⟨sg, 0, none⟩) m.slots.length sc) m.slots.length (flatS m.slots (fun j => val (.tab j))) := hsr
  have hfr := hA.row .refs (LiveX.refs m)
  rw [e2] at hfr
  have hfr : ((w.alloc (.cells #[.int .i64 gm, .slice (some ⟨rg, 0, none⟩) m.root.length rc, .slice (some ⟨sg, 0, none⟩) m.slots.length sc, .slice (some ⟨fg, 0, none⟩) m.refs.length fc, .slice na nn nc] 26)).alloc (.cells #[.int .i64 0, .slice none 0 0, .slice none 0 0, .slice none 0 0, .slice none 0 0] 26)).ownsRow B 3 1 (.slice (some ⟨fg, 0, none⟩) m.refs.length fc) m.refs.length (ints m.refs) := hfr
  have hsl : B ≤ sg ∧ sg < w.heap.size := by
    have := hO.row .slots (LiveX.slots m)
    rw [e1] at this
    exact this.lt sg rfl
  have hfl : B ≤ fg ∧ fg < w.heap.size := by
    have := hO.row .refs (LiveX.refs m)
    rw [e2] at this
    exact this.lt fg rfl
  have s1 : ¬ sg = w.heap.size := by omega
  have s2 : ¬ w.heap.size = sg := by omega
  have s3 : ¬ sg = w.heap.size + 1 := by omega
  have s4 : ¬ w.heap.size + 1 = sg := by omega
  have htab : ∀ j, j < m.slots.length → Sl ((w.alloc (.cells #[.int .i64 gm, .slice (some ⟨rg, 0, none⟩) m.root.length rc, .slice (some ⟨sg, 0, none⟩) m.slots.length sc, .slice (some ⟨fg, 0, none⟩) m.refs.length fc, .slice na nn nc] 26)).alloc (.cells #[.int .i64 0, .slice none 0 0, .slice none 0 0, .slice none 0 0, .slice none 0 0] 26)) (val (.tab j)) (m.slots.getD j default).2.2 := fun j hj => hA.tabSl hj
  have hG := grabOf_row hsr htab hs1 hs40 (if_pos hgr)
  clear ht htab
  go_enter Try.func70, Try.ntmps70
  go_wp2_with (first | (go_at_call 96; refine (bareIn_any _ es _ hE0).mono ?_; rintro e w' ⟨rfl, hw⟩; rw [hw, hb]; clear hw) | (go_at_call 61; refine hG.mono ?_; rintro e w' ⟨rfl, hw⟩; rw [hw]; clear hw))
  refine bodyPost_ret (v := .tuple #[.agg #[.int .i64 gm, .slice (some ⟨rg, 0, none⟩) m.root.length rc, .slice (some ⟨sg, 0, none⟩) m.slots.length sc, .slice (some ⟨fg, 0, none⟩) m.refs.length fc, .slice na nn nc], .bool false]) (by simp [results, Try.results70, go_sem]) rfl ⟨_, ⟨_, _, _, _, _, _, _, _, _, _, _, _, _, rfl⟩, rfl, ((Below.refl B w).alloc hB _).alloc (by simp <;> omega) _, ((KeepX.refl w m val).alloc (Nat.le_refl _) _).alloc (by simp) _⟩

set_option maxHeartbeats 4000000 in
theorem tabledX_full1 (m : ImgD) (gm : Int) (rg rc : Nat) (sg sc : Nat) (fg fc : Nat) (na : Option Addr) (nn nc : Nat) (k : Nat) (t : Nat) (ea : Option Addr) (en ec : Nat) (es : List Int) (B : Nat) (val : Nm → Value) (w : World) (hO : OX w B val m) (e0 : val .root = .slice (some ⟨rg, 0, none⟩) m.root.length rc) (e1 : val .slots = .slice (some ⟨sg, 0, none⟩) m.slots.length sc) (e2 : val .refs = .slice (some ⟨fg, 0, none⟩) m.refs.length fc) (_e3 : val .snaps = .slice na nn nc) (hB : B ≤ w.heap.size) (hk : k < m.root.length) (ht : m.root.getD k 0 = (t : Int)) (ht1 : 1 ≤ t) (htl : t < m.slots.length) (hrf : m.refs.length = m.slots.length) (h1 : m.refs.getD t 0 ≠ 1)
    (he : w.ownsRow B 3 1 (.slice ea en ec) es.length (ints es)) (hb : bareL es = false) (hs1 : 1 ≤ m.slots.length) (hs40 : m.slots.length ≤ 40) (hgr : grabN m.slots = 40) :
    Calls Try.prog 70 #[.agg #[.int .i64 gm, .slice (some ⟨rg, 0, none⟩) m.root.length rc, .slice (some ⟨sg, 0, none⟩) m.slots.length sc, .slice (some ⟨fg, 0, none⟩) m.refs.length fc, .slice na nn nc], .int .i64 (k : Int), .slice ea en ec] w fun r w' => ∃ v, FiveV v ∧ r = .returned (.tuple #[v, .bool false]) ∧ Below B w w' ∧ KeepX w w' m val := by
  have m0 : ((w.alloc (.cells #[.int .i64 gm, .slice (some ⟨rg, 0, none⟩) m.root.length rc, .slice (some ⟨sg, 0, none⟩) m.slots.length sc, .slice (some ⟨fg, 0, none⟩) m.refs.length fc, .slice na nn nc] 26)).alloc (.cells #[.int .i64 0, .slice none 0 0, .slice none 0 0, .slice none 0 0, .slice none 0 0] 26)).heap[w.heap.size]? = some (.cells #[.int .i64 gm, .slice (some ⟨rg, 0, none⟩) m.root.length rc, .slice (some ⟨sg, 0, none⟩) m.slots.length sc, .slice (some ⟨fg, 0, none⟩) m.refs.length fc, .slice na nn nc] 26) := cells_alloc (World.alloc_heap_new _ _) _
  have m2 : ((w.alloc (.cells #[.int .i64 gm, .slice (some ⟨rg, 0, none⟩) m.root.length rc, .slice (some ⟨sg, 0, none⟩) m.slots.length sc, .slice (some ⟨fg, 0, none⟩) m.refs.length fc, .slice na nn nc] 26)).alloc (.cells #[.int .i64 0, .slice none 0 0, .slice none 0 0, .slice none 0 0, .slice none 0 0] 26)).heap[w.heap.size + 1]? = some (.cells #[.int .i64 0, .slice none 0 0, .slice none 0 0, .slice none 0 0, .slice none 0 0] 26) := by have := World.alloc_heap_new (w.alloc (.cells #[.int .i64 gm, .slice (some ⟨rg, 0, none⟩) m.root.length rc, .slice (some ⟨sg, 0, none⟩) m.slots.length sc, .slice (some ⟨fg, 0, none⟩) m.refs.length fc, .slice na nn nc] 26)) (.cells #[.int .i64 0, .slice none 0 0, .slice none 0 0, .slice none 0 0, .slice none 0 0] 26); simpa using this
  obtain ⟨c0, c1, c2, c3, c4⟩ := five m0
  obtain ⟨z0, z1, z2, z3, z4⟩ := five m2
  have y0 := cells_frozen m2 0
  have y1 := cells_frozen m2 1
  have y2 := cells_frozen m2 2
  have y3 := cells_frozen m2 3
  have y4 := cells_frozen m2 4
  have hA : OX ((w.alloc (.cells #[.int .i64 gm, .slice (some ⟨rg, 0, none⟩) m.root.length rc, .slice (some ⟨sg, 0, none⟩) m.slots.length sc, .slice (some ⟨fg, 0, none⟩) m.refs.length fc, .slice na nn nc] 26)).alloc (.cells #[.int .i64 0, .slice none 0 0, .slice none 0 0, .slice none 0 0, .slice none 0 0] 26)) B val m := (hO.alloc _).alloc _
  have hrr := hA.row .root (LiveX.root m)
  rw [e0] at hrr
  have hrr : ((w.alloc (.cells #[.int .i64 gm, .slice (some ⟨rg, 0, none⟩) m.root.length rc, .slice (some ⟨sg, 0, none⟩) m.slots.length sc, .slice (some ⟨fg, 0, none⟩) m.refs.length fc, .slice na nn nc] 26)).alloc (.cells #[.int .i64 0, .slice none 0 0, .slice none 0 0, .slice none 0 0, .slice none 0 0] 26)).ownsRow B 3 1 (.slice (some ⟨rg, 0, none⟩) m.root.length rc) m.root.length (ints m.root) := hrr
  have x0 : ((w.alloc (.cells #[.int .i64 gm, .slice (some ⟨rg, 0, none⟩) m.root.length rc, .slice (some ⟨sg, 0, none⟩) m.slots.length sc, .slice (some ⟨fg, 0, none⟩) m.refs.length fc, .slice na nn nc] 26)).alloc (.cells #[.int .i64 0, .slice none 0 0, .slice none 0 0, .slice none 0 0, .slice none 0 0] 26)).cell? ⟨rg, k, none⟩ = some (.int .i64 (t : Int)) := (hrr.cellAt k (by omega)).trans (by unfold ints; rw [List.getElem?_map, List.getElem?_eq_getElem hk, ← ht]; simp [List.getD, hk])
  have xf := hrr.frozenAt k
  have hki : (k : Int) < (m.root.length : Int) := by omega
  have hrl : B ≤ rg ∧ rg < w.heap.size := by
    have := hO.row .root (LiveX.root m)
    rw [e0] at this
    exact this.lt rg rfl
  have g1 : ¬ rg = w.heap.size := by omega
  have g2 : ¬ w.heap.size = rg := by omega
  have g3 : ¬ rg = w.heap.size + 1 := by omega
  have g4 : ¬ w.heap.size + 1 = rg := by omega
  have bB : Below B w ((w.alloc (.cells #[.int .i64 gm, .slice (some ⟨rg, 0, none⟩) m.root.length rc, .slice (some ⟨sg, 0, none⟩) m.slots.length sc, .slice (some ⟨fg, 0, none⟩) m.refs.length fc, .slice na nn nc] 26)).alloc (.cells #[.int .i64 0, .slice none 0 0, .slice none 0 0, .slice none 0 0, .slice none 0 0] 26)) := ((Below.refl B w).alloc hB _).alloc (by simp <;> omega) _
  have hE0 : Sl ((w.alloc (.cells #[.int .i64 gm, .slice (some ⟨rg, 0, none⟩) m.root.length rc, .slice (some ⟨sg, 0, none⟩) m.slots.length sc, .slice (some ⟨fg, 0, none⟩) m.refs.length fc, .slice na nn nc] 26)).alloc (.cells #[.int .i64 0, .slice none 0 0, .slice none 0 0, .slice none 0 0, .slice none 0 0] 26)) (.slice ea en ec) es := row_sl ((he.alloc _).alloc _)
  have hsr := hA.row .slots (LiveX.slots m)
  rw [e1] at hsr
  have hsr : ((w.alloc (.cells #[.int .i64 gm, .slice (some ⟨rg, 0, none⟩) m.root.length rc, .slice (some ⟨sg, 0, none⟩) m.slots.length sc, .slice (some ⟨fg, 0, none⟩) m.refs.length fc, .slice na nn nc] 26)).alloc (.cells #[.int .i64 0, .slice none 0 0, .slice none 0 0, .slice none 0 0, .slice none 0 0] 26)).ownsRow B 33 3 (.slice (some ⟨sg, 0, none⟩) m.slots.length sc) m.slots.length (flatS m.slots (fun j => val (.tab j))) := hsr
  have hfr := hA.row .refs (LiveX.refs m)
  rw [e2] at hfr
  have hfr : ((w.alloc (.cells #[.int .i64 gm, .slice (some ⟨rg, 0, none⟩) m.root.length rc, .slice (some ⟨sg, 0, none⟩) m.slots.length sc, .slice (some ⟨fg, 0, none⟩) m.refs.length fc, .slice na nn nc] 26)).alloc (.cells #[.int .i64 0, .slice none 0 0, .slice none 0 0, .slice none 0 0, .slice none 0 0] 26)).ownsRow B 3 1 (.slice (some ⟨fg, 0, none⟩) m.refs.length fc) m.refs.length (ints m.refs) := hfr
  have hsl : B ≤ sg ∧ sg < w.heap.size := by
    have := hO.row .slots (LiveX.slots m)
    rw [e1] at this
    exact this.lt sg rfl
  have hfl : B ≤ fg ∧ fg < w.heap.size := by
    have := hO.row .refs (LiveX.refs m)
    rw [e2] at this
    exact this.lt fg rfl
  have s1 : ¬ sg = w.heap.size := by omega
  have s2 : ¬ w.heap.size = sg := by omega
  have s3 : ¬ sg = w.heap.size + 1 := by omega
  have s4 : ¬ w.heap.size + 1 = sg := by omega
  have htr : (t : Int) < (m.refs.length : Int) := by omega
  have t0 : ¬ (t : Int) = 0 := by omega
  have t0' : ((t : Int) != 0) = true := by simp; omega
  obtain ⟨q, hq⟩ : ∃ q, q = m.refs.getD t 0 := ⟨_, rfl⟩
  rw [← hq] at h1
  have q1' : (q == 1) = false := by simp [h1]
  have x1 : ((w.alloc (.cells #[.int .i64 gm, .slice (some ⟨rg, 0, none⟩) m.root.length rc, .slice (some ⟨sg, 0, none⟩) m.slots.length sc, .slice (some ⟨fg, 0, none⟩) m.refs.length fc, .slice na nn nc] 26)).alloc (.cells #[.int .i64 0, .slice none 0 0, .slice none 0 0, .slice none 0 0, .slice none 0 0] 26)).cell? ⟨fg, t, none⟩ = some (.int .i64 q) := (hfr.cellAt t (by omega)).trans (by unfold ints; rw [List.getElem?_map, List.getElem?_eq_getElem (by omega), hq]; simp [List.getD, hrf, htl])
  clear hq hrf
  have htab : ∀ j, j < m.slots.length → Sl ((w.alloc (.cells #[.int .i64 gm, .slice (some ⟨rg, 0, none⟩) m.root.length rc, .slice (some ⟨sg, 0, none⟩) m.slots.length sc, .slice (some ⟨fg, 0, none⟩) m.refs.length fc, .slice na nn nc] 26)).alloc (.cells #[.int .i64 0, .slice none 0 0, .slice none 0 0, .slice none 0 0, .slice none 0 0] 26)) (val (.tab j)) (m.slots.getD j default).2.2 := fun j hj => hA.tabSl hj
  have hG := grabOf_row hsr htab hs1 hs40 (if_pos hgr)
  clear ht htab
  go_enter Try.func70, Try.ntmps70
  go_wp2_with (first | (go_at_call 96; refine (bareIn_any _ es _ hE0).mono ?_; rintro e w' ⟨rfl, hw⟩; rw [hw, hb]; clear hw) | (go_at_call 61; refine hG.mono ?_; rintro e w' ⟨rfl, hw⟩; rw [hw]; clear hw))
  refine bodyPost_ret (v := .tuple #[.agg #[.int .i64 gm, .slice (some ⟨rg, 0, none⟩) m.root.length rc, .slice (some ⟨sg, 0, none⟩) m.slots.length sc, .slice (some ⟨fg, 0, none⟩) m.refs.length fc, .slice na nn nc], .bool false]) (by simp [results, Try.results70, go_sem]) rfl ⟨_, ⟨_, _, _, _, _, _, _, _, _, _, _, _, _, rfl⟩, rfl, ((Below.refl B w).alloc hB _).alloc (by simp <;> omega) _, ((KeepX.refl w m val).alloc (Nat.le_refl _) _).alloc (by simp) _⟩

set_option maxHeartbeats 4000000 in
theorem tabledX_grab0 (m : ImgD) (gm : Int) (rg rc : Nat) (sg sc : Nat) (fg fc : Nat) (na : Option Addr) (nn nc : Nat) (k : Nat) (ea : Option Addr) (en ec : Nat) (es : List Int) (B : Nat) (val : Nm → Value) (w : World) (hO : OX w B val m) (e0 : val .root = .slice (some ⟨rg, 0, none⟩) m.root.length rc) (e1 : val .slots = .slice (some ⟨sg, 0, none⟩) m.slots.length sc) (e2 : val .refs = .slice (some ⟨fg, 0, none⟩) m.refs.length fc) (e3 : val .snaps = .slice na nn nc) (hB : B ≤ w.heap.size) (hk : k < m.root.length) (ht : m.root.getD k 0 = 0)
    (he : w.ownsRow B 3 1 (.slice ea en ec) es.length (ints es)) (hfar : FarX m val (.tab (grabN m.slots)) (.slice ea en ec)) (hb : bareL es = false) (hs1 : 1 ≤ m.slots.length) (hs40 : m.slots.length ≤ 40) (hgr : ¬ grabN m.slots = 40) :
    Calls Try.prog 70 #[.agg #[.int .i64 gm, .slice (some ⟨rg, 0, none⟩) m.root.length rc, .slice (some ⟨sg, 0, none⟩) m.slots.length sc, .slice (some ⟨fg, 0, none⟩) m.refs.length fc, .slice na nn nc], .int .i64 (k : Int), .slice ea en ec] w fun r w' => ∃ val', r = .returned (.tuple #[imgV gm val', .bool true]) ∧ OX w' B val' { m with root := m.root.set k (grabN m.slots : Int), slots := layS m.slots (grabN m.slots) (2, ⟨#[]⟩, es) } ∧ Below B w w' ∧ KeepX w w' m val ∧ SrcX w m val (.slice ea en ec) { m with root := m.root.set k (grabN m.slots : Int), slots := layS m.slots (grabN m.slots) (2, ⟨#[]⟩, es) } val' := by
  have m0 : ((w.alloc (.cells #[.int .i64 gm, .slice (some ⟨rg, 0, none⟩) m.root.length rc, .slice (some ⟨sg, 0, none⟩) m.slots.length sc, .slice (some ⟨fg, 0, none⟩) m.refs.length fc, .slice na nn nc] 26)).alloc (.cells #[.int .i64 0, .slice none 0 0, .slice none 0 0, .slice none 0 0, .slice none 0 0] 26)).heap[w.heap.size]? = some (.cells #[.int .i64 gm, .slice (some ⟨rg, 0, none⟩) m.root.length rc, .slice (some ⟨sg, 0, none⟩) m.slots.length sc, .slice (some ⟨fg, 0, none⟩) m.refs.length fc, .slice na nn nc] 26) := cells_alloc (World.alloc_heap_new _ _) _
  have m2 : ((w.alloc (.cells #[.int .i64 gm, .slice (some ⟨rg, 0, none⟩) m.root.length rc, .slice (some ⟨sg, 0, none⟩) m.slots.length sc, .slice (some ⟨fg, 0, none⟩) m.refs.length fc, .slice na nn nc] 26)).alloc (.cells #[.int .i64 0, .slice none 0 0, .slice none 0 0, .slice none 0 0, .slice none 0 0] 26)).heap[w.heap.size + 1]? = some (.cells #[.int .i64 0, .slice none 0 0, .slice none 0 0, .slice none 0 0, .slice none 0 0] 26) := by have := World.alloc_heap_new (w.alloc (.cells #[.int .i64 gm, .slice (some ⟨rg, 0, none⟩) m.root.length rc, .slice (some ⟨sg, 0, none⟩) m.slots.length sc, .slice (some ⟨fg, 0, none⟩) m.refs.length fc, .slice na nn nc] 26)) (.cells #[.int .i64 0, .slice none 0 0, .slice none 0 0, .slice none 0 0, .slice none 0 0] 26); simpa using this
  obtain ⟨c0, c1, c2, c3, c4⟩ := five m0
  obtain ⟨z0, z1, z2, z3, z4⟩ := five m2
  have y0 := cells_frozen m2 0
  have y1 := cells_frozen m2 1
  have y2 := cells_frozen m2 2
  have y3 := cells_frozen m2 3
  have y4 := cells_frozen m2 4
  have hA : OX ((w.alloc (.cells #[.int .i64 gm, .slice (some ⟨rg, 0, none⟩) m.root.length rc, .slice (some ⟨sg, 0, none⟩) m.slots.length sc, .slice (some ⟨fg, 0, none⟩) m.refs.length fc, .slice na nn nc] 26)).alloc (.cells #[.int .i64 0, .slice none 0 0, .slice none 0 0, .slice none 0 0, .slice none 0 0] 26)) B val m := (hO.alloc _).alloc _
  have hrr := hA.row .root (LiveX.root m)
  rw [e0] at hrr
  have hrr : ((w.alloc (.cells #[.int .i64 gm, .slice (some ⟨rg, 0, none⟩) m.root.length rc, .slice (some ⟨sg, 0, none⟩) m.slots.length sc, .slice (some ⟨fg, 0, none⟩) m.refs.length fc, .slice na nn nc] 26)).alloc (.cells #[.int .i64 0, .slice none 0 0, .slice none 0 0, .slice none 0 0, .slice none 0 0] 26)).ownsRow B 3 1 (.slice (some ⟨rg, 0, none⟩) m.root.length rc) m.root.length (ints m.root) := hrr
  have x0 : ((w.alloc (.cells #[.int .i64 gm, .slice (some ⟨rg, 0, none⟩) m.root.length rc, .slice (some ⟨sg, 0, none⟩) m.slots.length sc, .slice (some ⟨fg, 0, none⟩) m.refs.length fc, .slice na nn nc] 26)).alloc (.cells #[.int .i64 0, .slice none 0 0, .slice none 0 0, .slice none 0 0, .slice none 0 0] 26)).cell? ⟨rg, k, none⟩ = some (.int .i64 0) := (hrr.cellAt k (by omega)).trans (by unfold ints; rw [List.getElem?_map, List.getElem?_eq_getElem hk, ← ht]; simp [List.getD, hk])
  have xf := hrr.frozenAt k
  have hki : (k : Int) < (m.root.length : Int) := by omega
  have hrl : B ≤ rg ∧ rg < w.heap.size := by
    have := hO.row .root (LiveX.root m)
    rw [e0] at this
    exact this.lt rg rfl
  have g1 : ¬ rg = w.heap.size := by omega
  have g2 : ¬ w.heap.size = rg := by omega
  have g3 : ¬ rg = w.heap.size + 1 := by omega
  have g4 : ¬ w.heap.size + 1 = rg := by omega
  have bB : Below B w ((w.alloc (.cells #[.int .i64 gm, .slice (some ⟨rg, 0, none⟩) m.root.length rc, .slice (some ⟨sg, 0, none⟩) m.slots.length sc, .slice (some ⟨fg, 0, none⟩) m.refs.length fc, .slice na nn nc] 26)).alloc (.cells #[.int .i64 0, .slice none 0 0, .slice none 0 0, .slice none 0 0, .slice none 0 0] 26)) := ((Below.refl B w).alloc hB _).alloc (by simp <;> omega) _
  have hE0 : Sl ((w.alloc (.cells #[.int .i64 gm, .slice (some ⟨rg, 0, none⟩) m.root.length rc, .slice (some ⟨sg, 0, none⟩) m.slots.length sc, .slice (some ⟨fg, 0, none⟩) m.refs.length fc, .slice na nn nc] 26)).alloc (.cells #[.int .i64 0, .slice none 0 0, .slice none 0 0, .slice none 0 0, .slice none 0 0] 26)) (.slice ea en ec) es := row_sl ((he.alloc _).alloc _)
  have hsr := hA.row .slots (LiveX.slots m)
  rw [e1] at hsr
  have hsr : ((w.alloc (.cells #[.int .i64 gm, .slice (some ⟨rg, 0, none⟩) m.root.length rc, .slice (some ⟨sg, 0, none⟩) m.slots.length sc, .slice (some ⟨fg, 0, none⟩) m.refs.length fc, .slice na nn nc] 26)).alloc (.cells #[.int .i64 0, .slice none 0 0, .slice none 0 0, .slice none 0 0, .slice none 0 0] 26)).ownsRow B 33 3 (.slice (some ⟨sg, 0, none⟩) m.slots.length sc) m.slots.length (flatS m.slots (fun j => val (.tab j))) := hsr
  have hfr := hA.row .refs (LiveX.refs m)
  rw [e2] at hfr
  have hfr : ((w.alloc (.cells #[.int .i64 gm, .slice (some ⟨rg, 0, none⟩) m.root.length rc, .slice (some ⟨sg, 0, none⟩) m.slots.length sc, .slice (some ⟨fg, 0, none⟩) m.refs.length fc, .slice na nn nc] 26)).alloc (.cells #[.int .i64 0, .slice none 0 0, .slice none 0 0, .slice none 0 0, .slice none 0 0] 26)).ownsRow B 3 1 (.slice (some ⟨fg, 0, none⟩) m.refs.length fc) m.refs.length (ints m.refs) := hfr
  have hsl : B ≤ sg ∧ sg < w.heap.size := by
    have := hO.row .slots (LiveX.slots m)
    rw [e1] at this
    exact this.lt sg rfl
  have hfl : B ≤ fg ∧ fg < w.heap.size := by
    have := hO.row .refs (LiveX.refs m)
    rw [e2] at this
    exact this.lt fg rfl
  have s1 : ¬ sg = w.heap.size := by omega
  have s2 : ¬ w.heap.size = sg := by omega
  have s3 : ¬ sg = w.heap.size + 1 := by omega
  have s4 : ¬ w.heap.size + 1 = sg := by omega
  have htab : ∀ j, j < m.slots.length → Sl ((w.alloc (.cells #[.int .i64 gm, .slice (some ⟨rg, 0, none⟩) m.root.length rc, .slice (some ⟨sg, 0, none⟩) m.slots.length sc, .slice (some ⟨fg, 0, none⟩) m.refs.length fc, .slice na nn nc] 26)).alloc (.cells #[.int .i64 0, .slice none 0 0, .slice none 0 0, .slice none 0 0, .slice none 0 0] 26)) (val (.tab j)) (m.slots.getD j default).2.2 := fun j hj => hA.tabSl hj
  have hgn : 1 ≤ grabN m.slots ∧ grabN m.slots ≤ m.slots.length := ⟨(grabN_at hs1).1, (grabN_at hs1).2.1⟩
  have hG := grabOf_row hsr htab hs1 hs40 (if_neg hgr)
  have hcall : Calls Try.prog 62 #[.agg #[.int .i64 gm, .slice (some ⟨rg, 0, none⟩) m.root.length rc, .slice (some ⟨sg, 0, none⟩) m.slots.length sc, .slice (some ⟨fg, 0, none⟩) m.refs.length fc, .slice na nn nc], .int .i64 (grabN m.slots : Int), .agg #[.int .i64 2, .string ⟨#[]⟩, .slice ea en ec]] ((w.alloc (.cells #[.int .i64 gm, .slice (some ⟨rg, 0, none⟩) m.root.length rc, .slice (some ⟨sg, 0, none⟩) m.slots.length sc, .slice (some ⟨fg, 0, none⟩) m.refs.length fc, .slice na nn nc] 26)).alloc (.cells #[.int .i64 0, .slice none 0 0, .slice none 0 0, .slice none 0 0, .slice none 0 0] 26)) fun r w' => ∃ sa2 sn2 sc2 val2, r = .returned (.agg #[.int .i64 gm, .slice (some ⟨rg, 0, none⟩) m.root.length rc, .slice sa2 sn2 sc2, .slice (some ⟨fg, 0, none⟩) m.refs.length fc, .slice na nn nc]) ∧ Hid (OX w' B val2 { m with slots := layS m.slots (grabN m.slots) (2, ⟨#[]⟩, es) } ∧ imgV gm val2 = .agg #[.int .i64 gm, .slice (some ⟨rg, 0, none⟩) m.root.length rc, .slice sa2 sn2 sc2, .slice (some ⟨fg, 0, none⟩) m.refs.length fc, .slice na nn nc] ∧ val2 .root = .slice (some ⟨rg, 0, none⟩) m.root.length rc) ∧ Hid (Below B ((w.alloc (.cells #[.int .i64 gm, .slice (some ⟨rg, 0, none⟩) m.root.length rc, .slice (some ⟨sg, 0, none⟩) m.slots.length sc, .slice (some ⟨fg, 0, none⟩) m.refs.length fc, .slice na nn nc] 26)).alloc (.cells #[.int .i64 0, .slice none 0 0, .slice none 0 0, .slice none 0 0, .slice none 0 0] 26)) w') ∧ Hid (KeepX ((w.alloc (.cells #[.int .i64 gm, .slice (some ⟨rg, 0, none⟩) m.root.length rc, .slice (some ⟨sg, 0, none⟩) m.slots.length sc, .slice (some ⟨fg, 0, none⟩) m.refs.length fc, .slice na nn nc] 26)).alloc (.cells #[.int .i64 0, .slice none 0 0, .slice none 0 0, .slice none 0 0, .slice none 0 0] 26)) w' m val) ∧ Hid (SrcX ((w.alloc (.cells #[.int .i64 gm, .slice (some ⟨rg, 0, none⟩) m.root.length rc, .slice (some ⟨sg, 0, none⟩) m.slots.length sc, .slice (some ⟨fg, 0, none⟩) m.refs.length fc, .slice na nn nc] 26)).alloc (.cells #[.int .i64 0, .slice none 0 0, .slice none 0 0, .slice none 0 0, .slice none 0 0] 26)) m val (.slice ea en ec) { m with slots := layS m.slots (grabN m.slots) (2, ⟨#[]⟩, es) } val2) := by
    have eI : imgV gm val = .agg #[.int .i64 gm, .slice (some ⟨rg, 0, none⟩) m.root.length rc, .slice (some ⟨sg, 0, none⟩) m.slots.length sc, .slice (some ⟨fg, 0, none⟩) m.refs.length fc, .slice na nn nc] := by unfold imgV; rw [e0, e1, e2, e3]
    have h := layX_is gm (k := 2) (d := ⟨#[]⟩) hA (by simp <;> omega) hgn.2 (by omega) ((he.alloc _).alloc _) hfar
    rw [eI] at h
    refine h.mono ?_
    rintro r w' ⟨val2, rfl, h1, h2, h3, h5, h4⟩
    obtain ⟨sa2, sc2, es2, _⟩ := h1.forms .slots (LiveX.slots _)
    have r2 := (h4 .root (by intro x; cases x) (by intro x; cases x)).trans e0
    have i2 : imgV gm val2 = .agg #[.int .i64 gm, .slice (some ⟨rg, 0, none⟩) m.root.length rc, .slice sa2 (layS m.slots (grabN m.slots) (2, ⟨#[]⟩, es)).length sc2, .slice (some ⟨fg, 0, none⟩) m.refs.length fc, .slice na nn nc] := by
      have es2 : val2 .slots = .slice sa2 (layS m.slots (grabN m.slots) (2, ⟨#[]⟩, es)).length sc2 := es2
      unfold imgV
      rw [r2, es2, h4 .refs (by intro x; cases x) (by intro x; cases x), e2, h4 .snaps (by intro x; cases x) (by intro x; cases x), e3]
    exact ⟨sa2, _, sc2, val2, by rw [i2], ⟨h1, i2, r2⟩, h2, h3, h5⟩
  have hn0 : ¬ (grabN m.slots : Int) = 0 := by omega
  have hn0' : ((grabN m.slots : Int) == 0) = false := by simp; omega
  have hf0 : ∀ a, LiveX m a → (val a).ownBlock ≠ some w.heap.size := hO.lt (Nat.le_refl _)
  have hf1 : ∀ a, LiveX m a → (val a).ownBlock ≠ some (w.heap.size + 1) := hO.lt (by omega)
  obtain ⟨n, hn⟩ : ∃ n, n = grabN m.slots := ⟨_, rfl⟩
  rw [← hn] at hcall hG hn0 hn0'
  have HN : Hid (n = grabN m.slots) := hn
  clear ht htab hn
  go_enter Try.func70, Try.ntmps70
  go_wp2_with (first | (go_at_call 96; refine (bareIn_any _ es _ hE0).mono ?_; rintro e w' ⟨rfl, hw⟩; rw [hw, hb]; clear hw) | (go_at_call 61; refine hG.mono ?_; rintro e w' ⟨rfl, hw⟩; rw [hw]; clear hw) | (go_at_call 62; refine hcall.mono ?_; rintro e w2 ⟨sa2, sn2, sc2, val2, rfl, H2, hb2, hk2, hv2⟩; have q0 := (hk2.out w.heap.size (by simp <;> omega) hf0).trans m0; have q1 := (hk2.out (w.heap.size + 1) (by simp <;> omega) hf1).trans m2; obtain ⟨p0, p1, p2, p3, p4⟩ := five q0; obtain ⟨o0, o1, o2, o3, o4⟩ := five q1; have i0 := cells_frozen q0 0; have i1 := cells_frozen q0 1; have i2 := cells_frozen q0 2; have i3 := cells_frozen q0 3; have i4 := cells_frozen q0 4; have j0 := cells_frozen q1 0; have j1 := cells_frozen q1 1; have j2 := cells_frozen q1 2; have j3 := cells_frozen q1 3; have j4 := cells_frozen q1 4; have hrw : w2.ownsRow B 3 1 (.slice (some ⟨rg, 0, none⟩) m.root.length rc) m.root.length (ints m.root) := (by have := H2.out.1.row .root (LiveX.root _); rw [H2.out.2.2] at this; exact this); have l0 := root_cell hrw hk; have l1 := hrw.frozenAt k))
  have hn : n = grabN m.slots := HN.out
  subst hn
  have hv : ∀ q, w.heap.size ≤ q → (Value.slice ea en ec).ownBlock ≠ some q := fun q hq e => by have := (he.lt q e).2; omega
  have hfa := hv2.out w.heap.size (by simp <;> omega) (hv _ (Nat.le_refl _)) hf0
  have hfb := hv2.out (w.heap.size + 1) (by simp <;> omega) (hv _ (by omega)) hf1
  have hq1 : OX _ B val2 _ := ((((H2.out.1.far (i := 0) (u := .int .i64 gm) hfa).far (i := 1) (u := .slice (some ⟨rg, 0, none⟩) m.root.length rc) hfa).far (i := 2) (u := .slice sa2 sn2 sc2) hfa).far (i := 3) (u := .slice (some ⟨fg, 0, none⟩) m.refs.length fc) hfa).far (i := 4) (u := .slice na nn nc) hfa
  have hq2 := hq1.setRoot H2.out.2.2 k (grabN m.slots : Int)
  have hq3 := ((((hq2.far (i := 0) (u := .int .i64 gm) hfb).far (i := 1) (u := .slice (some ⟨rg, 0, none⟩) m.root.length rc) hfb).far (i := 2) (u := .slice sa2 sn2 sc2) hfb).far (i := 3) (u := .slice (some ⟨fg, 0, none⟩) m.refs.length fc) hfb).far (i := 4) (u := .slice na nn nc) hfb
  have hB0 : B ≤ w.heap.size + 1 := by omega
  have bb := ((((((((((((bB.trans hb2.out).setCell hB (p := ⟨w.heap.size, 0, none⟩) (.int .i64 gm)).setCell hB (p := ⟨w.heap.size, 1, none⟩) (.slice (some ⟨rg, 0, none⟩) m.root.length rc)).setCell hB (p := ⟨w.heap.size, 2, none⟩) (.slice sa2 sn2 sc2)).setCell hB (p := ⟨w.heap.size, 3, none⟩) (.slice (some ⟨fg, 0, none⟩) m.refs.length fc)).setCell hB (p := ⟨w.heap.size, 4, none⟩) (.slice na nn nc)).setCell hrl.1 (p := ⟨rg, k, none⟩) (.int .i64 (grabN m.slots : Int))).setCell hB0 (p := ⟨w.heap.size + 1, 0, none⟩) (.int .i64 gm)).setCell hB0 (p := ⟨w.heap.size + 1, 1, none⟩) (.slice (some ⟨rg, 0, none⟩) m.root.length rc)).setCell hB0 (p := ⟨w.heap.size + 1, 2, none⟩) (.slice sa2 sn2 sc2)).setCell hB0 (p := ⟨w.heap.size + 1, 3, none⟩) (.slice (some ⟨fg, 0, none⟩) m.refs.length fc)).setCell hB0 (p := ⟨w.heap.size + 1, 4, none⟩) (.slice na nn nc))
  have k0 : KeepX w w2 m val := fun q hq hn => (hk2.out q (by simp <;> omega) hn).trans ((((KeepX.refl w m val).alloc (Nat.le_refl _) _).alloc (by simp) _) q hq hn)
  refine bodyPost_ret (v := .tuple #[.agg #[.int .i64 gm, .slice (some ⟨rg, 0, none⟩) m.root.length rc, .slice sa2 sn2 sc2, .slice (some ⟨fg, 0, none⟩) m.refs.length fc, .slice na nn nc], .bool true]) (by simp [results, Try.results70, go_sem, o0, o1, o2, o3, o4]) rfl ⟨val2, by rw [H2.out.2.1], hq3, bb, (((((((((((k0.new (Nat.le_refl _)).new (Nat.le_refl _)).new (Nat.le_refl _)).new (Nat.le_refl _)).new (Nat.le_refl _)).own (LiveX.root m) e0).new (by omega)).new (by omega)).new (by omega)).new (by omega)).new (by omega)), fun q hq hev' hm => hv2.out q (by simp <;> omega) hev' hm⟩

set_option maxHeartbeats 4000000 in
theorem tabledX_grab1 (m : ImgD) (gm : Int) (rg rc : Nat) (sg sc : Nat) (fg fc : Nat) (na : Option Addr) (nn nc : Nat) (k : Nat) (t : Nat) (ea : Option Addr) (en ec : Nat) (es : List Int) (B : Nat) (val : Nm → Value) (w : World) (hO : OX w B val m) (e0 : val .root = .slice (some ⟨rg, 0, none⟩) m.root.length rc) (e1 : val .slots = .slice (some ⟨sg, 0, none⟩) m.slots.length sc) (e2 : val .refs = .slice (some ⟨fg, 0, none⟩) m.refs.length fc) (e3 : val .snaps = .slice na nn nc) (hB : B ≤ w.heap.size) (hk : k < m.root.length) (ht : m.root.getD k 0 = (t : Int)) (ht1 : 1 ≤ t) (htl : t < m.slots.length) (hrf : m.refs.length = m.slots.length) (h1 : m.refs.getD t 0 ≠ 1)
    (he : w.ownsRow B 3 1 (.slice ea en ec) es.length (ints es)) (hfar : FarX m val (.tab (grabN m.slots)) (.slice ea en ec)) (hb : bareL es = false) (hs1 : 1 ≤ m.slots.length) (hs40 : m.slots.length ≤ 40) (hgr : ¬ grabN m.slots = 40) :
    Calls Try.prog 70 #[.agg #[.int .i64 gm, .slice (some ⟨rg, 0, none⟩) m.root.length rc, .slice (some ⟨sg, 0, none⟩) m.slots.length sc, .slice (some ⟨fg, 0, none⟩) m.refs.length fc, .slice na nn nc], .int .i64 (k : Int), .slice ea en ec] w fun r w' => ∃ val', r = .returned (.tuple #[imgV gm val', .bool true]) ∧ OX w' B val' { m with root := m.root.set k (grabN m.slots : Int), slots := layS m.slots (grabN m.slots) (2, ⟨#[]⟩, es) } ∧ Below B w w' ∧ KeepX w w' m val ∧ SrcX w m val (.slice ea en ec) { m with root := m.root.set k (grabN m.slots : Int), slots := layS m.slots (grabN m.slots) (2, ⟨#[]⟩, es) } val' := by
  have m0 : ((w.alloc (.cells #[.int .i64 gm, .slice (some ⟨rg, 0, none⟩) m.root.length rc, .slice (some ⟨sg, 0, none⟩) m.slots.length sc, .slice (some ⟨fg, 0, none⟩) m.refs.length fc, .slice na nn nc] 26)).alloc (.cells #[.int .i64 0, .slice none 0 0, .slice none 0 0, .slice none 0 0, .slice none 0 0] 26)).heap[w.heap.size]? = some (.cells #[.int .i64 gm, .slice (some ⟨rg, 0, none⟩) m.root.length rc, .slice (some ⟨sg, 0, none⟩) m.slots.length sc, .slice (some ⟨fg, 0, none⟩) m.refs.length fc, .slice na nn nc] 26) := cells_alloc (World.alloc_heap_new _ _) _
  have m2 : ((w.alloc (.cells #[.int .i64 gm, .slice (some ⟨rg, 0, none⟩) m.root.length rc, .slice (some ⟨sg, 0, none⟩) m.slots.length sc, .slice (some ⟨fg, 0, none⟩) m.refs.length fc, .slice na nn nc] 26)).alloc (.cells #[.int .i64 0, .slice none 0 0, .slice none 0 0, .slice none 0 0, .slice none 0 0] 26)).heap[w.heap.size + 1]? = some (.cells #[.int .i64 0, .slice none 0 0, .slice none 0 0, .slice none 0 0, .slice none 0 0] 26) := by have := World.alloc_heap_new (w.alloc (.cells #[.int .i64 gm, .slice (some ⟨rg, 0, none⟩) m.root.length rc, .slice (some ⟨sg, 0, none⟩) m.slots.length sc, .slice (some ⟨fg, 0, none⟩) m.refs.length fc, .slice na nn nc] 26)) (.cells #[.int .i64 0, .slice none 0 0, .slice none 0 0, .slice none 0 0, .slice none 0 0] 26); simpa using this
  obtain ⟨c0, c1, c2, c3, c4⟩ := five m0
  obtain ⟨z0, z1, z2, z3, z4⟩ := five m2
  have y0 := cells_frozen m2 0
  have y1 := cells_frozen m2 1
  have y2 := cells_frozen m2 2
  have y3 := cells_frozen m2 3
  have y4 := cells_frozen m2 4
  have hA : OX ((w.alloc (.cells #[.int .i64 gm, .slice (some ⟨rg, 0, none⟩) m.root.length rc, .slice (some ⟨sg, 0, none⟩) m.slots.length sc, .slice (some ⟨fg, 0, none⟩) m.refs.length fc, .slice na nn nc] 26)).alloc (.cells #[.int .i64 0, .slice none 0 0, .slice none 0 0, .slice none 0 0, .slice none 0 0] 26)) B val m := (hO.alloc _).alloc _
  have hrr := hA.row .root (LiveX.root m)
  rw [e0] at hrr
  have hrr : ((w.alloc (.cells #[.int .i64 gm, .slice (some ⟨rg, 0, none⟩) m.root.length rc, .slice (some ⟨sg, 0, none⟩) m.slots.length sc, .slice (some ⟨fg, 0, none⟩) m.refs.length fc, .slice na nn nc] 26)).alloc (.cells #[.int .i64 0, .slice none 0 0, .slice none 0 0, .slice none 0 0, .slice none 0 0] 26)).ownsRow B 3 1 (.slice (some ⟨rg, 0, none⟩) m.root.length rc) m.root.length (ints m.root) := hrr
  have x0 : ((w.alloc (.cells #[.int .i64 gm, .slice (some ⟨rg, 0, none⟩) m.root.length rc, .slice (some ⟨sg, 0, none⟩) m.slots.length sc, .slice (some ⟨fg, 0, none⟩) m.refs.length fc, .slice na nn nc] 26)).alloc (.cells #[.int .i64 0, .slice none 0 0, .slice none 0 0, .slice none 0 0, .slice none 0 0] 26)).cell? ⟨rg, k, none⟩ = some (.int .i64 (t : Int)) := (hrr.cellAt k (by omega)).trans (by unfold ints; rw [List.getElem?_map, List.getElem?_eq_getElem hk, ← ht]; simp [List.getD, hk])
  have xf := hrr.frozenAt k
  have hki : (k : Int) < (m.root.length : Int) := by omega
  have hrl : B ≤ rg ∧ rg < w.heap.size := by
    have := hO.row .root (LiveX.root m)
    rw [e0] at this
    exact this.lt rg rfl
  have g1 : ¬ rg = w.heap.size := by omega
  have g2 : ¬ w.heap.size = rg := by omega
  have g3 : ¬ rg = w.heap.size + 1 := by omega
  have g4 : ¬ w.heap.size + 1 = rg := by omega
  have bB : Below B w ((w.alloc (.cells #[.int .i64 gm, .slice (some ⟨rg, 0, none⟩) m.root.length rc, .slice (some ⟨sg, 0, none⟩) m.slots.length sc, .slice (some ⟨fg, 0, none⟩) m.refs.length fc, .slice na nn nc] 26)).alloc (.cells #[.int .i64 0, .slice none 0 0, .slice none 0 0, .slice none 0 0, .slice none 0 0] 26)) := ((Below.refl B w).alloc hB _).alloc (by simp <;> omega) _
  have hE0 : Sl ((w.alloc (.cells #[.int .i64 gm, .slice (some ⟨rg, 0, none⟩) m.root.length rc, .slice (some ⟨sg, 0, none⟩) m.slots.length sc, .slice (some ⟨fg, 0, none⟩) m.refs.length fc, .slice na nn nc] 26)).alloc (.cells #[.int .i64 0, .slice none 0 0, .slice none 0 0, .slice none 0 0, .slice none 0 0] 26)) (.slice ea en ec) es := row_sl ((he.alloc _).alloc _)
  have hsr := hA.row .slots (LiveX.slots m)
  rw [e1] at hsr
  have hsr : ((w.alloc (.cells #[.int .i64 gm, .slice (some ⟨rg, 0, none⟩) m.root.length rc, .slice (some ⟨sg, 0, none⟩) m.slots.length sc, .slice (some ⟨fg, 0, none⟩) m.refs.length fc, .slice na nn nc] 26)).alloc (.cells #[.int .i64 0, .slice none 0 0, .slice none 0 0, .slice none 0 0, .slice none 0 0] 26)).ownsRow B 33 3 (.slice (some ⟨sg, 0, none⟩) m.slots.length sc) m.slots.length (flatS m.slots (fun j => val (.tab j))) := hsr
  have hfr := hA.row .refs (LiveX.refs m)
  rw [e2] at hfr
  have hfr : ((w.alloc (.cells #[.int .i64 gm, .slice (some ⟨rg, 0, none⟩) m.root.length rc, .slice (some ⟨sg, 0, none⟩) m.slots.length sc, .slice (some ⟨fg, 0, none⟩) m.refs.length fc, .slice na nn nc] 26)).alloc (.cells #[.int .i64 0, .slice none 0 0, .slice none 0 0, .slice none 0 0, .slice none 0 0] 26)).ownsRow B 3 1 (.slice (some ⟨fg, 0, none⟩) m.refs.length fc) m.refs.length (ints m.refs) := hfr
  have hsl : B ≤ sg ∧ sg < w.heap.size := by
    have := hO.row .slots (LiveX.slots m)
    rw [e1] at this
    exact this.lt sg rfl
  have hfl : B ≤ fg ∧ fg < w.heap.size := by
    have := hO.row .refs (LiveX.refs m)
    rw [e2] at this
    exact this.lt fg rfl
  have s1 : ¬ sg = w.heap.size := by omega
  have s2 : ¬ w.heap.size = sg := by omega
  have s3 : ¬ sg = w.heap.size + 1 := by omega
  have s4 : ¬ w.heap.size + 1 = sg := by omega
  have htr : (t : Int) < (m.refs.length : Int) := by omega
  have t0 : ¬ (t : Int) = 0 := by omega
  have t0' : ((t : Int) != 0) = true := by simp; omega
  obtain ⟨q, hq⟩ : ∃ q, q = m.refs.getD t 0 := ⟨_, rfl⟩
  rw [← hq] at h1
  have q1' : (q == 1) = false := by simp [h1]
  have x1 : ((w.alloc (.cells #[.int .i64 gm, .slice (some ⟨rg, 0, none⟩) m.root.length rc, .slice (some ⟨sg, 0, none⟩) m.slots.length sc, .slice (some ⟨fg, 0, none⟩) m.refs.length fc, .slice na nn nc] 26)).alloc (.cells #[.int .i64 0, .slice none 0 0, .slice none 0 0, .slice none 0 0, .slice none 0 0] 26)).cell? ⟨fg, t, none⟩ = some (.int .i64 q) := (hfr.cellAt t (by omega)).trans (by unfold ints; rw [List.getElem?_map, List.getElem?_eq_getElem (by omega), hq]; simp [List.getD, hrf, htl])
  clear hq hrf
  have htab : ∀ j, j < m.slots.length → Sl ((w.alloc (.cells #[.int .i64 gm, .slice (some ⟨rg, 0, none⟩) m.root.length rc, .slice (some ⟨sg, 0, none⟩) m.slots.length sc, .slice (some ⟨fg, 0, none⟩) m.refs.length fc, .slice na nn nc] 26)).alloc (.cells #[.int .i64 0, .slice none 0 0, .slice none 0 0, .slice none 0 0, .slice none 0 0] 26)) (val (.tab j)) (m.slots.getD j default).2.2 := fun j hj => hA.tabSl hj
  have hgn : 1 ≤ grabN m.slots ∧ grabN m.slots ≤ m.slots.length := ⟨(grabN_at hs1).1, (grabN_at hs1).2.1⟩
  have hG := grabOf_row hsr htab hs1 hs40 (if_neg hgr)
  have hcall : Calls Try.prog 62 #[.agg #[.int .i64 gm, .slice (some ⟨rg, 0, none⟩) m.root.length rc, .slice (some ⟨sg, 0, none⟩) m.slots.length sc, .slice (some ⟨fg, 0, none⟩) m.refs.length fc, .slice na nn nc], .int .i64 (grabN m.slots : Int), .agg #[.int .i64 2, .string ⟨#[]⟩, .slice ea en ec]] ((w.alloc (.cells #[.int .i64 gm, .slice (some ⟨rg, 0, none⟩) m.root.length rc, .slice (some ⟨sg, 0, none⟩) m.slots.length sc, .slice (some ⟨fg, 0, none⟩) m.refs.length fc, .slice na nn nc] 26)).alloc (.cells #[.int .i64 0, .slice none 0 0, .slice none 0 0, .slice none 0 0, .slice none 0 0] 26)) fun r w' => ∃ sa2 sn2 sc2 val2, r = .returned (.agg #[.int .i64 gm, .slice (some ⟨rg, 0, none⟩) m.root.length rc, .slice sa2 sn2 sc2, .slice (some ⟨fg, 0, none⟩) m.refs.length fc, .slice na nn nc]) ∧ Hid (OX w' B val2 { m with slots := layS m.slots (grabN m.slots) (2, ⟨#[]⟩, es) } ∧ imgV gm val2 = .agg #[.int .i64 gm, .slice (some ⟨rg, 0, none⟩) m.root.length rc, .slice sa2 sn2 sc2, .slice (some ⟨fg, 0, none⟩) m.refs.length fc, .slice na nn nc] ∧ val2 .root = .slice (some ⟨rg, 0, none⟩) m.root.length rc) ∧ Hid (Below B ((w.alloc (.cells #[.int .i64 gm, .slice (some ⟨rg, 0, none⟩) m.root.length rc, .slice (some ⟨sg, 0, none⟩) m.slots.length sc, .slice (some ⟨fg, 0, none⟩) m.refs.length fc, .slice na nn nc] 26)).alloc (.cells #[.int .i64 0, .slice none 0 0, .slice none 0 0, .slice none 0 0, .slice none 0 0] 26)) w') ∧ Hid (KeepX ((w.alloc (.cells #[.int .i64 gm, .slice (some ⟨rg, 0, none⟩) m.root.length rc, .slice (some ⟨sg, 0, none⟩) m.slots.length sc, .slice (some ⟨fg, 0, none⟩) m.refs.length fc, .slice na nn nc] 26)).alloc (.cells #[.int .i64 0, .slice none 0 0, .slice none 0 0, .slice none 0 0, .slice none 0 0] 26)) w' m val) ∧ Hid (SrcX ((w.alloc (.cells #[.int .i64 gm, .slice (some ⟨rg, 0, none⟩) m.root.length rc, .slice (some ⟨sg, 0, none⟩) m.slots.length sc, .slice (some ⟨fg, 0, none⟩) m.refs.length fc, .slice na nn nc] 26)).alloc (.cells #[.int .i64 0, .slice none 0 0, .slice none 0 0, .slice none 0 0, .slice none 0 0] 26)) m val (.slice ea en ec) { m with slots := layS m.slots (grabN m.slots) (2, ⟨#[]⟩, es) } val2) := by
    have eI : imgV gm val = .agg #[.int .i64 gm, .slice (some ⟨rg, 0, none⟩) m.root.length rc, .slice (some ⟨sg, 0, none⟩) m.slots.length sc, .slice (some ⟨fg, 0, none⟩) m.refs.length fc, .slice na nn nc] := by unfold imgV; rw [e0, e1, e2, e3]
    have h := layX_is gm (k := 2) (d := ⟨#[]⟩) hA (by simp <;> omega) hgn.2 (by omega) ((he.alloc _).alloc _) hfar
    rw [eI] at h
    refine h.mono ?_
    rintro r w' ⟨val2, rfl, h1, h2, h3, h5, h4⟩
    obtain ⟨sa2, sc2, es2, _⟩ := h1.forms .slots (LiveX.slots _)
    have r2 := (h4 .root (by intro x; cases x) (by intro x; cases x)).trans e0
    have i2 : imgV gm val2 = .agg #[.int .i64 gm, .slice (some ⟨rg, 0, none⟩) m.root.length rc, .slice sa2 (layS m.slots (grabN m.slots) (2, ⟨#[]⟩, es)).length sc2, .slice (some ⟨fg, 0, none⟩) m.refs.length fc, .slice na nn nc] := by
      have es2 : val2 .slots = .slice sa2 (layS m.slots (grabN m.slots) (2, ⟨#[]⟩, es)).length sc2 := es2
      unfold imgV
      rw [r2, es2, h4 .refs (by intro x; cases x) (by intro x; cases x), e2, h4 .snaps (by intro x; cases x) (by intro x; cases x), e3]
    exact ⟨sa2, _, sc2, val2, by rw [i2], ⟨h1, i2, r2⟩, h2, h3, h5⟩
  have hn0 : ¬ (grabN m.slots : Int) = 0 := by omega
  have hn0' : ((grabN m.slots : Int) == 0) = false := by simp; omega
  have hf0 : ∀ a, LiveX m a → (val a).ownBlock ≠ some w.heap.size := hO.lt (Nat.le_refl _)
  have hf1 : ∀ a, LiveX m a → (val a).ownBlock ≠ some (w.heap.size + 1) := hO.lt (by omega)
  obtain ⟨n, hn⟩ : ∃ n, n = grabN m.slots := ⟨_, rfl⟩
  rw [← hn] at hcall hG hn0 hn0'
  have HN : Hid (n = grabN m.slots) := hn
  clear ht htab hn
  go_enter Try.func70, Try.ntmps70
  go_wp2_with (first | (go_at_call 96; refine (bareIn_any _ es _ hE0).mono ?_; rintro e w' ⟨rfl, hw⟩; rw [hw, hb]; clear hw) | (go_at_call 61; refine hG.mono ?_; rintro e w' ⟨rfl, hw⟩; rw [hw]; clear hw) | (go_at_call 62; refine hcall.mono ?_; rintro e w2 ⟨sa2, sn2, sc2, val2, rfl, H2, hb2, hk2, hv2⟩; have q0 := (hk2.out w.heap.size (by simp <;> omega) hf0).trans m0; have q1 := (hk2.out (w.heap.size + 1) (by simp <;> omega) hf1).trans m2; obtain ⟨p0, p1, p2, p3, p4⟩ := five q0; obtain ⟨o0, o1, o2, o3, o4⟩ := five q1; have i0 := cells_frozen q0 0; have i1 := cells_frozen q0 1; have i2 := cells_frozen q0 2; have i3 := cells_frozen q0 3; have i4 := cells_frozen q0 4; have j0 := cells_frozen q1 0; have j1 := cells_frozen q1 1; have j2 := cells_frozen q1 2; have j3 := cells_frozen q1 3; have j4 := cells_frozen q1 4; have hrw : w2.ownsRow B 3 1 (.slice (some ⟨rg, 0, none⟩) m.root.length rc) m.root.length (ints m.root) := (by have := H2.out.1.row .root (LiveX.root _); rw [H2.out.2.2] at this; exact this); have l0 := root_cell hrw hk; have l1 := hrw.frozenAt k))
  have hn : n = grabN m.slots := HN.out
  subst hn
  have hv : ∀ q, w.heap.size ≤ q → (Value.slice ea en ec).ownBlock ≠ some q := fun q hq e => by have := (he.lt q e).2; omega
  have hfa := hv2.out w.heap.size (by simp <;> omega) (hv _ (Nat.le_refl _)) hf0
  have hfb := hv2.out (w.heap.size + 1) (by simp <;> omega) (hv _ (by omega)) hf1
  have hq1 : OX _ B val2 _ := ((((H2.out.1.far (i := 0) (u := .int .i64 gm) hfa).far (i := 1) (u := .slice (some ⟨rg, 0, none⟩) m.root.length rc) hfa).far (i := 2) (u := .slice sa2 sn2 sc2) hfa).far (i := 3) (u := .slice (some ⟨fg, 0, none⟩) m.refs.length fc) hfa).far (i := 4) (u := .slice na nn nc) hfa
  have hq2 := hq1.setRoot H2.out.2.2 k (grabN m.slots : Int)
  have hq3 := ((((hq2.far (i := 0) (u := .int .i64 gm) hfb).far (i := 1) (u := .slice (some ⟨rg, 0, none⟩) m.root.length rc) hfb).far (i := 2) (u := .slice sa2 sn2 sc2) hfb).far (i := 3) (u := .slice (some ⟨fg, 0, none⟩) m.refs.length fc) hfb).far (i := 4) (u := .slice na nn nc) hfb
  have hB0 : B ≤ w.heap.size + 1 := by omega
  have bb := ((((((((((((bB.trans hb2.out).setCell hB (p := ⟨w.heap.size, 0, none⟩) (.int .i64 gm)).setCell hB (p := ⟨w.heap.size, 1, none⟩) (.slice (some ⟨rg, 0, none⟩) m.root.length rc)).setCell hB (p := ⟨w.heap.size, 2, none⟩) (.slice sa2 sn2 sc2)).setCell hB (p := ⟨w.heap.size, 3, none⟩) (.slice (some ⟨fg, 0, none⟩) m.refs.length fc)).setCell hB (p := ⟨w.heap.size, 4, none⟩) (.slice na nn nc)).setCell hrl.1 (p := ⟨rg, k, none⟩) (.int .i64 (grabN m.slots : Int))).setCell hB0 (p := ⟨w.heap.size + 1, 0, none⟩) (.int .i64 gm)).setCell hB0 (p := ⟨w.heap.size + 1, 1, none⟩) (.slice (some ⟨rg, 0, none⟩) m.root.length rc)).setCell hB0 (p := ⟨w.heap.size + 1, 2, none⟩) (.slice sa2 sn2 sc2)).setCell hB0 (p := ⟨w.heap.size + 1, 3, none⟩) (.slice (some ⟨fg, 0, none⟩) m.refs.length fc)).setCell hB0 (p := ⟨w.heap.size + 1, 4, none⟩) (.slice na nn nc))
  have k0 : KeepX w w2 m val := fun q hq hn => (hk2.out q (by simp <;> omega) hn).trans ((((KeepX.refl w m val).alloc (Nat.le_refl _) _).alloc (by simp) _) q hq hn)
  refine bodyPost_ret (v := .tuple #[.agg #[.int .i64 gm, .slice (some ⟨rg, 0, none⟩) m.root.length rc, .slice sa2 sn2 sc2, .slice (some ⟨fg, 0, none⟩) m.refs.length fc, .slice na nn nc], .bool true]) (by simp [results, Try.results70, go_sem, o0, o1, o2, o3, o4]) rfl ⟨val2, by rw [H2.out.2.1], hq3, bb, (((((((((((k0.new (Nat.le_refl _)).new (Nat.le_refl _)).new (Nat.le_refl _)).new (Nat.le_refl _)).new (Nat.le_refl _)).own (LiveX.root m) e0).new (by omega)).new (by omega)).new (by omega)).new (by omega)).new (by omega)), fun q hq hev' hm => hv2.out q (by simp <;> omega) hev' hm⟩


theorem tabledX_is {m : ImgD} (gm : Int) {k t : Nat} {ev : Value} {es : List Int} {B : Nat} {val : Nm → Value} {w : World} (hO : OX w B val m) (hB : B ≤ w.heap.size) (hk : k < m.root.length) (ht : m.root.getD k 0 = (t : Int)) (htl : t < m.slots.length)
    (he : w.ownsRow B 3 1 ev es.length (ints es)) (hfar : ∀ a, FarX m val a ev) (hrf : m.refs.length = m.slots.length) (hs40 : m.slots.length ≤ 40) :
    Calls Try.prog 70 #[imgV gm val, .int .i64 (k : Int), ev] w fun r w' => (bareL es = false ∧ tabN m k = 40 ∧ (∃ v, FiveV v ∧ r = .returned (.tuple #[v, .bool false])) ∧ Below B w w' ∧ KeepX w w' m val) ∨
      (¬ (bareL es = false ∧ tabN m k = 40) ∧ ∃ val', r = .returned (.tuple #[imgV gm val', .bool true]) ∧ OX w' B val' (tabledM m k es) ∧ Below B w w' ∧ KeepX w w' m val ∧ SrcX w m val ev (tabledM m k es) val') := by
  obtain ⟨ra, rc, e0, h0⟩ := hO.forms .root (LiveX.root m)
  obtain ⟨sa, sc, e1, h1⟩ := hO.forms .slots (LiveX.slots m)
  obtain ⟨fa, fc, e2, h2⟩ := hO.forms .refs (LiveX.refs m)
  obtain ⟨na, nc, e3, _⟩ := hO.forms .snaps (LiveX.snaps m)
  obtain ⟨rg, rfl⟩ := h0 (by show 0 < m.root.length; omega)
  obtain ⟨sg, rfl⟩ := h1 (by show 0 < m.slots.length; omega)
  obtain ⟨fg, rfl⟩ := h2 (by show 0 < m.refs.length; omega)
  have e0 : val .root = .slice (some ⟨rg, 0, none⟩) m.root.length rc := e0
  have e1 : val .slots = .slice (some ⟨sg, 0, none⟩) m.slots.length sc := e1
  have e2 : val .refs = .slice (some ⟨fg, 0, none⟩) m.refs.length fc := e2
  have hev : ∃ ea en ec, ev = .slice ea en ec := by
    rcases row_form he with ⟨e, _⟩ | ⟨g, cap, e, _⟩
    · exact ⟨_, _, _, e⟩
    · exact ⟨_, _, _, e⟩
  obtain ⟨ea, en, ec, rfl⟩ := hev
  have eI : imgV gm val = .agg #[.int .i64 gm, .slice (some ⟨rg, 0, none⟩) m.root.length rc, .slice (some ⟨sg, 0, none⟩) m.slots.length sc, .slice (some ⟨fg, 0, none⟩) m.refs.length fc, .slice na (rowN m .snaps) nc] := by unfold imgV; rw [e0, e1, e2, e3]
  rw [eI]
  by_cases hb : bareL es = true
  · refine (tabledX_bare m gm rg rc _ _ sc _ _ fc na _ nc k t ea en ec es B val w hO e0 e1 e2 e3 hB hk ht he hb).mono ?_
    rintro r w' ⟨val', rfl, g1, g2, g3, g4⟩
    refine .inr ⟨fun x => by rw [hb] at x; exact absurd x.1 (by decide), val', rfl, ?_, g2, g3, ?_⟩
    · unfold tabledM; rw [if_pos hb]; exact g1
    · unfold tabledM; rw [if_pos hb]; exact g4
  have hb' : bareL es = false := by simpa using hb
  have hM : tabledM m k es = { m with root := m.root.set k (tabN m k : Int), slots := tabL m k es } := by unfold tabledM; rw [if_neg hb]
  have hin : inPl m k = (((t : Int) != 0) && m.refs.getD t 0 == 1) := by unfold inPl; rw [ht]; simp
  by_cases hp : inPl m k = true
  · have hp' := hp
    rw [hin, Bool.and_eq_true] at hp'
    have ht1 : 1 ≤ t := by have := hp'.1; simp at this; omega
    have hn : tabN m k = t := by unfold tabN; rw [if_pos hp, ht]; simp
    refine (tabledX_place m gm rg rc sg sc fg fc na _ nc k t ea en ec es B val w hO e0 e1 e2 e3 hB hk ht he (hfar _) hb' ht1 htl hrf (by simpa using hp'.2)).mono ?_
    rintro r w' ⟨val', rfl, g1, g2, g3, g4⟩
    have hq : tabledM m k es = { m with slots := m.slots.set t (2, ⟨#[]⟩, es) } := by
      rw [hM]
      unfold tabL layS
      rw [hn, if_neg (by omega), set_same m.root k t ht hk]
    exact .inr ⟨fun x => by have := x.2; omega, val', rfl, by rw [hq]; exact g1, g2, g3, by rw [hq]; exact g4⟩
  · have hn : tabN m k = grabN m.slots := by unfold tabN; rw [if_neg hp]
    have hq : tabledM m k es = { m with root := m.root.set k (grabN m.slots : Int), slots := layS m.slots (grabN m.slots) (2, ⟨#[]⟩, es) } := by rw [hM]; unfold tabL; rw [hn]
    rw [hn]
    by_cases ht0 : t = 0
    · subst ht0
      by_cases hg : grabN m.slots = 40
      · refine (tabledX_full0 m gm rg rc sg sc fg fc na _ nc k ea en ec es B val w hO e0 e1 e2 e3 hB hk ht he hb' (by omega) hs40 hg).mono ?_
        rintro r w' ⟨v, hv5, rfl, g1, g2⟩
        exact .inl ⟨hb', hg, ⟨v, hv5, rfl⟩, g1, g2⟩
      · refine (tabledX_grab0 m gm rg rc sg sc fg fc na _ nc k ea en ec es B val w hO e0 e1 e2 e3 hB hk ht he (hfar _) hb' (by omega) hs40 hg).mono ?_
        rintro r w' ⟨val', rfl, g1, g2, g3, g4⟩
        exact .inr ⟨fun x => hg x.2, val', rfl, by rw [hq]; exact g1, g2, g3, by rw [hq]; exact g4⟩
    · have h1r : m.refs.getD t 0 ≠ 1 := fun e => hp (by rw [hin, e]; simp; omega)
      by_cases hg : grabN m.slots = 40
      · refine (tabledX_full1 m gm rg rc sg sc fg fc na _ nc k t ea en ec es B val w hO e0 e1 e2 e3 hB hk ht (by omega) htl hrf h1r he hb' (by omega) hs40 hg).mono ?_
        rintro r w' ⟨v, hv5, rfl, g1, g2⟩
        exact .inl ⟨hb', hg, ⟨v, hv5, rfl⟩, g1, g2⟩
      · refine (tabledX_grab1 m gm rg rc sg sc fg fc na _ nc k t ea en ec es B val w hO e0 e1 e2 e3 hB hk ht (by omega) htl hrf h1r he (hfar _) hb' (by omega) hs40 hg).mono ?_
        rintro r w' ⟨val', rfl, g1, g2, g3, g4⟩
        exact .inr ⟨fun x => hg x.2, val', rfl, by rw [hq]; exact g1, g2, g3, by rw [hq]; exact g4⟩
end Go.Proofs.Ytehleeibgkpjmac
/- Slices of strings: what it means that a slice value holds them in a world. -/
namespace Go.Proofs.Ytehleeibgkpjmac
open Go.RowKit
set_option maxRecDepth 20000

/-- The slice value v holds the strings xs in the world w. -/
def Ss (w : World) (v : Value) (xs : List ByteArray) : Prop :=
  ∃ ao cap, v = .slice ao xs.length cap ∧ xs.length ≤ maxLen ∧ xs.length ≤ cap ∧ (xs ≠ [] → ∃ b off, ao = some ⟨b, off, none⟩ ∧ b < w.heap.size ∧ ∀ j, j < xs.length → w.cell? ⟨b, off + j, none⟩ = some (.string (xs.getD j ByteArray.empty)))

theorem Ss.below {w w1 : World} {v : Value} {xs : List ByteArray} (h : Ss w v xs) (hb : Below w.heap.size w w1) : Ss w1 v xs := by
  obtain ⟨ao, cap, hv, hm, hcp, hc⟩ := h
  refine ⟨ao, cap, hv, hm, hcp, fun hne => ?_⟩
  obtain ⟨b, off, ha, hlt, hcell⟩ := hc hne
  exact ⟨b, off, ha, Nat.lt_of_lt_of_le hlt hb.size, fun j hj => (hb.cell (p := ⟨b, off + j, none⟩) hlt).trans (hcell j hj)⟩

theorem Ss.nil (w : World) : Ss w (.slice none 0 0) [] := ⟨none, 0, rfl, Nat.zero_le _, Nat.zero_le _, fun h => absurd rfl h⟩

theorem Ss.cells {w : World} {ao : Option Addr} {n cap : Nat} {xs : List ByteArray} (h : Ss w (.slice ao n cap) xs) :
    xs.length = n ∧ n ≤ 9223372036854775807 ∧ n ≤ cap ∧ ∀ j, j < n → ∃ b off, ao = some ⟨b, off, none⟩ ∧ b < w.heap.size ∧ w.cell? ⟨b, off + j, none⟩ = some (.string (xs.getD j ByteArray.empty)) := by
  obtain ⟨ao', cap', hv, hm, hcp, hc⟩ := h
  simp only [Value.slice.injEq] at hv
  obtain ⟨rfl, rfl, rfl⟩ := hv
  unfold maxLen at hm
  refine ⟨rfl, by omega, hcp, fun j hj => ?_⟩
  obtain ⟨b, off, rfl, hlt, hcell⟩ := hc (by intro e; rw [e] at hj; simp at hj)
  exact ⟨b, off, rfl, hlt, hcell j hj⟩

theorem Ss.form {w : World} {v : Value} {xs : List ByteArray} (h : Ss w v xs) : ∃ ao cap, v = .slice ao xs.length cap := by
  obtain ⟨ao, cap, hv, _⟩ := h; exact ⟨ao, cap, hv⟩

theorem Ss.at {w : World} {ao : Option Addr} {n cap : Nat} {xs : List ByteArray} (h : Ss w (.slice ao n cap) xs) (hpos : 0 < n) :
    ∃ b off, ao = some ⟨b, off, none⟩ ∧ b < w.heap.size ∧ ∀ j, j < n → w.cell? ⟨b, off + j, none⟩ = some (.string (xs.getD j ByteArray.empty)) := by
  obtain ⟨ao', cap', hv, hm, hcp, hc⟩ := h
  simp only [Value.slice.injEq] at hv
  obtain ⟨rfl, rfl, rfl⟩ := hv
  exact hc (by intro e; rw [e] at hpos; simp at hpos)

theorem Ss_of_own {w : World} {base : Nat} {g n cap : Nat} {xs : List ByteArray} (h : w.ownsRow base 9 1 (.slice (some ⟨g, 0, none⟩) n cap) n (xs.map Value.string)) : Ss w (.slice (some ⟨g, 0, none⟩) n cap) xs := by
  have hl : xs.length = n := by have := h.1; simpa using this
  have hc := fun j => h.cellAt j
  obtain ⟨_, h2⟩ := h
  rcases h2 with ⟨h', _⟩ | ⟨g', cap', cur, h', _, hg, hnc, hcm, _, _⟩
  · simp at h'
  · simp only [Value.slice.injEq, Option.some.injEq, Addr.mk.injEq, and_true, true_and] at h'
    obtain ⟨rfl, rfl⟩ := h'
    refine ⟨_, cap, by rw [hl], by rw [hl]; exact Nat.le_trans hnc hcm, by rw [hl]; exact hnc, fun _ => ⟨g, 0, rfl, (Array.getElem?_eq_some_iff.1 hg).1, fun j hj => ?_⟩⟩
    rw [Nat.zero_add, hc j (by omega)]
    simp [List.getD, hj]

theorem owns_cell {w : World} {base g n cap : Nat} {xs : List ByteArray} (h : w.ownsRow base 9 1 (.slice (some ⟨g, 0, none⟩) n cap) n (xs.map Value.string)) (k : Nat) (hk : k < n) : ∃ u, w.cell? ⟨g, k, none⟩ = some u := by
  rw [h.cellAt k (by omega)]
  have hl : xs.length = n := by have := h.1; simpa using this
  exact ⟨.string (xs[k]), by simp [show k < xs.length by omega]⟩
theorem owns_put {w : World} {base g n cap : Nat} {xs : List ByteArray} (h : w.ownsRow base 9 1 (.slice (some ⟨g, 0, none⟩) n cap) n (xs.map Value.string)) (k : Nat) (e : ByteArray) :
    (w.setCell ⟨g, k, none⟩ (.string e)).ownsRow base 9 1 (.slice (some ⟨g, 0, none⟩) n cap) n ((xs.set k e).map Value.string) := by
  have := (h.stored k (.string e)).1
  rw [List.map_set]; exact this
theorem owns_ge {w : World} {base g n cap : Nat} {xs : List Value} (h : w.ownsRow base 9 1 (.slice (some ⟨g, 0, none⟩) n cap) n xs) : base ≤ g := (h.lt g rfl).1

theorem Ss_new (w : World) (xs : List ByteArray) (n : Nat) (hn : xs.length = n) (hm : n ≤ maxLen) : Ss (w.alloc (.cells (xs.map Value.string).toArray 9)) (.slice (some ⟨w.heap.size, 0, none⟩) n n) xs := by
  subst hn
  refine ⟨_, _, rfl, hm, Nat.le_refl _, fun _ => ⟨w.heap.size, 0, rfl, by simp, fun j hj => ?_⟩⟩
  rw [Nat.zero_add, World.cell?_alloc_at _ _ _ _ rfl]
  simp [List.getD, hj]
theorem Ss.past {w : World} {v : Value} {xs : List ByteArray} (h : Ss w v xs) (o : Obj) : Ss (w.alloc o) v xs := h.below ((Below.refl _ _).alloc (Nat.le_refl _) o)


theorem owns_below {w w1 : World} {B : Nat} {v : Value} {n : Nat} {xs : List Value} (h : w.ownsRow B 9 1 v n xs) (hb : Below w.heap.size w w1) : w1.ownsRow B 9 1 v n xs := by
  refine ⟨h.1, ?_⟩
  rcases h.2 with h' | ⟨g, cap, cur, hv, hg, hh, r⟩
  · exact .inl h'
  · exact .inr ⟨g, cap, cur, hv, hg, (hb.block g (Array.getElem?_eq_some_iff.1 hh).1).trans hh, r⟩
theorem Below.on'' {B : Nat} {w w1 w2 : World} (h : Below B w w1) (k : Below w1.heap.size w1 w2) (hB : B ≤ w1.heap.size) : Below B w w2 := h.trans (k.mono hB)

theorem row_cell {w : World} {b k : Nat} {ys : List ByteArray} {T : TypeId} (h : w.heap[b]? = some (.cells (ys.map Value.string).toArray T (0, 0))) (hk : k < ys.length) : ∃ u, w.cell? ⟨b, k, none⟩ = some u := by
  rw [cell_of_row _ _ _ _ _ _ h]
  exact ⟨.string ys[k], by simp [hk]⟩

/-- Check's answer, of pages. -/
def ckP (xs : List ByteArray) : Int := if xs.length ≤ 16 then (if xs.all (fun p => decide (p.size = 4)) = true then 0 else 1) else 2
theorem ckP_many {xs : List ByteArray} (h : ¬ xs.length ≤ 16) : ckP xs = 2 := by unfold ckP; rw [if_neg h]
theorem ckP_bad {xs : List ByteArray} (h : xs.length ≤ 16) {j : Nat} (hj : j < xs.length) (hb : (xs.getD j ByteArray.empty).size ≠ 4) : ckP xs = 1 := by
  unfold ckP
  rw [if_pos h, if_neg]
  intro ha
  rw [List.all_eq_true] at ha
  have := ha _ (List.getElem_mem hj)
  simp [List.getD, hj] at hb
  simp [hb] at this
theorem ckP_ok {xs : List ByteArray} (h : xs.length ≤ 16) (ha : ∀ j, j < xs.length → (xs.getD j ByteArray.empty).size = 4) : ckP xs = 0 := by
  unfold ckP
  rw [if_pos h, if_pos]
  rw [List.all_eq_true]
  intro x hx
  obtain ⟨j, hj, rfl⟩ := List.getElem_of_mem hx
  have := ha j hj
  simpa [List.getD, hj] using this
theorem ckP_parts {xs : List ByteArray} (h : ckP xs = 0) : xs.length ≤ 16 ∧ ∀ x ∈ xs, x.size = 4 := by
  unfold ckP at h
  split at h
  · rename_i g
    split at h
    · rename_i g'
      rw [List.all_eq_true] at g'
      exact ⟨g, fun x hx => by simpa using g' x hx⟩
    · simp at h
  · simp at h
theorem ckP_012 (xs : List ByteArray) : ckP xs = 0 ∨ ckP xs = 1 ∨ ckP xs = 2 := by
  unfold ckP
  split
  · split <;> simp
  · simp
end Go.Proofs.Ytehleeibgkpjmac
/- Flat images, plainly: what Read, Write and Resize answer, over lists of pages. -/
namespace Go.Proofs.Ytehleeibgkpjmac
open Go.RowKit
set_option maxRecDepth 20000

def atE (xs : List ByteArray) (n : Int) : Int := if ckP xs = 0 then (if 0 ≤ n ∧ n < (xs.length : Int) then 0 else 3) else ckP xs
def freadA (xs : List ByteArray) (n : Int) : ByteArray := if atE xs n = 0 then xs.getD n.toNat ByteArray.empty else ByteArray.empty
def fwE (xs : List ByteArray) (n : Int) (page : ByteArray) : Int := if atE xs n = 0 then (if page.size = 4 then 0 else 1) else atE xs n
def fwA (xs : List ByteArray) (n : Int) (page : ByteArray) : List ByteArray := if fwE xs n page = 0 then xs.set n.toNat page else []
def frE (xs : List ByteArray) (g : Int) : Int := if ckP xs = 0 then (if 0 ≤ g ∧ g ≤ 16 then 0 else 3) else ckP xs
def frR (xs : List ByteArray) (g : Nat) : List ByteArray := xs.take g ++ List.replicate (g - xs.length) Z4
def frA (xs : List ByteArray) (g : Int) : List ByteArray := if frE xs g = 0 then frR xs g.toNat else []

theorem atE_parts {xs : List ByteArray} {n : Int} (h : atE xs n = 0) : ckP xs = 0 ∧ 0 ≤ n ∧ n < (xs.length : Int) := by
  unfold atE at h
  split at h
  · rename_i h0
    split at h
    · rename_i h1; exact ⟨h0, h1⟩
    · simp at h
  · exact absurd h (by assumption)
theorem frR_length (xs : List ByteArray) (g : Nat) : (frR xs g).length = g := by unfold frR; simp; omega
theorem frR_all (xs : List ByteArray) : frR xs xs.length = xs := by unfold frR; simp

/-- c pages as they were, then Zero up to place k, then nothing yet up to n. -/
def rowF (xs : List ByteArray) (c n k : Nat) : List ByteArray := xs.take c ++ List.replicate (k - c) Z4 ++ List.replicate (n - k) ByteArray.empty
theorem rowF_length {xs : List ByteArray} {c n k : Nat} (hc : c ≤ xs.length) (hk : c ≤ k) (hn : k ≤ n) : (rowF xs c n k).length = n := by unfold rowF; simp; omega
theorem rowF_step {xs : List ByteArray} {c n k : Nat} (hc : c ≤ xs.length) (hk : c ≤ k) (hn : k < n) : (rowF xs c n k).set k Z4 = rowF xs c n (k + 1) := by
  unfold rowF
  have hl : (xs.take c ++ List.replicate (k - c) Z4).length = k := by simp; omega
  rw [List.set_append_right _ _ (by omega), hl, Nat.sub_self]
  obtain ⟨d, hd⟩ : ∃ d, n - k = d + 1 := ⟨n - k - 1, by omega⟩
  rw [hd, List.replicate_succ, List.set_cons_zero, show n - (k + 1) = d by omega, show k + 1 - c = (k - c) + 1 by omega, List.replicate_succ', List.append_assoc, List.append_assoc, List.append_assoc]
  rfl
theorem rowF_end {xs : List ByteArray} {n : Nat} : rowF xs (min xs.length n) n n = frR xs n := by
  unfold rowF frR
  rw [Nat.sub_self, List.replicate_zero, List.append_nil]
  congr 1
  · rw [Nat.min_comm, List.take_eq_take_iff]; omega
  · congr 1; omega
end Go.Proofs.Ytehleeibgkpjmac
/- Resizing: what comes is right, and how it is read; the answers of Write, Wipe, Punch, Resize. Plain lists. -/
namespace Go.Proofs.Ytehleeibgkpjmac
open Go.RowKit Go.Shelf
set_option maxRecDepth 20000

def rerootD (M : ImgD) (g : Nat) : ImgD := { M with guest := (g : Int), root := (M.root ++ List.replicate ((g + 3) / 4 - M.root.length) 0).take ((g + 3) / 4) }
def cutD (m : ImgD) (g : Nat) : Option ImgD :=
  if g % 4 ≠ 0 ∧ g / 4 < m.root.length ∧ cutR (tableO m (g / 4)) (g % 4) ≠ tableO m (g / 4) then tabledD m (g / 4) (cutR (tableO m (g / 4)) (g % 4)) else some m
def resizeD (m : ImgD) (g : Nat) : Option ImgD := (cutD m g).map (fun M => countedD (rerootD M g))

theorem reroot_get (M : ImgD) (g j : Nat) (hj : j < (g + 3) / 4) : (rerootD M g).root.getD j 0 = M.root.getD j 0 := by
  show ((M.root ++ List.replicate ((g + 3) / 4 - M.root.length) 0).take ((g + 3) / 4)).getD j 0 = _
  simp only [List.getD, List.getElem?_take, hj, if_true]
  rw [List.getElem?_append]
  split
  · rfl
  · rename_i h
    rw [List.getElem?_eq_none (l := M.root) (by omega), List.getElem?_replicate]
    split <;> rfl
theorem reroot_length (M : ImgD) (g : Nat) : (rerootD M g).root.length = (g + 3) / 4 := by
  show ((M.root ++ List.replicate ((g + 3) / 4 - M.root.length) 0).take ((g + 3) / 4)).length = _
  simp; omega
theorem reroot_mem {M : ImgD} {g : Nat} {x : Int} (h : x ∈ (rerootD M g).root) : x = 0 ∨ x ∈ M.root := by
  have h : x ∈ M.root ++ List.replicate ((g + 3) / 4 - M.root.length) 0 := List.mem_of_mem_take h
  rcases List.mem_append.1 h with h | h
  · exact .inr h
  · exact .inl (List.mem_replicate.1 h).2

theorem cutR_get {es : List Int} (h4 : es.length = 4) {n : Nat} (hn : n ≤ 4) (i : Nat) : (cutR es n).getD i 0 = if i < n then es.getD i 0 else 0 := by
  unfold cutR
  simp only [List.getD]
  rw [List.getElem?_append, List.length_take]
  by_cases h : i < n
  · rw [if_pos (by omega), if_pos h, List.getElem?_take, if_pos h]
  · rw [if_neg (by omega), if_neg h, List.getElem?_replicate]
    split <;> rfl
theorem cutR_mem {es : List Int} {n : Nat} {x : Int} (h : x ∈ cutR es n) : x ∈ es ∨ x = 0 := by
  unfold cutR at h
  rcases List.mem_append.1 h with h | h
  · exact .inl (List.mem_of_mem_take h)
  · exact .inr (List.mem_replicate.1 h).2
theorem cutR_ck' {es : List Int} (h : ckE es = 0) {n : Nat} (hn : n ≤ 4) : ckE (cutR es n) = 0 := by
  refine ckE_yes (by unfold cutR; simp; have := ckE_len h; omega) ?_
  rw [List.all_eq_true]
  intro x hx
  rcases cutR_mem hx with hm | hm
  · exact List.all_eq_true.1 (ckE_all h) x hm
  · rw [hm]; rfl
theorem drop_zero {es : List Int} {i : Nat} (h : ∀ j, i ≤ j → j < es.length → es.getD j 0 = 0) : (es.drop i).all (fun e => e == 0) = true := by
  rw [List.all_eq_true]
  intro x hx
  obtain ⟨j, hj, rfl⟩ := List.getElem_of_mem hx
  rw [List.getElem_drop]
  simp at hj
  have := h (i + j) (by omega) (by omega)
  rw [getD_at (by omega)] at this
  simpa using this
theorem of_drop_zero {es : List Int} {i : Nat} (h : (es.drop i).all (fun e => e == 0) = true) {j : Nat} (h1 : i ≤ j) : es.getD j 0 = 0 := by
  rcases Nat.lt_or_ge j es.length with hj | hj
  · have hm : es[j] ∈ es.drop i := by
      rw [List.mem_iff_getElem]
      refine ⟨j - i, by simp; omega, ?_⟩
      rw [List.getElem_drop]; congr 1; omega
    have := List.all_eq_true.1 h _ hm
    rw [getD_at hj]; simpa using this
  · simp [List.getD, Nat.not_lt.2 hj]
theorem cut_tail {m : ImgD} {k : Nat} {es : List Int} (h : TailZ m k es) (h4 : es.length = 4) {n : Nat} (hn : n ≤ 4) : TailZ m k (cutR es n) := by
  intro h1 h2
  have := h h1 h2
  refine drop_zero fun j hj hl => ?_
  rw [cutR_get h4 hn]
  split
  · exact of_drop_zero this hj
  · rfl

/-- The table is cut. -/
theorem cut_laid {m : ImgD} (hC : checkE m = 0) {g : Nat} {M : ImgD} (hM : cutD m g = some M) : (∃ es, Laid m M (g / 4) es ∧ (g / 4 < m.root.length → ∀ i, es.getD i 0 = if g % 4 = 0 ∨ i < g % 4 then (tableO m (g / 4)).getD i 0 else 0)) ∧ M.slots.length ≤ m.slots.length + 1 := by
  have h := checkE_shape hC
  unfold cutD at hM
  split at hM
  · rename_i hc
    obtain ⟨h1, h2, h3⟩ := hc
    obtain ⟨ock, oent⟩ := tableO_ok h h2
    have h4 := ckE_len ock
    obtain ⟨hL, hlen⟩ := tabled_laid hC h2 (cutR_ck' ock (by omega)) (fun e he => (cutR_mem he).elim (fun hm => oent e hm) (fun hm => by rw [hm]; rfl)) (cut_tail (tableO_tail h _) h4 (by omega)) hM
    refine ⟨⟨_, hL, fun _ i => ?_⟩, hlen⟩
    rw [cutR_get h4 (by omega)]
    by_cases hi : i < g % 4
    · rw [if_pos hi, if_pos (.inr hi)]
    · rw [if_neg hi, if_neg (fun x => x.elim h1 hi)]
  · rename_i hc
    simp at hM
    subst hM
    refine ⟨⟨tableO m (g / 4), ⟨h, rfl, rfl, rfl, fun q hq => ?_, fun _ _ _ _ => rfl, fun _ _ => rfl⟩, fun hk i => ?_⟩, Nat.le_succ _⟩
    · by_cases e : q / 4 = g / 4
      · rw [if_pos e, ← e, ← lookV_tableO]
      · rw [if_neg e]
    · by_cases hg : g % 4 = 0
      · rw [if_pos (.inl hg)]
      · have hce : cutR (tableO m (g / 4)) (g % 4) = tableO m (g / 4) := Classical.byContradiction fun x => hc ⟨hg, hk, x⟩
        have h4 := ckE_len (tableO_ok h hk).1
        have e := cutR_get h4 (n := g % 4) (by omega) i
        rw [hce] at e
        by_cases hi : i < g % 4
        · rw [if_pos (.inr hi)]
        · rw [if_neg (fun x => x.elim hg hi), e, if_neg hi]

theorem tab_look {M : ImgD} {k i : Nat} (hz : M.root.getD k 0 ≠ 0) (hi : i < 4) : (tabOf M.slots (M.root.getD k 0)).getD i 0 = lookV M M.root (4 * k + i) := by
  unfold lookV
  have e1 : (4 * k + i) / 4 = k := by omega
  have e2 : (4 * k + i) % 4 = i := by omega
  rw [e1, e2, if_neg hz]

/-- Resize: what comes has the form. -/
theorem resize_shape {m : ImgD} (hC : checkE m = 0) {g : Nat} (hg : g ≤ 16) {M : ImgD} (hM : cutD m g = some M) : shapeE (rerootD M g) = 0 := by
  have h := checkE_shape hC
  obtain ⟨⟨es, hL, hes⟩, _⟩ := cut_laid hC hM
  have hrM := root_ok hL.shape
  refine reroot_shape hL.shape (by unfold guestOK; exact decide_eq_true (by omega)) ?_
  show rootFit M.slots (g : Int) (rerootD M g).root = true
  unfold rootFit
  simp only [Bool.and_eq_true, decide_eq_true_eq]
  refine ⟨by rw [reroot_length]; omega, ?_, ?_⟩
  · rw [List.all_eq_true]
    intro x hx
    rcases reroot_mem hx with e | e
    · rw [e]; rfl
    · exact List.all_eq_true.1 hrM.2 x e
  · unfold lastFit
    by_cases hg4 : g % 4 = 0
    · have : ((g : Int) % 4 == 0) = true := by simp; omega
      rw [this]; rfl
    · have hw : (g + 3) / 4 - 1 = g / 4 := by omega
      rw [reroot_length, hw, reroot_get M g _ (by omega)]
      have hgm : ((g : Int) % 4).toNat = g % 4 := by omega
      rw [hgm]
      by_cases hz : M.root.getD (g / 4) 0 = 0
      · rw [hz]; simp
      · have hk : g / 4 < M.root.length := by
          rcases Nat.lt_or_ge (g / 4) M.root.length with h' | h'
          · exact h'
          · exact absurd (by simp [List.getD, Nat.not_lt.2 h']) hz
        have hkm : g / 4 < m.root.length := by rw [← hL.rlen]; exact hk
        have hE := all_at hrM.2 hk
        rw [rootE_x hz] at hE
        have h4 := tab_len (shapeE_zero hL.shape).2.1 hE
        have : ((tabOf M.slots (M.root.getD (g / 4) 0)).drop (g % 4)).all (fun e => e == 0) = true := by
          refine drop_zero fun j hj hl => ?_
          rw [h4] at hl
          rw [tab_look hz hl, hL.look _ (by omega), if_pos (by omega), show (4 * (g / 4) + j) % 4 = j by omega, hes hkm, if_neg (by omega)]
        rw [this]; simp
theorem look_behind {m : ImgD} (h : shapeE m = 0) {q : Nat} (hq : m.guest ≤ (q : Int)) (hl : q / 4 < m.root.length) : lookV m m.root q = 0 := by
  have hr := root_ok h
  have hg := guest_ok h
  have hk : q / 4 = m.root.length - 1 := by omega
  have := tableO_tail h (q / 4) hk (by omega)
  rw [lookV_tableO]
  exact of_drop_zero this (by omega)
theorem reroot_look {M : ImgD} {g q : Nat} (hq : q < g) : lookV (rerootD M g) (rerootD M g).root q = lookV M M.root q := by
  unfold lookV
  rw [reroot_get M g _ (by omega)]
  rfl
/-- Resize: how it is read. -/
theorem resize_all {m : ImgD} (hC : checkE m = 0) {g : Nat} (hg : g ≤ 16) {M : ImgD} (hM : cutD m g = some M) : allV (countedD (rerootD M g)) = frR (allV m) g := by
  have h := checkE_shape hC
  have hsh := resize_shape hC hg hM
  obtain ⟨⟨es, hL, hes⟩, _⟩ := cut_laid hC hM
  have hr := root_ok h
  have hgm := guest_ok h
  have e1 : allV (countedD (rerootD M g)) = allP (rerootD M g) (rerootD M g).root g := by
    unfold allV
    rw [if_pos (counted_right hsh)]
    exact allP_counted hsh (s := (⟨#[]⟩, (rerootD M g).guest, (rerootD M g).root)) List.mem_cons_self
  have e2 : allV m = allP m m.root m.guest.toNat := by unfold allV; rw [if_pos hC]
  rw [e1, e2]
  unfold frR allP
  apply List.ext_getElem
  · simp; omega
  · intro q h1 h2
    have hq : q < g := by simpa using h1
    rw [List.getElem_map, List.getElem_range, reroot_look hq]
    show pageV M.slots _ = _
    have hlook : lookV M M.root q = lookV m m.root q := by
      rcases Nat.lt_or_ge (q / 4) m.root.length with hl | hl
      · rw [hL.look q hl]
        by_cases e : q / 4 = g / 4
        · rw [if_pos e, hes (by omega), if_pos (by omega), ← e, ← lookV_tableO]
        · rw [if_neg e]
      · unfold lookV
        have a : m.root.getD (q / 4) 0 = 0 := by simp [List.getD, Nat.not_lt.2 hl]
        have b : M.root.getD (q / 4) 0 = 0 := by rw [← hL.rlen] at hl; simp [List.getD, Nat.not_lt.2 hl]
        rw [a, b, if_pos rfl, if_pos rfl]
    rw [hlook]
    rcases Nat.lt_or_ge q m.guest.toNat with hlt | hge
    · rw [List.getElem_append_left (by simp; omega)]
      simp only [List.getElem_take, List.getElem_map, List.getElem_range]
      exact hL.page _ (lookV_ent h hr.2 q (by omega))
    · rw [List.getElem_append_right (by simp; omega)]
      simp only [List.getElem_replicate]
      have hz : lookV m m.root q = 0 := by
        rcases Nat.lt_or_ge (q / 4) m.root.length with hl | hl
        · exact look_behind h (by omega) hl
        · unfold lookV
          have a : m.root.getD (q / 4) 0 = 0 := by simp [List.getD, Nat.not_lt.2 hl]
          rw [a, if_pos rfl]
      rw [hz]; rfl
end Go.Proofs.Ytehleeibgkpjmac
/- What Write, Wipe, Punch and Resize answer, plain: it is right, how much greater it is, and how it is read. -/
namespace Go.Proofs.Ytehleeibgkpjmac
open Go.RowKit Go.Shelf
set_option maxRecDepth 20000

/-! ### In place: nobody else sees the page -/
theorem le_two {f : Nat → Nat} {a b : Nat} : ∀ {n : Nat}, a < n → b < n → a ≠ b → f a + f b ≤ ((List.range n).map f).sum
  | 0, h, _, _ => absurd h (by omega)
  | n + 1, ha, hb, hne => by
    rw [List.range_succ, List.map_append, List.sum_append]
    by_cases ea : a = n
    · have := le_sum (f := f) (n := n) (k := b) (by omega); subst ea; simp; omega
    · by_cases eb : b = n
      · have := le_sum (f := f) (n := n) (k := a) (by omega); subst eb; simp; omega
      · have := le_two (f := f) (a := a) (b := b) (n := n) (by omega) (by omega) hne; simp; omega
/-- Which table tells an entry that is looked at. -/
theorem look_by {m : ImgD} (h : shapeE m = 0) {root : List Int} (hall : root.all (rootE m.slots) = true) {q : Nat} (hl : q / 4 < root.length) {e : Nat} (e1 : 1 ≤ e) (hq : lookV m root q = (e : Int)) :
    ∃ j : Nat, root.getD (q / 4) 0 = (j : Int) ∧ (j : Int) ∈ root ∧ j < m.slots.length ∧ kd m.slots j = 2 ∧ q % 4 < (tabOf m.slots j).length ∧ (tabOf m.slots j).getD (q % 4) 0 = (e : Int) := by
  unfold lookV at hq
  by_cases hz : root.getD (q / 4) 0 = 0
  · rw [if_pos hz] at hq; omega
  rw [if_neg hz] at hq
  have hE := all_at hall hl
  have hE2 := hE
  rw [rootE_x hz] at hE2
  have h4 := tab_len (shapeE_zero h).2.1 hE2
  rcases rootE_cases hE with e0 | ⟨j, ej, hj, hk⟩
  · exact absurd e0 hz
  · refine ⟨j, ej, ?_, hj, hk, ?_, ?_⟩
    · rw [← ej, getD_at hl]; exact List.getElem_mem hl
    · rw [← ej]; omega
    · rw [← ej]; exact hq
theorem told_twice {m : ImgD} {e : Nat} (e1 : 1 ≤ e) (hc : cntI m.slots (flatR m) e = 1) {j i j' i' : Nat} (hj : j < m.slots.length) (hk : kd m.slots j = 2) (hm : (j : Int) ∈ flatR m) (hi : i < (tabOf m.slots j).length) (ht : (tabOf m.slots j).getD i 0 = (e : Int))
    (hj' : j' < m.slots.length) (hk' : kd m.slots j' = 2) (hm' : (j' : Int) ∈ flatR m) (hi' : i' < (tabOf m.slots j').length) (ht' : (tabOf m.slots j').getD i' 0 = (e : Int)) : j = j' ∧ i = i' := by
  unfold cntI at hc
  rw [if_neg (by omega)] at hc
  have hs : sumT m.slots (flatR m) (e : Int) ≤ 1 := by omega
  have t1 : toldT m.slots (flatR m) e j = (tabOf m.slots j).count (e : Int) := by unfold toldT; rw [if_pos ⟨hk, hm⟩]
  have t2 : toldT m.slots (flatR m) e j' = (tabOf m.slots j').count (e : Int) := by unfold toldT; rw [if_pos ⟨hk', hm'⟩]
  have c1 : 1 ≤ (tabOf m.slots j).count (e : Int) := List.count_pos_iff.2 (by rw [← ht, getD_at hi]; exact List.getElem_mem hi)
  have c2 : 1 ≤ (tabOf m.slots j').count (e : Int) := List.count_pos_iff.2 (by rw [← ht', getD_at hi']; exact List.getElem_mem hi')
  have ej : j = j' := Classical.byContradiction fun hne => by
    have := le_two (f := toldT m.slots (flatR m) e) hj hj' hne
    unfold sumT at hs
    omega
  subst ej
  refine ⟨rfl, Classical.byContradiction fun hne => ?_⟩
  have h2 : 2 ≤ (tabOf m.slots j).count (e : Int) := by
    rcases Nat.lt_or_ge i i' with hl | hl
    · exact count_two _ i i' hl hi' ht ht'
    · exact count_two _ i' i (by omega) hi ht' ht
  have := le_sum (f := toldT m.slots (flatR m) e) (n := m.slots.length) (k := j) hj
  unfold sumT at hs
  omega
/-- A page that is told once, by a table that is told once: nothing else is read there. -/
theorem inplace_only {m : ImgD} (hC : checkE m = 0) {n : Nat} (hn : (n : Int) < m.guest) (hi : wInPl m n = true) :
    ∃ e : Nat, lookV m m.root n = (e : Int) ∧ 1 ≤ e ∧ e < m.slots.length ∧ kd m.slots e = 1 ∧ (∀ q, q / 4 < m.root.length → q ≠ n → lookV m m.root q ≠ (e : Int)) ∧ ∀ s ∈ m.snaps, ∀ q, q / 4 < s.2.2.length → lookV m s.2.2 q ≠ (e : Int) := by
  obtain ⟨h, hcnt, _⟩ := checkE_zero hC
  have hr := root_ok h
  have hg := guest_ok h
  have hk : n / 4 < m.root.length := by omega
  unfold wInPl at hi
  simp only [Bool.and_eq_true, decide_eq_true_eq, beq_iff_eq] at hi
  obtain ⟨hpos, hin, hrf⟩ := hi
  rcases lookV_ent h hr.2 n hk with e0 | e0 | ⟨e, he, e1, el, ek⟩
  · omega
  · omega
  rw [he, Int.toNat_natCast, ← hcnt, cntL_get h e el] at hrf
  obtain ⟨j, ej, jm, hj, hjk, hjl, hjt⟩ := look_by h hr.2 hk e1 he
  have hin2 := hin
  unfold inPl at hin2
  simp only [Bool.and_eq_true, bne_iff_ne, beq_iff_eq] at hin2
  have hlone : Lone m (n / 4) j := by
    have hrf2 := hin2.2
    have j1 : 1 ≤ j := by have := hin2.1; omega
    rw [ej, Int.toNat_natCast, ← hcnt, cntL_get h j hj] at hrf2
    unfold cntI at hrf2
    rw [if_neg (by omega), sumT_no (shapeE_zero h).2.2.2.2.2.1 _ j1 (by rw [hjk]; decide)] at hrf2
    exact lone_one hk ej (by omega)
  have hjf : (j : Int) ∈ flatR m := by rw [flatR_app]; exact List.mem_append_left _ jm
  refine ⟨e, he, e1, el, ek, fun q hq hne hl => ?_, fun s hs q hq hl => ?_⟩
  · obtain ⟨j', ej', jm', hj', hjk', hjl', hjt'⟩ := look_by h hr.2 hq e1 hl
    obtain ⟨e2, e3⟩ := told_twice e1 hrf hj hjk hjf hjl hjt hj' hjk' (by rw [flatR_app]; exact List.mem_append_left _ jm') hjl' hjt'
    subst e2
    by_cases e4 : q / 4 = n / 4
    · exact hne (by omega)
    · exact hlone.root (q / 4) hq e4 ej'
  · have hfit := snap_fit h (List.mem_cons_of_mem _ hs)
    obtain ⟨j', ej', jm', hj', hjk', hjl', hjt'⟩ := look_by h hfit.2.2.2 hq e1 hl
    obtain ⟨e2, e3⟩ := told_twice e1 hrf hj hjk hjf hjl hjt hj' hjk' (by rw [flatR_app]; exact List.mem_append_right _ (by rw [List.mem_flatMap]; exact ⟨s, hs, jm'⟩)) hjl' hjt'
    subst e2
    exact hlone.snap s hs jm'
theorem page_setP {L : List SlotD} {e : Nat} {page : ByteArray} {x : Int} (hx : x ≠ (e : Int)) (hx0 : 0 ≤ x ∨ x ≤ 0) : pageV (L.set e (1, page, [])) x = pageV L x := by
  unfold pageV
  by_cases h : x ≤ 0
  · rw [if_pos h, if_pos h]
  · rw [if_neg h, if_neg h]
    have : e ≠ x.toNat := by omega
    simp [List.getD, this]
theorem page_at {L : List SlotD} {e : Nat} {page : ByteArray} (e1 : 1 ≤ e) (el : e < L.length) : pageV (L.set e (1, page, [])) (e : Int) = page := by
  unfold pageV
  rw [if_neg (by omega), Int.toNat_natCast]
  simp [List.getD, el]

/-- What an image that came of a write, wipe, punch is to the one ahead of it. -/
structure Wrote (m M : ImgD) (n : Nat) (page : ByteArray) (d : Nat) : Prop where
  right : checkE M = 0
  len : M.slots.length ≤ m.slots.length + d
  all : allV M = (allV m).set n page
  pastV : ∀ nm, pastV M nm = pastV m nm
  pastE : ∀ nm, pastE M nm = pastE m nm
  guest : M.guest = m.guest

theorem allV_len {m : ImgD} (hC : checkE m = 0) : (allV m).length = m.guest.toNat := by
  unfold allV allP; rw [if_pos hC]; simp
theorem allP_congr {m M : ImgD} {r r' : List Int} {g : Nat} (h : ∀ q, q < g → pageV M.slots (lookV M r' q) = pageV m.slots (lookV m r q)) : allP M r' g = allP m r g := by
  unfold allP
  exact List.map_congr_left fun q hq => h q (List.mem_range.1 hq)
theorem past_of {m M : ImgD} (hC : checkE m = 0) (hM : checkE M = 0) (hs : M.snaps = m.snaps) (h : ∀ s ∈ m.snaps, allP M s.2.2 s.2.1.toNat = allP m s.2.2 s.2.1.toNat) (nm : ByteArray) : pastV M nm = pastV m nm ∧ pastE M nm = pastE m nm := by
  unfold pastV pastE
  rw [if_neg (by rw [hM]; simp), if_neg (by rw [hC]; simp), if_neg (by rw [hM]; simp), if_neg (by rw [hC]; simp), hs]
  cases hsi : snapIx m.snaps nm with
  | none => exact ⟨rfl, rfl⟩
  | some j => exact ⟨h _ (snapIx_get hsi), rfl⟩
theorem wrote_in {m : ImgD} (hC : checkE m = 0) {n : Nat} (hn : (n : Int) < m.guest) (hi : wInPl m n = true) {page : ByteArray} (hp : page.size = 4) : Wrote m { m with slots := m.slots.set (lookV m m.root n).toNat (1, page, []) } n page 0 := by
  obtain ⟨e, he, e1, el, ek, hown, hsnap⟩ := inplace_only hC hn hi
  have h := checkE_shape hC
  have hr := root_ok h
  have hg := guest_ok h
  rw [he, Int.toNat_natCast]
  obtain ⟨hck, hlk⟩ := setP_same (page := page) hC ek hp
  have hp2 : ∀ nm, pastV { m with slots := m.slots.set e (1, page, []) } nm = pastV m nm ∧ pastE { m with slots := m.slots.set e (1, page, []) } nm = pastE m nm := past_of hC hck rfl fun s hs => allP_congr fun q hq => by
    have hfit := snap_fit h (List.mem_cons_of_mem _ hs)
    rw [hlk]
    exact page_setP (hsnap s hs q (by omega)) (by omega)
  refine ⟨hck, by show (m.slots.set _ _).length ≤ _; rw [List.length_set]; omega, ?_, fun nm => (hp2 nm).1, fun nm => (hp2 nm).2, rfl⟩
  unfold allV
  rw [if_pos hck, if_pos hC]
  unfold allP
  apply List.ext_getElem
  · simp
  · intro q h1 h2
    have hq : q < m.guest.toNat := by simpa using h1
    rw [List.getElem_set, List.getElem_map, List.getElem_range, hlk]
    show pageV (m.slots.set e (1, page, [])) (lookV m m.root q) = _
    by_cases e4 : n = q
    · subst e4
      rw [if_pos rfl, he, page_at e1 el]
    · rw [if_neg e4, List.getElem_map, List.getElem_range]
      exact page_setP (hown q (by omega) (fun x => e4 x.symm)) (by omega)
theorem Laid.wrote {m M : ImgD} {n d : Nat} {x : Int} (hC : checkE m = 0) (hn : (n : Int) < m.guest) (hL : Laid m M (n / 4) ((tableO m (n / 4)).set (n % 4) x)) (hl : M.slots.length ≤ m.slots.length + d) {page : ByteArray} (hp : pageV M.slots x = page) : Wrote m (countedD M) n page d := by
  refine ⟨counted_right hL.shape, ?_, ?_, fun nm => (hL.pastV hC nm).1, fun nm => (hL.pastV hC nm).2, hL.guest⟩
  · have : (countedD M).slots.length = M.slots.length := freeUn_length _ _
    omega
  · rw [← hp]; exact hL.put hC hn
theorem wrote_write {m : ImgD} (hC : checkE m = 0) {n : Nat} (hn : (n : Int) < m.guest) {page : ByteArray} (hp : page.size = 4) {M : ImgD} (hM : writeD m n page = some M) : Wrote m M n page 2 := by
  unfold writeD at hM
  by_cases hi : wInPl m n = true
  · rw [if_pos hi] at hM
    simp only [Option.some.injEq] at hM
    subst hM
    have := wrote_in hC hn hi hp
    exact ⟨this.right, Nat.le_trans this.len (by omega), this.all, this.pastV, this.pastE, this.guest⟩
  · rw [if_neg hi] at hM
    by_cases h1 : tabN m (n / 4) = 40
    · rw [if_pos h1] at hM; cases hM
    · rw [if_neg h1] at hM
      by_cases h2 : wD m n = 40
      · rw [if_pos h2] at hM; cases hM
      · rw [if_neg h2] at hM
        simp only [Option.some.injEq] at hM
        subst hM
        obtain ⟨a, b, c⟩ := write_laid hC hn h1 h2 hp
        exact a.wrote hC hn c b
theorem set_page_same {l : List ByteArray} {n : Nat} {x : ByteArray} (h : l[n]? = some x) : l.set n x = l := by
  apply List.ext_getElem?
  intro i
  rw [List.getElem?_set]
  by_cases e : n = i
  · subst e
    have := (List.getElem?_eq_some_iff.1 h).1
    rw [if_pos rfl, if_pos this, h]
  · rw [if_neg e]
theorem wrote_put {m : ImgD} (hC : checkE m = 0) {n : Nat} (hn : (n : Int) < m.guest) {e : Int} (he : e = 0 ∨ e = -1) {M : ImgD} (hM : putD m n e = some M) : Wrote m M n Z4 1 := by
  have h := checkE_shape hC
  have hr := root_ok h
  have hg := guest_ok h
  have hk : n / 4 < m.root.length := by omega
  have hpe : ∀ L, pageV L e = Z4 := fun L => by unfold pageV; rw [if_pos (by omega)]
  unfold putD at hM
  by_cases hi : (tableO m (n / 4)).getD (n % 4) 0 = e
  · rw [if_pos hi] at hM
    simp only [Option.some.injEq] at hM
    subst hM
    refine ⟨hC, Nat.le_succ _, ?_, fun _ => rfl, fun _ => rfl, rfl⟩
    refine (set_page_same ?_).symm
    unfold allV allP
    rw [if_pos hC, List.getElem?_map, List.getElem?_range (by omega)]
    show some (pageV m.slots (lookV m m.root n)) = _
    rw [lookV_tableO, hi, hpe]
  · rw [if_neg hi] at hM
    cases ht : tabledD m (n / 4) ((tableO m (n / 4)).set (n % 4) e) with
    | none => rw [ht] at hM; cases hM
    | some T =>
      rw [ht] at hM
      simp only [Option.map_some, Option.some.injEq] at hM
      subst hM
      obtain ⟨ock, oent⟩ := tableO_ok h hk
      obtain ⟨a, b⟩ := tabled_laid hC hk (set_ck ock (by rcases he with rfl | rfl <;> rfl)) (fun x hx => by
        rcases mem_set hx with hx | rfl
        · exact oent x hx
        · rcases he with rfl | rfl <;> rfl) (tail_set (tableO_tail h _) hn rfl hr.1 e) ht
      exact a.wrote hC hn b (hpe _)
/-- What came of resizing. -/
structure Resized (m M : ImgD) (g : Nat) : Prop where
  right : checkE M = 0
  len : M.slots.length ≤ m.slots.length + 1
  all : allV M = frR (allV m) g
  pastV : ∀ nm, pastV M nm = pastV m nm
  pastE : ∀ nm, pastE M nm = pastE m nm
  guest : M.guest = (g : Int)
theorem resized_is {m : ImgD} (hC : checkE m = 0) {g : Nat} (hg : g ≤ 16) {M : ImgD} (hM : resizeD m g = some M) : Resized m M g := by
  have h := checkE_shape hC
  unfold resizeD at hM
  cases ht : cutD m g with
  | none => rw [ht] at hM; cases hM
  | some T =>
    rw [ht] at hM
    simp only [Option.map_some, Option.some.injEq] at hM
    subst hM
    have hsh := resize_shape hC hg ht
    obtain ⟨⟨es, hL, hes⟩, hlen⟩ := cut_laid hC ht
    have hps := past_of hC (counted_right hsh) (show (countedD (rerootD T g)).snaps = m.snaps from hL.snaps) (fun s hs => by
      have hsT : s ∈ (rerootD T g).snaps := by show s ∈ T.snaps; rw [hL.snaps]; exact hs
      have e1 := allP_counted hsh (s := s) (List.mem_cons_of_mem _ hsT)
      rw [e1]
      have hfit := snap_fit h (List.mem_cons_of_mem _ hs)
      refine allP_congr fun q hq => ?_
      have e2 : lookV (rerootD T g) s.2.2 q = lookV T s.2.2 q := rfl
      rw [e2, hL.past s hs q (by omega)]
      exact hL.page _ (lookV_ent h hfit.2.2.2 q (by omega)))
    refine ⟨counted_right hsh, ?_, resize_all hC hg ht, fun nm => (hps nm).1, fun nm => (hps nm).2, rfl⟩
    have : (countedD (rerootD T g)).slots.length = T.slots.length := freeUn_length _ _
    omega
end Go.Proofs.Ytehleeibgkpjmac
