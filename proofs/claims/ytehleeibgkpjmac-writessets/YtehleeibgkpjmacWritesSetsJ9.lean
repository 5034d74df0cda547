/- Texts joined: TbdI, TbdJ. -/
import Derived.Test.YtehleeibgkpjmacWritesSetsJ5
import Derived.Test.YtehleeibgkpjmacWritesSetsJ3
import Derived.Test.YtehleeibgkpjmacWritesSetsJ8
/- Contract of the document's tabled: a table is stored. -/
namespace Go.Proofs.Ytehleeibgkpjmac
open Go.RowKit Go.Shelf
set_option maxRecDepth 20000

set_option maxHeartbeats 4000000 in
theorem tabled_bare (m : ImgD) (gm : Int) (rg rc : Nat) (sa : Option Addr) (sn sc : Nat) (fa : Option Addr) (fn fc : Nat) (na : Option Addr) (nn nc : Nat) (k : Nat) (t : Int) (ea : Option Addr) (en ec : Nat) (es : List Int) (B : Nat) (val : Nm → Value) (w : World) (hO : OI w B val m) (e0 : val .root = .slice (some ⟨rg, 0, none⟩) m.root.length rc) (e1 : val .slots = .slice sa sn sc) (e2 : val .refs = .slice fa fn fc) (e3 : val .snaps = .slice na nn nc) (hB : B ≤ w.heap.size) (hk : k < m.root.length) (ht : m.root.getD k 0 = t)
    (he : w.ownsRow B 3 1 (.slice ea en ec) es.length (ints es)) (hb : bareL es = true) :
    Calls Try.prog 70 #[.agg #[.int .i64 gm, .slice (some ⟨rg, 0, none⟩) m.root.length rc, .slice sa sn sc, .slice fa fn fc, .slice na nn nc], .int .i64 (k : Int), .slice ea en ec] w fun r w' => ∃ val', r = .returned (.tuple #[imgV gm val', .bool true]) ∧ OI w' B val' { m with root := m.root.set k 0 } ∧ Below B w w' ∧ OKeep w w' m val ∧ Src w m val (.slice ea en ec) { m with root := m.root.set k 0 } val' := by
  have m0 : ((w.alloc (.cells #[.int .i64 gm, .slice (some ⟨rg, 0, none⟩) m.root.length rc, .slice sa sn sc, .slice fa fn fc, .slice na nn nc] 26)).alloc (.cells #[.int .i64 0, .slice none 0 0, .slice none 0 0, .slice none 0 0, .slice none 0 0] 26)).heap[w.heap.size]? = some (.cells #[.int .i64 gm, .slice (some ⟨rg, 0, none⟩) m.root.length rc, .slice sa sn sc, .slice fa fn fc, .slice na nn nc] 26) := cells_alloc (World.alloc_heap_new _ _) _
  have m2 : ((w.alloc (.cells #[.int .i64 gm, .slice (some ⟨rg, 0, none⟩) m.root.length rc, .slice sa sn sc, .slice fa fn fc, .slice na nn nc] 26)).alloc (.cells #[.int .i64 0, .slice none 0 0, .slice none 0 0, .slice none 0 0, .slice none 0 0] 26)).heap[w.heap.size + 1]? = some (.cells #[.int .i64 0, .slice none 0 0, .slice none 0 0, .slice none 0 0, .slice none 0 0] 26) := by have := World.alloc_heap_new (w.alloc (.cells #[.int .i64 gm, .slice (some ⟨rg, 0, none⟩) m.root.length rc, .slice sa sn sc, .slice fa fn fc, .slice na nn nc] 26)) (.cells #[.int .i64 0, .slice none 0 0, .slice none 0 0, .slice none 0 0, .slice none 0 0] 26); simpa using this
  obtain ⟨c0, c1, c2, c3, c4⟩ := five m0
  obtain ⟨z0, z1, z2, z3, z4⟩ := five m2
  have y0 := cells_frozen m2 0
  have y1 := cells_frozen m2 1
  have y2 := cells_frozen m2 2
  have y3 := cells_frozen m2 3
  have y4 := cells_frozen m2 4
  have hA : OI ((w.alloc (.cells #[.int .i64 gm, .slice (some ⟨rg, 0, none⟩) m.root.length rc, .slice sa sn sc, .slice fa fn fc, .slice na nn nc] 26)).alloc (.cells #[.int .i64 0, .slice none 0 0, .slice none 0 0, .slice none 0 0, .slice none 0 0] 26)) B val m := (hO.alloc _).alloc _
  have hrr := hA.row .root (Live.root m)
  rw [e0] at hrr
  have hrr : ((w.alloc (.cells #[.int .i64 gm, .slice (some ⟨rg, 0, none⟩) m.root.length rc, .slice sa sn sc, .slice fa fn fc, .slice na nn nc] 26)).alloc (.cells #[.int .i64 0, .slice none 0 0, .slice none 0 0, .slice none 0 0, .slice none 0 0] 26)).ownsRow B 3 1 (.slice (some ⟨rg, 0, none⟩) m.root.length rc) m.root.length (ints m.root) := hrr
  have x0 : ((w.alloc (.cells #[.int .i64 gm, .slice (some ⟨rg, 0, none⟩) m.root.length rc, .slice sa sn sc, .slice fa fn fc, .slice na nn nc] 26)).alloc (.cells #[.int .i64 0, .slice none 0 0, .slice none 0 0, .slice none 0 0, .slice none 0 0] 26)).cell? ⟨rg, k, none⟩ = some (.int .i64 t) := (hrr.cellAt k (by omega)).trans (by unfold ints; rw [List.getElem?_map, List.getElem?_eq_getElem hk, ← ht]; simp [List.getD, hk])
  have xf := hrr.frozenAt k
  have hki : (k : Int) < (m.root.length : Int) := by omega
  have hrl : B ≤ rg ∧ rg < w.heap.size := by
    have := hO.row .root (Live.root m)
    rw [e0] at this
    exact this.lt rg rfl
  have g1 : ¬ rg = w.heap.size := by omega
  have g2 : ¬ w.heap.size = rg := by omega
  have g3 : ¬ rg = w.heap.size + 1 := by omega
  have g4 : ¬ w.heap.size + 1 = rg := by omega
  have bB : Below B w ((w.alloc (.cells #[.int .i64 gm, .slice (some ⟨rg, 0, none⟩) m.root.length rc, .slice sa sn sc, .slice fa fn fc, .slice na nn nc] 26)).alloc (.cells #[.int .i64 0, .slice none 0 0, .slice none 0 0, .slice none 0 0, .slice none 0 0] 26)) := ((Below.refl B w).alloc hB _).alloc (by simp <;> omega) _
  have hE0 : Sl ((w.alloc (.cells #[.int .i64 gm, .slice (some ⟨rg, 0, none⟩) m.root.length rc, .slice sa sn sc, .slice fa fn fc, .slice na nn nc] 26)).alloc (.cells #[.int .i64 0, .slice none 0 0, .slice none 0 0, .slice none 0 0, .slice none 0 0] 26)) (.slice ea en ec) es := row_sl ((he.alloc _).alloc _)

  go_enter Try.func70, Try.ntmps70
  go_wp2_with (go_at_call 96; refine (bareIn_any _ es _ hE0).mono ?_; rintro e w' ⟨rfl, hw⟩; rw [hw, hb]; clear hw)
  have hN := ((hO.setRoot e0 k 0).alloc (.cells #[.int .i64 gm, .slice (some ⟨rg, 0, none⟩) m.root.length rc, .slice sa sn sc, .slice fa fn fc, .slice na nn nc] 26)).alloc (.cells #[.int .i64 gm, .slice (some ⟨rg, 0, none⟩) m.root.length rc, .slice sa sn sc, .slice fa fn fc, .slice na nn nc] 26)
  have hsz : w.heap.size ≤ (w.setCell ⟨rg, k, none⟩ (.int .i64 0)).heap.size := ((Below.refl B w).setCell (p := ⟨rg, k, none⟩) hrl.1 _).size
  have hs : B ≤ (w.setCell ⟨rg, k, none⟩ (.int .i64 0)).heap.size := Nat.le_trans hB ((Below.refl B w).setCell (p := ⟨rg, k, none⟩) hrl.1 _).size
  refine bodyPost_ret (v := .tuple #[.agg #[.int .i64 gm, .slice (some ⟨rg, 0, none⟩) m.root.length rc, .slice sa sn sc, .slice fa fn fc, .slice na nn nc], .bool true]) (by simp [results, Try.results70, go_sem]) rfl ⟨val, ?_, hN, (((Below.refl B w).setCell hrl.1 _).alloc hs _).alloc (by simp at hs ⊢; omega) _, (((OKeep.refl w m val).own (Live.root m) e0).alloc hsz _).alloc (by simp at hsz ⊢) _, fun _ _ _ hm => hm⟩
  unfold imgV
  rw [e0, e1, e2, e3]

set_option maxHeartbeats 4000000 in
theorem tabled_place (m : ImgD) (gm : Int) (rg rc : Nat) (sg sc : Nat) (fg fc : Nat) (na : Option Addr) (nn nc : Nat) (k t : Nat) (ea : Option Addr) (en ec : Nat) (es : List Int) (B : Nat) (val : Nm → Value) (w : World) (hO : OI w B val m) (e0 : val .root = .slice (some ⟨rg, 0, none⟩) m.root.length rc) (e1 : val .slots = .slice (some ⟨sg, 0, none⟩) m.slots.length sc) (e2 : val .refs = .slice (some ⟨fg, 0, none⟩) m.refs.length fc) (e3 : val .snaps = .slice na nn nc) (hB : B ≤ w.heap.size) (hk : k < m.root.length) (ht : m.root.getD k 0 = (t : Int))
    (he : w.ownsRow B 3 1 (.slice ea en ec) es.length (ints es)) (hfar : Far m val (.tab t) (.slice ea en ec)) (hb : bareL es = false) (ht1 : 1 ≤ t) (htl : t < m.slots.length) (hrf : m.refs.length = m.slots.length) (h1 : m.refs.getD t 0 = 1) :
    Calls Try.prog 70 #[.agg #[.int .i64 gm, .slice (some ⟨rg, 0, none⟩) m.root.length rc, .slice (some ⟨sg, 0, none⟩) m.slots.length sc, .slice (some ⟨fg, 0, none⟩) m.refs.length fc, .slice na nn nc], .int .i64 (k : Int), .slice ea en ec] w fun r w' => ∃ val', r = .returned (.tuple #[imgV gm val', .bool true]) ∧ OI w' B val' { m with slots := m.slots.set t (2, ⟨#[]⟩, es) } ∧ Below B w w' ∧ OKeep w w' m val ∧ Src w m val (.slice ea en ec) { m with slots := m.slots.set t (2, ⟨#[]⟩, es) } val' := by
  have m0 : ((w.alloc (.cells #[.int .i64 gm, .slice (some ⟨rg, 0, none⟩) m.root.length rc, .slice (some ⟨sg, 0, none⟩) m.slots.length sc, .slice (some ⟨fg, 0, none⟩) m.refs.length fc, .slice na nn nc] 26)).alloc (.cells #[.int .i64 0, .slice none 0 0, .slice none 0 0, .slice none 0 0, .slice none 0 0] 26)).heap[w.heap.size]? = some (.cells #[.int .i64 gm, .slice (some ⟨rg, 0, none⟩) m.root.length rc, .slice (some ⟨sg, 0, none⟩) m.slots.length sc, .slice (some ⟨fg, 0, none⟩) m.refs.length fc, .slice na nn nc] 26) := cells_alloc (World.alloc_heap_new _ _) _
  have m2 : ((w.alloc (.cells #[.int .i64 gm, .slice (some ⟨rg, 0, none⟩) m.root.length rc, .slice (some ⟨sg, 0, none⟩) m.slots.length sc, .slice (some ⟨fg, 0, none⟩) m.refs.length fc, .slice na nn nc] 26)).alloc (.cells #[.int .i64 0, .slice none 0 0, .slice none 0 0, .slice none 0 0, .slice none 0 0] 26)).heap[w.heap.size + 1]? = some (.cells #[.int .i64 0, .slice none 0 0, .slice none 0 0, .slice none 0 0, .slice none 0 0] 26) := by have := World.alloc_heap_new (w.alloc (.cells #[.int .i64 gm, .slice (some ⟨rg, 0, none⟩) m.root.length rc, .slice (some ⟨sg, 0, none⟩) m.slots.length sc, .slice (some ⟨fg, 0, none⟩) m.refs.length fc, .slice na nn nc] 26)) (.cells #[.int .i64 0, .slice none 0 0, .slice none 0 0, .slice none 0 0, .slice none 0 0] 26); simpa using this
  obtain ⟨c0, c1, c2, c3, c4⟩ := five m0
  obtain ⟨z0, z1, z2, z3, z4⟩ := five m2
  have y0 := cells_frozen m2 0
  have y1 := cells_frozen m2 1
  have y2 := cells_frozen m2 2
  have y3 := cells_frozen m2 3
  have y4 := cells_frozen m2 4
  have hA : OI ((w.alloc (.cells #[.int .i64 gm, .slice (some ⟨rg, 0, none⟩) m.root.length rc, .slice (some ⟨sg, 0, none⟩) m.slots.length sc, .slice (some ⟨fg, 0, none⟩) m.refs.length fc, .slice na nn nc] 26)).alloc (.cells #[.int .i64 0, .slice none 0 0, .slice none 0 0, .slice none 0 0, .slice none 0 0] 26)) B val m := (hO.alloc _).alloc _
  have hrr := hA.row .root (Live.root m)
  rw [e0] at hrr
  have hrr : ((w.alloc (.cells #[.int .i64 gm, .slice (some ⟨rg, 0, none⟩) m.root.length rc, .slice (some ⟨sg, 0, none⟩) m.slots.length sc, .slice (some ⟨fg, 0, none⟩) m.refs.length fc, .slice na nn nc] 26)).alloc (.cells #[.int .i64 0, .slice none 0 0, .slice none 0 0, .slice none 0 0, .slice none 0 0] 26)).ownsRow B 3 1 (.slice (some ⟨rg, 0, none⟩) m.root.length rc) m.root.length (ints m.root) := hrr
  have x0 : ((w.alloc (.cells #[.int .i64 gm, .slice (some ⟨rg, 0, none⟩) m.root.length rc, .slice (some ⟨sg, 0, none⟩) m.slots.length sc, .slice (some ⟨fg, 0, none⟩) m.refs.length fc, .slice na nn nc] 26)).alloc (.cells #[.int .i64 0, .slice none 0 0, .slice none 0 0, .slice none 0 0, .slice none 0 0] 26)).cell? ⟨rg, k, none⟩ = some (.int .i64 (t : Int)) := (hrr.cellAt k (by omega)).trans (by unfold ints; rw [List.getElem?_map, List.getElem?_eq_getElem hk, ← ht]; simp [List.getD, hk])
  have xf := hrr.frozenAt k
  have hki : (k : Int) < (m.root.length : Int) := by omega
  have hrl : B ≤ rg ∧ rg < w.heap.size := by
    have := hO.row .root (Live.root m)
    rw [e0] at this
    exact this.lt rg rfl
  have g1 : ¬ rg = w.heap.size := by omega
  have g2 : ¬ w.heap.size = rg := by omega
  have g3 : ¬ rg = w.heap.size + 1 := by omega
  have g4 : ¬ w.heap.size + 1 = rg := by omega
  have bB : Below B w ((w.alloc (.cells #[.int .i64 gm, .slice (some ⟨rg, 0, none⟩) m.root.length rc, .slice (some ⟨sg, 0, none⟩) m.slots.length sc, .slice (some ⟨fg, 0, none⟩) m.refs.length fc, .slice na nn nc] 26)).alloc (.cells #[.int .i64 0, .slice none 0 0, .slice none 0 0, .slice none 0 0, .slice none 0 0] 26)) := ((Below.refl B w).alloc hB _).alloc (by simp <;> omega) _
  have hE0 : Sl ((w.alloc (.cells #[.int .i64 gm, .slice (some ⟨rg, 0, none⟩) m.root.length rc, .slice (some ⟨sg, 0, none⟩) m.slots.length sc, .slice (some ⟨fg, 0, none⟩) m.refs.length fc, .slice na nn nc] 26)).alloc (.cells #[.int .i64 0, .slice none 0 0, .slice none 0 0, .slice none 0 0, .slice none 0 0] 26)) (.slice ea en ec) es := row_sl ((he.alloc _).alloc _)
  have hsr := hA.row .slots (Live.slots m)
  rw [e1] at hsr
  have hsr : ((w.alloc (.cells #[.int .i64 gm, .slice (some ⟨rg, 0, none⟩) m.root.length rc, .slice (some ⟨sg, 0, none⟩) m.slots.length sc, .slice (some ⟨fg, 0, none⟩) m.refs.length fc, .slice na nn nc] 26)).alloc (.cells #[.int .i64 0, .slice none 0 0, .slice none 0 0, .slice none 0 0, .slice none 0 0] 26)).ownsRow B 33 3 (.slice (some ⟨sg, 0, none⟩) m.slots.length sc) m.slots.length (flatS m.slots (fun j => val (.tab j))) := hsr
  have hfr := hA.row .refs (Live.refs m)
  rw [e2] at hfr
  have hfr : ((w.alloc (.cells #[.int .i64 gm, .slice (some ⟨rg, 0, none⟩) m.root.length rc, .slice (some ⟨sg, 0, none⟩) m.slots.length sc, .slice (some ⟨fg, 0, none⟩) m.refs.length fc, .slice na nn nc] 26)).alloc (.cells #[.int .i64 0, .slice none 0 0, .slice none 0 0, .slice none 0 0, .slice none 0 0] 26)).ownsRow B 3 1 (.slice (some ⟨fg, 0, none⟩) m.refs.length fc) m.refs.length (ints m.refs) := hfr
  have hsl : B ≤ sg ∧ sg < w.heap.size := by
    have := hO.row .slots (Live.slots m)
    rw [e1] at this
    exact this.lt sg rfl
  have hfl : B ≤ fg ∧ fg < w.heap.size := by
    have := hO.row .refs (Live.refs m)
    rw [e2] at this
    exact this.lt fg rfl
  have s1 : ¬ sg = w.heap.size := by omega
  have s2 : ¬ w.heap.size = sg := by omega
  have s3 : ¬ sg = w.heap.size + 1 := by omega
  have s4 : ¬ w.heap.size + 1 = sg := by omega
  have hti : (t : Int) < (m.slots.length : Int) := by omega
  have htr : (t : Int) < (m.refs.length : Int) := by omega
  have t0 : ¬ (t : Int) = 0 := by omega
  have t0' : ((t : Int) != 0) = true := by simp; omega
  have x1 : ((w.alloc (.cells #[.int .i64 gm, .slice (some ⟨rg, 0, none⟩) m.root.length rc, .slice (some ⟨sg, 0, none⟩) m.slots.length sc, .slice (some ⟨fg, 0, none⟩) m.refs.length fc, .slice na nn nc] 26)).alloc (.cells #[.int .i64 0, .slice none 0 0, .slice none 0 0, .slice none 0 0, .slice none 0 0] 26)).cell? ⟨fg, t, none⟩ = some (.int .i64 1) := (hfr.cellAt t (by omega)).trans (by unfold ints; rw [List.getElem?_map, List.getElem?_eq_getElem (by omega), ← h1]; simp [List.getD, hrf, htl])
  obtain ⟨v0, v1, v2⟩ := flatS_get (tv := fun j => val (.tab j)) htl
  have t1 : ((w.alloc (.cells #[.int .i64 gm, .slice (some ⟨rg, 0, none⟩) m.root.length rc, .slice (some ⟨sg, 0, none⟩) m.slots.length sc, .slice (some ⟨fg, 0, none⟩) m.refs.length fc, .slice na nn nc] 26)).alloc (.cells #[.int .i64 0, .slice none 0 0, .slice none 0 0, .slice none 0 0, .slice none 0 0] 26)).cell? ⟨sg, t * 3, none⟩ = some _ := (hsr.cellAt (t * 3) (by omega)).trans v0
  have t2 : ((w.alloc (.cells #[.int .i64 gm, .slice (some ⟨rg, 0, none⟩) m.root.length rc, .slice (some ⟨sg, 0, none⟩) m.slots.length sc, .slice (some ⟨fg, 0, none⟩) m.refs.length fc, .slice na nn nc] 26)).alloc (.cells #[.int .i64 0, .slice none 0 0, .slice none 0 0, .slice none 0 0, .slice none 0 0] 26)).cell? ⟨sg, t * 3 + 1, none⟩ = some _ := (hsr.cellAt (t * 3 + 1) (by omega)).trans v1
  have t3 : ((w.alloc (.cells #[.int .i64 gm, .slice (some ⟨rg, 0, none⟩) m.root.length rc, .slice (some ⟨sg, 0, none⟩) m.slots.length sc, .slice (some ⟨fg, 0, none⟩) m.refs.length fc, .slice na nn nc] 26)).alloc (.cells #[.int .i64 0, .slice none 0 0, .slice none 0 0, .slice none 0 0, .slice none 0 0] 26)).cell? ⟨sg, t * 3 + 2, none⟩ = some _ := (hsr.cellAt (t * 3 + 2) (by omega)).trans v2
  have u0 := hsr.frozenAt (t * 3)
  have u1 := hsr.frozenAt (t * 3 + 1)
  have u2 := hsr.frozenAt (t * 3 + 2)
  have hsw := hO.row .slots (Live.slots m)
  rw [e1] at hsw
  have hsw : w.ownsRow B 33 3 (.slice (some ⟨sg, 0, none⟩) m.slots.length sc) m.slots.length (flatS m.slots (fun j => val (.tab j))) := hsw
  have t4 : w.cell? ⟨sg, t * 3, none⟩ = some _ := (hsw.cellAt (t * 3) (by omega)).trans v0
  have t5 : w.cell? ⟨sg, t * 3 + 1, none⟩ = some _ := (hsw.cellAt (t * 3 + 1) (by omega)).trans v1
  have t6 : w.cell? ⟨sg, t * 3 + 2, none⟩ = some _ := (hsw.cellAt (t * 3 + 2) (by omega)).trans v2
  have u3 := hsw.frozenAt (t * 3)
  have u4 := hsw.frozenAt (t * 3 + 1)
  have u5 := hsw.frozenAt (t * 3 + 2)
  have hslt := hsl.2
  clear v0 v1 v2 hrf h1 ht
  go_enter Try.func70, Try.ntmps70
  go_wp2_with (go_at_call 96; refine (bareIn_any _ es _ hE0).mono ?_; rintro e w' ⟨rfl, hw⟩; rw [hw, hb]; clear hw)
  have hN := ((hO.setSlot htl e1 2 ⟨#[]⟩ es he hfar).alloc (.cells #[.int .i64 gm, .slice (some ⟨rg, 0, none⟩) m.root.length rc, .slice (some ⟨sg, 0, none⟩) m.slots.length sc, .slice (some ⟨fg, 0, none⟩) m.refs.length fc, .slice na nn nc] 26)).alloc (.cells #[.int .i64 gm, .slice (some ⟨rg, 0, none⟩) m.root.length rc, .slice (some ⟨sg, 0, none⟩) m.slots.length sc, .slice (some ⟨fg, 0, none⟩) m.refs.length fc, .slice na nn nc] 26)
  have b1 := (((Below.refl B w).setCell (p := ⟨sg, t * 3, none⟩) hsl.1 (.int .i64 2)).setCell (p := ⟨sg, t * 3 + 1, none⟩) hsl.1 (.string ⟨#[]⟩)).setCell (p := ⟨sg, t * 3 + 2, none⟩) hsl.1 (.slice ea en ec)
  refine bodyPost_ret (v := .tuple #[.agg #[.int .i64 gm, .slice (some ⟨rg, 0, none⟩) m.root.length rc, .slice (some ⟨sg, 0, none⟩) m.slots.length sc, .slice (some ⟨fg, 0, none⟩) m.refs.length fc, .slice na nn nc], .bool true]) (by simp [results, Try.results70, go_sem]) rfl ⟨_, ?_, hN, (b1.alloc (Nat.le_trans hB b1.size) _).alloc (Nat.le_trans hB (b1.alloc (Nat.le_trans hB b1.size) _).size) _, (((((OKeep.refl w m val).own (Live.slots m) e1).own (Live.slots m) e1).own (Live.slots m) e1).alloc b1.size _).alloc (b1.alloc (Nat.le_trans hB b1.size) _).size _, fun _ _ hev' hm => set_far hm hev'⟩
  unfold imgV
  rw [upd_other _ _ (by intro x; cases x), upd_other _ _ (by intro x; cases x), upd_other _ _ (by intro x; cases x), upd_other _ _ (by intro x; cases x), e0, e1, e2, e3]

theorem grabOf_row {W : World} {B g cap : Nat} {L : List SlotD} {tv : Nat → Value} (h : W.ownsRow B 33 3 (.slice (some ⟨g, 0, none⟩) L.length cap) L.length (flatS L tv)) (ht : ∀ j, j < L.length → Sl W (tv j) (L.getD j default).2.2) (h1 : 1 ≤ L.length) (h40 : L.length ≤ 40) {c : Int} (hc : (if grabN L = 40 then (0 : Int) else grabN L) = c) :
    Calls Try.prog 61 #[.slice (some ⟨g, 0, none⟩) L.length cap] W fun r w' => r = .returned (.int .i64 c) ∧ w' = W := by
  obtain ⟨ao, cap', e, _, _, hs⟩ := row_slots h ht
  obtain ⟨b, off, ha, hlt, hcl⟩ := hs (by intro x; rw [x] at h1; simp at h1)
  subst ha
  cases e
  exact grabOf_at g 0 cap _ _ L W rfl h1 h40 hcl (grabN_at h1) c hc

theorem root_cell {W : World} {B g cap : Nat} {l : List Int} (h : W.ownsRow B 3 1 (.slice (some ⟨g, 0, none⟩) l.length cap) l.length (ints l)) {k : Nat} (hk : k < l.length) : W.cell? ⟨g, k, none⟩ = some (.int .i64 (l.getD k 0)) :=
  (h.cellAt k (by omega)).trans (by unfold ints; rw [List.getElem?_map, List.getElem?_eq_getElem hk]; simp [List.getD, hk])

set_option maxHeartbeats 4000000 in
theorem tabled_full0 (m : ImgD) (gm : Int) (rg rc : Nat) (sg sc : Nat) (fg fc : Nat) (na : Option Addr) (nn nc : Nat) (k : Nat) (ea : Option Addr) (en ec : Nat) (es : List Int) (B : Nat) (val : Nm → Value) (w : World) (hO : OI w B val m) (e0 : val .root = .slice (some ⟨rg, 0, none⟩) m.root.length rc) (e1 : val .slots = .slice (some ⟨sg, 0, none⟩) m.slots.length sc) (e2 : val .refs = .slice (some ⟨fg, 0, none⟩) m.refs.length fc) (_e3 : val .snaps = .slice na nn nc) (hB : B ≤ w.heap.size) (hk : k < m.root.length) (ht : m.root.getD k 0 = 0)
    (he : w.ownsRow B 3 1 (.slice ea en ec) es.length (ints es)) (hb : bareL es = false) (hs1 : 1 ≤ m.slots.length) (hs40 : m.slots.length ≤ 40) (hgr : grabN m.slots = 40) :
    Calls Try.prog 70 #[.agg #[.int .i64 gm, .slice (some ⟨rg, 0, none⟩) m.root.length rc, .slice (some ⟨sg, 0, none⟩) m.slots.length sc, .slice (some ⟨fg, 0, none⟩) m.refs.length fc, .slice na nn nc], .int .i64 (k : Int), .slice ea en ec] w fun r w' => ∃ v, r = .returned (.tuple #[v, .bool false]) ∧ Below B w w' ∧ OKeep w w' m val := by
  have m0 : ((w.alloc (.cells #[.int .i64 gm, .slice (some ⟨rg, 0, none⟩) m.root.length rc, .slice (some ⟨sg, 0, none⟩) m.slots.length sc, .slice (some ⟨fg, 0, none⟩) m.refs.length fc, .slice na nn nc] 26)).alloc (.cells #[.int .i64 0, .slice none 0 0, .slice none 0 0, .slice none 0 0, .slice none 0 0] 26)).heap[w.heap.size]? = some (.cells #[.int .i64 gm, .slice (some ⟨rg, 0, none⟩) m.root.length rc, .slice (some ⟨sg, 0, none⟩) m.slots.length sc, .slice (some ⟨fg, 0, none⟩) m.refs.length fc, .slice na nn nc] 26) := cells_alloc (World.alloc_heap_new _ _) _
  have m2 : ((w.alloc (.cells #[.int .i64 gm, .slice (some ⟨rg, 0, none⟩) m.root.length rc, .slice (some ⟨sg, 0, none⟩) m.slots.length sc, .slice (some ⟨fg, 0, none⟩) m.refs.length fc, .slice na nn nc] 26)).alloc (.cells #[.int .i64 0, .slice none 0 0, .slice none 0 0, .slice none 0 0, .slice none 0 0] 26)).heap[w.heap.size + 1]? = some (.cells #[.int .i64 0, .slice none 0 0, .slice none 0 0, .slice none 0 0, .slice none 0 0] 26) := by have := World.alloc_heap_new (w.alloc (.cells #[.int .i64 gm, .slice (some ⟨rg, 0, none⟩) m.root.length rc, .slice (some ⟨sg, 0, none⟩) m.slots.length sc, .slice (some ⟨fg, 0, none⟩) m.refs.length fc, .slice na nn nc] 26)) (.cells #[.int .i64 0, .slice none 0 0, .slice none 0 0, .slice none 0 0, .slice none 0 0] 26); simpa using this
  obtain ⟨c0, c1, c2, c3, c4⟩ := five m0
  obtain ⟨z0, z1, z2, z3, z4⟩ := five m2
  have y0 := cells_frozen m2 0
  have y1 := cells_frozen m2 1
  have y2 := cells_frozen m2 2
  have y3 := cells_frozen m2 3
  have y4 := cells_frozen m2 4
  have hA : OI ((w.alloc (.cells #[.int .i64 gm, .slice (some ⟨rg, 0, none⟩) m.root.length rc, .slice (some ⟨sg, 0, none⟩) m.slots.length sc, .slice (some ⟨fg, 0, none⟩) m.refs.length fc, .slice na nn nc] 26)).alloc (.cells #[.int .i64 0, .slice none 0 0, .slice none 0 0, .slice none 0 0, .slice none 0 0] 26)) B val m := (hO.alloc _).alloc _
  have hrr := hA.row .root (Live.root m)
  rw [e0] at hrr
  have hrr : ((w.alloc (.cells #[.int .i64 gm, .slice (some ⟨rg, 0, none⟩) m.root.length rc, .slice (some ⟨sg, 0, none⟩) m.slots.length sc, .slice (some ⟨fg, 0, none⟩) m.refs.length fc, .slice na nn nc] 26)).alloc (.cells #[.int .i64 0, .slice none 0 0, .slice none 0 0, .slice none 0 0, .slice none 0 0] 26)).ownsRow B 3 1 (.slice (some ⟨rg, 0, none⟩) m.root.length rc) m.root.length (ints m.root) := hrr
  have x0 : ((w.alloc (.cells #[.int .i64 gm, .slice (some ⟨rg, 0, none⟩) m.root.length rc, .slice (some ⟨sg, 0, none⟩) m.slots.length sc, .slice (some ⟨fg, 0, none⟩) m.refs.length fc, .slice na nn nc] 26)).alloc (.cells #[.int .i64 0, .slice none 0 0, .slice none 0 0, .slice none 0 0, .slice none 0 0] 26)).cell? ⟨rg, k, none⟩ = some (.int .i64 0) := (hrr.cellAt k (by omega)).trans (by unfold ints; rw [List.getElem?_map, List.getElem?_eq_getElem hk, ← ht]; simp [List.getD, hk])
  have xf := hrr.frozenAt k
  have hki : (k : Int) < (m.root.length : Int) := by omega
  have hrl : B ≤ rg ∧ rg < w.heap.size := by
    have := hO.row .root (Live.root m)
    rw [e0] at this
    exact this.lt rg rfl
  have g1 : ¬ rg = w.heap.size := by omega
  have g2 : ¬ w.heap.size = rg := by omega
  have g3 : ¬ rg = w.heap.size + 1 := by omega
  have g4 : ¬ w.heap.size + 1 = rg := by omega
  have bB : Below B w ((w.alloc (.cells #[.int .i64 gm, .slice (some ⟨rg, 0, none⟩) m.root.length rc, .slice (some ⟨sg, 0, none⟩) m.slots.length sc, .slice (some ⟨fg, 0, none⟩) m.refs.length fc, .slice na nn nc] 26)).alloc (.cells #[.int .i64 0, .slice none 0 0, .slice none 0 0, .slice none 0 0, .slice none 0 0] 26)) := ((Below.refl B w).alloc hB _).alloc (by simp <;> omega) _
  have hE0 : Sl ((w.alloc (.cells #[.int .i64 gm, .slice (some ⟨rg, 0, none⟩) m.root.length rc, .slice (some ⟨sg, 0, none⟩) m.slots.length sc, .slice (some ⟨fg, 0, none⟩) m.refs.length fc, .slice na nn nc] 26)).alloc (.cells #[.int .i64 0, .slice none 0 0, .slice none 0 0, .slice none 0 0, .slice none 0 0] 26)) (.slice ea en ec) es := row_sl ((he.alloc _).alloc _)
  have hsr := hA.row .slots (Live.slots m)
  rw [e1] at hsr
  have hsr : ((w.alloc (.cells #[.int .i64 gm, .slice (some ⟨rg, 0, none⟩) m.root.length rc, .slice (some ⟨sg, 0, none⟩) m.slots.length sc, .slice (some ⟨fg, 0, none⟩) m.refs.length fc, .slice na nn nc] 26)).alloc (.cells #[.int .i64 0, .slice none 0 0, .slice none 0 0, .slice none 0 0, .slice none 0 0] 26)).ownsRow B 33 3 (.slice (some ⟨sg, 0, none⟩) m.slots.length sc) m.slots.length (flatS m.slots (fun j => val (.tab j))) := hsr
  have hfr := hA.row .refs (Live.refs m)
  rw [e2] at hfr
  have hfr : ((w.alloc (.cells #[.int .i64 gm, .slice (some ⟨rg, 0, none⟩) m.root.length rc, .slice (some ⟨sg, 0, none⟩) m.slots.length sc, .slice (some ⟨fg, 0, none⟩) m.refs.length fc, .slice na nn nc] 26)).alloc (.cells #[.int .i64 0, .slice none 0 0, .slice none 0 0, .slice none 0 0, .slice none 0 0] 26)).ownsRow B 3 1 (.slice (some ⟨fg, 0, none⟩) m.refs.length fc) m.refs.length (ints m.refs) := hfr
  have hsl : B ≤ sg ∧ sg < w.heap.size := by
    have := hO.row .slots (Live.slots m)
    rw [e1] at this
    exact this.lt sg rfl
  have hfl : B ≤ fg ∧ fg < w.heap.size := by
    have := hO.row .refs (Live.refs m)
    rw [e2] at this
    exact this.lt fg rfl
  have s1 : ¬ sg = w.heap.size := by omega
  have s2 : ¬ w.heap.size = sg := by omega
  have s3 : ¬ sg = w.heap.size + 1 := by omega
  have s4 : ¬ w.heap.size + 1 = sg := by omega
  have htab : ∀ j, j < m.slots.length → Sl ((w.alloc (.cells #[.int .i64 gm, .slice (some ⟨rg, 0, none⟩) m.root.length rc, .slice (some ⟨sg, 0, none⟩) m.slots.length sc, .slice (some ⟨fg, 0, none⟩) m.refs.length fc, .slice na nn nc] 26)).alloc (.cells #[.int .i64 0, .slice none 0 0, .slice none 0 0, .slice none 0 0, .slice none 0 0] 26)) (val (.tab j)) (m.slots.getD j default).2.2 := fun j hj => row_sl (hA.row (.tab j) (Live.tab hj))
  have hG := grabOf_row hsr htab hs1 hs40 (if_pos hgr)
  clear ht htab
  go_enter Try.func70, Try.ntmps70
  go_wp2_with (first | (go_at_call 96; refine (bareIn_any _ es _ hE0).mono ?_; rintro e w' ⟨rfl, hw⟩; rw [hw, hb]; clear hw) | (go_at_call 61; refine hG.mono ?_; rintro e w' ⟨rfl, hw⟩; rw [hw]; clear hw))
  refine bodyPost_ret (v := .tuple #[.agg #[.int .i64 gm, .slice (some ⟨rg, 0, none⟩) m.root.length rc, .slice (some ⟨sg, 0, none⟩) m.slots.length sc, .slice (some ⟨fg, 0, none⟩) m.refs.length fc, .slice na nn nc], .bool false]) (by simp [results, Try.results70, go_sem]) rfl ⟨_, rfl, ((Below.refl B w).alloc hB _).alloc (by simp <;> omega) _, ((OKeep.refl w m val).alloc (Nat.le_refl _) _).alloc (by simp) _⟩

set_option maxHeartbeats 4000000 in
theorem tabled_full1 (m : ImgD) (gm : Int) (rg rc : Nat) (sg sc : Nat) (fg fc : Nat) (na : Option Addr) (nn nc : Nat) (k : Nat) (t : Nat) (ea : Option Addr) (en ec : Nat) (es : List Int) (B : Nat) (val : Nm → Value) (w : World) (hO : OI w B val m) (e0 : val .root = .slice (some ⟨rg, 0, none⟩) m.root.length rc) (e1 : val .slots = .slice (some ⟨sg, 0, none⟩) m.slots.length sc) (e2 : val .refs = .slice (some ⟨fg, 0, none⟩) m.refs.length fc) (_e3 : val .snaps = .slice na nn nc) (hB : B ≤ w.heap.size) (hk : k < m.root.length) (ht : m.root.getD k 0 = (t : Int)) (ht1 : 1 ≤ t) (htl : t < m.slots.length) (hrf : m.refs.length = m.slots.length) (h1 : m.refs.getD t 0 ≠ 1)
    (he : w.ownsRow B 3 1 (.slice ea en ec) es.length (ints es)) (hb : bareL es = false) (hs1 : 1 ≤ m.slots.length) (hs40 : m.slots.length ≤ 40) (hgr : grabN m.slots = 40) :
    Calls Try.prog 70 #[.agg #[.int .i64 gm, .slice (some ⟨rg, 0, none⟩) m.root.length rc, .slice (some ⟨sg, 0, none⟩) m.slots.length sc, .slice (some ⟨fg, 0, none⟩) m.refs.length fc, .slice na nn nc], .int .i64 (k : Int), .slice ea en ec] w fun r w' => ∃ v, r = .returned (.tuple #[v, .bool false]) ∧ Below B w w' ∧ OKeep w w' m val := by
  have m0 : ((w.alloc (.cells #[.int .i64 gm, .slice (some ⟨rg, 0, none⟩) m.root.length rc, .slice (some ⟨sg, 0, none⟩) m.slots.length sc, .slice (some ⟨fg, 0, none⟩) m.refs.length fc, .slice na nn nc] 26)).alloc (.cells #[.int .i64 0, .slice none 0 0, .slice none 0 0, .slice none 0 0, .slice none 0 0] 26)).heap[w.heap.size]? = some (.cells #[.int .i64 gm, .slice (some ⟨rg, 0, none⟩) m.root.length rc, .slice (some ⟨sg, 0, none⟩) m.slots.length sc, .slice (some ⟨fg, 0, none⟩) m.refs.length fc, .slice na nn nc] 26) := cells_alloc (World.alloc_heap_new _ _) _
  have m2 : ((w.alloc (.cells #[.int .i64 gm, .slice (some ⟨rg, 0, none⟩) m.root.length rc, .slice (some ⟨sg, 0, none⟩) m.slots.length sc, .slice (some ⟨fg, 0, none⟩) m.refs.length fc, .slice na nn nc] 26)).alloc (.cells #[.int .i64 0, .slice none 0 0, .slice none 0 0, .slice none 0 0, .slice none 0 0] 26)).heap[w.heap.size + 1]? = some (.cells #[.int .i64 0, .slice none 0 0, .slice none 0 0, .slice none 0 0, .slice none 0 0] 26) := by have := World.alloc_heap_new (w.alloc (.cells #[.int .i64 gm, .slice (some ⟨rg, 0, none⟩) m.root.length rc, .slice (some ⟨sg, 0, none⟩) m.slots.length sc, .slice (some ⟨fg, 0, none⟩) m.refs.length fc, .slice na nn nc] 26)) (.cells #[.int .i64 0, .slice none 0 0, .slice none 0 0, .slice none 0 0, .slice none 0 0] 26); simpa using this
  obtain ⟨c0, c1, c2, c3, c4⟩ := five m0
  obtain ⟨z0, z1, z2, z3, z4⟩ := five m2
  have y0 := cells_frozen m2 0
  have y1 := cells_frozen m2 1
  have y2 := cells_frozen m2 2
  have y3 := cells_frozen m2 3
  have y4 := cells_frozen m2 4
  have hA : OI ((w.alloc (.cells #[.int .i64 gm, .slice (some ⟨rg, 0, none⟩) m.root.length rc, .slice (some ⟨sg, 0, none⟩) m.slots.length sc, .slice (some ⟨fg, 0, none⟩) m.refs.length fc, .slice na nn nc] 26)).alloc (.cells #[.int .i64 0, .slice none 0 0, .slice none 0 0, .slice none 0 0, .slice none 0 0] 26)) B val m := (hO.alloc _).alloc _
  have hrr := hA.row .root (Live.root m)
  rw [e0] at hrr
  have hrr : ((w.alloc (.cells #[.int .i64 gm, .slice (some ⟨rg, 0, none⟩) m.root.length rc, .slice (some ⟨sg, 0, none⟩) m.slots.length sc, .slice (some ⟨fg, 0, none⟩) m.refs.length fc, .slice na nn nc] 26)).alloc (.cells #[.int .i64 0, .slice none 0 0, .slice none 0 0, .slice none 0 0, .slice none 0 0] 26)).ownsRow B 3 1 (.slice (some ⟨rg, 0, none⟩) m.root.length rc) m.root.length (ints m.root) := hrr
  have x0 : ((w.alloc (.cells #[.int .i64 gm, .slice (some ⟨rg, 0, none⟩) m.root.length rc, .slice (some ⟨sg, 0, none⟩) m.slots.length sc, .slice (some ⟨fg, 0, none⟩) m.refs.length fc, .slice na nn nc] 26)).alloc (.cells #[.int .i64 0, .slice none 0 0, .slice none 0 0, .slice none 0 0, .slice none 0 0] 26)).cell? ⟨rg, k, none⟩ = some (.int .i64 (t : Int)) := (hrr.cellAt k (by omega)).trans (by unfold ints; rw [List.getElem?_map, List.getElem?_eq_getElem hk, ← ht]; simp [List.getD, hk])
  have xf := hrr.frozenAt k
  have hki : (k : Int) < (m.root.length : Int) := by omega
  have hrl : B ≤ rg ∧ rg < w.heap.size := by
    have := hO.row .root (Live.root m)
    rw [e0] at this
    exact this.lt rg rfl
  have g1 : ¬ rg = w.heap.size := by omega
  have g2 : ¬ w.heap.size = rg := by omega
  have g3 : ¬ rg = w.heap.size + 1 := by omega
  have g4 : ¬ w.heap.size + 1 = rg := by omega
  have bB : Below B w ((w.alloc (.cells #[.int .i64 gm, .slice (some ⟨rg, 0, none⟩) m.root.length rc, .slice (some ⟨sg, 0, none⟩) m.slots.length sc, .slice (some ⟨fg, 0, none⟩) m.refs.length fc, .slice na nn nc] 26)).alloc (.cells #[.int .i64 0, .slice none 0 0, .slice none 0 0, .slice none 0 0, .slice none 0 0] 26)) := ((Below.refl B w).alloc hB _).alloc (by simp <;> omega) _
  have hE0 : Sl ((w.alloc (.cells #[.int .i64 gm, .slice (some ⟨rg, 0, none⟩) m.root.length rc, .slice (some ⟨sg, 0, none⟩) m.slots.length sc, .slice (some ⟨fg, 0, none⟩) m.refs.length fc, .slice na nn nc] 26)).alloc (.cells #[.int .i64 0, .slice none 0 0, .slice none 0 0, .slice none 0 0, .slice none 0 0] 26)) (.slice ea en ec) es := row_sl ((he.alloc _).alloc _)
  have hsr := hA.row .slots (Live.slots m)
  rw [e1] at hsr
  have hsr : ((w.alloc (.cells #[.int .i64 gm, .slice (some ⟨rg, 0, none⟩) m.root.length rc, .slice (some ⟨sg, 0, none⟩) m.slots.length sc, .slice (some ⟨fg, 0, none⟩) m.refs.length fc, .slice na nn nc] 26)).alloc (.cells #[.int .i64 0, .slice none 0 0, .slice none 0 0, .slice none 0 0, .slice none 0 0] 26)).ownsRow B 33 3 (.slice (some ⟨sg, 0, none⟩) m.slots.length sc) m.slots.length (flatS m.slots (fun j => val (.tab j))) := hsr
  have hfr := hA.row .refs (Live.refs m)
  rw [e2] at hfr
  have hfr : ((w.alloc (.cells #[.int .i64 gm, .slice (some ⟨rg, 0, none⟩) m.root.length rc, .slice (some ⟨sg, 0, none⟩) m.slots.length sc, .slice (some ⟨fg, 0, none⟩) m.refs.length fc, .slice na nn nc] 26)).alloc (.cells #[.int .i64 0, .slice none 0 0, .slice none 0 0, .slice none 0 0, .slice none 0 0] 26)).ownsRow B 3 1 (.slice (some ⟨fg, 0, none⟩) m.refs.length fc) m.refs.length (ints m.refs) := hfr
  have hsl : B ≤ sg ∧ sg < w.heap.size := by
    have := hO.row .slots (Live.slots m)
    rw [e1] at this
    exact this.lt sg rfl
  have hfl : B ≤ fg ∧ fg < w.heap.size := by
    have := hO.row .refs (Live.refs m)
    rw [e2] at this
    exact this.lt fg rfl
  have s1 : ¬ sg = w.heap.size := by omega
  have s2 : ¬ w.heap.size = sg := by omega
  have s3 : ¬ sg = w.heap.size + 1 := by omega
  have s4 : ¬ w.heap.size + 1 = sg := by omega
  have htr : (t : Int) < (m.refs.length : Int) := by omega
  have t0 : ¬ (t : Int) = 0 := by omega
  have t0' : ((t : Int) != 0) = true := by simp; omega
  obtain ⟨q, hq⟩ : ∃ q, q = m.refs.getD t 0 := ⟨_, rfl⟩
  rw [← hq] at h1
  have q1' : (q == 1) = false := by simp [h1]
  have x1 : ((w.alloc (.cells #[.int .i64 gm, .slice (some ⟨rg, 0, none⟩) m.root.length rc, .slice (some ⟨sg, 0, none⟩) m.slots.length sc, .slice (some ⟨fg, 0, none⟩) m.refs.length fc, .slice na nn nc] 26)).alloc (.cells #[.int .i64 0, .slice none 0 0, .slice none 0 0, .slice none 0 0, .slice none 0 0] 26)).cell? ⟨fg, t, none⟩ = some (.int .i64 q) := (hfr.cellAt t (by omega)).trans (by unfold ints; rw [List.getElem?_map, List.getElem?_eq_getElem (by omega), hq]; simp [List.getD, hrf, htl])
  clear hq hrf
  have htab : ∀ j, j < m.slots.length → Sl ((w.alloc (.cells #[.int .i64 gm, .slice (some ⟨rg, 0, none⟩) m.root.length rc, .slice (some ⟨sg, 0, none⟩) m.slots.length sc, .slice (some ⟨fg, 0, none⟩) m.refs.length fc, .slice na nn nc] 26)).alloc (.cells #[.int .i64 0, .slice none 0 0, .slice none 0 0, .slice none 0 0, .slice none 0 0] 26)) (val (.tab j)) (m.slots.getD j default).2.2 := fun j hj => row_sl (hA.row (.tab j) (Live.tab hj))
  have hG := grabOf_row hsr htab hs1 hs40 (if_pos hgr)
  clear ht htab
  go_enter Try.func70, Try.ntmps70
  go_wp2_with (first | (go_at_call 96; refine (bareIn_any _ es _ hE0).mono ?_; rintro e w' ⟨rfl, hw⟩; rw [hw, hb]; clear hw) | (go_at_call 61; refine hG.mono ?_; rintro e w' ⟨rfl, hw⟩; rw [hw]; clear hw))
  refine bodyPost_ret (v := .tuple #[.agg #[.int .i64 gm, .slice (some ⟨rg, 0, none⟩) m.root.length rc, .slice (some ⟨sg, 0, none⟩) m.slots.length sc, .slice (some ⟨fg, 0, none⟩) m.refs.length fc, .slice na nn nc], .bool false]) (by simp [results, Try.results70, go_sem]) rfl ⟨_, rfl, ((Below.refl B w).alloc hB _).alloc (by simp <;> omega) _, ((OKeep.refl w m val).alloc (Nat.le_refl _) _).alloc (by simp) _⟩

set_option maxHeartbeats 4000000 in
theorem tabled_grab0 (m : ImgD) (gm : Int) (rg rc : Nat) (sg sc : Nat) (fg fc : Nat) (na : Option Addr) (nn nc : Nat) (k : Nat) (ea : Option Addr) (en ec : Nat) (es : List Int) (B : Nat) (val : Nm → Value) (w : World) (hO : OI w B val m) (e0 : val .root = .slice (some ⟨rg, 0, none⟩) m.root.length rc) (e1 : val .slots = .slice (some ⟨sg, 0, none⟩) m.slots.length sc) (e2 : val .refs = .slice (some ⟨fg, 0, none⟩) m.refs.length fc) (e3 : val .snaps = .slice na nn nc) (hB : B ≤ w.heap.size) (hk : k < m.root.length) (ht : m.root.getD k 0 = 0)
    (he : w.ownsRow B 3 1 (.slice ea en ec) es.length (ints es)) (hfar : Far m val (.tab (grabN m.slots)) (.slice ea en ec)) (hb : bareL es = false) (hs1 : 1 ≤ m.slots.length) (hs40 : m.slots.length ≤ 40) (hgr : ¬ grabN m.slots = 40) :
    Calls Try.prog 70 #[.agg #[.int .i64 gm, .slice (some ⟨rg, 0, none⟩) m.root.length rc, .slice (some ⟨sg, 0, none⟩) m.slots.length sc, .slice (some ⟨fg, 0, none⟩) m.refs.length fc, .slice na nn nc], .int .i64 (k : Int), .slice ea en ec] w fun r w' => ∃ val', r = .returned (.tuple #[imgV gm val', .bool true]) ∧ OI w' B val' { m with root := m.root.set k (grabN m.slots : Int), slots := layS m.slots (grabN m.slots) (2, ⟨#[]⟩, es) } ∧ Below B w w' ∧ OKeep w w' m val ∧ Src w m val (.slice ea en ec) { m with root := m.root.set k (grabN m.slots : Int), slots := layS m.slots (grabN m.slots) (2, ⟨#[]⟩, es) } val' := by
  have m0 : ((w.alloc (.cells #[.int .i64 gm, .slice (some ⟨rg, 0, none⟩) m.root.length rc, .slice (some ⟨sg, 0, none⟩) m.slots.length sc, .slice (some ⟨fg, 0, none⟩) m.refs.length fc, .slice na nn nc] 26)).alloc (.cells #[.int .i64 0, .slice none 0 0, .slice none 0 0, .slice none 0 0, .slice none 0 0] 26)).heap[w.heap.size]? = some (.cells #[.int .i64 gm, .slice (some ⟨rg, 0, none⟩) m.root.length rc, .slice (some ⟨sg, 0, none⟩) m.slots.length sc, .slice (some ⟨fg, 0, none⟩) m.refs.length fc, .slice na nn nc] 26) := cells_alloc (World.alloc_heap_new _ _) _
  have m2 : ((w.alloc (.cells #[.int .i64 gm, .slice (some ⟨rg, 0, none⟩) m.root.length rc, .slice (some ⟨sg, 0, none⟩) m.slots.length sc, .slice (some ⟨fg, 0, none⟩) m.refs.length fc, .slice na nn nc] 26)).alloc (.cells #[.int .i64 0, .slice none 0 0, .slice none 0 0, .slice none 0 0, .slice none 0 0] 26)).heap[w.heap.size + 1]? = some (.cells #[.int .i64 0, .slice none 0 0, .slice none 0 0, .slice none 0 0, .slice none 0 0] 26) := by have := World.alloc_heap_new (w.alloc (.cells #[.int .i64 gm, .slice (some ⟨rg, 0, none⟩) m.root.length rc, .slice (some ⟨sg, 0, none⟩) m.slots.length sc, .slice (some ⟨fg, 0, none⟩) m.refs.length fc, .slice na nn nc] 26)) (.cells #[.int .i64 0, .slice none 0 0, .slice none 0 0, .slice none 0 0, .slice none 0 0] 26); simpa using this
  obtain ⟨c0, c1, c2, c3, c4⟩ := five m0
  obtain ⟨z0, z1, z2, z3, z4⟩ := five m2
  have y0 := cells_frozen m2 0
  have y1 := cells_frozen m2 1
  have y2 := cells_frozen m2 2
  have y3 := cells_frozen m2 3
  have y4 := cells_frozen m2 4
  have hA : OI ((w.alloc (.cells #[.int .i64 gm, .slice (some ⟨rg, 0, none⟩) m.root.length rc, .slice (some ⟨sg, 0, none⟩) m.slots.length sc, .slice (some ⟨fg, 0, none⟩) m.refs.length fc, .slice na nn nc] 26)).alloc (.cells #[.int .i64 0, .slice none 0 0, .slice none 0 0, .slice none 0 0, .slice none 0 0] 26)) B val m := (hO.alloc _).alloc _
  have hrr := hA.row .root (Live.root m)
  rw [e0] at hrr
  have hrr : ((w.alloc (.cells #[.int .i64 gm, .slice (some ⟨rg, 0, none⟩) m.root.length rc, .slice (some ⟨sg, 0, none⟩) m.slots.length sc, .slice (some ⟨fg, 0, none⟩) m.refs.length fc, .slice na nn nc] 26)).alloc (.cells #[.int .i64 0, .slice none 0 0, .slice none 0 0, .slice none 0 0, .slice none 0 0] 26)).ownsRow B 3 1 (.slice (some ⟨rg, 0, none⟩) m.root.length rc) m.root.length (ints m.root) := hrr
  have x0 : ((w.alloc (.cells #[.int .i64 gm, .slice (some ⟨rg, 0, none⟩) m.root.length rc, .slice (some ⟨sg, 0, none⟩) m.slots.length sc, .slice (some ⟨fg, 0, none⟩) m.refs.length fc, .slice na nn nc] 26)).alloc (.cells #[.int .i64 0, .slice none 0 0, .slice none 0 0, .slice none 0 0, .slice none 0 0] 26)).cell? ⟨rg, k, none⟩ = some (.int .i64 0) := (hrr.cellAt k (by omega)).trans (by unfold ints; rw [List.getElem?_map, List.getElem?_eq_getElem hk, ← ht]; simp [List.getD, hk])
  have xf := hrr.frozenAt k
  have hki : (k : Int) < (m.root.length : Int) := by omega
  have hrl : B ≤ rg ∧ rg < w.heap.size := by
    have := hO.row .root (Live.root m)
    rw [e0] at this
    exact this.lt rg rfl
  have g1 : ¬ rg = w.heap.size := by omega
  have g2 : ¬ w.heap.size = rg := by omega
  have g3 : ¬ rg = w.heap.size + 1 := by omega
  have g4 : ¬ w.heap.size + 1 = rg := by omega
  have bB : Below B w ((w.alloc (.cells #[.int .i64 gm, .slice (some ⟨rg, 0, none⟩) m.root.length rc, .slice (some ⟨sg, 0, none⟩) m.slots.length sc, .slice (some ⟨fg, 0, none⟩) m.refs.length fc, .slice na nn nc] 26)).alloc (.cells #[.int .i64 0, .slice none 0 0, .slice none 0 0, .slice none 0 0, .slice none 0 0] 26)) := ((Below.refl B w).alloc hB _).alloc (by simp <;> omega) _
  have hE0 : Sl ((w.alloc (.cells #[.int .i64 gm, .slice (some ⟨rg, 0, none⟩) m.root.length rc, .slice (some ⟨sg, 0, none⟩) m.slots.length sc, .slice (some ⟨fg, 0, none⟩) m.refs.length fc, .slice na nn nc] 26)).alloc (.cells #[.int .i64 0, .slice none 0 0, .slice none 0 0, .slice none 0 0, .slice none 0 0] 26)) (.slice ea en ec) es := row_sl ((he.alloc _).alloc _)
  have hsr := hA.row .slots (Live.slots m)
  rw [e1] at hsr
  have hsr : ((w.alloc (.cells #[.int .i64 gm, .slice (some ⟨rg, 0, none⟩) m.root.length rc, .slice (some ⟨sg, 0, none⟩) m.slots.length sc, .slice (some ⟨fg, 0, none⟩) m.refs.length fc, .slice na nn nc] 26)).alloc (.cells #[.int .i64 0, .slice none 0 0, .slice none 0 0, .slice none 0 0, .slice none 0 0] 26)).ownsRow B 33 3 (.slice (some ⟨sg, 0, none⟩) m.slots.length sc) m.slots.length (flatS m.slots (fun j => val (.tab j))) := hsr
  have hfr := hA.row .refs (Live.refs m)
  rw [e2] at hfr
  have hfr : ((w.alloc (.cells #[.int .i64 gm, .slice (some ⟨rg, 0, none⟩) m.root.length rc, .slice (some ⟨sg, 0, none⟩) m.slots.length sc, .slice (some ⟨fg, 0, none⟩) m.refs.length fc, .slice na nn nc] 26)).alloc (.cells #[.int .i64 0, .slice none 0 0, .slice none 0 0, .slice none 0 0, .slice none 0 0] 26)).ownsRow B 3 1 (.slice (some ⟨fg, 0, none⟩) m.refs.length fc) m.refs.length (ints m.refs) := hfr
  have hsl : B ≤ sg ∧ sg < w.heap.size := by
    have := hO.row .slots (Live.slots m)
    rw [e1] at this
    exact this.lt sg rfl
  have hfl : B ≤ fg ∧ fg < w.heap.size := by
    have := hO.row .refs (Live.refs m)
    rw [e2] at this
    exact this.lt fg rfl
  have s1 : ¬ sg = w.heap.size := by omega
  have s2 : ¬ w.heap.size = sg := by omega
  have s3 : ¬ sg = w.heap.size + 1 := by omega
  have s4 : ¬ w.heap.size + 1 = sg := by omega
  have htab : ∀ j, j < m.slots.length → Sl ((w.alloc (.cells #[.int .i64 gm, .slice (some ⟨rg, 0, none⟩) m.root.length rc, .slice (some ⟨sg, 0, none⟩) m.slots.length sc, .slice (some ⟨fg, 0, none⟩) m.refs.length fc, .slice na nn nc] 26)).alloc (.cells #[.int .i64 0, .slice none 0 0, .slice none 0 0, .slice none 0 0, .slice none 0 0] 26)) (val (.tab j)) (m.slots.getD j default).2.2 := fun j hj => row_sl (hA.row (.tab j) (Live.tab hj))
  have hgn : 1 ≤ grabN m.slots ∧ grabN m.slots ≤ m.slots.length := ⟨(grabN_at hs1).1, (grabN_at hs1).2.1⟩
  have hG := grabOf_row hsr htab hs1 hs40 (if_neg hgr)
  have hcall : Calls Try.prog 62 #[.agg #[.int .i64 gm, .slice (some ⟨rg, 0, none⟩) m.root.length rc, .slice (some ⟨sg, 0, none⟩) m.slots.length sc, .slice (some ⟨fg, 0, none⟩) m.refs.length fc, .slice na nn nc], .int .i64 (grabN m.slots : Int), .agg #[.int .i64 2, .string ⟨#[]⟩, .slice ea en ec]] ((w.alloc (.cells #[.int .i64 gm, .slice (some ⟨rg, 0, none⟩) m.root.length rc, .slice (some ⟨sg, 0, none⟩) m.slots.length sc, .slice (some ⟨fg, 0, none⟩) m.refs.length fc, .slice na nn nc] 26)).alloc (.cells #[.int .i64 0, .slice none 0 0, .slice none 0 0, .slice none 0 0, .slice none 0 0] 26)) fun r w' => ∃ sa2 sn2 sc2 val2, r = .returned (.agg #[.int .i64 gm, .slice (some ⟨rg, 0, none⟩) m.root.length rc, .slice sa2 sn2 sc2, .slice (some ⟨fg, 0, none⟩) m.refs.length fc, .slice na nn nc]) ∧ Hid (OI w' B val2 { m with slots := layS m.slots (grabN m.slots) (2, ⟨#[]⟩, es) } ∧ imgV gm val2 = .agg #[.int .i64 gm, .slice (some ⟨rg, 0, none⟩) m.root.length rc, .slice sa2 sn2 sc2, .slice (some ⟨fg, 0, none⟩) m.refs.length fc, .slice na nn nc] ∧ val2 .root = .slice (some ⟨rg, 0, none⟩) m.root.length rc) ∧ Hid (Below B ((w.alloc (.cells #[.int .i64 gm, .slice (some ⟨rg, 0, none⟩) m.root.length rc, .slice (some ⟨sg, 0, none⟩) m.slots.length sc, .slice (some ⟨fg, 0, none⟩) m.refs.length fc, .slice na nn nc] 26)).alloc (.cells #[.int .i64 0, .slice none 0 0, .slice none 0 0, .slice none 0 0, .slice none 0 0] 26)) w') ∧ Hid (OKeep ((w.alloc (.cells #[.int .i64 gm, .slice (some ⟨rg, 0, none⟩) m.root.length rc, .slice (some ⟨sg, 0, none⟩) m.slots.length sc, .slice (some ⟨fg, 0, none⟩) m.refs.length fc, .slice na nn nc] 26)).alloc (.cells #[.int .i64 0, .slice none 0 0, .slice none 0 0, .slice none 0 0, .slice none 0 0] 26)) w' m val) ∧ Hid (Src ((w.alloc (.cells #[.int .i64 gm, .slice (some ⟨rg, 0, none⟩) m.root.length rc, .slice (some ⟨sg, 0, none⟩) m.slots.length sc, .slice (some ⟨fg, 0, none⟩) m.refs.length fc, .slice na nn nc] 26)).alloc (.cells #[.int .i64 0, .slice none 0 0, .slice none 0 0, .slice none 0 0, .slice none 0 0] 26)) m val (.slice ea en ec) { m with slots := layS m.slots (grabN m.slots) (2, ⟨#[]⟩, es) } val2) := by
    have eI : imgV gm val = .agg #[.int .i64 gm, .slice (some ⟨rg, 0, none⟩) m.root.length rc, .slice (some ⟨sg, 0, none⟩) m.slots.length sc, .slice (some ⟨fg, 0, none⟩) m.refs.length fc, .slice na nn nc] := by unfold imgV; rw [e0, e1, e2, e3]
    have h := lay_is gm (k := 2) (d := ⟨#[]⟩) hA (by simp <;> omega) hgn.2 (by omega) ((he.alloc _).alloc _) hfar
    rw [eI] at h
    refine h.mono ?_
    rintro r w' ⟨val2, rfl, h1, h2, h3, h5, h4⟩
    obtain ⟨sa2, sc2, es2, _⟩ := h1.forms .slots (Live.slots _)
    have r2 := (h4 .root (by intro x; cases x) (by intro x; cases x)).trans e0
    have i2 : imgV gm val2 = .agg #[.int .i64 gm, .slice (some ⟨rg, 0, none⟩) m.root.length rc, .slice sa2 (layS m.slots (grabN m.slots) (2, ⟨#[]⟩, es)).length sc2, .slice (some ⟨fg, 0, none⟩) m.refs.length fc, .slice na nn nc] := by
      have es2 : val2 .slots = .slice sa2 (layS m.slots (grabN m.slots) (2, ⟨#[]⟩, es)).length sc2 := es2
      unfold imgV
      rw [r2, es2, h4 .refs (by intro x; cases x) (by intro x; cases x), e2, h4 .snaps (by intro x; cases x) (by intro x; cases x), e3]
    exact ⟨sa2, _, sc2, val2, by rw [i2], ⟨h1, i2, r2⟩, h2, h3, h5⟩
  have hn0 : ¬ (grabN m.slots : Int) = 0 := by omega
  have hn0' : ((grabN m.slots : Int) == 0) = false := by simp; omega
  have hf0 : ∀ a, Live m a → (val a).ownBlock ≠ some w.heap.size := hO.lt (Nat.le_refl _)
  have hf1 : ∀ a, Live m a → (val a).ownBlock ≠ some (w.heap.size + 1) := hO.lt (by omega)
  obtain ⟨n, hn⟩ : ∃ n, n = grabN m.slots := ⟨_, rfl⟩
  rw [← hn] at hcall hG hn0 hn0'
  have HN : Hid (n = grabN m.slots) := hn
  clear ht htab hn
  go_enter Try.func70, Try.ntmps70
  go_wp2_with (first | (go_at_call 96; refine (bareIn_any _ es _ hE0).mono ?_; rintro e w' ⟨rfl, hw⟩; rw [hw, hb]; clear hw) | (go_at_call 61; refine hG.mono ?_; rintro e w' ⟨rfl, hw⟩; rw [hw]; clear hw) | (go_at_call 62; refine hcall.mono ?_; rintro e w2 ⟨sa2, sn2, sc2, val2, rfl, H2, hb2, hk2, hv2⟩; have q0 := (hk2.out w.heap.size (by simp <;> omega) hf0).trans m0; have q1 := (hk2.out (w.heap.size + 1) (by simp <;> omega) hf1).trans m2; obtain ⟨p0, p1, p2, p3, p4⟩ := five q0; obtain ⟨o0, o1, o2, o3, o4⟩ := five q1; have i0 := cells_frozen q0 0; have i1 := cells_frozen q0 1; have i2 := cells_frozen q0 2; have i3 := cells_frozen q0 3; have i4 := cells_frozen q0 4; have j0 := cells_frozen q1 0; have j1 := cells_frozen q1 1; have j2 := cells_frozen q1 2; have j3 := cells_frozen q1 3; have j4 := cells_frozen q1 4; have hrw : w2.ownsRow B 3 1 (.slice (some ⟨rg, 0, none⟩) m.root.length rc) m.root.length (ints m.root) := (by have := H2.out.1.row .root (Live.root _); rw [H2.out.2.2] at this; exact this); have l0 := root_cell hrw hk; have l1 := hrw.frozenAt k))
  have hn : n = grabN m.slots := HN.out
  subst hn
  have hv : ∀ q, w.heap.size ≤ q → (Value.slice ea en ec).ownBlock ≠ some q := fun q hq e => by have := (he.lt q e).2; omega
  have hfa := hv2.out w.heap.size (by simp <;> omega) (hv _ (Nat.le_refl _)) hf0
  have hfb := hv2.out (w.heap.size + 1) (by simp <;> omega) (hv _ (by omega)) hf1
  have hq1 : OI _ B val2 _ := ((((H2.out.1.far (i := 0) (u := .int .i64 gm) hfa).far (i := 1) (u := .slice (some ⟨rg, 0, none⟩) m.root.length rc) hfa).far (i := 2) (u := .slice sa2 sn2 sc2) hfa).far (i := 3) (u := .slice (some ⟨fg, 0, none⟩) m.refs.length fc) hfa).far (i := 4) (u := .slice na nn nc) hfa
  have hq2 := hq1.setRoot H2.out.2.2 k (grabN m.slots : Int)
  have hq3 := ((((hq2.far (i := 0) (u := .int .i64 gm) hfb).far (i := 1) (u := .slice (some ⟨rg, 0, none⟩) m.root.length rc) hfb).far (i := 2) (u := .slice sa2 sn2 sc2) hfb).far (i := 3) (u := .slice (some ⟨fg, 0, none⟩) m.refs.length fc) hfb).far (i := 4) (u := .slice na nn nc) hfb
  have hB0 : B ≤ w.heap.size + 1 := by omega
  have bb := ((((((((((((bB.trans hb2.out).setCell hB (p := ⟨w.heap.size, 0, none⟩) (.int .i64 gm)).setCell hB (p := ⟨w.heap.size, 1, none⟩) (.slice (some ⟨rg, 0, none⟩) m.root.length rc)).setCell hB (p := ⟨w.heap.size, 2, none⟩) (.slice sa2 sn2 sc2)).setCell hB (p := ⟨w.heap.size, 3, none⟩) (.slice (some ⟨fg, 0, none⟩) m.refs.length fc)).setCell hB (p := ⟨w.heap.size, 4, none⟩) (.slice na nn nc)).setCell hrl.1 (p := ⟨rg, k, none⟩) (.int .i64 (grabN m.slots : Int))).setCell hB0 (p := ⟨w.heap.size + 1, 0, none⟩) (.int .i64 gm)).setCell hB0 (p := ⟨w.heap.size + 1, 1, none⟩) (.slice (some ⟨rg, 0, none⟩) m.root.length rc)).setCell hB0 (p := ⟨w.heap.size + 1, 2, none⟩) (.slice sa2 sn2 sc2)).setCell hB0 (p := ⟨w.heap.size + 1, 3, none⟩) (.slice (some ⟨fg, 0, none⟩) m.refs.length fc)).setCell hB0 (p := ⟨w.heap.size + 1, 4, none⟩) (.slice na nn nc))
  have k0 : OKeep w w2 m val := fun q hq hn => (hk2.out q (by simp <;> omega) hn).trans ((((OKeep.refl w m val).alloc (Nat.le_refl _) _).alloc (by simp) _) q hq hn)
  refine bodyPost_ret (v := .tuple #[.agg #[.int .i64 gm, .slice (some ⟨rg, 0, none⟩) m.root.length rc, .slice sa2 sn2 sc2, .slice (some ⟨fg, 0, none⟩) m.refs.length fc, .slice na nn nc], .bool true]) (by simp [results, Try.results70, go_sem, o0, o1, o2, o3, o4]) rfl ⟨val2, by rw [H2.out.2.1], hq3, bb, (((((((((((k0.new (Nat.le_refl _)).new (Nat.le_refl _)).new (Nat.le_refl _)).new (Nat.le_refl _)).new (Nat.le_refl _)).own (Live.root m) e0).new (by omega)).new (by omega)).new (by omega)).new (by omega)).new (by omega)), fun q hq hev' hm => hv2.out q (by simp <;> omega) hev' hm⟩

set_option maxHeartbeats 4000000 in
theorem tabled_grab1 (m : ImgD) (gm : Int) (rg rc : Nat) (sg sc : Nat) (fg fc : Nat) (na : Option Addr) (nn nc : Nat) (k : Nat) (t : Nat) (ea : Option Addr) (en ec : Nat) (es : List Int) (B : Nat) (val : Nm → Value) (w : World) (hO : OI w B val m) (e0 : val .root = .slice (some ⟨rg, 0, none⟩) m.root.length rc) (e1 : val .slots = .slice (some ⟨sg, 0, none⟩) m.slots.length sc) (e2 : val .refs = .slice (some ⟨fg, 0, none⟩) m.refs.length fc) (e3 : val .snaps = .slice na nn nc) (hB : B ≤ w.heap.size) (hk : k < m.root.length) (ht : m.root.getD k 0 = (t : Int)) (ht1 : 1 ≤ t) (htl : t < m.slots.length) (hrf : m.refs.length = m.slots.length) (h1 : m.refs.getD t 0 ≠ 1)
    (he : w.ownsRow B 3 1 (.slice ea en ec) es.length (ints es)) (hfar : Far m val (.tab (grabN m.slots)) (.slice ea en ec)) (hb : bareL es = false) (hs1 : 1 ≤ m.slots.length) (hs40 : m.slots.length ≤ 40) (hgr : ¬ grabN m.slots = 40) :
    Calls Try.prog 70 #[.agg #[.int .i64 gm, .slice (some ⟨rg, 0, none⟩) m.root.length rc, .slice (some ⟨sg, 0, none⟩) m.slots.length sc, .slice (some ⟨fg, 0, none⟩) m.refs.length fc, .slice na nn nc], .int .i64 (k : Int), .slice ea en ec] w fun r w' => ∃ val', r = .returned (.tuple #[imgV gm val', .bool true]) ∧ OI w' B val' { m with root := m.root.set k (grabN m.slots : Int), slots := layS m.slots (grabN m.slots) (2, ⟨#[]⟩, es) } ∧ Below B w w' ∧ OKeep w w' m val ∧ Src w m val (.slice ea en ec) { m with root := m.root.set k (grabN m.slots : Int), slots := layS m.slots (grabN m.slots) (2, ⟨#[]⟩, es) } val' := by
  have m0 : ((w.alloc (.cells #[.int .i64 gm, .slice (some ⟨rg, 0, none⟩) m.root.length rc, .slice (some ⟨sg, 0, none⟩) m.slots.length sc, .slice (some ⟨fg, 0, none⟩) m.refs.length fc, .slice na nn nc] 26)).alloc (.cells #[.int .i64 0, .slice none 0 0, .slice none 0 0, .slice none 0 0, .slice none 0 0] 26)).heap[w.heap.size]? = some (.cells #[.int .i64 gm, .slice (some ⟨rg, 0, none⟩) m.root.length rc, .slice (some ⟨sg, 0, none⟩) m.slots.length sc, .slice (some ⟨fg, 0, none⟩) m.refs.length fc, .slice na nn nc] 26) := cells_alloc (World.alloc_heap_new _ _) _
  have m2 : ((w.alloc (.cells #[.int .i64 gm, .slice (some ⟨rg, 0, none⟩) m.root.length rc, .slice (some ⟨sg, 0, none⟩) m.slots.length sc, .slice (some ⟨fg, 0, none⟩) m.refs.length fc, .slice na nn nc] 26)).alloc (.cells #[.int .i64 0, .slice none 0 0, .slice none 0 0, .slice none 0 0, .slice none 0 0] 26)).heap[w.heap.size + 1]? = some (.cells #[.int .i64 0, .slice none 0 0, .slice none 0 0, .slice none 0 0, .slice none 0 0] 26) := by have := World.alloc_heap_new (w.alloc (.cells #[.int .i64 gm, .slice (some ⟨rg, 0, none⟩) m.root.length rc, .slice (some ⟨sg, 0, none⟩) m.slots.length sc, .slice (some ⟨fg, 0, none⟩) m.refs.length fc, .slice na nn nc] 26)) (.cells #[.int .i64 0, .slice none 0 0, .slice none 0 0, .slice none 0 0, .slice none 0 0] 26); simpa using this
  obtain ⟨c0, c1, c2, c3, c4⟩ := five m0
  obtain ⟨z0, z1, z2, z3, z4⟩ := five m2
  have y0 := cells_frozen m2 0
  have y1 := cells_frozen m2 1
  have y2 := cells_frozen m2 2
  have y3 := cells_frozen m2 3
  have y4 := cells_frozen m2 4
  have hA : OI ((w.alloc (.cells #[.int .i64 gm, .slice (some ⟨rg, 0, none⟩) m.root.length rc, .slice (some ⟨sg, 0, none⟩) m.slots.length sc, .slice (some ⟨fg, 0, none⟩) m.refs.length fc, .slice na nn nc] 26)).alloc (.cells #[.int .i64 0, .slice none 0 0, .slice none 0 0, .slice none 0 0, .slice none 0 0] 26)) B val m := (hO.alloc _).alloc _
  have hrr := hA.row .root (Live.root m)
  rw [e0] at hrr
  have hrr : ((w.alloc (.cells #[.int .i64 gm, .slice (some ⟨rg, 0, none⟩) m.root.length rc, .slice (some ⟨sg, 0, none⟩) m.slots.length sc, .slice (some ⟨fg, 0, none⟩) m.refs.length fc, .slice na nn nc] 26)).alloc (.cells #[.int .i64 0, .slice none 0 0, .slice none 0 0, .slice none 0 0, .slice none 0 0] 26)).ownsRow B 3 1 (.slice (some ⟨rg, 0, none⟩) m.root.length rc) m.root.length (ints m.root) := hrr
  have x0 : ((w.alloc (.cells #[.int .i64 gm, .slice (some ⟨rg, 0, none⟩) m.root.length rc, .slice (some ⟨sg, 0, none⟩) m.slots.length sc, .slice (some ⟨fg, 0, none⟩) m.refs.length fc, .slice na nn nc] 26)).alloc (.cells #[.int .i64 0, .slice none 0 0, .slice none 0 0, .slice none 0 0, .slice none 0 0] 26)).cell? ⟨rg, k, none⟩ = some (.int .i64 (t : Int)) := (hrr.cellAt k (by omega)).trans (by unfold ints; rw [List.getElem?_map, List.getElem?_eq_getElem hk, ← ht]; simp [List.getD, hk])
  have xf := hrr.frozenAt k
  have hki : (k : Int) < (m.root.length : Int) := by omega
  have hrl : B ≤ rg ∧ rg < w.heap.size := by
    have := hO.row .root (Live.root m)
    rw [e0] at this
    exact this.lt rg rfl
  have g1 : ¬ rg = w.heap.size := by omega
  have g2 : ¬ w.heap.size = rg := by omega
  have g3 : ¬ rg = w.heap.size + 1 := by omega
  have g4 : ¬ w.heap.size + 1 = rg := by omega
  have bB : Below B w ((w.alloc (.cells #[.int .i64 gm, .slice (some ⟨rg, 0, none⟩) m.root.length rc, .slice (some ⟨sg, 0, none⟩) m.slots.length sc, .slice (some ⟨fg, 0, none⟩) m.refs.length fc, .slice na nn nc] 26)).alloc (.cells #[.int .i64 0, .slice none 0 0, .slice none 0 0, .slice none 0 0, .slice none 0 0] 26)) := ((Below.refl B w).alloc hB _).alloc (by simp <;> omega) _
  have hE0 : Sl ((w.alloc (.cells #[.int .i64 gm, .slice (some ⟨rg, 0, none⟩) m.root.length rc, .slice (some ⟨sg, 0, none⟩) m.slots.length sc, .slice (some ⟨fg, 0, none⟩) m.refs.length fc, .slice na nn nc] 26)).alloc (.cells #[.int .i64 0, .slice none 0 0, .slice none 0 0, .slice none 0 0, .slice none 0 0] 26)) (.slice ea en ec) es := row_sl ((he.alloc _).alloc _)
  have hsr := hA.row .slots (Live.slots m)
  rw [e1] at hsr
  have hsr : ((w.alloc (.cells #[.int .i64 gm, .slice (some ⟨rg, 0, none⟩) m.root.length rc, .slice (some ⟨sg, 0, none⟩) m.slots.length sc, .slice (some ⟨fg, 0, none⟩) m.refs.length fc, .slice na nn nc] 26)).alloc (.cells #[.int .i64 0, .slice none 0 0, .slice none 0 0, .slice none 0 0, .slice none 0 0] 26)).ownsRow B 33 3 (.slice (some ⟨sg, 0, none⟩) m.slots.length sc) m.slots.length (flatS m.slots (fun j => val (.tab j))) := hsr
  have hfr := hA.row .refs (Live.refs m)
  rw [e2] at hfr
  have hfr : ((w.alloc (.cells #[.int .i64 gm, .slice (some ⟨rg, 0, none⟩) m.root.length rc, .slice (some ⟨sg, 0, none⟩) m.slots.length sc, .slice (some ⟨fg, 0, none⟩) m.refs.length fc, .slice na nn nc] 26)).alloc (.cells #[.int .i64 0, .slice none 0 0, .slice none 0 0, .slice none 0 0, .slice none 0 0] 26)).ownsRow B 3 1 (.slice (some ⟨fg, 0, none⟩) m.refs.length fc) m.refs.length (ints m.refs) := hfr
  have hsl : B ≤ sg ∧ sg < w.heap.size := by
    have := hO.row .slots (Live.slots m)
    rw [e1] at this
    exact this.lt sg rfl
  have hfl : B ≤ fg ∧ fg < w.heap.size := by
    have := hO.row .refs (Live.refs m)
    rw [e2] at this
    exact this.lt fg rfl
  have s1 : ¬ sg = w.heap.size := by omega
  have s2 : ¬ w.heap.size = sg := by omega
  have s3 : ¬ sg = w.heap.size + 1 := by omega
  have s4 : ¬ w.heap.size + 1 = sg := by omega
  have htr : (t : Int) < (m.refs.length : Int) := by omega
  have t0 : ¬ (t : Int) = 0 := by omega
  have t0' : ((t : Int) != 0) = true := by simp; omega
  obtain ⟨q, hq⟩ : ∃ q, q = m.refs.getD t 0 := ⟨_, rfl⟩
  rw [← hq] at h1
  have q1' : (q == 1) = false := by simp [h1]
  have x1 : ((w.alloc (.cells #[.int .i64 gm, .slice (some ⟨rg, 0, none⟩) m.root.length rc, .slice (some ⟨sg, 0, none⟩) m.slots.length sc, .slice (some ⟨fg, 0, none⟩) m.refs.length fc, .slice na nn nc] 26)).alloc (.cells #[.int .i64 0, .slice none 0 0, .slice none 0 0, .slice none 0 0, .slice none 0 0] 26)).cell? ⟨fg, t, none⟩ = some (.int .i64 q) := (hfr.cellAt t (by omega)).trans (by unfold ints; rw [List.getElem?_map, List.getElem?_eq_getElem (by omega), hq]; simp [List.getD, hrf, htl])
  clear hq hrf
  have htab : ∀ j, j < m.slots.length → Sl ((w.alloc (.cells #[.int .i64 gm, .slice (some ⟨rg, 0, none⟩) m.root.length rc, .slice (some ⟨sg, 0, none⟩) m.slots.length sc, .slice (some ⟨fg, 0, none⟩) m.refs.length fc, .slice na nn nc] 26)).alloc (.cells #[.int .i64 0, .slice none 0 0, .slice none 0 0, .slice none 0 0, .slice none 0 0] 26)) (val (.tab j)) (m.slots.getD j default).2.2 := fun j hj => row_sl (hA.row (.tab j) (Live.tab hj))
  have hgn : 1 ≤ grabN m.slots ∧ grabN m.slots ≤ m.slots.length := ⟨(grabN_at hs1).1, (grabN_at hs1).2.1⟩
  have hG := grabOf_row hsr htab hs1 hs40 (if_neg hgr)
  have hcall : Calls Try.prog 62 #[.agg #[.int .i64 gm, .slice (some ⟨rg, 0, none⟩) m.root.length rc, .slice (some ⟨sg, 0, none⟩) m.slots.length sc, .slice (some ⟨fg, 0, none⟩) m.refs.length fc, .slice na nn nc], .int .i64 (grabN m.slots : Int), .agg #[.int .i64 2, .string ⟨#[]⟩, .slice ea en ec]] ((w.alloc (.cells #[.int .i64 gm, .slice (some ⟨rg, 0, none⟩) m.root.length rc, .slice (some ⟨sg, 0, none⟩) m.slots.length sc, .slice (some ⟨fg, 0, none⟩) m.refs.length fc, .slice na nn nc] 26)).alloc (.cells #[.int .i64 0, .slice none 0 0, .slice none 0 0, .slice none 0 0, .slice none 0 0] 26)) fun r w' => ∃ sa2 sn2 sc2 val2, r = .returned (.agg #[.int .i64 gm, .slice (some ⟨rg, 0, none⟩) m.root.length rc, .slice sa2 sn2 sc2, .slice (some ⟨fg, 0, none⟩) m.refs.length fc, .slice na nn nc]) ∧ Hid (OI w' B val2 { m with slots := layS m.slots (grabN m.slots) (2, ⟨#[]⟩, es) } ∧ imgV gm val2 = .agg #[.int .i64 gm, .slice (some ⟨rg, 0, none⟩) m.root.length rc, .slice sa2 sn2 sc2, .slice (some ⟨fg, 0, none⟩) m.refs.length fc, .slice na nn nc] ∧ val2 .root = .slice (some ⟨rg, 0, none⟩) m.root.length rc) ∧ Hid (Below B ((w.alloc (.cells #[.int .i64 gm, .slice (some ⟨rg, 0, none⟩) m.root.length rc, .slice (some ⟨sg, 0, none⟩) m.slots.length sc, .slice (some ⟨fg, 0, none⟩) m.refs.length fc, .slice na nn nc] 26)).alloc (.cells #[.int .i64 0, .slice none 0 0, .slice none 0 0, .slice none 0 0, .slice none 0 0] 26)) w') ∧ Hid (OKeep ((w.alloc (.cells #[.int .i64 gm, .slice (some ⟨rg, 0, none⟩) m.root.length rc, .slice (some ⟨sg, 0, none⟩) m.slots.length sc, .slice (some ⟨fg, 0, none⟩) m.refs.length fc, .slice na nn nc] 26)).alloc (.cells #[.int .i64 0, .slice none 0 0, .slice none 0 0, .slice none 0 0, .slice none 0 0] 26)) w' m val) ∧ Hid (Src ((w.alloc (.cells #[.int .i64 gm, .slice (some ⟨rg, 0, none⟩) m.root.length rc, .slice (some ⟨sg, 0, none⟩) m.slots.length sc, .slice (some ⟨fg, 0, none⟩) m.refs.length fc, .slice na nn nc] 26)).alloc (.cells #[.int .i64 0, .slice none 0 0, .slice none 0 0, .slice none 0 0, .slice none 0 0] 26)) m val (.slice ea en ec) { m with slots := layS m.slots (grabN m.slots) (2, ⟨#[]⟩, es) } val2) := by
    have eI : imgV gm val = .agg #[.int .i64 gm, .slice (some ⟨rg, 0, none⟩) m.root.length rc, .slice (some ⟨sg, 0, none⟩) m.slots.length sc, .slice (some ⟨fg, 0, none⟩) m.refs.length fc, .slice na nn nc] := by unfold imgV; rw [e0, e1, e2, e3]
    have h := lay_is gm (k := 2) (d := ⟨#[]⟩) hA (by simp <;> omega) hgn.2 (by omega) ((he.alloc _).alloc _) hfar
    rw [eI] at h
    refine h.mono ?_
    rintro r w' ⟨val2, rfl, h1, h2, h3, h5, h4⟩
    obtain ⟨sa2, sc2, es2, _⟩ := h1.forms .slots (Live.slots _)
    have r2 := (h4 .root (by intro x; cases x) (by intro x; cases x)).trans e0
    have i2 : imgV gm val2 = .agg #[.int .i64 gm, .slice (some ⟨rg, 0, none⟩) m.root.length rc, .slice sa2 (layS m.slots (grabN m.slots) (2, ⟨#[]⟩, es)).length sc2, .slice (some ⟨fg, 0, none⟩) m.refs.length fc, .slice na nn nc] := by
      have es2 : val2 .slots = .slice sa2 (layS m.slots (grabN m.slots) (2, ⟨#[]⟩, es)).length sc2 := es2
      unfold imgV
      rw [r2, es2, h4 .refs (by intro x; cases x) (by intro x; cases x), e2, h4 .snaps (by intro x; cases x) (by intro x; cases x), e3]
    exact ⟨sa2, _, sc2, val2, by rw [i2], ⟨h1, i2, r2⟩, h2, h3, h5⟩
  have hn0 : ¬ (grabN m.slots : Int) = 0 := by omega
  have hn0' : ((grabN m.slots : Int) == 0) = false := by simp; omega
  have hf0 : ∀ a, Live m a → (val a).ownBlock ≠ some w.heap.size := hO.lt (Nat.le_refl _)
  have hf1 : ∀ a, Live m a → (val a).ownBlock ≠ some (w.heap.size + 1) := hO.lt (by omega)
  obtain ⟨n, hn⟩ : ∃ n, n = grabN m.slots := ⟨_, rfl⟩
  rw [← hn] at hcall hG hn0 hn0'
  have HN : Hid (n = grabN m.slots) := hn
  clear ht htab hn
  go_enter Try.func70, Try.ntmps70
  go_wp2_with (first | (go_at_call 96; refine (bareIn_any _ es _ hE0).mono ?_; rintro e w' ⟨rfl, hw⟩; rw [hw, hb]; clear hw) | (go_at_call 61; refine hG.mono ?_; rintro e w' ⟨rfl, hw⟩; rw [hw]; clear hw) | (go_at_call 62; refine hcall.mono ?_; rintro e w2 ⟨sa2, sn2, sc2, val2, rfl, H2, hb2, hk2, hv2⟩; have q0 := (hk2.out w.heap.size (by simp <;> omega) hf0).trans m0; have q1 := (hk2.out (w.heap.size + 1) (by simp <;> omega) hf1).trans m2; obtain ⟨p0, p1, p2, p3, p4⟩ := five q0; obtain ⟨o0, o1, o2, o3, o4⟩ := five q1; have i0 := cells_frozen q0 0; have i1 := cells_frozen q0 1; have i2 := cells_frozen q0 2; have i3 := cells_frozen q0 3; have i4 := cells_frozen q0 4; have j0 := cells_frozen q1 0; have j1 := cells_frozen q1 1; have j2 := cells_frozen q1 2; have j3 := cells_frozen q1 3; have j4 := cells_frozen q1 4; have hrw : w2.ownsRow B 3 1 (.slice (some ⟨rg, 0, none⟩) m.root.length rc) m.root.length (ints m.root) := (by have := H2.out.1.row .root (Live.root _); rw [H2.out.2.2] at this; exact this); have l0 := root_cell hrw hk; have l1 := hrw.frozenAt k))
  have hn : n = grabN m.slots := HN.out
  subst hn
  have hv : ∀ q, w.heap.size ≤ q → (Value.slice ea en ec).ownBlock ≠ some q := fun q hq e => by have := (he.lt q e).2; omega
  have hfa := hv2.out w.heap.size (by simp <;> omega) (hv _ (Nat.le_refl _)) hf0
  have hfb := hv2.out (w.heap.size + 1) (by simp <;> omega) (hv _ (by omega)) hf1
  have hq1 : OI _ B val2 _ := ((((H2.out.1.far (i := 0) (u := .int .i64 gm) hfa).far (i := 1) (u := .slice (some ⟨rg, 0, none⟩) m.root.length rc) hfa).far (i := 2) (u := .slice sa2 sn2 sc2) hfa).far (i := 3) (u := .slice (some ⟨fg, 0, none⟩) m.refs.length fc) hfa).far (i := 4) (u := .slice na nn nc) hfa
  have hq2 := hq1.setRoot H2.out.2.2 k (grabN m.slots : Int)
  have hq3 := ((((hq2.far (i := 0) (u := .int .i64 gm) hfb).far (i := 1) (u := .slice (some ⟨rg, 0, none⟩) m.root.length rc) hfb).far (i := 2) (u := .slice sa2 sn2 sc2) hfb).far (i := 3) (u := .slice (some ⟨fg, 0, none⟩) m.refs.length fc) hfb).far (i := 4) (u := .slice na nn nc) hfb
  have hB0 : B ≤ w.heap.size + 1 := by omega
  have bb := ((((((((((((bB.trans hb2.out).setCell hB (p := ⟨w.heap.size, 0, none⟩) (.int .i64 gm)).setCell hB (p := ⟨w.heap.size, 1, none⟩) (.slice (some ⟨rg, 0, none⟩) m.root.length rc)).setCell hB (p := ⟨w.heap.size, 2, none⟩) (.slice sa2 sn2 sc2)).setCell hB (p := ⟨w.heap.size, 3, none⟩) (.slice (some ⟨fg, 0, none⟩) m.refs.length fc)).setCell hB (p := ⟨w.heap.size, 4, none⟩) (.slice na nn nc)).setCell hrl.1 (p := ⟨rg, k, none⟩) (.int .i64 (grabN m.slots : Int))).setCell hB0 (p := ⟨w.heap.size + 1, 0, none⟩) (.int .i64 gm)).setCell hB0 (p := ⟨w.heap.size + 1, 1, none⟩) (.slice (some ⟨rg, 0, none⟩) m.root.length rc)).setCell hB0 (p := ⟨w.heap.size + 1, 2, none⟩) (.slice sa2 sn2 sc2)).setCell hB0 (p := ⟨w.heap.size + 1, 3, none⟩) (.slice (some ⟨fg, 0, none⟩) m.refs.length fc)).setCell hB0 (p := ⟨w.heap.size + 1, 4, none⟩) (.slice na nn nc))
  have k0 : OKeep w w2 m val := fun q hq hn => (hk2.out q (by simp <;> omega) hn).trans ((((OKeep.refl w m val).alloc (Nat.le_refl _) _).alloc (by simp) _) q hq hn)
  refine bodyPost_ret (v := .tuple #[.agg #[.int .i64 gm, .slice (some ⟨rg, 0, none⟩) m.root.length rc, .slice sa2 sn2 sc2, .slice (some ⟨fg, 0, none⟩) m.refs.length fc, .slice na nn nc], .bool true]) (by simp [results, Try.results70, go_sem, o0, o1, o2, o3, o4]) rfl ⟨val2, by rw [H2.out.2.1], hq3, bb, (((((((((((k0.new (Nat.le_refl _)).new (Nat.le_refl _)).new (Nat.le_refl _)).new (Nat.le_refl _)).new (Nat.le_refl _)).own (Live.root m) e0).new (by omega)).new (by omega)).new (by omega)).new (by omega)).new (by omega)), fun q hq hev' hm => hv2.out q (by simp <;> omega) hev' hm⟩
end Go.Proofs.Ytehleeibgkpjmac
/- tabled, its ways joined. -/
namespace Go.Proofs.Ytehleeibgkpjmac
open Go.RowKit Go.Shelf
set_option maxRecDepth 20000

def tabledM (m : ImgD) (k : Nat) (es : List Int) : ImgD := if bareL es = true then { m with root := m.root.set k 0 } else { m with root := m.root.set k (tabN m k : Int), slots := tabL m k es }
theorem set_same (l : List Int) (k : Nat) (x : Int) (h : l.getD k 0 = x) (hk : k < l.length) : l.set k x = l := by
  apply List.ext_getElem (by simp)
  intro j h1 h2
  rw [List.getElem_set]
  split
  · rename_i e; subst e; rw [← h]; simp [List.getD, hk]
  · rfl
theorem tabled_is {m : ImgD} (gm : Int) {k t : Nat} {ev : Value} {es : List Int} {B : Nat} {val : Nm → Value} {w : World} (hO : OI w B val m) (hB : B ≤ w.heap.size) (hk : k < m.root.length) (ht : m.root.getD k 0 = (t : Int)) (htl : t < m.slots.length)
    (he : w.ownsRow B 3 1 ev es.length (ints es)) (hfar : ∀ a, Far m val a ev) (hrf : m.refs.length = m.slots.length) (hs40 : m.slots.length ≤ 40) :
    Calls Try.prog 70 #[imgV gm val, .int .i64 (k : Int), ev] w fun r w' => (bareL es = false ∧ tabN m k = 40 ∧ (∃ v, r = .returned (.tuple #[v, .bool false])) ∧ Below B w w' ∧ OKeep w w' m val) ∨
      (¬ (bareL es = false ∧ tabN m k = 40) ∧ ∃ val', r = .returned (.tuple #[imgV gm val', .bool true]) ∧ OI w' B val' (tabledM m k es) ∧ Below B w w' ∧ OKeep w w' m val ∧ Src w m val ev (tabledM m k es) val') := by
  obtain ⟨ra, rc, e0, h0⟩ := hO.forms .root (Live.root m)
  obtain ⟨sa, sc, e1, h1⟩ := hO.forms .slots (Live.slots m)
  obtain ⟨fa, fc, e2, h2⟩ := hO.forms .refs (Live.refs m)
  obtain ⟨na, nc, e3, _⟩ := hO.forms .snaps (Live.snaps m)
  obtain ⟨rg, rfl⟩ := h0 (by show 0 < m.root.length; omega)
  obtain ⟨sg, rfl⟩ := h1 (by show 0 < m.slots.length; omega)
  obtain ⟨fg, rfl⟩ := h2 (by show 0 < m.refs.length; omega)
  have e0 : val .root = .slice (some ⟨rg, 0, none⟩) m.root.length rc := e0
  have e1 : val .slots = .slice (some ⟨sg, 0, none⟩) m.slots.length sc := e1
  have e2 : val .refs = .slice (some ⟨fg, 0, none⟩) m.refs.length fc := e2
  have hev : ∃ ea en ec, ev = .slice ea en ec := by
    rcases row_form he with ⟨e, _⟩ | ⟨g, cap, e, _⟩
    · exact ⟨_, _, _, e⟩
    · exact ⟨_, _, _, e⟩
  obtain ⟨ea, en, ec, rfl⟩ := hev
  have eI : imgV gm val = .agg #[.int .i64 gm, .slice (some ⟨rg, 0, none⟩) m.root.length rc, .slice (some ⟨sg, 0, none⟩) m.slots.length sc, .slice (some ⟨fg, 0, none⟩) m.refs.length fc, .slice na (rowN m .snaps) nc] := by unfold imgV; rw [e0, e1, e2, e3]
  rw [eI]
  by_cases hb : bareL es = true
  · refine (tabled_bare m gm rg rc _ _ sc _ _ fc na _ nc k t ea en ec es B val w hO e0 e1 e2 e3 hB hk ht he hb).mono ?_
    rintro r w' ⟨val', rfl, g1, g2, g3, g4⟩
    refine .inr ⟨fun x => by rw [hb] at x; exact absurd x.1 (by decide), val', rfl, ?_, g2, g3, ?_⟩
    · unfold tabledM; rw [if_pos hb]; exact g1
    · unfold tabledM; rw [if_pos hb]; exact g4
  have hb' : bareL es = false := by simpa using hb
  have hM : tabledM m k es = { m with root := m.root.set k (tabN m k : Int), slots := tabL m k es } := by unfold tabledM; rw [if_neg hb]
  have hin : inPl m k = (((t : Int) != 0) && m.refs.getD t 0 == 1) := by unfold inPl; rw [ht]; simp
  by_cases hp : inPl m k = true
  · have hp' := hp
    rw [hin, Bool.and_eq_true] at hp'
    have ht1 : 1 ≤ t := by have := hp'.1; simp at this; omega
    have hn : tabN m k = t := by unfold tabN; rw [if_pos hp, ht]; simp
    refine (tabled_place m gm rg rc sg sc fg fc na _ nc k t ea en ec es B val w hO e0 e1 e2 e3 hB hk ht he (hfar _) hb' ht1 htl hrf (by simpa using hp'.2)).mono ?_
    rintro r w' ⟨val', rfl, g1, g2, g3, g4⟩
    have hq : tabledM m k es = { m with slots := m.slots.set t (2, ⟨#[]⟩, es) } := by
      rw [hM]
      unfold tabL layS
      rw [hn, if_neg (by omega), set_same m.root k t ht hk]
    exact .inr ⟨fun x => by have := x.2; omega, val', rfl, by rw [hq]; exact g1, g2, g3, by rw [hq]; exact g4⟩
  · have hn : tabN m k = grabN m.slots := by unfold tabN; rw [if_neg hp]
    have hq : tabledM m k es = { m with root := m.root.set k (grabN m.slots : Int), slots := layS m.slots (grabN m.slots) (2, ⟨#[]⟩, es) } := by rw [hM]; unfold tabL; rw [hn]
    rw [hn]
    by_cases ht0 : t = 0
    · subst ht0
      by_cases hg : grabN m.slots = 40
      · refine (tabled_full0 m gm rg rc sg sc fg fc na _ nc k ea en ec es B val w hO e0 e1 e2 e3 hB hk ht he hb' (by omega) hs40 hg).mono ?_
        rintro r w' ⟨v, rfl, g1, g2⟩
        exact .inl ⟨hb', hg, ⟨v, rfl⟩, g1, g2⟩
      · refine (tabled_grab0 m gm rg rc sg sc fg fc na _ nc k ea en ec es B val w hO e0 e1 e2 e3 hB hk ht he (hfar _) hb' (by omega) hs40 hg).mono ?_
        rintro r w' ⟨val', rfl, g1, g2, g3, g4⟩
        exact .inr ⟨fun x => hg x.2, val', rfl, by rw [hq]; exact g1, g2, g3, by rw [hq]; exact g4⟩
    · have h1r : m.refs.getD t 0 ≠ 1 := fun e => hp (by rw [hin, e]; simp; omega)
      by_cases hg : grabN m.slots = 40
      · refine (tabled_full1 m gm rg rc sg sc fg fc na _ nc k t ea en ec es B val w hO e0 e1 e2 e3 hB hk ht (by omega) htl hrf h1r he hb' (by omega) hs40 hg).mono ?_
        rintro r w' ⟨v, rfl, g1, g2⟩
        exact .inl ⟨hb', hg, ⟨v, rfl⟩, g1, g2⟩
      · refine (tabled_grab1 m gm rg rc sg sc fg fc na _ nc k t ea en ec es B val w hO e0 e1 e2 e3 hB hk ht (by omega) htl hrf h1r he (hfar _) hb' (by omega) hs40 hg).mono ?_
        rintro r w' ⟨val', rfl, g1, g2, g3, g4⟩
        exact .inr ⟨fun x => hg x.2, val', rfl, by rw [hq]; exact g1, g2, g3, by rw [hq]; exact g4⟩
end Go.Proofs.Ytehleeibgkpjmac
