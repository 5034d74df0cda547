/- The walk of TreeShapes. -/
import Derived.Test.YtehleeibgkpjmabTBegun
namespace Go.Proofs.Ytehleeibgkpjmab
open Go.RowKit Go.Shelf
set_option maxRecDepth 20000

set_option maxRecDepth 20000 in
set_option maxHeartbeats 4000000 in
theorem tshapes_at (gm : Int) (ra : Option Addr) (rn rc : Nat) (sa : Option Addr) (sn sc : Nat) (fa : Option Addr) (fn fc : Nat) (na : Option Addr) (nn nc : Nat) (m : ImgD) (w : World) (h : Img w (.agg #[.int .i64 gm, .slice ra rn rc, .slice sa sn sc, .slice fa fn fc, .slice na nn nc]) m) :
    Calls Try.prog 6 #[.agg #[.int .i64 gm, .slice ra rn rc, .slice sa sn sc, .slice fa fn fc, .slice na nn nc]] w fun r w' => r = .returned (.bool true) ∧ Below w.heap.size w w' := by
  have b0 : Below w.heap.size w (w.alloc (.cells #[.int .i64 gm, .slice ra rn rc, .slice sa sn sc, .slice fa fn fc, .slice na nn nc] 44)) := (Below.refl _ _).alloc (Nat.le_refl _) _
  have m0 : (w.alloc (.cells #[.int .i64 gm, .slice ra rn rc, .slice sa sn sc, .slice fa fn fc, .slice na nn nc] 44)).heap[w.heap.size]? = some (.cells #[.int .i64 gm, .slice ra rn rc, .slice sa sn sc, .slice fa fn fc, .slice na nn nc] 44) := World.alloc_heap_new _ _
  have z0 : w.heap.size < (w.alloc (.cells #[.int .i64 gm, .slice ra rn rc, .slice sa sn sc, .slice fa fn fc, .slice na nn nc] 44)).heap.size := by simp
  obtain ⟨E, hE⟩ : ∃ E, shapeE m = E := ⟨_, rfl⟩
  have hs := fun W (hW : Below w.heap.size w W) => shape_is (h.below hW) hE
  have hr := fun W (hW : Below w.heap.size w W) => shapeOf_is (h.below hW) hE
  obtain ⟨c0, c1, c2, c3, c4⟩ := five m0
  clear h hE
  go_enter Try.func6, Try.ntmps6
  go_wp2_with fail
  go_region_held3 (fun w' => w'.cell? ⟨w.heap.size, 0, none⟩ = some (.int .i64 gm) ∧ w'.cell? ⟨w.heap.size, 0 + 1, none⟩ = some (.slice ra rn rc) ∧ w'.cell? ⟨w.heap.size, 0 + 1 + 1, none⟩ = some (.slice sa sn sc) ∧ w'.cell? ⟨w.heap.size, 0 + 1 + 1 + 1, none⟩ = some (.slice fa fn fc) ∧ w'.cell? ⟨w.heap.size, 0 + 1 + 1 + 1 + 1, none⟩ = some (.slice na nn nc)) (first | exact ⟨f0, f1, f2, f3, f4⟩ | exact ⟨e0, e1, e2, e3, e4⟩ | exact ⟨d0, d1, d2, d3, d4⟩ | exact ⟨c0, c1, c2, c3, c4⟩)
    (first
    | (go_at_call 23; refine (treeBegun_any _).mono ?_; rintro e w1 ⟨rfl, b1⟩; have b1 := below_drew b1; have m1 := cells_below m0 b1 z0; have hB1 := Below.on b0 b1; have z1 := (Array.getElem?_eq_some_iff.1 m1).1; obtain ⟨d0, d1, d2, d3, d4⟩ := five m1)
    | (go_at_call 24; first | (refine (hs _ hB3).mono ?_; rintro e w2 ⟨rfl, b2⟩; have m2 := cells_below m3 b2 z3; have hB2 := Below.on hB3 b2; have z2 := (Array.getElem?_eq_some_iff.1 m2).1; obtain ⟨e0, e1, e2, e3, e4⟩ := five m2) | (refine (hs _ hB1).mono ?_; rintro e w2 ⟨rfl, b2⟩; have m2 := cells_below m1 b2 z1; have hB2 := Below.on hB1 b2; have z2 := (Array.getElem?_eq_some_iff.1 m2).1; obtain ⟨e0, e1, e2, e3, e4⟩ := five m2))
    | (go_at_call 25; first | (refine (hr _ hB2).mono ?_; rintro e w3 ⟨rfl, b3⟩; have m3 := cells_below m2 b3 z2; have hB3 := Below.on hB2 b3; have z3 := (Array.getElem?_eq_some_iff.1 m3).1; obtain ⟨f0, f1, f2, f3, f4⟩ := five m3) | (refine (hr _ hB1).mono ?_; rintro e w3 ⟨rfl, b3⟩; have m3 := cells_below m1 b3 z1; have hB3 := Below.on hB1 b3; have z3 := (Array.getElem?_eq_some_iff.1 m3).1; obtain ⟨f0, f1, f2, f3, f4⟩ := five m3)))
  all_goals
    go_wp2_with fail
    go_ret
    first | exact ⟨by simp, hB3⟩ | exact ⟨by simp, hB2⟩
theorem tshapes_is {v : Value} {m : ImgD} {w : World} (h : Img w v m) : Calls Try.prog 6 #[v] w fun r w' => r = .returned (.bool true) ∧ Below w.heap.size w w' := by
  have h' := h
  obtain ⟨ra, rc, sa, sc, fa, fc, na, nc, rfl, _⟩ := h.parts
  exact tshapes_at m.guest ra _ rc sa _ sc fa _ fc na _ nc m w h'
end Go.Proofs.Ytehleeibgkpjmab
