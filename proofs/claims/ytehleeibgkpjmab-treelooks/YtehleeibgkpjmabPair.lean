/- Contract of pair: the image that every beginning looks at. -/
import Derived.Test.YtehleeibgkpjmabRefF
namespace Go.Proofs.Ytehleeibgkpjmab
open Go.RowKit Go.Shelf
set_option maxRecDepth 20000

def aaaa : ByteArray := ⟨#[97, 97, 97, 97]⟩
def bbbb : ByteArray := ⟨#[98, 98, 98, 98]⟩
def nOld : ByteArray := ⟨#[111, 108, 100]⟩

/-- The image of pair, where its second table and its Refs may have been changed. -/
def pairD (g : Int) (R T : List Int) : ImgD := ⟨g, [2, 4], [(0, ⟨#[]⟩, []), (1, aaaa, []), (2, ⟨#[]⟩, [1, 0, -1, 1]), (1, bbbb, []), (2, ⟨#[]⟩, T)], R, [(nOld, 4, [2])]⟩
structure PairW (n : Nat) (W : World) (R T : List Int) : Prop where
  root : LAt W (n + 1) [2, 4]
  ta : LAt W (n + 2) [1, 0, -1, 1]
  tb : LAt W (n + 3) T
  slots : W.heap[n + 4]? = some (.cells #[.int .i64 0, .string ⟨#[]⟩, .slice none 0 0, .int .i64 1, .string aaaa, .slice none 0 0, .int .i64 2, .string ⟨#[]⟩, .slice (some ⟨n + 2, 0, none⟩) 4 4, .int .i64 1, .string bbbb, .slice none 0 0, .int .i64 2, .string ⟨#[]⟩, .slice (some ⟨n + 3, 0, none⟩) 4 4] 29)
  refs : LAt W (n + 5) R
  sroot : LAt W (n + 6) [2]
  snaps : W.heap[n + 7]? = some (.cells #[.string nOld, .int .i64 4, .slice (some ⟨n + 6, 0, none⟩) 1 1] 64)

theorem alloc_get (W : World) (o : Obj) (i : Nat) : (W.alloc o).heap[i]? = if i = W.heap.size then some o else W.heap[i]? := by
  show (W.heap.push o)[i]? = _
  rw [Array.getElem?_push]

theorem size_alloc (W : World) (o : Obj) : (W.alloc o).heap.size = W.heap.size + 1 := by simp

set_option linter.unusedSimpArgs false in
theorem pair_at (w : World) : Calls Try.prog 40 #[] w fun r w' => r = .returned (.agg #[.int .i64 6, .slice (some ⟨w.heap.size + 1, 0, none⟩) 2 2, .slice (some ⟨w.heap.size + 4, 0, none⟩) 5 5, .slice (some ⟨w.heap.size + 5, 0, none⟩) 5 5, .slice (some ⟨w.heap.size + 7, 0, none⟩) 1 1]) ∧ PairW w.heap.size w' [0, 2, 2, 1, 1] [3, 0, 0, 0] ∧ Below w.heap.size w w' := by
  go_enter Try.func40, Try.ntmps40
  go_wp2
  refine bodyPost_ret (v := .agg #[.int .i64 6, .slice (some ⟨w.heap.size + 1, 0, none⟩) 2 2, .slice (some ⟨w.heap.size + 4, 0, none⟩) 5 5, .slice (some ⟨w.heap.size + 5, 0, none⟩) 5 5, .slice (some ⟨w.heap.size + 7, 0, none⟩) 1 1]) (by simp [results, Try.results40, go_sem]) rfl ⟨rfl, ⟨?_, ?_, ?_, ?_, ?_, ?_, ?_⟩, ?_⟩
  · show _ = _; simp only [alloc_get, size_alloc, Nat.add_right_cancel_iff, Nat.add_assoc, Nat.reduceAdd, Nat.add_left_cancel_iff, Nat.reduceEqDiff, ↓reduceIte, List.map, Nat.left_eq_add, reduceCtorEq, Nat.add_eq_left, Nat.succ_ne_self]
  · show _ = _; simp only [alloc_get, size_alloc, Nat.add_right_cancel_iff, Nat.add_assoc, Nat.reduceAdd, Nat.add_left_cancel_iff, Nat.reduceEqDiff, ↓reduceIte, List.map, Nat.left_eq_add, reduceCtorEq, Nat.add_eq_left, Nat.succ_ne_self]
  · show _ = _; simp only [alloc_get, size_alloc, Nat.add_right_cancel_iff, Nat.add_assoc, Nat.reduceAdd, Nat.add_left_cancel_iff, Nat.reduceEqDiff, ↓reduceIte, List.map, Nat.left_eq_add, reduceCtorEq, Nat.add_eq_left, Nat.succ_ne_self]
  · show _ = _; simp only [alloc_get, size_alloc, Nat.add_assoc, Nat.reduceAdd, Nat.add_left_cancel_iff, Nat.reduceEqDiff, ↓reduceIte, aaaa, bbbb]
  · show _ = _; simp only [alloc_get, size_alloc, Nat.add_right_cancel_iff, Nat.add_assoc, Nat.reduceAdd, Nat.add_left_cancel_iff, Nat.reduceEqDiff, ↓reduceIte, List.map, Nat.left_eq_add, reduceCtorEq, Nat.add_eq_left, Nat.succ_ne_self]
  · show _ = _; simp only [alloc_get, size_alloc, Nat.add_right_cancel_iff, Nat.add_assoc, Nat.reduceAdd, Nat.add_left_cancel_iff, Nat.reduceEqDiff, ↓reduceIte, List.map, Nat.left_eq_add, reduceCtorEq, Nat.add_eq_left, Nat.succ_ne_self]
  · show _ = _; simp only [alloc_get, size_alloc, Nat.add_assoc, Nat.reduceAdd, Nat.add_left_cancel_iff, Nat.reduceEqDiff, ↓reduceIte, nOld]
  · exact ((((((((Below.refl _ _).alloc (Nat.le_refl _) _).alloc (by simp) _).alloc (by simp; omega) _).alloc (by simp; omega) _).alloc (by simp; omega) _).alloc (by simp; omega) _).alloc (by simp; omega) _).alloc (by simp; omega) _

theorem PairW.below {n : Nat} {W W' : World} {R T : List Int} (h : PairW n W R T) {k : Nat} (hb : Below k W W') (hk : n + 8 ≤ k) : PairW n W' R T :=
  ⟨(hb.block _ (by omega)).trans h.root, (hb.block _ (by omega)).trans h.ta, (hb.block _ (by omega)).trans h.tb, (hb.block _ (by omega)).trans h.slots, (hb.block _ (by omega)).trans h.refs, (hb.block _ (by omega)).trans h.sroot, (hb.block _ (by omega)).trans h.snaps⟩
theorem PairW.size {n : Nat} {W : World} {R T : List Int} (h : PairW n W R T) : n + 8 ≤ W.heap.size := by
  have := (Array.getElem?_eq_some_iff.1 h.snaps).1; omega
theorem cell_of {W : World} {g : Nat} {A : Array Value} {t : TypeId} {fr : Nat × Nat} (h : W.heap[g]? = some (.cells A t fr)) {j : Nat} {v : Value} (hv : A[j]? = some v) : W.cell? ⟨g, j, none⟩ = some v := by
  simp [World.cell?, h, hv]
theorem PairW.img {n : Nat} {W : World} {R T : List Int} (h : PairW n W R T) (hR : R.length = 5) (hT : T.length = 4) (g : Int) :
    Img W (.agg #[.int .i64 g, .slice (some ⟨n + 1, 0, none⟩) 2 2, .slice (some ⟨n + 4, 0, none⟩) 5 5, .slice (some ⟨n + 5, 0, none⟩) 5 5, .slice (some ⟨n + 7, 0, none⟩) 1 1]) (pairD g R T) := by
  refine ⟨_, _, _, _, rfl, h.root.sl rfl (by decide), ⟨some ⟨n + 4, 0, none⟩, 5, rfl, show (5 : Nat) ≤ maxLen by decide, Nat.le_refl _, fun _ => ⟨n + 4, 0, rfl, (Array.getElem?_eq_some_iff.1 h.slots).1, ?_⟩⟩, h.refs.sl hR (by decide), ⟨some ⟨n + 7, 0, none⟩, 1, rfl, show (1 : Nat) ≤ maxLen by decide, Nat.le_refl _, fun _ => ⟨n + 7, 0, rfl, (Array.getElem?_eq_some_iff.1 h.snaps).1, ?_⟩⟩⟩
  · intro j hj
    have h5 : j < 5 := hj
    match j, h5 with
    | 0, _ => exact ⟨_, cell_of h.slots rfl, cell_of h.slots rfl, cell_of h.slots rfl, Sl.nil W⟩
    | 1, _ => exact ⟨_, cell_of h.slots rfl, cell_of h.slots rfl, cell_of h.slots rfl, Sl.nil W⟩
    | 2, _ => exact ⟨_, cell_of h.slots rfl, cell_of h.slots rfl, cell_of h.slots rfl, h.ta.sl rfl (by decide)⟩
    | 3, _ => exact ⟨_, cell_of h.slots rfl, cell_of h.slots rfl, cell_of h.slots rfl, Sl.nil W⟩
    | 4, _ => exact ⟨_, cell_of h.slots rfl, cell_of h.slots rfl, cell_of h.slots rfl, h.tb.sl hT (by decide)⟩
  · intro j hj
    have h1 : j < 1 := hj
    match j, h1 with
    | 0, _ => exact ⟨_, cell_of h.snaps rfl, cell_of h.snaps rfl, cell_of h.snaps rfl, h.sroot.sl rfl (by decide)⟩
theorem LAt.other {W : World} {g g' : Nat} {l : List Int} (h : LAt W g l) (hne : g ≠ g') (j : Nat) (v : Value) : LAt (W.setCell ⟨g', j, none⟩ v) g l := ((Only.set g' W j v).block g hne).trans h
theorem PairW.setRefs {n : Nat} {W : World} {R T : List Int} (h : PairW n W R T) (j : Nat) (x : Int) : PairW n (W.setCell ⟨n + 5, j, none⟩ (.int .i64 x)) (R.set j x) T :=
  ⟨h.root.other (by omega) _ _, h.ta.other (by omega) _ _, h.tb.other (by omega) _ _, ((Only.set (n + 5) W j _).block _ (by omega)).trans h.slots, h.refs.set j x, h.sroot.other (by omega) _ _, ((Only.set (n + 5) W j _).block _ (by omega)).trans h.snaps⟩
theorem PairW.setTab {n : Nat} {W : World} {R T : List Int} (h : PairW n W R T) (j : Nat) (x : Int) : PairW n (W.setCell ⟨n + 3, j, none⟩ (.int .i64 x)) R (T.set j x) :=
  ⟨h.root.other (by omega) _ _, h.ta.other (by omega) _ _, h.tb.set j x, ((Only.set (n + 3) W j _).block _ (by omega)).trans h.slots, h.refs.other (by omega) _ _, h.sroot.other (by omega) _ _, ((Only.set (n + 3) W j _).block _ (by omega)).trans h.snaps⟩
theorem pair_is (w : World) : Calls Try.prog 40 #[] w fun r w' => (∃ v, r = .returned v ∧ Img w' v (pairD 6 [0, 2, 2, 1, 1] [3, 0, 0, 0])) ∧ Below w.heap.size w w' :=
  (pair_at w).mono fun _ _ h => ⟨⟨_, h.1, h.2.1.img rfl rfl 6⟩, h.2.2⟩
end Go.Proofs.Ytehleeibgkpjmab
