/- Contracts of checkAt, firstPages, Read, Write and Resize. -/
import Derived.Test.YtgcfmodkknmifacFlPlain
import Derived.Laws.CopyOwn
import Derived.Deep.OwnRows
namespace Go.Proofs.Ytgcfmodkknmifac
open Go.RowKit
set_option maxRecDepth 20000

theorem Try.size9 : (Try.prog.info? 9).map (·.size) = some 1 := by kernel_rfl
theorem strs_oneCell (ss : List ByteArray) : ∀ u ∈ ss.map Value.string, u.oneCell' = true := by
  intro u hu
  obtain ⟨s, _, rfl⟩ := List.mem_map.1 hu
  rfl

/-- What 'copy(out, l)' does, out just made of n strings. -/
theorem scopy_runs (ao : Option Addr) (n cap : Nat) (xs : List ByteArray) (w : World) (h : Ss w (.slice ao xs.length cap) xs) :
    ∃ W2, (Builtin.copy_ #[40, 40] 3 #[.slice (some ⟨w.heap.size, 0, none⟩) n n, .slice ao xs.length cap]).run Try.prog (w.alloc (.cells (madeCells #[.string ByteArray.empty] n) 9)) = .ok (.int .i64 (min xs.length n : Nat)) W2 ∧
      W2.heap[w.heap.size]? = some (.cells ((rowF xs (min xs.length n) n (min xs.length n)).map Value.string).toArray 9 (0, 0)) ∧ Below w.heap.size w W2 := by
  have hg := heap_alloc_new w (.cells (madeCells #[.string ByteArray.empty] n) 9)
  have hrow : (rowF xs (min xs.length n) n (min xs.length n)).map Value.string = (xs.take (min xs.length n)).map Value.string ++ List.replicate (n - min xs.length n) (Value.string ByteArray.empty) := by
    unfold rowF; simp
  have b0 : Below w.heap.size w (w.alloc (.cells (madeCells #[.string ByteArray.empty] n) 9)) := (Below.refl _ _).alloc (Nat.le_refl _) _
  by_cases h0 : min xs.length n = 0
  · have hrun := run_copy_none (P := Try.prog) (w.alloc (.cells (madeCells #[.string ByteArray.empty] n) 9)) 40 40 3 9 (some ⟨w.heap.size, 0, none⟩) ao n n xs.length cap Try.underlying40 Try.size9 h0
    refine ⟨_, hrun.trans (by rw [h0]; rfl), ?_, b0⟩
    rw [hg, hrow, h0]
    congr 2
    apply Array.ext'
    rw [toList_madeCells_one]
    simp
  · obtain ⟨b, off, rfl, hlt, hcell⟩ := h.at (by omega)
    obtain ⟨X, hX⟩ : ∃ X, X = (xs.take (min xs.length n)).map Value.string := ⟨_, rfl⟩
    have hXl : X.length = min xs.length n := by rw [hX]; simp
    have hsrc : ∀ j v, X[j]? = some v → (w.alloc (.cells (madeCells #[.string ByteArray.empty] n) 9)).cell? ((⟨b, off, none⟩ : Addr).add j) = some v := by
      intro j v hj
      have hjn : j < min xs.length n := by have := (List.getElem?_eq_some_iff.1 hj).1; rw [hXl] at this; exact this
      have hjx : j < xs.length := by omega
      rw [hX, List.getElem?_map, List.getElem?_take, if_pos hjn] at hj
      have e : v = .string (xs.getD j ByteArray.empty) := by
        simp [List.getD, hjx] at hj ⊢
        exact hj.symm
      rw [e, addr_add]
      exact (World.cell?_alloc_past _ _ _ hlt).trans (hcell j hjx)
    have hrun := run_copy_row (P := Try.prog) _ 40 40 3 9 w.heap.size 0 n n ⟨b, off, none⟩ xs.length cap _ 9 X Try.underlying40 Try.size9 hg (by rw [hXl]) hsrc (by rw [hXl, size_madeCells]; omega) (by rw [hX]; exact strs_oneCell _)
    refine ⟨_, hrun.trans (by rw [hXl]; rfl), ?_, below_setRow b0 (Nat.le_refl _) _⟩
    rw [setRow_heap _ _ _ _ _ _ hg, hrow, toList_madeCells_one, ← hX]
    simp

end Go.Proofs.Ytgcfmodkknmifac
