/- Contracts of checkAt, firstPages, Read, Write and Resize. -/
import Derived.Test.YtehleeibgkpjmaaFlPlain
import Derived.Test.YtehleeibgkpjmaaPgZero
import Derived.Laws.CopyOwn
import Derived.Deep.OwnRows
namespace Go.Proofs.Ytehleeibgkpjmaa
open Go.RowKit
set_option maxRecDepth 20000

theorem Try.size9 : (Try.prog.info? 9).map (·.size) = some 1 := by kernel_rfl
theorem strs_oneCell (ss : List ByteArray) : ∀ u ∈ ss.map Value.string, u.oneCell' = true := by
  intro u hu
  obtain ⟨s, _, rfl⟩ := List.mem_map.1 hu
  rfl

/-- What 'copy(out, l)' does, out just made of n strings. -/
theorem scopy_runs (ao : Option Addr) (n cap : Nat) (xs : List ByteArray) (w : World) (h : Ss w (.slice ao xs.length cap) xs) :
    ∃ W2, (Builtin.copy_ #[22, 22] 3 #[.slice (some ⟨w.heap.size, 0, none⟩) n n, .slice ao xs.length cap]).run Try.prog (w.alloc (.cells (madeCells #[.string ByteArray.empty] n) 9)) = .ok (.int .i64 (min xs.length n : Nat)) W2 ∧
      W2.heap[w.heap.size]? = some (.cells ((rowF xs (min xs.length n) n (min xs.length n)).map Value.string).toArray 9 (0, 0)) ∧ Below w.heap.size w W2 := by
  have hg := heap_alloc_new w (.cells (madeCells #[.string ByteArray.empty] n) 9)
  have hrow : (rowF xs (min xs.length n) n (min xs.length n)).map Value.string = (xs.take (min xs.length n)).map Value.string ++ List.replicate (n - min xs.length n) (Value.string ByteArray.empty) := by
    unfold rowF; simp
  have b0 : Below w.heap.size w (w.alloc (.cells (madeCells #[.string ByteArray.empty] n) 9)) := (Below.refl _ _).alloc (Nat.le_refl _) _
  by_cases h0 : min xs.length n = 0
  · have hrun := run_copy_none (P := Try.prog) (w.alloc (.cells (madeCells #[.string ByteArray.empty] n) 9)) 22 22 3 9 (some ⟨w.heap.size, 0, none⟩) ao n n xs.length cap Try.underlying22 Try.size9 h0
    refine ⟨_, hrun.trans (by rw [h0]; rfl), ?_, b0⟩
    rw [hg, hrow, h0]
    congr 2
    apply Array.ext'
    rw [toList_madeCells_one]
    simp
  · obtain ⟨b, off, rfl, hlt, hcell⟩ := h.at (by omega)
    obtain ⟨X, hX⟩ : ∃ X, X = (xs.take (min xs.length n)).map Value.string := ⟨_, rfl⟩
    have hXl : X.length = min xs.length n := by rw [hX]; simp
    have hsrc : ∀ j v, X[j]? = some v → (w.alloc (.cells (madeCells #[.string ByteArray.empty] n) 9)).cell? ((⟨b, off, none⟩ : Addr).add j) = some v := by
      intro j v hj
      have hjn : j < min xs.length n := by have := (List.getElem?_eq_some_iff.1 hj).1; rw [hXl] at this; exact this
      have hjx : j < xs.length := by omega
      rw [hX, List.getElem?_map, List.getElem?_take, if_pos hjn] at hj
      have e : v = .string (xs.getD j ByteArray.empty) := by
        simp [List.getD, hjx] at hj ⊢
        exact hj.symm
      rw [e, addr_add]
      exact (World.cell?_alloc_past _ _ _ hlt).trans (hcell j hjx)
    have hrun := run_copy_row (P := Try.prog) _ 22 22 3 9 w.heap.size 0 n n ⟨b, off, none⟩ xs.length cap _ 9 X Try.underlying22 Try.size9 hg (by rw [hXl]) hsrc (by rw [hXl, size_madeCells]; omega) (by rw [hX]; exact strs_oneCell _)
    refine ⟨_, hrun.trans (by rw [hXl]; rfl), ?_, below_setRow b0 (Nat.le_refl _) _⟩
    rw [setRow_heap _ _ _ _ _ _ hg, hrow, toList_madeCells_one, ← hX]
    simp

set_option maxHeartbeats 1000000 in
theorem firstPages_at (ao : Option Addr) (n m cap : Nat) (xs : List ByteArray) (w : World) (hm : xs.length = m) (h16 : m ≤ 16) (hn : n ≤ 16) (h : Ss w (.slice ao m cap) xs) :
    Calls Try.prog 41 #[.slice ao m cap, .int .i64 n] w fun r w' => ∃ g cap', r = .returned (.slice (some ⟨g, 0, none⟩) n cap') ∧ w'.ownsRow w.heap.size 9 1 (.slice (some ⟨g, 0, none⟩) n cap') n ((frR xs n).map Value.string) ∧ Below w.heap.size w w' := by
  subst hm
  obtain ⟨W2, hcp, hg2, hB2⟩ := scopy_runs ao n cap xs w h
  obtain ⟨c, hc⟩ : ∃ c, min xs.length n = c := ⟨_, rfl⟩
  have hc1 : c ≤ xs.length := by omega
  have hc2 : c ≤ n := by omega
  have HF : Hid (rowF xs c n n = frR xs n) := by show _ = _; rw [← hc]; exact rowF_end
  rw [hc] at hcp hg2
  have HG2 : Hid (W2.heap[w.heap.size]? = some (.cells ((rowF xs c n c).map Value.string).toArray 9 (0, 0))) := hg2
  have hmk := run_make_row' (P := Try.prog) 22 9 (.string ByteArray.empty) 16 Try.underlying22 Try.info9 rfl .i64 .i64 n (by omega) (by omega)
  have hz2 : w.heap.size < W2.heap.size := (Array.getElem?_eq_some_iff.1 hg2).1
  clear hg2 hc
  go_enter Try.func41, Try.ntmps41
  go_wp2
  clear hcp
  go_loopw [6] (fun i wr => ∃ k : Nat, c ≤ k ∧ k ≤ n ∧ i = .int .i64 k ∧ Hid (wr.heap[w.heap.size]? = some (.cells ((rowF xs c n k).map Value.string).toArray 9 (0, 0))) ∧ Below w.heap.size w wr ∧ w.heap.size < wr.heap.size) (fun i _ => n - (intOf i).toNat)
  case atStart => exact ⟨c, Nat.le_refl _, hc2, rfl, HG2, hB2, hz2⟩
  case round =>
    obtain ⟨k, hk1, hk, rfl, HG, hbel, hz⟩ := hrel
    by_cases hlt : k < n
    · have hki : (k : Int) < (n : Int) := by omega
      go_wp2_with (go_at_call 16; refine (zero_any _).mono ?_; rintro e w1 ⟨rfl, b1⟩; have HG1 : Hid (w1.heap[w.heap.size]? = some (.cells ((rowF xs c n k).map Value.string).toArray 9 (0, 0))) := (b1.block _ hz).trans HG.out; have hfr : w1.frozen? ⟨w.heap.size, k, none⟩ = false := frozen_of_row _ _ _ _ _ HG1.out; obtain ⟨u, hcl⟩ : ∃ u, w1.cell? ⟨w.heap.size, k, none⟩ = some u := row_cell HG1.out (by rw [rowF_length hc1 hk1 hk]; exact hlt))
      go_roundw
      case rel => exact ⟨k + 1, by omega, by omega, by go_num, by
        show _ = _
        rw [heap_setCell_same _ _ _ _ _ _ HG1.out, ← rowF_step hc1 hk1 hlt, List.map_set, List.setIfInBounds_toArray], (Below.on'' hbel b1 (Nat.le_of_lt hz)).setCell (Nat.le_refl _) _, by
        have := b1.size
        simp [World.setCell]; omega⟩
      case measure => simp [intOf]; omega
    · have e4 : k = n := by omega
      subst e4
      have HG' : Hid (wr.heap[w.heap.size]? = some (.cells ((frR xs k).map Value.string).toArray 9 (0, 0))) := by rw [← HF.out]; exact HG
      go_wp2
      go_ret
      exact ⟨w.heap.size, k, rfl, ⟨by simp [frR_length], .inr ⟨w.heap.size, k, _, rfl, Nat.le_refl _, HG'.out, Nat.le_refl _, by unfold maxLen; omega, by simp [frR_length], by rw [List.take_of_length_le (by simp [frR_length])]⟩⟩, hbel⟩

theorem firstPages_any (v : Value) (xs : List ByteArray) (g : Int) (w : World) (h : Ss w v xs) (h16 : xs.length ≤ 16) (h0 : 0 ≤ g) (hg : g ≤ 16) (n : Nat) (hn : g.toNat = n) :
    Calls Try.prog 41 #[v, .int .i64 g] w fun r w' => ∃ b cap', r = .returned (.slice (some ⟨b, 0, none⟩) n cap') ∧ Hid (w'.ownsRow w.heap.size 9 1 (.slice (some ⟨b, 0, none⟩) n cap') n ((frR xs n).map Value.string)) ∧ Below w.heap.size w w' := by
  obtain ⟨ao, cap, rfl⟩ := h.form
  obtain ⟨g, rfl⟩ := Int.eq_ofNat_of_zero_le h0
  rw [Int.toNat_natCast] at hn
  subst hn
  exact firstPages_at ao g _ cap xs w rfl h16 (by omega) h
end Go.Proofs.Ytehleeibgkpjmaa
