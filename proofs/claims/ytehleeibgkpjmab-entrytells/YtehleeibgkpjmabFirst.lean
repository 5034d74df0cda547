/- Contract of firstEntries: a list of its own, the first n as they were, 0 behind. -/
import Derived.Test.YtehleeibgkpjmabChk
import Derived.Laws.CopyOwn
namespace Go.Proofs.Ytehleeibgkpjmab
open Go.RowKit
set_option maxRecDepth 20000

theorem Try.size3 : (Try.prog.info? 3).map (·.size) = some 1 := by kernel_rfl

theorem splice_row (xs : List Int) (n : Nat) (h4 : xs.length = 4) (hn : n ≤ 4) :
    splice [Value.int .i64 0, Value.int .i64 0, Value.int .i64 0, Value.int .i64 0] 0 ((xs.take n).map (Value.int .i64)) = (cutR xs n).map (Value.int .i64) := by
  match xs, h4 with
  | [a, b, c, d], _ =>
    match n, hn with
    | 0, _ => rfl
    | 1, _ => rfl
    | 2, _ => rfl
    | 3, _ => rfl
    | 4, _ => rfl

theorem set_row (xs : List Int) (n k : Nat) (h4 : xs.length = 4) (hn : n ≤ k) (hk : k < 4) :
    ((cutR xs n).map (Value.int .i64)).toArray.setIfInBounds k (Value.int .i64 0) = ((cutR xs n).map (Value.int .i64)).toArray := by
  match xs, h4 with
  | [a, b, c, d], _ =>
    match k, hk with
    | 0, _ => match n, hn with
      | 0, _ => rfl
    | 1, _ => match n, hn with
      | 0, _ => rfl
      | 1, _ => rfl
    | 2, _ => match n, hn with
      | 0, _ => rfl
      | 1, _ => rfl
      | 2, _ => rfl
    | 3, _ => match n, hn with
      | 0, _ => rfl
      | 1, _ => rfl
      | 2, _ => rfl
      | 3, _ => rfl

theorem cutR_length (xs : List Int) (n : Nat) (h4 : xs.length = 4) (hn : n ≤ 4) : (cutR xs n).length = 4 := by
  unfold cutR; simp; omega

/-- What 'copy(out, t[:n])' does, out just made. -/
theorem copy_runs (b off cap n : Nat) (xs : List Int) (w : World) (h4 : xs.length = 4) (hn : n ≤ 4) (hb : b < w.heap.size) (hc : ∀ j, j < 4 → w.cell? ⟨b, off + j, none⟩ = some (.int .i64 (xs.getD j 0))) :
    ∃ W2, (Builtin.copy_ #[27, 27] 3 #[.slice (some ⟨w.heap.size, 0, none⟩) 4 4, .slice (some ⟨b, off, none⟩) n cap]).run Try.prog (w.alloc (.cells #[.int .i64 0, .int .i64 0, .int .i64 0, .int .i64 0] 3)) = .ok (.int .i64 n) W2 ∧
      W2.heap[w.heap.size]? = some (.cells ((cutR xs n).map (Value.int .i64)).toArray 3 (0, 0)) ∧ Below w.heap.size w W2 := by
  obtain ⟨X, hX⟩ : ∃ X, X = (xs.take n).map (Value.int .i64) := ⟨_, rfl⟩
  have hXl : X.length = n := by rw [hX]; simp; rw [h4]; omega
  have hsrc : ∀ j v, X[j]? = some v → (w.alloc (.cells #[.int .i64 0, .int .i64 0, .int .i64 0, .int .i64 0] 3)).cell? ((⟨b, off, none⟩ : Addr).add j) = some v := by
    intro j v hj
    have hjn : j < n := by have := (List.getElem?_eq_some_iff.1 hj).1; rw [hXl] at this; exact this
    rw [hX] at hj
    have : v = .int .i64 (xs.getD j 0) := by
      rw [List.getElem?_map, List.getElem?_take, if_pos hjn] at hj
      simp [List.getD, show j < xs.length by omega] at hj ⊢
      exact hj.symm
    rw [this]
    rw [addr_add]
    exact (World.cell?_alloc_past _ _ _ hb).trans (hc j (by omega))
  have hg := heap_alloc_new w (.cells #[.int .i64 0, .int .i64 0, .int .i64 0, .int .i64 0] 3)
  have hrun := run_copy_row (P := Try.prog) _ 27 27 3 3 w.heap.size 0 4 4 ⟨b, off, none⟩ n cap _ 3 X Try.underlying27 Try.size3 hg (by rw [hXl]; exact (Nat.min_eq_left hn).symm) hsrc (by rw [hXl]; simp; omega) (by rw [hX]; exact ints_oneCell _ _)
  refine ⟨_, hrun.trans (by rw [hXl]; rfl), ?_, below_setRow ((Below.refl _ _).alloc (Nat.le_refl _) _) (Nat.le_refl _) _⟩
  rw [setRow_heap _ _ _ _ _ _ hg, hX]
  have := splice_row xs n h4 hn
  unfold splice at this
  rw [← this]
  simp [h4]

set_option maxHeartbeats 400000 in
theorem first_at (b off cap n : Nat) (xs : List Int) (w : World) (h4 : xs.length = 4) (hn : n ≤ 4) (hcap : 4 ≤ cap) (hb : b < w.heap.size) (hc : ∀ j, j < 4 → w.cell? ⟨b, off + j, none⟩ = some (.int .i64 (xs.getD j 0))) :
    Calls Try.prog 36 #[.slice (some ⟨b, off, none⟩) 4 cap, .int .i64 n] w fun r w' => ∃ g cap', r = .returned (.slice (some ⟨g, 0, none⟩) 4 cap') ∧ w'.ownsRow w.heap.size 3 1 (.slice (some ⟨g, 0, none⟩) 4 cap') 4 ((cutR xs n).map (.int .i64)) ∧ Below w.heap.size w w' := by
  obtain ⟨W2, hcp, hg2, hB2⟩ := copy_runs b off cap n xs w h4 hn hb hc
  clear hc
  have HL : Hid ((cutR xs n).length = 4) := cutR_length xs n h4 hn
  have HS : Hid (∀ k, n ≤ k → k < 4 → ((cutR xs n).map (Value.int .i64)).toArray.setIfInBounds k (Value.int .i64 0) = ((cutR xs n).map (Value.int .i64)).toArray) := fun k h1 h2 => set_row xs n k h4 h1 h2
  obtain ⟨R, hR⟩ : ∃ R, R = (cutR xs n).map (Value.int .i64) := ⟨_, rfl⟩
  rw [← hR] at hg2 HS ⊢
  have HR : Hid (R = (cutR xs n).map (Value.int .i64)) := hR
  have HG2 : Hid (W2.heap[w.heap.size]? = some (.cells R.toArray 3 (0, 0))) := hg2
  clear hR hg2 h4
  have hmk : ∀ w, (Instr.makeSlice 27 (.int .i64 4) (.int .i64 4)).run Try.prog w = .ok (.slice (some ⟨w.heap.size, 0, none⟩) 4 4) (w.alloc (.cells #[.int .i64 0, .int .i64 0, .int .i64 0, .int .i64 0] 3)) := fun _ => by kernel_rfl
  have hn' : (n : Int) ≤ 4 := by omega
  go_enter Try.func36, Try.ntmps36
  go_wp2
  clear hcp
  go_loopw [6] (fun i wr => ∃ k : Nat, n ≤ k ∧ k ≤ 4 ∧ i = .int .i64 k ∧ wr.heap[w.heap.size]? = some (.cells R.toArray 3 (0, 0)) ∧ Below w.heap.size w wr) (fun i _ => 4 - (intOf i).toNat)
  case atStart => exact ⟨n, Nat.le_refl _, hn, rfl, HG2.out, hB2⟩
  case round =>
    obtain ⟨k, hk1, hk, rfl, hg, hbel⟩ := hrel
    have HG : Hid (wr.heap[w.heap.size]? = some (.cells R.toArray 3 (0, 0))) := hg
    clear hg
    by_cases hlt : k < 4
    · have hfr : wr.frozen? ⟨w.heap.size, k, none⟩ = false := frozen_of_row _ _ _ _ _ HG.out
      obtain ⟨u, hcl⟩ : ∃ u, wr.cell? ⟨w.heap.size, k, none⟩ = some u := by
        rw [cell_of_row _ _ _ _ _ _ HG.out]
        have : k < R.length := by rw [HR.out]; simp; rw [HL.out]; exact hlt
        exact ⟨R[k], by simp [this]⟩
      go_wp2
      go_roundw
      case rel => exact ⟨k + 1, by omega, by omega, by go_num, by rw [heap_setCell_same _ _ _ _ _ _ HG.out, HS.out k hk1 hlt], hbel.setCell (Nat.le_refl _) _⟩
      case measure => simp [intOf]; omega
    · have e4 : k = 4 := by omega
      subst e4
      go_wp2
      go_ret
      exact ⟨w.heap.size, 4, rfl, ⟨by rw [HR.out]; simp; exact HL.out, .inr ⟨w.heap.size, 4, R.toArray, rfl, Nat.le_refl _, HG.out, Nat.le_refl _, by decide, by simp; rw [HR.out]; simp; exact HL.out, by rw [List.take_of_length_le]; rw [HR.out]; simp; rw [HL.out]; exact Nat.le_refl _⟩⟩, hbel⟩
end Go.Proofs.Ytehleeibgkpjmab
