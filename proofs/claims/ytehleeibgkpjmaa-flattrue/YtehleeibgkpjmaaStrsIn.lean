/- From the reading of an argument to what it holds: slices of strings. -/
import Derived.Test.YtehleeibgkpjmaaPChk
import Derived.ProofKit
import Derived.SliceStrings
namespace Go.Proofs.Ytehleeibgkpjmaa
open Go.RowKit Go.ChangeShapes Go.WideShapes Go.ChangeAt
set_option maxRecDepth 20000

theorem cellsStr : Try.prog.cellsOf 9 = 1 := by kernel_rfl
variable {H : Type} {enc : TypeId × Value → H} {w : World} {base : Nat} {spare : Nat → Bool} {held : Bool}

theorem ss_of_trod {n : Nat} {cs : List Value} {x : DataW H × List MemPlace} (h : DataW.trod enc Try.prog w base spare held n 22 cs = some x) : ∃ v xs, cs = [v] ∧ Ss w v xs ∧ ∀ s ∈ xs, s.size ≤ maxLen := by
  rcases open_strings Try.underlying22 Try.underlying9 cellsStr h with ⟨rfl, _⟩ | ⟨a, l, c, ss, rfl, _, hl, hm, hz, _, hcell, hws⟩
  · exact ⟨_, [], rfl, Ss.nil w, by simp⟩
  · have hlz : l ≤ ss.length := by rw [hz]; split <;> omega
    have hlen : (ss.take l).length = l := by simp; omega
    refine ⟨_, ss.take l, rfl, ⟨some a, c, by rw [hlen], by rw [hlen]; omega, by rw [hlen]; exact hl, fun hne => ?_⟩, fun s hs => hws s (List.mem_of_mem_take hs)⟩
    have hpos : 0 < l := by
      rcases Nat.eq_zero_or_pos l with e | e
      · subst e; simp at hne
      · exact e
    have h0 := hcell 0 (by omega)
    obtain ⟨b, off, spot⟩ := a
    have hspot : spot = none := by simpa [Addr.add] using World.cell?_spot h0
    subst hspot
    refine ⟨b, off, rfl, World.block_lt_of_cell? w _ (by rw [addr_add] at h0; exact h0), fun j hj => ?_⟩
    rw [hlen] at hj
    have hj' := hcell j (by omega)
    rw [addr_add] at hj'
    rw [hj']
    simp [List.getD, hj]

theorem ss_of_arg {n : Nat} {v : Value} {x : DataW H × List MemPlace} (h : DataW.trod enc Try.prog w base spare held n 22 v.cells.toList = some x) (hv : v.cells.toList = [v]) : ∃ xs, Ss w v xs := by
  obtain ⟨v', xs, e, hs, _⟩ := ss_of_trod h
  rw [hv] at e
  simp at e
  subst e
  exact ⟨xs, hs⟩
end Go.Proofs.Ytehleeibgkpjmaa
