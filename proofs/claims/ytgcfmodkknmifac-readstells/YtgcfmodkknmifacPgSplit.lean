/- Contracts of Split and of the document's SplitOf: the same pages. -/
import Derived.Test.YtgcfmodkknmifacPgZero
namespace Go.Proofs.Ytgcfmodkknmifac
open Go.RowKit
set_option maxRecDepth 20000

/-- What is answered: pages, an error; new memory. -/
def AnsS (w : World) (xs : List ByteArray) (err : Int) (r : Ending) (w' : World) : Prop :=
  ∃ v', r = .returned (.tuple #[v', .int .i64 err]) ∧ Ss w' v' xs ∧ Below w.heap.size w w'
theorem AnsS.bad (w : World) {xs : List ByteArray} {err : Int} (hx : xs = []) : AnsS w xs err (.returned (.tuple #[.slice none 0 0, .int .i64 err])) w :=
  ⟨_, rfl, hx ▸ Ss.nil w, Below.refl _ _⟩

theorem zeros_int (i : Int) (w : World) (h0 : 0 ≤ i) (h4 : i ≤ 4) : Calls Try.prog 106 #[.int .i64 i] w fun r w' => (∃ z : ByteArray, r = .returned (.string z) ∧ (z.size : Int) ≤ 4 ∧ Hid (z = ofBytes (List.replicate i.toNat 0))) ∧ Below w.heap.size w w' := by
  obtain ⟨n, rfl⟩ := Int.eq_ofNat_of_zero_le h0
  refine (zeros_any n w (by omega)).mono fun e w' h => ⟨⟨_, h.1, ?_, by rw [Int.toNat_natCast]; rfl⟩, h.2⟩
  rw [← bytes_size, bytes_of]
  simp; omega

end Go.Proofs.Ytgcfmodkknmifac
