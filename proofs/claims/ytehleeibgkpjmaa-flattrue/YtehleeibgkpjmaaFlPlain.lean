/- Flat images, plainly: what Read, Write and Resize answer, over lists of pages. -/
import Derived.Test.YtehleeibgkpjmaaStrs
import Derived.Test.YtehleeibgkpjmaaZ4
namespace Go.Proofs.Ytehleeibgkpjmaa
open Go.RowKit
set_option maxRecDepth 20000

def atE (xs : List ByteArray) (n : Int) : Int := if ckP xs = 0 then (if 0 ≤ n ∧ n < (xs.length : Int) then 0 else 3) else ckP xs
def freadA (xs : List ByteArray) (n : Int) : ByteArray := if atE xs n = 0 then xs.getD n.toNat ByteArray.empty else ByteArray.empty
def fwE (xs : List ByteArray) (n : Int) (page : ByteArray) : Int := if atE xs n = 0 then (if page.size = 4 then 0 else 1) else atE xs n
def fwA (xs : List ByteArray) (n : Int) (page : ByteArray) : List ByteArray := if fwE xs n page = 0 then xs.set n.toNat page else []
def frE (xs : List ByteArray) (g : Int) : Int := if ckP xs = 0 then (if 0 ≤ g ∧ g ≤ 16 then 0 else 3) else ckP xs
def frR (xs : List ByteArray) (g : Nat) : List ByteArray := xs.take g ++ List.replicate (g - xs.length) Z4
def frA (xs : List ByteArray) (g : Int) : List ByteArray := if frE xs g = 0 then frR xs g.toNat else []

theorem atE_parts {xs : List ByteArray} {n : Int} (h : atE xs n = 0) : ckP xs = 0 ∧ 0 ≤ n ∧ n < (xs.length : Int) := by
  unfold atE at h
  split at h
  · rename_i h0
    split at h
    · rename_i h1; exact ⟨h0, h1⟩
    · simp at h
  · exact absurd h (by assumption)
theorem frR_length (xs : List ByteArray) (g : Nat) : (frR xs g).length = g := by unfold frR; simp; omega
theorem frR_all (xs : List ByteArray) : frR xs xs.length = xs := by unfold frR; simp

/-- c pages as they were, then Zero up to place k, then nothing yet up to n. -/
def rowF (xs : List ByteArray) (c n k : Nat) : List ByteArray := xs.take c ++ List.replicate (k - c) Z4 ++ List.replicate (n - k) ByteArray.empty
theorem rowF_length {xs : List ByteArray} {c n k : Nat} (hc : c ≤ xs.length) (hk : c ≤ k) (hn : k ≤ n) : (rowF xs c n k).length = n := by unfold rowF; simp; omega
theorem rowF_step {xs : List ByteArray} {c n k : Nat} (hc : c ≤ xs.length) (hk : c ≤ k) (hn : k < n) : (rowF xs c n k).set k Z4 = rowF xs c n (k + 1) := by
  unfold rowF
  have hl : (xs.take c ++ List.replicate (k - c) Z4).length = k := by simp; omega
  rw [List.set_append_right _ _ (by omega), hl, Nat.sub_self]
  obtain ⟨d, hd⟩ : ∃ d, n - k = d + 1 := ⟨n - k - 1, by omega⟩
  rw [hd, List.replicate_succ, List.set_cons_zero, show n - (k + 1) = d by omega, show k + 1 - c = (k - c) + 1 by omega, List.replicate_succ', List.append_assoc, List.append_assoc, List.append_assoc]
  rfl
theorem rowF_end {xs : List ByteArray} {n : Nat} : rowF xs (min xs.length n) n n = frR xs n := by
  unfold rowF frR
  rw [Nat.sub_self, List.replicate_zero, List.append_nil]
  congr 1
  · rw [Nat.min_comm, List.take_eq_take_iff]; omega
  · congr 1; omega
end Go.Proofs.Ytehleeibgkpjmaa
