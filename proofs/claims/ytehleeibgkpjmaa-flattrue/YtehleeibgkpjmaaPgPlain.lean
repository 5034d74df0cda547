/- Pages, plainly: which pages some bytes are, and what is joined; lists of bytes alone. -/
import Derived.Test.YtehleeibgkpjmaaStrs
import Derived.Lib.Strings
import Derived.Lib.Join
import Derived.Lib.Repeat
namespace Go.Proofs.Ytehleeibgkpjmaa
open Go.RowKit
set_option maxRecDepth 20000

def bytes (s : ByteArray) : List UInt8 := s.data.toList
def ofBytes (l : List UInt8) : ByteArray := ⟨l.toArray⟩
theorem bytes_of (l : List UInt8) : bytes (ofBytes l) = l := by simp [bytes, ofBytes]
theorem of_bytes (s : ByteArray) : ofBytes (bytes s) = s := by cases s; rfl
theorem bytes_inj {a b : ByteArray} (h : bytes a = bytes b) : a = b := by rw [← of_bytes a, ← of_bytes b, h]
theorem bytes_size (s : ByteArray) : (bytes s).length = s.size := by cases s; rfl
theorem bytes_append (a b : ByteArray) : bytes (a ++ b) = bytes a ++ bytes b := by simp [bytes]
theorem bytes_extract (s : ByteArray) (a b : Nat) : bytes (s.extract a b) = ((bytes s).drop a).take (b - a) := Lib.extract_data s a b

/-- As many 0 behind as a page wants. -/
def padL (p : List UInt8) : List UInt8 := p ++ List.replicate (4 - p.length) 0
/-- Page k of the bytes l. -/
def pageL (l : List UInt8) (k : Nat) : List UInt8 := padL ((l.drop (4 * k)).take 4)
def pageB (l : List UInt8) (k : Nat) : ByteArray := ofBytes (pageL l k)
def countP (n : Nat) : Nat := (n + 3) / 4
/-- The pages that the bytes l are. -/
def splitP (l : List UInt8) : List ByteArray := (List.range (countP l.length)).map (pageB l)
def splitE (n : Nat) : Int := if n ≤ 64 then 0 else 2
/-- What is answered by Split. -/
def splitA (s : ByteArray) : List ByteArray := if s.size ≤ 64 then splitP (bytes s) else []

theorem padL_length {p : List UInt8} (h : p.length ≤ 4) : (padL p).length = 4 := by unfold padL; simp; omega
theorem padL_full {p : List UInt8} (h : p.length = 4) : padL p = p := by unfold padL; rw [h]; simp
theorem pageL_length (l : List UInt8) (k : Nat) : (pageL l k).length = 4 := padL_length (by simp; omega)
theorem pageB_size (l : List UInt8) (k : Nat) : (pageB l k).size = 4 := by rw [← bytes_size, pageB, bytes_of, pageL_length]
theorem splitP_length (l : List UInt8) : (splitP l).length = countP l.length := by simp [splitP]
theorem range_snoc (l : List UInt8) (k : Nat) : (List.range (k + 1)).map (pageB l) = (List.range k).map (pageB l) ++ [pageB l k] := by simp [List.range_succ]

/-- A whole page at the head of what is left. -/
theorem page_head {l : List UInt8} {t : ByteArray} {k : Nat} (ht : bytes t = l.drop (4 * k)) (h4 : 4 ≤ t.size) : t.extract 0 4 = pageB l k := by
  apply bytes_inj
  rw [bytes_extract, pageB, bytes_of, pageL, ht]
  rw [List.drop_zero]
  have : (l.drop (4 * k)).length = t.size := by rw [← ht, bytes_size]
  rw [padL_full (by simp at this ⊢; omega)]
theorem page_rest {l : List UInt8} {t : ByteArray} {k : Nat} (ht : bytes t = l.drop (4 * k)) : bytes (t.extract 4 t.size) = l.drop (4 * (k + 1)) := by
  rw [bytes_extract, ht, List.drop_drop]
  have : (l.drop (4 * k)).length = t.size := by rw [← ht, bytes_size]
  rw [List.take_of_length_le (by simp at this ⊢; omega)]
  congr 1
/-- The last page, with 0 behind. -/
theorem page_last {l : List UInt8} {t : ByteArray} {k : Nat} (ht : bytes t = l.drop (4 * k)) (h4 : t.size ≤ 4) : t ++ ofBytes (List.replicate (4 - t.size) 0) = pageB l k := by
  apply bytes_inj
  have hl : (l.drop (4 * k)).length = t.size := by rw [← ht, bytes_size]
  rw [bytes_append, bytes_of, pageB, bytes_of, pageL, ht, List.take_of_length_le (by omega)]
  unfold padL
  rw [hl]

/-- The bytes with 0 behind up to a whole number of pages: page k of them. -/
theorem page_padded {l m : List UInt8} {p k : Nat} (hm : m = l ++ List.replicate p 0) (hp : m.length % 4 = 0) (hk : 4 * k < m.length) (hp3 : p ≤ 3) : (m.drop (4 * k)).take 4 = pageL l k := by
  subst hm
  have hlen : (l ++ List.replicate p (0 : UInt8)).length = l.length + p := by simp
  rw [hlen] at hp hk
  unfold pageL padL
  rw [List.drop_append, List.take_append]
  have e1 : 4 * k - l.length = 0 ∨ l.length ≤ 4 * k := by omega
  rcases Nat.lt_or_ge l.length (4 * k) with h | h
  · omega
  · rw [show 4 * k - l.length = 0 by omega, List.drop_zero]
    congr 1
    simp only [List.length_take, List.length_drop]
    rw [List.take_replicate]
    congr 1
    omega

theorem repeat_zero (n : Nat) : Lib.repeatL [0] n = List.replicate n 0 := by
  induction n with
  | zero => rfl
  | succ n ih => rw [Lib.repeatL, ih]; rfl

/-- All pages, one behind the other. -/
def joinB (xs : List ByteArray) : ByteArray := ofBytes (xs.map bytes).flatten
theorem joinB_nil : joinB [] = ByteArray.empty := rfl
theorem joinB_snoc (xs : List ByteArray) (x : ByteArray) : joinB (xs ++ [x]) = joinB xs ++ x := by
  apply bytes_inj
  rw [bytes_append, joinB, joinB, bytes_of, bytes_of]
  simp
theorem join_flat (ls : List (List UInt8)) : Lib.join ls [] = ls.flatten := by
  unfold Lib.join List.intercalate
  induction ls with
  | nil => rfl
  | cons a r ih =>
    cases r with
    | nil => simp
    | cons b t => simp at ih ⊢; exact ih
theorem joinB_size {xs : List ByteArray} (h : ∀ x ∈ xs, x.size = 4) : (joinB xs).size = 4 * xs.length := by
  rw [← bytes_size, joinB, bytes_of]
  induction xs with
  | nil => rfl
  | cons a r ih =>
    rw [List.map_cons, List.flatten_cons, List.length_append, bytes_size, h a (by simp), ih (fun x hx => h x (by simp [hx]))]
    simp; omega
end Go.Proofs.Ytehleeibgkpjmaa
