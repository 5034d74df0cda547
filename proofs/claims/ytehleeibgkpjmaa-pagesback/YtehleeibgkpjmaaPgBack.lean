/- Plain laws: join of split, split of join, what a patch holds. -/
import Derived.Test.YtehleeibgkpjmaaPgBegun
namespace Go.Proofs.Ytehleeibgkpjmaa
open Go.RowKit
set_option maxRecDepth 20000

theorem chunks (M : List UInt8) : ∀ k, 4 * k ≤ M.length → ((List.range k).map (fun j => (M.drop (4 * j)).take 4)).flatten = M.take (4 * k)
  | 0, _ => by simp
  | k + 1, h => by
    rw [List.range_succ, List.map_append, List.flatten_append, chunks M k (by omega), show 4 * (k + 1) = 4 * k + 4 by omega, List.take_add]
    simp

/-- How many 0 stand behind. -/
def padN (n : Nat) : Nat := 4 * countP n - n
theorem padN_lt (n : Nat) : padN n ≤ 3 ∧ n + padN n = 4 * countP n := by unfold padN countP; omega

theorem join_split (L : List UInt8) : bytes (joinB (splitP L)) = L ++ List.replicate (padN L.length) 0 := by
  obtain ⟨h3, hc⟩ := padN_lt L.length
  rw [joinB, bytes_of, splitP, List.map_map]
  have hM : (L ++ List.replicate (padN L.length) (0 : UInt8)).length = 4 * countP L.length := by simp; omega
  have e : (List.range (countP L.length)).map (bytes ∘ pageB L) = (List.range (countP L.length)).map (fun j => ((L ++ List.replicate (padN L.length) (0 : UInt8)).drop (4 * j)).take 4) := by
    apply List.map_congr_left
    intro k hk
    rw [List.mem_range] at hk
    rw [Function.comp_apply, pageB, bytes_of, ← page_padded rfl (by rw [hM]; omega) (by rw [hM]; omega) h3]
  rw [e, chunks _ _ (by omega), List.take_of_length_le (by omega)]

theorem ckP_split {L : List UInt8} (h : L.length ≤ 64) : ckP (splitP L) = 0 := by
  have hl : (splitP L).length ≤ 16 := by rw [splitP_length]; unfold countP; omega
  refine ckP_ok hl fun j hj => ?_
  have : (splitP L).getD j ByteArray.empty = pageB L j := by
    rw [splitP_length] at hj
    simp [splitP, List.getD, hj]
  rw [this, pageB_size]

theorem flat_page : ∀ (ls : List (List UInt8)) (k : Nat), (∀ l ∈ ls, l.length = 4) → (hk : k < ls.length) → (ls.flatten.drop (4 * k)).take 4 = ls[k]
  | [], k, _, hk => by simp at hk
  | l :: r, 0, h, _ => by
    have h4 := h l (by simp)
    simp [h4]
  | l :: r, k + 1, h, hk => by
    have h4 := h l (by simp)
    have ih := flat_page r k (fun x hx => h x (by simp [hx])) (by simpa using hk)
    rw [List.flatten_cons, List.drop_append, h4, List.drop_of_length_le (by omega), show 4 * (k + 1) - 4 = 4 * k by omega]
    simpa using ih

theorem flat_length : ∀ (ls : List (List UInt8)), (∀ l ∈ ls, l.length = 4) → ls.flatten.length = 4 * ls.length
  | [], _ => rfl
  | l :: r, h => by
    have ih := flat_length r (fun x hx => h x (by simp [hx]))
    rw [List.flatten_cons, List.length_append, h l (by simp), ih]
    simp; omega

theorem split_join {xs : List ByteArray} (h : ckP xs = 0) : splitA (joinB xs) = xs := by
  obtain ⟨h16, h4⟩ := ckP_parts h
  have hs := joinB_size h4
  have hb : bytes (joinB xs) = (xs.map bytes).flatten := by rw [joinB, bytes_of]
  have hm : ∀ l ∈ xs.map bytes, l.length = 4 := by
    intro l hl
    obtain ⟨x, hx, rfl⟩ := List.mem_map.1 hl
    rw [bytes_size]; exact h4 x hx
  rw [splitA, if_pos (by omega), splitP, hb, flat_length _ hm]
  have hc : countP (4 * (xs.map bytes).length) = xs.length := by unfold countP; simp; omega
  rw [hc]
  apply List.ext_getElem
  · simp
  · intro k h1 h2
    simp only [List.getElem_map, List.getElem_range]
    apply bytes_inj
    have hk : k < (xs.map bytes).length := by simpa using h2
    rw [pageB, bytes_of, pageL, flat_page _ k hm hk, padL_full (hm _ (List.getElem_mem hk))]
    simp

theorem patchR_bytes (page s : ByteArray) (i : Nat) : bytes (patchR page i s) = (bytes page).take i ++ bytes s ++ ((bytes page).drop (i + s.size)) := by
  rw [patchR, bytes_append, bytes_append, bytes_extract, bytes_extract]
  have := bytes_size page
  rw [List.drop_zero, Nat.sub_zero, List.take_of_length_le (l := (bytes page).drop (i + s.size)) (by simp; omega)]
theorem patchR_size {page s : ByteArray} {i : Nat} (h4 : page.size = 4) (hi : i + s.size ≤ 4) : (patchR page i s).size = 4 := by
  rw [← bytes_size, patchR_bytes]
  have := bytes_size page
  have := bytes_size s
  simp; omega
theorem patchR_mid {page s : ByteArray} {i : Nat} (h4 : page.size = 4) (hi : i + s.size ≤ 4) : (patchR page i s).extract i (i + s.size) = s := by
  apply bytes_inj
  have hp := bytes_size page
  have hs := bytes_size s
  rw [bytes_extract, patchR_bytes, List.append_assoc, List.drop_append]
  simp only [List.length_take]
  rw [List.drop_of_length_le (by simp; omega), show i - min i (bytes page).length = 0 by omega, List.drop_zero, List.nil_append, List.take_append]
  rw [List.take_of_length_le (by omega), show i + s.size - i - (bytes s).length = 0 by omega]
  simp
theorem patchR_head {page s : ByteArray} {i : Nat} (h4 : page.size = 4) (hi : i + s.size ≤ 4) : (patchR page i s).extract 0 i = page.extract 0 i := by
  apply bytes_inj
  have hp := bytes_size page
  rw [bytes_extract, bytes_extract, patchR_bytes, List.append_assoc, List.drop_zero, List.drop_zero, Nat.sub_zero, List.take_append]
  simp only [List.length_take]
  rw [show i - min i (bytes page).length = 0 by omega, List.take_take, Nat.min_self]
  simp
theorem patchR_tail {page s : ByteArray} {i : Nat} (h4 : page.size = 4) (hi : i + s.size ≤ 4) : (patchR page i s).extract (i + s.size) (patchR page i s).size = page.extract (i + s.size) page.size := by
  apply bytes_inj
  have hp := bytes_size page
  have hs := bytes_size s
  rw [patchR_size h4 hi, bytes_extract, bytes_extract, patchR_bytes, List.drop_append]
  rw [List.drop_of_length_le (by simp; omega), List.nil_append]
  simp only [List.length_append, List.length_take]
  rw [show i + s.size - (min i (bytes page).length + (bytes s).length) = 0 by omega, List.drop_zero, h4]
theorem zero_at {T s : ByteArray} {p k : Nat} (h : bytes T = bytes s ++ List.replicate p 0) (h1 : s.size ≤ k) (hk : k < T.size) : (T[k]'hk).toNat = 0 := by
  have e : (T[k]'hk) = (bytes T)[k]'(by rw [bytes_size]; exact hk) := rfl
  have hl : (bytes s).length ≤ k := by rw [bytes_size]; exact h1
  have e2 : (bytes T)[k]'(by rw [bytes_size]; exact hk) = 0 := by
    have hk2 : k < (bytes s ++ List.replicate p (0 : UInt8)).length := by rw [← h, bytes_size]; exact hk
    have : (bytes T)[k]? = (bytes s ++ List.replicate p (0 : UInt8))[k]? := by rw [h]
    rw [List.getElem?_eq_getElem (by rw [bytes_size]; exact hk), List.getElem?_append_right hl, List.getElem?_replicate] at this
    split at this
    · simpa using this
    · simp at this
  rw [e, e2]
  rfl
theorem below_drew' {B : Nat} {w0 w : World} (h : Below B w0 w) : Below B w0 w.drew := h.drew
end Go.Proofs.Ytehleeibgkpjmaa
