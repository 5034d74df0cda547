/- Contracts of Split and of the document's SplitOf: the same pages. -/
import Derived.Test.YtehleeibgkpjmaaPgZero
namespace Go.Proofs.Ytehleeibgkpjmaa
open Go.RowKit
set_option maxRecDepth 20000

/-- What is answered: pages, an error; new memory. -/
def AnsS (w : World) (xs : List ByteArray) (err : Int) (r : Ending) (w' : World) : Prop :=
  ∃ v', r = .returned (.tuple #[v', .int .i64 err]) ∧ Ss w' v' xs ∧ Below w.heap.size w w'
theorem AnsS.bad (w : World) {xs : List ByteArray} {err : Int} (hx : xs = []) : AnsS w xs err (.returned (.tuple #[.slice none 0 0, .int .i64 err])) w :=
  ⟨_, rfl, hx ▸ Ss.nil w, Below.refl _ _⟩

theorem split_many (s : ByteArray) (w : World) (h : (64 : Int) < (s.size : Int)) : Calls Try.prog 9 #[.string s] w (AnsS w [] 2) := by
  go_enter Try.func9, Try.ntmps9
  go_wp2
  go_ret2
  exact AnsS.bad _ rfl

theorem zeros_int (i : Int) (w : World) (h0 : 0 ≤ i) (h4 : i ≤ 4) : Calls Try.prog 36 #[.int .i64 i] w fun r w' => (∃ z : ByteArray, r = .returned (.string z) ∧ (z.size : Int) ≤ 4 ∧ Hid (z = ofBytes (List.replicate i.toNat 0))) ∧ Below w.heap.size w w' := by
  obtain ⟨n, rfl⟩ := Int.eq_ofNat_of_zero_le h0
  refine (zeros_any n w (by omega)).mono fun e w' h => ⟨⟨_, h.1, ?_, by rw [Int.toNat_natCast]; rfl⟩, h.2⟩
  rw [← bytes_size, bytes_of]
  simp; omega

set_option maxHeartbeats 1000000 in
theorem split_few (s : ByteArray) (w : World) (h : s.size ≤ 64) : Calls Try.prog 9 #[.string s] w (AnsS w (splitP (bytes s)) 0) := by
  have g1 : ¬ (64 : Int) < (s.size : Int) := by omega
  obtain ⟨L, hL⟩ : ∃ L, bytes s = L := ⟨_, rfl⟩
  have HL : Hid (bytes s = L) := hL
  have hLn : L.length = s.size := by rw [← hL, bytes_size]
  have HLn : Hid (L.length = s.size) := hLn
  rw [hL]
  clear hL hLn
  go_enter Try.func9, Try.ntmps9
  go_wp2
  go_loopw [0, 4] (fun t v wr => ∃ (u : ByteArray) (k : Nat), t = .string u ∧ k ≤ 16 ∧ u.size ≤ 64 ∧ Hid (bytes u = L.drop (4 * k)) ∧ Hid (k = 0 ∨ 1 ≤ u.size) ∧ Hid (wr.ownsRow w.heap.size 9 1 v ((List.range k).map (pageB L)).length (((List.range k).map (pageB L)).map Value.string)) ∧ Below w.heap.size w wr ∧ w.heap.size ≤ wr.heap.size) (fun t _ _ => strLen t)
  case atStart => exact ⟨s, 0, rfl, by omega, h, HL.out, .inl rfl, World.ownsRow_nil _ _ _ _, Below.refl _ _, Nat.le_refl _⟩
  case round =>
    obtain ⟨u, k, rfl, hk, hu, HU, HK, HO, hbel, hB⟩ := hrel
    have hsz : u.size + 4 * k = s.size ∨ u.size = 0 := by
      have h1 : (L.drop (4 * k)).length = u.size := by rw [← HU.out, bytes_size]
      rw [List.length_drop, HLn.out] at h1
      omega
    have HZ : Hid (u.size + 4 * k = s.size ∨ u.size = 0) := hsz
    clear hsz
    by_cases h4 : 4 < u.size
    · have h4i : (4 : Int) < (u.size : Int) := by omega
      have HP : Hid (u.extract 0 4 = pageB L k) := page_head HU.out (by omega)
      have HR : Hid (bytes (u.extract 4 u.size) = L.drop (4 * (k + 1))) := page_rest HU.out
      go_wp2_with (at_builtin; refine app_str (by rfl) _ _ (by rfl) _ ((List.range k).map (pageB L)) _ w.heap.size (by rfl) (by rfl) HO.out (by simp; omega) hB hbel ?_; intro v' w1 HO' hbel' hB')
      go_roundw
      case rel => exact ⟨_, k + 1, rfl, by rcases HZ.out with h | h <;> omega, by simp [ByteArray.size_extract]; omega, HR, .inr (by simp [ByteArray.size_extract]; omega), by rw [range_snoc, ← HP.out]; exact HO', hbel', hB'⟩
      case measure => simp [strLen, ByteArray.size_extract]; omega
    · by_cases h0 : u.size = 0
      · have e0 : u.toList.isEmpty = true := by rw [ByteArray.toList_eq, List.isEmpty_iff]; have := bytes_size u; rw [h0] at this; exact List.eq_nil_of_length_eq_zero this
        have H0 : Hid (u.size = 0) := h0
        clear h0
        have HE : Hid ((List.range k).map (pageB L) = splitP L) := by
          show _ = _
          rcases HK.out with hk0 | h1
          · subst hk0
            have h1 : (L.drop (4 * 0)).length = u.size := by rw [← HU.out, bytes_size]
            rw [H0.out] at h1
            have : L = [] := List.eq_nil_of_length_eq_zero (by simpa using h1)
            subst this
            rfl
          · rw [H0.out] at h1; omega
        go_wp2
        go_ret2
        exact ⟨_, rfl, HE.out ▸ Ss_of_owns HO.out, hbel⟩
      · have e0 : u.toList.isEmpty = false := by
          rw [ByteArray.toList_eq]
          cases hq : u.data.toList with
          | nil => have := bytes_size u; rw [bytes, hq] at this; simp at this; omega
          | cons a t => rfl
        have h1i : (1 : Int) ≤ (u.size : Int) := by omega
        have h4i : (u.size : Int) ≤ 4 := by omega
        have HE : Hid ((List.range (k + 1)).map (pageB L) = splitP L) := by
          show _ = _
          unfold splitP countP
          have h1 : (L.drop (4 * k)).length = u.size := by rw [← HU.out, bytes_size]
          rw [List.length_drop] at h1
          congr 2
          omega
        go_wp2_with (first | (go_at_call 36; refine (zeros_int _ _ (by omega) (by omega)).mono ?_; rintro e w1 ⟨⟨z, rfl, hz4, HZ4⟩, b1⟩; have HO1 : Hid (w1.ownsRow w.heap.size 9 1 _ ((List.range k).map (pageB L)).length (((List.range k).map (pageB L)).map Value.string)) := owns_below HO.out b1; have hbel1 := Below.on'' hbel b1 hB; have hB1 : w.heap.size ≤ w1.heap.size := Nat.le_trans hB b1.size) | (at_builtin; refine app_str (by rfl) _ _ (by rfl) _ ((List.range k).map (pageB L)) _ w.heap.size (by rfl) (by rfl) HO1.out (by simp; omega) hB1 hbel1 ?_; intro v' w2 HO' hbel' hB'))
        go_ret2
        refine ⟨_, rfl, ?_, hbel'⟩
        have e : u ++ z = pageB L k := by
          rw [HZ4.out, show (4 - (u.size : Int)).toNat = 4 - u.size by omega]
          exact page_last HU.out (by omega)
        rw [← HE.out, range_snoc, ← e]
        exact Ss_of_owns HO'.out

theorem split_any (s : ByteArray) (w : World) (hm : s.size ≤ 9223372036854775807) : Calls Try.prog 9 #[.string s] w (AnsS w (splitA s) (splitE s.size)) := by
  by_cases h : s.size ≤ 64
  · rw [splitA, if_pos h, splitE, if_pos h]; exact split_few s w h
  · rw [splitA, if_neg h, splitE, if_neg h]; exact split_many s w (by omega)
theorem split_is {s : ByteArray} {w : World} (hm : s.size ≤ 9223372036854775807) {ys : List ByteArray} {c : Int} (hy : splitA s = ys) (hc : splitE s.size = c) : Calls Try.prog 9 #[.string s] w (AnsS w ys c) := by subst hy; subst hc; exact split_any s w hm
end Go.Proofs.Ytehleeibgkpjmaa
