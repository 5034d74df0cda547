/- Contracts of isName and of what it calls. -/
import Derived.Test.YtehleeibgkpjmabImg
import Derived.Shelf.Abstract
import Derived.Lib.OthersKept
import Derived.Laws.RangeAny
namespace Go.Proofs.Ytehleeibgkpjmab
open Go.RowKit Go.Shelf
set_option maxRecDepth 20000

theorem decode_far (s : ByteArray) (i : Nat) (h : i < s.size) (ha : 128 ≤ (s[i]'h).toNat) : 128 ≤ (Utf8.decode s i).1 := by
  have e : s.get! (i + 0) = s[i]'h := by
    show s.get! i = _
    simp [ByteArray.get!, getElem!_pos, h]
    rfl
  have hr : 128 ≤ Utf8.runeError := by decide
  unfold Utf8.decode
  simp only [e]
  rw [if_neg (by omega)]
  split
  · split
    · assumption
    · exact hr
  · split
    · split
      · rename_i hh
        simp at hh
        show 128 ≤ _
        omega
      · exact hr
    · split
      · split
        · rename_i hh
          simp at hh
          show 128 ≤ _
          omega
        · exact hr
      · exact hr

theorem letter_any (x : Int) (w : World) : Calls Try.prog 70 #[.int .i32 x] w fun r w' => r = .returned (.bool (!decide (97 ≤ x ∧ x ≤ 122))) ∧ w' = w := by
  go_enter Try.func70, Try.ntmps70
  go_wp2
  all_goals (go_ret; exact ⟨ret_bool (by simp <;> omega), rfl⟩)
theorem letter_is {x : Int} (w : World) {B : Bool} (hB : (!decide (97 ≤ x ∧ x ≤ 122)) = B) : Calls Try.prog 70 #[.int .i32 x] w fun r w' => r = .returned (.bool B) ∧ w' = w := by
  subst hB; exact letter_any x w

theorem letters_bad {s : ByteArray} {k : Nat} (h : k < s.size) (hb : isLetter s[k] = false) : s.data.toList.all isLetter = false := by
  cases e : s.data.toList.all isLetter with
  | false => rfl
  | true =>
    rw [List.all_eq_true] at e
    have := e s[k] (by
      show s.data[k] ∈ s.data.toList
      exact Array.getElem_mem_toList _)
    rw [hb] at this; cases this
theorem letters_good {s : ByteArray} (h : ∀ k, (hk : k < s.size) → isLetter s[k] = true) : s.data.toList.all isLetter = true := by
  rw [List.all_eq_true]
  intro x hx
  obtain ⟨j, hj, rfl⟩ := List.getElem_of_mem hx
  exact h j (by simpa using hj)

set_option maxHeartbeats 1000000 in
theorem indexL_any (s : ByteArray) (w : World) :
    Calls Try.prog 74 #[.string s, .func (.func 70) #[] #[], .bool true] w fun r w' => (∃ i : Int, r = .returned (.int .i64 i) ∧ (decide (0 ≤ i)) = !s.data.toList.all isLetter) ∧ Below w.heap.size w w' := by
  go_enter Try.func74, Try.ntmps74
  go_wp2
  go_loopw [] (fun wr => ∃ k : Nat, k ≤ s.size ∧ Hid (∀ j, (h : j < s.size) → j < k → isLetter s[j] = true) ∧ wr = w.iter s k) (fun wr => s.size - wr.iterPos w.heap.size)
  case atStart => exact ⟨0, Nat.zero_le _, fun j h hj => absurd hj (by omega), rfl⟩
  case round =>
    obtain ⟨k, hk, HA, rfl⟩ := hrel
    by_cases hlk : k < s.size
    · by_cases hL : isLetter s[k] = true
      · have hl := hL
        unfold isLetter at hl
        simp at hl
        have hnx := fun ty => run_next_ascii (P := Try.prog) w s k ty hlk (by omega)
        have hq : (!decide ((97 : Int) ≤ ((s[k]'hlk).toNat : Int) ∧ ((s[k]'hlk).toNat : Int) ≤ 122)) = false := by simp; omega
        have HL : Hid (isLetter s[k] = true) := hL
        obtain ⟨R, hR⟩ : ∃ R : Nat, (s[k]'hlk).toNat = R := ⟨_, rfl⟩
        rw [hR] at hnx hq
        clear hL hl hR
        go_wp2_with (go_at_call 70; refine (letter_is _ hq).mono ?_; rintro e w1 ⟨rfl, hw⟩; subst hw)
        go_roundw
        case rel => exact ⟨k + 1, by omega, fun j h hj => by
          by_cases e : j = k
          · subst e; exact HL.out
          · exact HA.out j h (by omega), rfl⟩
        case measure => simp; omega
      · have hL' : isLetter s[k] = false := by simpa using hL
        have hl := hL'
        unfold isLetter at hl
        simp only [decide_eq_false_iff_not] at hl
        have hq : (!decide ((97 : Int) ≤ ((Utf8.decode s k).1 : Int) ∧ ((Utf8.decode s k).1 : Int) ≤ 122)) = true := by
          by_cases ha : (s[k]'hlk).toNat < 128
          · rw [decode_ascii s k hlk ha]; simp; omega
          · have := decode_far s k hlk (by omega)
            simp; omega
        have hnx := fun ty => run_next_any (P := Try.prog) w s k ty hlk
        have HL : Hid (isLetter s[k] = false) := hL'
        obtain ⟨R, hR⟩ : ∃ R : Nat, (Utf8.decode s k).1 = R := ⟨_, rfl⟩
        obtain ⟨K, hK⟩ : ∃ K : Nat, (Utf8.decode s k).2 = K := ⟨_, rfl⟩
        rw [hR] at hnx hq
        rw [hK] at hnx
        clear hL hl hL' hR hK
        go_wp2_with (go_at_call 70; refine (letter_is _ hq).mono ?_; rintro e w1 ⟨rfl, hw⟩; subst hw)
        go_ret
        exact ⟨⟨k, rfl, by rw [letters_bad hlk HL.out]; simp⟩, (Below.refl _ _).alloc (Nat.le_refl _) _⟩
    · have hnx := fun ty => run_next_end (P := Try.prog) w s k ty hlk
      go_wp2
      go_ret
      exact ⟨⟨-1, rfl, by rw [letters_good (fun j hj => HA.out j hj (by omega))]; simp⟩, (Below.refl _ _).alloc (Nat.le_refl _) _⟩

theorem containsL_any (s : ByteArray) (w : World) {B : Bool} (hB : s.data.toList.all isLetter = B) :
    Calls Try.prog 69 #[.string s, .func (.func 70) #[] #[]] w fun r w' => r = .returned (.bool (!B)) ∧ Below w.heap.size w w' := by
  have hI := indexL_any s w
  rw [hB] at hI
  clear hB
  have hJ : Calls Try.prog 73 #[.string s, .func (.func 70) #[] #[]] w fun r w' => (∃ i : Int, r = .returned (.int .i64 i) ∧ (decide (0 ≤ i)) = !B) ∧ Below w.heap.size w w' := by
    go_enter Try.func73, Try.ntmps73
    go_wp2_with (go_at_call 74; refine hI.mono ?_; rintro e w1 ⟨⟨i, rfl, hi⟩, b1⟩)
    go_ret
    exact ⟨⟨i, rfl, hi⟩, b1⟩
  clear hI
  go_enter Try.func69, Try.ntmps69
  go_wp2_with (go_at_call 73; refine hJ.mono ?_; rintro e w1 ⟨⟨i, rfl, hi⟩, b1⟩)
  go_ret
  exact ⟨ret_boolE (by rw [← hi]), b1⟩

theorem isName_any (s : ByteArray) (w : World) : Calls Try.prog 55 #[.string s] w fun r w' => r = .returned (.bool (isNm s)) ∧ Below w.heap.size w w' := by
  by_cases h0 : s.size = 0
  · have h1 : s.toList.isEmpty = true := by rw [ba_isEmpty]; simp [h0]
    have HS : Hid (isNm s = false) := by show _ = _; unfold isNm; rw [h0]; rfl
    clear h0
    go_enter Try.func55, Try.ntmps55
    go_wp2
    go_ret
    exact ⟨by rw [HS.out]; rfl, Below.refl _ _⟩
  · have h1 : s.toList.isEmpty = false := by rw [ba_isEmpty]; simp [h0]
    by_cases h8 : s.size ≤ 8
    · have h8' : (s.size : Int) ≤ 8 := by omega
      have HS : Hid (isNm s = s.data.toList.all isLetter) := by
        show _ = _
        unfold isNm
        rw [decide_eq_true (by omega)]; rfl
      have hcall := containsL_any s w rfl
      go_enter Try.func55, Try.ntmps55
      go_wp2_with (go_at_call 69; refine hcall.mono ?_; rintro e w1 ⟨rfl, b1⟩)
      go_ret
      exact ⟨ret_boolE (by rw [HS.out]; simp), b1⟩
    · have h8' : ¬ (s.size : Int) ≤ 8 := by omega
      have HS : Hid (isNm s = false) := by
        show _ = _
        unfold isNm
        rw [decide_eq_false (by omega)]; rfl
      go_enter Try.func55, Try.ntmps55
      go_wp2
      go_ret
      exact ⟨by rw [HS.out]; rfl, Below.refl _ _⟩
end Go.Proofs.Ytehleeibgkpjmab
