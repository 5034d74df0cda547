/- PagesBack answers true, whatever it is handed: the ways joined. -/
import Derived.Test.YtehleeibgkpjmaaBackWaysA
import Derived.Test.YtehleeibgkpjmaaBackWaysB
import Derived.Test.YtehleeibgkpjmaaBackWaysC
namespace Go.Proofs.Ytehleeibgkpjmaa
open Go.RowKit
set_option maxRecDepth 20000
theorem back_any (v : Value) (xs : List ByteArray) (s page part : ByteArray) (i : Int) (w : World) (h : Ss w v xs) (hm : s.size ≤ 9223372036854775807) :
    Calls Try.prog 5 #[v, .string s, .string page, .int .i64 i, .string part] w fun r w' => r = .returned (.bool true) ∧ Below w.heap.size w w' := by
  by_cases hC : patchE page i part = 0
  · have hp : page.size = 4 := by
      unfold patchE at hC
      split at hC
      · assumption
      · simp at hC
    have hi : 0 ≤ i ∧ i ≤ 4 ∧ (part.size : Int) ≤ 4 - i := by
      unfold patchE at hC
      rw [if_pos hp] at hC
      split at hC
      · assumption
      · simp at hC
    obtain ⟨i, rfl⟩ := Int.eq_ofNat_of_zero_le hi.1
    have hi' : i + part.size ≤ 4 := by omega
    by_cases hB : ckP xs = 0
    · by_cases hA : s.size ≤ 64
      · exact back_yyy v xs s page part i w h hm hA hB hp hi'
      · exact back_nyy v xs s page part i w h hm (by omega) hB hp hi'
    · by_cases hA : s.size ≤ 64
      · exact back_yny v xs s page part i w h hm hA _ rfl (by simpa using hB) hp hi'
      · exact back_nny v xs s page part i w h hm (by omega) _ rfl (by simpa using hB) hp hi'
  · by_cases hB : ckP xs = 0
    · by_cases hA : s.size ≤ 64
      · exact back_yyn v xs s page part i w h hm hA hB _ rfl (by simpa using hC)
      · exact back_nyn v xs s page part i w h hm (by omega) hB _ rfl (by simpa using hC)
    · by_cases hA : s.size ≤ 64
      · exact back_ynn v xs s page part i w h hm hA _ rfl (by simpa using hB) _ rfl (by simpa using hC)
      · exact back_nnn v xs s page part i w h hm (by omega) _ rfl (by simpa using hB) _ rfl (by simpa using hC)
end Go.Proofs.Ytehleeibgkpjmaa
