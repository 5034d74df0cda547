/- Contracts of isEntry, and of the document's entry and within, over the landed translation. -/
import Derived.Test.YtehleeibgkpjmaaRows
import Derived.Test.YtehleeibgkpjmaaPlain
import Derived.Test.YtehleeibgkpjmaaWithin
import Derived.WalkKit
import Derived.WalkLawsBesides
namespace Go.Proofs.Ytehleeibgkpjmaa
open Go.RowKit
set_option maxRecDepth 20000

theorem isE_iff (e : Int) : isE e = true ↔ (e = 0 ∨ e = -1 ∨ (1 ≤ e ∧ e < 40)) := by simp [isE]

theorem isEntry_any (e : Int) (w : World) : Calls Try.prog 67 #[.int .i64 e] w fun r w' => r = .returned (.bool (isE e)) ∧ w' = w := by
  go_enter Try.func67, Try.ntmps67
  go_wp2
  all_goals (go_ret; exact ⟨ret_bool (by rw [isE_iff]; simp <;> omega), rfl⟩)

theorem entry_any (e : Int) (w : World) : Calls Try.prog 55 #[.int .i64 e] w fun r w' => r = .returned (.bool (isE e)) ∧ w' = w := by
  go_enter Try.func55, Try.ntmps55
  go_wp2_with (go_at_call 39; refine (within_any _ _ _ _).mono ?_; rintro e w' ⟨rfl, rfl⟩)
  all_goals (go_ret; exact ⟨ret_bool (by rw [isE_iff]; simp <;> omega), rfl⟩)
end Go.Proofs.Ytehleeibgkpjmaa
