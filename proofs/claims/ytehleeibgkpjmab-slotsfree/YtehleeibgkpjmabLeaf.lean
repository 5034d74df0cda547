/- Contracts of isEntry, and of the document's entry and within, over the landed translation. -/
import Derived.Test.YtehleeibgkpjmabRows
import Derived.Test.YtehleeibgkpjmabPlain
import Derived.Test.YtehleeibgkpjmabWithin
import Derived.WalkKit
import Derived.WalkLawsBesides
namespace Go.Proofs.Ytehleeibgkpjmab
open Go.RowKit
set_option maxRecDepth 20000

theorem isE_iff (e : Int) : isE e = true ↔ (e = 0 ∨ e = -1 ∨ (1 ≤ e ∧ e < 40)) := by simp [isE]

theorem isEntry_any (e : Int) (w : World) : Calls Try.prog 35 #[.int .i64 e] w fun r w' => r = .returned (.bool (isE e)) ∧ w' = w := by
  go_enter Try.func35, Try.ntmps35
  go_wp2
  all_goals (go_ret; exact ⟨ret_bool (by rw [isE_iff]; simp <;> omega), rfl⟩)

theorem entry_any (e : Int) (w : World) : Calls Try.prog 37 #[.int .i64 e] w fun r w' => r = .returned (.bool (isE e)) ∧ w' = w := by
  go_enter Try.func37, Try.ntmps37
  go_wp2_with (go_at_call 38; refine (within_any _ _ _ _).mono ?_; rintro e w' ⟨rfl, rfl⟩)
  all_goals (go_ret; exact ⟨ret_bool (by rw [isE_iff]; simp <;> omega), rfl⟩)
end Go.Proofs.Ytehleeibgkpjmab
