/- Contract of the document's within. -/
import Derived.Test.YtehleeibgkpjmabRows
import Derived.Test.YtehleeibgkpjmabPlain
import Derived.WalkKit
import Derived.WalkLawsBesides
namespace Go.Proofs.Ytehleeibgkpjmab
open Go.RowKit
set_option maxRecDepth 20000

theorem within_any (n lo hi : Int) (w : World) : Calls Try.prog 38 #[.int .i64 n, .int .i64 lo, .int .i64 hi] w fun r w' => r = .returned (.bool (decide (lo ≤ n ∧ n ≤ hi))) ∧ w' = w := by
  go_enter Try.func38, Try.ntmps38
  go_wp2
  all_goals (go_ret; exact ⟨ret_bool (by simp <;> omega), rfl⟩)

end Go.Proofs.Ytehleeibgkpjmab
