/- Contract of the document's Bare. -/
import Derived.Test.YtehleeibgkpjmabBareIn
import Derived.Deep.QuietTactic
import Derived.BigQuiet
namespace Go.Proofs.Ytehleeibgkpjmab
open Go.RowKit
set_option maxRecDepth 20000

theorem bareOf_any (v : Value) (xs : List Int) (w : World) (h : Sl w v xs) :
    Calls Try.prog 20 #[v] w fun r w' => r = .returned (.bool (bareL xs)) ∧ w' = w := by
  go_enter Try.func20, Try.ntmps20
  go_wp2_with (go_at_call 39; refine (bareIn_any _ xs _ h).mono ?_; rintro e w' ⟨rfl, rfl⟩)
  go_ret
  exact ⟨rfl, rfl⟩

theorem bareOf_is {v : Value} {xs : List Int} {w : World} (h : Sl w v xs) {b : Bool} (hb : bareL xs = b) :
    Calls Try.prog 20 #[v] w fun r w' => r = .returned (.bool b) ∧ w' = w := by subst hb; exact bareOf_any v xs w h

end Go.Proofs.Ytehleeibgkpjmab
