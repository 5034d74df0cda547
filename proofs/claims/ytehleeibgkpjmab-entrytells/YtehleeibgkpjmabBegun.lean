/- Contract of entryBegun: it answers true. -/
import Derived.Test.YtehleeibgkpjmabCut
import Derived.Test.YtehleeibgkpjmabBare
import Derived.Test.YtehleeibgkpjmabSameInts
namespace Go.Proofs.Ytehleeibgkpjmab
open Go.RowKit
set_option maxRecDepth 20000

set_option maxHeartbeats 1000000 in
theorem begun_any (w : World) : Calls Try.prog 18 #[] w fun r w' => r = .returned (.bool true) ∧ Below w.heap.size w w' := by
  go_enter Try.func18, Try.ntmps18
  go_wp2_with fail
  refine (bare_is (Sl_new4 _ _ (by simp) 0 0 0 0) (b := true) (c := 0) (by decide) (by decide)).mono ?_
  rintro e w1 ⟨rfl, rfl⟩
  go_wp2_with fail
  refine (with_is (Sl_new4 _ _ (by simp) 0 0 0 0) (ys := [0, 0, 5, 0]) (c := 0) (by decide) (by decide)).mono ?_
  rintro e w1 ⟨v1, rfl, s1, b1⟩
  have b1 : Below w.heap.size w w1 := (((Below.refl _ w).alloc (Nat.le_refl _) _).alloc (by simp) _).trans (b1.mono (by simp; omega))
  go_wp2_with fail
  refine (cut_is (Sl_new4 _ _ (by simp) 1 2 3 4) (ys := [1, 2, 0, 0]) (c := 0) (by decide) (by decide)).mono ?_
  rintro e w2 ⟨v2, rfl, s2, b2⟩
  have s1 := (s1.past _).below b2
  have b2 : Below w.heap.size w w2 := (b1.alloc b1.size _).trans (b2.mono (by have := b1.size; simp; omega))
  clear b1
  go_wp2_with fail
  refine (with_is (Sl_new4 _ _ (by simp) 0 0 0 0) (ys := []) (c := 1) (by decide) (by decide)).mono ?_
  rintro e w3 ⟨v3, rfl, s3, b3⟩
  have s1 := (s1.past _).below b3
  have s2 := (s2.past _).below b3
  have b3 : Below w.heap.size w w3 := (b2.alloc b2.size _).trans (b3.mono (by have := b2.size; simp; omega))
  clear b2
  go_wp2_with fail
  refine (same_any (s1.past _) (Sl_new4 _ _ (by simp) 0 0 5 0)).mono ?_
  rintro e w4 ⟨rfl, b4⟩
  have s2 := (s2.past _).below b4
  have b4 : Below w.heap.size w w4 := (b3.alloc b3.size _).trans (b4.mono (by have := b3.size; simp; omega))
  clear b3 s1
  go_wp2_with fail
  refine (same_any (s2.past _) (Sl_new4 _ _ (by simp) 1 2 0 0)).mono ?_
  rintro e w5 ⟨rfl, b5⟩
  have b5 : Below w.heap.size w w5 := (b4.alloc b4.size _).trans (b5.mono (by have := b4.size; simp; omega))
  clear b4 s2
  go_wp2_with fail
  refine (check_is (Sl_new1 _ _ (by simp) 0) (c := 1) (by decide)).mono ?_
  rintro e w6 ⟨rfl, rfl⟩
  go_wp2_with fail
  go_ret
  exact ⟨rfl, b5.alloc b5.size _⟩
end Go.Proofs.Ytehleeibgkpjmab
