/- Contract of entryBegun: it answers true. -/
import Derived.Test.YtjdccigmfainjabCut
namespace Go.Proofs.Ytjdccigmfainjab
open Go.RowKit

theorem Sl_new (w : World) (xs : List Int) (n : Nat) (hn : xs.length = n) (hm : n ≤ maxLen) : Sl (w.alloc (.cells (xs.map (Value.int .i64)).toArray 3)) (.slice (some ⟨w.heap.size, 0, none⟩) n n) xs := by
  subst hn
  refine ⟨_, _, rfl, hm, Nat.le_refl _, fun _ => ⟨w.heap.size, 0, rfl, by simp, fun j hj => ?_⟩⟩
  rw [Nat.zero_add, World.cell?_alloc_at _ _ _ _ rfl]
  simp [List.getD, hj]
theorem Sl_new4 (w : World) (g : Nat) (hg : g = w.heap.size) (a b c d : Int) : Sl (w.alloc (.cells #[.int .i64 a, .int .i64 b, .int .i64 c, .int .i64 d] 3)) (.slice (some ⟨g, 0, none⟩) 4 4) [a, b, c, d] := by subst hg; exact Sl_new w [a, b, c, d] 4 rfl (by decide)
theorem Sl_new1 (w : World) (g : Nat) (hg : g = w.heap.size) (a : Int) : Sl (w.alloc (.cells #[.int .i64 a] 3)) (.slice (some ⟨g, 0, none⟩) 1 1) [a] := by subst hg; exact Sl_new w [a] 1 rfl (by decide)

theorem bare_is {v : Value} {xs : List Int} {w : World} (h : Sl w v xs) {b : Bool} {c : Int} (hb : bareE xs = b) (hc : ckE xs = c) :
    Calls Try.prog 9 #[v] w fun r w' => r = .returned (.tuple #[.bool b, .int .i64 c]) ∧ w' = w := by subst hb; subst hc; exact bare_any v xs w h
theorem check_is {v : Value} {xs : List Int} {w : World} (h : Sl w v xs) {c : Int} (hc : ckE xs = c) :
    Calls Try.prog 16 #[v] w fun r w' => r = .returned (.int .i64 c) ∧ w' = w := by subst hc; exact check_any v xs w h
theorem with_is {v : Value} {xs ys : List Int} {k e c : Int} {w : World} (h : Sl w v xs) (hy : withL xs k e = ys) (hc : withE xs k e = c) :
    Calls Try.prog 10 #[v, .int .i64 k, .int .i64 e] w (Ans w ys c) := by subst hy; subst hc; exact with_any v xs k e w h
theorem cut_is {v : Value} {xs ys : List Int} {n c : Int} {w : World} (h : Sl w v xs) (hy : cutL xs n = ys) (hc : cutE xs n = c) :
    Calls Try.prog 11 #[v, .int .i64 n] w (Ans w ys c) := by subst hy; subst hc; exact cut_any v xs n w h
theorem same_any {v u : Value} {xs : List Int} {w : World} (h : Sl w v xs) (k : Sl w u xs) :
    Calls Try.prog 18 #[v, u] w fun r w' => r = .returned (.bool true) ∧ Below w.heap.size w w' := by
  obtain ⟨ao, cap, rfl⟩ := h.form
  obtain ⟨bo, cap', rfl⟩ := k.form
  obtain ⟨hn, hm, _, hc⟩ := h.cells
  obtain ⟨_, _, _, hd⟩ := k.cells
  exact same_at ao bo _ cap cap' xs w hn hm hc hd

theorem Sl.past {w : World} {v : Value} {xs : List Int} (h : Sl w v xs) (o : Obj) : Sl (w.alloc o) v xs := h.below ((Below.refl _ _).alloc (Nat.le_refl _) o)

set_option maxHeartbeats 1000000 in
theorem begun_any (w : World) : Calls Try.prog 15 #[] w fun r w' => r = .returned (.bool true) ∧ Below w.heap.size w w' := by
  go_enter Try.func15, Try.ntmps15
  go_wp2_with fail
  refine (bare_is (Sl_new4 _ _ (by simp) 0 0 0 0) (b := true) (c := 0) (by decide) (by decide)).mono ?_
  rintro e w1 ⟨rfl, rfl⟩
  go_wp2_with fail
  refine (with_is (Sl_new4 _ _ (by simp) 0 0 0 0) (ys := [0, 0, 5, 0]) (c := 0) (by decide) (by decide)).mono ?_
  rintro e w1 ⟨v1, rfl, s1, b1⟩
  have b1 : Below w.heap.size w w1 := (((Below.refl _ w).alloc (Nat.le_refl _) _).alloc (by simp) _).trans (b1.mono (by simp; omega))
  go_wp2_with fail
  refine (cut_is (Sl_new4 _ _ (by simp) 1 2 3 4) (ys := [1, 2, 0, 0]) (c := 0) (by decide) (by decide)).mono ?_
  rintro e w2 ⟨v2, rfl, s2, b2⟩
  have s1 := (s1.past _).below b2
  have b2 : Below w.heap.size w w2 := (b1.alloc b1.size _).trans (b2.mono (by have := b1.size; simp; omega))
  clear b1
  go_wp2_with fail
  refine (with_is (Sl_new4 _ _ (by simp) 0 0 0 0) (ys := []) (c := 1) (by decide) (by decide)).mono ?_
  rintro e w3 ⟨v3, rfl, s3, b3⟩
  have s1 := (s1.past _).below b3
  have s2 := (s2.past _).below b3
  have b3 : Below w.heap.size w w3 := (b2.alloc b2.size _).trans (b3.mono (by have := b2.size; simp; omega))
  clear b2
  go_wp2_with fail
  refine (same_any (s1.past _) (Sl_new4 _ _ (by simp) 0 0 5 0)).mono ?_
  rintro e w4 ⟨rfl, b4⟩
  have s2 := (s2.past _).below b4
  have b4 : Below w.heap.size w w4 := (b3.alloc b3.size _).trans (b4.mono (by have := b3.size; simp; omega))
  clear b3 s1
  go_wp2_with fail
  refine (same_any (s2.past _) (Sl_new4 _ _ (by simp) 1 2 0 0)).mono ?_
  rintro e w5 ⟨rfl, b5⟩
  have b5 : Below w.heap.size w w5 := (b4.alloc b4.size _).trans (b5.mono (by have := b4.size; simp; omega))
  clear b4 s2
  go_wp2_with fail
  refine (check_is (Sl_new1 _ _ (by simp) 0) (c := 1) (by decide)).mono ?_
  rintro e w6 ⟨rfl, rfl⟩
  go_wp2_with fail
  go_ret
  exact ⟨rfl, b5.alloc b5.size _⟩
end Go.Proofs.Ytjdccigmfainjab
