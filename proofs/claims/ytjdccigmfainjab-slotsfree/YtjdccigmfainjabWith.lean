/- Contracts of With and Cut, and of the document's WithOf and CutOf: the same answers, each in a list of its own. -/
import Derived.Test.YtjdccigmfainjabFirst
namespace Go.Proofs.Ytjdccigmfainjab
open Go.RowKit

theorem Sl_of_own {w : World} {base : Nat} {g n cap : Nat} {xs : List Int} (h : w.ownsRow base 3 1 (.slice (some ⟨g, 0, none⟩) n cap) n (xs.map (.int .i64))) : Sl w (.slice (some ⟨g, 0, none⟩) n cap) xs := by
  have hl : xs.length = n := by have := h.1; simpa using this
  have hc := fun j => h.cellAt j
  obtain ⟨_, h2⟩ := h
  rcases h2 with ⟨h', _⟩ | ⟨g', cap', cur, h', _, hg, hnc, hcm, _, _⟩
  · simp at h'
  · simp only [Value.slice.injEq, Option.some.injEq, Addr.mk.injEq, and_true, true_and] at h'
    obtain ⟨rfl, rfl⟩ := h'
    refine ⟨_, cap, by rw [hl], by rw [hl]; exact Nat.le_trans hnc hcm, by rw [hl]; exact hnc, fun _ => ⟨g, 0, rfl, (Array.getElem?_eq_some_iff.1 hg).1, fun j hj => ?_⟩⟩
    rw [Nat.zero_add, hc j (by omega)]
    simp [List.getD, hj]

theorem Sl.four {w : World} {v : Value} {xs : List Int} (h : Sl w v xs) (h4 : xs.length = 4) : ∃ b off cap, v = .slice (some ⟨b, off, none⟩) 4 cap ∧ 4 ≤ cap ∧ b < w.heap.size ∧ ∀ j, j < 4 → w.cell? ⟨b, off + j, none⟩ = some (.int .i64 (xs.getD j 0)) := by
  obtain ⟨ao, cap, rfl, hm, hcp, hc⟩ := h
  obtain ⟨b, off, rfl, hlt, hcell⟩ := hc (by intro e; rw [e] at h4; simp at h4)
  rw [h4] at hcell hcp ⊢
  exact ⟨b, off, cap, rfl, hcp, hlt, hcell⟩

theorem first_any (v : Value) (xs : List Int) (n : Int) (w : World) (h : Sl w v xs) (h4 : xs.length = 4) (h0 : 0 ≤ n) (hn : n ≤ 4) :
    Calls Try.prog 23 #[v, .int .i64 n] w fun r w' => ∃ g cap', r = .returned (.slice (some ⟨g, 0, none⟩) 4 cap') ∧ w'.ownsRow w.heap.size 3 1 (.slice (some ⟨g, 0, none⟩) 4 cap') 4 ((cutR xs n.toNat).map (.int .i64)) ∧ Below w.heap.size w w' := by
  obtain ⟨b, off, cap, rfl, hcp, hlt, hcell⟩ := h.four h4
  obtain ⟨n, rfl⟩ := Int.eq_ofNat_of_zero_le h0
  rw [Int.toNat_natCast]
  exact first_at b off cap n xs w h4 (by omega) hcp hlt hcell

theorem cutR_all {xs : List Int} (h4 : xs.length = 4) : cutR xs 4 = xs := by unfold cutR; rw [List.take_of_length_le (by omega)]; simp

/-- What is answered by With, WithOf, Cut, CutOf: a list, an error; new memory. -/
def Ans (w : World) (xs : List Int) (err : Int) (r : Ending) (w' : World) : Prop :=
  ∃ v', r = .returned (.tuple #[v', .int .i64 err]) ∧ Sl w' v' xs ∧ Below w.heap.size w w'

theorem Ans.bad (w : World) {xs : List Int} {err : Int} (hx : xs = []) : Ans w xs err (.returned (.tuple #[.slice none 0 0, .int .i64 err])) w :=
  ⟨_, rfl, hx ▸ Sl.nil w, Below.refl _ _⟩

theorem own_cell {w : World} {base g n cap : Nat} {xs : List Int} (h : w.ownsRow base 3 1 (.slice (some ⟨g, 0, none⟩) n cap) n (xs.map (.int .i64))) (k : Nat) (hk : k < n) : ∃ u, w.cell? ⟨g, k, none⟩ = some u := by
  rw [h.cellAt k (by omega)]
  have hl : xs.length = n := by have := h.1; simpa using this
  exact ⟨.int .i64 (xs[k]), by simp [show k < xs.length by omega]⟩
theorem own_put {w : World} {base g n cap : Nat} {xs : List Int} (h : w.ownsRow base 3 1 (.slice (some ⟨g, 0, none⟩) n cap) n (xs.map (.int .i64))) (k : Nat) (e : Int) :
    (w.setCell ⟨g, k, none⟩ (.int .i64 e)).ownsRow base 3 1 (.slice (some ⟨g, 0, none⟩) n cap) n ((xs.set k e).map (.int .i64)) := by
  have := (h.stored k (.int .i64 e)).1
  rw [List.map_set]; exact this
theorem own_ge {w : World} {base g n cap : Nat} {xs : List Value} (h : w.ownsRow base 3 1 (.slice (some ⟨g, 0, none⟩) n cap) n xs) : base ≤ g := (h.lt g rfl).1

/-- The last step of With and WithOf: the entry is put. -/
theorem Ans.put {w w1 : World} {g n cap k : Nat} {e : Int} {xs ys : List Int} (h : w1.ownsRow w.heap.size 3 1 (.slice (some ⟨g, 0, none⟩) n cap) n (xs.map (.int .i64))) (hb : Below w.heap.size w w1) (hy : xs = ys) :
    Ans w (ys.set k e) 0 (.returned (.tuple #[.slice (some ⟨g, 0, none⟩) n cap, .int .i64 0])) (w1.setCell ⟨g, k, none⟩ (.int .i64 e)) := by
  subst hy
  exact ⟨_, rfl, Sl_of_own (own_put h k e), hb.setCell (own_ge h) _⟩

set_option maxHeartbeats 400000 in
theorem with_yes (v : Value) (xs : List Int) (k : Nat) (e : Int) (w : World) (h : Sl w v xs) (h0 : ckE xs = 0) (hk4' : k < 4) (hE : isE e = true) : Calls Try.prog 10 #[v, .int .i64 k, .int .i64 e] w (Ans w (xs.set k e) 0) := by
  have H4 : Hid (xs.length = 4) := ckE_len h0
  have hk4 : (k : Int) < 4 := by omega
  have hk0 : ¬ (k : Int) < 0 := by omega
  go_enter Try.func10, Try.ntmps10
  go_wp2_with (first | (go_at_call 16; refine (check_any _ xs _ h).mono ?_; rintro e w' ⟨rfl, rfl⟩) | (go_at_call 22; refine (isEntry_any _ _).mono ?_; rintro e w' ⟨rfl, rfl⟩) | (go_at_call 23; refine (first_any _ xs _ _ h H4.out (by omega) (by omega)).mono ?_; rintro e w1 ⟨g, cap', rfl, hown, hbel⟩; obtain ⟨u, hcl⟩ := own_cell hown k (by omega); have hfr := hown.frozenAt k; have HO : Hid (w1.ownsRow _ 3 1 (.slice (some ⟨g, 0, none⟩) 4 cap') 4 ((cutR xs (Int.toNat 4)).map (.int .i64))) := hown; clear hown))
  go_ret2
  exact Ans.put HO.out hbel (cutR_all H4.out)

set_option maxHeartbeats 400000 in
theorem with_any (v : Value) (xs : List Int) (k e : Int) (w : World) (h : Sl w v xs) : Calls Try.prog 10 #[v, .int .i64 k, .int .i64 e] w (Ans w (withL xs k e) (withE xs k e)) := by
  rcases ckE_01 xs with h0 | h1
  · by_cases hk : 0 ≤ k ∧ k < 4
    · obtain ⟨hk0, hk4⟩ := hk
      cases hE : isE e with
      | true =>
        have e1 : withE xs k e = 0 := by simp [withE, h0, hk0, hk4, hE]
        have e2 : withL xs k e = xs.set k.toNat e := by simp [withL, e1]
        rw [e1, e2]
        obtain ⟨k, rfl⟩ := Int.eq_ofNat_of_zero_le hk0
        rw [Int.toNat_natCast]
        exact with_yes v xs k e w h h0 (by omega) hE
      | false =>
        have e1 : withE xs k e = 1 := by simp [withE, h0, hk0, hk4, hE]
        have e2 : withL xs k e = [] := by simp [withL, e1]
        rw [e1, e2]
        clear e1 e2
        have hk0' : ¬ k < 0 := by omega
        go_enter Try.func10, Try.ntmps10
        go_wp2_with (first | (go_at_call 16; refine (check_any _ xs _ h).mono ?_; rintro e w' ⟨rfl, rfl⟩) | (go_at_call 22; refine (isEntry_any _ _).mono ?_; rintro e w' ⟨rfl, rfl⟩))
        go_ret2
        exact Ans.bad _ rfl
    · have e1 : withE xs k e = 3 := by simp only [withE, h0, if_true]; rw [if_neg hk]
      have e2 : withL xs k e = [] := by simp [withL, e1]
      rw [e1, e2]
      clear e1 e2
      by_cases hk0 : k < 0
      · clear hk
        go_enter Try.func10, Try.ntmps10
        go_wp2_with (first | (go_at_call 16; refine (check_any _ xs _ h).mono ?_; rintro e w' ⟨rfl, rfl⟩))
        go_ret2
        exact Ans.bad _ rfl
      · have hk4 : 4 ≤ k := by omega
        clear hk
        go_enter Try.func10, Try.ntmps10
        go_wp2_with (first | (go_at_call 16; refine (check_any _ xs _ h).mono ?_; rintro e w' ⟨rfl, rfl⟩))
        go_ret2
        exact Ans.bad _ rfl
  · have e1 : withE xs k e = 1 := by simp [withE, h1]
    have e2 : withL xs k e = [] := by simp [withL, e1]
    rw [e1, e2]
    clear e1 e2
    go_enter Try.func10, Try.ntmps10
    go_wp2_with (first | (go_at_call 16; refine (check_any _ xs _ h).mono ?_; rintro e w' ⟨rfl, rfl⟩))
    go_ret2
    exact Ans.bad _ rfl
end Go.Proofs.Ytjdccigmfainjab
