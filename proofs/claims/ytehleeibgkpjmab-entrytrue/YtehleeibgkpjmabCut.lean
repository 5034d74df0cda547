/- Contracts of Cut, and of the document's WithOf and CutOf. -/
import Derived.Test.YtehleeibgkpjmabWith
namespace Go.Proofs.Ytehleeibgkpjmab
open Go.RowKit
set_option maxRecDepth 20000

set_option maxHeartbeats 400000 in
theorem cut_any (v : Value) (xs : List Int) (n : Int) (w : World) (h : Sl w v xs) : Calls Try.prog 14 #[v, .int .i64 n] w (Ans w (cutL xs n) (cutE xs n)) := by
  rcases ckE_01 xs with h0 | h1
  · by_cases hk : 0 ≤ n ∧ n ≤ 4
    · have e1 : cutE xs n = 0 := by simp [cutE, h0, hk]
      have e2 : cutL xs n = cutR xs n.toNat := by simp [cutL, e1]
      obtain ⟨hk0, hk4⟩ := hk
      rw [e1, e2]
      clear e1 e2
      have H4 : Hid (xs.length = 4) := ckE_len h0
      have hk0' : ¬ n < 0 := by omega
      obtain ⟨R, hR⟩ : ∃ R, R = cutR xs n.toNat := ⟨_, rfl⟩
      rw [← hR]
      have HR : Hid (R = cutR xs n.toNat) := hR
      clear hR
      go_enter Try.func14, Try.ntmps14
      go_wp2_with (first | (go_at_call 19; refine (check_any _ xs _ h).mono ?_; rintro e w' ⟨rfl, rfl⟩) | (go_at_call 36; refine (first_any _ xs _ _ h H4.out (by omega) (by omega)).mono ?_; rintro e w1 ⟨g, cap', rfl, hown, hbel⟩; have HO : Hid (w1.ownsRow _ 3 1 (.slice (some ⟨g, 0, none⟩) 4 cap') 4 ((cutR xs n.toNat).map (.int .i64))) := hown; clear hown))
      go_ret2
      exact Ans.made HO.out hbel HR.out.symm
    · have e1 : cutE xs n = 3 := by simp only [cutE, h0, if_true]; rw [if_neg hk]
      have e2 : cutL xs n = [] := by simp [cutL, e1]
      rw [e1, e2]
      clear e1 e2
      by_cases hk0 : n < 0
      · clear hk
        go_enter Try.func14, Try.ntmps14
        go_wp2_with (first | (go_at_call 19; refine (check_any _ xs _ h).mono ?_; rintro e w' ⟨rfl, rfl⟩))
        go_ret2
        exact Ans.bad _ rfl
      · have hk4 : 4 < n := by omega
        clear hk
        go_enter Try.func14, Try.ntmps14
        go_wp2_with (first | (go_at_call 19; refine (check_any _ xs _ h).mono ?_; rintro e w' ⟨rfl, rfl⟩))
        go_ret2
        exact Ans.bad _ rfl
  · have e1 : cutE xs n = 1 := by simp [cutE, h1]
    have e2 : cutL xs n = [] := by simp [cutL, e1]
    rw [e1, e2]
    clear e1 e2
    go_enter Try.func14, Try.ntmps14
    go_wp2_with (first | (go_at_call 19; refine (check_any _ xs _ h).mono ?_; rintro e w' ⟨rfl, rfl⟩))
    go_ret2
    exact Ans.bad _ rfl

theorem Try.info3 : (Try.prog.info? 3).map (fun i => (i.zero, i.size, i.bytes)) = some (some (.int .i64 0), 1, 8) := by kernel_rfl

/-- What 'append([]int{}, t...)' does, of right entries. -/
theorem app_runs (v : Value) (xs : List Int) (w : World) (h : Sl w v xs) (h4 : xs.length = 4) :
    ∃ g cap W2, (Builtin.append_ #[27, 27] 27 #[.slice (some ⟨w.heap.size, 0, none⟩) 0 0, v]).run Try.prog (w.alloc (.cells #[] 3)) = .ok (.slice (some ⟨g, 0, none⟩) 4 cap) W2 ∧
      W2.ownsRow w.heap.size 3 1 (.slice (some ⟨g, 0, none⟩) 4 cap) 4 (xs.map (Value.int .i64)) ∧ Below w.heap.size w W2 := by
  obtain ⟨b, off, cap, rfl, hcp, hlt, hcell⟩ := h.four h4
  obtain ⟨i0, hi, hz0, hz1, hz2⟩ := info_parts Try.info3
  have hown : (w.alloc (.cells #[] 3)).ownsRow w.heap.size 3 1 (.slice (some ⟨w.heap.size, 0, none⟩) 0 0) 0 [] := World.ownsRow_made w #[] 0 (Nat.le_refl _) (by decide) (by simp)
  obtain ⟨v', w', hrun, hown', hgrow, _⟩ := run_append_own (P := Try.prog) (w.alloc (.cells #[] 3)) w.heap.size 27 27 3 i0 (.int .i64 0) 1 8 Try.underlying27 hi hz0 hz1 hz2 rfl (by decide) _ 0 [] hown ⟨b, off, none⟩ 4 cap (xs.map (Value.int .i64)) (by simp; exact h4)
    (by
      intro j u hj
      have hjn : j < 4 := by have := (List.getElem?_eq_some_iff.1 hj).1; simp [h4] at this; exact this
      have : u = .int .i64 (xs.getD j 0) := by
        simp [List.getD, show j < xs.length by omega] at hj ⊢
        exact hj.symm
      rw [this, addr_add]
      exact (World.cell?_alloc_past _ _ _ hlt).trans (hcell j hjn)) (ints_oneCell _ _) (by decide) (by decide) (by simp)
  rw [Nat.zero_add, List.nil_append] at hown'
  have hb : Below w.heap.size w w' := ((Below.refl _ w).alloc (Nat.le_refl _) (.cells #[] 3)).grown hgrow (by simp) (fun k hk => by simp [Value.ownBlock] at hk; omega)
  rcases hown'.2 with ⟨_, h'⟩ | ⟨g, cap', cur, rfl, _⟩
  · cases h'
  · exact ⟨g, cap', w', hrun, hown', hb⟩

/-- 'append([]int{}, t...)' at its call in a walk. -/
theorem app_law {w : World} {ops : Array Oper} {rest : List Oper} {o : Oper} {a : Act} {Q : Exit → Act → World → Prop} (hgd : o.guard = none) (s x : Operand)
    (ho : o.op = .call { callee := .builtin .append, args := #[s, x], argTypes := #[27, 27] }) (v : Value) (xs : List Int) (hs : a.eval s = .slice (some ⟨w.heap.size, 0, none⟩) 0 0) (hx : a.eval x = v) (hT : o.type = 27) (hSl : Sl w v xs) (h4 : xs.length = 4)
    (h : ∀ g cap w', Hid (w'.ownsRow w.heap.size 3 1 (.slice (some ⟨g, 0, none⟩) 4 cap) 4 (xs.map (Value.int .i64))) → Below w.heap.size w w' → wpList Try.prog ops Q rest (a.put o.dst (.slice (some ⟨g, 0, none⟩) 4 cap)) w') :
    wpList Try.prog ops Q (o :: rest) a (w.alloc (.cells #[] 3)) := by
  obtain ⟨g, cap, W2, hrun, hown, hb⟩ := app_runs v xs w hSl h4
  refine wpList_plain hgd fun K hK => ?_
  unfold Oper.wp
  simp [execOp, ho, resolve, invoke, builtin, hs, hx, hT, hrun, Result.andThen]
  exact hK _ _ (h g cap W2 hown hb)

set_option maxHeartbeats 400000 in
theorem withOf_yes (v : Value) (xs : List Int) (k : Nat) (e : Int) (w : World) (h : Sl w v xs) (h0 : ckE xs = 0) (hk4' : k < 4) (hE : isE e = true) : Calls Try.prog 16 #[v, .int .i64 k, .int .i64 e] w (Ans w (xs.set k e) 0) := by
  have H4 : Hid (xs.length = 4) := ckE_len h0
  have hk4 : (k : Int) < 4 := by omega
  have hk3 : (k : Int) ≤ 3 := by omega
  have hk0 : 0 ≤ (k : Int) := by omega
  go_enter Try.func16, Try.ntmps16
  go_wp2_with (first | (go_at_call 15; refine (checkOf_any _ xs _ h).mono ?_; rintro e w' ⟨rfl, rfl⟩) | (go_at_call 38; refine (within_any _ _ _ _).mono ?_; rintro e w' ⟨rfl, rfl⟩) | (go_at_call 37; refine (entry_any _ _).mono ?_; rintro e w' ⟨rfl, rfl⟩) | (at_builtin; refine app_law rfl _ _ rfl v xs rfl rfl rfl h H4.out ?_; intro g cap' w1 HO hbel; obtain ⟨u, hcl⟩ := own_cell HO.out k (by omega); have hfr := HO.out.frozenAt k))
  go_ret2
  exact Ans.put HO.out hbel rfl

set_option maxHeartbeats 400000 in
theorem withOf_any (v : Value) (xs : List Int) (k e : Int) (w : World) (h : Sl w v xs) : Calls Try.prog 16 #[v, .int .i64 k, .int .i64 e] w (Ans w (withL xs k e) (withE xs k e)) := by
  rcases ckE_01 xs with h0 | h1
  · by_cases hk : 0 ≤ k ∧ k < 4
    · obtain ⟨hk0, hk4⟩ := hk
      cases hE : isE e with
      | true =>
        have e1 : withE xs k e = 0 := by simp [withE, h0, hk0, hk4, hE]
        have e2 : withL xs k e = xs.set k.toNat e := by simp [withL, e1]
        rw [e1, e2]
        obtain ⟨k, rfl⟩ := Int.eq_ofNat_of_zero_le hk0
        rw [Int.toNat_natCast]
        exact withOf_yes v xs k e w h h0 (by omega) hE
      | false =>
        have e1 : withE xs k e = 1 := by simp [withE, h0, hk0, hk4, hE]
        have e2 : withL xs k e = [] := by simp [withL, e1]
        rw [e1, e2]
        clear e1 e2
        have hk3 : k ≤ 3 := by omega
        go_enter Try.func16, Try.ntmps16
        go_wp2_with (first | (go_at_call 15; refine (checkOf_any _ xs _ h).mono ?_; rintro e w' ⟨rfl, rfl⟩) | (go_at_call 38; refine (within_any _ _ _ _).mono ?_; rintro e w' ⟨rfl, rfl⟩) | (go_at_call 37; refine (entry_any _ _).mono ?_; rintro e w' ⟨rfl, rfl⟩))
        go_ret2
        exact Ans.bad _ rfl
    · have e1 : withE xs k e = 3 := by simp only [withE, h0, if_true]; rw [if_neg hk]
      have e2 : withL xs k e = [] := by simp [withL, e1]
      rw [e1, e2]
      clear e1 e2
      have hd : decide (0 ≤ k ∧ k ≤ 3) = false := by simp; omega
      clear hk
      go_enter Try.func16, Try.ntmps16
      go_wp2_with (first | (go_at_call 15; refine (checkOf_any _ xs _ h).mono ?_; rintro e w' ⟨rfl, rfl⟩) | (go_at_call 38; refine (within_any _ _ _ _).mono ?_; rintro e w' ⟨rfl, rfl⟩; rw [hd]))
      go_ret2
      exact Ans.bad _ rfl
  · have e1 : withE xs k e = 1 := by simp [withE, h1]
    have e2 : withL xs k e = [] := by simp [withL, e1]
    rw [e1, e2]
    clear e1 e2
    go_enter Try.func16, Try.ntmps16
    go_wp2_with (first | (go_at_call 15; refine (checkOf_any _ xs _ h).mono ?_; rintro e w' ⟨rfl, rfl⟩))
    go_ret2
    exact Ans.bad _ rfl

/-- The first n entries, then 0 up to place k. -/
def zeroed (xs : List Int) (n k : Nat) : List Int := xs.take n ++ List.replicate (k - n) 0 ++ xs.drop k
theorem zeroed_start (xs : List Int) (n : Nat) : zeroed xs n n = xs := by simp [zeroed]
theorem zeroed_end (xs : List Int) (n : Nat) (h4 : xs.length = 4) : zeroed xs n 4 = cutR xs n := by unfold zeroed cutR; rw [List.drop_of_length_le (by omega)]; simp
theorem zeroed_step (xs : List Int) (n k : Nat) (h4 : xs.length = 4) (hn : n ≤ k) (hk : k < 4) : (zeroed xs n k).set k 0 = zeroed xs n (k + 1) := by
  match xs, h4 with
  | [a, b, c, d], _ =>
    match k, hk with
    | 0, _ => match n, hn with
      | 0, _ => rfl
    | 1, _ => match n, hn with
      | 0, _ => rfl
      | 1, _ => rfl
    | 2, _ => match n, hn with
      | 0, _ => rfl
      | 1, _ => rfl
      | 2, _ => rfl
    | 3, _ => match n, hn with
      | 0, _ => rfl
      | 1, _ => rfl
      | 2, _ => rfl
      | 3, _ => rfl

set_option maxHeartbeats 400000 in
theorem cutOf_yes (v : Value) (xs : List Int) (n : Nat) (w : World) (h : Sl w v xs) (h0 : ckE xs = 0) (hn : n ≤ 4) : Calls Try.prog 17 #[v, .int .i64 n] w (Ans w (cutR xs n) 0) := by
  have H4 : Hid (xs.length = 4) := ckE_len h0
  have hk4 : (n : Int) ≤ 4 := by omega
  have hk0 : 0 ≤ (n : Int) := by omega
  obtain ⟨R, hR⟩ : ∃ R, R = cutR xs n := ⟨_, rfl⟩
  rw [← hR]
  have HR : Hid (R = cutR xs n) := hR
  clear hR
  go_enter Try.func17, Try.ntmps17
  go_wp2_with (first | (go_at_call 15; refine (checkOf_any _ xs _ h).mono ?_; rintro e w' ⟨rfl, rfl⟩) | (go_at_call 38; refine (within_any _ _ _ _).mono ?_; rintro e w' ⟨rfl, rfl⟩) | (at_builtin; refine app_law rfl _ _ rfl v xs rfl rfl rfl h H4.out ?_; intro g cap' w1 HO hbel))
  go_loopw [8] (fun i wr => ∃ k : Nat, n ≤ k ∧ k ≤ 4 ∧ i = .int .i64 k ∧ Hid (wr.ownsRow w'.heap.size 3 1 (.slice (some ⟨g, 0, none⟩) 4 cap') 4 ((zeroed xs n k).map (.int .i64))) ∧ Below w'.heap.size w' wr) (fun i _ => 4 - (intOf i).toNat)
  case atStart => exact ⟨n, Nat.le_refl _, hn, rfl, by rw [zeroed_start]; exact HO, hbel⟩
  case round =>
    obtain ⟨k, hk1, hk, rfl, HG, hb⟩ := hrel
    by_cases hlt : k < 4
    · have hfr := HG.out.frozenAt k
      obtain ⟨u, hcl⟩ := own_cell HG.out k (by omega)
      go_wp2
      go_roundw
      case rel => exact ⟨k + 1, by omega, by omega, by go_num, by rw [← zeroed_step xs n k H4.out hk1 hlt]; exact own_put HG.out k 0, hb.setCell (own_ge HG.out) _⟩
      case measure => simp [intOf]; omega
    · have e4 : k = 4 := by omega
      subst e4
      go_wp2
      go_ret2
      exact Ans.made HG.out hb (by rw [zeroed_end xs n H4.out]; exact HR.out.symm)

set_option maxHeartbeats 400000 in
theorem cutOf_any (v : Value) (xs : List Int) (n : Int) (w : World) (h : Sl w v xs) : Calls Try.prog 17 #[v, .int .i64 n] w (Ans w (cutL xs n) (cutE xs n)) := by
  rcases ckE_01 xs with h0 | h1
  · by_cases hk : 0 ≤ n ∧ n ≤ 4
    · have e1 : cutE xs n = 0 := by simp [cutE, h0, hk]
      have e2 : cutL xs n = cutR xs n.toNat := by simp [cutL, e1]
      rw [e1, e2]
      obtain ⟨n, rfl⟩ := Int.eq_ofNat_of_zero_le hk.1
      rw [Int.toNat_natCast]
      exact cutOf_yes v xs n w h h0 (by omega)
    · have e1 : cutE xs n = 3 := by simp only [cutE, h0, if_true]; rw [if_neg hk]
      have e2 : cutL xs n = [] := by simp [cutL, e1]
      rw [e1, e2]
      clear e1 e2
      have hd : decide (0 ≤ n ∧ n ≤ 4) = false := by simp; omega
      clear hk
      go_enter Try.func17, Try.ntmps17
      go_wp2_with (first | (go_at_call 15; refine (checkOf_any _ xs _ h).mono ?_; rintro e w' ⟨rfl, rfl⟩) | (go_at_call 38; refine (within_any _ _ _ _).mono ?_; rintro e w' ⟨rfl, rfl⟩; rw [hd]))
      go_ret2
      exact Ans.bad _ rfl
  · have e1 : cutE xs n = 1 := by simp [cutE, h1]
    have e2 : cutL xs n = [] := by simp [cutL, e1]
    rw [e1, e2]
    clear e1 e2
    go_enter Try.func17, Try.ntmps17
    go_wp2_with (first | (go_at_call 15; refine (checkOf_any _ xs _ h).mono ?_; rintro e w' ⟨rfl, rfl⟩))
    go_ret2
    exact Ans.bad _ rfl
theorem cut_is {v : Value} {xs ys : List Int} {n c : Int} {w : World} (h : Sl w v xs) (hy : cutL xs n = ys) (hc : cutE xs n = c) :
    Calls Try.prog 14 #[v, .int .i64 n] w (Ans w ys c) := by subst hy; subst hc; exact cut_any v xs n w h
end Go.Proofs.Ytehleeibgkpjmab
