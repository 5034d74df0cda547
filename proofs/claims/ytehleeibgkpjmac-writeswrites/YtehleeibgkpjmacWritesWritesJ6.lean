/- Texts joined: ClnI, WrQ. -/
import Derived.Test.YtehleeibgkpjmacWritesWritesJ3
import Derived.Lib.SliceRun
import Derived.Test.YtehleeibgkpjmacWritesWritesJ5
/- Contracts of slices.Clone: a list of one's own. -/
namespace Go.Proofs.Ytehleeibgkpjmac
open Go.RowKit Go.Shelf
set_option maxRecDepth 20000

theorem ints_mem {xs : List Int} : ∀ u ∈ ints xs, u.oneCell' = true := ints_oneCell .i64 xs
theorem sl_form1 {W : World} {v : Value} {xs : List Int} (h : Sl W v xs) : v.oneCell' = true := by obtain ⟨ao, cap, rfl, _⟩ := h; rfl
theorem flatS_mem {L : List SlotD} {tv : Nat → Value} (h : ∀ j, j < L.length → (tv j).oneCell' = true) : ∀ u ∈ flatS L tv, u.oneCell' = true := fun u hu => by
  unfold flatS at hu
  rw [List.mem_flatMap] at hu
  obtain ⟨j, hj, hu⟩ := hu
  rw [List.mem_range] at hj
  simp only [List.mem_cons, List.not_mem_nil, or_false] at hu
  rcases hu with rfl | rfl | rfl
  · rfl
  · rfl
  · exact h j hj
theorem flatN_mem {L : List SnapD} {tv : Nat → Value} (h : ∀ j, j < L.length → (tv j).oneCell' = true) : ∀ u ∈ flatN L tv, u.oneCell' = true := fun u hu => by
  unfold flatN at hu
  rw [List.mem_flatMap] at hu
  obtain ⟨j, hj, hu⟩ := hu
  rw [List.mem_range] at hj
  simp only [List.mem_cons, List.not_mem_nil, or_false] at hu
  rcases hu with rfl | rfl | rfl
  · rfl
  · rfl
  · exact h j hj
def room : Nat := 140737488355328
theorem room_is : room = 140737488355328 := rfl
theorem maxLen_of_room {n b : Nat} (hb : 0 < b) (h : n * b ≤ room) : n ≤ maxLen := by
  have := Nat.le_trans (Nat.le_mul_of_pos_right n hb) h
  rw [room_is] at this
  unfold maxLen
  omega

theorem clnI_nil (n c : Nat) (w : World) : Calls Try.prog 112 #[.slice none n c] w fun r w' => r = .returned (.slice none 0 0) ∧ w' = w := by
  have q22 : ∀ (w : World) (a : Option Addr) (n c n' c' : Nat), (binOp .eql 22 (.slice a n c) (.slice none n' c')).run Try.prog w = .ok (.bool a.isNone) w := fun w a n c n' c' => Lib.run_eql_slice_nil w _ _ a n c n' c' Try.underlying22
  go_enter Try.func112, Try.ntmps112
  go_wp2
  go_ret
  exact ⟨rfl, rfl⟩
set_option maxHeartbeats 1000000 in
theorem clnI_at (a : Addr) (n c : Nat) (news : List Value) (w : World) (hl : news.length = n * 1) (hbig : n * 8 ≤ room) (hc : ∀ j u, news[j]? = some u → w.cell? (a.add j) = some u) (h1 : ∀ u ∈ news, u.oneCell' = true) :
    Calls Try.prog 112 #[.slice (some a) n c] w fun r w' => ∃ v', r = .returned v' ∧ w'.ownsRow w.heap.size 3 1 v' n news ∧ Below w.heap.size w w' := by
  have q22 : ∀ (w : World) (a : Option Addr) (n c n' c' : Nat), (binOp .eql 22 (.slice a n c) (.slice none n' c')).run Try.prog w = .ok (.bool a.isNone) w := fun w a n c n' c' => Lib.run_eql_slice_nil w _ _ a n c n' c' Try.underlying22
  obtain ⟨i0, hi, hz0, hz1, hz2⟩ := info_parts info3
  have A : Hid ((∀ j u, news[j]? = some u → w.cell? (a.add j) = some u) ∧ news.length = n * 1 ∧ n * 8 ≤ room ∧ (∀ u ∈ news, u.oneCell' = true) ∧ Try.prog.info? 3 = some i0 ∧ i0.zero = some (.int .i64 0) ∧ i0.size = 1 ∧ i0.bytes = 8) := ⟨hc, hl, hbig, h1, hi, hz0, hz1, hz2⟩
  clear hc hl hbig h1 hi hz0 hz1 hz2
  go_enter Try.func112, Try.ntmps112
  go_wp2_with (at_builtin; refine wpList_append_own _ rfl _ _ 22 rfl w.heap.size 3 i0 (.int .i64 0) 1 8 Try.underlying22 A.out.2.2.2.2.1 A.out.2.2.2.2.2.1 A.out.2.2.2.2.2.2.1 A.out.2.2.2.2.2.2.2 rfl (by decide) _ _ _ rfl (World.ownsRow_made w #[] 0 (Nat.le_refl _) (Nat.zero_le _) (by simp)) a n c news rfl A.out.2.1 ?qc2 A.out.2.2.2.1 ?qc4 ?qc5 ?qc6 ?_)
  case qc2 =>
    intro j u hj
    exact Lib.cell?_alloc_some _ (A.out.1 j u hj)
  case qc4 => rw [Nat.zero_add]; exact maxLen_of_room (by decide) A.out.2.2.1
  case qc5 => rw [Nat.zero_add]; exact A.out.2.2.1
  case qc6 => simp
  intro v' w1 hown hgrow hnil
  have HO : Hid (w1.ownsRow w.heap.size 3 1 v' n news) := hown
  have HG : Hid (Below w.heap.size w w1) := ((Below.refl _ w).alloc (Nat.le_refl _) _).grown hgrow (by simp) (by intro k hk; simp [Value.ownBlock] at hk; omega)
  clear hown hgrow hnil
  go_wp2
  go_ret
  exact ⟨v', rfl, HO.out, HG.out⟩
theorem clone_ints {w : World} {v : Value} {xs : List Int} (h : Sl w v xs) (hb : xs.length * 8 ≤ room) :
    Calls Try.prog 112 #[v] w fun r w' => ∃ v', r = .returned v' ∧ w'.ownsRow w.heap.size 3 1 v' xs.length (ints xs) ∧ Below w.heap.size w w' := by
  obtain ⟨ao, cap, rfl, hm, hcp, hc⟩ := h
  cases ao with
  | none =>
    have hx : xs = [] := Classical.byContradiction fun hne => by obtain ⟨_, _, e, _⟩ := hc hne; cases e
    subst hx
    refine (clnI_nil _ _ w).mono ?_
    rintro e w' ⟨rfl, rfl⟩
    exact ⟨_, rfl, World.ownsRow_nil _ _ _ _, Below.refl _ _⟩
  | some a =>
    refine clnI_at a xs.length cap (ints xs) w (by rw [ints_length]; omega) hb (fun j u hu => ?_) ints_mem
    have hj : j < xs.length := by
      rcases Nat.lt_or_ge j xs.length with h | h
      · exact h
      · rw [List.getElem?_eq_none (by rw [ints_length]; exact h)] at hu; cases hu
    obtain ⟨b, off, e, _, hcell⟩ := hc (by intro e; rw [e] at hj; simp at hj)
    simp only [Option.some.injEq] at e
    subst e
    rw [addr_add, hcell j hj]
    unfold ints at hu
    rw [List.getElem?_map, List.getElem?_eq_getElem hj] at hu
    simp at hu
    simp [List.getD, hj, hu]
abbrev nilS : Value := .slice none 0 0
theorem choose_ltV {p : Nat → Value → Prop} {n : Nat} (h : ∀ i, i < n → ∃ s, p i s) : ∃ f : Nat → Value, ∀ i, i < n → p i (f i) :=
  ⟨fun i => if hi : i < n then (h i hi).choose else .slice none 0 0, fun i hi => by simp only [dif_pos hi]; exact (h i hi).choose_spec⟩

theorem clnS_nil (n c : Nat) (w : World) : Calls Try.prog 113 #[.slice none n c] w fun r w' => r = .returned (.slice none 0 0) ∧ w' = w := by
  have q22 : ∀ (w : World) (a : Option Addr) (n c n' c' : Nat), (binOp .eql 23 (.slice a n c) (.slice none n' c')).run Try.prog w = .ok (.bool a.isNone) w := fun w a n c n' c' => Lib.run_eql_slice_nil w _ _ a n c n' c' Try.underlying23
  go_enter Try.func113, Try.ntmps113
  go_wp2
  go_ret
  exact ⟨rfl, rfl⟩
set_option maxHeartbeats 1000000 in
theorem clnS_at (a : Addr) (n c : Nat) (news : List Value) (w : World) (hl : news.length = n * 3) (hbig : n * 48 ≤ room) (hc : ∀ j u, news[j]? = some u → w.cell? (a.add j) = some u) (h1 : ∀ u ∈ news, u.oneCell' = true) :
    Calls Try.prog 113 #[.slice (some a) n c] w fun r w' => ∃ v', r = .returned v' ∧ w'.ownsRow w.heap.size 33 3 v' n news ∧ Below w.heap.size w w' := by
  have q22 : ∀ (w : World) (a : Option Addr) (n c n' c' : Nat), (binOp .eql 23 (.slice a n c) (.slice none n' c')).run Try.prog w = .ok (.bool a.isNone) w := fun w a n c n' c' => Lib.run_eql_slice_nil w _ _ a n c n' c' Try.underlying23
  obtain ⟨i0, hi, hz0, hz1, hz2⟩ := info_parts infoSlot
  have A : Hid ((∀ j u, news[j]? = some u → w.cell? (a.add j) = some u) ∧ news.length = n * 3 ∧ n * 48 ≤ room ∧ (∀ u ∈ news, u.oneCell' = true) ∧ Try.prog.info? 33 = some i0 ∧ i0.zero = some (.agg #[.int .i64 0, .string ByteArray.empty, .slice none 0 0]) ∧ i0.size = 3 ∧ i0.bytes = 48) := ⟨hc, hl, hbig, h1, hi, hz0, hz1, hz2⟩
  clear hc hl hbig h1 hi hz0 hz1 hz2
  go_enter Try.func113, Try.ntmps113
  go_wp2_with (at_builtin; refine wpList_append_own _ rfl _ _ 23 rfl w.heap.size 33 i0 (.agg #[.int .i64 0, .string ByteArray.empty, .slice none 0 0]) 3 48 Try.underlying23 A.out.2.2.2.2.1 A.out.2.2.2.2.2.1 A.out.2.2.2.2.2.2.1 A.out.2.2.2.2.2.2.2 rfl (by decide) _ _ _ rfl (World.ownsRow_made w #[] 0 (Nat.le_refl _) (Nat.zero_le _) (by simp)) a n c news rfl A.out.2.1 ?qc2 A.out.2.2.2.1 ?qc4 ?qc5 ?qc6 ?_)
  case qc2 =>
    intro j u hj
    exact Lib.cell?_alloc_some _ (A.out.1 j u hj)
  case qc4 => rw [Nat.zero_add]; exact maxLen_of_room (by decide) A.out.2.2.1
  case qc5 => rw [Nat.zero_add]; exact A.out.2.2.1
  case qc6 => simp
  intro v' w1 hown hgrow hnil
  have HO : Hid (w1.ownsRow w.heap.size 33 3 v' n news) := hown
  have HG : Hid (Below w.heap.size w w1) := ((Below.refl _ w).alloc (Nat.le_refl _) _).grown hgrow (by simp) (by intro k hk; simp [Value.ownBlock] at hk; omega)
  clear hown hgrow hnil
  go_wp2
  go_ret
  exact ⟨v', rfl, HO.out, HG.out⟩
theorem clone_slots {w : World} {v : Value} {L : List SlotD} (h : Slots w v L) (hb : L.length * 48 ≤ room) :
    ∃ tv : Nat → Value, (∀ j, j < L.length → Sl w (tv j) (L.getD j default).2.2) ∧ ∀ W, Below w.heap.size w W → Calls Try.prog 113 #[v] W fun r w' => ∃ v', r = .returned v' ∧ w'.ownsRow W.heap.size 33 3 v' L.length (flatS L tv) ∧ Below W.heap.size W w' := by
  obtain ⟨ao, cap, rfl, hm, hcp, hc⟩ := h
  cases ao with
  | none =>
    have hx : L = [] := Classical.byContradiction fun hne => by obtain ⟨_, _, e, _⟩ := hc hne; cases e
    subst hx
    refine ⟨fun _ => nilS, fun j hj => absurd hj (Nat.not_lt_zero _), fun W _ => (clnS_nil _ _ W).mono ?_⟩
    rintro e w' ⟨rfl, rfl⟩
    exact ⟨_, rfl, World.ownsRow_nil _ _ _ _, Below.refl _ _⟩
  | some a =>
    have hx : ∀ j, j < L.length → ∃ tv, Sl w tv (L.getD j default).2.2 ∧ ∀ W, Below w.heap.size w W → W.cell? (a.add (j * 3)) = some (.int .i64 (L.getD j default).1) ∧ W.cell? (a.add (j * 3 + 1)) = some (.string (L.getD j default).2.1) ∧ W.cell? (a.add (j * 3 + 2)) = some tv := fun j hj => by
      obtain ⟨b, off, e, hlt, hcell⟩ := hc (by intro e; rw [e] at hj; simp at hj)
      simp only [Option.some.injEq] at e
      subst e
      obtain ⟨tv, c1, c2, c3, hs⟩ := hcell j hj
      have eg : L[j] = L.getD j default := by simp [List.getD, hj]
      rw [eg] at c1 c2 hs
      exact ⟨tv, hs, fun W hW => ⟨by rw [addr_add]; exact (hW.cell (p := ⟨b, off + j * 3, none⟩) hlt).trans c1, by rw [addr_add]; exact (hW.cell (p := ⟨b, off + j * 3 + 1, none⟩) hlt).trans c2, by rw [addr_add]; exact (hW.cell (p := ⟨b, off + j * 3 + 1 + 1, none⟩) hlt).trans c3⟩⟩
    obtain ⟨tv, htv⟩ := choose_ltV hx
    refine ⟨tv, fun j hj => (htv j hj).1, fun W hW => clnS_at a L.length cap (flatS L tv) W (flatS_length L tv) hb (fun i u hu => ?_) (flatS_mem (fun j hj => sl_form1 (htv j hj).1))⟩
    have hi : i < L.length * 3 := by
      rcases Nat.lt_or_ge i (L.length * 3) with h | h
      · exact h
      · rw [List.getElem?_eq_none (by rw [flatS_length]; exact h)] at hu; cases hu
    obtain ⟨j, r, hj, hr, rfl⟩ : ∃ j r, j < L.length ∧ r < 3 ∧ i = j * 3 + r := ⟨i / 3, i % 3, by omega, Nat.mod_lt _ (by decide), by omega⟩
    obtain ⟨g0, g1, g2⟩ := flatS_get (tv := tv) hj
    obtain ⟨c0, c1, c2⟩ := (htv j hj).2 W hW
    match r, hr with
    | 0, _ => rw [Nat.add_zero] at hu ⊢; rw [g0] at hu; cases hu; exact c0
    | 1, _ => rw [g1] at hu; cases hu; exact c1
    | 2, _ => rw [g2] at hu; cases hu; exact c2

theorem clnN_nil (n c : Nat) (w : World) : Calls Try.prog 114 #[.slice none n c] w fun r w' => r = .returned (.slice none 0 0) ∧ w' = w := by
  have q22 : ∀ (w : World) (a : Option Addr) (n c n' c' : Nat), (binOp .eql 24 (.slice a n c) (.slice none n' c')).run Try.prog w = .ok (.bool a.isNone) w := fun w a n c n' c' => Lib.run_eql_slice_nil w _ _ a n c n' c' Try.underlying24
  go_enter Try.func114, Try.ntmps114
  go_wp2
  go_ret
  exact ⟨rfl, rfl⟩
set_option maxHeartbeats 1000000 in
theorem clnN_at (a : Addr) (n c : Nat) (news : List Value) (w : World) (hl : news.length = n * 3) (hbig : n * 48 ≤ room) (hc : ∀ j u, news[j]? = some u → w.cell? (a.add j) = some u) (h1 : ∀ u ∈ news, u.oneCell' = true) :
    Calls Try.prog 114 #[.slice (some a) n c] w fun r w' => ∃ v', r = .returned v' ∧ w'.ownsRow w.heap.size 61 3 v' n news ∧ Below w.heap.size w w' := by
  have q22 : ∀ (w : World) (a : Option Addr) (n c n' c' : Nat), (binOp .eql 24 (.slice a n c) (.slice none n' c')).run Try.prog w = .ok (.bool a.isNone) w := fun w a n c n' c' => Lib.run_eql_slice_nil w _ _ a n c n' c' Try.underlying24
  obtain ⟨i0, hi, hz0, hz1, hz2⟩ := info_parts infoSnap
  have A : Hid ((∀ j u, news[j]? = some u → w.cell? (a.add j) = some u) ∧ news.length = n * 3 ∧ n * 48 ≤ room ∧ (∀ u ∈ news, u.oneCell' = true) ∧ Try.prog.info? 61 = some i0 ∧ i0.zero = some (.agg #[.string ByteArray.empty, .int .i64 0, .slice none 0 0]) ∧ i0.size = 3 ∧ i0.bytes = 48) := ⟨hc, hl, hbig, h1, hi, hz0, hz1, hz2⟩
  clear hc hl hbig h1 hi hz0 hz1 hz2
  go_enter Try.func114, Try.ntmps114
  go_wp2_with (at_builtin; refine wpList_append_own _ rfl _ _ 24 rfl w.heap.size 61 i0 (.agg #[.string ByteArray.empty, .int .i64 0, .slice none 0 0]) 3 48 Try.underlying24 A.out.2.2.2.2.1 A.out.2.2.2.2.2.1 A.out.2.2.2.2.2.2.1 A.out.2.2.2.2.2.2.2 rfl (by decide) _ _ _ rfl (World.ownsRow_made w #[] 0 (Nat.le_refl _) (Nat.zero_le _) (by simp)) a n c news rfl A.out.2.1 ?qc2 A.out.2.2.2.1 ?qc4 ?qc5 ?qc6 ?_)
  case qc2 =>
    intro j u hj
    exact Lib.cell?_alloc_some _ (A.out.1 j u hj)
  case qc4 => rw [Nat.zero_add]; exact maxLen_of_room (by decide) A.out.2.2.1
  case qc5 => rw [Nat.zero_add]; exact A.out.2.2.1
  case qc6 => simp
  intro v' w1 hown hgrow hnil
  have HO : Hid (w1.ownsRow w.heap.size 61 3 v' n news) := hown
  have HG : Hid (Below w.heap.size w w1) := ((Below.refl _ w).alloc (Nat.le_refl _) _).grown hgrow (by simp) (by intro k hk; simp [Value.ownBlock] at hk; omega)
  clear hown hgrow hnil
  go_wp2
  go_ret
  exact ⟨v', rfl, HO.out, HG.out⟩
theorem clone_snaps {w : World} {v : Value} {L : List SnapD} (h : Snaps w v L) (hb : L.length * 48 ≤ room) :
    ∃ tv : Nat → Value, (∀ j, j < L.length → Sl w (tv j) (L.getD j default).2.2) ∧ ∀ W, Below w.heap.size w W → Calls Try.prog 114 #[v] W fun r w' => ∃ v', r = .returned v' ∧ w'.ownsRow W.heap.size 61 3 v' L.length (flatN L tv) ∧ Below W.heap.size W w' := by
  obtain ⟨ao, cap, rfl, hm, hcp, hc⟩ := h
  cases ao with
  | none =>
    have hx : L = [] := Classical.byContradiction fun hne => by obtain ⟨_, _, e, _⟩ := hc hne; cases e
    subst hx
    refine ⟨fun _ => nilS, fun j hj => absurd hj (Nat.not_lt_zero _), fun W _ => (clnN_nil _ _ W).mono ?_⟩
    rintro e w' ⟨rfl, rfl⟩
    exact ⟨_, rfl, World.ownsRow_nil _ _ _ _, Below.refl _ _⟩
  | some a =>
    have hx : ∀ j, j < L.length → ∃ tv, Sl w tv (L.getD j default).2.2 ∧ ∀ W, Below w.heap.size w W → W.cell? (a.add (j * 3)) = some (.string (L.getD j default).1) ∧ W.cell? (a.add (j * 3 + 1)) = some (.int .i64 (L.getD j default).2.1) ∧ W.cell? (a.add (j * 3 + 2)) = some tv := fun j hj => by
      obtain ⟨b, off, e, hlt, hcell⟩ := hc (by intro e; rw [e] at hj; simp at hj)
      simp only [Option.some.injEq] at e
      subst e
      obtain ⟨tv, c1, c2, c3, hs⟩ := hcell j hj
      have eg : L[j] = L.getD j default := by simp [List.getD, hj]
      rw [eg] at c1 c2 hs
      exact ⟨tv, hs, fun W hW => ⟨by rw [addr_add]; exact (hW.cell (p := ⟨b, off + j * 3, none⟩) hlt).trans c1, by rw [addr_add]; exact (hW.cell (p := ⟨b, off + j * 3 + 1, none⟩) hlt).trans c2, by rw [addr_add]; exact (hW.cell (p := ⟨b, off + j * 3 + 1 + 1, none⟩) hlt).trans c3⟩⟩
    obtain ⟨tv, htv⟩ := choose_ltV hx
    refine ⟨tv, fun j hj => (htv j hj).1, fun W hW => clnN_at a L.length cap (flatN L tv) W (flatN_length L tv) hb (fun i u hu => ?_) (flatN_mem (fun j hj => sl_form1 (htv j hj).1))⟩
    have hi : i < L.length * 3 := by
      rcases Nat.lt_or_ge i (L.length * 3) with h | h
      · exact h
      · rw [List.getElem?_eq_none (by rw [flatN_length]; exact h)] at hu; cases hu
    obtain ⟨j, r, hj, hr, rfl⟩ : ∃ j r, j < L.length ∧ r < 3 ∧ i = j * 3 + r := ⟨i / 3, i % 3, by omega, Nat.mod_lt _ (by decide), by omega⟩
    obtain ⟨g0, g1, g2⟩ := flatN_get (qv := tv) hj
    obtain ⟨c0, c1, c2⟩ := (htv j hj).2 W hW
    match r, hr with
    | 0, _ => rw [Nat.add_zero] at hu ⊢; rw [g0] at hu; cases hu; exact c0
    | 1, _ => rw [g1] at hu; cases hu; exact c1
    | 2, _ => rw [g2] at hu; cases hu; exact c2
theorem row_slice {W : World} {B : Nat} {e : TypeId} {size n : Nat} {v : Value} {xs : List Value} (h : W.ownsRow B e size v n xs) : ∃ ao cap, v = .slice ao n cap := by
  rcases row_form h with ⟨rfl, rfl⟩ | ⟨g, cap, rfl, _⟩
  · exact ⟨none, 0, rfl⟩
  · exact ⟨_, cap, rfl⟩
end Go.Proofs.Ytehleeibgkpjmac
/- Writing, wiping, punching: what comes is right, and how it is read. Plain lists. -/
namespace Go.Proofs.Ytehleeibgkpjmac
open Go.RowKit Go.Shelf
set_option maxRecDepth 20000

def EntOK (L : List SlotD) (e : Int) : Prop := e = 0 ∨ e = -1 ∨ ∃ j : Nat, e = j ∧ 1 ≤ j ∧ j < L.length ∧ kd L j = 1
/-- The image M is m with the entries es in its k-th table. -/
structure Laid (m M : ImgD) (k : Nat) (es : List Int) : Prop where
  shape : shapeE M = 0
  guest : M.guest = m.guest
  snaps : M.snaps = m.snaps
  rlen : M.root.length = m.root.length
  look : ∀ q, q / 4 < m.root.length → lookV M M.root q = if q / 4 = k then es.getD (q % 4) 0 else lookV m m.root q
  past : ∀ s ∈ m.snaps, ∀ q, q / 4 < s.2.2.length → lookV M s.2.2 q = lookV m s.2.2 q
  page : ∀ e, EntOK m.slots e → pageV M.slots e = pageV m.slots e

theorem laid_ext {m : ImgD} {k t : Nat} {L' : List SlotD} {es rf : List Int} (h : shapeE m = 0) (hk : k < m.root.length) (hx : Ext m.slots L' t es) (hl : Lone m k t) (hrf : rf.length = L'.length) (hz : TailZ m k es) : Laid m (tabSet m k t L' rf) k es := by
  have hs := (shapeE_zero h).2.1
  have hr := root_ok h
  refine ⟨tabSet_shape h hk hx hl hrf hz, rfl, rfl, by show (m.root.set k _).length = _; rw [List.length_set], fun q hq => look_tabSet hx hs hl hr.2 q hq, fun s hsm q hq => ?_, fun e he => page_ext hx he⟩
  have hf := List.all_eq_true.1 (shapeE_zero h).2.2.2.2.2.2 s (List.mem_cons_of_mem _ hsm)
  unfold rootFit at hf
  simp only [Bool.and_eq_true] at hf
  exact look_snap hx hs hf.2.1 (hl.snap s hsm) q hq

/-- Another Guest, another Root. -/
theorem reroot_shape {m : ImgD} (h : shapeE m = 0) {g : Int} {r : List Int} (hg : guestOK g = true) (hf : rootFit m.slots g r = true) : shapeE { m with guest := g, root := r } = 0 := by
  obtain ⟨z1, z2, z3, z4, z5, z6, z7⟩ := shapeE_zero h
  unfold rootsOf at z5 z7
  rw [List.all_cons] at z5 z7
  simp only [Bool.and_eq_true] at z5 z7
  have hgall : (rootsOf { m with guest := g, root := r }).all (fun s => guestOK s.2.1) = true := by
    show (((⟨#[]⟩, g, r) : SnapD) :: m.snaps).all _ = true
    rw [List.all_cons, z5.2, Bool.and_true]; exact hg
  have hall : (rootsOf { m with guest := g, root := r }).all (fun s => rootFit m.slots s.2.1 s.2.2) = true := by
    show (((⟨#[]⟩, g, r) : SnapD) :: m.snaps).all _ = true
    rw [List.all_cons, z7.2, Bool.and_true]; exact hf
  unfold shapeE
  rw [if_neg (by show ¬ 3 < m.snaps.length; omega), if_neg (by show ¬ slotsE m.slots ≠ 0; simpa using z2), if_neg, if_neg (by rw [hgall]; decide), if_neg (by show ¬ tabFit m.slots = false; rw [z6]; decide), if_neg (by show ¬ ((rootsOf { m with guest := g, root := r }).all fun s => rootFit m.slots s.2.1 s.2.2) = false; rw [hall]; decide)]
  rintro (e | e)
  · exact e z3
  · have : namesOK m.snaps = false := e
    rw [z4] at this; cases this
theorem rootFit_root {m : ImgD} (h : shapeE m = 0) : rootFit m.slots m.guest m.root = true := List.all_eq_true.1 (shapeE_zero h).2.2.2.2.2.2 (⟨#[]⟩, m.guest, m.root) List.mem_cons_self
theorem guestOK_guest {m : ImgD} (h : shapeE m = 0) : guestOK m.guest = true := List.all_eq_true.1 (shapeE_zero h).2.2.2.2.1 (⟨#[]⟩, m.guest, m.root) List.mem_cons_self
theorem rootFit_zero {L : List SlotD} {g : Int} {r : List Int} (h : rootFit L g r = true) (k : Nat) : rootFit L g (r.set k 0) = true := by
  unfold rootFit at h ⊢
  simp only [Bool.and_eq_true, decide_eq_true_eq] at h ⊢
  refine ⟨by rw [List.length_set]; exact h.1, ?_, ?_⟩
  · rw [List.all_eq_true]
    intro x hx
    rcases mem_set hx with hm | hm
    · exact List.all_eq_true.1 h.2.1 x hm
    · rw [hm]; rfl
  · have hl := h.2.2
    unfold lastFit at hl ⊢
    rw [List.length_set, getD_setI]
    by_cases e : k = r.length - 1 ∧ r.length - 1 < r.length
    · rw [if_pos e]; simp
    · rw [if_neg e]; exact hl
theorem laid_bare {m : ImgD} {k : Nat} {es : List Int} (h : shapeE m = 0) (hb : bareL es = true) : Laid m { m with root := m.root.set k 0 } k es := by
  refine ⟨reroot_shape h (guestOK_guest h) (rootFit_zero (rootFit_root h) k), rfl, rfl, List.length_set, fun q hq => ?_, fun _ _ _ _ => rfl, fun _ _ => rfl⟩
  have hg := getD_setI m.root k (q / 4) 0
  by_cases e : q / 4 = k
  · rw [if_pos (⟨e.symm, hq⟩ : k = q / 4 ∧ q / 4 < m.root.length)] at hg
    rw [if_pos e]
    unfold lookV
    show (if (m.root.set k 0).getD (q / 4) 0 = 0 then 0 else _) = _
    rw [hg, if_pos rfl]
    unfold bareL at hb
    by_cases hi : q % 4 < es.length
    · have := List.all_eq_true.1 hb _ (List.getElem_mem hi)
      have e0 : es[q % 4] = 0 := by simpa using this
      rw [getD_at hi, e0]
    · simp [List.getD, hi]
  · rw [if_neg (fun x => e x.1.symm)] at hg
    rw [if_neg e]
    unfold lookV
    show (if (m.root.set k 0).getD (q / 4) 0 = 0 then 0 else (tabOf m.slots ((m.root.set k 0).getD (q / 4) 0)).getD (q % 4) 0) = _
    rw [hg]

/-- tabled. -/
theorem tabled_laid {m : ImgD} (hC : checkE m = 0) {k : Nat} (hk : k < m.root.length) {es : List Int} (hes : ckE es = 0) (hents : ∀ e ∈ es, tabE m.slots e = true) (hz : TailZ m k es) {M : ImgD} (hM : tabledD m k es = some M) : Laid m M k es ∧ M.slots.length ≤ m.slots.length + 1 := by
  obtain ⟨h, _, _⟩ := checkE_zero hC
  unfold tabledD at hM
  split at hM
  · rename_i hb
    simp at hM
    subst hM
    exact ⟨laid_bare h hb, Nat.le_succ _⟩
  · rename_i hb
    have hb : bareL es = false := by simpa using hb
    split at hM
    · cases hM
    · rename_i h40
      simp at hM
      subst hM
      obtain ⟨t1, tl, t40, tk, hl⟩ := tabN_spec hC hk h40
      refine ⟨laid_ext h hk (ext_lay (shapeE_zero h).2.1 tl t1 t40 tk hes hb hents) hl (by simp [rfZ, tabL]) hz, ?_⟩
      show (layS _ _ _).length ≤ _
      rw [layS_length]; split <;> omega

/-! ### How it is read -/
theorem snap_fit {m : ImgD} (h : shapeE m = 0) {s : SnapD} (hs : s ∈ rootsOf m) : 0 ≤ s.2.1 ∧ s.2.1 ≤ 16 ∧ (s.2.2.length : Int) = (s.2.1 + 3) / 4 ∧ s.2.2.all (rootE m.slots) = true := by
  have hf := List.all_eq_true.1 (shapeE_zero h).2.2.2.2.2.2 s hs
  have hg := List.all_eq_true.1 (shapeE_zero h).2.2.2.2.1 s hs
  unfold rootFit at hf
  unfold guestOK at hg
  simp only [Bool.and_eq_true, decide_eq_true_eq] at hf hg
  exact ⟨hg.1, hg.2, hf.1, hf.2.1⟩
theorem Laid.allV {m M : ImgD} {k : Nat} {es : List Int} (hL : Laid m M k es) : Go.Proofs.Ytehleeibgkpjmac.allV (countedD M) = allP M M.root m.guest.toNat := by
  unfold Go.Proofs.Ytehleeibgkpjmac.allV
  rw [if_pos (counted_right hL.shape)]
  have := allP_counted hL.shape (s := (⟨#[]⟩, M.guest, M.root)) List.mem_cons_self
  show allP (countedD M) M.root M.guest.toNat = _
  rw [this, hL.guest]
/-- One entry is put: one page is another, all others are as they were. -/
theorem Laid.put {m M : ImgD} {n : Nat} {x : Int} (hC : checkE m = 0) (hn : (n : Int) < m.guest) (hL : Laid m M (n / 4) ((tableO m (n / 4)).set (n % 4) x)) : Go.Proofs.Ytehleeibgkpjmac.allV (countedD M) = (Go.Proofs.Ytehleeibgkpjmac.allV m).set n (pageV M.slots x) := by
  have h := checkE_shape hC
  have hr := root_ok h
  have hg := guest_ok h
  rw [hL.allV]
  unfold Go.Proofs.Ytehleeibgkpjmac.allV
  rw [if_pos hC]
  unfold allP
  apply List.ext_getElem
  · simp
  · intro q h1 h2
    have hq : q < m.guest.toNat := by simpa using h1
    rw [List.getElem_set, List.getElem_map, List.getElem_range]
    rw [hL.look q (by omega)]
    have hlen : (tableO m (n / 4)).length = 4 := ckE_len (tableO_ok h (by omega)).1
    by_cases e : n = q
    · subst e
      rw [if_pos rfl, if_pos rfl, set_get (by rw [hlen]; omega)]
    · rw [if_neg e]
      simp only [List.getElem_map, List.getElem_range]
      by_cases e4 : q / 4 = n / 4
      · rw [if_pos e4, getD_setI, if_neg (fun z => e (by omega)), ← e4, ← lookV_tableO]
        exact hL.page _ (lookV_ent h hr.2 q (by omega))
      · rw [if_neg e4]
        exact hL.page _ (lookV_ent h hr.2 q (by omega))

/-! ### Write -/
theorem write_laid {m : ImgD} (hC : checkE m = 0) {n : Nat} (hn : (n : Int) < m.guest) (h40 : tabN m (n / 4) ≠ 40) (hd40 : wD m n ≠ 40) {page : ByteArray} (hp : page.size = 4) :
    Laid m (tabSet m (n / 4) (tabN m (n / 4)) (wL m n page) (rfZ (wL m n page))) (n / 4) (wEs m n) ∧ pageV (wL m n page) (wD m n) = page ∧ (wL m n page).length ≤ m.slots.length + 2 := by
  obtain ⟨hx, hl, hz, hk, d1, d40, hkd, hdt⟩ := write_ext hC hn h40 hd40 hp
  refine ⟨laid_ext (checkE_shape hC) hk hx hl (by simp [rfZ]) hz, ?_, ?_⟩
  · unfold pageV
    rw [if_neg (by omega), Int.toNat_natCast]
    have hdl : wD m n ≤ (tabL m (n / 4) (wEs m n)).length := by
      obtain ⟨t1, tl, t40, tk, _⟩ := tabN_spec hC hk h40
      have hle := layS_le (s := ((2, ⟨#[]⟩, tableO m (n / 4)) : SlotD)) tl (slotsE_parts (shapeE_zero (checkE_shape hC)).2.1).2 t40
      have := (grabN_spec (L := tabL m (n / 4) (tableO m (n / 4))) (by unfold tabL; omega)).2.1
      unfold tabL at this ⊢
      rw [layS_length] at this ⊢
      exact this
    unfold wL
    rw [layS_get hdl, if_pos rfl]
  · unfold wL tabL
    rw [layS_length, layS_length]
    split <;> split <;> omega

/-! ### In place -/
theorem kd_setP {L : List SlotD} {e : Nat} {page : ByteArray} (hk : kd L e = 1) (j : Nat) : kd (L.set e (1, page, [])) j = kd L j := by
  by_cases h : e = j
  · subst h
    have := kd_lt (L := L) (j := e) (by rw [hk]; decide)
    rw [hk]; unfold kd; simp [List.getD, this]
  · unfold kd; simp [List.getD, h]
theorem tab_page {L : List SlotD} (hs : slotsE L = 0) {e : Nat} (hk : kd L e = 1) : (L.getD e default).2.2 = [] := by
  have he := kd_lt (L := L) (j := e) (by rw [hk]; decide)
  have ok := slotsE_all hs he
  rw [getElem_getD he] at ok
  unfold kd at hk
  unfold okD at ok
  rw [hk, slotOK_1] at ok
  simpa using (of_decide_eq_true ok).2
theorem tab_setP {L : List SlotD} (hs : slotsE L = 0) {e : Nat} {page : ByteArray} (hk : kd L e = 1) (x : Int) : tabOf (L.set e (1, page, [])) x = tabOf L x := by
  unfold tabOf
  by_cases h : e = x.toNat
  · have := kd_lt (L := L) (j := e) (by rw [hk]; decide)
    rw [← h, tab_page hs hk]; simp [List.getD, this]
  · simp [List.getD, h]
/-- Images that part in pages alone. -/
theorem setP_same {m : ImgD} {e : Nat} {page : ByteArray} (hC : checkE m = 0) (hk : kd m.slots e = 1) (hp : page.size = 4) : checkE { m with slots := m.slots.set e (1, page, []) } = 0 ∧ ∀ r q, lookV { m with slots := m.slots.set e (1, page, []) } r q = lookV m r q := by
  obtain ⟨h, hcnt, hfree⟩ := checkE_zero hC
  obtain ⟨z1, z2, z3, z4, z5, z6, z7⟩ := shapeE_zero h
  have he := kd_lt (L := m.slots) (j := e) (by rw [hk]; decide)
  have hkd := fun j => kd_setP (page := page) hk j
  have htab := fun x => tab_setP (page := page) z2 hk x
  have hisKd : ∀ x kind, isKd (m.slots.set e (1, page, [])) x kind = isKd m.slots x kind := fun x kind => by
    have := hkd x.toNat
    unfold kd at this
    unfold isKd
    rw [List.length_set, this]
  have htE : ∀ x, tabE (m.slots.set e (1, page, [])) x = tabE m.slots x := fun x => by unfold tabE; rw [hisKd]
  have hrE : ∀ x, rootE (m.slots.set e (1, page, [])) x = rootE m.slots x := fun x => by unfold rootE; rw [hisKd]
  have hs : slotsE (m.slots.set e (1, page, [])) = 0 := by
    refine slotsE_ok (by rw [List.length_set]; exact (slotsE_parts z2).1) (by rw [List.length_set]; exact (slotsE_parts z2).2) (fun j hj => ?_) ?_
    · rw [List.length_set] at hj
      rw [List.getElem_set]
      split
      · exact ok_page hp
      · exact slotsE_all z2 hj
    · rw [kd_getElem (by rw [List.length_set]; exact (slotsE_parts z2).1), hkd]; exact slot0 z2
  have hfit : tabFit (m.slots.set e (1, page, [])) = true := by
    unfold tabFit
    rw [List.all_eq_true]
    intro s hsm
    obtain ⟨j, hj, rfl⟩ := List.getElem_of_mem hsm
    rw [List.length_set] at hj
    rw [List.all_eq_true]
    intro x hx
    rw [htE]
    have e1 := htab (j : Int)
    unfold tabOf at e1
    rw [Int.toNat_natCast] at e1
    rw [getElem_getD (by rw [List.length_set]; exact hj), e1] at hx
    exact List.all_eq_true.1 (tab_all z6 (j : Int)) x (by unfold tabOf; rw [Int.toNat_natCast]; exact hx)
  have hrf : ∀ g r, rootFit (m.slots.set e (1, page, [])) g r = rootFit m.slots g r := fun g r => by
    unfold rootFit lastFit
    rw [show rootE (m.slots.set e (1, page, [])) = rootE m.slots from funext hrE]
    simp only [htab]
  have hsh : shapeE { m with slots := m.slots.set e (1, page, []) } = 0 := by
    unfold shapeE
    rw [if_neg (by show ¬ 3 < m.snaps.length; omega), if_neg (by show ¬ slotsE _ ≠ 0; simpa using hs), if_neg, if_neg (by show ¬ (rootsOf m).all _ = false; rw [z5]; decide), if_neg (by show ¬ tabFit _ = false; rw [hfit]; decide), if_neg]
    · show ¬ ((rootsOf m).all fun s => rootFit (m.slots.set e (1, page, [])) s.2.1 s.2.2) = false
      simp only [hrf]
      rw [z7]; decide
    · rintro (x | x)
      · apply x; show m.refs.length = (m.slots.set e _).length; rw [List.length_set]; exact z3
      · have : namesOK m.snaps = false := x
        rw [z4] at this; cases this
  have hcl : cntL { m with slots := m.slots.set e (1, page, []) } = cntL m := by
    rw [rl_of (cntL_length _), rl_of (cntL_length m)]
    show rl (m.slots.set e _).length _ = _
    rw [List.length_set]
    refine rl_congr fun j hj => ?_
    rw [cntL_get hsh j (by show j < (m.slots.set e _).length; rw [List.length_set]; exact hj), cntL_get h j hj]
    show cntI (m.slots.set e (1, page, [])) (flatR m) j = cntI m.slots (flatR m) j
    unfold cntI
    have : sumT (m.slots.set e (1, page, [])) (flatR m) j = sumT m.slots (flatR m) j := by
      unfold sumT
      rw [List.length_set]
      refine sum_same _ fun q _ => ?_
      unfold toldT
      rw [hkd, htab]
    rw [this]
  refine ⟨?_, fun r q => ?_⟩
  · unfold checkE
    rw [if_neg (by simpa using hsh), hcl]
    show (if cntL m ≠ m.refs then (9 : Int) else _) = 0
    rw [if_neg (by rw [hcnt]; simp), if_pos]
    rw [List.all_eq_true]
    intro j hj
    have hj : j < m.slots.length := by
      have : j < (m.slots.set e (1, page, [])).length := by simpa using hj
      rwa [List.length_set] at this
    have := hfree j hj
    unfold freeAt at this ⊢
    rw [hcl]
    have e1 := hkd j
    unfold kd at e1
    show (((m.slots.set e (1, page, [])).getD j default).1 == 0) == _
    rw [e1]; exact this
  · unfold lookV
    show (if r.getD (q / 4) 0 = 0 then (0 : Int) else (tabOf (m.slots.set e (1, page, [])) (r.getD (q / 4) 0)).getD (q % 4) 0) = _
    rw [htab]
end Go.Proofs.Ytehleeibgkpjmac
