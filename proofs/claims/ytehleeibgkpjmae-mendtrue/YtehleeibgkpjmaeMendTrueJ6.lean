/- Texts joined: ClnI, CpyH, CpyI, OfI, FitP, MendI, RefF. -/
import Derived.Test.YtehleeibgkpjmaeMendTrueJ3
import Derived.Lib.SliceRun
import Derived.Test.YtehleeibgkpjmaeMendTrueJ5
import Derived.Deep.RegionHeld3
import Derived.Deep.CutRange
import Derived.Defers
import Derived.Recover
import Derived.Test.YtehleeibgkpjmaeMendTrueJ4
set_option linter.unusedVariables false
set_option linter.unusedSimpArgs false
/- Contracts of slices.Clone: a list of one's own. -/
namespace Go.Proofs.Ytehleeibgkpjmae
open Go.RowKit Go.Shelf
set_option maxRecDepth 20000

theorem ints_mem {xs : List Int} : ∀ u ∈ ints xs, u.oneCell' = true := ints_oneCell .i64 xs
theorem sl_form1 {W : World} {v : Value} {xs : List Int} (h : Sl W v xs) : v.oneCell' = true := by obtain ⟨ao, cap, rfl, _⟩ := h; rfl
theorem flatS_mem {L : List SlotD} {tv : Nat → Value} (h : ∀ j, j < L.length → (tv j).oneCell' = true) : ∀ u ∈ flatS L tv, u.oneCell' = true := fun u hu => by
  unfold flatS at hu
  rw [List.mem_flatMap] at hu
  obtain ⟨j, hj, hu⟩ := hu
  rw [List.mem_range] at hj
  simp only [List.mem_cons, List.not_mem_nil, or_false] at hu
  rcases hu with rfl | rfl | rfl
  · rfl
  · rfl
  · exact h j hj
theorem flatN_mem {L : List SnapD} {tv : Nat → Value} (h : ∀ j, j < L.length → (tv j).oneCell' = true) : ∀ u ∈ flatN L tv, u.oneCell' = true := fun u hu => by
  unfold flatN at hu
  rw [List.mem_flatMap] at hu
  obtain ⟨j, hj, hu⟩ := hu
  rw [List.mem_range] at hj
  simp only [List.mem_cons, List.not_mem_nil, or_false] at hu
  rcases hu with rfl | rfl | rfl
  · rfl
  · rfl
  · exact h j hj
def room : Nat := 140737488355328
theorem room_is : room = 140737488355328 := rfl
theorem maxLen_of_room {n b : Nat} (hb : 0 < b) (h : n * b ≤ room) : n ≤ maxLen := by
  have := Nat.le_trans (Nat.le_mul_of_pos_right n hb) h
  rw [room_is] at this
  unfold maxLen
  omega

theorem clnI_nil (n c : Nat) (w : World) : Calls Try.prog 33 #[.slice none n c] w fun r w' => r = .returned (.slice none 0 0) ∧ w' = w := by
  have q22 : ∀ (w : World) (a : Option Addr) (n c n' c' : Nat), (binOp .eql 22 (.slice a n c) (.slice none n' c')).run Try.prog w = .ok (.bool a.isNone) w := fun w a n c n' c' => Lib.run_eql_slice_nil w _ _ a n c n' c' Try.underlying22
  go_enter Try.func33, Try.ntmps33
  go_wp2
  go_ret
  exact ⟨rfl, rfl⟩
set_option maxHeartbeats 1000000 in
theorem clnI_at (a : Addr) (n c : Nat) (news : List Value) (w : World) (hl : news.length = n * 1) (hbig : n * 8 ≤ room) (hc : ∀ j u, news[j]? = some u → w.cell? (a.add j) = some u) (h1 : ∀ u ∈ news, u.oneCell' = true) :
    Calls Try.prog 33 #[.slice (some a) n c] w fun r w' => ∃ v', r = .returned v' ∧ w'.ownsRow w.heap.size 3 1 v' n news ∧ Below w.heap.size w w' := by
  have q22 : ∀ (w : World) (a : Option Addr) (n c n' c' : Nat), (binOp .eql 22 (.slice a n c) (.slice none n' c')).run Try.prog w = .ok (.bool a.isNone) w := fun w a n c n' c' => Lib.run_eql_slice_nil w _ _ a n c n' c' Try.underlying22
  obtain ⟨i0, hi, hz0, hz1, hz2⟩ := info_parts info3
  have A : Hid ((∀ j u, news[j]? = some u → w.cell? (a.add j) = some u) ∧ news.length = n * 1 ∧ n * 8 ≤ room ∧ (∀ u ∈ news, u.oneCell' = true) ∧ Try.prog.info? 3 = some i0 ∧ i0.zero = some (.int .i64 0) ∧ i0.size = 1 ∧ i0.bytes = 8) := ⟨hc, hl, hbig, h1, hi, hz0, hz1, hz2⟩
  clear hc hl hbig h1 hi hz0 hz1 hz2
  go_enter Try.func33, Try.ntmps33
  go_wp2_with (at_builtin; refine wpList_append_own _ rfl _ _ 22 rfl w.heap.size 3 i0 (.int .i64 0) 1 8 Try.underlying22 A.out.2.2.2.2.1 A.out.2.2.2.2.2.1 A.out.2.2.2.2.2.2.1 A.out.2.2.2.2.2.2.2 rfl (by decide) _ _ _ rfl (World.ownsRow_made w #[] 0 (Nat.le_refl _) (Nat.zero_le _) (by simp)) a n c news rfl A.out.2.1 ?qc2 A.out.2.2.2.1 ?qc4 ?qc5 ?qc6 ?_)
  case qc2 =>
    intro j u hj
    exact Lib.cell?_alloc_some _ (A.out.1 j u hj)
  case qc4 => rw [Nat.zero_add]; exact maxLen_of_room (by decide) A.out.2.2.1
  case qc5 => rw [Nat.zero_add]; exact A.out.2.2.1
  case qc6 => simp
  intro v' w1 hown hgrow hnil
  have HO : Hid (w1.ownsRow w.heap.size 3 1 v' n news) := hown
  have HG : Hid (Below w.heap.size w w1) := ((Below.refl _ w).alloc (Nat.le_refl _) _).grown hgrow (by simp) (by intro k hk; simp [Value.ownBlock] at hk; omega)
  clear hown hgrow hnil
  go_wp2
  go_ret
  exact ⟨v', rfl, HO.out, HG.out⟩
theorem clone_ints {w : World} {v : Value} {xs : List Int} (h : Sl w v xs) (hb : xs.length * 8 ≤ room) :
    Calls Try.prog 33 #[v] w fun r w' => ∃ v', r = .returned v' ∧ w'.ownsRow w.heap.size 3 1 v' xs.length (ints xs) ∧ Below w.heap.size w w' := by
  obtain ⟨ao, cap, rfl, hm, hcp, hc⟩ := h
  cases ao with
  | none =>
    have hx : xs = [] := Classical.byContradiction fun hne => by obtain ⟨_, _, e, _⟩ := hc hne; cases e
    subst hx
    refine (clnI_nil _ _ w).mono ?_
    rintro e w' ⟨rfl, rfl⟩
    exact ⟨_, rfl, World.ownsRow_nil _ _ _ _, Below.refl _ _⟩
  | some a =>
    refine clnI_at a xs.length cap (ints xs) w (by rw [ints_length]; omega) hb (fun j u hu => ?_) ints_mem
    have hj : j < xs.length := by
      rcases Nat.lt_or_ge j xs.length with h | h
      · exact h
      · rw [List.getElem?_eq_none (by rw [ints_length]; exact h)] at hu; cases hu
    obtain ⟨b, off, e, _, hcell⟩ := hc (by intro e; rw [e] at hj; simp at hj)
    simp only [Option.some.injEq] at e
    subst e
    rw [addr_add, hcell j hj]
    unfold ints at hu
    rw [List.getElem?_map, List.getElem?_eq_getElem hj] at hu
    simp at hu
    simp [List.getD, hj, hu]
abbrev nilS : Value := .slice none 0 0
theorem choose_ltV {p : Nat → Value → Prop} {n : Nat} (h : ∀ i, i < n → ∃ s, p i s) : ∃ f : Nat → Value, ∀ i, i < n → p i (f i) :=
  ⟨fun i => if hi : i < n then (h i hi).choose else .slice none 0 0, fun i hi => by simp only [dif_pos hi]; exact (h i hi).choose_spec⟩

theorem clnS_nil (n c : Nat) (w : World) : Calls Try.prog 91 #[.slice none n c] w fun r w' => r = .returned (.slice none 0 0) ∧ w' = w := by
  have q22 : ∀ (w : World) (a : Option Addr) (n c n' c' : Nat), (binOp .eql 23 (.slice a n c) (.slice none n' c')).run Try.prog w = .ok (.bool a.isNone) w := fun w a n c n' c' => Lib.run_eql_slice_nil w _ _ a n c n' c' Try.underlying23
  go_enter Try.func91, Try.ntmps91
  go_wp2
  go_ret
  exact ⟨rfl, rfl⟩
set_option maxHeartbeats 1000000 in
theorem clnS_at (a : Addr) (n c : Nat) (news : List Value) (w : World) (hl : news.length = n * 3) (hbig : n * 48 ≤ room) (hc : ∀ j u, news[j]? = some u → w.cell? (a.add j) = some u) (h1 : ∀ u ∈ news, u.oneCell' = true) :
    Calls Try.prog 91 #[.slice (some a) n c] w fun r w' => ∃ v', r = .returned v' ∧ w'.ownsRow w.heap.size 72 3 v' n news ∧ Below w.heap.size w w' := by
  have q22 : ∀ (w : World) (a : Option Addr) (n c n' c' : Nat), (binOp .eql 23 (.slice a n c) (.slice none n' c')).run Try.prog w = .ok (.bool a.isNone) w := fun w a n c n' c' => Lib.run_eql_slice_nil w _ _ a n c n' c' Try.underlying23
  obtain ⟨i0, hi, hz0, hz1, hz2⟩ := info_parts infoSlot
  have A : Hid ((∀ j u, news[j]? = some u → w.cell? (a.add j) = some u) ∧ news.length = n * 3 ∧ n * 48 ≤ room ∧ (∀ u ∈ news, u.oneCell' = true) ∧ Try.prog.info? 72 = some i0 ∧ i0.zero = some (.agg #[.int .i64 0, .string ByteArray.empty, .slice none 0 0]) ∧ i0.size = 3 ∧ i0.bytes = 48) := ⟨hc, hl, hbig, h1, hi, hz0, hz1, hz2⟩
  clear hc hl hbig h1 hi hz0 hz1 hz2
  go_enter Try.func91, Try.ntmps91
  go_wp2_with (at_builtin; refine wpList_append_own _ rfl _ _ 23 rfl w.heap.size 72 i0 (.agg #[.int .i64 0, .string ByteArray.empty, .slice none 0 0]) 3 48 Try.underlying23 A.out.2.2.2.2.1 A.out.2.2.2.2.2.1 A.out.2.2.2.2.2.2.1 A.out.2.2.2.2.2.2.2 rfl (by decide) _ _ _ rfl (World.ownsRow_made w #[] 0 (Nat.le_refl _) (Nat.zero_le _) (by simp)) a n c news rfl A.out.2.1 ?qc2 A.out.2.2.2.1 ?qc4 ?qc5 ?qc6 ?_)
  case qc2 =>
    intro j u hj
    exact Lib.cell?_alloc_some _ (A.out.1 j u hj)
  case qc4 => rw [Nat.zero_add]; exact maxLen_of_room (by decide) A.out.2.2.1
  case qc5 => rw [Nat.zero_add]; exact A.out.2.2.1
  case qc6 => simp
  intro v' w1 hown hgrow hnil
  have HO : Hid (w1.ownsRow w.heap.size 72 3 v' n news) := hown
  have HG : Hid (Below w.heap.size w w1) := ((Below.refl _ w).alloc (Nat.le_refl _) _).grown hgrow (by simp) (by intro k hk; simp [Value.ownBlock] at hk; omega)
  clear hown hgrow hnil
  go_wp2
  go_ret
  exact ⟨v', rfl, HO.out, HG.out⟩
theorem clone_slots {w : World} {v : Value} {L : List SlotD} (h : Slots w v L) (hb : L.length * 48 ≤ room) :
    ∃ tv : Nat → Value, (∀ j, j < L.length → Sl w (tv j) (L.getD j default).2.2) ∧ ∀ W, Below w.heap.size w W → Calls Try.prog 91 #[v] W fun r w' => ∃ v', r = .returned v' ∧ w'.ownsRow W.heap.size 72 3 v' L.length (flatS L tv) ∧ Below W.heap.size W w' := by
  obtain ⟨ao, cap, rfl, hm, hcp, hc⟩ := h
  cases ao with
  | none =>
    have hx : L = [] := Classical.byContradiction fun hne => by obtain ⟨_, _, e, _⟩ := hc hne; cases e
    subst hx
    refine ⟨fun _ => nilS, fun j hj => absurd hj (Nat.not_lt_zero _), fun W _ => (clnS_nil _ _ W).mono ?_⟩
    rintro e w' ⟨rfl, rfl⟩
    exact ⟨_, rfl, World.ownsRow_nil _ _ _ _, Below.refl _ _⟩
  | some a =>
    have hx : ∀ j, j < L.length → ∃ tv, Sl w tv (L.getD j default).2.2 ∧ ∀ W, Below w.heap.size w W → W.cell? (a.add (j * 3)) = some (.int .i64 (L.getD j default).1) ∧ W.cell? (a.add (j * 3 + 1)) = some (.string (L.getD j default).2.1) ∧ W.cell? (a.add (j * 3 + 2)) = some tv := fun j hj => by
      obtain ⟨b, off, e, hlt, hcell⟩ := hc (by intro e; rw [e] at hj; simp at hj)
      simp only [Option.some.injEq] at e
      subst e
      obtain ⟨tv, c1, c2, c3, hs⟩ := hcell j hj
      have eg : L[j] = L.getD j default := by simp [List.getD, hj]
      rw [eg] at c1 c2 hs
      exact ⟨tv, hs, fun W hW => ⟨by rw [addr_add]; exact (hW.cell (p := ⟨b, off + j * 3, none⟩) hlt).trans c1, by rw [addr_add]; exact (hW.cell (p := ⟨b, off + j * 3 + 1, none⟩) hlt).trans c2, by rw [addr_add]; exact (hW.cell (p := ⟨b, off + j * 3 + 1 + 1, none⟩) hlt).trans c3⟩⟩
    obtain ⟨tv, htv⟩ := choose_ltV hx
    refine ⟨tv, fun j hj => (htv j hj).1, fun W hW => clnS_at a L.length cap (flatS L tv) W (flatS_length L tv) hb (fun i u hu => ?_) (flatS_mem (fun j hj => sl_form1 (htv j hj).1))⟩
    have hi : i < L.length * 3 := by
      rcases Nat.lt_or_ge i (L.length * 3) with h | h
      · exact h
      · rw [List.getElem?_eq_none (by rw [flatS_length]; exact h)] at hu; cases hu
    obtain ⟨j, r, hj, hr, rfl⟩ : ∃ j r, j < L.length ∧ r < 3 ∧ i = j * 3 + r := ⟨i / 3, i % 3, by omega, Nat.mod_lt _ (by decide), by omega⟩
    obtain ⟨g0, g1, g2⟩ := flatS_get (tv := tv) hj
    obtain ⟨c0, c1, c2⟩ := (htv j hj).2 W hW
    match r, hr with
    | 0, _ => rw [Nat.add_zero] at hu ⊢; rw [g0] at hu; cases hu; exact c0
    | 1, _ => rw [g1] at hu; cases hu; exact c1
    | 2, _ => rw [g2] at hu; cases hu; exact c2

theorem clnN_nil (n c : Nat) (w : World) : Calls Try.prog 92 #[.slice none n c] w fun r w' => r = .returned (.slice none 0 0) ∧ w' = w := by
  have q22 : ∀ (w : World) (a : Option Addr) (n c n' c' : Nat), (binOp .eql 24 (.slice a n c) (.slice none n' c')).run Try.prog w = .ok (.bool a.isNone) w := fun w a n c n' c' => Lib.run_eql_slice_nil w _ _ a n c n' c' Try.underlying24
  go_enter Try.func92, Try.ntmps92
  go_wp2
  go_ret
  exact ⟨rfl, rfl⟩
set_option maxHeartbeats 1000000 in
theorem clnN_at (a : Addr) (n c : Nat) (news : List Value) (w : World) (hl : news.length = n * 3) (hbig : n * 48 ≤ room) (hc : ∀ j u, news[j]? = some u → w.cell? (a.add j) = some u) (h1 : ∀ u ∈ news, u.oneCell' = true) :
    Calls Try.prog 92 #[.slice (some a) n c] w fun r w' => ∃ v', r = .returned v' ∧ w'.ownsRow w.heap.size 64 3 v' n news ∧ Below w.heap.size w w' := by
  have q22 : ∀ (w : World) (a : Option Addr) (n c n' c' : Nat), (binOp .eql 24 (.slice a n c) (.slice none n' c')).run Try.prog w = .ok (.bool a.isNone) w := fun w a n c n' c' => Lib.run_eql_slice_nil w _ _ a n c n' c' Try.underlying24
  obtain ⟨i0, hi, hz0, hz1, hz2⟩ := info_parts infoSnap
  have A : Hid ((∀ j u, news[j]? = some u → w.cell? (a.add j) = some u) ∧ news.length = n * 3 ∧ n * 48 ≤ room ∧ (∀ u ∈ news, u.oneCell' = true) ∧ Try.prog.info? 64 = some i0 ∧ i0.zero = some (.agg #[.string ByteArray.empty, .int .i64 0, .slice none 0 0]) ∧ i0.size = 3 ∧ i0.bytes = 48) := ⟨hc, hl, hbig, h1, hi, hz0, hz1, hz2⟩
  clear hc hl hbig h1 hi hz0 hz1 hz2
  go_enter Try.func92, Try.ntmps92
  go_wp2_with (at_builtin; refine wpList_append_own _ rfl _ _ 24 rfl w.heap.size 64 i0 (.agg #[.string ByteArray.empty, .int .i64 0, .slice none 0 0]) 3 48 Try.underlying24 A.out.2.2.2.2.1 A.out.2.2.2.2.2.1 A.out.2.2.2.2.2.2.1 A.out.2.2.2.2.2.2.2 rfl (by decide) _ _ _ rfl (World.ownsRow_made w #[] 0 (Nat.le_refl _) (Nat.zero_le _) (by simp)) a n c news rfl A.out.2.1 ?qc2 A.out.2.2.2.1 ?qc4 ?qc5 ?qc6 ?_)
  case qc2 =>
    intro j u hj
    exact Lib.cell?_alloc_some _ (A.out.1 j u hj)
  case qc4 => rw [Nat.zero_add]; exact maxLen_of_room (by decide) A.out.2.2.1
  case qc5 => rw [Nat.zero_add]; exact A.out.2.2.1
  case qc6 => simp
  intro v' w1 hown hgrow hnil
  have HO : Hid (w1.ownsRow w.heap.size 64 3 v' n news) := hown
  have HG : Hid (Below w.heap.size w w1) := ((Below.refl _ w).alloc (Nat.le_refl _) _).grown hgrow (by simp) (by intro k hk; simp [Value.ownBlock] at hk; omega)
  clear hown hgrow hnil
  go_wp2
  go_ret
  exact ⟨v', rfl, HO.out, HG.out⟩
theorem clone_snaps {w : World} {v : Value} {L : List SnapD} (h : Snaps w v L) (hb : L.length * 48 ≤ room) :
    ∃ tv : Nat → Value, (∀ j, j < L.length → Sl w (tv j) (L.getD j default).2.2) ∧ ∀ W, Below w.heap.size w W → Calls Try.prog 92 #[v] W fun r w' => ∃ v', r = .returned v' ∧ w'.ownsRow W.heap.size 64 3 v' L.length (flatN L tv) ∧ Below W.heap.size W w' := by
  obtain ⟨ao, cap, rfl, hm, hcp, hc⟩ := h
  cases ao with
  | none =>
    have hx : L = [] := Classical.byContradiction fun hne => by obtain ⟨_, _, e, _⟩ := hc hne; cases e
    subst hx
    refine ⟨fun _ => nilS, fun j hj => absurd hj (Nat.not_lt_zero _), fun W _ => (clnN_nil _ _ W).mono ?_⟩
    rintro e w' ⟨rfl, rfl⟩
    exact ⟨_, rfl, World.ownsRow_nil _ _ _ _, Below.refl _ _⟩
  | some a =>
    have hx : ∀ j, j < L.length → ∃ tv, Sl w tv (L.getD j default).2.2 ∧ ∀ W, Below w.heap.size w W → W.cell? (a.add (j * 3)) = some (.string (L.getD j default).1) ∧ W.cell? (a.add (j * 3 + 1)) = some (.int .i64 (L.getD j default).2.1) ∧ W.cell? (a.add (j * 3 + 2)) = some tv := fun j hj => by
      obtain ⟨b, off, e, hlt, hcell⟩ := hc (by intro e; rw [e] at hj; simp at hj)
      simp only [Option.some.injEq] at e
      subst e
      obtain ⟨tv, c1, c2, c3, hs⟩ := hcell j hj
      have eg : L[j] = L.getD j default := by simp [List.getD, hj]
      rw [eg] at c1 c2 hs
      exact ⟨tv, hs, fun W hW => ⟨by rw [addr_add]; exact (hW.cell (p := ⟨b, off + j * 3, none⟩) hlt).trans c1, by rw [addr_add]; exact (hW.cell (p := ⟨b, off + j * 3 + 1, none⟩) hlt).trans c2, by rw [addr_add]; exact (hW.cell (p := ⟨b, off + j * 3 + 1 + 1, none⟩) hlt).trans c3⟩⟩
    obtain ⟨tv, htv⟩ := choose_ltV hx
    refine ⟨tv, fun j hj => (htv j hj).1, fun W hW => clnN_at a L.length cap (flatN L tv) W (flatN_length L tv) hb (fun i u hu => ?_) (flatN_mem (fun j hj => sl_form1 (htv j hj).1))⟩
    have hi : i < L.length * 3 := by
      rcases Nat.lt_or_ge i (L.length * 3) with h | h
      · exact h
      · rw [List.getElem?_eq_none (by rw [flatN_length]; exact h)] at hu; cases hu
    obtain ⟨j, r, hj, hr, rfl⟩ : ∃ j r, j < L.length ∧ r < 3 ∧ i = j * 3 + r := ⟨i / 3, i % 3, by omega, Nat.mod_lt _ (by decide), by omega⟩
    obtain ⟨g0, g1, g2⟩ := flatN_get (qv := tv) hj
    obtain ⟨c0, c1, c2⟩ := (htv j hj).2 W hW
    match r, hr with
    | 0, _ => rw [Nat.add_zero] at hu ⊢; rw [g0] at hu; cases hu; exact c0
    | 1, _ => rw [g1] at hu; cases hu; exact c1
    | 2, _ => rw [g2] at hu; cases hu; exact c2
theorem row_slice {W : World} {B : Nat} {e : TypeId} {size n : Nat} {v : Value} {xs : List Value} (h : W.ownsRow B e size v n xs) : ∃ ao cap, v = .slice ao n cap := by
  rcases row_form h with ⟨rfl, rfl⟩ | ⟨g, cap, rfl, _⟩
  · exact ⟨none, 0, rfl⟩
  · exact ⟨_, cap, rfl⟩
end Go.Proofs.Ytehleeibgkpjmae
/- Contract of copied: an image of one's own. -/
namespace Go.Proofs.Ytehleeibgkpjmae
open Go.RowKit Go.Shelf
set_option maxRecDepth 20000

/-- The first k tables and the first l snapshots' Roots are one's own; of the others, and what they are, tv and qv tell. -/
def liveH (k l : Nat) (a : Nm) : Prop := (a.kind < 4 ∧ a.ix = 0) ∨ (a.kind = 4 ∧ a.ix < k) ∨ (a.kind = 5 ∧ a.ix < l)
def rowH (m : ImgD) (val : Nm → Value) (tv qv : Nat → Value) (k l : Nat) (a : Nm) : List Value := match a.kind with
  | 0 => ints m.root
  | 1 => flatS m.slots (fun j => if j < k then val (.tab j) else tv j)
  | 2 => ints m.refs
  | 3 => flatN m.snaps (fun j => if j < l then val (.sr j) else qv j)
  | 4 => ints (m.slots.getD a.ix default).2.2
  | _ => ints (m.snaps.getD a.ix default).2.2
structure HC (W : World) (B : Nat) (val : Nm → Value) (m : ImgD) (tv qv : Nat → Value) (k l : Nat) : Prop where
  row : ∀ a, liveH k l a → W.ownsRow B (rowT a) (rowS a) (val a) (rowN m a) (rowH m val tv qv k l a)
  apart : ∀ a b, liveH k l a → liveH k l b → a ≠ b → ∀ g, (val a).ownBlock = some g → (val b).ownBlock ≠ some g
theorem liveH.cases {k l : Nat} {a : Nm} (h : liveH k l a) : a = .root ∨ a = .slots ∨ a = .refs ∨ a = .snaps ∨ (∃ j, a = .tab j ∧ j < k) ∨ ∃ j, a = .sr j ∧ j < l := by
  obtain ⟨x, j⟩ := a
  rcases h with ⟨h1, h2⟩ | ⟨h1, h2⟩ | ⟨h1, h2⟩
  · dsimp only at h1 h2
    subst h2
    match x, h1 with
    | 0, _ => exact .inl rfl
    | 1, _ => exact .inr (.inl rfl)
    | 2, _ => exact .inr (.inr (.inl rfl))
    | 3, _ => exact .inr (.inr (.inr (.inl rfl)))
  · dsimp only at h1 h2; subst h1; exact .inr (.inr (.inr (.inr (.inl ⟨j, rfl, h2⟩))))
  · dsimp only at h1 h2; subst h1; exact .inr (.inr (.inr (.inr (.inr ⟨j, rfl, h2⟩))))
theorem liveH.base {k l : Nat} {a : Nm} (h : a.kind < 4) (h0 : a.ix = 0) : liveH k l a := .inl ⟨h, h0⟩
theorem liveH.old {k l : Nat} {a : Nm} (h : liveH (k + 1) l a) (hne : a ≠ .tab k) : liveH k l a := by
  rcases h.cases with rfl | rfl | rfl | rfl | ⟨j, rfl, hj⟩ | ⟨j, rfl, hj⟩
  · exact .inl ⟨by decide, rfl⟩
  · exact .inl ⟨by decide, rfl⟩
  · exact .inl ⟨by decide, rfl⟩
  · exact .inl ⟨by decide, rfl⟩
  · refine .inr (.inl ⟨rfl, ?_⟩)
    rcases Nat.lt_or_ge j k with h | h
    · exact h
    · exact absurd (by rw [show j = k by omega]) hne
  · exact .inr (.inr ⟨rfl, hj⟩)
theorem liveH.old' {k l : Nat} {a : Nm} (h : liveH k (l + 1) a) (hne : a ≠ .sr l) : liveH k l a := by
  rcases h.cases with rfl | rfl | rfl | rfl | ⟨j, rfl, hj⟩ | ⟨j, rfl, hj⟩
  · exact .inl ⟨by decide, rfl⟩
  · exact .inl ⟨by decide, rfl⟩
  · exact .inl ⟨by decide, rfl⟩
  · exact .inl ⟨by decide, rfl⟩
  · exact .inr (.inl ⟨rfl, hj⟩)
  · refine .inr (.inr ⟨rfl, ?_⟩)
    rcases Nat.lt_or_ge j l with h | h
    · exact h
    · exact absurd (by rw [show j = l by omega]) hne
theorem HC.below {W W' : World} {B : Nat} {val : Nm → Value} {m : ImgD} {tv qv : Nat → Value} {k l : Nat} (h : HC W B val m tv qv k l) (hb : Below W.heap.size W W') : HC W' B val m tv qv k l := by
  refine ⟨fun a ha => ?_, h.apart⟩
  have hr := h.row a ha
  refine ⟨hr.1, ?_⟩
  rcases hr.2 with hn | ⟨g, cap, cur, hv, hb', hg, rest⟩
  · exact .inl hn
  · exact .inr ⟨g, cap, cur, hv, hb', (hb.block g (Array.getElem?_eq_some_iff.1 hg).1).trans hg, rest⟩
theorem HC.far {W : World} {B : Nat} {val : Nm → Value} {m : ImgD} {tv qv : Nat → Value} {k l : Nat} (h : HC W B val m tv qv k l) {g i : Nat} {u : Value} (hg : g < B) : HC (W.setCell ⟨g, i, none⟩ u) B val m tv qv k l :=
  ⟨fun a ha => ownsRow_setCell_other (h.row a ha) (fun e => by have := ((h.row a ha).lt g e).1; omega) u, h.apart⟩
theorem HC.done {W : World} {B : Nat} {val : Nm → Value} {m : ImgD} {tv qv : Nat → Value} (h : HC W B val m tv qv m.slots.length m.snaps.length) : OI W B val m := by
  refine ⟨fun a ha => ?_, fun a b ha hb => h.apart a b ha hb⟩
  have e : rowH m val tv qv m.slots.length m.snaps.length a = rowV m val a := by
    rcases ha.cases with rfl | rfl | rfl | rfl | ⟨j, rfl, hj⟩ | ⟨j, rfl, hj⟩ <;> first | rfl | skip
    · show flatS _ _ = flatS _ _
      unfold flatS
      refine congrArg List.flatten (List.map_congr_left fun j hj => ?_)
      dsimp only
      rw [if_pos (List.mem_range.1 hj)]
    · show flatN _ _ = flatN _ _
      unfold flatN
      refine congrArg List.flatten (List.map_congr_left fun j hj => ?_)
      dsimp only
      rw [if_pos (List.mem_range.1 hj)]
  rw [← e]
  exact h.row a ha
theorem flatS_ext {L : List SlotD} {tv tv' : Nat → Value} (h : ∀ j, j < L.length → tv' j = tv j) : flatS L tv' = flatS L tv := by
  unfold flatS
  refine congrArg List.flatten (List.map_congr_left fun j hj => ?_)
  rw [h j (List.mem_range.1 hj)]
theorem flatN_ext {L : List SnapD} {tv tv' : Nat → Value} (h : ∀ j, j < L.length → tv' j = tv j) : flatN L tv' = flatN L tv := by
  unfold flatN
  refine congrArg List.flatten (List.map_congr_left fun j hj => ?_)
  rw [h j (List.mem_range.1 hj)]
theorem flatS_put {L : List SlotD} {tv tv' : Nat → Value} {t : Nat} (htv : ∀ j, j ≠ t → tv' j = tv j) : flatS L tv' = (flatS L tv).set (t * 3 + 2) (tv' t) := by
  apply List.ext_getElem?
  intro i
  have hlen := flatS_length L tv
  rcases Nat.lt_or_ge i (L.length * 3) with hi | hi
  · obtain ⟨j, r, hj, hr, rfl⟩ : ∃ j r, j < L.length ∧ r < 3 ∧ i = j * 3 + r := ⟨i / 3, i % 3, by omega, Nat.mod_lt _ (by decide), by omega⟩
    obtain ⟨a0, a1, a2⟩ := flatS_get (L := L) (tv := tv') hj
    obtain ⟨b0, b1, b2⟩ := flatS_get (L := L) (tv := tv) hj
    by_cases e : t = j
    · subst e
      match r, hr with
      | 0, _ => rw [Nat.add_zero, a0, List.getElem?_set_ne (by omega), b0]
      | 1, _ => rw [a1, List.getElem?_set_ne (by omega), b1]
      | 2, _ => rw [a2, List.getElem?_set_self (by rw [hlen]; omega)]
    · rw [htv j (fun x => e x.symm)] at a2
      rw [List.getElem?_set_ne (by omega)]
      match r, hr with
      | 0, _ => rw [Nat.add_zero, a0, b0]
      | 1, _ => rw [a1, b1]
      | 2, _ => rw [a2, b2]
  · rw [List.getElem?_eq_none (by rw [flatS_length]; exact hi), List.getElem?_eq_none (by rw [List.length_set, flatS_length]; exact hi)]
theorem flatN_put {L : List SnapD} {tv tv' : Nat → Value} {t : Nat} (htv : ∀ j, j ≠ t → tv' j = tv j) : flatN L tv' = (flatN L tv).set (t * 3 + 2) (tv' t) := by
  apply List.ext_getElem?
  intro i
  have hlen := flatN_length L tv
  rcases Nat.lt_or_ge i (L.length * 3) with hi | hi
  · obtain ⟨j, r, hj, hr, rfl⟩ : ∃ j r, j < L.length ∧ r < 3 ∧ i = j * 3 + r := ⟨i / 3, i % 3, by omega, Nat.mod_lt _ (by decide), by omega⟩
    obtain ⟨a0, a1, a2⟩ := flatN_get (S := L) (qv := tv') hj
    obtain ⟨b0, b1, b2⟩ := flatN_get (S := L) (qv := tv) hj
    by_cases e : t = j
    · subst e
      match r, hr with
      | 0, _ => rw [Nat.add_zero, a0, List.getElem?_set_ne (by omega), b0]
      | 1, _ => rw [a1, List.getElem?_set_ne (by omega), b1]
      | 2, _ => rw [a2, List.getElem?_set_self (by rw [hlen]; omega)]
    · rw [htv j (fun x => e x.symm)] at a2
      rw [List.getElem?_set_ne (by omega)]
      match r, hr with
      | 0, _ => rw [Nat.add_zero, a0, b0]
      | 1, _ => rw [a1, b1]
      | 2, _ => rw [a2, b2]
  · rw [List.getElem?_eq_none (by rw [flatN_length]; exact hi), List.getElem?_eq_none (by rw [List.length_set, flatN_length]; exact hi)]
/-- One table more is one's own. -/
theorem HC.tab {W : World} {B : Nat} {val : Nm → Value} {m : ImgD} {tv qv : Nat → Value} {k l : Nat} (h : HC W B val m tv qv k l) {g n cap : Nat} (hv : val .slots = .slice (some ⟨g, 0, none⟩) n cap) {v : Value} (hr : W.ownsRow B 3 1 v (m.slots.getD k default).2.2.length (ints (m.slots.getD k default).2.2)) (hf : ∀ a, liveH k l a → ∀ q, v.ownBlock = some q → (val a).ownBlock ≠ some q) :
    HC (W.setCell ⟨g, k * 3 + 2, none⟩ v) B (upd val (.tab k) v) m tv qv (k + 1) l := by
  have hsl : liveH k l .slots := .inl ⟨by decide, rfl⟩
  have hvg : v.ownBlock ≠ some g := fun e => hf .slots hsl g e (by rw [hv]; rfl)
  have hnn : n = m.slots.length := by
    rcases row_form (h.row .slots hsl) with ⟨e, _⟩ | ⟨g', cap', e, _⟩
    · rw [hv] at e; simp at e
    · rw [hv] at e; simp at e; exact e.2.1
  refine ⟨fun a ha => ?_, fun a b ha hb hne q hq => ?_⟩
  · by_cases e : a = .tab k
    · subst e
      rw [upd_same]
      exact ownsRow_setCell_other hr hvg v
    · have ha' := ha.old e
      rw [upd_other _ _ e]
      by_cases es : a = .slots
      · subst es
        have hrs := h.row .slots hsl
        have e1 : rowH m (upd val (.tab k) v) tv qv (k + 1) l .slots = (rowH m val tv qv k l .slots).set (k * 3 + 2) v := by
          have := flatS_put (L := m.slots) (tv := fun j => if j < k then val (.tab j) else tv j) (tv' := fun j => if j < k + 1 then upd val (.tab k) v (.tab j) else tv j) (t := k) (fun j hj => by
            by_cases h1 : j < k
            · rw [if_pos (by omega), if_pos h1, upd_other _ _ (by intro x; injection x with _ x; omega)]
            · rw [if_neg (by omega), if_neg h1])
          rw [if_pos (by omega), upd_same] at this
          exact this
        rw [e1]
        have hN : rowN m .slots = n := hnn.symm
        rw [hN, hv] at hrs ⊢
        exact (hrs.stored (k * 3 + 2) v).1
      · have e1 : rowH m (upd val (.tab k) v) tv qv (k + 1) l a = rowH m val tv qv k l a := by
          rcases ha'.cases with rfl | rfl | rfl | rfl | ⟨j, rfl, hj⟩ | ⟨j, rfl, hj⟩ <;> first | rfl | exact absurd rfl es
        rw [e1]
        exact ownsRow_setCell_other (h.row a ha') (h.apart .slots a hsl ha' (fun x => es x.symm) g (by rw [hv]; rfl)) v
  · by_cases e : a = .tab k
    · subst e
      rw [upd_same] at hq
      rw [upd_other _ _ (fun x => hne x.symm)]
      exact hf b (hb.old (fun x => hne x.symm)) q hq
    · rw [upd_other _ _ e] at hq
      by_cases e2 : b = .tab k
      · subst e2; rw [upd_same]; exact fun x => hf a (ha.old e) q x hq
      · rw [upd_other _ _ e2]; exact h.apart a b (ha.old e) (hb.old e2) hne q hq
theorem HC.sr {W : World} {B : Nat} {val : Nm → Value} {m : ImgD} {tv qv : Nat → Value} {k l : Nat} (h : HC W B val m tv qv k l) {g n cap : Nat} (hv : val .snaps = .slice (some ⟨g, 0, none⟩) n cap) {v : Value} (hr : W.ownsRow B 3 1 v (m.snaps.getD l default).2.2.length (ints (m.snaps.getD l default).2.2)) (hf : ∀ a, liveH k l a → ∀ q, v.ownBlock = some q → (val a).ownBlock ≠ some q) :
    HC (W.setCell ⟨g, l * 3 + 2, none⟩ v) B (upd val (.sr l) v) m tv qv k (l + 1) := by
  have hsl : liveH k l .snaps := .inl ⟨by decide, rfl⟩
  have hvg : v.ownBlock ≠ some g := fun e => hf .snaps hsl g e (by rw [hv]; rfl)
  have hnn : n = m.snaps.length := by
    rcases row_form (h.row .snaps hsl) with ⟨e, _⟩ | ⟨g', cap', e, _⟩
    · rw [hv] at e; simp at e
    · rw [hv] at e; simp at e; exact e.2.1
  refine ⟨fun a ha => ?_, fun a b ha hb hne q hq => ?_⟩
  · by_cases e : a = .sr l
    · subst e
      rw [upd_same]
      exact ownsRow_setCell_other hr hvg v
    · have ha' := ha.old' e
      rw [upd_other _ _ e]
      by_cases es : a = .snaps
      · subst es
        have hrs := h.row .snaps hsl
        have e1 : rowH m (upd val (.sr l) v) tv qv k (l + 1) .snaps = (rowH m val tv qv k l .snaps).set (l * 3 + 2) v := by
          have := flatN_put (L := m.snaps) (tv := fun j => if j < l then val (.sr j) else qv j) (tv' := fun j => if j < l + 1 then upd val (.sr l) v (.sr j) else qv j) (t := l) (fun j hj => by
            by_cases h1 : j < l
            · rw [if_pos (by omega), if_pos h1, upd_other _ _ (by intro x; injection x with _ x; omega)]
            · rw [if_neg (by omega), if_neg h1])
          rw [if_pos (by omega), upd_same] at this
          exact this
        rw [e1]
        have hN : rowN m .snaps = n := hnn.symm
        rw [hN, hv] at hrs ⊢
        exact (hrs.stored (l * 3 + 2) v).1
      · have e1 : rowH m (upd val (.sr l) v) tv qv k (l + 1) a = rowH m val tv qv k l a := by
          rcases ha'.cases with rfl | rfl | rfl | rfl | ⟨j, rfl, hj⟩ | ⟨j, rfl, hj⟩ <;> first | rfl | exact absurd rfl es
        rw [e1]
        exact ownsRow_setCell_other (h.row a ha') (h.apart .snaps a hsl ha' (fun x => es x.symm) g (by rw [hv]; rfl)) v
  · by_cases e : a = .sr l
    · subst e
      rw [upd_same] at hq
      rw [upd_other _ _ (fun x => hne x.symm)]
      exact hf b (hb.old' (fun x => hne x.symm)) q hq
    · rw [upd_other _ _ e] at hq
      by_cases e2 : b = .sr l
      · subst e2; rw [upd_same]; exact fun x => hf a (ha.old' e) q x hq
      · rw [upd_other _ _ e2]; exact h.apart a b (ha.old' e) (hb.old' e2) hne q hq
/-- What is wide enough to be copied. -/
structure Fits (m : ImgD) : Prop where
  root : m.root.length * 8 ≤ room
  slots : m.slots.length * 48 ≤ room
  refs : m.refs.length * 8 ≤ room
  snaps : m.snaps.length * 48 ≤ room
  tab : ∀ j, j < m.slots.length → (m.slots.getD j default).2.2.length * 8 ≤ room
  sr : ∀ j, j < m.snaps.length → (m.snaps.getD j default).2.2.length * 8 ≤ room
def val4 (vr vs vf vn : Value) : Nm → Value := fun a => if a.kind = 0 then vr else if a.kind = 1 then vs else if a.kind = 2 then vf else vn
theorem HC.start {W : World} {B : Nat} {m : ImgD} {tv qv : Nat → Value} {vr vs vf vn : Value} (h0 : W.ownsRow B 3 1 vr m.root.length (ints m.root)) (h1 : W.ownsRow B 72 3 vs m.slots.length (flatS m.slots tv)) (h2 : W.ownsRow B 3 1 vf m.refs.length (ints m.refs)) (h3 : W.ownsRow B 64 3 vn m.snaps.length (flatN m.snaps qv))
    (a01 : ∀ q, vs.ownBlock = some q → vr.ownBlock ≠ some q) (a02 : ∀ q, vf.ownBlock = some q → vr.ownBlock ≠ some q) (a03 : ∀ q, vn.ownBlock = some q → vr.ownBlock ≠ some q) (a12 : ∀ q, vs.ownBlock = some q → vf.ownBlock ≠ some q) (a13 : ∀ q, vn.ownBlock = some q → vs.ownBlock ≠ some q) (a23 : ∀ q, vn.ownBlock = some q → vf.ownBlock ≠ some q) : HC W B (val4 vr vs vf vn) m tv qv 0 0 := by
  refine ⟨fun a ha => ?_, fun a b ha hb hne q hq => ?_⟩
  · rcases ha.cases with rfl | rfl | rfl | rfl | ⟨j, rfl, hj⟩ | ⟨j, rfl, hj⟩
    · exact h0
    · exact h1
    · exact h2
    · exact h3
    · exact absurd hj (Nat.not_lt_zero _)
    · exact absurd hj (Nat.not_lt_zero _)
  · rcases ha.cases with rfl | rfl | rfl | rfl | ⟨j, rfl, hj⟩ | ⟨j, rfl, hj⟩
    · rcases hb.cases with rfl | rfl | rfl | rfl | ⟨j, rfl, hj⟩ | ⟨j, rfl, hj⟩
      · exact absurd rfl hne
      · exact fun x => a01 q x hq
      · exact fun x => a02 q x hq
      · exact fun x => a03 q x hq
      · exact absurd hj (Nat.not_lt_zero _)
      · exact absurd hj (Nat.not_lt_zero _)
    · rcases hb.cases with rfl | rfl | rfl | rfl | ⟨j, rfl, hj⟩ | ⟨j, rfl, hj⟩
      · exact a01 q hq
      · exact absurd rfl hne
      · exact a12 q hq
      · exact fun x => a13 q x hq
      · exact absurd hj (Nat.not_lt_zero _)
      · exact absurd hj (Nat.not_lt_zero _)
    · rcases hb.cases with rfl | rfl | rfl | rfl | ⟨j, rfl, hj⟩ | ⟨j, rfl, hj⟩
      · exact a02 q hq
      · exact fun x => a12 q x hq
      · exact absurd rfl hne
      · exact fun x => a23 q x hq
      · exact absurd hj (Nat.not_lt_zero _)
      · exact absurd hj (Nat.not_lt_zero _)
    · rcases hb.cases with rfl | rfl | rfl | rfl | ⟨j, rfl, hj⟩ | ⟨j, rfl, hj⟩
      · exact a03 q hq
      · exact a13 q hq
      · exact a23 q hq
      · exact absurd rfl hne
      · exact absurd hj (Nat.not_lt_zero _)
      · exact absurd hj (Nat.not_lt_zero _)
    · exact absurd hj (Nat.not_lt_zero _)
    · exact absurd hj (Nat.not_lt_zero _)
end Go.Proofs.Ytehleeibgkpjmae
/- Contract of copied: the walk. -/
namespace Go.Proofs.Ytehleeibgkpjmae
open Go.RowKit Go.Shelf
set_option maxRecDepth 20000

/-- Behind the first two lists. -/
def Cp1 (w : World) (m : ImgD) (sa : Option Addr) (sn sc : Nat) (na : Option Addr) (nn nc : Nat) (wx : World) : Prop := ∃ qa qc ka kc, wx.heap[w.heap.size]? = some (.cells #[.int .i64 m.guest, .slice qa m.root.length qc, .slice sa sn sc, .slice ka m.refs.length kc, .slice na nn nc] 26) ∧ wx.heap[w.heap.size + 1]? = some (.cells #[.int .i64 0, .slice none 0 0, .slice none 0 0, .slice none 0 0, .slice none 0 0] 26) ∧ Below w.heap.size w wx ∧ wx.ownsRow (w.heap.size + 2) 3 1 (.slice qa m.root.length qc) m.root.length (ints m.root) ∧ wx.ownsRow (w.heap.size + 2) 3 1 (.slice ka m.refs.length kc) m.refs.length (ints m.refs) ∧ ∀ q, (Value.slice ka m.refs.length kc).ownBlock = some q → (Value.slice qa m.root.length qc).ownBlock ≠ some q
/-- Behind all four. -/
def Cp2 (w : World) (m : ImgD) (tv qv : Nat → Value) (wx : World) : Prop := ∃ qa qc pa pc ka kc ja jc, wx.heap[w.heap.size]? = some (.cells #[.int .i64 m.guest, .slice qa m.root.length qc, .slice pa m.slots.length pc, .slice ka m.refs.length kc, .slice ja m.snaps.length jc] 26) ∧ wx.heap[w.heap.size + 1]? = some (.cells #[.int .i64 0, .slice none 0 0, .slice none 0 0, .slice none 0 0, .slice none 0 0] 26) ∧ Below w.heap.size w wx ∧ HC wx (w.heap.size + 2) (val4 (.slice qa m.root.length qc) (.slice pa m.slots.length pc) (.slice ka m.refs.length kc) (.slice ja m.snaps.length jc)) m tv qv 0 0
theorem row_apart {W W' : World} {B B' n n' size size' : Nat} {e e' : TypeId} {v v' : Value} {xs xs' : List Value} (h : W.ownsRow B e size v n xs) (h' : W'.ownsRow B' e' size' v' n' xs') (hB : W.heap.size ≤ B') : ∀ q, v'.ownBlock = some q → v.ownBlock ≠ some q := fun q e x => by
  have h1 := (h.lt q x).2
  have h2 := (h'.lt q e).1
  omega
theorem row_keep {W W' : World} {B n size : Nat} {e : TypeId} {v : Value} {xs : List Value} (h : W.ownsRow B e size v n xs) (hb : Below W.heap.size W W') : W'.ownsRow B e size v n xs := by
  refine ⟨h.1, ?_⟩
  rcases h.2 with hn | ⟨g, cap, cur, hv, hb', hg, rest⟩
  · exact .inl hn
  · exact .inr ⟨g, cap, cur, hv, hb', (hb.block g (Array.getElem?_eq_some_iff.1 hg).1).trans hg, rest⟩
theorem row_mono {W : World} {B B' n size : Nat} {e : TypeId} {v : Value} {xs : List Value} (h : W.ownsRow B e size v n xs) (hB : B' ≤ B) : W.ownsRow B' e size v n xs := by
  refine ⟨h.1, ?_⟩
  rcases h.2 with hn | ⟨g, cap, cur, hv, hb', rest⟩
  · exact .inl hn
  · exact .inr ⟨g, cap, cur, hv, Nat.le_trans hB hb', rest⟩

theorem OI.mono {W : World} {B B' : Nat} {val : Nm → Value} {m : ImgD} (h : OI W B val m) (hB : B' ≤ B) : OI W B' val m := ⟨fun a ha => row_mono (h.row a ha) hB, h.apart⟩
/-- What holds in the loops. -/
structure CpR (w wr : World) (m : ImgD) (tv qv : Nat → Value) (va vb vc vd : Value) (k l : Nat) : Prop where
  own : ∃ val, HC wr (w.heap.size + 2) val m tv qv k l ∧ val .root = va ∧ val .slots = vb ∧ val .refs = vc ∧ val .snaps = vd
  box : wr.heap[w.heap.size]? = some (.cells #[.int .i64 m.guest, va, vb, vc, vd] 26)
  res : wr.heap[w.heap.size + 1]? = some (.cells #[.int .i64 0, .slice none 0 0, .slice none 0 0, .slice none 0 0, .slice none 0 0] 26)
  bel : Below w.heap.size w wr
theorem CpR.below {w wr wr' : World} {m : ImgD} {tv qv : Nat → Value} {va vb vc vd : Value} {k l : Nat} (h : CpR w wr m tv qv va vb vc vd k l) (hb : Below wr.heap.size wr wr') : CpR w wr' m tv qv va vb vc vd k l := by
  obtain ⟨⟨val, hH, e⟩, h1, h2, h3⟩ := h
  exact ⟨⟨val, hH.below hb, e⟩, cells_below h1 hb (Array.getElem?_eq_some_iff.1 h1).1, cells_below h2 hb (Array.getElem?_eq_some_iff.1 h2).1, Below.on h3 hb⟩
theorem CpR.tab {w wr wr' : World} {m : ImgD} {tv qv : Nat → Value} {va vc vd v : Value} {k l g n cap : Nat} (h : CpR w wr m tv qv va (.slice (some ⟨g, 0, none⟩) n cap) vc vd k l) (hb : Below wr.heap.size wr wr') (hr : wr'.ownsRow wr.heap.size 3 1 v (m.slots.getD k default).2.2.length (ints (m.slots.getD k default).2.2)) : CpR w (wr'.setCell ⟨g, k * 3 + 2, none⟩ v) m tv qv va (.slice (some ⟨g, 0, none⟩) n cap) vc vd (k + 1) l := by
  have hk := h.below hb
  obtain ⟨⟨val, hH, e0, e1, e2, e3⟩, h1, h2, h3⟩ := h
  obtain ⟨_, k1, k2, k3⟩ := hk
  have hg := (hH.row .slots (.inl ⟨by decide, rfl⟩)).lt g (by rw [e1]; rfl)
  have hsz : w.heap.size + 2 ≤ wr.heap.size := (Array.getElem?_eq_some_iff.1 h2).1
  refine ⟨⟨upd val (.tab k) v, (hH.below hb).tab e1 (row_mono hr hsz) (fun a ha q hq x => ?_), (upd_other _ _ (by intro x; cases x)).trans e0, (upd_other _ _ (by intro x; cases x)).trans e1, (upd_other _ _ (by intro x; cases x)).trans e2, (upd_other _ _ (by intro x; cases x)).trans e3⟩, cells_other k1 (by omega) _ _, cells_other k2 (by omega) _ _, k3.setCell (by show _ ≤ g; omega) _⟩
  have x1 := ((hH.row a ha).lt q x).2
  have x2 := (hr.lt q hq).1
  omega
theorem CpR.sr {w wr wr' : World} {m : ImgD} {tv qv : Nat → Value} {va vb vc v : Value} {k l g n cap : Nat} (h : CpR w wr m tv qv va vb vc (.slice (some ⟨g, 0, none⟩) n cap) k l) (hb : Below wr.heap.size wr wr') (hr : wr'.ownsRow wr.heap.size 3 1 v (m.snaps.getD l default).2.2.length (ints (m.snaps.getD l default).2.2)) : CpR w (wr'.setCell ⟨g, l * 3 + 2, none⟩ v) m tv qv va vb vc (.slice (some ⟨g, 0, none⟩) n cap) k (l + 1) := by
  have hk := h.below hb
  obtain ⟨⟨val, hH, e0, e1, e2, e3⟩, h1, h2, h3⟩ := h
  obtain ⟨_, k1, k2, k3⟩ := hk
  have hg := (hH.row .snaps (.inl ⟨by decide, rfl⟩)).lt g (by rw [e3]; rfl)
  have hsz : w.heap.size + 2 ≤ wr.heap.size := (Array.getElem?_eq_some_iff.1 h2).1
  refine ⟨⟨upd val (.sr l) v, (hH.below hb).sr e3 (row_mono hr hsz) (fun a ha q hq x => ?_), (upd_other _ _ (by intro x; cases x)).trans e0, (upd_other _ _ (by intro x; cases x)).trans e1, (upd_other _ _ (by intro x; cases x)).trans e2, (upd_other _ _ (by intro x; cases x)).trans e3⟩, cells_other k1 (by omega) _ _, cells_other k2 (by omega) _ _, k3.setCell (by show _ ≤ g; omega) _⟩
  have x1 := ((hH.row a ha).lt q x).2
  have x2 := (hr.lt q hq).1
  omega

set_option maxHeartbeats 4000000 in
theorem copied_at (m : ImgD) (ra : Option Addr) (rn rc : Nat) (sa : Option Addr) (sn sc : Nat) (fa : Option Addr) (fn fc : Nat) (na : Option Addr) (nn nc : Nat) (w : World) (h0 : Sl w (.slice ra rn rc) m.root) (h1 : Slots w (.slice sa sn sc) m.slots) (h2 : Sl w (.slice fa fn fc) m.refs) (h3 : Snaps w (.slice na nn nc) m.snaps) (hF : Fits m) :
    Calls Try.prog 69 #[.agg #[.int .i64 m.guest, .slice ra rn rc, .slice sa sn sc, .slice fa fn fc, .slice na nn nc]] w fun r w' => ∃ val, r = .returned (imgV m.guest val) ∧ OI w' w.heap.size val m ∧ Below w.heap.size w w' := by
  have m0 : ((w.alloc (.cells #[.int .i64 m.guest, .slice ra rn rc, .slice sa sn sc, .slice fa fn fc, .slice na nn nc] 26)).alloc (.cells #[.int .i64 0, .slice none 0 0, .slice none 0 0, .slice none 0 0, .slice none 0 0] 26)).heap[w.heap.size]? = some (.cells #[.int .i64 m.guest, .slice ra rn rc, .slice sa sn sc, .slice fa fn fc, .slice na nn nc] 26) := cells_alloc (World.alloc_heap_new _ _) _
  have mz : ((w.alloc (.cells #[.int .i64 m.guest, .slice ra rn rc, .slice sa sn sc, .slice fa fn fc, .slice na nn nc] 26)).alloc (.cells #[.int .i64 0, .slice none 0 0, .slice none 0 0, .slice none 0 0, .slice none 0 0] 26)).heap[w.heap.size + 1]? = some (.cells #[.int .i64 0, .slice none 0 0, .slice none 0 0, .slice none 0 0, .slice none 0 0] 26) := by have := World.alloc_heap_new (w.alloc (.cells #[.int .i64 m.guest, .slice ra rn rc, .slice sa sn sc, .slice fa fn fc, .slice na nn nc] 26)) (.cells #[.int .i64 0, .slice none 0 0, .slice none 0 0, .slice none 0 0, .slice none 0 0] 26); simpa using this
  obtain ⟨c0, c1, c2, c3, c4⟩ := five m0
  have b0 : Below w.heap.size w ((w.alloc (.cells #[.int .i64 m.guest, .slice ra rn rc, .slice sa sn sc, .slice fa fn fc, .slice na nn nc] 26)).alloc (.cells #[.int .i64 0, .slice none 0 0, .slice none 0 0, .slice none 0 0, .slice none 0 0] 26)) := ((Below.refl _ _).alloc (Nat.le_refl _) _).alloc (by simp) _
  obtain ⟨W0, hW0⟩ : ∃ W0, ((w.alloc (.cells #[.int .i64 m.guest, .slice ra rn rc, .slice sa sn sc, .slice fa fn fc, .slice na nn nc] 26)).alloc (.cells #[.int .i64 0, .slice none 0 0, .slice none 0 0, .slice none 0 0, .slice none 0 0] 26)) = W0 := ⟨_, rfl⟩
  go_enter Try.func69, Try.ntmps69
  go_upto_region 1 with fail
  rw [hW0] at m0 mz c0 c1 c2 c3 c4 b0
  have hz0 : w.heap.size + 2 ≤ W0.heap.size := by rw [← hW0]; simp
  clear hW0
  go_cut [] from 7 (fun wx => Cp1 w m sa sn sc na nn nc wx)
  case first =>
    go_region_with
      (first
        | (go_at_call 33; refine (clone_ints (h0.below (to_drew b0)) hF.root).mono ?_; rintro e w1 ⟨vr, rfl, hr0, bb1⟩; have bb1 := below_drew bb1; have m1 := cells_below m0 bb1 (by omega); have mz1 := cells_below mz bb1 (by omega); obtain ⟨d0, d1, d2, d3, d4⟩ := five m1; obtain ⟨qa, qc, rfl⟩ := row_slice hr0)
        | (go_at_call 33; refine (clone_ints ((h2.below b0).below bb1) hF.refs).mono ?_; rintro e w2 ⟨vf, rfl, hr2, bb2⟩; have m2 := cells_below m1 bb2 (Array.getElem?_eq_some_iff.1 m1).1; have mz2 := cells_below mz1 bb2 (Array.getElem?_eq_some_iff.1 mz1).1; obtain ⟨g0, g1, g2, g3, g4⟩ := five m2; have f1 := cells_frozen m2 1; have f3 := cells_frozen m2 3; obtain ⟨ka, kc, rfl⟩ := row_slice hr2))
    all_goals
      go_wp2_with fail
      go_meet
      have hz1 : w.heap.size + 2 ≤ w1.heap.size := Nat.le_trans hz0 bb1.size
      have hr0' : W0.heap.size = W0.drew.heap.size := rfl
      have hr0a := hr0
      have hr0 := row_mono (row_keep hr0 bb2) (B' := w.heap.size + 2) (by rw [← hr0']; exact hz0)
      have hr2' := row_mono hr2 (B' := w.heap.size + 2) hz1
      refine ⟨qa, qc, ka, kc, ?_, cells_other (cells_other mz2 (by omega) _ _) (by omega) _ _, ((Below.on b0 (Below.on bb1 bb2)).setCell (Nat.le_refl _) _).setCell (Nat.le_refl _) _, ownsRow_setCell_below (ownsRow_setCell_below hr0 (show w.heap.size < w.heap.size + 2 by omega) _) (show w.heap.size < w.heap.size + 2 by omega) _, ownsRow_setCell_below (ownsRow_setCell_below hr2' (show w.heap.size < w.heap.size + 2 by omega) _) (show w.heap.size < w.heap.size + 2 by omega) _, ?_⟩
      · exact cells_set (cells_set m2 1 _) 3 _
      · exact row_apart hr0a hr2 (Nat.le_refl _)
  case rest =>
  obtain ⟨qa, qc, ka, kc, m1, mz1, b1, hr0, hr2, ap⟩ := hcut
  obtain ⟨d0, d1, d2, d3, d4⟩ := five m1
  have hN1 : w.heap.size + 2 ≤ wc.heap.size := (Array.getElem?_eq_some_iff.1 mz1).1
  obtain ⟨tv, htv, hcs⟩ := clone_slots h1 hF.slots
  obtain ⟨qv, hqv, hcn⟩ := clone_snaps h3 hF.snaps
  clear h0 h2 m0 mz c0 c1 c2 c3 c4 b0 hz0
  go_upto_region 2 with fail
  go_cut [] from 15 (fun wx => Cp2 w m tv qv wx)
  case first =>
    go_region_with
      (first
        | (go_at_call 91; refine (hcs _ (to_drew b1)).mono ?_; rintro e w1 ⟨vr, rfl, hr1, bb1⟩; have bb1 := below_drew bb1; have m2 := cells_below m1 bb1 (by omega); have mz2 := cells_below mz1 bb1 (by omega); obtain ⟨g0, g1, g2, g3, g4⟩ := five m2; obtain ⟨pa, pc, rfl⟩ := row_slice hr1)
        | (go_at_call 92; refine (hcn _ (Below.on b1 bb1)).mono ?_; rintro e w2 ⟨vf, rfl, hr3, bb2⟩; have m3 := cells_below m2 bb2 (Array.getElem?_eq_some_iff.1 m2).1; have mz3 := cells_below mz2 bb2 (Array.getElem?_eq_some_iff.1 mz2).1; obtain ⟨i0, i1, i2, i3, i4⟩ := five m3; have f2 := cells_frozen m3 2; have f4 := cells_frozen m3 4; obtain ⟨ja, jc, rfl⟩ := row_slice hr3))
    all_goals
      go_wp2_with fail
      go_meet
      have hz1 : w.heap.size + 2 ≤ w1.heap.size := Nat.le_trans hN1 bb1.size
      have hdz : wc.heap.size = wc.drew.heap.size := rfl
      have bb12 := Below.on bb1 bb2
      have r1' := row_mono (row_keep hr1 bb2) (B' := w.heap.size + 2) (by rw [← hdz]; exact hN1)
      have r3' := row_mono hr3 (B' := w.heap.size + 2) hz1
      have r0' := row_keep hr0 bb12
      have r2' := row_keep hr2 bb12
      have hset : ∀ {B n size : Nat} {e : TypeId} {v : Value} {xs : List Value} {u u' : Value}, w2.ownsRow B e size v n xs → w.heap.size < B → ((w2.setCell ⟨w.heap.size, 2, none⟩ u).setCell ⟨w.heap.size, 4, none⟩ u').ownsRow B e size v n xs := fun h hB => ownsRow_setCell_below (ownsRow_setCell_below h hB _) hB _
      have hbz : Below w.heap.size w ((w2.setCell ⟨w.heap.size, 2, none⟩ (.slice pa m.slots.length pc)).setCell ⟨w.heap.size, 4, none⟩ (.slice ja m.snaps.length jc)) := ((Below.on b1 bb12).setCell (Nat.le_refl _) _).setCell (Nat.le_refl _) _
      have hlt : w.heap.size < w.heap.size + 2 := by omega
      have r0a := row_keep hr0 bb1
      have r2a := row_keep hr2 bb1
      refine ⟨qa, qc, pa, pc, ka, kc, ja, jc, ?_, cells_other (cells_other mz3 (by omega) _ _) (by omega) _ _, hbz, HC.start (hset r0' hlt) (hset r1' hlt) (hset r2' hlt) (hset r3' hlt) (row_apart hr0 hr1 (Nat.le_refl _)) ap (row_apart r0a hr3 (Nat.le_refl _)) (row_apart hr2 hr1 (Nat.le_refl _)) (row_apart hr1 hr3 (Nat.le_refl _)) (row_apart r2a hr3 (Nat.le_refl _))⟩
      exact cells_set (cells_set m3 2 _) 4 _
  case rest =>
  obtain ⟨qa, qc, pa, pc, ka, kc, ja, jc, m2, mz2, b2, hH⟩ := hcut
  have HS : Hid (CpR w wc m tv qv (.slice qa m.root.length qc) (.slice pa m.slots.length pc) (.slice ka m.refs.length kc) (.slice ja m.snaps.length jc) 0 0) := ⟨⟨_, hH, rfl, rfl, rfl, rfl⟩, m2, mz2, b2⟩
  have HT : Hid (∀ j, j < m.slots.length → Sl w (tv j) (m.slots.getD j default).2.2) := htv
  have HQ : Hid (∀ j, j < m.snaps.length → Sl w (qv j) (m.snaps.getD j default).2.2) := hqv
  have HL : Hid (m.slots.length ≤ 9223372036854775807 ∧ m.snaps.length ≤ 9223372036854775807) := ⟨h1.small, h3.small⟩
  obtain ⟨e0, e1, e2, e3, e4⟩ := five m2
  clear hH m2 mz2 b2 htv hqv hcs hcn h1 h3 d0 d1 d2 d3 d4 m1 mz1 b1 hr0 hr2 ap hN1
  go_wp2_with fail
  clear e0 e1 e2 e3 e4
  go_loopw [26] (fun i wr => ∃ k : Nat, k ≤ m.slots.length ∧ i = .int .i64 k ∧ Hid (CpR w wr m tv qv (.slice qa m.root.length qc) (.slice pa m.slots.length pc) (.slice ka m.refs.length kc) (.slice ja m.snaps.length jc) k 0)) (fun i _ => m.slots.length - (intOf i).toNat)
  case atStart => exact ⟨0, Nat.zero_le _, rfl, HS⟩
  case round =>
    obtain ⟨k, hk, rfl, HC⟩ := hrel
    by_cases hlk : k < m.slots.length
    · obtain ⟨g, rfl⟩ : ∃ g, pa = some ⟨g, 0, none⟩ := by
        obtain ⟨⟨val, hH, _, e1, _⟩, _⟩ := HC.out
        have hr := hH.row .slots (.inl ⟨by decide, rfl⟩)
        rw [e1] at hr
        rcases row_form hr with ⟨e, hn⟩ | ⟨g, cap, e, _⟩
        · have hn : m.slots.length = 0 := hn
          omega
        · simp at e; exact ⟨g, e.1⟩
      obtain ⟨s, hs⟩ : ∃ s, s = m.slots.getD k default := ⟨_, rfl⟩
      obtain ⟨kk, dd, tt⟩ := s
      have hSl := HT.out k hlk
      obtain ⟨ta, tc, htv⟩ := hSl.form
      have HSl : Hid (Sl w (.slice ta tt.length tc) tt ∧ tv k = .slice ta tt.length tc) := by rw [← hs] at hSl htv; exact ⟨htv ▸ hSl, htv⟩
      have HK : Hid ((kk, dd, tt) = m.slots.getD k default) := hs
      clear hs hSl htv
      have hki : (k : Int) < (m.slots.length : Int) := by omega
      have hL := HL.out.1
      have hL1 : (k : Int) + 1 ≤ 9223372036854775807 := by omega
      obtain ⟨⟨val, hH, _, e1, _⟩, hbox, hres, hbel⟩ := HC.out
      have hr := hH.row .slots (.inl ⟨by decide, rfl⟩)
      rw [e1] at hr
      have hr : wr.ownsRow (w.heap.size + 2) 72 3 (.slice (some ⟨g, 0, none⟩) m.slots.length pc) m.slots.length (flatS m.slots (fun j => if j < k then val (.tab j) else tv j)) := hr
      have hgl := hr.lt g rfl
      obtain ⟨s0, s1, s2⟩ := flatS_get (L := m.slots) (tv := fun j => if j < k then val (.tab j) else tv j) (j := k) hlk
      rw [← HK.out] at s0 s1
      rw [if_neg (Nat.lt_irrefl k), HSl.out.2] at s2
      have t0 : wr.cell? ⟨g, k * 3, none⟩ = some (.int .i64 kk) := (hr.cellAt (k * 3) (by omega)).trans s0
      have t1 : wr.cell? ⟨g, k * 3 + 1, none⟩ = some (.string dd) := (hr.cellAt (k * 3 + 1) (by omega)).trans s1
      have t2 : wr.cell? ⟨g, k * 3 + 2, none⟩ = some (.slice ta tt.length tc) := (hr.cellAt (k * 3 + 2) (by omega)).trans s2
      have hA := Below.heap_alloc wr (.cells #[.int .i64 kk, .string dd, .slice ta tt.length tc] 72)
      have ba : Below wr.heap.size wr (wr.alloc (.cells #[.int .i64 kk, .string dd, .slice ta tt.length tc] 72)) := (Below.refl _ _).alloc (Nat.le_refl _) _
      have hNr : w.heap.size + 2 ≤ wr.heap.size := (Array.getElem?_eq_some_iff.1 hres).1
      obtain ⟨x0, x1, x2, x3, x4⟩ := five (cells_below hbox ba (by omega))
      have ms : (wr.alloc (.cells #[.int .i64 kk, .string dd, .slice ta tt.length tc] 72)).heap[wr.heap.size]? = some (.cells #[.int .i64 kk, .string dd, .slice ta tt.length tc] 72) := World.alloc_heap_new _ _
      obtain ⟨y0, y1, y2⟩ := three ms
      have hcl := clone_ints (w := (wr.alloc (.cells #[.int .i64 kk, .string dd, .slice ta tt.length tc] 72)).drew) ((HSl.out.1.below hbel).below (to_drew ba)) (by have := hF.tab k hlk; rw [← HK.out] at this; exact this)
      clear hA hH e1 hbox hres hbel hr s0 s1 s2
      go_wp2_with fail
      go_region_with (first | (go_at_call 33; refine hcl.mono ?_; rintro e w1 ⟨vt, rfl, hrt, bt⟩; have bt := below_drew bt; have bw := Below.on ba bt; have hN := HC.out.below bw; obtain ⟨z0, z1, z2, z3, z4⟩ := five hN.box; have HRT : Hid (w1.ownsRow wr.heap.size 3 1 vt tt.length (ints tt)) := row_mono hrt (by show _ ≤ (wr.alloc _).heap.size; simp); obtain ⟨oa, oc, rfl⟩ := row_slice hrt; have q2 := (bw.cell (p := ⟨g, k * 3 + 2, none⟩) hgl.2).trans t2; have qf : w1.frozen? ⟨g, k * 3 + 2, none⟩ = false := by (obtain ⟨⟨val, hH, _, e1, _⟩, _⟩ := hN; have hr := hH.row .slots (.inl ⟨by decide, rfl⟩); rw [e1] at hr; exact hr.frozenAt _)))
      all_goals
        have HN : Hid (CpR w (w1.setCell ⟨g, k * 3 + 2, none⟩ (.slice oa tt.length oc)) m tv qv (.slice qa m.root.length qc) (.slice (some ⟨g, 0, none⟩) m.slots.length pc) (.slice ka m.refs.length kc) (.slice ja m.snaps.length jc) (k + 1) 0) := HC.out.tab bw (by rw [← HK.out]; exact HRT.out)
        go_wp2_with fail
        go_roundw
        case rel => exact ⟨k + 1, by omega, by go_num, HN⟩
        case measure => simp [intOf]; omega
    · have ek : k = m.slots.length := by omega
      subst ek
      obtain ⟨x, hrn⟩ : ∃ X, X = wr := ⟨_, rfl⟩
      subst hrn
      obtain ⟨y0, y1, y2, y3, y4⟩ := five HC.out.box
      go_wp2_with fail
      clear y0 y1 y2 y3 y4
      go_loopw [43] (fun i wr => ∃ l : Nat, l ≤ m.snaps.length ∧ i = .int .i64 l ∧ Hid (CpR w wr m tv qv (.slice qa m.root.length qc) (.slice pa m.slots.length pc) (.slice ka m.refs.length kc) (.slice ja m.snaps.length jc) m.slots.length l)) (fun i _ => m.snaps.length - (intOf i).toNat)
      case atStart => exact ⟨0, Nat.zero_le _, rfl, HC⟩
      case round =>
        obtain ⟨l, hl, rfl, HD⟩ := hrel
        by_cases hll : l < m.snaps.length
        · obtain ⟨g, rfl⟩ : ∃ g, ja = some ⟨g, 0, none⟩ := by
            obtain ⟨⟨val, hH, _, _, _, e3⟩, _⟩ := HD.out
            have hr := hH.row .snaps (.inl ⟨by decide, rfl⟩)
            rw [e3] at hr
            rcases row_form hr with ⟨e, hn⟩ | ⟨g, cap, e, _⟩
            · have hn : m.snaps.length = 0 := hn
              omega
            · simp at e; exact ⟨g, e.1⟩
          obtain ⟨s, hs⟩ : ∃ s, s = m.snaps.getD l default := ⟨_, rfl⟩
          obtain ⟨nm, sg, tt⟩ := s
          have hSl := HQ.out l hll
          obtain ⟨ta, tc, htv⟩ := hSl.form
          have HSl : Hid (Sl w (.slice ta tt.length tc) tt ∧ qv l = .slice ta tt.length tc) := by rw [← hs] at hSl htv; exact ⟨htv ▸ hSl, htv⟩
          have HK : Hid ((nm, sg, tt) = m.snaps.getD l default) := hs
          clear hs hSl htv
          have hki : (l : Int) < (m.snaps.length : Int) := by omega
          have hL := HL.out.2
          have hL1 : (l : Int) + 1 ≤ 9223372036854775807 := by omega
          obtain ⟨⟨val, hH, _, _, _, e3⟩, hbox, hres, hbel⟩ := HD.out
          have hr := hH.row .snaps (.inl ⟨by decide, rfl⟩)
          rw [e3] at hr
          have hr : wr.ownsRow (w.heap.size + 2) 64 3 (.slice (some ⟨g, 0, none⟩) m.snaps.length jc) m.snaps.length (flatN m.snaps (fun j => if j < l then val (.sr j) else qv j)) := hr
          have hgl := hr.lt g rfl
          obtain ⟨s0, s1, s2⟩ := flatN_get (S := m.snaps) (qv := fun j => if j < l then val (.sr j) else qv j) (j := l) hll
          rw [← HK.out] at s0 s1
          rw [if_neg (Nat.lt_irrefl l), HSl.out.2] at s2
          have t0 : wr.cell? ⟨g, l * 3, none⟩ = some (.string nm) := (hr.cellAt (l * 3) (by omega)).trans s0
          have t1 : wr.cell? ⟨g, l * 3 + 1, none⟩ = some (.int .i64 sg) := (hr.cellAt (l * 3 + 1) (by omega)).trans s1
          have t2 : wr.cell? ⟨g, l * 3 + 2, none⟩ = some (.slice ta tt.length tc) := (hr.cellAt (l * 3 + 2) (by omega)).trans s2
          have ba : Below wr.heap.size wr (wr.alloc (.cells #[.string nm, .int .i64 sg, .slice ta tt.length tc] 64)) := (Below.refl _ _).alloc (Nat.le_refl _) _
          have hNr : w.heap.size + 2 ≤ wr.heap.size := (Array.getElem?_eq_some_iff.1 hres).1
          obtain ⟨x0, x1, x2, x3, x4⟩ := five (cells_below hbox ba (by omega))
          have ms : (wr.alloc (.cells #[.string nm, .int .i64 sg, .slice ta tt.length tc] 64)).heap[wr.heap.size]? = some (.cells #[.string nm, .int .i64 sg, .slice ta tt.length tc] 64) := World.alloc_heap_new _ _
          obtain ⟨y0, y1, y2⟩ := three ms
          have hcl := clone_ints (w := (wr.alloc (.cells #[.string nm, .int .i64 sg, .slice ta tt.length tc] 64)).drew) ((HSl.out.1.below hbel).below (to_drew ba)) (by have := hF.sr l hll; rw [← HK.out] at this; exact this)
          clear hH e3 hbox hres hbel hr s0 s1 s2
          go_wp2_with fail
          go_region_with (first | (go_at_call 33; refine hcl.mono ?_; rintro e w1 ⟨vt, rfl, hrt, bt⟩; have bt := below_drew bt; have bw := Below.on ba bt; have hN := HD.out.below bw; obtain ⟨z0, z1, z2, z3, z4⟩ := five hN.box; have HRT : Hid (w1.ownsRow wr.heap.size 3 1 vt tt.length (ints tt)) := row_mono hrt (by show _ ≤ (wr.alloc _).heap.size; simp); obtain ⟨oa, oc, rfl⟩ := row_slice hrt; have q2 := (bw.cell (p := ⟨g, l * 3 + 2, none⟩) hgl.2).trans t2; have qf : w1.frozen? ⟨g, l * 3 + 2, none⟩ = false := by (obtain ⟨⟨val, hH, _, _, _, e3⟩, _⟩ := hN; have hr := hH.row .snaps (.inl ⟨by decide, rfl⟩); rw [e3] at hr; exact hr.frozenAt _)))
          all_goals
            have HN : Hid (CpR w (w1.setCell ⟨g, l * 3 + 2, none⟩ (.slice oa tt.length oc)) m tv qv (.slice qa m.root.length qc) (.slice pa m.slots.length pc) (.slice ka m.refs.length kc) (.slice (some ⟨g, 0, none⟩) m.snaps.length jc) m.slots.length (l + 1)) := HD.out.sr bw (by rw [← HK.out]; exact HRT.out)
            go_wp2_with fail
            go_roundw
            case rel => exact ⟨l + 1, by omega, by go_num, HN⟩
            case measure => simp [intOf]; omega
        · have el : l = m.snaps.length := by omega
          subst el
          obtain ⟨⟨val, hH, e0, e1, e2, e3⟩, hbox, hres, hbel⟩ := HD.out
          obtain ⟨x0, x1, x2, x3, x4⟩ := five hbox
          obtain ⟨z0, z1, z2, z3, z4⟩ := five hres
          have y0 := cells_frozen hres 0
          have y1 := cells_frozen hres 1
          have y2 := cells_frozen hres 2
          have y3 := cells_frozen hres 3
          have y4 := cells_frozen hres 4
          have HF : Hid (OI wr (w.heap.size + 2) val m) := hH.done
          clear hH
          go_wp2_with fail
          have hf : ∀ a, Live m a → (val a).ownBlock ≠ some (w.heap.size + 1) := fun a ha e => by have := ((HF.out.row a ha).lt _ e).1; omega
          have hB1 : w.heap.size ≤ w.heap.size + 1 := Nat.le_succ _
          refine bodyPost_ret (v := .agg #[.int .i64 m.guest, .slice qa m.root.length qc, .slice pa m.slots.length pc, .slice ka m.refs.length kc, .slice ja m.snaps.length jc]) (by simp [results, Try.results69, go_sem, z0, z1, z2, z3, z4]) rfl ⟨val, ?_, OI.mono (((((HF.out.far hf).far hf).far hf).far hf).far hf) (by omega), ((((hbel.setCell hB1 _).setCell hB1 _).setCell hB1 _).setCell hB1 _).setCell hB1 _⟩
          unfold imgV
          rw [e0, e1, e2, e3]
theorem copied_is {w : World} {v : Value} {m : ImgD} (h : Img w v m) (hF : Fits m) :
    Calls Try.prog 69 #[v] w fun r w' => ∃ val, r = .returned (imgV m.guest val) ∧ OI w' w.heap.size val m ∧ Below w.heap.size w w' := by
  obtain ⟨ra, rc, sa, sc, fa, fc, na, nc, rfl, h1, h2, h3, h4⟩ := h.parts
  exact copied_at m ra _ rc sa _ sc fa _ fc na _ nc w h1 h2 h3 h4 hF
end Go.Proofs.Ytehleeibgkpjmae
/- Contract of Of: a copy is turned, and settled; where no slot is left, the panic is caught. -/
namespace Go.Proofs.Ytehleeibgkpjmae
open Go.RowKit Go.Shelf
set_option maxRecDepth 20000

theorem catch_idle (p : Addr) (w : World) :
    CallsD Try.prog 68 #[.pointer (some p)] .returning w fun e u' w' => e = .returned (.tuple #[]) ∧ u' = .returning ∧ w' = w := by
  refine callsD_of_wpS Try.func68 rfl fun c₀ cs hu => ?_
  apply wpS_seq
  apply wpS_region
  simp [wpOpsS, go_sem, recoverD, hu, Try.ntmps68, Exit.thenS]
  refine wpS_of_wp ?_
  simp only [Array.replicate_succ, Array.replicate_zero, List.push_toArray, List.append_toArray, List.nil_append, List.cons_append, List.setIfInBounds_toArray, List.set_cons_zero, List.set_cons_succ]
  go_wp2
  cases c₀
  simp_all [bodyPostS, results, Try.results68]
set_option maxHeartbeats 1000000 in
theorem catch_full (b : Nat) (x : Int) (older : List PanicEntry) (w : World) (hc : w.cell? ⟨b, 0, none⟩ = some (.int .i64 x)) (hz : w.frozen? ⟨b, 0, none⟩ = false) (hb : b < w.heap.size) :
    CallsD Try.prog 68 #[.pointer (some ⟨b, 0, none⟩)] (.panicking ({ v := .iface 94 (.agg #[]), recovered := false } :: older)) w fun e u' w' =>
      e = .returned (.tuple #[]) ∧ u' = .panicking ({ v := .iface 94 (.agg #[]), recovered := true } :: older) ∧ w' = (w.setCell ⟨b, 0, none⟩ (.int .i64 7)).alloc (.cells #[] 94) := by
  have hta : ∀ w, (Instr.typeAssert (.iface 94 (.agg #[])) 20 94 true).run Try.prog w = .ok (.tuple #[.agg #[], .bool true]) w := fun w => by kernel_rfl
  have hcA : (w.alloc (.cells #[] 94)).cell? ⟨b, 0, none⟩ = some (.int .i64 x) := (World.cell?_alloc_past _ _ _ hb).trans hc
  have hbn : ¬ b = w.heap.size := by omega
  refine callsD_of_wpS Try.func68 rfl fun c₀ cs hu => ?_
  apply wpS_seq
  apply wpS_region
  simp [wpOpsS, go_sem, recoverD, hu, Try.ntmps68, Exit.thenS]
  refine wpS_of_wp ?_
  simp only [Array.replicate_succ, Array.replicate_zero, List.push_toArray, List.append_toArray, List.nil_append, List.cons_append, List.setIfInBounds_toArray, List.set_cons_zero, List.set_cons_succ]
  go_wp2
  cases c₀
  simp_all [bodyPostS, results, Try.results68]

/-- What the panic is that tells that no slot is left. -/
abbrev noSlotP : List PanicEntry := [{ v := .iface 94 (.agg #[]), recovered := false }]
/-- The closure turns the image m on a desk to what o tells; it panics where there is none. -/
def Turns (w : World) (N : Nat) (caps : Array Value) (m : ImgD) (o : Option ImgD) : Prop :=
  ∀ (W : World) (D B : Nat) (val : Nm → Value), Below w.heap.size w W → w.heap.size ≤ B → B ≤ W.heap.size → DK W B D val m →
    Calls Try.prog N (#[.pointer (some ⟨D, 0, none⟩)] ++ caps) W fun r W' => match o with
      | some m' => ∃ val', r = .returned (.tuple #[]) ∧ DTo W W' B D m val nilV m' val'
      | none => r = .panicked noSlotP ∧ Below B W W'
/-- The desk, made of an image of one's own. -/
theorem desk_new {w : World} {B : Nat} {val : Nm → Value} {m : ImgD} (h : OI w B val m) (hB : B ≤ w.heap.size) : DK (w.alloc (.cells #[.int .i64 m.guest, val .root, val .slots, val .refs, val .snaps] 61)) B w.heap.size val m :=
  ⟨h.alloc _, World.alloc_heap_new _ _, hB, h.lt (Nat.le_refl _)⟩

set_option maxHeartbeats 4000000 in
theorem of_full (m : ImgD) (ra : Option Addr) (rn rc : Nat) (sa : Option Addr) (sn sc : Nat) (fa : Option Addr) (fn fc : Nat) (na : Option Addr) (nn nc : Nat) (N : Nat) (caps : Array Value) (w : World) (h : Img w (.agg #[.int .i64 m.guest, .slice ra rn rc, .slice sa sn sc, .slice fa fn fc, .slice na nn nc]) m) (hF : Fits m) (hN : ∀ (args : Array Value) (w : World), (callFunc N args).run Try.prog w = .ok (.enter N args) w) (ht : Turns w N caps m none) :
    Calls Try.prog 31 #[.agg #[.int .i64 m.guest, .slice ra rn rc, .slice sa sn sc, .slice fa fn fc, .slice na nn nc], .func (.func N) #[] caps] w (AnsI w w.heap.size imgZ 7) := by
  have hmf : ∀ (fn : Fn) (first cap : Array Value) (w : World), (Instr.makeFunc fn first cap).run Try.prog w = .ok (.func fn first cap) w := fun _ _ _ _ => rfl
  have b0 : Below w.heap.size w (((w.alloc (.cells #[.int .i64 m.guest, .slice ra rn rc, .slice sa sn sc, .slice fa fn fc, .slice na nn nc] 26)).alloc (.cells #[.int .i64 0, .slice none 0 0, .slice none 0 0, .slice none 0 0, .slice none 0 0] 26)).alloc (.cells #[.int .i64 0] 27)) := (((Below.refl _ _).alloc (Nat.le_refl _) _).alloc (by simp) _).alloc (by simp <;> omega) _
  have m0 : (((w.alloc (.cells #[.int .i64 m.guest, .slice ra rn rc, .slice sa sn sc, .slice fa fn fc, .slice na nn nc] 26)).alloc (.cells #[.int .i64 0, .slice none 0 0, .slice none 0 0, .slice none 0 0, .slice none 0 0] 26)).alloc (.cells #[.int .i64 0] 27)).heap[w.heap.size]? = some (.cells #[.int .i64 m.guest, .slice ra rn rc, .slice sa sn sc, .slice fa fn fc, .slice na nn nc] 26) := cells_alloc (cells_alloc (World.alloc_heap_new _ _) _) _
  have m1 : (((w.alloc (.cells #[.int .i64 m.guest, .slice ra rn rc, .slice sa sn sc, .slice fa fn fc, .slice na nn nc] 26)).alloc (.cells #[.int .i64 0, .slice none 0 0, .slice none 0 0, .slice none 0 0, .slice none 0 0] 26)).alloc (.cells #[.int .i64 0] 27)).heap[w.heap.size + 1]? = some (.cells #[.int .i64 0, .slice none 0 0, .slice none 0 0, .slice none 0 0, .slice none 0 0] 26) := cells_alloc (by have := World.alloc_heap_new (w.alloc (.cells #[.int .i64 m.guest, .slice ra rn rc, .slice sa sn sc, .slice fa fn fc, .slice na nn nc] 26)) (.cells #[.int .i64 0, .slice none 0 0, .slice none 0 0, .slice none 0 0, .slice none 0 0] 26); simpa using this) _
  have m2 : (((w.alloc (.cells #[.int .i64 m.guest, .slice ra rn rc, .slice sa sn sc, .slice fa fn fc, .slice na nn nc] 26)).alloc (.cells #[.int .i64 0, .slice none 0 0, .slice none 0 0, .slice none 0 0, .slice none 0 0] 26)).alloc (.cells #[.int .i64 0] 27)).heap[w.heap.size + 1 + 1]? = some (.cells #[.int .i64 0] 27) := by have := World.alloc_heap_new ((w.alloc (.cells #[.int .i64 m.guest, .slice ra rn rc, .slice sa sn sc, .slice fa fn fc, .slice na nn nc] 26)).alloc (.cells #[.int .i64 0, .slice none 0 0, .slice none 0 0, .slice none 0 0, .slice none 0 0] 26)) (.cells #[.int .i64 0] 27); simpa using this
  have hz3 : (((w.alloc (.cells #[.int .i64 m.guest, .slice ra rn rc, .slice sa sn sc, .slice fa fn fc, .slice na nn nc] 26)).alloc (.cells #[.int .i64 0, .slice none 0 0, .slice none 0 0, .slice none 0 0, .slice none 0 0] 26)).alloc (.cells #[.int .i64 0] 27)).heap.size = w.heap.size + 1 + 1 + 1 := by simp
  obtain ⟨c0, c1, c2, c3, c4⟩ := five m0
  have hcp := copied_is (h.below b0) hF
  have HX : Hid (True) := trivial
  clear h
  go_enter_defers Try.func31, Try.ntmps31
  go_wp2_with (go_at_call 69; refine hcp.mono ?_; rintro e w1 ⟨val, rfl, hO, b1⟩; obtain ⟨qa, qc, q0, _⟩ := hO.forms .root (Live.root m); obtain ⟨pa, pc, q1, _⟩ := hO.forms .slots (Live.slots m); obtain ⟨ka, kc, q2, _⟩ := hO.forms .refs (Live.refs m); obtain ⟨ja, jc, q3, _⟩ := hO.forms .snaps (Live.snaps m); unfold imgV; rw [q0, q1, q2, q3])
  have hD := desk_new hO b1.size
  rw [q0, q1, q2, q3] at hD
  have b1' : Below (((w.alloc (.cells #[.int .i64 m.guest, .slice ra rn rc, .slice sa sn sc, .slice fa fn fc, .slice na nn nc] 26)).alloc (.cells #[.int .i64 0, .slice none 0 0, .slice none 0 0, .slice none 0 0, .slice none 0 0] 26)).alloc (.cells #[.int .i64 0] 27)).heap.size (((w.alloc (.cells #[.int .i64 m.guest, .slice ra rn rc, .slice sa sn sc, .slice fa fn fc, .slice na nn nc] 26)).alloc (.cells #[.int .i64 0, .slice none 0 0, .slice none 0 0, .slice none 0 0, .slice none 0 0] 26)).alloc (.cells #[.int .i64 0] 27)) (w1.alloc (.cells #[.int .i64 m.guest, .slice qa (rowN m .root) qc, .slice pa (rowN m .slots) pc, .slice ka (rowN m .refs) kc, .slice ja (rowN m .snaps) jc] 61)) := b1.alloc b1.size _
  have hbw := Below.on b0 b1'
  refine (ht _ _ _ _ hbw b0.size b1'.size hD).mono ?_
  rintro e w2 ⟨rfl, b2⟩
  dsimp only
  have b3 := b1'.trans b2
  have k1 := cells_below m1 b3 (by rw [hz3]; omega)
  have k2 := cells_below m2 b3 (by rw [hz3]; omega)
  have b4 : Below w.heap.size w w2 := b0.trans (b3.mono (by rw [hz3]; omega))
  obtain ⟨z0, z1, z2, z3, z4⟩ := five k1
  have ce : w2.cell? ⟨w.heap.size + 1 + 1, 0, none⟩ = some (.int .i64 0) := by simp [World.cell?, k2]
  have ne : ¬ w.heap.size + 1 = w.heap.size + 1 + 1 := by omega
  have hlt : w.heap.size + 1 + 1 < w2.heap.size := (Array.getElem?_eq_some_iff.1 k2).1
  have hlt1 : w.heap.size + 1 < w2.heap.size := by omega
  refine leaves_cons (f := 68) (args := #[.pointer (some ⟨w.heap.size + 1 + 1, 0, none⟩)]) (by simp) (by simp [go_sem]) ?_
  refine (catch_full (w.heap.size + 1 + 1) 0 [] w2 ce (cells_frozen k2 0) hlt).mono ?_
  rintro e u' w'' ⟨rfl, rfl, rfl⟩
  have k3 : ((w2.setCell ⟨w.heap.size + 1 + 1, 0, none⟩ (.int .i64 7)).alloc (.cells #[] 94)).heap[w.heap.size + 1]? = some (.cells #[.int .i64 0, .slice none 0 0, .slice none 0 0, .slice none 0 0, .slice none 0 0] 26) := cells_alloc (cells_other k1 ne _ _) _
  have k4 : ((w2.setCell ⟨w.heap.size + 1 + 1, 0, none⟩ (.int .i64 7)).alloc (.cells #[] 94)).heap[w.heap.size + 1 + 1]? = some (.cells #[.int .i64 7] 27) := cells_alloc (cells_set k2 0 _) _
  obtain ⟨z0, z1, z2, z3, z4⟩ := five k3
  have ce : ((w2.setCell ⟨w.heap.size + 1 + 1, 0, none⟩ (.int .i64 7)).alloc (.cells #[] 94)).cell? ⟨w.heap.size + 1 + 1, 0, none⟩ = some (.int .i64 7) := by simp only [World.cell?, k4]; rfl
  refine ⟨_, ?_, AnsI.bad 7 ((b4.setCell (by show _ ≤ w.heap.size + 1 + 1; omega) _).alloc (by simp [World.setCell]; have := b4.size; omega) _)⟩
  clear k3 k4
  generalize (w2.setCell ⟨w.heap.size + 1 + 1, 0, none⟩ (.int .i64 7)).alloc (.cells #[] 94) = Wf at z0 z1 z2 z3 z4 ce ⊢
  simp [results, Try.results31, go_sem, z0, z1, z2, z3, z4, ce]
set_option maxHeartbeats 4000000 in
theorem of_bad (m M : ImgD) (ra : Option Addr) (rn rc : Nat) (sa : Option Addr) (sn sc : Nat) (fa : Option Addr) (fn fc : Nat) (na : Option Addr) (nn nc : Nat) (N : Nat) (caps : Array Value) (w : World) (h : Img w (.agg #[.int .i64 m.guest, .slice ra rn rc, .slice sa sn sc, .slice fa fn fc, .slice na nn nc]) m) (hF : Fits m) (hN : ∀ (args : Array Value) (w : World), (callFunc N args).run Try.prog w = .ok (.enter N args) w) (ht : Turns w N caps m (some M)) (E : Int) (hE : shapeE M = E) (hne : E ≠ 0) :
    Calls Try.prog 31 #[.agg #[.int .i64 m.guest, .slice ra rn rc, .slice sa sn sc, .slice fa fn fc, .slice na nn nc], .func (.func N) #[] caps] w (AnsI w w.heap.size imgZ E) := by
  have hmf : ∀ (fn : Fn) (first cap : Array Value) (w : World), (Instr.makeFunc fn first cap).run Try.prog w = .ok (.func fn first cap) w := fun _ _ _ _ => rfl
  have b0 : Below w.heap.size w (((w.alloc (.cells #[.int .i64 m.guest, .slice ra rn rc, .slice sa sn sc, .slice fa fn fc, .slice na nn nc] 26)).alloc (.cells #[.int .i64 0, .slice none 0 0, .slice none 0 0, .slice none 0 0, .slice none 0 0] 26)).alloc (.cells #[.int .i64 0] 27)) := (((Below.refl _ _).alloc (Nat.le_refl _) _).alloc (by simp) _).alloc (by simp <;> omega) _
  have m0 : (((w.alloc (.cells #[.int .i64 m.guest, .slice ra rn rc, .slice sa sn sc, .slice fa fn fc, .slice na nn nc] 26)).alloc (.cells #[.int .i64 0, .slice none 0 0, .slice none 0 0, .slice none 0 0, .slice none 0 0] 26)).alloc (.cells #[.int .i64 0] 27)).heap[w.heap.size]? = some (.cells #[.int .i64 m.guest, .slice ra rn rc, .slice sa sn sc, .slice fa fn fc, .slice na nn nc] 26) := cells_alloc (cells_alloc (World.alloc_heap_new _ _) _) _
  have m1 : (((w.alloc (.cells #[.int .i64 m.guest, .slice ra rn rc, .slice sa sn sc, .slice fa fn fc, .slice na nn nc] 26)).alloc (.cells #[.int .i64 0, .slice none 0 0, .slice none 0 0, .slice none 0 0, .slice none 0 0] 26)).alloc (.cells #[.int .i64 0] 27)).heap[w.heap.size + 1]? = some (.cells #[.int .i64 0, .slice none 0 0, .slice none 0 0, .slice none 0 0, .slice none 0 0] 26) := cells_alloc (by have := World.alloc_heap_new (w.alloc (.cells #[.int .i64 m.guest, .slice ra rn rc, .slice sa sn sc, .slice fa fn fc, .slice na nn nc] 26)) (.cells #[.int .i64 0, .slice none 0 0, .slice none 0 0, .slice none 0 0, .slice none 0 0] 26); simpa using this) _
  have m2 : (((w.alloc (.cells #[.int .i64 m.guest, .slice ra rn rc, .slice sa sn sc, .slice fa fn fc, .slice na nn nc] 26)).alloc (.cells #[.int .i64 0, .slice none 0 0, .slice none 0 0, .slice none 0 0, .slice none 0 0] 26)).alloc (.cells #[.int .i64 0] 27)).heap[w.heap.size + 1 + 1]? = some (.cells #[.int .i64 0] 27) := by have := World.alloc_heap_new ((w.alloc (.cells #[.int .i64 m.guest, .slice ra rn rc, .slice sa sn sc, .slice fa fn fc, .slice na nn nc] 26)).alloc (.cells #[.int .i64 0, .slice none 0 0, .slice none 0 0, .slice none 0 0, .slice none 0 0] 26)) (.cells #[.int .i64 0] 27); simpa using this
  have hz3 : (((w.alloc (.cells #[.int .i64 m.guest, .slice ra rn rc, .slice sa sn sc, .slice fa fn fc, .slice na nn nc] 26)).alloc (.cells #[.int .i64 0, .slice none 0 0, .slice none 0 0, .slice none 0 0, .slice none 0 0] 26)).alloc (.cells #[.int .i64 0] 27)).heap.size = w.heap.size + 1 + 1 + 1 := by simp
  obtain ⟨c0, c1, c2, c3, c4⟩ := five m0
  have hcp := copied_is (h.below b0) hF
  have HX : Hid (shapeE M = E ∧ E ≠ 0) := ⟨hE, hne⟩
  clear h hE hne
  go_enter_defers Try.func31, Try.ntmps31
  go_wp2_with (go_at_call 69; refine hcp.mono ?_; rintro e w1 ⟨val, rfl, hO, b1⟩; obtain ⟨qa, qc, q0, _⟩ := hO.forms .root (Live.root m); obtain ⟨pa, pc, q1, _⟩ := hO.forms .slots (Live.slots m); obtain ⟨ka, kc, q2, _⟩ := hO.forms .refs (Live.refs m); obtain ⟨ja, jc, q3, _⟩ := hO.forms .snaps (Live.snaps m); unfold imgV; rw [q0, q1, q2, q3])
  have hD := desk_new hO b1.size
  rw [q0, q1, q2, q3] at hD
  have b1' : Below (((w.alloc (.cells #[.int .i64 m.guest, .slice ra rn rc, .slice sa sn sc, .slice fa fn fc, .slice na nn nc] 26)).alloc (.cells #[.int .i64 0, .slice none 0 0, .slice none 0 0, .slice none 0 0, .slice none 0 0] 26)).alloc (.cells #[.int .i64 0] 27)).heap.size (((w.alloc (.cells #[.int .i64 m.guest, .slice ra rn rc, .slice sa sn sc, .slice fa fn fc, .slice na nn nc] 26)).alloc (.cells #[.int .i64 0, .slice none 0 0, .slice none 0 0, .slice none 0 0, .slice none 0 0] 26)).alloc (.cells #[.int .i64 0] 27)) (w1.alloc (.cells #[.int .i64 m.guest, .slice qa (rowN m .root) qc, .slice pa (rowN m .slots) pc, .slice ka (rowN m .refs) kc, .slice ja (rowN m .snaps) jc] 61)) := b1.alloc b1.size _
  have hbw := Below.on b0 b1'
  refine (ht _ _ _ _ hbw b0.size b1'.size hD).mono ?_
  rintro e w2 ⟨val2, rfl, hT⟩
  dsimp only
  have b3 := b1'.trans hT.bel
  have k1 := cells_below m1 b3 (by rw [hz3]; omega)
  have k2 := cells_below m2 b3 (by rw [hz3]; omega)
  have b4 : Below w.heap.size w w2 := b0.trans (b3.mono (by rw [hz3]; omega))
  have hcall := settled_bad hT.dk HX.out.1 HX.out.2
  clear hT hD
  go_wp2_with (go_at_call 70; refine hcall.mono ?_; rintro e w3 ⟨rfl, b5⟩; have r1 := cells_below k1 b5 (Array.getElem?_eq_some_iff.1 k1).1; have r2 := cells_below k2 b5 (Array.getElem?_eq_some_iff.1 k2).1; obtain ⟨z0, z1, z2, z3, z4⟩ := five r1; have y0 := cells_frozen r1 0; have y1 := cells_frozen r1 1; have y2 := cells_frozen r1 2; have y3 := cells_frozen r1 3; have y4 := cells_frozen r1 4; have x0 := cells_frozen r2 0; have ce : w3.cell? ⟨w.heap.size + 1 + 1, 0, none⟩ = some (.int .i64 0) := by simp [World.cell?, r2])
  refine leaves_cons (f := 68) (args := #[.pointer (some ⟨w.heap.size + 1 + 1, 0, none⟩)]) (by simp) (by simp [go_sem]) ?_
  refine (catch_idle ⟨w.heap.size + 1 + 1, 0, none⟩ _).mono ?_
  rintro e u' w'' ⟨rfl, rfl, rfl⟩
  have b6 := Below.on b4 b5
  have i1 : w.heap.size ≤ w.heap.size + 1 := Nat.le_succ _
  have i2 : w.heap.size ≤ w.heap.size + 1 + 1 := by omega
  refine ⟨_, ?_, AnsI.bad E ((((((b6.setCell i1 _).setCell i1 _).setCell i1 _).setCell i1 _).setCell i1 _).setCell i2 _)⟩
  simp [results, Try.results31, go_sem, z0, z1, z2, z3, z4, ce]
set_option maxHeartbeats 4000000 in
theorem of_ok (m M : ImgD) (ra : Option Addr) (rn rc : Nat) (sa : Option Addr) (sn sc : Nat) (fa : Option Addr) (fn fc : Nat) (na : Option Addr) (nn nc : Nat) (N : Nat) (caps : Array Value) (w : World) (h : Img w (.agg #[.int .i64 m.guest, .slice ra rn rc, .slice sa sn sc, .slice fa fn fc, .slice na nn nc]) m) (hF : Fits m) (hN : ∀ (args : Array Value) (w : World), (callFunc N args).run Try.prog w = .ok (.enter N args) w) (ht : Turns w N caps m (some M)) (hE : shapeE M = 0) :
    Calls Try.prog 31 #[.agg #[.int .i64 m.guest, .slice ra rn rc, .slice sa sn sc, .slice fa fn fc, .slice na nn nc], .func (.func N) #[] caps] w (AnsI w w.heap.size (countedD M) 0) := by
  have hmf : ∀ (fn : Fn) (first cap : Array Value) (w : World), (Instr.makeFunc fn first cap).run Try.prog w = .ok (.func fn first cap) w := fun _ _ _ _ => rfl
  have b0 : Below w.heap.size w (((w.alloc (.cells #[.int .i64 m.guest, .slice ra rn rc, .slice sa sn sc, .slice fa fn fc, .slice na nn nc] 26)).alloc (.cells #[.int .i64 0, .slice none 0 0, .slice none 0 0, .slice none 0 0, .slice none 0 0] 26)).alloc (.cells #[.int .i64 0] 27)) := (((Below.refl _ _).alloc (Nat.le_refl _) _).alloc (by simp) _).alloc (by simp <;> omega) _
  have m0 : (((w.alloc (.cells #[.int .i64 m.guest, .slice ra rn rc, .slice sa sn sc, .slice fa fn fc, .slice na nn nc] 26)).alloc (.cells #[.int .i64 0, .slice none 0 0, .slice none 0 0, .slice none 0 0, .slice none 0 0] 26)).alloc (.cells #[.int .i64 0] 27)).heap[w.heap.size]? = some (.cells #[.int .i64 m.guest, .slice ra rn rc, .slice sa sn sc, .slice fa fn fc, .slice na nn nc] 26) := cells_alloc (cells_alloc (World.alloc_heap_new _ _) _) _
  have m1 : (((w.alloc (.cells #[.int .i64 m.guest, .slice ra rn rc, .slice sa sn sc, .slice fa fn fc, .slice na nn nc] 26)).alloc (.cells #[.int .i64 0, .slice none 0 0, .slice none 0 0, .slice none 0 0, .slice none 0 0] 26)).alloc (.cells #[.int .i64 0] 27)).heap[w.heap.size + 1]? = some (.cells #[.int .i64 0, .slice none 0 0, .slice none 0 0, .slice none 0 0, .slice none 0 0] 26) := cells_alloc (by have := World.alloc_heap_new (w.alloc (.cells #[.int .i64 m.guest, .slice ra rn rc, .slice sa sn sc, .slice fa fn fc, .slice na nn nc] 26)) (.cells #[.int .i64 0, .slice none 0 0, .slice none 0 0, .slice none 0 0, .slice none 0 0] 26); simpa using this) _
  have m2 : (((w.alloc (.cells #[.int .i64 m.guest, .slice ra rn rc, .slice sa sn sc, .slice fa fn fc, .slice na nn nc] 26)).alloc (.cells #[.int .i64 0, .slice none 0 0, .slice none 0 0, .slice none 0 0, .slice none 0 0] 26)).alloc (.cells #[.int .i64 0] 27)).heap[w.heap.size + 1 + 1]? = some (.cells #[.int .i64 0] 27) := by have := World.alloc_heap_new ((w.alloc (.cells #[.int .i64 m.guest, .slice ra rn rc, .slice sa sn sc, .slice fa fn fc, .slice na nn nc] 26)).alloc (.cells #[.int .i64 0, .slice none 0 0, .slice none 0 0, .slice none 0 0, .slice none 0 0] 26)) (.cells #[.int .i64 0] 27); simpa using this
  have hz3 : (((w.alloc (.cells #[.int .i64 m.guest, .slice ra rn rc, .slice sa sn sc, .slice fa fn fc, .slice na nn nc] 26)).alloc (.cells #[.int .i64 0, .slice none 0 0, .slice none 0 0, .slice none 0 0, .slice none 0 0] 26)).alloc (.cells #[.int .i64 0] 27)).heap.size = w.heap.size + 1 + 1 + 1 := by simp
  obtain ⟨c0, c1, c2, c3, c4⟩ := five m0
  have hcp := copied_is (h.below b0) hF
  have HX : Hid (shapeE M = 0) := hE
  clear h hE
  go_enter_defers Try.func31, Try.ntmps31
  go_wp2_with (go_at_call 69; refine hcp.mono ?_; rintro e w1 ⟨val, rfl, hO, b1⟩; obtain ⟨qa, qc, q0, _⟩ := hO.forms .root (Live.root m); obtain ⟨pa, pc, q1, _⟩ := hO.forms .slots (Live.slots m); obtain ⟨ka, kc, q2, _⟩ := hO.forms .refs (Live.refs m); obtain ⟨ja, jc, q3, _⟩ := hO.forms .snaps (Live.snaps m); unfold imgV; rw [q0, q1, q2, q3])
  have hD := desk_new hO b1.size
  rw [q0, q1, q2, q3] at hD
  have b1' : Below (((w.alloc (.cells #[.int .i64 m.guest, .slice ra rn rc, .slice sa sn sc, .slice fa fn fc, .slice na nn nc] 26)).alloc (.cells #[.int .i64 0, .slice none 0 0, .slice none 0 0, .slice none 0 0, .slice none 0 0] 26)).alloc (.cells #[.int .i64 0] 27)).heap.size (((w.alloc (.cells #[.int .i64 m.guest, .slice ra rn rc, .slice sa sn sc, .slice fa fn fc, .slice na nn nc] 26)).alloc (.cells #[.int .i64 0, .slice none 0 0, .slice none 0 0, .slice none 0 0, .slice none 0 0] 26)).alloc (.cells #[.int .i64 0] 27)) (w1.alloc (.cells #[.int .i64 m.guest, .slice qa (rowN m .root) qc, .slice pa (rowN m .slots) pc, .slice ka (rowN m .refs) kc, .slice ja (rowN m .snaps) jc] 61)) := b1.alloc b1.size _
  have hbw := Below.on b0 b1'
  refine (ht _ _ _ _ hbw b0.size b1'.size hD).mono ?_
  rintro e w2 ⟨val2, rfl, hT⟩
  dsimp only
  have b3 := b1'.trans hT.bel
  have k1 := cells_below m1 b3 (by rw [hz3]; omega)
  have k2 := cells_below m2 b3 (by rw [hz3]; omega)
  have b4 : Below w.heap.size w w2 := b0.trans (b3.mono (by rw [hz3]; omega))
  have hcall := settled_ok hT.dk (Nat.le_trans b1'.size hT.bel.size) HX.out
  go_wp2_with fail
  refine hcall.mono ?_
  rintro e w3 ⟨val3, rfl, hT3⟩
  dsimp only
  have hO3 := hT3.dk.own
  have b5 := hT3.bel
  rw [hz3] at b5
  have r1 := cells_below k1 b5 (by omega)
  have r2 := cells_below k2 b5 (by omega)
  obtain ⟨z0, z1, z2, z3, z4⟩ := five r1
  have y0 := cells_frozen r1 0
  have y1 := cells_frozen r1 1
  have y2 := cells_frozen r1 2
  have y3 := cells_frozen r1 3
  have y4 := cells_frozen r1 4
  have x0 := cells_frozen r2 0
  have ce : w3.cell? ⟨w.heap.size + 1 + 1, 0, none⟩ = some (.int .i64 0) := by simp [World.cell?, r2]
  obtain ⟨ga, gc, g0, _⟩ := hO3.forms .root (Live.root _)
  obtain ⟨la, lc, g1, _⟩ := hO3.forms .slots (Live.slots _)
  obtain ⟨oa, oc, g2, _⟩ := hO3.forms .refs (Live.refs _)
  obtain ⟨ta, tc, g3, _⟩ := hO3.forms .snaps (Live.snaps _)
  unfold imgV
  rw [g0, g1, g2, g3]
  have HO : Hid (OI w3 (w.heap.size + 3) val3 (countedD M) ∧ val3 .root = _ ∧ val3 .slots = _ ∧ val3 .refs = _ ∧ val3 .snaps = _) := ⟨by rw [hz3] at hO3; exact hO3, g0, g1, g2, g3⟩
  have HB : Hid (Below w.heap.size w w3) := b4.trans (b5.mono (by omega))
  clear hO3 hT hT3 hD hcall g0 g1 g2 g3 b5 b4 b3 b1 b1' hbw hO q0 q1 q2 q3
  go_wp2_with fail
  refine leaves_cons (f := 68) (args := #[.pointer (some ⟨w.heap.size + 1 + 1, 0, none⟩)]) (by simp) (by simp [go_sem]) ?_
  refine (catch_idle ⟨w.heap.size + 1 + 1, 0, none⟩ _).mono ?_
  rintro e u' w'' ⟨rfl, rfl, rfl⟩
  obtain ⟨hO, g0, g1, g2, g3⟩ := HO.out
  have b6 := HB.out
  have i1 : w.heap.size ≤ w.heap.size + 1 := Nat.le_succ _
  have i2 : w.heap.size ≤ w.heap.size + 1 + 1 := by omega
  have hf1 : ∀ a, Live (countedD M) a → (val3 a).ownBlock ≠ some (w.heap.size + 1) := fun a ha e => by have := ((hO.row a ha).lt _ e).1; omega
  have hf2 : ∀ a, Live (countedD M) a → (val3 a).ownBlock ≠ some (w.heap.size + 1 + 1) := fun a ha e => by have := ((hO.row a ha).lt _ e).1; omega
  refine ⟨.tuple #[.agg #[.int .i64 M.guest, .slice ga (rowN (countedD M) .root) gc, .slice la (rowN (countedD M) .slots) lc, .slice oa (rowN (countedD M) .refs) oc, .slice ta (rowN (countedD M) .snaps) tc], .int .i64 0], ?_, val3, ?_, OI.mono ((((((hO.far hf1).far hf1).far hf1).far hf1).far hf1).far hf2) (by omega), ((((((b6.setCell i1 _).setCell i1 _).setCell i1 _).setCell i1 _).setCell i1 _).setCell i2 _)⟩
  · simp [results, Try.results31, go_sem, z0, z1, z2, z3, z4, ce]
  · unfold imgV
    rw [g0, g1, g2, g3]
    rfl
def ofM (o : Option ImgD) : ImgD := match o with | none => imgZ | some M => if shapeE M = 0 then countedD M else imgZ
def ofE (o : Option ImgD) : Int := match o with | none => 7 | some M => shapeE M
theorem of_is {w : World} {v : Value} {m : ImgD} {o : Option ImgD} {N : Nat} {caps : Array Value} (h : Img w v m) (hF : Fits m) (hN : ∀ (args : Array Value) (w : World), (callFunc N args).run Try.prog w = .ok (.enter N args) w) (ht : Turns w N caps m o) :
    Calls Try.prog 31 #[v, .func (.func N) #[] caps] w (AnsI w w.heap.size (ofM o) (ofE o)) := by
  have h' := h
  obtain ⟨ra, rc, sa, sc, fa, fc, na, nc, rfl, _⟩ := h.parts
  cases o with
  | none => exact of_full m ra _ rc sa _ sc fa _ fc na _ nc N caps w h' hF hN ht
  | some M =>
    unfold ofM ofE
    dsimp only
    by_cases hE : shapeE M = 0
    · rw [if_pos hE, hE]
      exact of_ok m M ra _ rc sa _ sc fa _ fc na _ nc N caps w h' hF hN ht hE
    · rw [if_neg hE]
      exact of_bad m M ra _ rc sa _ sc fa _ fc na _ nc N caps w h' hF hN ht _ rfl hE
end Go.Proofs.Ytehleeibgkpjmae
/- An image of right shape is not too wide to be copied. -/
namespace Go.Proofs.Ytehleeibgkpjmae
open Go.RowKit
set_option maxRecDepth 20000

theorem okD_len {s : SlotD} (h : okD s = true) : s.2.2.length ≤ 4 := by
  unfold okD slotOK at h
  split at h
  · simp at h; rw [h.2]; exact Nat.zero_le _
  · split at h
    · simp at h; rw [h.2]; exact Nat.zero_le _
    · split at h
      · simp at h; rw [ckE_len h.1]; exact Nat.le_refl _
      · cases h
theorem fits_of_shape {m : ImgD} (h : shapeE m = 0) : Fits m := by
  obtain ⟨h1, h2, h3, h4, h5, h6, h7⟩ := shapeE_zero h
  have hs := slotsE_parts h2
  have hR : ∀ s ∈ rootsOf m, s.2.2.length ≤ 5 := fun s hs => by
    have hg := List.all_eq_true.1 h5 s hs
    have hf := List.all_eq_true.1 h7 s hs
    unfold guestOK at hg
    unfold rootFit at hf
    simp only [Bool.and_eq_true, decide_eq_true_eq] at hg hf
    omega
  have hroot := hR (⟨#[]⟩, m.guest, m.root) List.mem_cons_self
  have hroot : m.root.length ≤ 5 := hroot
  have hr : room = 140737488355328 := room_is
  refine ⟨by omega, by omega, by omega, by omega, fun j hj => ?_, fun j hj => ?_⟩
  · have ok := slotsE_all h2 hj
    have e : m.slots.getD j default = m.slots[j] := by simp [List.getD, hj]
    rw [e]
    have : m.slots[j].2.2.length ≤ 4 := okD_len ok
    omega
  · have e : m.snaps.getD j default = m.snaps[j] := by simp [List.getD, hj]
    rw [e]
    have := hR m.snaps[j] (List.mem_cons_of_mem _ (List.getElem_mem hj))
    omega
end Go.Proofs.Ytehleeibgkpjmae
/- Contracts of mending: Repair and Leaks. -/
namespace Go.Proofs.Ytehleeibgkpjmae
open Go.RowKit Go.Shelf
set_option maxRecDepth 20000

theorem repair_turn (w : World) (m : ImgD) : Turns w 51 #[] m (some m) := by
  intro W D B val hb h1 h2 hK
  go_enter Try.func51, Try.ntmps51
  go_wp2
  go_end0
  exact ⟨val, rfl, DTo.refl hK nilV⟩
/-- What is answered, laid open. -/
theorem AnsI.open {w w' : World} {B : Nat} {m : ImgD} {err : Int} {r : Ending} (h : AnsI w B m err r w') : ∃ val ra rc sa sc fa fc na nc, r = .returned (.tuple #[.agg #[.int .i64 m.guest, .slice ra m.root.length rc, .slice sa m.slots.length sc, .slice fa m.refs.length fc, .slice na m.snaps.length nc], .int .i64 err]) ∧ OI w' B val m ∧ Below B w w' ∧ imgV m.guest val = .agg #[.int .i64 m.guest, .slice ra m.root.length rc, .slice sa m.slots.length sc, .slice fa m.refs.length fc, .slice na m.snaps.length nc] := by
  obtain ⟨val, rfl, hO, hb⟩ := h
  obtain ⟨ra, rc, e0, _⟩ := hO.forms .root (Live.root m)
  obtain ⟨sa, sc, e1, _⟩ := hO.forms .slots (Live.slots m)
  obtain ⟨fa, fc, e2, _⟩ := hO.forms .refs (Live.refs m)
  obtain ⟨na, nc, e3, _⟩ := hO.forms .snaps (Live.snaps m)
  have e : imgV m.guest val = .agg #[.int .i64 m.guest, .slice ra m.root.length rc, .slice sa m.slots.length sc, .slice fa m.refs.length fc, .slice na m.snaps.length nc] := by
    unfold imgV
    rw [e0, e1, e2, e3]
    rfl
  exact ⟨val, ra, rc, sa, sc, fa, fc, na, nc, by rw [e], hO, hb, e⟩

set_option maxHeartbeats 4000000 in
theorem repair_at (m : ImgD) (ra : Option Addr) (rn rc : Nat) (sa : Option Addr) (sn sc : Nat) (fa : Option Addr) (fn fc : Nat) (na : Option Addr) (nn nc : Nat) (w : World) (h : Img w (.agg #[.int .i64 m.guest, .slice ra rn rc, .slice sa sn sc, .slice fa fn fc, .slice na nn nc]) m) (hF : Fits m) :
    Calls Try.prog 20 #[.agg #[.int .i64 m.guest, .slice ra rn rc, .slice sa sn sc, .slice fa fn fc, .slice na nn nc]] w (AnsI w w.heap.size (ofM (some m)) (ofE (some m))) := by
  have b0 : Below w.heap.size w ((w.alloc (.cells #[.int .i64 m.guest, .slice ra rn rc, .slice sa sn sc, .slice fa fn fc, .slice na nn nc] 26)).alloc (.cells #[.int .i64 0, .slice none 0 0, .slice none 0 0, .slice none 0 0, .slice none 0 0] 26)) := ((Below.refl _ _).alloc (Nat.le_refl _) _).alloc (by simp) _
  have m0 : ((w.alloc (.cells #[.int .i64 m.guest, .slice ra rn rc, .slice sa sn sc, .slice fa fn fc, .slice na nn nc] 26)).alloc (.cells #[.int .i64 0, .slice none 0 0, .slice none 0 0, .slice none 0 0, .slice none 0 0] 26)).heap[w.heap.size]? = some (.cells #[.int .i64 m.guest, .slice ra rn rc, .slice sa sn sc, .slice fa fn fc, .slice na nn nc] 26) := cells_alloc (World.alloc_heap_new _ _) _
  have m1 : ((w.alloc (.cells #[.int .i64 m.guest, .slice ra rn rc, .slice sa sn sc, .slice fa fn fc, .slice na nn nc] 26)).alloc (.cells #[.int .i64 0, .slice none 0 0, .slice none 0 0, .slice none 0 0, .slice none 0 0] 26)).heap[w.heap.size + 1]? = some (.cells #[.int .i64 0, .slice none 0 0, .slice none 0 0, .slice none 0 0, .slice none 0 0] 26) := by have := World.alloc_heap_new (w.alloc (.cells #[.int .i64 m.guest, .slice ra rn rc, .slice sa sn sc, .slice fa fn fc, .slice na nn nc] 26)) (.cells #[.int .i64 0, .slice none 0 0, .slice none 0 0, .slice none 0 0, .slice none 0 0] 26); simpa using this
  have hz2 : ((w.alloc (.cells #[.int .i64 m.guest, .slice ra rn rc, .slice sa sn sc, .slice fa fn fc, .slice na nn nc] 26)).alloc (.cells #[.int .i64 0, .slice none 0 0, .slice none 0 0, .slice none 0 0, .slice none 0 0] 26)).heap.size = w.heap.size + 1 + 1 := by simp
  obtain ⟨c0, c1, c2, c3, c4⟩ := five m0
  have hof := of_is (h.below b0) hF (enters_of Try.func51 (by kernel_rfl) rfl) (repair_turn ((w.alloc (.cells #[.int .i64 m.guest, .slice ra rn rc, .slice sa sn sc, .slice fa fn fc, .slice na nn nc] 26)).alloc (.cells #[.int .i64 0, .slice none 0 0, .slice none 0 0, .slice none 0 0, .slice none 0 0] 26)) m)
  go_enter Try.func20, Try.ntmps20
  go_wp2_with fail
  refine hof.mono ?_
  intro e w1 hA
  obtain ⟨val, ga, gc, la, lc, oa, oc, ta, tc, rfl, hO, b1, hI⟩ := hA.open
  dsimp only
  have k1 := cells_below m1 b1 (by rw [hz2]; omega)
  obtain ⟨z0, z1, z2, z3, z4⟩ := five k1
  have y0 := cells_frozen k1 0
  have y1 := cells_frozen k1 1
  have y2 := cells_frozen k1 2
  have y3 := cells_frozen k1 3
  have y4 := cells_frozen k1 4
  have HO : Hid (OI w1 (w.heap.size + 1 + 1) val (ofM (some m))) := by rw [hz2] at hO; exact hO
  have HB : Hid (Below w.heap.size w w1) := Below.on b0 b1
  have HI : Hid (imgV (ofM (some m)).guest val = .agg #[.int .i64 (ofM (some m)).guest, .slice ga (ofM (some m)).root.length gc, .slice la (ofM (some m)).slots.length lc, .slice oa (ofM (some m)).refs.length oc, .slice ta (ofM (some m)).snaps.length tc]) := hI
  clear hO b1 hI hof hA
  go_wp2_with fail
  have i1 : w.heap.size ≤ w.heap.size + 1 := Nat.le_succ _
  have hf1 : ∀ a, Live (ofM (some m)) a → (val a).ownBlock ≠ some (w.heap.size + 1) := fun a ha e => by have := ((HO.out.row a ha).lt _ e).1; omega
  refine bodyPost_ret (v := .tuple #[.agg #[.int .i64 (ofM (some m)).guest, .slice ga (ofM (some m)).root.length gc, .slice la (ofM (some m)).slots.length lc, .slice oa (ofM (some m)).refs.length oc, .slice ta (ofM (some m)).snaps.length tc], .int .i64 (ofE (some m))]) (by simp [results, Try.results20, go_sem, z0, z1, z2, z3, z4]) rfl ⟨val, by rw [HI.out], OI.mono (((((HO.out.far hf1).far hf1).far hf1).far hf1).far hf1) (by omega), ((((HB.out.setCell i1 _).setCell i1 _).setCell i1 _).setCell i1 _).setCell i1 _⟩
theorem repair_is {w : World} {v : Value} {m : ImgD} (h : Img w v m) (hF : Fits m) : Calls Try.prog 20 #[v] w (AnsI w w.heap.size (ofM (some m)) (ofE (some m))) := by
  have h' := h
  obtain ⟨ra, rc, sa, sc, fa, fc, na, nc, rfl, _⟩ := h.parts
  exact repair_at m ra _ rc sa _ sc fa _ fc na _ nc w h' hF
theorem repair_ok {w : World} {v : Value} {m M : ImgD} (h : Img w v m) (hF : Fits m) (hE : shapeE m = 0) (hM : countedD m = M) : Calls Try.prog 20 #[v] w (AnsI w w.heap.size M 0) := by
  have := repair_is h hF
  unfold ofM ofE at this
  dsimp only at this
  rw [if_pos hE, hE, hM] at this
  exact this
theorem repair_bad {w : World} {v : Value} {m : ImgD} (h : Img w v m) (hF : Fits m) {E : Int} (hE : shapeE m = E) (hne : E ≠ 0) : Calls Try.prog 20 #[v] w (AnsI w w.heap.size imgZ E) := by
  have := repair_is h hF
  unfold ofM ofE at this
  dsimp only at this
  rw [if_neg (by rw [hE]; exact hne), hE] at this
  exact this

/-! ### Leaks -/
def leakP (L : List SlotD) (c : List Int) (k : Nat) : Nat := (List.range k).countP (fun j => (L.getD j default).1 != 0 && c.getD j 0 == 0)
def leakN (L : List SlotD) (c : List Int) : Nat := leakP L c L.length
theorem leakP_succ (L : List SlotD) (c : List Int) (k : Nat) : leakP L c (k + 1) = leakP L c k + if ((L.getD k default).1 != 0 && c.getD k 0 == 0) = true then 1 else 0 := by
  unfold leakP
  rw [List.range_succ, List.countP_append]
  simp [List.countP_cons]
theorem countP_part (p q : Nat → Bool) : ∀ l : List Nat, l.countP (fun j => !q j && p j) + l.countP (fun j => p j && q j) = l.countP p
  | [] => rfl
  | x :: l => by
    have ih := countP_part p q l
    rw [List.countP_cons, List.countP_cons, List.countP_cons]
    cases p x <;> cases q x <;> simp <;> omega
theorem used_range (L : List SlotD) : usedN L = (List.range L.length).countP (fun j => (L.getD j default).1 != 0) := by
  unfold usedN
  have hl : L = (List.range L.length).map (fun j => L.getD j default) := by
    apply List.ext_getElem
    · simp
    · intro j h1 h2; simp [List.getD, h1]
  conv => lhs; rw [hl]
  rw [List.countP_map]
  rfl
theorem used_leak (L : List SlotD) (c : List Int) : usedN (freeUn L c) + leakN L c = usedN L := by
  rw [used_range, used_range L, freeUn_length]
  unfold leakN leakP
  rw [← countP_part (fun j => (L.getD j default).1 != 0) (fun j => c.getD j 0 == 0) (List.range L.length)]
  congr 1
  refine List.countP_congr fun j hj => ?_
  have hj := List.mem_range.1 hj
  rw [freeUn_get hj]
  by_cases e : c.getD j 0 = 0
  · rw [if_pos e]
    have e2 : (c.getD j 0 == 0) = true := by rw [e]; rfl
    simp only [e2]; simp [slotZ]
  · rw [if_neg e]
    have e2 : (c.getD j 0 == 0) = false := by simpa using e
    simp only [e2]; simp
theorem leak_none {m : ImgD} (hC : checkE m = 0) : leakN m.slots (cntL m) = 0 := by
  have h := used_leak m.slots (cntL m)
  have e : (countedD m).slots = m.slots := by rw [counted_same hC]
  have e : freeUn m.slots (cntL m) = m.slots := e
  rw [e] at h
  omega

set_option maxHeartbeats 4000000 in
theorem leaks_err (m : ImgD) (E : Int) (ra : Option Addr) (rn rc : Nat) (sa : Option Addr) (sn sc : Nat) (fa : Option Addr) (fn fc : Nat) (na : Option Addr) (nn nc : Nat) (w : World) (h : Img w (.agg #[.int .i64 m.guest, .slice ra rn rc, .slice sa sn sc, .slice fa fn fc, .slice na nn nc]) m) (hE : shapeE m = E) (hne : (E != 0) = true) :
    Calls Try.prog 19 #[.agg #[.int .i64 m.guest, .slice ra rn rc, .slice sa sn sc, .slice fa fn fc, .slice na nn nc]] w fun r w' => r = .returned (.tuple #[.int .i64 0, .int .i64 E]) ∧ Below w.heap.size w w' := by
  have b0 : Below w.heap.size w (w.alloc (.cells #[.int .i64 m.guest, .slice ra rn rc, .slice sa sn sc, .slice fa fn fc, .slice na nn nc] 26)) := (Below.refl _ _).alloc (Nat.le_refl _) _
  have m0 : (w.alloc (.cells #[.int .i64 m.guest, .slice ra rn rc, .slice sa sn sc, .slice fa fn fc, .slice na nn nc] 26)).heap[w.heap.size]? = some (.cells #[.int .i64 m.guest, .slice ra rn rc, .slice sa sn sc, .slice fa fn fc, .slice na nn nc] 26) := World.alloc_heap_new _ _
  obtain ⟨c0, c1, c2, c3, c4⟩ := five m0
  have hcall := counts_err (h.below b0) hE hne
  clear h hE
  go_enter Try.func19, Try.ntmps19
  go_wp2_with (go_at_call 40; refine hcall.mono ?_; rintro e w1 ⟨rfl, b1⟩)
  go_ret2
  exact ⟨rfl, Below.on b0 b1⟩

set_option maxHeartbeats 4000000 in
theorem leaks_at (m : ImgD) (ra : Option Addr) (rn rc : Nat) (b off n sc : Nat) (fa : Option Addr) (fn fc : Nat) (na : Option Addr) (nn nc : Nat) (w : World) (h : Img w (.agg #[.int .i64 m.guest, .slice ra rn rc, .slice (some ⟨b, off, none⟩) n sc, .slice fa fn fc, .slice na nn nc]) m) (hE : shapeE m = 0) (hn : m.slots.length = n) (hlt : b < w.heap.size) (hc : ∀ j, (h : j < m.slots.length) → SlAt w b (off + j * 3) m.slots[j]) :
    Calls Try.prog 19 #[.agg #[.int .i64 m.guest, .slice ra rn rc, .slice (some ⟨b, off, none⟩) n sc, .slice fa fn fc, .slice na nn nc]] w fun r w' => r = .returned (.tuple #[.int .i64 (leakN m.slots (cntL m)), .int .i64 0]) ∧ Below w.heap.size w w' := by
  have b0 : Below w.heap.size w (w.alloc (.cells #[.int .i64 m.guest, .slice ra rn rc, .slice (some ⟨b, off, none⟩) n sc, .slice fa fn fc, .slice na nn nc] 26)) := (Below.refl _ _).alloc (Nat.le_refl _) _
  have m0 : (w.alloc (.cells #[.int .i64 m.guest, .slice ra rn rc, .slice (some ⟨b, off, none⟩) n sc, .slice fa fn fc, .slice na nn nc] 26)).heap[w.heap.size]? = some (.cells #[.int .i64 m.guest, .slice ra rn rc, .slice (some ⟨b, off, none⟩) n sc, .slice fa fn fc, .slice na nn nc] 26) := World.alloc_heap_new _ _
  obtain ⟨c0, c1, c2, c3, c4⟩ := five m0
  have h40 : n ≤ 40 := by rw [← hn]; exact (slotsE_parts (shapeE_zero hE).2.1).2
  have hcall := counts_own (h.below b0) hE
  rw [hn] at hcall
  have HC : Hid (∀ j, (h : j < m.slots.length) → SlAt w b (off + j * 3) m.slots[j]) := hc
  have HN : Hid (m.slots.length = n) := hn
  have HL : Hid ((cntL m).length = n) := by rw [← hn]; exact cntL_length m
  clear h hE hc hn
  go_enter Try.func19, Try.ntmps19
  go_wp2_with (go_at_call 40; refine hcall.mono ?_; rintro e w1 ⟨⟨q, hq, rfl, hL⟩, b1⟩; have m1 := cells_below m0 b1 (by simp); obtain ⟨d0, d1, d2, d3, d4⟩ := five m1)
  have HB : Hid (LAt w1 q (cntL m) ∧ Below w.heap.size w w1) := ⟨hL, Below.on b0 b1⟩
  clear hL hq hcall b1 m0 m1 c0 c1 c2 c3 c4 d0 d1 d2 d3 d4 b0
  go_loopw [6, 20] (fun x i wr => ∃ k u : Nat, k ≤ n ∧ u ≤ k ∧ i = .int .i64 k ∧ x = .int .i64 u ∧ Hid (u = leakP m.slots (cntL m) k) ∧ Hid (LAt wr q (cntL m) ∧ Below w.heap.size w wr)) (fun _ i _ => n - (intOf i).toNat)
  case atStart => exact ⟨0, 0, by omega, by omega, rfl, rfl, rfl, HB⟩
  case round =>
    obtain ⟨k, u, hk, hu, rfl, rfl, HU, HW⟩ := hrel
    by_cases hlk : k < n
    · obtain ⟨s, hs'⟩ : ∃ s, s = m.slots[k]'(by rw [HN.out]; exact hlk) := ⟨_, rfl⟩
      obtain ⟨kk, dd, tt⟩ := s
      have hS : SlAt w b (off + k * 3) (kk, dd, tt) := by rw [hs']; exact HC.out k _
      have hgd : m.slots.getD k default = (kk, dd, tt) := by rw [hs']; simp [List.getD, show k < m.slots.length by rw [HN.out]; exact hlk]
      obtain ⟨tv, c1, c2, c3, hsl⟩ := hS
      obtain ⟨ta, tc, htv⟩ := hsl.form
      subst htv
      have hbel := HW.out.2
      have c1 : wr.cell? ⟨b, off + k * 3, none⟩ = some (.int .i64 kk) := (hbel.cell (p := ⟨b, off + k * 3, none⟩) hlt).trans c1
      have c2 : wr.cell? ⟨b, off + k * 3 + 1, none⟩ = some (.string dd) := (hbel.cell (p := ⟨b, off + k * 3 + 1, none⟩) hlt).trans c2
      have c3 : wr.cell? ⟨b, off + k * 3 + 1 + 1, none⟩ = some (.slice ta tt.length tc) := (hbel.cell (p := ⟨b, off + k * 3 + 1 + 1, none⟩) hlt).trans c3
      obtain ⟨x, hx⟩ : ∃ x, (cntL m).getD k 0 = x := ⟨_, rfl⟩
      have hLn : LAt (wr.alloc (.cells #[.int .i64 kk, .string dd, .slice ta tt.length tc] 72)) q (cntL m) := cells_alloc HW.out.1 _
      have cx := hLn.cell (j := k) (by rw [HL.out]; exact hlk)
      rw [hx] at cx
      have ms := World.alloc_heap_new wr (.cells #[.int .i64 kk, .string dd, .slice ta tt.length tc] 72)
      obtain ⟨y0, y1, y2⟩ := three ms
      have hstep := leakP_succ m.slots (cntL m) k
      rw [hgd, hx] at hstep
      have HT : Hid (leakP m.slots (cntL m) (k + 1) = leakP m.slots (cntL m) k + if (kk != 0 && x == 0) = true then 1 else 0) := hstep
      have HA : Hid (LAt (wr.alloc (.cells #[.int .i64 kk, .string dd, .slice ta tt.length tc] 72)) q (cntL m) ∧ Below w.heap.size w (wr.alloc (.cells #[.int .i64 kk, .string dd, .slice ta tt.length tc] 72))) := ⟨hLn, hbel.alloc hbel.size _⟩
      have hki : (k : Int) < (n : Int) := by omega
      clear hs' hsl hstep hgd hx hLn ms hbel
      by_cases h0 : kk = 0
      · have h0' : (kk != 0) = false := by simp [h0]
        have H0 : Hid (kk = 0) := h0
        clear h0
        go_wp2_with fail
        go_roundw
        case rel => exact ⟨k + 1, u, by omega, by omega, by go_num, rfl, by show _ = _; rw [HT.out, ← HU.out, h0']; rfl, HA⟩
        case measure => simp [intOf]; omega
      · have h0' : (kk != 0) = true := by simp [h0]
        by_cases hx0 : x = 0
        · have hx' : (x == 0) = true := by simp [hx0]
          have HX0 : Hid (x = 0) := hx0
          clear hx0
          go_wp2_with fail
          go_roundw
          case rel => exact ⟨k + 1, u + 1, by omega, by omega, by go_num, by go_num, by show _ = _; rw [HT.out, ← HU.out, h0', hx']; rfl, HA⟩
          case measure => simp [intOf]; omega
        · have hx' : (x == 0) = false := by simp [hx0]
          go_wp2_with fail
          go_roundw
          case rel => exact ⟨k + 1, u, by omega, by omega, by go_num, rfl, by show _ = _; rw [HT.out, ← HU.out, h0', hx']; rfl, HA⟩
          case measure => simp [intOf]; omega
    · have e4 : k = n := by omega
      subst e4
      have HU' : Hid (u = leakN m.slots (cntL m)) := by show _ = _; unfold leakN; rw [HU.out, HN.out]
      have hbel := HW.out.2
      clear HU
      go_wp2_with fail
      go_ret2
      exact ⟨by rw [← HU'.out]; rfl, hbel⟩
def leaksA (m : ImgD) : Nat := if shapeE m = 0 then leakN m.slots (cntL m) else 0
theorem leaks_is {w : World} {v : Value} {m : ImgD} (h : Img w v m) {E : Int} (hE : shapeE m = E) {u : Nat} (hu : leaksA m = u) : Calls Try.prog 19 #[v] w fun r w' => r = .returned (.tuple #[.int .i64 (u : Int), .int .i64 E]) ∧ Below w.heap.size w w' := by
  subst hE hu
  have h' := h
  obtain ⟨ra, rc, sa, sc, fa, fc, na, nc, rfl, h1, h2, h3, h4⟩ := h.parts
  unfold leaksA
  by_cases h0 : shapeE m = 0
  · rw [if_pos h0, h0]
    obtain ⟨b, off, cap, e, hcp, hlt, hcell⟩ := h2.open (slotsE_parts (shapeE_zero h0).2.1).1
    simp at e
    obtain ⟨rfl, rfl⟩ := e
    exact leaks_at m ra _ rc b off _ _ fa _ fc na _ nc w h' h0 rfl hlt hcell
  · rw [if_neg h0]
    exact leaks_err m _ ra _ rc sa _ sc fa _ fc na _ nc w h' rfl (by simpa using h0)
end Go.Proofs.Ytehleeibgkpjmae
/- Contracts of the document's CheckImage, look, LookError, LookOf. -/
namespace Go.Proofs.Ytehleeibgkpjmae
open Go.RowKit Go.Shelf
theorem lookR_hole (gm : Int) (ra : Option Addr) (rn rc : Nat) (sa : Option Addr) (sn sc : Nat) (fa : Option Addr) (fn fc : Nat) (na : Option Addr) (nn nc : Nat) (qb qo qn qc n : Nat) (w : World) (hn : n < 16) (hqn : n / 4 < qn) (hqb : qb < w.heap.size) (hc : w.cell? ⟨qb, qo + n / 4, none⟩ = some (.int .i64 0)) :
    Calls Try.prog 88 #[.agg #[.int .i64 gm, .slice ra rn rc, .slice sa sn sc, .slice fa fn fc, .slice na nn nc], .slice (some ⟨qb, qo, none⟩) qn qc, .int .i64 n] w fun r w' => r = .returned (.int .i64 0) ∧ Below w.heap.size w w' := by
  have b0 : Below w.heap.size w (w.alloc (.cells #[.int .i64 gm, .slice ra rn rc, .slice sa sn sc, .slice fa fn fc, .slice na nn nc] 26)) := (Below.refl _ _).alloc (Nat.le_refl _) _
  have cr := (b0.cell (p := ⟨qb, qo + n / 4, none⟩) hqb).trans hc
  have hq : ((n : Int) / 4).toNat = n / 4 := by omega
  go_enter Try.func88, Try.ntmps88
  go_wp2_with fail
  go_ret
  exact ⟨rfl, b0⟩
theorem lookR_tab (gm : Int) (ra : Option Addr) (rn rc : Nat) (sb so : Nat) (sn sc : Nat) (fa : Option Addr) (fn fc : Nat) (na : Option Addr) (nn nc : Nat) (qb qo qn qc n : Nat) (t : Nat) (x : Int) (w : World) (hn : n < 16) (hqn : n / 4 < qn) (hqb : qb < w.heap.size) (hc : w.cell? ⟨qb, qo + n / 4, none⟩ = some (.int .i64 t)) (ht : 0 < t) (hts : t < sn) (hsb : sb < w.heap.size)
    (tb tw tc : Nat) (hct : w.cell? ⟨sb, so + t * 3 + 2, none⟩ = some (.slice (some ⟨tb, tw, none⟩) 4 tc)) (htb : tb < w.heap.size) (hx : w.cell? ⟨tb, tw + n % 4, none⟩ = some (.int .i64 x)) :
    Calls Try.prog 88 #[.agg #[.int .i64 gm, .slice ra rn rc, .slice (some ⟨sb, so, none⟩) sn sc, .slice fa fn fc, .slice na nn nc], .slice (some ⟨qb, qo, none⟩) qn qc, .int .i64 n] w fun r w' => r = .returned (.int .i64 x) ∧ Below w.heap.size w w' := by
  have b0 : Below w.heap.size w (w.alloc (.cells #[.int .i64 gm, .slice ra rn rc, .slice (some ⟨sb, so, none⟩) sn sc, .slice fa fn fc, .slice na nn nc] 26)) := (Below.refl _ _).alloc (Nat.le_refl _) _
  have cr := (b0.cell (p := ⟨qb, qo + n / 4, none⟩) hqb).trans hc
  have ct := (b0.cell (p := ⟨sb, so + t * 3 + 2, none⟩) hsb).trans hct
  have cx := (b0.cell (p := ⟨tb, tw + n % 4, none⟩) htb).trans hx
  have hq : ((n : Int) / 4).toNat = n / 4 := by omega
  have hq2 : ((n : Int) % 4).toNat = n % 4 := by omega
  have hne : ((t : Int) == 0) = false := by simp; omega
  have h4 : n % 4 < 4 := by omega
  go_enter Try.func88, Try.ntmps88
  go_wp2_with fail
  go_ret
  exact ⟨rfl, b0⟩
/-- The entry of page n of a Root that fits. -/
theorem lookR_is {w : World} {v rv : Value} {m : ImgD} {root : List Int} (h : Img w v m) (hr : Sl w rv root) (hs : slotsE m.slots = 0) (hall : root.all (rootE m.slots) = true) (n : Nat) (hn : n < 16) (hl : n / 4 < root.length) {c : Int} (hc : lookV m root n = c) :
    Calls Try.prog 88 #[v, rv, .int .i64 n] w fun r w' => r = .returned (.int .i64 c) ∧ Below w.heap.size w w' := by
  obtain ⟨ra, rc, sa, sc, fa, fc, na, nc, rfl, h1, h2, h3, h4⟩ := h.parts
  have hE2 := all_at hall hl
  obtain ⟨rb, ro, qc, rfl, _, hrb, hcell⟩ := hr.open (by omega)
  have hcr := hcell (n / 4) hl
  unfold lookV at hc
  by_cases hz : root.getD (n / 4) 0 = 0
  · rw [if_pos hz] at hc
    subst hc
    rw [hz] at hcr
    exact lookR_hole m.guest ra _ rc sa _ sc fa _ fc na _ nc rb ro _ qc n w hn hl hrb hcr
  · rw [if_neg hz] at hc
    rw [rootE_x hz] at hE2
    obtain ⟨t, ht, htl, hkd⟩ := isKd_yes hE2
    have hok := okD_tab (slotsE_all hs htl) hkd
    obtain ⟨sb, so, sc', e, _, hsb, hcl⟩ := h2.open (by omega)
    simp at e
    obtain ⟨rfl, rfl⟩ := e
    obtain ⟨tv, _, _, c3, hsl⟩ := hcl t htl
    obtain ⟨tb, tw, tc, rfl, _, htb, htc⟩ := hsl.four hok.1
    rw [ht] at hcr hc hz
    have e4 : tabOf m.slots (t : Int) = m.slots[t].2.2 := by unfold tabOf; simp [List.getD, htl]
    rw [e4] at hc
    have hx := htc (n % 4) (by omega)
    rw [hc] at hx
    exact lookR_tab m.guest ra _ rc sb so _ sc fa _ fc na _ nc rb ro _ qc n t c w hn hl hrb hcr (by omega) htl hsb tb tw tc c3 htb hx

theorem lookOf_at (gm : Int) (ra : Option Addr) (rn rc : Nat) (sa : Option Addr) (sn sc : Nat) (fa : Option Addr) (fn fc : Nat) (na : Option Addr) (nn nc : Nat) (m : ImgD) (n : Nat) (c : Int) (w : World) (h : Img w (.agg #[.int .i64 gm, .slice ra rn rc, .slice sa sn sc, .slice fa fn fc, .slice na nn nc]) m) (hr : Sl w (.slice ra rn rc) m.root) (hs : slotsE m.slots = 0) (hall : m.root.all (rootE m.slots) = true) (hn : n < 16) (hl : n / 4 < m.root.length) (hc : lookV m m.root n = c) :
    Calls Try.prog 62 #[.agg #[.int .i64 gm, .slice ra rn rc, .slice sa sn sc, .slice fa fn fc, .slice na nn nc], .int .i64 n] w fun r w' => r = .returned (.int .i64 c) ∧ Below w.heap.size w w' := by
  have b0 : Below w.heap.size w (w.alloc (.cells #[.int .i64 gm, .slice ra rn rc, .slice sa sn sc, .slice fa fn fc, .slice na nn nc] 26)) := (Below.refl _ _).alloc (Nat.le_refl _) _
  have hcall := lookR_is (h.below b0) (hr.below b0) hs hall n hn hl hc
  clear h hr hs hall hc hl
  go_enter Try.func62, Try.ntmps62
  go_wp2_with (go_at_call 88; refine hcall.mono ?_; rintro e w1 ⟨rfl, b1⟩)
  go_ret
  exact ⟨rfl, Below.on b0 b1⟩
theorem lookOf_is {w : World} {v : Value} {m : ImgD} (h : Img w v m) (n : Int) (hE : lookE m n = 0) {c : Int} (hc : lookV m m.root n.toNat = c) :
    Calls Try.prog 62 #[v, .int .i64 n] w fun r w' => r = .returned (.int .i64 c) ∧ Below w.heap.size w w' := by
  have h' := h
  obtain ⟨ra, rc, sa, sc, fa, fc, na, nc, rfl, h1, h2, h3, h4⟩ := h.parts
  unfold lookE at hE
  split at hE
  · rename_i h0; exact absurd hE h0
  rename_i h0
  have h0 : checkE m = 0 := Classical.not_not.1 h0
  split at hE
  · rename_i hn
    have hsh := checkE_shape h0
    have hg := guest_ok hsh
    have hro := root_ok hsh
    obtain ⟨k, rfl⟩ : ∃ k : Nat, n = k := ⟨n.toNat, by omega⟩
    rw [Int.toNat_natCast] at hc
    exact lookOf_at m.guest ra _ rc sa _ sc fa _ fc na _ nc m k c w h' h1 (shapeE_zero hsh).2.1 hro.2 (by omega) (by omega) hc
  · simp at hE
end Go.Proofs.Ytehleeibgkpjmae
