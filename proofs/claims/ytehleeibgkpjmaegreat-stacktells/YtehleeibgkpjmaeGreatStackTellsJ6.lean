/- Texts joined: ClnI, ClnS, Cted, ExtP, Grab, WrP, WrQ, WrR, WrA, LayI, TabI, CtdI. -/
import Derived.Test.YtehleeibgkpjmaeGreatStackTellsJ5
import Derived.Lib.SliceRun
import Derived.Test.YtehleeibgkpjmaeGreatStackTellsJ1
import Derived.Test.YtehleeibgkpjmaeGreatStackTellsJ4
import Derived.Test.YtehleeibgkpjmaeGreatStackTellsJ3
namespace Go.Proofs.YtehleeibgkpjmaeGreat
open Go.RowKit Go.Shelf
set_option maxRecDepth 20000
theorem ints_mem {xs : List Int} : ∀ u ∈ ints xs, u.oneCell' = true := ints_oneCell .i64 xs
theorem sl_form1 {W : World} {v : Value} {xs : List Int} (h : Sl W v xs) : v.oneCell' = true := by obtain ⟨ao, cap, rfl, _⟩ := h; rfl
theorem flatS_mem {L : List SlotD} {tv : Nat → Value} (h : ∀ j, j < L.length → (tv j).oneCell' = true) : ∀ u ∈ flatS L tv, u.oneCell' = true := fun u hu => by
 unfold flatS at hu
 rw [List.mem_flatMap] at hu
 obtain ⟨j, hj, hu⟩ := hu
 rw [List.mem_range] at hj
 simp only [List.mem_cons, List.not_mem_nil, or_false] at hu
 rcases hu with rfl | rfl | rfl
 ·rfl
 ·rfl
 ·exact h j hj
theorem flatN_mem {L : List SnapD} {tv : Nat → Value} (h : ∀ j, j < L.length → (tv j).oneCell' = true) : ∀ u ∈ flatN L tv, u.oneCell' = true := fun u hu => by
 unfold flatN at hu
 rw [List.mem_flatMap] at hu
 obtain ⟨j, hj, hu⟩ := hu
 rw [List.mem_range] at hj
 simp only [List.mem_cons, List.not_mem_nil, or_false] at hu
 rcases hu with rfl | rfl | rfl
 ·rfl
 ·rfl
 ·exact h j hj
def room : Nat := 140737488355328
theorem room_is : room = 140737488355328 := rfl
theorem maxLen_of_room {n b : Nat} (hb : 0 < b) (h : n * b ≤ room) : n ≤ maxLen := by
 have := Nat.le_trans (Nat.le_mul_of_pos_right n hb) h
 rw [room_is] at this
 unfold maxLen
 omega
theorem clnI_nil (n c : Nat) (w : World) : Calls Tryz.prog 78 #[.slice none n c] w fun r w' => r = .returned (.slice none 0 0) ∧ w' = w := by
 have q22 : ∀ (w : World) (a : Option Addr) (n c n' c' : Nat), (binOp .eql 23 (.slice a n c) (.slice none n' c')).run Tryz.prog w = .ok (.bool a.isNone) w := fun w a n c n' c' => Lib.run_eql_slice_nil w _ _ a n c n' c' Tryz.underlying23
 go_enter Tryz.func78, Tryz.ntmps78
 go_wp2
 go_ret
 exact ⟨rfl, rfl⟩
set_option maxHeartbeats 1000000 in
theorem clnI_at (a : Addr) (n c : Nat) (news : List Value) (w : World) (hl : news.length = n * 1) (hbig : n * 8 ≤ room) (hc : ∀ j u, news[j]? = some u → w.cell? (a.add j) = some u) (h1 : ∀ u ∈ news, u.oneCell' = true) :
  Calls Tryz.prog 78 #[.slice (some a) n c] w fun r w' => ∃ v', r = .returned v' ∧ w'.ownsRow w.heap.size 3 1 v' n news ∧ Below w.heap.size w w' := by
 have q22 : ∀ (w : World) (a : Option Addr) (n c n' c' : Nat), (binOp .eql 23 (.slice a n c) (.slice none n' c')).run Tryz.prog w = .ok (.bool a.isNone) w := fun w a n c n' c' => Lib.run_eql_slice_nil w _ _ a n c n' c' Tryz.underlying23
 obtain ⟨i0, hi, hz0, hz1, hz2⟩ := info_parts info3
 have A : Hid ((∀ j u, news[j]? = some u → w.cell? (a.add j) = some u) ∧ news.length = n * 1 ∧ n * 8 ≤ room ∧ (∀ u ∈ news, u.oneCell' = true) ∧ Tryz.prog.info? 3 = some i0 ∧ i0.zero = some (.int .i64 0) ∧ i0.size = 1 ∧ i0.bytes = 8) := ⟨hc, hl, hbig, h1, hi, hz0, hz1, hz2⟩
 clear hc hl hbig h1 hi hz0 hz1 hz2
 go_enter Tryz.func78, Tryz.ntmps78
 go_wp2_with (at_builtin; refine wpList_append_own _ rfl _ _ 23 rfl w.heap.size 3 i0 (.int .i64 0) 1 8 Tryz.underlying23 A.out.2.2.2.2.1 A.out.2.2.2.2.2.1 A.out.2.2.2.2.2.2.1 A.out.2.2.2.2.2.2.2 rfl (by decide) _ _ _ rfl (World.ownsRow_made w #[] 0 (Nat.le_refl _) (Nat.zero_le _) (by simp)) a n c news rfl A.out.2.1 ?qc2 A.out.2.2.2.1 ?qc4 ?qc5 ?qc6 ?_)
 case qc2 =>
  intro j u hj
  exact Lib.cell?_alloc_some _ (A.out.1 j u hj)
 case qc4 => rw [Nat.zero_add]; exact maxLen_of_room (by decide) A.out.2.2.1
 case qc5 => rw [Nat.zero_add]; exact A.out.2.2.1
 case qc6 => simp
 intro v' w1 hown hgrow hnil
 have HO : Hid (w1.ownsRow w.heap.size 3 1 v' n news) := hown
 have HG : Hid (Below w.heap.size w w1) := ((Below.refl _ w).alloc (Nat.le_refl _) _).grown hgrow (by simp) (by intro k hk; simp [Value.ownBlock] at hk; omega)
 clear hown hgrow hnil
 go_wp2
 go_ret
 exact ⟨v', rfl, HO.out, HG.out⟩
theorem clone_ints {w : World} {v : Value} {xs : List Int} (h : Sl w v xs) (hb : xs.length * 8 ≤ room) :
  Calls Tryz.prog 78 #[v] w fun r w' => ∃ v', r = .returned v' ∧ w'.ownsRow w.heap.size 3 1 v' xs.length (ints xs) ∧ Below w.heap.size w w' := by
 obtain ⟨ao, cap, rfl, hm, hcp, hc⟩ := h
 cases ao with
 | none =>
  have hx : xs = [] := Classical.byContradiction fun hne => by obtain ⟨_, _, e, _⟩ := hc hne; cases e
  subst hx
  refine (clnI_nil _ _ w).mono ?_
  rintro e w' ⟨rfl, rfl⟩
  exact ⟨_, rfl, World.ownsRow_nil _ _ _ _, Below.refl _ _⟩
 | some a =>
  refine clnI_at a xs.length cap (ints xs) w (by rw [ints_length]; omega) hb (fun j u hu => ?_) ints_mem
  have hj : j < xs.length := by
   rcases Nat.lt_or_ge j xs.length with h | h
   ·exact h
   ·rw [List.getElem?_eq_none (by rw [ints_length]; exact h)] at hu; cases hu
  obtain ⟨b, off, e, _, hcell⟩ := hc (by intro e; rw [e] at hj; simp at hj)
  simp only [Option.some.injEq] at e
  subst e
  rw [addr_add, hcell j hj]
  unfold ints at hu
  rw [List.getElem?_map, List.getElem?_eq_getElem hj] at hu
  simp at hu
  simp [List.getD, hj, hu]
abbrev nilS : Value := .slice none 0 0
theorem choose_ltV {p : Nat → Value → Prop} {n : Nat} (h : ∀ i, i < n → ∃ s, p i s) : ∃ f : Nat → Value, ∀ i, i < n → p i (f i) :=
 ⟨fun i => if hi : i < n then (h i hi).choose else .slice none 0 0, fun i hi => by simp only [dif_pos hi]; exact (h i hi).choose_spec⟩
theorem clnS_nil (n c : Nat) (w : World) : Calls Tryz.prog 79 #[.slice none n c] w fun r w' => r = .returned (.slice none 0 0) ∧ w' = w := by
 have q22 : ∀ (w : World) (a : Option Addr) (n c n' c' : Nat), (binOp .eql 24 (.slice a n c) (.slice none n' c')).run Tryz.prog w = .ok (.bool a.isNone) w := fun w a n c n' c' => Lib.run_eql_slice_nil w _ _ a n c n' c' Tryz.underlying24
 go_enter Tryz.func79, Tryz.ntmps79
 go_wp2
 go_ret
 exact ⟨rfl, rfl⟩
set_option maxHeartbeats 1000000 in
theorem clnS_at (a : Addr) (n c : Nat) (news : List Value) (w : World) (hl : news.length = n * 3) (hbig : n * 48 ≤ room) (hc : ∀ j u, news[j]? = some u → w.cell? (a.add j) = some u) (h1 : ∀ u ∈ news, u.oneCell' = true) :
  Calls Tryz.prog 79 #[.slice (some a) n c] w fun r w' => ∃ v', r = .returned v' ∧ w'.ownsRow w.heap.size 58 3 v' n news ∧ Below w.heap.size w w' := by
 have q22 : ∀ (w : World) (a : Option Addr) (n c n' c' : Nat), (binOp .eql 24 (.slice a n c) (.slice none n' c')).run Tryz.prog w = .ok (.bool a.isNone) w := fun w a n c n' c' => Lib.run_eql_slice_nil w _ _ a n c n' c' Tryz.underlying24
 obtain ⟨i0, hi, hz0, hz1, hz2⟩ := info_parts infoSlot
 have A : Hid ((∀ j u, news[j]? = some u → w.cell? (a.add j) = some u) ∧ news.length = n * 3 ∧ n * 48 ≤ room ∧ (∀ u ∈ news, u.oneCell' = true) ∧ Tryz.prog.info? 58 = some i0 ∧ i0.zero = some (.agg #[.int .i64 0, .string ByteArray.empty, .slice none 0 0]) ∧ i0.size = 3 ∧ i0.bytes = 48) := ⟨hc, hl, hbig, h1, hi, hz0, hz1, hz2⟩
 clear hc hl hbig h1 hi hz0 hz1 hz2
 go_enter Tryz.func79, Tryz.ntmps79
 go_wp2_with (at_builtin; refine wpList_append_own _ rfl _ _ 24 rfl w.heap.size 58 i0 (.agg #[.int .i64 0, .string ByteArray.empty, .slice none 0 0]) 3 48 Tryz.underlying24 A.out.2.2.2.2.1 A.out.2.2.2.2.2.1 A.out.2.2.2.2.2.2.1 A.out.2.2.2.2.2.2.2 rfl (by decide) _ _ _ rfl (World.ownsRow_made w #[] 0 (Nat.le_refl _) (Nat.zero_le _) (by simp)) a n c news rfl A.out.2.1 ?qc2 A.out.2.2.2.1 ?qc4 ?qc5 ?qc6 ?_)
 case qc2 =>
  intro j u hj
  exact Lib.cell?_alloc_some _ (A.out.1 j u hj)
 case qc4 => rw [Nat.zero_add]; exact maxLen_of_room (by decide) A.out.2.2.1
 case qc5 => rw [Nat.zero_add]; exact A.out.2.2.1
 case qc6 => simp
 intro v' w1 hown hgrow hnil
 have HO : Hid (w1.ownsRow w.heap.size 58 3 v' n news) := hown
 have HG : Hid (Below w.heap.size w w1) := ((Below.refl _ w).alloc (Nat.le_refl _) _).grown hgrow (by simp) (by intro k hk; simp [Value.ownBlock] at hk; omega)
 clear hown hgrow hnil
 go_wp2
 go_ret
 exact ⟨v', rfl, HO.out, HG.out⟩
theorem clone_slots {w : World} {v : Value} {L : List SlotD} (h : Slots w v L) (hb : L.length * 48 ≤ room) :
  ∃ tv : Nat → Value, (∀ j, j < L.length → Sl w (tv j) (L.getD j default).2.2) ∧ ∀ W, Below w.heap.size w W → Calls Tryz.prog 79 #[v] W fun r w' => ∃ v', r = .returned v' ∧ w'.ownsRow W.heap.size 58 3 v' L.length (flatS L tv) ∧ Below W.heap.size W w' := by
 obtain ⟨ao, cap, rfl, hm, hcp, hc⟩ := h
 cases ao with
 | none =>
  have hx : L = [] := Classical.byContradiction fun hne => by obtain ⟨_, _, e, _⟩ := hc hne; cases e
  subst hx
  refine ⟨fun _ => nilS, fun j hj => absurd hj (Nat.not_lt_zero _), fun W _ => (clnS_nil _ _ W).mono ?_⟩
  rintro e w' ⟨rfl, rfl⟩
  exact ⟨_, rfl, World.ownsRow_nil _ _ _ _, Below.refl _ _⟩
 | some a =>
  have hx : ∀ j, j < L.length → ∃ tv, Sl w tv (L.getD j default).2.2 ∧ ∀ W, Below w.heap.size w W → W.cell? (a.add (j * 3)) = some (.int .i64 (L.getD j default).1) ∧ W.cell? (a.add (j * 3 + 1)) = some (.string (L.getD j default).2.1) ∧ W.cell? (a.add (j * 3 + 2)) = some tv := fun j hj => by
   obtain ⟨b, off, e, hlt, hcell⟩ := hc (by intro e; rw [e] at hj; simp at hj)
   simp only [Option.some.injEq] at e
   subst e
   obtain ⟨tv, c1, c2, c3, hs⟩ := hcell j hj
   have eg : L[j] = L.getD j default := by simp [List.getD, hj]
   rw [eg] at c1 c2 hs
   exact ⟨tv, hs, fun W hW => ⟨by rw [addr_add]; exact (hW.cell (p := ⟨b, off + j * 3, none⟩) hlt).trans c1, by rw [addr_add]; exact (hW.cell (p := ⟨b, off + j * 3 + 1, none⟩) hlt).trans c2, by rw [addr_add]; exact (hW.cell (p := ⟨b, off + j * 3 + 1 + 1, none⟩) hlt).trans c3⟩⟩
  obtain ⟨tv, htv⟩ := choose_ltV hx
  refine ⟨tv, fun j hj => (htv j hj).1, fun W hW => clnS_at a L.length cap (flatS L tv) W (flatS_length L tv) hb (fun i u hu => ?_) (flatS_mem (fun j hj => sl_form1 (htv j hj).1))⟩
  have hi : i < L.length * 3 := by
   rcases Nat.lt_or_ge i (L.length * 3) with h | h
   ·exact h
   ·rw [List.getElem?_eq_none (by rw [flatS_length]; exact h)] at hu; cases hu
  obtain ⟨j, r, hj, hr, rfl⟩ : ∃ j r, j < L.length ∧ r < 3 ∧ i = j * 3 + r := ⟨i / 3, i % 3, by omega, Nat.mod_lt _ (by decide), by omega⟩
  obtain ⟨g0, g1, g2⟩ := flatS_get (tv := tv) hj
  obtain ⟨c0, c1, c2⟩ := (htv j hj).2 W hW
  match r, hr with
  | 0, _ => rw [Nat.add_zero] at hu ⊢; rw [g0] at hu; cases hu; exact c0
  | 1, _ => rw [g1] at hu; cases hu; exact c1
  | 2, _ => rw [g2] at hu; cases hu; exact c2
theorem clnN_nil (n c : Nat) (w : World) : Calls Tryz.prog 80 #[.slice none n c] w fun r w' => r = .returned (.slice none 0 0) ∧ w' = w := by
 have q22 : ∀ (w : World) (a : Option Addr) (n c n' c' : Nat), (binOp .eql 25 (.slice a n c) (.slice none n' c')).run Tryz.prog w = .ok (.bool a.isNone) w := fun w a n c n' c' => Lib.run_eql_slice_nil w _ _ a n c n' c' Tryz.underlying25
 go_enter Tryz.func80, Tryz.ntmps80
 go_wp2
 go_ret
 exact ⟨rfl, rfl⟩
set_option maxHeartbeats 1000000 in
theorem clnN_at (a : Addr) (n c : Nat) (news : List Value) (w : World) (hl : news.length = n * 3) (hbig : n * 48 ≤ room) (hc : ∀ j u, news[j]? = some u → w.cell? (a.add j) = some u) (h1 : ∀ u ∈ news, u.oneCell' = true) :
  Calls Tryz.prog 80 #[.slice (some a) n c] w fun r w' => ∃ v', r = .returned v' ∧ w'.ownsRow w.heap.size 76 3 v' n news ∧ Below w.heap.size w w' := by
 have q22 : ∀ (w : World) (a : Option Addr) (n c n' c' : Nat), (binOp .eql 25 (.slice a n c) (.slice none n' c')).run Tryz.prog w = .ok (.bool a.isNone) w := fun w a n c n' c' => Lib.run_eql_slice_nil w _ _ a n c n' c' Tryz.underlying25
 obtain ⟨i0, hi, hz0, hz1, hz2⟩ := info_parts infoSnap
 have A : Hid ((∀ j u, news[j]? = some u → w.cell? (a.add j) = some u) ∧ news.length = n * 3 ∧ n * 48 ≤ room ∧ (∀ u ∈ news, u.oneCell' = true) ∧ Tryz.prog.info? 76 = some i0 ∧ i0.zero = some (.agg #[.string ByteArray.empty, .int .i64 0, .slice none 0 0]) ∧ i0.size = 3 ∧ i0.bytes = 48) := ⟨hc, hl, hbig, h1, hi, hz0, hz1, hz2⟩
 clear hc hl hbig h1 hi hz0 hz1 hz2
 go_enter Tryz.func80, Tryz.ntmps80
 go_wp2_with (at_builtin; refine wpList_append_own _ rfl _ _ 25 rfl w.heap.size 76 i0 (.agg #[.string ByteArray.empty, .int .i64 0, .slice none 0 0]) 3 48 Tryz.underlying25 A.out.2.2.2.2.1 A.out.2.2.2.2.2.1 A.out.2.2.2.2.2.2.1 A.out.2.2.2.2.2.2.2 rfl (by decide) _ _ _ rfl (World.ownsRow_made w #[] 0 (Nat.le_refl _) (Nat.zero_le _) (by simp)) a n c news rfl A.out.2.1 ?qc2 A.out.2.2.2.1 ?qc4 ?qc5 ?qc6 ?_)
 case qc2 =>
  intro j u hj
  exact Lib.cell?_alloc_some _ (A.out.1 j u hj)
 case qc4 => rw [Nat.zero_add]; exact maxLen_of_room (by decide) A.out.2.2.1
 case qc5 => rw [Nat.zero_add]; exact A.out.2.2.1
 case qc6 => simp
 intro v' w1 hown hgrow hnil
 have HO : Hid (w1.ownsRow w.heap.size 76 3 v' n news) := hown
 have HG : Hid (Below w.heap.size w w1) := ((Below.refl _ w).alloc (Nat.le_refl _) _).grown hgrow (by simp) (by intro k hk; simp [Value.ownBlock] at hk; omega)
 clear hown hgrow hnil
 go_wp2
 go_ret
 exact ⟨v', rfl, HO.out, HG.out⟩
theorem clone_snaps {w : World} {v : Value} {L : List SnapD} (h : Snaps w v L) (hb : L.length * 48 ≤ room) :
  ∃ tv : Nat → Value, (∀ j, j < L.length → Sl w (tv j) (L.getD j default).2.2) ∧ ∀ W, Below w.heap.size w W → Calls Tryz.prog 80 #[v] W fun r w' => ∃ v', r = .returned v' ∧ w'.ownsRow W.heap.size 76 3 v' L.length (flatN L tv) ∧ Below W.heap.size W w' := by
 obtain ⟨ao, cap, rfl, hm, hcp, hc⟩ := h
 cases ao with
 | none =>
  have hx : L = [] := Classical.byContradiction fun hne => by obtain ⟨_, _, e, _⟩ := hc hne; cases e
  subst hx
  refine ⟨fun _ => nilS, fun j hj => absurd hj (Nat.not_lt_zero _), fun W _ => (clnN_nil _ _ W).mono ?_⟩
  rintro e w' ⟨rfl, rfl⟩
  exact ⟨_, rfl, World.ownsRow_nil _ _ _ _, Below.refl _ _⟩
 | some a =>
  have hx : ∀ j, j < L.length → ∃ tv, Sl w tv (L.getD j default).2.2 ∧ ∀ W, Below w.heap.size w W → W.cell? (a.add (j * 3)) = some (.string (L.getD j default).1) ∧ W.cell? (a.add (j * 3 + 1)) = some (.int .i64 (L.getD j default).2.1) ∧ W.cell? (a.add (j * 3 + 2)) = some tv := fun j hj => by
   obtain ⟨b, off, e, hlt, hcell⟩ := hc (by intro e; rw [e] at hj; simp at hj)
   simp only [Option.some.injEq] at e
   subst e
   obtain ⟨tv, c1, c2, c3, hs⟩ := hcell j hj
   have eg : L[j] = L.getD j default := by simp [List.getD, hj]
   rw [eg] at c1 c2 hs
   exact ⟨tv, hs, fun W hW => ⟨by rw [addr_add]; exact (hW.cell (p := ⟨b, off + j * 3, none⟩) hlt).trans c1, by rw [addr_add]; exact (hW.cell (p := ⟨b, off + j * 3 + 1, none⟩) hlt).trans c2, by rw [addr_add]; exact (hW.cell (p := ⟨b, off + j * 3 + 1 + 1, none⟩) hlt).trans c3⟩⟩
  obtain ⟨tv, htv⟩ := choose_ltV hx
  refine ⟨tv, fun j hj => (htv j hj).1, fun W hW => clnN_at a L.length cap (flatN L tv) W (flatN_length L tv) hb (fun i u hu => ?_) (flatN_mem (fun j hj => sl_form1 (htv j hj).1))⟩
  have hi : i < L.length * 3 := by
   rcases Nat.lt_or_ge i (L.length * 3) with h | h
   ·exact h
   ·rw [List.getElem?_eq_none (by rw [flatN_length]; exact h)] at hu; cases hu
  obtain ⟨j, r, hj, hr, rfl⟩ : ∃ j r, j < L.length ∧ r < 3 ∧ i = j * 3 + r := ⟨i / 3, i % 3, by omega, Nat.mod_lt _ (by decide), by omega⟩
  obtain ⟨g0, g1, g2⟩ := flatN_get (qv := tv) hj
  obtain ⟨c0, c1, c2⟩ := (htv j hj).2 W hW
  match r, hr with
  | 0, _ => rw [Nat.add_zero] at hu ⊢; rw [g0] at hu; cases hu; exact c0
  | 1, _ => rw [g1] at hu; cases hu; exact c1
  | 2, _ => rw [g2] at hu; cases hu; exact c2
theorem row_slice {W : World} {B : Nat} {e : TypeId} {size n : Nat} {v : Value} {xs : List Value} (h : W.ownsRow B e size v n xs) : ∃ ao cap, v = .slice ao n cap := by
 rcases row_form h with ⟨rfl, rfl⟩ | ⟨g, cap, rfl, _⟩
 ·exact ⟨none, 0, rfl⟩
 ·exact ⟨_, cap, rfl⟩
theorem info9 : (Tryz.prog.info? 9).map (fun i => (i.zero, i.size, i.bytes)) = some (some (.string ByteArray.empty), 1, 16) := by kernel_rfl
def strs (l : List ByteArray) : List Value := l.map Value.string
theorem strs_length (l : List ByteArray) : (strs l).length = l.length := by simp [strs]
theorem strs_mem {xs : List ByteArray} : ∀ u ∈ strs xs, u.oneCell' = true := fun u hu => by
 unfold strs at hu
 obtain ⟨x, _, rfl⟩ := List.mem_map.1 hu
 rfl
theorem row_ss {W : World} {B : Nat} {v : Value} {l : List ByteArray} (h : W.ownsRow B 9 1 v l.length (strs l)) : Ss W v l := by
 rcases h.2 with ⟨rfl, hn⟩ | ⟨g, cap, cur, rfl, hb, hg, hcap, hm, hsz, htk⟩
 ·have : l = [] := List.eq_nil_of_length_eq_zero hn
  subst this
  exact ⟨none, 0, rfl, Nat.zero_le _, Nat.le_refl _, fun x => absurd rfl x⟩
 ·refine ⟨_, cap, rfl, Nat.le_trans hcap hm, hcap, fun _ => ⟨g, 0, rfl, (szH hg), fun j hj => ?_⟩⟩
  have := h.cellAt j (by omega)
  rw [Nat.zero_add]
  refine this.trans ?_
  unfold strs
  rw [List.getElem?_map, List.getElem?_eq_getElem hj]
  simp [List.getD, hj]
theorem clnT_nil (n c : Nat) (w : World) : Calls Tryz.prog 17 #[.slice none n c] w fun r w' => r = .returned (.slice none 0 0) ∧ w' = w := by
 have q22 : ∀ (w : World) (a : Option Addr) (n c n' c' : Nat), (binOp .eql 22 (.slice a n c) (.slice none n' c')).run Tryz.prog w = .ok (.bool a.isNone) w := fun w a n c n' c' => Lib.run_eql_slice_nil w _ _ a n c n' c' Tryz.underlying22
 go_enter Tryz.func17, Tryz.ntmps17
 go_wp2
 go_ret
 exact ⟨rfl, rfl⟩
set_option maxHeartbeats 1000000 in
theorem clnT_at (a : Addr) (n c : Nat) (news : List Value) (w : World) (hl : news.length = n * 1) (hbig : n * 16 ≤ room) (hc : ∀ j u, news[j]? = some u → w.cell? (a.add j) = some u) (h1 : ∀ u ∈ news, u.oneCell' = true) :
  Calls Tryz.prog 17 #[.slice (some a) n c] w fun r w' => ∃ v', r = .returned v' ∧ w'.ownsRow w.heap.size 9 1 v' n news ∧ Below w.heap.size w w' := by
 have q22 : ∀ (w : World) (a : Option Addr) (n c n' c' : Nat), (binOp .eql 22 (.slice a n c) (.slice none n' c')).run Tryz.prog w = .ok (.bool a.isNone) w := fun w a n c n' c' => Lib.run_eql_slice_nil w _ _ a n c n' c' Tryz.underlying22
 obtain ⟨i0, hi, hz0, hz1, hz2⟩ := info_parts info9
 have A : Hid ((∀ j u, news[j]? = some u → w.cell? (a.add j) = some u) ∧ news.length = n * 1 ∧ n * 16 ≤ room ∧ (∀ u ∈ news, u.oneCell' = true) ∧ Tryz.prog.info? 9 = some i0 ∧ i0.zero = some (.string ByteArray.empty) ∧ i0.size = 1 ∧ i0.bytes = 16) := ⟨hc, hl, hbig, h1, hi, hz0, hz1, hz2⟩
 clear hc hl hbig h1 hi hz0 hz1 hz2
 go_enter Tryz.func17, Tryz.ntmps17
 go_wp2_with (at_builtin; refine wpList_append_own _ rfl _ _ 22 rfl w.heap.size 9 i0 (.string ByteArray.empty) 1 16 Tryz.underlying22 A.out.2.2.2.2.1 A.out.2.2.2.2.2.1 A.out.2.2.2.2.2.2.1 A.out.2.2.2.2.2.2.2 rfl (by decide) _ _ _ rfl (World.ownsRow_made w #[] 0 (Nat.le_refl _) (Nat.zero_le _) (by simp)) a n c news rfl A.out.2.1 ?qc2 A.out.2.2.2.1 ?qc4 ?qc5 ?qc6 ?_)
 case qc2 =>
  intro j u hj
  exact Lib.cell?_alloc_some _ (A.out.1 j u hj)
 case qc4 => rw [Nat.zero_add]; exact maxLen_of_room (by decide) A.out.2.2.1
 case qc5 => rw [Nat.zero_add]; exact A.out.2.2.1
 case qc6 => simp
 intro v' w1 hown hgrow hnil
 have HO : Hid (w1.ownsRow w.heap.size 9 1 v' n news) := hown
 have HG : Hid (Below w.heap.size w w1) := ((Below.refl _ w).alloc (Nat.le_refl _) _).grown hgrow (by simp) (by intro k hk; simp [Value.ownBlock] at hk; omega)
 clear hown hgrow hnil
 go_wp2
 go_ret
 exact ⟨v', rfl, HO.out, HG.out⟩
theorem clone_strs {w : World} {v : Value} {xs : List ByteArray} (h : Ss w v xs) (hb : xs.length * 16 ≤ room) :
  Calls Tryz.prog 17 #[v] w fun r w' => ∃ v', r = .returned v' ∧ w'.ownsRow w.heap.size 9 1 v' xs.length (strs xs) ∧ Below w.heap.size w w' := by
 obtain ⟨ao, cap, rfl, hm, hcp, hc⟩ := h
 cases ao with
 | none =>
  have hx : xs = [] := Classical.byContradiction fun hne => by obtain ⟨_, _, e, _⟩ := hc hne; cases e
  subst hx
  refine (clnT_nil _ _ w).mono ?_
  rintro e w' ⟨rfl, rfl⟩
  exact ⟨_, rfl, World.ownsRow_nil _ _ _ _, Below.refl _ _⟩
 | some a =>
  refine (clnT_at a xs.length cap (strs xs) w (by rw [strs_length]; omega) hb (fun j u hu => ?_) strs_mem).mono ?_
  ·have hj : j < xs.length := by
    rcases Nat.lt_or_ge j xs.length with h | h
    ·exact h
    ·rw [List.getElem?_eq_none (by rw [strs_length]; exact h)] at hu; cases hu
   obtain ⟨b, off, e, _, hcell⟩ := hc (by intro e; rw [e] at hj; simp at hj)
   simp only [Option.some.injEq] at e
   subst e
   rw [addr_add, hcell j hj]
   unfold strs at hu
   rw [List.getElem?_map, List.getElem?_eq_getElem hj] at hu
   simp at hu
   simp [List.getD, hj, hu]
  ·rintro e w' ⟨v', rfl, hr, hb⟩
   exact ⟨v', rfl, hr, hb⟩
def slotZ : SlotD := (0, ⟨#[]⟩, [])
def freeUn (L : List SlotD) (c : List Int) : List SlotD := (List.range L.length).map (fun j => if c.getD j 0 = 0 then slotZ else L.getD j default)
def countedD (m : ImgD) : ImgD := { m with refs := cntL m, slots := freeUn m.slots (cntL m) }
theorem freeUn_length (L : List SlotD) (c : List Int) : (freeUn L c).length = L.length := by simp [freeUn]
theorem freeUn_get {L : List SlotD} {c : List Int} {j : Nat} (hj : j < L.length) : (freeUn L c).getD j default = if c.getD j 0 = 0 then slotZ else L.getD j default := by
 unfold freeUn
 simp only [List.getD, List.getElem?_map, List.getElem?_range hj, Option.map_some, Option.getD_some]
theorem freeUn_kept {L : List SlotD} {c : List Int} {j : Nat} (hj : j < L.length) (hc : c.getD j 0 ≠ 0) : (freeUn L c).getD j default = L.getD j default := by
 rw [freeUn_get hj, if_neg hc]
theorem freeUn_gone {L : List SlotD} {c : List Int} {j : Nat} (hj : j < L.length) (hc : c.getD j 0 = 0) : (freeUn L c).getD j default = slotZ := by
 rw [freeUn_get hj, if_pos hc]
theorem le_sum {f : Nat → Nat} : ∀ {n k : Nat}, k < n → f k ≤ ((List.range n).map f).sum
 | 0, _, h => absurd h (by omega)
 | n + 1, k, h => by
  rw [List.range_succ, List.map_append, List.sum_append]
  by_cases e : k = n
  ·subst e; simp
  ·have := le_sum (f := f) (n := n) (k := k) (by omega); simp; omega
theorem sum_pos {f : Nat → Nat} : ∀ {n : Nat}, 0 < ((List.range n).map f).sum → ∃ k, k < n ∧ 0 < f k
 | 0, h => absurd h (by simp)
 | n + 1, h => by
  rw [List.range_succ, List.map_append, List.sum_append] at h
  by_cases e : 0 < f n
  ·exact ⟨n, by omega, e⟩
  ·obtain ⟨k, hk, hf⟩ := sum_pos (f := f) (n := n) (by simp at h; omega)
   exact ⟨k, by omega, hf⟩
theorem told_root {m : ImgD} (h : shapeE m = 0) {j : Nat} (hj : (j : Int) ∈ flatR m) (h1 : 1 ≤ j) : j < m.slots.length ∧ kd m.slots j = 2 ∧ (cntL m).getD j 0 ≠ 0 := by
 rcases rootE_cases (flatR_root h _ hj) with e | ⟨i, e, hi, hk⟩
 ·omega
 ·have : j = i := by omega
  subst this
  refine ⟨hi, hk, ?_⟩
  rw [cntL_get h j hi]
  unfold cntI
  have := List.count_pos_iff.2 hj
  rw [if_neg (by omega)]; omega
theorem told_ent {m : ImgD} (h : shapeE m = 0) {j : Nat} (hj : (j : Int) ∈ flatR m) (h1 : 1 ≤ j) {i : Nat} (hi : (i : Int) ∈ tabOf m.slots j) (hi1 : 1 ≤ i) : i < m.slots.length ∧ kd m.slots i = 1 ∧ (cntL m).getD i 0 ≠ 0 := by
 obtain ⟨hjl, hk, _⟩ := told_root h hj h1
 rcases tab_ent (shapeE_zero h).2.2.2.2.2.1 _ hi with e | e | ⟨q, e, hq, hk1⟩
 ·omega
 ·omega
 ·have : i = q := by omega
  subst this
  refine ⟨hq, hk1, ?_⟩
  rw [cntL_get h i hq]
  unfold cntI
  rw [if_neg (by omega)]
  have h2 : toldT m.slots (flatR m) i j ≤ sumT m.slots (flatR m) i := le_sum hjl
  have h3 : toldT m.slots (flatR m) i j = (tabOf m.slots j).count (i : Int) := by unfold toldT; rw [if_pos ⟨hk, hj⟩]
  have := List.count_pos_iff.2 hi
  omega
theorem cnt_told {m : ImgD} (h : shapeE m = 0) {j : Nat} (hj : j < m.slots.length) (hc : (cntL m).getD j 0 ≠ 0) : 1 ≤ j ∧ ((kd m.slots j = 2 ∧ (j : Int) ∈ flatR m) ∨ (kd m.slots j = 1 ∧ ∃ k : Nat, 1 ≤ k ∧ (k : Int) ∈ flatR m ∧ kd m.slots k = 2 ∧ (j : Int) ∈ tabOf m.slots k)) := by
 obtain ⟨z1, z2, z3, z4, z5, z6, z7⟩ := shapeE_zero h
 rw [cntL_get h j hj] at hc
 unfold cntI at hc
 by_cases h0 : j = 0
 ·rw [if_pos h0] at hc; exact absurd rfl hc
 rw [if_neg h0] at hc
 refine ⟨by omega, ?_⟩
 by_cases hp : 0 < (flatR m).count (j : Int)
 ·have hm := List.count_pos_iff.1 hp
  exact .inl ⟨(told_root h hm (by omega)).2.1, hm⟩
 ·obtain ⟨k, hk, hf⟩ := sum_pos (f := toldT m.slots (flatR m) j) (n := m.slots.length) (by
   have : 0 < sumT m.slots (flatR m) j := by omega
   exact this)
  unfold toldT at hf
  split at hf
  ·rename_i hc2
   have hm := List.count_pos_iff.1 hf
   have k1 : 1 ≤ k := by
    rcases Nat.eq_zero_or_pos k with e | e
    ·subst e; rw [slot0 z2] at hc2; simp at hc2
    ·exact e
   exact .inr ⟨(told_ent h hc2.2 k1 hm (by omega)).2.1, k, k1, hc2.2, hc2.1, hm⟩
  ·omega
theorem kd_kept {m : ImgD} {j : Nat} (hj : j < m.slots.length) (hc : (cntL m).getD j 0 ≠ 0) : kd (countedD m).slots j = kd m.slots j := by
 unfold kd countedD; dsimp only; rw [freeUn_kept hj hc]
theorem tab_kept {m : ImgD} {j : Nat} (hj : j < m.slots.length) (hc : (cntL m).getD j 0 ≠ 0) : tabOf (countedD m).slots j = tabOf m.slots j := by
 unfold tabOf countedD; dsimp only; rw [Int.toNat_natCast, freeUn_kept hj hc]
theorem isKd_of {L : List SlotD} {j : Nat} (hj : j < L.length) {k : Int} (hk : kd L j = k) : isKd L j k = true := by
 rw [isKd_in hj]
 unfold kd at hk
 simp [List.getD, hj] at hk
 simp [hk]
theorem rootsOf_counted (m : ImgD) : rootsOf (countedD m) = rootsOf m := rfl
theorem flatR_counted (m : ImgD) : flatR (countedD m) = flatR m := rfl
theorem okD_Z : okD slotZ = true := by decide
theorem getElem_getD {L : List SlotD} {j : Nat} (hj : j < L.length) : L[j] = L.getD j default := by simp [List.getD, hj]
theorem counted_shape {m : ImgD} (h : shapeE m = 0) : shapeE (countedD m) = 0 := by
 obtain ⟨z1, z2, z3, z4, z5, z6, z7⟩ := shapeE_zero h
 have hp := slotsE_parts z2
 have hlen : (countedD m).slots.length = m.slots.length := freeUn_length _ _
 have hs : slotsE (countedD m).slots = 0 := by
  refine slotsE_ok (by rw [hlen]; exact hp.1) (by rw [hlen]; exact hp.2) (fun j hj => ?_) ?_
  ·rw [hlen] at hj
   rw [getElem_getD (by rw [hlen]; exact hj)]
   show okD ((freeUn m.slots (cntL m)).getD j default) = true
   rw [freeUn_get hj]
   split
   ·exact okD_Z
   ·rw [← getElem_getD hj]; exact slotsE_all z2 hj
  ·rw [getElem_getD (by rw [hlen]; exact hp.1)]
   show ((freeUn m.slots (cntL m)).getD 0 default).1 = 0
   rw [freeUn_get hp.1]
   split
   ·rfl
   ·exact slot0 z2
 have ht : tabFit (countedD m).slots = true := by
  unfold tabFit
  rw [List.all_eq_true]
  intro s hsm
  obtain ⟨j, hj, rfl⟩ := List.getElem_of_mem hsm
  rw [hlen] at hj
  rw [getElem_getD (by rw [hlen]; exact hj), List.all_eq_true]
  show ∀ e ∈ ((freeUn m.slots (cntL m)).getD j default).2.2, tabE (countedD m).slots e = true
  intro e he
  by_cases hc : (cntL m).getD j 0 = 0
  ·rw [freeUn_gone hj hc] at he; cases he
  ·rw [freeUn_kept hj hc] at he
   have he' : e ∈ tabOf m.slots (j : Int) := by unfold tabOf; rw [Int.toNat_natCast]; exact he
   obtain ⟨j1, hcase⟩ := cnt_told h hj hc
   rcases hcase with ⟨hk, hjm⟩ | ⟨hk, _⟩
   ·rcases tab_ent z6 _ he' with e0 | e1 | ⟨i, rfl, hi, hk1⟩
    ·rw [e0]; rfl
    ·rw [e1]; rfl
    ·have i1 : 1 ≤ i := by
      rcases Nat.eq_zero_or_pos i with e | e
      ·subst e; rw [slot0 z2] at hk1; simp at hk1
      ·exact e
     obtain ⟨_, _, hci⟩ := told_ent h hjm j1 he' i1
     rw [tabE_x (by omega) (by omega)]
     exact isKd_of (by rw [hlen]; exact hi) (by rw [kd_kept hi hci]; exact hk1)
   · -- a page has no table
    exfalso
    have ok := slotsE_all z2 hj
    rw [getElem_getD hj] at ok
    unfold kd at hk
    unfold okD slotOK at ok
    rw [if_neg (by rw [hk]; decide), if_pos hk] at ok
    generalize m.slots.getD j default = s at hk ok he
    simp at ok
    rw [ok.2] at he; cases he
 have hr : (rootsOf (countedD m)).all (fun s => rootFit (countedD m).slots s.2.1 s.2.2) = true := by
  rw [rootsOf_counted, List.all_eq_true]
  intro s hsm
  have hf := List.all_eq_true.1 z7 s hsm
  have hmem : ∀ k ∈ s.2.2, k ∈ flatR m := fun k hk => by unfold flatR; rw [List.mem_flatMap]; exact ⟨s, hsm, hk⟩
  unfold rootFit at hf ⊢
  simp only [Bool.and_eq_true] at hf ⊢
  refine ⟨hf.1, ?_, ?_⟩
  ·rw [List.all_eq_true]
   intro k hk
   rcases rootE_cases (List.all_eq_true.1 hf.2.1 k hk) with e | ⟨j, rfl, hj, hk2⟩
   ·rw [e]; rfl
   ·have j1 : 1 ≤ j := by
     rcases Nat.eq_zero_or_pos j with e | e
     ·subst e; rw [slot0 z2] at hk2; simp at hk2
     ·exact e
    rw [rootE_x (by omega)]
    obtain ⟨_, _, hc⟩ := told_root h (hmem _ hk) j1
    exact isKd_of (by rw [hlen]; exact hj) (by rw [kd_kept hj hc]; exact hk2)
  ·have hl := hf.2.2
   unfold lastFit at hl ⊢
   by_cases hg : s.2.1 % 4 = 0
   ·simp [hg]
   ·have hg' : (s.2.1 % 4 == 0) = false := by simpa using hg
    rw [hg', Bool.false_or] at hl ⊢
    by_cases hx : s.2.2.getD (s.2.2.length - 1) 0 = 0
    ·rw [hx]; rfl
    ·have hx' : (s.2.2.getD (s.2.2.length - 1) 0 == 0) = false := by simpa using hx
     rw [hx', Bool.false_or] at hl ⊢
     have hne : s.2.2.length - 1 < s.2.2.length := by
      rcases Nat.eq_zero_or_pos s.2.2.length with e | e
      ·exfalso; apply hx; rw [List.length_eq_zero_iff.1 e]; rfl
      ·omega
     have hE := all_at hf.2.1 hne
     have hm2 : s.2.2.getD (s.2.2.length - 1) 0 ∈ flatR m := hmem _ (by rw [getD_at hne]; exact List.getElem_mem hne)
     generalize s.2.2.getD (s.2.2.length - 1) 0 = x at hE hm2 hl hx ⊢
     rcases rootE_cases hE with e | ⟨j, rfl, hj, hk2⟩
     ·exact absurd e hx
     ·obtain ⟨_, _, hc⟩ := told_root h hm2 (by omega)
      rw [tab_kept hj hc]; exact hl
 unfold shapeE
 rw [if_neg (by show ¬ 3 < m.snaps.length; omega), if_neg (by simpa using hs), if_neg, if_neg (by rw [rootsOf_counted, z5]; decide), if_neg (by rw [ht]; decide), if_neg (by rw [hr]; decide)]
 rintro (e | e)
 ·exact e (by rw [hlen]; exact cntL_length m)
 ·have : namesOK m.snaps = false := e
  rw [z4] at this; cases this
theorem counted_cnt {m : ImgD} (h : shapeE m = 0) : cntL (countedD m) = cntL m := by
 have hlen : (countedD m).slots.length = m.slots.length := freeUn_length _ _
 rw [rl_of (cntL_length (countedD m)), rl_of (cntL_length m), hlen]
 refine rl_congr fun j hj => ?_
 rw [cntL_get (counted_shape h) j (by rw [hlen]; exact hj), cntL_get h j hj, flatR_counted]
 unfold cntI
 by_cases h0 : j = 0
 ·rw [if_pos h0, if_pos h0]
 rw [if_neg h0, if_neg h0]
 have e : sumT (countedD m).slots (flatR m) j = sumT m.slots (flatR m) j := by
  unfold sumT
  rw [hlen]
  refine sum_same _ fun k hk => ?_
  unfold toldT
  by_cases hm : (k : Int) ∈ flatR m
  ·by_cases k0 : k = 0
   ·subst k0
    rw [if_neg (by rw [slot0 (shapeE_zero (counted_shape h)).2.1]; simp), if_neg (by rw [slot0 (shapeE_zero h).2.1]; simp)]
   ·obtain ⟨_, _, hc⟩ := told_root h hm (by omega)
    rw [kd_kept hk hc, tab_kept hk hc]
  ·rw [if_neg (fun x => hm x.2), if_neg (fun x => hm x.2)]
 rw [e]
theorem counted_right {m : ImgD} (h : shapeE m = 0) : checkE (countedD m) = 0 := by
 have hlen : (countedD m).slots.length = m.slots.length := freeUn_length _ _
 unfold checkE
 rw [if_neg (by simpa using counted_shape h), counted_cnt h]
 have e : (countedD m).refs = cntL m := rfl
 rw [e, if_neg (by simp), if_pos]
 rw [List.all_eq_true]
 intro j hj
 have hj : j < m.slots.length := by rw [← hlen]; simpa using hj
 unfold freeAt
 rw [counted_cnt h]
 by_cases hc : (cntL m).getD j 0 = 0
 ·have : ((countedD m).slots.getD j default).1 = 0 := by show ((freeUn m.slots (cntL m)).getD j default).1 = 0; rw [freeUn_gone hj hc]; rfl
  rw [this, hc]; rfl
 ·obtain ⟨_, hk⟩ := cnt_told h hj hc
  have hne : kd m.slots j ≠ 0 := by
   rcases hk with ⟨e, _⟩ | ⟨e, _⟩
   ·rw [e]; decide
   ·rw [e]; decide
  have e1 : ((countedD m).slots.getD j default).1 = kd m.slots j := kd_kept hj hc
  have e2 : (((countedD m).slots.getD j default).1 == 0) = false := by rw [e1]; simpa using hne
  have e3 : ((cntL m).getD j 0 == 0) = false := by simpa using hc
  rw [e2, e3]; rfl
theorem counted_same {m : ImgD} (h : checkE m = 0) : countedD m = m := by
 obtain ⟨hs, hc, hf⟩ := checkE_zero h
 unfold countedD
 have e : freeUn m.slots (cntL m) = m.slots := by
  apply List.ext_getElem
  ·exact freeUn_length _ _
  ·intro j h1 h2
   rw [getElem_getD h1, getElem_getD h2, freeUn_get h2]
   split
   ·rename_i hz
    have hfj := hf j h2
    unfold freeAt at hfj
    rw [hz] at hfj
    have hk : (m.slots.getD j default).1 = 0 := by simpa using hfj
    have ok := slotsE_all (shapeE_zero hs).2.1 h2
    rw [getElem_getD h2] at ok
    unfold okD slotOK at ok
    rw [if_pos hk] at ok
    generalize m.slots.getD j default = s at hk ok
    obtain ⟨a, b, c⟩ := s
    simp at hk ok
    subst hk
    rw [ok.1, ok.2]; rfl
   ·rfl
 rw [e, hc]
theorem lookV_counted {m : ImgD} (h : shapeE m = 0) {s : SnapD} (hs : s ∈ rootsOf m) {n : Nat} (hn : n / 4 < s.2.2.length) : lookV (countedD m) s.2.2 n = lookV m s.2.2 n := by
 unfold lookV
 by_cases hz : s.2.2.getD (n / 4) 0 = 0
 ·rw [if_pos hz, if_pos hz]
 rw [if_neg hz, if_neg hz]
 have hm : s.2.2.getD (n / 4) 0 ∈ flatR m := by
  unfold flatR; rw [List.mem_flatMap]
  exact ⟨s, hs, by rw [getD_at hn]; exact List.getElem_mem hn⟩
 rcases rootE_cases (flatR_root h _ hm) with e | ⟨j, e, hj, hk⟩
 ·exact absurd e hz
 ·rw [e] at hm hz ⊢
  obtain ⟨_, _, hc⟩ := told_root h hm (by omega)
  rw [tab_kept hj hc]
theorem pageV_counted {m : ImgD} (h : shapeE m = 0) {s : SnapD} (hs : s ∈ rootsOf m) {n : Nat} (hn : n / 4 < s.2.2.length) : pageV (countedD m).slots (lookV m s.2.2 n) = pageV m.slots (lookV m s.2.2 n) := by
 have hf := List.all_eq_true.1 (shapeE_zero h).2.2.2.2.2.2 s hs
 unfold rootFit at hf
 simp only [Bool.and_eq_true] at hf
 have hent := lookV_ent h hf.2.1 n hn
 unfold pageV
 by_cases hz : lookV m s.2.2 n ≤ 0
 ·rw [if_pos hz, if_pos hz]
 rw [if_neg hz, if_neg hz]
 rcases hent with e | e | ⟨j, e, j1, hj, hk⟩
 ·omega
 ·omega
 ·rw [e, Int.toNat_natCast]
  have hr0 : s.2.2.getD (n / 4) 0 ≠ 0 := fun e0 => by
   unfold lookV at e; rw [if_pos e0] at e; omega
  have hm : s.2.2.getD (n / 4) 0 ∈ flatR m := by
   unfold flatR; rw [List.mem_flatMap]
   exact ⟨s, hs, by rw [getD_at hn]; exact List.getElem_mem hn⟩
  have e' : (tabOf m.slots (s.2.2.getD (n / 4) 0)).getD (n % 4) 0 = (j : Int) := by
   unfold lookV at e; rw [if_neg hr0] at e; exact e
  rcases rootE_cases (flatR_root h _ hm) with e0 | ⟨t, et, ht, hkt⟩
  ·exact absurd e0 hr0
  ·rw [et] at hm hr0 e'
   have hlt : n % 4 < (tabOf m.slots (t : Int)).length := by
    rw [tab_len (shapeE_zero h).2.1 (isKd_of ht hkt)]; omega
   have hmem : (j : Int) ∈ tabOf m.slots (t : Int) := by rw [← e', getD_at hlt]; exact List.getElem_mem hlt
   obtain ⟨_, _, hc⟩ := told_ent h hm (by omega) hmem j1
   have : (countedD m).slots.getD j default = m.slots.getD j default := freeUn_kept hj hc
   rw [this]
theorem allP_counted {m : ImgD} (h : shapeE m = 0) {s : SnapD} (hs : s ∈ rootsOf m) : allP (countedD m) s.2.2 s.2.1.toNat = allP m s.2.2 s.2.1.toNat := by
 unfold allP
 refine List.map_congr_left fun n hn => ?_
 have hn := List.mem_range.1 hn
 have hf := List.all_eq_true.1 (shapeE_zero h).2.2.2.2.2.2 s hs
 have hg := List.all_eq_true.1 (shapeE_zero h).2.2.2.2.1 s hs
 unfold rootFit at hf
 unfold guestOK at hg
 simp only [Bool.and_eq_true, decide_eq_true_eq] at hf hg
 have hl : n / 4 < s.2.2.length := by omega
 rw [lookV_counted h hs hl, pageV_counted h hs hl]
theorem kd_lt {L : List SlotD} {j : Nat} (h : kd L j ≠ 0) : j < L.length := by
 rcases Nat.lt_or_ge j L.length with h' | h'
 ·exact h'
 ·exfalso; apply h; unfold kd; rw [show L.getD j default = default by simp [List.getD, Nat.not_lt.2 h']]; rfl
theorem tabOf_eq {L L' : List SlotD} {j : Nat} (h : L'.getD j default = L.getD j default) : tabOf L' j = tabOf L j := by
 unfold tabOf; rw [Int.toNat_natCast, h]
theorem kd_eq {L L' : List SlotD} {j : Nat} (h : L'.getD j default = L.getD j default) : kd L' j = kd L j := by
 unfold kd; rw [h]
structure Ext (L L' : List SlotD) (t : Nat) (es : List Int) : Prop where
 len : L'.length ≤ 40
 keep : ∀ j, j ≠ t → kd L j ≠ 0 → L'.getD j default = L.getD j default
 tab : L'.getD t default = (2, ⟨#[]⟩, es)
 page : kd L t ≠ 1
 ok : ∀ j, j < L'.length → okD (L'.getD j default) = true
 head : kd L' 0 = 0
 tabs : ∀ j, j ≠ t → kd L' j = 2 → kd L j = 2
 ents : ∀ e ∈ es, tabE L' e = true
theorem Ext.kdt {L L' : List SlotD} {t : Nat} {es : List Int} (h : Ext L L' t es) : kd L' t = 2 := by unfold kd; rw [h.tab]
theorem Ext.tlt {L L' : List SlotD} {t : Nat} {es : List Int} (h : Ext L L' t es) : t < L'.length := kd_lt (by rw [h.kdt]; decide)
theorem Ext.t1 {L L' : List SlotD} {t : Nat} {es : List Int} (h : Ext L L' t es) : 1 ≤ t := by
 rcases Nat.eq_zero_or_pos t with e | e
 ·have := h.kdt; rw [e, h.head] at this; simp at this
 ·exact e
theorem Ext.tabt {L L' : List SlotD} {t : Nat} {es : List Int} (h : Ext L L' t es) : tabOf L' t = es := by unfold tabOf; rw [Int.toNat_natCast, h.tab]
theorem Ext.data {L L' : List SlotD} {t : Nat} {es : List Int} (h : Ext L L' t es) {j : Nat} (hj : kd L j = 1) : L'.getD j default = L.getD j default :=
 h.keep j (fun e => h.page (by rw [← e]; exact hj)) (by rw [hj]; decide)
theorem Ext.slots {L L' : List SlotD} {t : Nat} {es : List Int} (h : Ext L L' t es) : slotsE L' = 0 := by
 refine slotsE_ok (by have := h.tlt; omega) h.len (fun j hj => ?_) ?_
 ·rw [getElem_getD hj]; exact h.ok j hj
 ·rw [getElem_getD]; exact h.head
theorem Ext.tabE {L L' : List SlotD} {t : Nat} {es : List Int} (h : Ext L L' t es) (h0 : slotsE L = 0) {e : Int} (he : tabE L e = true) : Go.Proofs.YtehleeibgkpjmaeGreat.tabE L' e = true := by
 rcases tabE_cases he with e0 | e1 | ⟨j, rfl, hj, hk⟩
 ·rw [e0]; rfl
 ·rw [e1]; rfl
 ·have j1 : 1 ≤ j := by
   rcases Nat.eq_zero_or_pos j with e | e
   ·subst e; rw [slot0 h0] at hk; simp at hk
   ·exact e
  rw [tabE_x (by omega) (by omega)]
  have hd := h.data hk
  have hk' : kd L' j = 1 := by rw [kd_eq hd]; exact hk
  exact isKd_of (kd_lt (by rw [hk']; decide)) hk'
theorem Ext.fit {L L' : List SlotD} {t : Nat} {es : List Int} (h : Ext L L' t es) (h0 : slotsE L = 0) (hf : tabFit L = true) : tabFit L' = true := by
 unfold tabFit
 rw [List.all_eq_true]
 intro s hs
 obtain ⟨j, hj, rfl⟩ := List.getElem_of_mem hs
 rw [getElem_getD hj, List.all_eq_true]
 intro e he
 by_cases hjt : j = t
 ·subst hjt; rw [h.tab] at he; exact h.ents e he
 ·by_cases hk : kd L' j = 2
  ·have hk0 := h.tabs j hjt hk
   have hkeep := h.keep j hjt (by rw [hk0]; decide)
   rw [hkeep] at he
   have he' : e ∈ tabOf L (j : Int) := by unfold tabOf; rw [Int.toNat_natCast]; exact he
   exact h.tabE h0 (List.all_eq_true.1 (tab_all hf j) e he')
  ·exfalso
   have ok := h.ok j hj
   unfold kd at hk
   unfold okD slotOK at ok
   generalize L'.getD j default = s at ok hk he
   rw [if_neg (c := s.1 = 2) hk] at ok
   split at ok
   ·simp at ok; rw [ok.2] at he; cases he
   split at ok
   ·simp at ok; rw [ok.2] at he; cases he
   ·cases ok
structure Lone (m : ImgD) (k t : Nat) : Prop where
 root : ∀ i, i < m.root.length → i ≠ k → m.root.getD i 0 ≠ (t : Int)
 snap : ∀ s ∈ m.snaps, (t : Int) ∉ s.2.2
def tabSet (m : ImgD) (k t : Nat) (L' : List SlotD) (rf : List Int) : ImgD := { m with root := m.root.set k (t : Int), slots := L', refs := rf }
theorem getD_setI (l : List Int) (i j : Nat) (x : Int) : (l.set i x).getD j 0 = if i = j ∧ j < l.length then x else l.getD j 0 := getD_set l i j x
theorem rootE_ext {L L' : List SlotD} {t : Nat} {es : List Int} (h : Ext L L' t es) (h0 : slotsE L = 0) {x : Int} (hx : rootE L x = true) (hne : x ≠ (t : Int)) : rootE L' x = true ∧ tabOf L' x = tabOf L x := by
 rcases rootE_cases hx with e | ⟨j, rfl, hj, hk⟩
 ·subst e
  refine ⟨rfl, ?_⟩
  have a : tabOf L 0 = [] := by
   have ok := slotsE_all h0 (slotsE_parts h0).1
   rw [getElem_getD (slotsE_parts h0).1] at ok
   have hk := slot0 h0
   unfold kd at hk
   unfold okD slotOK at ok
   rw [if_pos hk] at ok
   simp at ok
   unfold tabOf
   simpa using ok.2
  have hs := h.slots
  have b : tabOf L' 0 = [] := by
   have ok := slotsE_all hs (slotsE_parts hs).1
   rw [getElem_getD (slotsE_parts hs).1] at ok
   have hk := h.head
   unfold kd at hk
   unfold okD slotOK at ok
   rw [if_pos hk] at ok
   simp at ok
   unfold tabOf
   simpa using ok.2
  rw [a, b]
 ·have hjt : j ≠ t := fun e => hne (by rw [e])
  have hkeep := h.keep j hjt (by rw [hk]; decide)
  have hk' : kd L' j = 2 := by rw [kd_eq hkeep]; exact hk
  have j1 : 1 ≤ j := by
   rcases Nat.eq_zero_or_pos j with e | e
   ·subst e; rw [slot0 h0] at hk; simp at hk
   ·exact e
  refine ⟨?_, tabOf_eq hkeep⟩
  rw [rootE_x (by omega)]
  exact isKd_of (kd_lt (by rw [hk']; decide)) hk'
theorem rootFit_ext {L L' : List SlotD} {t : Nat} {es : List Int} (h : Ext L L' t es) (h0 : slotsE L = 0) {g : Int} {r : List Int} (hf : rootFit L g r = true) (hne : (t : Int) ∉ r) : rootFit L' g r = true := by
 unfold rootFit at hf ⊢
 simp only [Bool.and_eq_true, decide_eq_true_eq] at hf ⊢
 refine ⟨hf.1, ?_, ?_⟩
 ·rw [List.all_eq_true]
  intro x hx
  exact (rootE_ext h h0 (List.all_eq_true.1 hf.2.1 x hx) (fun e => hne (e ▸ hx))).1
 ·have hl := hf.2.2
  unfold lastFit at hl ⊢
  by_cases hr : r.length = 0
  ·rw [List.length_eq_zero_iff.1 hr]; simp
  ·have hlt : r.length - 1 < r.length := by omega
   have hmem : r.getD (r.length - 1) 0 ∈ r := by rw [getD_at hlt]; exact List.getElem_mem hlt
   rw [(rootE_ext h h0 (all_at hf.2.1 hlt) (fun e => hne (e ▸ hmem))).2]
   exact hl
theorem tabSet_shape {m : ImgD} {k t : Nat} {L' : List SlotD} {es rf : List Int} (h : shapeE m = 0) (hk : k < m.root.length) (hx : Ext m.slots L' t es) (hl : Lone m k t) (hrf : rf.length = L'.length)
  (hlast : k = m.root.length - 1 → m.guest % 4 ≠ 0 → (es.drop (m.guest % 4).toNat).all (fun e => e == 0) = true) : shapeE (tabSet m k t L' rf) = 0 := by
 obtain ⟨z1, z2, z3, z4, z5, z6, z7⟩ := shapeE_zero h
 have hs := hx.slots
 have ht := hx.fit z2 z6
 have hroot := List.all_eq_true.1 z7 (⟨#[]⟩, m.guest, m.root) List.mem_cons_self
 dsimp only at hroot
 have hr : rootFit L' m.guest (m.root.set k (t : Int)) = true := by
  unfold rootFit at hroot ⊢
  simp only [Bool.and_eq_true, decide_eq_true_eq] at hroot ⊢
  refine ⟨by rw [List.length_set]; exact hroot.1, ?_, ?_⟩
  ·rw [List.all_eq_true]
   intro x hx'
   obtain ⟨j, hj, rfl⟩ := List.getElem_of_mem hx'
   rw [List.length_set] at hj
   rw [List.getElem_set]
   by_cases e : k = j
   ·rw [if_pos e, rootE_x (by have := hx.t1; omega)]
    exact isKd_of hx.tlt hx.kdt
   ·rw [if_neg e]
    have hE := all_at hroot.2.1 hj
    have hn := hl.root j hj (fun x => e x.symm)
    rw [getD_at hj] at hE hn
    exact (rootE_ext hx z2 hE hn).1
  ·unfold lastFit
   rw [List.length_set, getD_setI]
   by_cases hg : m.guest % 4 = 0
   ·simp [hg]
   have hg' : (m.guest % 4 == 0) = false := by simpa using hg
   rw [hg', Bool.false_or]
   have hlt : m.root.length - 1 < m.root.length := by omega
   by_cases e : k = m.root.length - 1
   ·rw [if_pos ⟨e, hlt⟩, hx.tabt]
    have := hlast e hg
    rw [this]; simp
   ·rw [if_neg (fun x => e x.1)]
    have hold := hroot.2.2
    unfold lastFit at hold
    rw [hg', Bool.false_or] at hold
    rw [(rootE_ext hx z2 (all_at hroot.2.1 hlt) (hl.root _ hlt (fun x => e x.symm))).2]
    exact hold
 have hall : (rootsOf (tabSet m k t L' rf)).all (fun s => rootFit L' s.2.1 s.2.2) = true := by
  show (((⟨#[]⟩, m.guest, m.root.set k (t : Int)) : SnapD) :: m.snaps).all _ = true
  rw [List.all_cons, hr, Bool.true_and, List.all_eq_true]
  intro s hsm
  exact rootFit_ext hx z2 (List.all_eq_true.1 z7 s (List.mem_cons_of_mem _ hsm)) (hl.snap s hsm)
 have hgall : (rootsOf (tabSet m k t L' rf)).all (fun s => guestOK s.2.1) = true := by
  show (((⟨#[]⟩, m.guest, m.root.set k (t : Int)) : SnapD) :: m.snaps).all _ = true
  have := z5
  unfold rootsOf at this
  rw [List.all_cons] at this ⊢
  exact this
 unfold shapeE
 rw [if_neg (by show ¬ 3 < m.snaps.length; omega), if_neg (by show ¬ slotsE L' ≠ 0; simpa using hs), if_neg, if_neg (by rw [hgall]; decide), if_neg (by show ¬ tabFit L' = false; rw [ht]; decide), if_neg (by have e := hall; show ¬ ((rootsOf (tabSet m k t L' rf)).all fun s => rootFit L' s.2.1 s.2.2) = false; rw [e]; decide)]
 rintro (e | e)
 ·exact e hrf
 ·have : namesOK m.snaps = false := e
  rw [z4] at this; cases this
theorem look_tabSet {m : ImgD} {k t : Nat} {L' : List SlotD} {es rf : List Int} (hx : Ext m.slots L' t es) (h0 : slotsE m.slots = 0) (hl : Lone m k t) (hall : m.root.all (rootE m.slots) = true) (n : Nat) (hn : n / 4 < m.root.length) :
  lookV (tabSet m k t L' rf) (m.root.set k (t : Int)) n = if n / 4 = k then es.getD (n % 4) 0 else lookV m m.root n := by
 have hg := getD_setI m.root k (n / 4) (t : Int)
 by_cases e : n / 4 = k
 ·rw [if_pos (⟨e.symm, hn⟩ : k = n / 4 ∧ n / 4 < m.root.length)] at hg
  unfold lookV
  rw [hg, if_pos e, if_neg (by have := hx.t1; omega)]
  show (tabOf L' (t : Int)).getD (n % 4) 0 = _
  rw [hx.tabt]
 ·rw [if_neg (fun x => e x.1.symm)] at hg
  rw [if_neg e]
  unfold lookV
  rw [hg]
  by_cases hz : m.root.getD (n / 4) 0 = 0
  ·rw [if_pos hz, if_pos hz]
  ·rw [if_neg hz, if_neg hz]
   show (tabOf L' _).getD (n % 4) 0 = _
   rw [(rootE_ext hx h0 (all_at hall hn) (hl.root _ hn e)).2]
theorem look_snap {m : ImgD} {k t : Nat} {L' : List SlotD} {es rf : List Int} (hx : Ext m.slots L' t es) (h0 : slotsE m.slots = 0) {r : List Int} (hall : r.all (rootE m.slots) = true) (hne : (t : Int) ∉ r) (n : Nat) (hn : n / 4 < r.length) :
  lookV (tabSet m k t L' rf) r n = lookV m r n := by
 unfold lookV
 by_cases hz : r.getD (n / 4) 0 = 0
 ·rw [if_pos hz, if_pos hz]
 ·rw [if_neg hz, if_neg hz]
  show (tabOf L' _).getD (n % 4) 0 = _
  rw [(rootE_ext hx h0 (all_at hall hn) (fun e => hne (by rw [← e, getD_at hn]; exact List.getElem_mem hn))).2]
theorem page_ext {L L' : List SlotD} {t : Nat} {es : List Int} (hx : Ext L L' t es) {e : Int} (he : e = 0 ∨ e = -1 ∨ ∃ j : Nat, e = j ∧ 1 ≤ j ∧ j < L.length ∧ kd L j = 1) : pageV L' e = pageV L e := by
 unfold pageV
 rcases he with rfl | rfl | ⟨j, rfl, j1, hj, hk⟩
 ·rfl
 ·rfl
 ·rw [if_neg (by omega), if_neg (by omega), Int.toNat_natCast, hx.data hk]
end Go.Proofs.YtehleeibgkpjmaeGreat
namespace Go.Proofs.YtehleeibgkpjmaeGreat
open Go.RowKit
set_option maxRecDepth 20000
def GrabAt (L : List SlotD) (g : Nat) : Prop := 1 ≤ g ∧ g ≤ L.length ∧ (∀ j, (h : j < L.length) → 1 ≤ j → j < g → (L[j]).1 ≠ 0) ∧ ∀ h : g < L.length, (L[g]).1 = 0
theorem GrabAt.unique {L : List SlotD} {g g' : Nat} (h : GrabAt L g) (k : GrabAt L g') : g = g' := by
 obtain ⟨h1, h2, h3, h4⟩ := h
 obtain ⟨k1, k2, k3, k4⟩ := k
 rcases Nat.lt_trichotomy g g' with e | e | e
 ·exact absurd (h4 (by omega)) (k3 g (by omega) h1 e)
 ·exact e
 ·exact absurd (k4 (by omega)) (h3 g' (by omega) k1 e)
set_option maxHeartbeats 1000000 in
theorem grab_at (b off cap n : Nat) (L : List SlotD) (w : World) (hn : L.length = n) (h1 : 1 ≤ n) (h40 : n ≤ 40) (hlt : b < w.heap.size) (hc : ∀ j, (h : j < L.length) → SlAt w b (off + j * 3) L[j]) (hs : Slots w (.slice (some ⟨b, off, none⟩) n cap) L) (hE : slotsE L = 0) :
  Calls Tryz.prog 62 #[.slice (some ⟨b, off, none⟩) n cap] w fun r w' => ((GrabAt L 40 ∧ r = .returned (.tuple #[.int .i64 0, .int .i64 7])) ∨ ∃ g : Nat, g < 40 ∧ GrabAt L g ∧ r = .returned (.tuple #[.int .i64 g, .int .i64 0])) ∧ Below w.heap.size w w' := by
 have HC : Hid (∀ j, (h : j < L.length) → SlAt w b (off + j * 3) L[j]) := hc
 have HN : Hid (L.length = n) := hn
 have HE : Hid (slotsE L = 0) := hE
 clear hc hn hE
 go_enter Tryz.func62, Tryz.ntmps62
 go_wp2_with (go_at_call 84; refine (checkAll_any _ L _ hs).mono ?_; rintro e w1 ⟨he, b1⟩; rw [HE.out] at he; subst he)
 go_loop [5] (fun i => ∃ k : Nat, 1 ≤ k ∧ k ≤ n ∧ i = .int .i64 k ∧ ∀ j, (h : j < L.length) → 1 ≤ j → j < k → (L[j]).1 ≠ 0) (fun i => n - (intOf i).toNat)
 case atStart => exact ⟨1, Nat.le_refl _, h1, rfl, fun j h hj hj' => absurd hj' (by omega)⟩
 case round =>
  obtain ⟨k, hk1, hk, rfl, hall⟩ := hrel
  have HA : Hid (∀ j, (h : j < L.length) → 1 ≤ j → j < k → (L[j]).1 ≠ 0) := hall
  clear hall
  have fin : ∀ g : Nat, GrabAt L g → g = k → ((GrabAt L 40 ∧ (k : Int) = 40) ∨ (k : Int) ≠ 40) := fun g hg e => by
   subst e
   by_cases e : (g : Int) = 40
   ·have : g = 40 := by omega
    subst this; exact .inl ⟨hg, rfl⟩
   ·exact .inr e
  have HF : Hid (∀ g : Nat, GrabAt L g → g = k → ((GrabAt L 40 ∧ (k : Int) = 40) ∨ (k : Int) ≠ 40)) := fin
  clear fin
  by_cases hlk : k < n
  ·obtain ⟨s, hs'⟩ : ∃ s, s = L[k]'(by rw [HN.out]; exact hlk) := ⟨_, rfl⟩
   obtain ⟨kk, dd, tt⟩ := s
   have hS : SlAt w b (off + k * 3) (kk, dd, tt) := by rw [hs']; exact HC.out k _
   obtain ⟨tv, c1, _, _, _⟩ := hS
   have c1 : w1.cell? ⟨b, off + k * 3, none⟩ = some (.int .i64 kk) := (b1.cell (p := ⟨b, off + k * 3, none⟩) hlt).trans c1
   have HS : Hid ((kk, dd, tt) = L[k]'(by rw [HN.out]; exact hlk)) := hs'
   clear hs'
   have hki : (k : Int) < (n : Int) := by omega
   by_cases h0 : kk = 0
   ·have h0' : (kk != 0) = false := by simp [h0]
    have H0 : Hid (kk = 0) := h0
    clear h0
    have hne : ((k : Int) == 40) = false := by simp; omega
    have HG : Hid (GrabAt L k) := ⟨hk1, by rw [HN.out]; exact hk, HA.out, fun h => by rw [← HS.out]; exact H0.out⟩
    go_wp2
    go_ret2
    exact ⟨.inr ⟨k, by omega, HG.out, rfl⟩, b1⟩
   ·have h0' : (kk != 0) = true := by simp [h0]
    go_wp2
    go_round
    case rel => exact ⟨k + 1, by omega, by omega, by go_num, fun j h hj hj' => by
     by_cases e : j = k
     ·subst e; rw [← HS.out]; exact h0
     ·exact HA.out j h hj (by omega)⟩
    case measure => simp [intOf]; omega
  ·have e4 : k = n := by omega
   subst e4
   have HG : Hid (GrabAt L k) := ⟨hk1, by rw [HN.out]; exact hk, HA.out, fun h => absurd h (by rw [HN.out]; omega)⟩
   by_cases e40 : k = 40
   ·subst e40
    go_wp2
    go_ret2
    exact ⟨.inl ⟨HG.out, rfl⟩, b1⟩
   ·have hne : ((k : Int) == 40) = false := by simp; omega
    go_wp2
    go_ret2
    exact ⟨.inr ⟨k, by omega, HG.out, rfl⟩, b1⟩
theorem grab_ok (v : Value) (L : List SlotD) (w : World) (h : Slots w v L) (hE : slotsE L = 0) :
  Calls Tryz.prog 62 #[v] w fun r w' => ((GrabAt L 40 ∧ r = .returned (.tuple #[.int .i64 0, .int .i64 7])) ∨ ∃ g : Nat, g < 40 ∧ GrabAt L g ∧ r = .returned (.tuple #[.int .i64 g, .int .i64 0])) ∧ Below w.heap.size w w' := by
 have hs := h
 obtain ⟨b, off, cap, rfl, hcp, hlt, hcell⟩ := h.open (slotsE_parts hE).1
 exact grab_at b off cap _ L w rfl (slotsE_parts hE).1 (slotsE_parts hE).2 hlt hcell hs hE
end Go.Proofs.YtehleeibgkpjmaeGreat
namespace Go.Proofs.YtehleeibgkpjmaeGreat
open Go.RowKit Go.Shelf
set_option maxRecDepth 20000
def grabF (L : List SlotD) : Nat → Nat → Nat
 | 0, j => j
 | f + 1, j => if j < L.length ∧ kd L j ≠ 0 then grabF L f (j + 1) else j
def grabN (L : List SlotD) : Nat := grabF L L.length 1
theorem grabF_spec (L : List SlotD) : ∀ (f j : Nat), L.length ≤ j + f → j ≤ L.length → j ≤ grabF L f j ∧ grabF L f j ≤ L.length ∧ (∀ i, j ≤ i → i < grabF L f j → kd L i ≠ 0) ∧ (grabF L f j < L.length → kd L (grabF L f j) = 0)
 | 0, j, h, hj => ⟨Nat.le_refl _, hj, fun i h1 h2 => by simp [grabF] at h2; omega, fun h2 => by simp [grabF] at h2; omega⟩
 | f + 1, j, h, hj => by
  unfold grabF
  by_cases c : j < L.length ∧ kd L j ≠ 0
  ·rw [if_pos c]
   obtain ⟨a, b, d, e⟩ := grabF_spec L f (j + 1) (by omega) (by omega)
   refine ⟨by omega, b, fun i h1 h2 => ?_, e⟩
   by_cases ei : i = j
   ·subst ei; exact c.2
   ·exact d i (by omega) h2
  ·rw [if_neg c]
   refine ⟨Nat.le_refl _, hj, fun i h1 h2 => by omega, fun h2 => ?_⟩
   exact Classical.byContradiction fun x => c ⟨h2, x⟩
theorem kd_getElem {L : List SlotD} {j : Nat} (h : j < L.length) : L[j].1 = kd L j := by unfold kd; simp [List.getD, h]
theorem grabN_spec {L : List SlotD} (h1 : 1 ≤ L.length) : 1 ≤ grabN L ∧ grabN L ≤ L.length ∧ (∀ i, 1 ≤ i → i < grabN L → kd L i ≠ 0) ∧ kd L (grabN L) = 0 := by
 obtain ⟨a, b, c, d⟩ := grabF_spec L L.length 1 (by omega) h1
 refine ⟨a, b, c, ?_⟩
 rcases Nat.lt_or_ge (grabN L) L.length with h | h
 ·exact d h
 ·exact Classical.byContradiction fun x => by have := kd_lt x; omega
theorem grabN_at {L : List SlotD} (h1 : 1 ≤ L.length) : GrabAt L (grabN L) := by
 obtain ⟨a, b, c, d⟩ := grabN_spec h1
 exact ⟨a, b, fun j hj h1 h2 => by rw [kd_getElem hj]; exact c j h1 h2, fun h => by rw [kd_getElem h]; exact d⟩
theorem grabN_le40 {L : List SlotD} (h : slotsE L = 0) : grabN L ≤ 40 := by
 have := slotsE_parts h; have := grabN_spec this.1; omega
def layS (L : List SlotD) (n : Nat) (s : SlotD) : List SlotD := if n = L.length then L ++ [s] else L.set n s
theorem layS_length {L : List SlotD} {n : Nat} {s : SlotD} : (layS L n s).length = if n = L.length then L.length + 1 else L.length := by
 unfold layS; split <;> simp
theorem layS_get {L : List SlotD} {n : Nat} {s : SlotD} (hn : n ≤ L.length) (j : Nat) : (layS L n s).getD j default = if j = n then s else L.getD j default := by
 unfold layS
 by_cases e : n = L.length
 ·rw [if_pos e]
  subst e
  by_cases ej : j = L.length
  ·subst ej; rw [if_pos rfl]; simp [List.getD]
  ·rw [if_neg ej]
   by_cases hj : j < L.length
   ·simp [List.getD, List.getElem?_append, hj]
   ·have a : L.getD j default = default := by simp [List.getD, hj]
    have b : (L ++ [s]).getD j default = default := by
     have : ¬ j < (L ++ [s]).length := by simp; omega
     unfold List.getD
     rw [List.getElem?_eq_none (by omega)]; rfl
    rw [a, b]
 ·rw [if_neg e]
  by_cases ej : j = n
  ·subst ej; rw [if_pos rfl]; simp [List.getD, show j < L.length by omega]
  ·rw [if_neg ej]; simp [List.getD, Ne.symm ej]
theorem layS_kd {L : List SlotD} {n : Nat} {s : SlotD} (hn : n ≤ L.length) (j : Nat) : kd (layS L n s) j = if j = n then s.1 else kd L j := by
 unfold kd; rw [layS_get hn]; split <;> rfl
theorem layS_le {L : List SlotD} {n : Nat} {s : SlotD} (hn : n ≤ L.length) (h40 : L.length ≤ 40) (hn40 : n < 40) : (layS L n s).length ≤ 40 ∧ L.length ≤ (layS L n s).length ∧ n < (layS L n s).length := by
 rw [layS_length]; split <;> omega
theorem ok_tab {es : List Int} (hes : ckE es = 0) (hb : bareL es = false) : okD (2, ⟨#[]⟩, es) = true := by
 have : bareE es = false := by unfold bareE; rw [if_pos hes, hb]
 show slotOK 2 ⟨#[]⟩ es = true
 rw [slotOK_2]
 exact decide_eq_true ⟨hes, this, rfl⟩
theorem ok_page {page : ByteArray} (h : page.size = 4) : okD (1, page, []) = true := by
 show slotOK 1 page [] = true
 unfold slotOK
 rw [if_neg (by decide), if_pos rfl]
 exact decide_eq_true ⟨h, rfl⟩
theorem ext_lay {L : List SlotD} {t : Nat} {es : List Int} (h0 : slotsE L = 0) (ht : t ≤ L.length) (t1 : 1 ≤ t) (t40 : t < 40) (hk : kd L t = 0 ∨ kd L t = 2) (hes : ckE es = 0) (hb : bareL es = false) (hents : ∀ e ∈ es, tabE L e = true) : Ext L (layS L t (2, ⟨#[]⟩, es)) t es := by
 have hp := slotsE_parts h0
 have hle := layS_le (s := (2, ⟨#[]⟩, es)) ht hp.2 t40
 have hpg : kd L t ≠ 1 := by rcases hk with e | e <;> rw [e] <;> decide
 refine ⟨hle.1, fun j hj _ => by rw [layS_get ht, if_neg hj], by rw [layS_get ht, if_pos rfl], hpg, fun j hj => ?_, ?_, fun j hj hk2 => ?_, fun e he => ?_⟩
 ·rw [layS_get ht]
  by_cases ej : j = t
  ·rw [if_pos ej]; exact ok_tab hes hb
  ·rw [if_neg ej]
   have hjl : j < L.length := by rw [layS_length] at hj; split at hj <;> omega
   rw [← getElem_getD hjl]; exact slotsE_all h0 hjl
 ·rw [layS_kd ht, if_neg (by omega)]; exact slot0 h0
 ·rw [layS_kd ht, if_neg hj] at hk2; exact hk2
 ·rcases tabE_cases (hents e he) with e0 | e1 | ⟨j, rfl, hj, hkj⟩
  ·rw [e0]; rfl
  ·rw [e1]; rfl
  ·have j1 : 1 ≤ j := by
    rcases Nat.eq_zero_or_pos j with e | e
    ·subst e; rw [slot0 h0] at hkj; simp at hkj
    ·exact e
   have hjt : j ≠ t := fun e => hpg (by rw [← e]; exact hkj)
   rw [tabE_x (by omega) (by omega)]
   exact isKd_of (by omega) (by rw [layS_kd ht, if_neg hjt]; exact hkj)
theorem ext_write {L : List SlotD} {t d : Nat} {es : List Int} {page : ByteArray} (h0 : slotsE L = 0) (ht : t ≤ L.length) (t1 : 1 ≤ t) (t40 : t < 40) (hk : kd L t = 0 ∨ kd L t = 2) (hes : ckE es = 0) (hb : bareL es = false)
  (hd : d ≤ (layS L t (2, ⟨#[]⟩, es)).length) (d1 : 1 ≤ d) (d40 : d < 40) (hdt : d ≠ t) (hkd : kd L d = 0) (hp4 : page.size = 4) (hents : ∀ e ∈ es, tabE L e = true ∨ e = (d : Int)) : Ext L (layS (layS L t (2, ⟨#[]⟩, es)) d (1, page, [])) t es := by
 have hp := slotsE_parts h0
 have hle := layS_le (s := (2, ⟨#[]⟩, es)) ht hp.2 t40
 have hle2 := layS_le (s := ((1, page, []) : SlotD)) hd hle.1 d40
 have hpg : kd L t ≠ 1 := by rcases hk with e | e <;> rw [e] <;> decide
 refine ⟨hle2.1, fun j hj hkj => ?_, ?_, hpg, fun j hj => ?_, ?_, fun j hj hk2 => ?_, fun e he => ?_⟩
 ·have hjd : j ≠ d := fun e => hkj (by rw [e]; exact hkd)
  rw [layS_get hd, if_neg hjd, layS_get ht, if_neg hj]
 ·rw [layS_get hd, if_neg (fun e => hdt e.symm), layS_get ht, if_pos rfl]
 ·rw [layS_get hd]
  by_cases ed : j = d
  ·rw [if_pos ed]; exact ok_page hp4
  ·rw [if_neg ed, layS_get ht]
   by_cases ej : j = t
   ·rw [if_pos ej]; exact ok_tab hes hb
   ·rw [if_neg ej]
    have hjl : j < L.length := by
     rw [layS_length] at hj
     rw [layS_length] at hj hd
     split at hj <;> split at hj <;> split at hd <;> omega
    rw [← getElem_getD hjl]; exact slotsE_all h0 hjl
 ·rw [layS_kd hd, if_neg (by omega), layS_kd ht, if_neg (by omega)]; exact slot0 h0
 ·rw [layS_kd hd] at hk2
  by_cases ed : j = d
  ·rw [if_pos ed] at hk2; simp at hk2
  ·rw [if_neg ed, layS_kd ht, if_neg hj] at hk2; exact hk2
 ·rcases hents e he with hE | hE
  ·rcases tabE_cases hE with e0 | e1 | ⟨j, rfl, hj, hkj⟩
   ·rw [e0]; rfl
   ·rw [e1]; rfl
   ·have j1 : 1 ≤ j := by
     rcases Nat.eq_zero_or_pos j with e | e
     ·subst e; rw [slot0 h0] at hkj; simp at hkj
     ·exact e
    have hjt : j ≠ t := fun e => hpg (by rw [← e]; exact hkj)
    have hjd : j ≠ d := fun e => by rw [e, hkd] at hkj; simp at hkj
    rw [tabE_x (by omega) (by omega)]
    exact isKd_of (by omega) (by rw [layS_kd hd, if_neg hjd, layS_kd ht, if_neg hjt]; exact hkj)
  ·rw [hE, tabE_x (by omega) (by omega)]
   exact isKd_of hle2.2.2 (by rw [layS_kd hd, if_pos rfl])
theorem count_two {t : Int} : ∀ (l : List Int) (i k : Nat), i < k → k < l.length → l.getD i 0 = t → l.getD k 0 = t → 2 ≤ l.count t
 | [], i, k, _, hk, _, _ => absurd hk (by simp)
 | a :: l, 0, k + 1, _, hk, h1, h2 => by
  have h1 : a = t := by simpa using h1
  have h2 : l.getD k 0 = t := by simpa using h2
  have hk : k < l.length := by simpa using hk
  have : t ∈ l := by rw [← h2, getD_at hk]; exact List.getElem_mem hk
  have := List.count_pos_iff.2 this
  rw [List.count_cons, h1]; simp; omega
 | a :: l, i + 1, k + 1, hik, hk, h1, h2 => by
  have := count_two l i k (by omega) (by simpa using hk) (by simpa using h1) (by simpa using h2)
  rw [List.count_cons]; omega
theorem flatR_app (m : ImgD) : flatR m = m.root ++ m.snaps.flatMap (fun s => s.2.2) := rfl
theorem lone_one {m : ImgD} {k t : Nat} (hk : k < m.root.length) (ht : m.root.getD k 0 = (t : Int)) (hc : (flatR m).count (t : Int) = 1) : Lone m k t := by
 rw [flatR_app, List.count_append] at hc
 have hmem : (t : Int) ∈ m.root := by rw [← ht, getD_at hk]; exact List.getElem_mem hk
 have h1 := List.count_pos_iff.2 hmem
 refine ⟨fun i hi hne e => ?_, fun s hs hm => ?_⟩
 ·have : 2 ≤ m.root.count (t : Int) := by
   rcases Nat.lt_or_ge i k with h | h
   ·exact count_two m.root i k h hk e ht
   ·exact count_two m.root k i (by omega) hi ht e
  omega
 ·have : (t : Int) ∈ m.snaps.flatMap (fun s => s.2.2) := by rw [List.mem_flatMap]; exact ⟨s, hs, hm⟩
  have := List.count_pos_iff.2 this
  omega
theorem lone_free {m : ImgD} {k t : Nat} (h : shapeE m = 0) (t1 : 1 ≤ t) (ht : kd m.slots t = 0) : Lone m k t := by
 have hno : (t : Int) ∉ flatR m := fun hm => by have := (told_root h hm t1).2.1; rw [ht] at this; simp at this
 rw [flatR_app] at hno
 refine ⟨fun i hi _ e => hno (List.mem_append_left _ (by rw [← e, getD_at hi]; exact List.getElem_mem hi)), fun s hs hm => hno (List.mem_append_right _ (by rw [List.mem_flatMap]; exact ⟨s, hs, hm⟩))⟩
def tableO (m : ImgD) (k : Nat) : List Int := if m.root.getD k 0 = 0 then [0, 0, 0, 0] else tabOf m.slots (m.root.getD k 0)
def inPl (m : ImgD) (k : Nat) : Bool := m.root.getD k 0 != 0 && m.refs.getD (m.root.getD k 0).toNat 0 == 1
def tabN (m : ImgD) (k : Nat) : Nat := if inPl m k = true then (m.root.getD k 0).toNat else grabN m.slots
theorem tableO_ok {m : ImgD} (h : shapeE m = 0) {k : Nat} (hk : k < m.root.length) : ckE (tableO m k) = 0 ∧ ∀ e ∈ tableO m k, tabE m.slots e = true := by
 have hr := root_ok h
 unfold tableO
 by_cases hz : m.root.getD k 0 = 0
 ·rw [if_pos hz]
  refine ⟨by decide, fun e he => ?_⟩
  have : e = 0 := by simpa using he
  rw [this]; rfl
 ·rw [if_neg hz]
  have hE := all_at hr.2 hk
  rw [rootE_x hz] at hE
  obtain ⟨j, e, hj, hk2⟩ := isKd_yes hE
  rw [e]
  refine ⟨?_, fun x hx => List.all_eq_true.1 (tab_all (shapeE_zero h).2.2.2.2.2.1 _) x hx⟩
  have := okD_tab (slotsE_all (shapeE_zero h).2.1 hj) hk2
  unfold tabOf
  simpa [List.getD, hj] using this.2
theorem tabN_spec {m : ImgD} (hC : checkE m = 0) {k : Nat} (hk : k < m.root.length) (h40 : tabN m k ≠ 40) : 1 ≤ tabN m k ∧ tabN m k ≤ m.slots.length ∧ tabN m k < 40 ∧ (kd m.slots (tabN m k) = 0 ∨ kd m.slots (tabN m k) = 2) ∧ Lone m k (tabN m k) := by
 obtain ⟨h, hcnt, _⟩ := checkE_zero hC
 obtain ⟨z1, z2, z3, z4, z5, z6, z7⟩ := shapeE_zero h
 have hp := slotsE_parts z2
 unfold tabN at h40 ⊢
 by_cases hi : inPl m k = true
 ·rw [if_pos hi] at h40 ⊢
  unfold inPl at hi
  simp at hi
  obtain ⟨hz, hrf⟩ := hi
  have hz : m.root.getD k 0 ≠ 0 := hz
  have hrf : m.refs.getD (m.root.getD k 0).toNat 0 = 1 := hrf
  have hE := all_at (root_ok h).2 hk
  rcases rootE_cases hE with e | ⟨j, e, hj, hkj⟩
  ·exact absurd e hz
  ·have hmem : (j : Int) ∈ flatR m := by rw [flatR_app]; exact List.mem_append_left _ (by rw [← e, getD_at hk]; exact List.getElem_mem hk)
   rw [e, Int.toNat_natCast] at hrf ⊢
   have j1 : 1 ≤ j := by omega
   have hc1 : (flatR m).count (j : Int) = 1 := by
    rw [← hcnt, cntL_get h j hj] at hrf
    unfold cntI at hrf
    rw [if_neg (by omega), sumT_no z6 _ j1 (by rw [hkj]; decide)] at hrf
    omega
   exact ⟨j1, by omega, by omega, .inr hkj, lone_one hk e hc1⟩
 ·rw [if_neg hi] at h40 ⊢
  obtain ⟨a, b, c, d⟩ := grabN_spec hp.1
  exact ⟨a, b, by omega, .inl d, lone_free h a d⟩
def TailZ (m : ImgD) (k : Nat) (es : List Int) : Prop := k = m.root.length - 1 → m.guest % 4 ≠ 0 → (es.drop (m.guest % 4).toNat).all (fun e => e == 0) = true
theorem tableO_tail {m : ImgD} (h : shapeE m = 0) (k : Nat) : TailZ m k (tableO m k) := by
 intro hk hg
 have hf := List.all_eq_true.1 (shapeE_zero h).2.2.2.2.2.2 (⟨#[]⟩, m.guest, m.root) List.mem_cons_self
 unfold rootFit lastFit at hf
 dsimp only at hf
 simp only [Bool.and_eq_true] at hf
 have hl := hf.2.2
 have hg' : (m.guest % 4 == 0) = false := by simpa using hg
 rw [hg', Bool.false_or, ← hk] at hl
 unfold tableO
 by_cases hz : m.root.getD k 0 = 0
 ·rw [if_pos hz]
  have : ∀ j, ([0, 0, 0, 0] : List Int).drop j = List.replicate (4 - j) 0 := fun j => by
   have : ([0, 0, 0, 0] : List Int) = List.replicate 4 0 := rfl
   rw [this, List.drop_replicate]
  rw [this]; simp
 ·rw [if_neg hz]
  have hz' : (m.root.getD k 0 == 0) = false := by simpa using hz
  rw [hz', Bool.false_or] at hl
  exact hl
theorem tail_set {m : ImgD} {k : Nat} {es : List Int} (h : TailZ m k es) {n : Nat} (hn : (n : Int) < m.guest) (hk : n / 4 = k) (hr : (m.root.length : Int) = (m.guest + 3) / 4) (e : Int) : TailZ m k (es.set (n % 4) e) := by
 intro h1 h2
 have := h h1 h2
 rw [List.drop_set_of_lt (by omega)]
 exact this
theorem set_ck {es : List Int} (h : ckE es = 0) {i : Nat} {e : Int} (he : isE e = true) : ckE (es.set i e) = 0 := by
 refine ckE_yes (by rw [List.length_set]; exact ckE_len h) ?_
 rw [List.all_eq_true]
 intro x hx
 rcases List.mem_or_eq_of_mem_set hx with hm | hm
 ·exact List.all_eq_true.1 (ckE_all h) x hm
 ·rw [hm]; exact he
theorem bare_get {es : List Int} {i : Nat} (hi : i < es.length) (h : es.getD i 0 ≠ 0) : bareL es = false := by
 unfold bareL
 exact not_all_of hi (by simpa using h)
theorem set_get {es : List Int} {i : Nat} (hi : i < es.length) (e : Int) : (es.set i e).getD i 0 = e := by rw [getD_setI, if_pos ⟨rfl, hi⟩]
theorem mem_set {es : List Int} {i : Nat} {e x : Int} (h : x ∈ es.set i e) : x ∈ es ∨ x = e := List.mem_or_eq_of_mem_set h
def rfZ (L : List SlotD) : List Int := List.replicate L.length 0
def tabL (m : ImgD) (k : Nat) (es : List Int) : List SlotD := layS m.slots (tabN m k) (2, ⟨#[]⟩, es)
def tabledD (m : ImgD) (k : Nat) (es : List Int) : Option ImgD :=
 if bareL es = true then some { m with root := m.root.set k 0 } else if tabN m k = 40 then none else some (tabSet m k (tabN m k) (tabL m k es) (rfZ (tabL m k es)))
def wInPl (m : ImgD) (n : Nat) : Bool := decide (0 < lookV m m.root n) && (inPl m (n / 4) && m.refs.getD (lookV m m.root n).toNat 0 == 1)
def wD (m : ImgD) (n : Nat) : Nat := grabN (tabL m (n / 4) (tableO m (n / 4)))
def wEs (m : ImgD) (n : Nat) : List Int := (tableO m (n / 4)).set (n % 4) (wD m n : Int)
def wL (m : ImgD) (n : Nat) (page : ByteArray) : List SlotD := layS (tabL m (n / 4) (wEs m n)) (wD m n) (1, page, [])
def writeD (m : ImgD) (n : Nat) (page : ByteArray) : Option ImgD :=
 if wInPl m n = true then some { m with slots := m.slots.set (lookV m m.root n).toNat (1, page, []) }
 else if tabN m (n / 4) = 40 then none else if wD m n = 40 then none else some (countedD (tabSet m (n / 4) (tabN m (n / 4)) (wL m n page) (rfZ (wL m n page))))
theorem lookV_tableO (m : ImgD) (n : Nat) : lookV m m.root n = (tableO m (n / 4)).getD (n % 4) 0 := by
 unfold lookV tableO
 split
 ·have h4 : n % 4 < 4 := Nat.mod_lt _ (by decide)
  have : ∀ i, i < 4 → ([0, 0, 0, 0] : List Int).getD i 0 = 0 := by decide
  rw [this _ h4]
 ·rfl
theorem write_ext {m : ImgD} (hC : checkE m = 0) {n : Nat} (hn : (n : Int) < m.guest) (h40 : tabN m (n / 4) ≠ 40) (hd40 : wD m n ≠ 40) {page : ByteArray} (hp : page.size = 4) :
  Ext m.slots (wL m n page) (tabN m (n / 4)) (wEs m n) ∧ Lone m (n / 4) (tabN m (n / 4)) ∧ TailZ m (n / 4) (wEs m n) ∧ n / 4 < m.root.length ∧ 1 ≤ wD m n ∧ wD m n < 40 ∧ kd m.slots (wD m n) = 0 ∧ wD m n ≠ tabN m (n / 4) := by
 obtain ⟨h, _, _⟩ := checkE_zero hC
 have hr := root_ok h
 have hg := guest_ok h
 have hk : n / 4 < m.root.length := by omega
 obtain ⟨t1, tl, t40, tk, hl⟩ := tabN_spec hC hk h40
 obtain ⟨ock, oent⟩ := tableO_ok h hk
 have hs := (shapeE_zero h).2.1
 have hp40 := slotsE_parts hs
 have hle := layS_le (s := ((2, ⟨#[]⟩, tableO m (n / 4)) : SlotD)) tl hp40.2 t40
 obtain ⟨d1, dl, dne, dfree⟩ := grabN_spec (L := tabL m (n / 4) (tableO m (n / 4))) (by unfold tabL; omega)
 have hdt : wD m n ≠ tabN m (n / 4) := fun e => by
  have : kd (tabL m (n / 4) (tableO m (n / 4))) (wD m n) = 0 := dfree
  unfold tabL at this
  rw [layS_kd tl, if_pos e] at this
  simp at this
 have hkd : kd m.slots (wD m n) = 0 := by
  have : kd (tabL m (n / 4) (tableO m (n / 4))) (wD m n) = 0 := dfree
  unfold tabL at this
  rw [layS_kd tl, if_neg hdt] at this
  exact this
 have hdl : wD m n ≤ (layS m.slots (tabN m (n / 4)) (2, ⟨#[]⟩, wEs m n)).length := by
  have : wD m n ≤ (tabL m (n / 4) (tableO m (n / 4))).length := dl
  unfold tabL at this
  rw [layS_length] at this ⊢; exact this
 have hd40' : wD m n < 40 := by
  have : wD m n ≤ (tabL m (n / 4) (tableO m (n / 4))).length := dl
  unfold tabL at this; omega
 have hd1 : 1 ≤ wD m n := d1
 have h4 : n % 4 < (tableO m (n / 4)).length := by rw [ckE_len ock]; omega
 have hEd : isE (wD m n : Int) = true := by rw [isE_iff]; omega
 refine ⟨?_, hl, ?_, hk, hd1, hd40', hkd, hdt⟩
 ·refine ext_write hs tl t1 t40 tk (set_ck ock hEd) (bare_get (i := n % 4) (by unfold wEs; rw [List.length_set]; exact h4) (by unfold wEs; rw [set_get h4]; omega)) hdl hd1 hd40' hdt hkd hp (fun e he => ?_)
  rcases mem_set he with hm | hm
  ·exact .inl (oent e hm)
  ·exact .inr hm
 ·exact tail_set (tableO_tail h _) hn rfl hr.1 _
def EntOK (L : List SlotD) (e : Int) : Prop := e = 0 ∨ e = -1 ∨ ∃ j : Nat, e = j ∧ 1 ≤ j ∧ j < L.length ∧ kd L j = 1
structure Laid (m M : ImgD) (k : Nat) (es : List Int) : Prop where
 shape : shapeE M = 0
 guest : M.guest = m.guest
 snaps : M.snaps = m.snaps
 rlen : M.root.length = m.root.length
 look : ∀ q, q / 4 < m.root.length → lookV M M.root q = if q / 4 = k then es.getD (q % 4) 0 else lookV m m.root q
 past : ∀ s ∈ m.snaps, ∀ q, q / 4 < s.2.2.length → lookV M s.2.2 q = lookV m s.2.2 q
 page : ∀ e, EntOK m.slots e → pageV M.slots e = pageV m.slots e
theorem laid_ext {m : ImgD} {k t : Nat} {L' : List SlotD} {es rf : List Int} (h : shapeE m = 0) (hk : k < m.root.length) (hx : Ext m.slots L' t es) (hl : Lone m k t) (hrf : rf.length = L'.length) (hz : TailZ m k es) : Laid m (tabSet m k t L' rf) k es := by
 have hs := (shapeE_zero h).2.1
 have hr := root_ok h
 refine ⟨tabSet_shape h hk hx hl hrf hz, rfl, rfl, by show (m.root.set k _).length = _; rw [List.length_set], fun q hq => look_tabSet hx hs hl hr.2 q hq, fun s hsm q hq => ?_, fun e he => page_ext hx he⟩
 have hf := List.all_eq_true.1 (shapeE_zero h).2.2.2.2.2.2 s (List.mem_cons_of_mem _ hsm)
 unfold rootFit at hf
 simp only [Bool.and_eq_true] at hf
 exact look_snap hx hs hf.2.1 (hl.snap s hsm) q hq
theorem reroot_shape {m : ImgD} (h : shapeE m = 0) {g : Int} {r : List Int} (hg : guestOK g = true) (hf : rootFit m.slots g r = true) : shapeE { m with guest := g, root := r } = 0 := by
 obtain ⟨z1, z2, z3, z4, z5, z6, z7⟩ := shapeE_zero h
 unfold rootsOf at z5 z7
 rw [List.all_cons] at z5 z7
 simp only [Bool.and_eq_true] at z5 z7
 have hgall : (rootsOf { m with guest := g, root := r }).all (fun s => guestOK s.2.1) = true := by
  show (((⟨#[]⟩, g, r) : SnapD) :: m.snaps).all _ = true
  rw [List.all_cons, z5.2, Bool.and_true]; exact hg
 have hall : (rootsOf { m with guest := g, root := r }).all (fun s => rootFit m.slots s.2.1 s.2.2) = true := by
  show (((⟨#[]⟩, g, r) : SnapD) :: m.snaps).all _ = true
  rw [List.all_cons, z7.2, Bool.and_true]; exact hf
 unfold shapeE
 rw [if_neg (by show ¬ 3 < m.snaps.length; omega), if_neg (by show ¬ slotsE m.slots ≠ 0; simpa using z2), if_neg, if_neg (by rw [hgall]; decide), if_neg (by show ¬ tabFit m.slots = false; rw [z6]; decide), if_neg (by show ¬ ((rootsOf { m with guest := g, root := r }).all fun s => rootFit m.slots s.2.1 s.2.2) = false; rw [hall]; decide)]
 rintro (e | e)
 ·exact e z3
 ·have : namesOK m.snaps = false := e
  rw [z4] at this; cases this
theorem rootFit_root {m : ImgD} (h : shapeE m = 0) : rootFit m.slots m.guest m.root = true := List.all_eq_true.1 (shapeE_zero h).2.2.2.2.2.2 (⟨#[]⟩, m.guest, m.root) List.mem_cons_self
theorem guestOK_guest {m : ImgD} (h : shapeE m = 0) : guestOK m.guest = true := List.all_eq_true.1 (shapeE_zero h).2.2.2.2.1 (⟨#[]⟩, m.guest, m.root) List.mem_cons_self
theorem rootFit_zero {L : List SlotD} {g : Int} {r : List Int} (h : rootFit L g r = true) (k : Nat) : rootFit L g (r.set k 0) = true := by
 unfold rootFit at h ⊢
 simp only [Bool.and_eq_true, decide_eq_true_eq] at h ⊢
 refine ⟨by rw [List.length_set]; exact h.1, ?_, ?_⟩
 ·rw [List.all_eq_true]
  intro x hx
  rcases mem_set hx with hm | hm
  ·exact List.all_eq_true.1 h.2.1 x hm
  ·rw [hm]; rfl
 ·have hl := h.2.2
  unfold lastFit at hl ⊢
  rw [List.length_set, getD_setI]
  by_cases e : k = r.length - 1 ∧ r.length - 1 < r.length
  ·rw [if_pos e]; simp
  ·rw [if_neg e]; exact hl
theorem laid_bare {m : ImgD} {k : Nat} {es : List Int} (h : shapeE m = 0) (hb : bareL es = true) : Laid m { m with root := m.root.set k 0 } k es := by
 refine ⟨reroot_shape h (guestOK_guest h) (rootFit_zero (rootFit_root h) k), rfl, rfl, List.length_set, fun q hq => ?_, fun _ _ _ _ => rfl, fun _ _ => rfl⟩
 have hg := getD_setI m.root k (q / 4) 0
 by_cases e : q / 4 = k
 ·rw [if_pos (⟨e.symm, hq⟩ : k = q / 4 ∧ q / 4 < m.root.length)] at hg
  rw [if_pos e]
  unfold lookV
  show (if (m.root.set k 0).getD (q / 4) 0 = 0 then 0 else _) = _
  rw [hg, if_pos rfl]
  unfold bareL at hb
  by_cases hi : q % 4 < es.length
  ·have := List.all_eq_true.1 hb _ (List.getElem_mem hi)
   have e0 : es[q % 4] = 0 := by simpa using this
   rw [getD_at hi, e0]
  ·simp [List.getD, hi]
 ·rw [if_neg (fun x => e x.1.symm)] at hg
  rw [if_neg e]
  unfold lookV
  show (if (m.root.set k 0).getD (q / 4) 0 = 0 then 0 else (tabOf m.slots ((m.root.set k 0).getD (q / 4) 0)).getD (q % 4) 0) = _
  rw [hg]
theorem tabled_laid {m : ImgD} (hC : checkE m = 0) {k : Nat} (hk : k < m.root.length) {es : List Int} (hes : ckE es = 0) (hents : ∀ e ∈ es, tabE m.slots e = true) (hz : TailZ m k es) {M : ImgD} (hM : tabledD m k es = some M) : Laid m M k es ∧ M.slots.length ≤ m.slots.length + 1 := by
 obtain ⟨h, _, _⟩ := checkE_zero hC
 unfold tabledD at hM
 split at hM
 ·rename_i hb
  simp at hM
  subst hM
  exact ⟨laid_bare h hb, Nat.le_succ _⟩
 ·rename_i hb
  have hb : bareL es = false := by simpa using hb
  split at hM
  ·cases hM
  ·rename_i h40
   simp at hM
   subst hM
   obtain ⟨t1, tl, t40, tk, hl⟩ := tabN_spec hC hk h40
   refine ⟨laid_ext h hk (ext_lay (shapeE_zero h).2.1 tl t1 t40 tk hes hb hents) hl (by simp [rfZ, tabL]) hz, ?_⟩
   show (layS _ _ _).length ≤ _
   rw [layS_length]; split <;> omega
theorem snap_fit {m : ImgD} (h : shapeE m = 0) {s : SnapD} (hs : s ∈ rootsOf m) : 0 ≤ s.2.1 ∧ s.2.1 ≤ 16 ∧ (s.2.2.length : Int) = (s.2.1 + 3) / 4 ∧ s.2.2.all (rootE m.slots) = true := by
 have hf := List.all_eq_true.1 (shapeE_zero h).2.2.2.2.2.2 s hs
 have hg := List.all_eq_true.1 (shapeE_zero h).2.2.2.2.1 s hs
 unfold rootFit at hf
 unfold guestOK at hg
 simp only [Bool.and_eq_true, decide_eq_true_eq] at hf hg
 exact ⟨hg.1, hg.2, hf.1, hf.2.1⟩
theorem Laid.allV {m M : ImgD} {k : Nat} {es : List Int} (hL : Laid m M k es) : Go.Proofs.YtehleeibgkpjmaeGreat.allV (countedD M) = allP M M.root m.guest.toNat := by
 unfold Go.Proofs.YtehleeibgkpjmaeGreat.allV
 rw [if_pos (counted_right hL.shape)]
 have := allP_counted hL.shape (s := (⟨#[]⟩, M.guest, M.root)) List.mem_cons_self
 show allP (countedD M) M.root M.guest.toNat = _
 rw [this, hL.guest]
theorem Laid.put {m M : ImgD} {n : Nat} {x : Int} (hC : checkE m = 0) (hn : (n : Int) < m.guest) (hL : Laid m M (n / 4) ((tableO m (n / 4)).set (n % 4) x)) : Go.Proofs.YtehleeibgkpjmaeGreat.allV (countedD M) = (Go.Proofs.YtehleeibgkpjmaeGreat.allV m).set n (pageV M.slots x) := by
 have h := checkE_shape hC
 have hr := root_ok h
 have hg := guest_ok h
 rw [hL.allV]
 unfold Go.Proofs.YtehleeibgkpjmaeGreat.allV
 rw [if_pos hC]
 unfold allP
 apply List.ext_getElem
 ·simp
 ·intro q h1 h2
  have hq : q < m.guest.toNat := by simpa using h1
  rw [List.getElem_set, List.getElem_map, List.getElem_range]
  rw [hL.look q (by omega)]
  have hlen : (tableO m (n / 4)).length = 4 := ckE_len (tableO_ok h (by omega)).1
  by_cases e : n = q
  ·subst e
   rw [if_pos rfl, if_pos rfl, set_get (by rw [hlen]; omega)]
  ·rw [if_neg e]
   simp only [List.getElem_map, List.getElem_range]
   by_cases e4 : q / 4 = n / 4
   ·rw [if_pos e4, getD_setI, if_neg (fun z => e (by omega)), ← e4, ← lookV_tableO]
    exact hL.page _ (lookV_ent h hr.2 q (by omega))
   ·rw [if_neg e4]
    exact hL.page _ (lookV_ent h hr.2 q (by omega))
theorem write_laid {m : ImgD} (hC : checkE m = 0) {n : Nat} (hn : (n : Int) < m.guest) (h40 : tabN m (n / 4) ≠ 40) (hd40 : wD m n ≠ 40) {page : ByteArray} (hp : page.size = 4) :
  Laid m (tabSet m (n / 4) (tabN m (n / 4)) (wL m n page) (rfZ (wL m n page))) (n / 4) (wEs m n) ∧ pageV (wL m n page) (wD m n) = page ∧ (wL m n page).length ≤ m.slots.length + 2 := by
 obtain ⟨hx, hl, hz, hk, d1, d40, hkd, hdt⟩ := write_ext hC hn h40 hd40 hp
 refine ⟨laid_ext (checkE_shape hC) hk hx hl (by simp [rfZ]) hz, ?_, ?_⟩
 ·unfold pageV
  rw [if_neg (by omega), Int.toNat_natCast]
  have hdl : wD m n ≤ (tabL m (n / 4) (wEs m n)).length := by
   obtain ⟨t1, tl, t40, tk, _⟩ := tabN_spec hC hk h40
   have hle := layS_le (s := ((2, ⟨#[]⟩, tableO m (n / 4)) : SlotD)) tl (slotsE_parts (shapeE_zero (checkE_shape hC)).2.1).2 t40
   have := (grabN_spec (L := tabL m (n / 4) (tableO m (n / 4))) (by unfold tabL; omega)).2.1
   unfold tabL at this ⊢
   rw [layS_length] at this ⊢
   exact this
  unfold wL
  rw [layS_get hdl, if_pos rfl]
 ·unfold wL tabL
  rw [layS_length, layS_length]
  split <;> split <;> omega
theorem kd_setP {L : List SlotD} {e : Nat} {page : ByteArray} (hk : kd L e = 1) (j : Nat) : kd (L.set e (1, page, [])) j = kd L j := by
 by_cases h : e = j
 ·subst h
  have := kd_lt (L := L) (j := e) (by rw [hk]; decide)
  rw [hk]; unfold kd; simp [List.getD, this]
 ·unfold kd; simp [List.getD, h]
theorem tab_page {L : List SlotD} (hs : slotsE L = 0) {e : Nat} (hk : kd L e = 1) : (L.getD e default).2.2 = [] := by
 have he := kd_lt (L := L) (j := e) (by rw [hk]; decide)
 have ok := slotsE_all hs he
 rw [getElem_getD he] at ok
 unfold kd at hk
 unfold okD at ok
 rw [hk, slotOK_1] at ok
 simpa using (of_decide_eq_true ok).2
theorem tab_setP {L : List SlotD} (hs : slotsE L = 0) {e : Nat} {page : ByteArray} (hk : kd L e = 1) (x : Int) : tabOf (L.set e (1, page, [])) x = tabOf L x := by
 unfold tabOf
 by_cases h : e = x.toNat
 ·have := kd_lt (L := L) (j := e) (by rw [hk]; decide)
  rw [← h, tab_page hs hk]; simp [List.getD, this]
 ·simp [List.getD, h]
theorem setP_same {m : ImgD} {e : Nat} {page : ByteArray} (hC : checkE m = 0) (hk : kd m.slots e = 1) (hp : page.size = 4) : checkE { m with slots := m.slots.set e (1, page, []) } = 0 ∧ ∀ r q, lookV { m with slots := m.slots.set e (1, page, []) } r q = lookV m r q := by
 obtain ⟨h, hcnt, hfree⟩ := checkE_zero hC
 obtain ⟨z1, z2, z3, z4, z5, z6, z7⟩ := shapeE_zero h
 have he := kd_lt (L := m.slots) (j := e) (by rw [hk]; decide)
 have hkd := fun j => kd_setP (page := page) hk j
 have htab := fun x => tab_setP (page := page) z2 hk x
 have hisKd : ∀ x kind, isKd (m.slots.set e (1, page, [])) x kind = isKd m.slots x kind := fun x kind => by
  have := hkd x.toNat
  unfold kd at this
  unfold isKd
  rw [List.length_set, this]
 have htE : ∀ x, tabE (m.slots.set e (1, page, [])) x = tabE m.slots x := fun x => by unfold tabE; rw [hisKd]
 have hrE : ∀ x, rootE (m.slots.set e (1, page, [])) x = rootE m.slots x := fun x => by unfold rootE; rw [hisKd]
 have hs : slotsE (m.slots.set e (1, page, [])) = 0 := by
  refine slotsE_ok (by rw [List.length_set]; exact (slotsE_parts z2).1) (by rw [List.length_set]; exact (slotsE_parts z2).2) (fun j hj => ?_) ?_
  ·rw [List.length_set] at hj
   rw [List.getElem_set]
   split
   ·exact ok_page hp
   ·exact slotsE_all z2 hj
  ·rw [kd_getElem (by rw [List.length_set]; exact (slotsE_parts z2).1), hkd]; exact slot0 z2
 have hfit : tabFit (m.slots.set e (1, page, [])) = true := by
  unfold tabFit
  rw [List.all_eq_true]
  intro s hsm
  obtain ⟨j, hj, rfl⟩ := List.getElem_of_mem hsm
  rw [List.length_set] at hj
  rw [List.all_eq_true]
  intro x hx
  rw [htE]
  have e1 := htab (j : Int)
  unfold tabOf at e1
  rw [Int.toNat_natCast] at e1
  rw [getElem_getD (by rw [List.length_set]; exact hj), e1] at hx
  exact List.all_eq_true.1 (tab_all z6 (j : Int)) x (by unfold tabOf; rw [Int.toNat_natCast]; exact hx)
 have hrf : ∀ g r, rootFit (m.slots.set e (1, page, [])) g r = rootFit m.slots g r := fun g r => by
  unfold rootFit lastFit
  rw [show rootE (m.slots.set e (1, page, [])) = rootE m.slots from funext hrE]
  simp only [htab]
 have hsh : shapeE { m with slots := m.slots.set e (1, page, []) } = 0 := by
  unfold shapeE
  rw [if_neg (by show ¬ 3 < m.snaps.length; omega), if_neg (by show ¬ slotsE _ ≠ 0; simpa using hs), if_neg, if_neg (by show ¬ (rootsOf m).all _ = false; rw [z5]; decide), if_neg (by show ¬ tabFit _ = false; rw [hfit]; decide), if_neg]
  ·show ¬ ((rootsOf m).all fun s => rootFit (m.slots.set e (1, page, [])) s.2.1 s.2.2) = false
   simp only [hrf]
   rw [z7]; decide
  ·rintro (x | x)
   ·apply x; show m.refs.length = (m.slots.set e _).length; rw [List.length_set]; exact z3
   ·have : namesOK m.snaps = false := x
    rw [z4] at this; cases this
 have hcl : cntL { m with slots := m.slots.set e (1, page, []) } = cntL m := by
  rw [rl_of (cntL_length _), rl_of (cntL_length m)]
  show rl (m.slots.set e _).length _ = _
  rw [List.length_set]
  refine rl_congr fun j hj => ?_
  rw [cntL_get hsh j (by show j < (m.slots.set e _).length; rw [List.length_set]; exact hj), cntL_get h j hj]
  show cntI (m.slots.set e (1, page, [])) (flatR m) j = cntI m.slots (flatR m) j
  unfold cntI
  have : sumT (m.slots.set e (1, page, [])) (flatR m) j = sumT m.slots (flatR m) j := by
   unfold sumT
   rw [List.length_set]
   refine sum_same _ fun q _ => ?_
   unfold toldT
   rw [hkd, htab]
  rw [this]
 refine ⟨?_, fun r q => ?_⟩
 ·unfold checkE
  rw [if_neg (by simpa using hsh), hcl]
  show (if cntL m ≠ m.refs then (9 : Int) else _) = 0
  rw [if_neg (by rw [hcnt]; simp), if_pos]
  rw [List.all_eq_true]
  intro j hj
  have hj : j < m.slots.length := by
   have : j < (m.slots.set e (1, page, [])).length := by simpa using hj
   rwa [List.length_set] at this
  have := hfree j hj
  unfold freeAt at this ⊢
  rw [hcl]
  have e1 := hkd j
  unfold kd at e1
  show (((m.slots.set e (1, page, [])).getD j default).1 == 0) == _
  rw [e1]; exact this
 ·unfold lookV
  show (if r.getD (q / 4) 0 = 0 then (0 : Int) else (tabOf (m.slots.set e (1, page, [])) (r.getD (q / 4) 0)).getD (q % 4) 0) = _
  rw [htab]
def rerootD (M : ImgD) (g : Nat) : ImgD := { M with guest := (g : Int), root := (M.root ++ List.replicate ((g + 3) / 4 - M.root.length) 0).take ((g + 3) / 4) }
def cutD (m : ImgD) (g : Nat) : Option ImgD :=
 if g % 4 ≠ 0 ∧ g / 4 < m.root.length ∧ cutR (tableO m (g / 4)) (g % 4) ≠ tableO m (g / 4) then tabledD m (g / 4) (cutR (tableO m (g / 4)) (g % 4)) else some m
def resizeD (m : ImgD) (g : Nat) : Option ImgD := (cutD m g).map (fun M => countedD (rerootD M g))
theorem reroot_get (M : ImgD) (g j : Nat) (hj : j < (g + 3) / 4) : (rerootD M g).root.getD j 0 = M.root.getD j 0 := by
 show ((M.root ++ List.replicate ((g + 3) / 4 - M.root.length) 0).take ((g + 3) / 4)).getD j 0 = _
 simp only [List.getD, List.getElem?_take, hj, if_true]
 rw [List.getElem?_append]
 split
 ·rfl
 ·rename_i h
  rw [List.getElem?_eq_none (l := M.root) (by omega), List.getElem?_replicate]
  split <;> rfl
theorem reroot_length (M : ImgD) (g : Nat) : (rerootD M g).root.length = (g + 3) / 4 := by
 show ((M.root ++ List.replicate ((g + 3) / 4 - M.root.length) 0).take ((g + 3) / 4)).length = _
 simp; omega
theorem reroot_mem {M : ImgD} {g : Nat} {x : Int} (h : x ∈ (rerootD M g).root) : x = 0 ∨ x ∈ M.root := by
 have h : x ∈ M.root ++ List.replicate ((g + 3) / 4 - M.root.length) 0 := List.mem_of_mem_take h
 rcases List.mem_append.1 h with h | h
 ·exact .inr h
 ·exact .inl (List.mem_replicate.1 h).2
theorem cutR_get {es : List Int} (h4 : es.length = 4) {n : Nat} (hn : n ≤ 4) (i : Nat) : (cutR es n).getD i 0 = if i < n then es.getD i 0 else 0 := by
 unfold cutR
 simp only [List.getD]
 rw [List.getElem?_append, List.length_take]
 by_cases h : i < n
 ·rw [if_pos (by omega), if_pos h, List.getElem?_take, if_pos h]
 ·rw [if_neg (by omega), if_neg h, List.getElem?_replicate]
  split <;> rfl
theorem cutR_mem {es : List Int} {n : Nat} {x : Int} (h : x ∈ cutR es n) : x ∈ es ∨ x = 0 := by
 unfold cutR at h
 rcases List.mem_append.1 h with h | h
 ·exact .inl (List.mem_of_mem_take h)
 ·exact .inr (List.mem_replicate.1 h).2
theorem cutR_ck' {es : List Int} (h : ckE es = 0) {n : Nat} (hn : n ≤ 4) : ckE (cutR es n) = 0 := by
 refine ckE_yes (by unfold cutR; simp; have := ckE_len h; omega) ?_
 rw [List.all_eq_true]
 intro x hx
 rcases cutR_mem hx with hm | hm
 ·exact List.all_eq_true.1 (ckE_all h) x hm
 ·rw [hm]; rfl
theorem drop_zero {es : List Int} {i : Nat} (h : ∀ j, i ≤ j → j < es.length → es.getD j 0 = 0) : (es.drop i).all (fun e => e == 0) = true := by
 rw [List.all_eq_true]
 intro x hx
 obtain ⟨j, hj, rfl⟩ := List.getElem_of_mem hx
 rw [List.getElem_drop]
 simp at hj
 have := h (i + j) (by omega) (by omega)
 rw [getD_at (by omega)] at this
 simpa using this
theorem of_drop_zero {es : List Int} {i : Nat} (h : (es.drop i).all (fun e => e == 0) = true) {j : Nat} (h1 : i ≤ j) : es.getD j 0 = 0 := by
 rcases Nat.lt_or_ge j es.length with hj | hj
 ·have hm : es[j] ∈ es.drop i := by
   rw [List.mem_iff_getElem]
   refine ⟨j - i, by simp; omega, ?_⟩
   rw [List.getElem_drop]; congr 1; omega
  have := List.all_eq_true.1 h _ hm
  rw [getD_at hj]; simpa using this
 ·simp [List.getD, Nat.not_lt.2 hj]
theorem cut_tail {m : ImgD} {k : Nat} {es : List Int} (h : TailZ m k es) (h4 : es.length = 4) {n : Nat} (hn : n ≤ 4) : TailZ m k (cutR es n) := by
 intro h1 h2
 have := h h1 h2
 refine drop_zero fun j hj hl => ?_
 rw [cutR_get h4 hn]
 split
 ·exact of_drop_zero this hj
 ·rfl
theorem cut_laid {m : ImgD} (hC : checkE m = 0) {g : Nat} {M : ImgD} (hM : cutD m g = some M) : (∃ es, Laid m M (g / 4) es ∧ (g / 4 < m.root.length → ∀ i, es.getD i 0 = if g % 4 = 0 ∨ i < g % 4 then (tableO m (g / 4)).getD i 0 else 0)) ∧ M.slots.length ≤ m.slots.length + 1 := by
 have h := checkE_shape hC
 unfold cutD at hM
 split at hM
 ·rename_i hc
  obtain ⟨h1, h2, h3⟩ := hc
  obtain ⟨ock, oent⟩ := tableO_ok h h2
  have h4 := ckE_len ock
  obtain ⟨hL, hlen⟩ := tabled_laid hC h2 (cutR_ck' ock (by omega)) (fun e he => (cutR_mem he).elim (fun hm => oent e hm) (fun hm => by rw [hm]; rfl)) (cut_tail (tableO_tail h _) h4 (by omega)) hM
  refine ⟨⟨_, hL, fun _ i => ?_⟩, hlen⟩
  rw [cutR_get h4 (by omega)]
  by_cases hi : i < g % 4
  ·rw [if_pos hi, if_pos (.inr hi)]
  ·rw [if_neg hi, if_neg (fun x => x.elim h1 hi)]
 ·rename_i hc
  simp at hM
  subst hM
  refine ⟨⟨tableO m (g / 4), ⟨h, rfl, rfl, rfl, fun q hq => ?_, fun _ _ _ _ => rfl, fun _ _ => rfl⟩, fun hk i => ?_⟩, Nat.le_succ _⟩
  ·by_cases e : q / 4 = g / 4
   ·rw [if_pos e, ← e, ← lookV_tableO]
   ·rw [if_neg e]
  ·by_cases hg : g % 4 = 0
   ·rw [if_pos (.inl hg)]
   ·have hce : cutR (tableO m (g / 4)) (g % 4) = tableO m (g / 4) := Classical.byContradiction fun x => hc ⟨hg, hk, x⟩
    have h4 := ckE_len (tableO_ok h hk).1
    have e := cutR_get h4 (n := g % 4) (by omega) i
    rw [hce] at e
    by_cases hi : i < g % 4
    ·rw [if_pos (.inr hi)]
    ·rw [if_neg (fun x => x.elim hg hi), e, if_neg hi]
theorem tab_look {M : ImgD} {k i : Nat} (hz : M.root.getD k 0 ≠ 0) (hi : i < 4) : (tabOf M.slots (M.root.getD k 0)).getD i 0 = lookV M M.root (4 * k + i) := by
 unfold lookV
 have e1 : (4 * k + i) / 4 = k := by omega
 have e2 : (4 * k + i) % 4 = i := by omega
 rw [e1, e2, if_neg hz]
theorem resize_shape {m : ImgD} (hC : checkE m = 0) {g : Nat} (hg : g ≤ 16) {M : ImgD} (hM : cutD m g = some M) : shapeE (rerootD M g) = 0 := by
 have h := checkE_shape hC
 obtain ⟨⟨es, hL, hes⟩, _⟩ := cut_laid hC hM
 have hrM := root_ok hL.shape
 refine reroot_shape hL.shape (by unfold guestOK; exact decide_eq_true (by omega)) ?_
 show rootFit M.slots (g : Int) (rerootD M g).root = true
 unfold rootFit
 simp only [Bool.and_eq_true, decide_eq_true_eq]
 refine ⟨by rw [reroot_length]; omega, ?_, ?_⟩
 ·rw [List.all_eq_true]
  intro x hx
  rcases reroot_mem hx with e | e
  ·rw [e]; rfl
  ·exact List.all_eq_true.1 hrM.2 x e
 ·unfold lastFit
  by_cases hg4 : g % 4 = 0
  ·have : ((g : Int) % 4 == 0) = true := by simp; omega
   rw [this]; rfl
  ·have hw : (g + 3) / 4 - 1 = g / 4 := by omega
   rw [reroot_length, hw, reroot_get M g _ (by omega)]
   have hgm : ((g : Int) % 4).toNat = g % 4 := by omega
   rw [hgm]
   by_cases hz : M.root.getD (g / 4) 0 = 0
   ·rw [hz]; simp
   ·have hk : g / 4 < M.root.length := by
     rcases Nat.lt_or_ge (g / 4) M.root.length with h' | h'
     ·exact h'
     ·exact absurd (by simp [List.getD, Nat.not_lt.2 h']) hz
    have hkm : g / 4 < m.root.length := by rw [← hL.rlen]; exact hk
    have hE := all_at hrM.2 hk
    rw [rootE_x hz] at hE
    have h4 := tab_len (shapeE_zero hL.shape).2.1 hE
    have : ((tabOf M.slots (M.root.getD (g / 4) 0)).drop (g % 4)).all (fun e => e == 0) = true := by
     refine drop_zero fun j hj hl => ?_
     rw [h4] at hl
     rw [tab_look hz hl, hL.look _ (by omega), if_pos (by omega), show (4 * (g / 4) + j) % 4 = j by omega, hes hkm, if_neg (by omega)]
    rw [this]; simp
theorem OI.far {W : World} {B : Nat} {val : Nm → Value} {m : ImgD} (h : OI W B val m) {g i : Nat} {u : Value} (hg : ∀ a, Live m a → (val a).ownBlock ≠ some g) : OI (W.setCell ⟨g, i, none⟩ u) B val m :=
 ⟨fun a ha => ownsRow_setCell_other (h.row a ha) (hg a ha) u, h.apart⟩
theorem OI.lt {W : World} {B : Nat} {val : Nm → Value} {m : ImgD} (h : OI W B val m) {g : Nat} (hg : W.heap.size ≤ g) : ∀ a, Live m a → (val a).ownBlock ≠ some g := fun a ha e => by
 have := ((h.row a ha).lt g e).2
 omega
theorem row_some {W : World} {B : Nat} {e : TypeId} {size n : Nat} {v : Value} {xs : List Value} (h : W.ownsRow B e size v (n + 1) xs) : ∃ g cap, v = .slice (some ⟨g, 0, none⟩) (n + 1) cap := by
 rcases row_form h with ⟨_, e⟩ | ⟨g, cap, e, _⟩
 ·cases e
 ·exact ⟨g, cap, e⟩
theorem cells_frozen {W : World} {b : Nat} {A : Array Value} {t : TypeId} (h : W.heap[b]? = some (.cells A t)) (i : Nat) : W.frozen? ⟨b, i, none⟩ = false := by simp [World.frozen?, h]
def OKeep (w w' : World) (m : ImgD) (val : Nm → Value) : Prop := ∀ q, q < w.heap.size → (∀ a, Live m a → (val a).ownBlock ≠ some q) → w'.heap[q]? = w.heap[q]?
theorem OKeep.refl (w : World) (m : ImgD) (val : Nm → Value) : OKeep w w m val := fun _ _ _ => rfl
theorem OKeep.alloc {w W : World} {m : ImgD} {val : Nm → Value} (h : OKeep w W m val) (hs : w.heap.size ≤ W.heap.size) (o : Obj) : OKeep w (W.alloc o) m val := fun q hq hn => (Below.heap_alloc W o q (by omega)).trans (h q hq hn)
theorem OKeep.own {w W : World} {m : ImgD} {val : Nm → Value} (h : OKeep w W m val) {a : Nm} (ha : Live m a) {g n c : Nat} (hg : val a = .slice (some ⟨g, 0, none⟩) n c) {i : Nat} {v : Value} : OKeep w (W.setCell ⟨g, i, none⟩ v) m val := fun q hq hn =>
 (Below.heap_setCell W ⟨g, i, none⟩ v q (fun e => hn a ha (by rw [hg]; exact congrArg some e.symm))).trans (h q hq hn)
theorem OKeep.new {w W : World} {m : ImgD} {val : Nm → Value} (h : OKeep w W m val) {g i : Nat} (hg : w.heap.size ≤ g) {v : Value} : OKeep w (W.setCell ⟨g, i, none⟩ v) m val := fun q hq hn =>
 (Below.heap_setCell W ⟨g, i, none⟩ v q (fun e => by have e : q = g := e; omega)).trans (h q hq hn)
theorem OKeep.grown {w W W' : World} {m : ImgD} {val : Nm → Value} (h : OKeep w W m val) (hs : w.heap.size ≤ W.heap.size) {a : Nm} (ha : Live m a) {v : Value} (hv : val a = v) (hg : W.grownBy W' v.ownBlock) : OKeep w W' m val := fun q hq hn =>
 (hg.block q (by omega) (fun e => hn a ha (by rw [hv]; exact e.symm))).trans (h q hq hn)
theorem OKeep.below {w W W' : World} {m : ImgD} {val : Nm → Value} (h : OKeep w W m val) {n : Nat} (hs : w.heap.size ≤ n) (hg : Below n W W') : OKeep w W' m val := fun q hq hn => (hg.block q (by omega)).trans (h q hq hn)
theorem OI.forms {W : World} {B : Nat} {val : Nm → Value} {m : ImgD} (h : OI W B val m) (a : Nm) (ha : Live m a) : ∃ ao cap, val a = .slice ao (rowN m a) cap ∧ (0 < rowN m a → ∃ g, ao = some ⟨g, 0, none⟩) := by
 rcases row_form (h.row a ha) with ⟨e, hn⟩ | ⟨g, cap, e, _⟩
 ·exact ⟨none, 0, by rw [e, hn], fun hp => absurd hp (by omega)⟩
 ·exact ⟨_, cap, e, fun _ => ⟨g, rfl⟩⟩
theorem new_row (W : World) (l : List Int) (hl : l.length ≤ 1000) {B : Nat} (hB : B ≤ W.heap.size) : (W.alloc (.cells (ints l).toArray 3)).ownsRow B 3 1 (.slice (some ⟨W.heap.size, 0, none⟩) l.length l.length) l.length (ints l) :=
 ⟨by simp [ints_length], .inr ⟨W.heap.size, l.length, (ints l).toArray, rfl, hB, World.alloc_heap_new _ _, Nat.le_refl _, by unfold maxLen; omega, by simp [ints_length], by rw [Nat.mul_one]; exact List.take_of_length_le (by simp [ints_length])⟩⟩
def Fresh (w : World) (v : Value) : Prop := ∀ g, v.ownBlock = some g → w.heap.size ≤ g
set_option maxHeartbeats 4000000 in
theorem tableOf_none (gm : Int) (ra : Option Addr) (rn rc : Nat) (sa : Option Addr) (sn sc : Nat) (fa : Option Addr) (fn fc : Nat) (na : Option Addr) (nn nc : Nat) (w : World) :
  Calls Tryz.prog 43 #[.agg #[.int .i64 gm, .slice ra rn rc, .slice sa sn sc, .slice fa fn fc, .slice na nn nc], .int .i64 0] w fun r w' => ∃ v, r = .returned v ∧ w'.ownsRow w.heap.size 3 1 v 4 (ints [0, 0, 0, 0]) ∧ Fresh w v ∧ Below w.heap.size w w' := by
 go_enter Tryz.func43, Tryz.ntmps43
 have hmk : ∀ w, (Instr.makeSlice 23 (.int .i64 4) (.int .i64 4)).run Tryz.prog w = .ok (.slice (some ⟨w.heap.size, 0, none⟩) 4 4) (w.alloc (.cells #[.int .i64 0, .int .i64 0, .int .i64 0, .int .i64 0] 3)) := fun _ => by kernel_rfl
 go_wp2_with fail
 go_ret
 have hr := new_row (w.alloc (.cells #[.int .i64 gm, .slice ra rn rc, .slice sa sn sc, .slice fa fn fc, .slice na nn nc] 27)) [0, 0, 0, 0] (by decide) (B := w.heap.size) (by simp)
 rw [show (w.alloc (.cells #[.int .i64 gm, .slice ra rn rc, .slice sa sn sc, .slice fa fn fc, .slice na nn nc] 27)).heap.size = w.heap.size + 1 by simp] at hr
 refine ⟨.slice (some ⟨w.heap.size + 1, 0, none⟩) 4 4, rfl, hr, fun g e => by cases e; show w.heap.size ≤ w.heap.size + 1; omega, ((Below.refl _ _).alloc (Nat.le_refl _) _).alloc (by simp) _⟩
set_option maxHeartbeats 4000000 in
theorem tableOf_some (gm : Int) (ra : Option Addr) (rn rc : Nat) (sa : Option Addr) (sn sc : Nat) (fa : Option Addr) (fn fc : Nat) (na : Option Addr) (nn nc : Nat) (L : List SlotD) (t b off : Nat) (w : World) (ht : 1 ≤ t) (htl : t < L.length) (hsa : sa = some ⟨b, off, none⟩) (hsn : L.length ≤ sn) (hb : b < w.heap.size) (tv : Value) (hc : w.cell? ⟨b, off + t * 3 + 2, none⟩ = some tv) (es : List Int) (hes : Sl w tv es) (hel : es.length ≤ 1000) :
  Calls Tryz.prog 43 #[.agg #[.int .i64 gm, .slice ra rn rc, .slice sa sn sc, .slice fa fn fc, .slice na nn nc], .int .i64 (t : Int)] w fun r w' => ∃ v, r = .returned v ∧ w'.ownsRow w.heap.size 3 1 v es.length (ints es) ∧ Fresh w v ∧ Below w.heap.size w w' := by
 subst hsa
 have t0 : ¬ (t : Int) = 0 := by omega
 have tb : ((t : Int) == 0) = false := by simp; omega
 have t1 : (t : Int) < (sn : Int) := by omega
 have m0 : (w.alloc (.cells #[.int .i64 gm, .slice ra rn rc, .slice (some ⟨b, off, none⟩) sn sc, .slice fa fn fc, .slice na nn nc] 27)).heap[w.heap.size]? = some (.cells #[.int .i64 gm, .slice ra rn rc, .slice (some ⟨b, off, none⟩) sn sc, .slice fa fn fc, .slice na nn nc] 27) := World.alloc_heap_new _ _
 obtain ⟨c0, c1, c2, c3, c4⟩ := five m0
 have b0 : Below w.heap.size w (w.alloc (.cells #[.int .i64 gm, .slice ra rn rc, .slice (some ⟨b, off, none⟩) sn sc, .slice fa fn fc, .slice na nn nc] 27)) := (Below.refl _ _).alloc (Nat.le_refl _) _
 have hcA : ((w.alloc (.cells #[.int .i64 gm, .slice ra rn rc, .slice (some ⟨b, off, none⟩) sn sc, .slice fa fn fc, .slice na nn nc] 27)).alloc (.cells #[] 3)).cell? ⟨b, off + t * 3 + 2, none⟩ = some tv := ((b0.alloc (by simp) _).cell (p := ⟨b, off + t * 3 + 2, none⟩) hb).trans hc
 go_enter Tryz.func43, Tryz.ntmps43
 go_wp2_with (at_builtin; refine wpList_copy (by rfl) _ _ (by rfl) (g := w.heap.size + 1) (B := w.heap.size) (by rfl) (by have := World.alloc_heap_new (w.alloc (.cells #[.int .i64 gm, .slice ra rn rc, .slice (some ⟨b, off, none⟩) sn sc, .slice fa fn fc, .slice na nn nc] 27)) (.cells #[] 3); simpa using this) (by omega) (src := tv) (xs := es) (by rfl) (hes.below (b0.alloc (by simp) _)) hel ?_; intro v1 w1 h1 h2 h3)
 go_ret
 refine ⟨v1, rfl, h1.out, fun g e => ?_, Below.grown (b0.alloc (by simp) _) h2 (by simp <;> omega) (fun q e => by cases e; omega)⟩
 rcases h3.out with x | x
 ·rw [x] at e; cases e; omega
 ·rw [x] at e; simp at e; omega
def tabAt (L : List SlotD) (t : Nat) : List Int := if t = 0 then [0, 0, 0, 0] else (L.getD t default).2.2
theorem tableOf_is {v : Value} {m : ImgD} {w : World} (h : Img w v m) {t : Nat} (ht : t < m.slots.length) (hl : (tabAt m.slots t).length ≤ 1000) :
  Calls Tryz.prog 43 #[v, .int .i64 (t : Int)] w fun r w' => ∃ v, r = .returned v ∧ w'.ownsRow w.heap.size 3 1 v (tabAt m.slots t).length (ints (tabAt m.slots t)) ∧ Fresh w v ∧ Below w.heap.size w w' := by
 obtain ⟨rv, sv, fv, nv, rfl, ⟨ra, rc, rfl, _⟩, ⟨sa, sc, rfl, _, _, hs⟩, ⟨fa, fc, rfl, _⟩, ⟨na, nc, rfl, _⟩⟩ := h
 unfold tabAt at hl ⊢
 by_cases e : t = 0
 ·subst e
  rw [if_pos rfl] at hl ⊢
  exact tableOf_none _ _ _ _ _ _ _ _ _ _ _ _ _ w
 ·rw [if_neg e] at hl ⊢
  obtain ⟨b, off, ha, hb, hc⟩ := hs (by intro x; rw [x] at ht; simp at ht)
  obtain ⟨tv, _, _, h3, h4⟩ := hc t ht
  have eg : m.slots[t] = m.slots.getD t default := by simp [List.getD, ht]
  rw [eg] at h4
  exact tableOf_some _ _ _ _ _ _ _ _ _ _ _ _ _ m.slots t b off w (by omega) ht ha (Nat.le_refl _) hb tv h3 _ h4 hl
def frT (m : ImgD) (k : Nat) : ImgD := { m with refs := cntL m, slots := (List.range m.slots.length).map (fun j => if j < k ∧ (cntL m).getD j 0 = 0 then slotZ else m.slots.getD j default) }
theorem frT_length (m : ImgD) (k : Nat) : (frT m k).slots.length = m.slots.length := by simp [frT]
theorem frT_get (m : ImgD) (k : Nat) {j : Nat} (hj : j < m.slots.length) : (frT m k).slots.getD j default = if j < k ∧ (cntL m).getD j 0 = 0 then slotZ else m.slots.getD j default := by
 unfold frT
 simp only [List.getD, List.getElem?_map, List.getElem?_range hj, Option.map_some, Option.getD_some]
theorem slots_ext {L M : List SlotD} (hl : L.length = M.length) (h : ∀ j, j < L.length → L.getD j default = M.getD j default) : L = M := by
 apply List.ext_getElem hl
 intro j h1 h2
 have := h j h1
 simpa [List.getD, h1, h2] using this
theorem frT_zero (m : ImgD) : frT m 0 = { m with refs := cntL m } := by
 have e : (frT m 0).slots = m.slots := slots_ext (frT_length m 0) (fun j hj => by
  rw [frT_length] at hj
  rw [frT_get m 0 hj, if_neg (by omega)])
 show ImgD.mk _ _ (frT m 0).slots _ _ = _
 rw [e]
theorem frT_end (m : ImgD) : frT m m.slots.length = countedD m := by
 have e : (frT m m.slots.length).slots = freeUn m.slots (cntL m) := slots_ext (by rw [frT_length, freeUn_length]) (fun j hj => by
  rw [frT_length] at hj
  rw [frT_get m _ hj, freeUn_get hj]
  by_cases c : (cntL m).getD j 0 = 0
  ·rw [if_pos ⟨hj, c⟩, if_pos c]
  ·rw [if_neg (fun x => c x.2), if_neg c])
 show ImgD.mk _ _ (frT m m.slots.length).slots _ _ = _
 rw [e]; rfl
theorem frT_gone (m : ImgD) {k : Nat} (hc : (cntL m).getD k 0 = 0) : frT m (k + 1) = { frT m k with slots := (frT m k).slots.set k slotZ } := by
 have e : (frT m (k + 1)).slots = (frT m k).slots.set k slotZ := slots_ext (by rw [List.length_set, frT_length, frT_length]) (fun j hj => by
  rw [frT_length] at hj
  rw [getD_setR, frT_get m _ hj, frT_length]
  by_cases e : k = j
  ·subst e; rw [if_pos ⟨by omega, hc⟩, if_pos ⟨rfl, hj⟩]
  ·rw [show (if k = j ∧ j < m.slots.length then slotZ else (frT m k).slots.getD j default) = (frT m k).slots.getD j default from if_neg (fun x => e x.1), frT_get m k hj]
   by_cases c : (cntL m).getD j 0 = 0
   ·by_cases l : j < k
    ·rw [if_pos ⟨by omega, c⟩, if_pos ⟨l, c⟩]
    ·rw [if_neg (by omega), if_neg (fun x => l x.1)]
   ·rw [if_neg (fun x => c x.2), if_neg (fun x => c x.2)])
 show ImgD.mk _ _ (frT m (k + 1)).slots _ _ = _
 rw [e]; rfl
theorem frT_kept (m : ImgD) {k : Nat} (hc : (cntL m).getD k 0 ≠ 0) : frT m (k + 1) = frT m k := by
 have e : (frT m (k + 1)).slots = (frT m k).slots := slots_ext (by rw [frT_length, frT_length]) (fun j hj => by
  rw [frT_length] at hj
  rw [frT_get m _ hj, frT_get m _ hj]
  by_cases c : (cntL m).getD j 0 = 0
  ·have : j ≠ k := fun x => hc (by rw [← x]; exact c)
   by_cases l : j < k
   ·rw [if_pos ⟨by omega, c⟩, if_pos ⟨l, c⟩]
   ·rw [if_neg (by omega), if_neg (fun x => l x.1)]
  ·rw [if_neg (fun x => c x.2), if_neg (fun x => c x.2)])
 show ImgD.mk _ _ (frT m (k + 1)).slots _ _ = _
 rw [e]; rfl
theorem cells_set {W : World} {b : Nat} {A : Array Value} {t : TypeId} (h : W.heap[b]? = some (.cells A t)) (i : Nat) (v : Value) : (W.setCell ⟨b, i, none⟩ v).heap[b]? = some (.cells (A.setIfInBounds i v) t) := by
 obtain ⟨hlt, hk⟩ := Array.getElem?_eq_some_iff.1 h
 show (W.heap.modify b _)[b]? = _
 rw [Array.getElem?_eq_getElem (by rw [Array.size_modify]; exact hlt), Array.getElem_modify_self, hk]
 simp
theorem cells_other {W : World} {b : Nat} {o : Option Obj} (h : W.heap[b]? = o) {g : Nat} (hg : b ≠ g) (i : Nat) (v : Value) : (W.setCell ⟨g, i, none⟩ v).heap[b]? = o := (Below.heap_setCell W ⟨g, i, none⟩ v b hg).trans h
theorem row_LAt {W : World} {g : Nat} {l : List Int} (h : LAt W g l) {B : Nat} (hB : B ≤ g) (hl : l.length ≤ 1000) : W.ownsRow B 3 1 (.slice (some ⟨g, 0, none⟩) l.length l.length) l.length (ints l) :=
 ⟨by simp [ints_length], .inr ⟨g, l.length, (ints l).toArray, rfl, hB, h, Nat.le_refl _, by unfold maxLen; omega, by simp [ints_length], by rw [Nat.mul_one]; exact List.take_of_length_le (by simp [ints_length])⟩⟩
end Go.Proofs.YtehleeibgkpjmaeGreat
