/- Slots: what a right slot is; contracts of the rules, of isRight and of Check. -/
import Derived.Test.YtehleeibgkpjmabBare
import Derived.MapKept
namespace Go.Proofs.Ytehleeibgkpjmab
open Go.RowKit
set_option maxRecDepth 20000

/-- Is a slot right: its kind, its data, its table? -/
def slotOK (k : Int) (d : ByteArray) (xs : List Int) : Bool :=
  if k = 0 then decide (d.size = 0 ∧ xs.length = 0)
  else if k = 1 then decide (d.size = 4 ∧ xs.length = 0)
  else if k = 2 then decide (ckE xs = 0 ∧ bareE xs = false ∧ d.size = 0)
  else false

theorem ba_nil (d : ByteArray) : d.toList = [] ↔ d.size = 0 := by
  rw [ByteArray.toList_eq, ByteArray.size_eq_zero_iff]
  constructor
  · intro h; exact ByteArray.ext (Array.toList_inj.1 h)
  · rintro rfl; rfl
theorem ba_isEmpty (d : ByteArray) : d.toList.isEmpty = decide (d.size = 0) := by
  rw [Bool.eq_iff_iff, List.isEmpty_iff, ba_nil]; simp

theorem upd_ex {P : Program} {w0 w : World} {B : Nat} (mty kt et : TypeId) (r clock : Nat) (es : Array MapEntry) (k : Int) (val : Value) (hm : P.underlying mty = some (.map kt et)) (hk : P.underlying kt = some (.int .i64)) (hb : w.heap[r]? = some (.map es clock))
    (hf : Instr.findNow (.int .i64) (.int .i64 k) es.toList 0 = some none) (hB : B ≤ r) (hbel : Below B w0 w) :
    ∃ W, (Instr.mapUpdate mty (.map (some r)) (.int .i64 k) val).run P w = .ok () W ∧ W.heap[r]? = some (.map (es.push { key := .int .i64 k, val := val, born := clock }) (clock + 1)) ∧ Below B w0 W ∧ W.heap.size = w.heap.size := by
  have hc : (Instr.checkKey false 10000 kt (.int .i64 k)).run P w = .ok () w := MapKept.run_checkKey (k := .int .i64 k) hk (by simp [MapKept.IsKey]) false 9999
  refine ⟨{ w with heap := w.heap.setIfInBounds r (.map (es.push { key := .int .i64 k, val := val, born := clock }) (clock + 1)) }, ?_, ?_, ?_, by simp⟩
  · simp [Instr.mapUpdate, run_underlying hm, MapKept.run_getObj_map hb, hc, MapKept.run_findKey hk hf, MapKept.run_setObj_map _ hb, Result.andThen]
  · have hlt : r < w.heap.size := (Array.getElem?_eq_some_iff.1 hb).1
    simp [hlt]
  · refine hbel.trans ⟨rfl, rfl, rfl, by simp, fun j hj => ?_⟩
    show (w.heap.setIfInBounds r _)[j]? = _
    rw [Array.getElem?_setIfInBounds_ne (by omega)]

theorem look_run {P : Program} {w : World} (mty kt et : TypeId) (r clock : Nat) (es : Array MapEntry) (k : Int) (v : Value) (i : Nat) (hm : P.underlying mty = some (.map kt et)) (hk : P.underlying kt = some (.int .i64)) (hb : w.heap[r]? = some (.map es clock))
    (hf : Instr.findNow (.int .i64) (.int .i64 k) es.toList 0 = some (some (i, v))) :
    (Instr.lookup mty (.map (some r)) (.int .i64 k) true).run P w = .ok (.tuple #[v, .bool true]) w := by
  have hc : (Instr.checkKey es.isEmpty 10000 kt (.int .i64 k)).run P w = .ok () w := MapKept.run_checkKey (k := .int .i64 k) hk (by simp [MapKept.IsKey]) _ 9999
  simp [Instr.lookup, run_underlying hm, MapKept.run_getObj_map hb, hc, MapKept.run_findKey hk hf, Result.andThen]
theorem look_none {P : Program} {w : World} (mty kt et : TypeId) (r clock : Nat) (es : Array MapEntry) (k : Int) (z : Value) (hm : P.underlying mty = some (.map kt et)) (hk : P.underlying kt = some (.int .i64)) (hb : w.heap[r]? = some (.map es clock))
    (hf : Instr.findNow (.int .i64) (.int .i64 k) es.toList 0 = some none) (hz : (zeroValue et).run P w = .ok z w) :
    (Instr.lookup mty (.map (some r)) (.int .i64 k) true).run P w = .ok (.tuple #[z, .bool false]) w := by
  have hc : (Instr.checkKey es.isEmpty 10000 kt (.int .i64 k)).run P w = .ok () w := MapKept.run_checkKey (k := .int .i64 k) hk (by simp [MapKept.IsKey]) _ 9999
  simp [Instr.lookup, run_underlying hm, MapKept.run_getObj_map hb, hc, MapKept.run_findKey hk hf, hz, Result.andThen]

def RULES : Array MapEntry := #[{ key := .int .i64 0, val := .func (.func 66) #[] #[], born := 0 }, { key := .int .i64 1, val := .func (.func 67) #[] #[], born := 1 }, { key := .int .i64 2, val := .func (.func 68) #[] #[], born := 2 }]

theorem rules_any (w : World) : Calls Try.prog 53 #[] w fun r w' => r = .returned (.map (some w.heap.size)) ∧ w'.heap[w.heap.size]? = some (.map RULES 3) ∧ Below w.heap.size w w' ∧ w'.heap.size = w.heap.size + 1 := by
  have hmm := @run_makeMap Try.prog
  have g0 := heap_alloc_new w (.map #[] 0)
  obtain ⟨W1, u1, g1, b1, z1⟩ := upd_ex (P := Try.prog) (w := w.alloc (.map #[] 0)) 71 3 80 w.heap.size 0 #[] 0 (.func (.func 66) #[] #[]) Try.underlying71 Try.underlying3 g0 rfl (Nat.le_refl _) ((Below.refl _ w).alloc (Nat.le_refl _) _)
  obtain ⟨W2, u2, g2, b2, z2⟩ := upd_ex (P := Try.prog) (w := W1) 71 3 80 w.heap.size 1 _ 1 (.func (.func 67) #[] #[]) Try.underlying71 Try.underlying3 g1 rfl (Nat.le_refl _) b1
  obtain ⟨W3, u3, g3, b3, z3⟩ := upd_ex (P := Try.prog) (w := W2) 71 3 80 w.heap.size 2 _ 2 (.func (.func 68) #[] #[]) Try.underlying71 Try.underlying3 g2 rfl (Nat.le_refl _) b2
  have HZ : Hid (W3.heap.size = w.heap.size + 1) := by show _ = _; rw [z3, z2, z1]; simp
  have HG : Hid (W3.heap[w.heap.size]? = some (.map RULES 3)) := g3
  clear g0 g1 g2 g3 b1 b2 z1 z2 z3
  go_enter Try.func53, Try.ntmps53
  go_wp2
  go_ret
  exact ⟨rfl, HG.out, b3, HZ.out⟩

/-- The three rules. -/
theorem rule1_any (k : Int) (d : ByteArray) (ao : Option Addr) (n cap : Nat) (w : World) :
    Calls Try.prog 66 #[.agg #[.int .i64 k, .string d, .slice ao n cap]] w fun r w' => r = .returned (.bool (decide (d.size = 0 ∧ n = 0))) ∧ Below w.heap.size w w' := by
  by_cases hd : d.size = 0
  · have h1 : d.toList.isEmpty = true := by rw [ba_isEmpty]; simp [hd]
    have HD : Hid (d.size = 0) := hd
    clear hd
    go_enter Try.func66, Try.ntmps66
    go_wp2
    go_ret
    exact ⟨ret_bool (by simp [HD.out]), (Below.refl _ _).alloc (Nat.le_refl _) _⟩
  · have h1 : d.toList.isEmpty = false := by rw [ba_isEmpty]; simp [hd]
    go_enter Try.func66, Try.ntmps66
    go_wp2
    go_ret
    exact ⟨ret_bool (by simp [hd]), (Below.refl _ _).alloc (Nat.le_refl _) _⟩
theorem rule2_any (k : Int) (d : ByteArray) (ao : Option Addr) (n cap : Nat) (w : World) :
    Calls Try.prog 67 #[.agg #[.int .i64 k, .string d, .slice ao n cap]] w fun r w' => r = .returned (.bool (decide (d.size = 4 ∧ n = 0))) ∧ Below w.heap.size w w' := by
  go_enter Try.func67, Try.ntmps67
  go_wp2
  all_goals
    go_ret
    exact ⟨ret_bool (by simp <;> omega), (Below.refl _ _).alloc (Nat.le_refl _) _⟩
theorem rule3_any (k : Int) (d : ByteArray) (tv : Value) (xs : List Int) (w : World) (h : Sl w tv xs) :
    Calls Try.prog 68 #[.agg #[.int .i64 k, .string d, tv]] w fun r w' => r = .returned (.bool (decide (ckE xs = 0 ∧ bareE xs = false ∧ d.size = 0))) ∧ Below w.heap.size w w' := by
  have h1 := h.past (.cells #[.int .i64 k, .string d, tv] 29)
  go_enter Try.func68, Try.ntmps68
  go_wp2_with (go_at_call 12; refine (bare_any _ xs _ h1).mono ?_; rintro e w' ⟨rfl, rfl⟩)
  all_goals
    go_ret
    exact ⟨ret_bool (by simp_all [ba_nil]), (Below.refl _ _).alloc (Nat.le_refl _) _⟩

theorem findNow_0 : Instr.findNow (.int .i64) (.int .i64 0) RULES.toList 0 = some (some (0, .func (.func 66) #[] #[])) := rfl
theorem findNow_1 : Instr.findNow (.int .i64) (.int .i64 1) RULES.toList 0 = some (some (1, .func (.func 67) #[] #[])) := rfl
theorem findNow_2 : Instr.findNow (.int .i64) (.int .i64 2) RULES.toList 0 = some (some (2, .func (.func 68) #[] #[])) := rfl
theorem findNow_x (k : Int) (h0 : k ≠ 0) (h1 : k ≠ 1) (h2 : k ≠ 2) : Instr.findNow (.int .i64) (.int .i64 k) RULES.toList 0 = some none := by
  have e0 : (k == 0) = false := by simpa using h0
  have e1 : (k == 1) = false := by simpa using h1
  have e2 : (k == 2) = false := by simpa using h2
  simp [RULES, Instr.findNow, Instr.sameNow, e0, e1, e2]

theorem rule1_is (k : Int) (d : ByteArray) (tv : Value) (xs : List Int) (w : World) (h : Sl w tv xs) :
    Calls Try.prog 66 #[.agg #[.int .i64 k, .string d, tv]] w fun r w' => r = .returned (.bool (slotOK 0 d xs)) ∧ Below w.heap.size w w' := by
  obtain ⟨ao, cap, rfl⟩ := h.form
  exact rule1_any k d ao xs.length cap w
theorem rule2_is (k : Int) (d : ByteArray) (tv : Value) (xs : List Int) (w : World) (h : Sl w tv xs) :
    Calls Try.prog 67 #[.agg #[.int .i64 k, .string d, tv]] w fun r w' => r = .returned (.bool (slotOK 1 d xs)) ∧ Below w.heap.size w w' := by
  obtain ⟨ao, cap, rfl⟩ := h.form
  exact rule2_any k d ao xs.length cap w
theorem rule3_is (k : Int) (d : ByteArray) (tv : Value) (xs : List Int) (w : World) (h : Sl w tv xs) :
    Calls Try.prog 68 #[.agg #[.int .i64 k, .string d, tv]] w fun r w' => r = .returned (.bool (slotOK 2 d xs)) ∧ Below w.heap.size w w' := rule3_any k d tv xs w h

theorem isRight_any (r clock : Nat) (k : Int) (d : ByteArray) (tv : Value) (xs : List Int) (w : World) (hr : w.heap[r]? = some (.map RULES clock)) (h : Sl w tv xs) :
    Calls Try.prog 54 #[.map (some r), .agg #[.int .i64 k, .string d, tv]] w fun e w' => e = .returned (.bool (slotOK k d xs)) ∧ Below w.heap.size w w' := by
  have hlt : r < w.heap.size := (Array.getElem?_eq_some_iff.1 hr).1
  have HR : Hid ((w.alloc (.cells #[.int .i64 k, .string d, tv] 29)).heap[r]? = some (.map RULES clock)) := (Below.heap_alloc w _ r hlt).trans hr
  have hs := h.past (.cells #[.int .i64 k, .string d, tv] 29)
  clear hr
  have b0 : Below w.heap.size w (w.alloc (.cells #[.int .i64 k, .string d, tv] 29)) := (Below.refl _ _).alloc (Nat.le_refl _) _
  by_cases h0 : k = 0
  · subst h0
    have hl := look_run (P := Try.prog) 71 3 80 r clock RULES 0 _ _ Try.underlying71 Try.underlying3 HR.out findNow_0
    go_enter Try.func54, Try.ntmps54
    go_wp2_with (go_at_call 66; refine (rule1_is 0 d tv xs _ hs).mono ?_; rintro e w1 ⟨rfl, b1⟩)
    go_ret
    exact ⟨rfl, Below.on b0 b1⟩
  by_cases h1 : k = 1
  · subst h1
    clear h0
    have hl := look_run (P := Try.prog) 71 3 80 r clock RULES 1 _ _ Try.underlying71 Try.underlying3 HR.out findNow_1
    go_enter Try.func54, Try.ntmps54
    go_wp2_with (go_at_call 67; refine (rule2_is 1 d tv xs _ hs).mono ?_; rintro e w1 ⟨rfl, b1⟩)
    go_ret
    exact ⟨rfl, Below.on b0 b1⟩
  by_cases h2 : k = 2
  · subst h2
    clear h0 h1
    have hl := look_run (P := Try.prog) 71 3 80 r clock RULES 2 _ _ Try.underlying71 Try.underlying3 HR.out findNow_2
    go_enter Try.func54, Try.ntmps54
    go_wp2_with (go_at_call 68; refine (rule3_is 2 d tv xs _ hs).mono ?_; rintro e w1 ⟨rfl, b1⟩)
    go_ret
    exact ⟨rfl, Below.on b0 b1⟩
  · have hl := look_none (P := Try.prog) 71 3 80 r clock RULES k .nilFunc Try.underlying71 Try.underlying3 HR.out (findNow_x k h0 h1 h2) (by kernel_rfl)
    have HF : Hid (slotOK k d xs = false) := by show _ = _; unfold slotOK; rw [if_neg h0, if_neg h1, if_neg h2]
    go_enter Try.func54, Try.ntmps54
    go_wp2
    go_ret
    exact ⟨by rw [HF.out]; rfl, b0⟩
end Go.Proofs.Ytehleeibgkpjmab
