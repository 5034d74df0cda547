/- Contracts of tablesFit and rootFits, and of what they ask. -/
import Derived.Test.YtehleeibgkpjmabSIdx
import Derived.Test.YtehleeibgkpjmabKind
namespace Go.Proofs.Ytehleeibgkpjmab
open Go.RowKit Go.Shelf
set_option maxRecDepth 20000

theorem tabE_0 (L : List SlotD) : tabE L 0 = true := rfl
theorem tabE_m1 (L : List SlotD) : tabE L (-1) = true := rfl
theorem tabE_x {L : List SlotD} {e : Int} (h0 : e ≠ 0) (h1 : e ≠ -1) : tabE L e = isKd L e 1 := by
  have a : (e != 0) = true := by simpa using h0
  have b : (e != -1) = true := by simpa using h1
  unfold tabE; rw [a, b]; simp
theorem rootE_x {L : List SlotD} {e : Int} (h0 : e ≠ 0) : rootE L e = isKd L e 2 := by
  have a : (e != 0) = true := by simpa using h0
  unfold rootE; rw [a]; simp

/-- The cell of a box of a slice of slots. -/
theorem entryP_any (B : Nat) (v : Value) (L : List SlotD) (x : Int) (w : World) (hc : w.cell? ⟨B, 0, none⟩ = some v) (h : Slots w v L) :
    Calls Try.prog 60 #[.int .i64 x, .pointer (some ⟨B, 0, none⟩)] w fun r w' => r = .returned (.bool (!tabE L x)) ∧ w' = w := by
  obtain ⟨ao, cap, rfl⟩ := h.form
  by_cases h0 : x = 0
  · subst h0
    go_enter Try.func60, Try.ntmps60
    go_wp2
    go_ret
    exact ⟨rfl, rfl⟩
  by_cases h1 : x = -1
  · subst h1
    clear h0
    go_enter Try.func60, Try.ntmps60
    go_wp2
    go_ret
    exact ⟨rfl, rfl⟩
  rw [tabE_x h0 h1]
  have g0 : (x != 0) = true := by simpa using h0
  have g1 : (x != -1) = true := by simpa using h1
  clear h0 h1
  go_enter Try.func60, Try.ntmps60
  go_wp2_with (go_at_call 61; refine (isKind_is h x 1 rfl).mono ?_; rintro e w1 ⟨rfl, hw⟩; subst hw)
  go_ret
  exact ⟨rfl, rfl⟩
theorem rootP_any (B : Nat) (v : Value) (L : List SlotD) (x : Int) (w : World) (hc : w.cell? ⟨B, 0, none⟩ = some v) (h : Slots w v L) :
    Calls Try.prog 62 #[.int .i64 x, .pointer (some ⟨B, 0, none⟩)] w fun r w' => r = .returned (.bool (!rootE L x)) ∧ w' = w := by
  obtain ⟨ao, cap, rfl⟩ := h.form
  by_cases h0 : x = 0
  · subst h0
    go_enter Try.func62, Try.ntmps62
    go_wp2
    go_ret
    exact ⟨rfl, rfl⟩
  rw [rootE_x h0]
  have g0 : (x != 0) = true := by simpa using h0
  clear h0
  go_enter Try.func62, Try.ntmps62
  go_wp2_with (go_at_call 61; refine (isKind_is h x 2 rfl).mono ?_; rintro e w1 ⟨rfl, hw⟩; subst hw)
  go_ret
  exact ⟨rfl, rfl⟩
theorem holeP_any (x : Int) (w : World) : Calls Try.prog 63 #[.int .i64 x] w fun r w' => r = .returned (.bool (!(x == 0))) ∧ w' = w := by
  go_enter Try.func63, Try.ntmps63
  go_wp2
  go_ret
  exact ⟨rfl, rfl⟩

theorem any_not {α : Type} (p : α → Bool) (xs : List α) : xs.any (fun x => !p x) = !xs.all p := by
  induction xs with
  | nil => rfl
  | cons a r ih => simp only [List.any_cons, List.all_cons, ih]; cases p a <;> simp

/-- A slot's table is asked. -/
theorem tableP_any (B : Nat) (v : Value) (L : List SlotD) (s : SlotD) (tv : Value) (w : World) (hB : B < w.heap.size) (hc : w.cell? ⟨B, 0, none⟩ = some v) (h : Slots w v L) (ht : Sl w tv s.2.2) :
    Calls Try.prog 58 #[.agg #[.int .i64 s.1, .string s.2.1, tv], .pointer (some ⟨B, 0, none⟩)] w fun r w' => r = .returned (.bool (!s.2.2.all (tabE L))) ∧ Below w.heap.size w w' := by
  obtain ⟨k, d, xs⟩ := s
  dsimp only at ht ⊢
  have b0 : Below w.heap.size w (w.alloc (.cells #[.int .i64 k, .string d, tv] 29)) := (Below.refl _ _).alloc (Nat.le_refl _) _
  have ht1 := ht.below b0
  have hc1 := (b0.cell (p := ⟨B, 0, none⟩) hB).trans hc
  have h1 := h.below b0
  have hcall := containsI_any (g := 60) (lb := #[.pointer (some ⟨B, 0, none⟩)]) (enters_of Try.func60 (by kernel_rfl) rfl) ht1 (p := fun x => !tabE L x)
    (fun W x hb => (entryP_any B v L x W ((hb.cell (p := ⟨B, 0, none⟩) (by simp; omega)).trans hc1) (h1.below hb)).mono fun e w' hr => ⟨hr.1, hr.2 ▸ Below.refl _ _⟩) (any_not (tabE L) xs)
  clear hc hc1 h h1 ht1 ht
  go_enter Try.func58, Try.ntmps58
  go_wp2_with (go_at_call 59; refine hcall.mono ?_; rintro e w1 ⟨rfl, b1⟩)
  go_ret
  exact ⟨rfl, Below.on b0 b1⟩

theorem tablesFit_any (v : Value) (L : List SlotD) (w : World) (h : Slots w v L) :
    Calls Try.prog 43 #[v] w fun r w' => r = .returned (.bool (tabFit L)) ∧ Below w.heap.size w w' := by
  have b0 : Below w.heap.size w (w.alloc (.cells #[v] 22)) := (Below.refl _ _).alloc (Nat.le_refl _) _
  have hc1 : (w.alloc (.cells #[v] 22)).cell? ⟨w.heap.size, 0, none⟩ = some v := by rw [World.cell?_alloc_at _ _ _ _ rfl]; rfl
  have h1 := h.below b0
  have hcall := containsS_any (g := 58) (lb := #[.pointer (some ⟨w.heap.size, 0, none⟩)]) (enters_of Try.func58 (by kernel_rfl) rfl) h1 (p := fun s => !s.2.2.all (tabE L))
    (fun W s tv hb ht => tableP_any w.heap.size v L s tv W (by have := hb.size; simp at this; omega) ((hb.cell (p := ⟨w.heap.size, 0, none⟩) (by simp)).trans hc1) (h1.below hb) ht) (any_not (fun s => s.2.2.all (tabE L)) L)
  obtain ⟨ao, cap, rfl⟩ := h.form
  clear h h1
  go_enter Try.func43, Try.ntmps43
  go_wp2_with (go_at_call 57; refine hcall.mono ?_; rintro e w1 ⟨rfl, b1⟩)
  go_ret
  exact ⟨rfl, Below.on b0 b1⟩
end Go.Proofs.Ytehleeibgkpjmab
