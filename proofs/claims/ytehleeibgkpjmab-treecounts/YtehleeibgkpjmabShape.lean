/- Contract of Shape. -/
import Derived.Test.YtehleeibgkpjmabRoots
import Derived.Test.YtehleeibgkpjmabRFit2
import Derived.Test.YtehleeibgkpjmabRise
namespace Go.Proofs.Ytehleeibgkpjmab
open Go.RowKit Go.Shelf
set_option maxRecDepth 20000
attribute [local go_sem] Oper.semAt_some

theorem used_err {v : Value} {L : List SlotD} {w : World} (h : Slots w v L) {E : Int} (hE : slotsE L = E) :
    Calls Try.prog 10 #[v] w fun r w' => (∃ u : Int, r = .returned (.tuple #[.int .i64 u, .int .i64 E])) ∧ Below w.heap.size w w' := by
  subst hE
  by_cases h0 : slotsE L = 0
  · rw [h0]
    exact (used_is h h0 rfl).mono fun e w' hr => ⟨⟨_, hr.1⟩, hr.2⟩
  · exact (used_bad v L _ w h rfl (by simpa using h0)).mono fun e w' hr => ⟨⟨_, hr.1⟩, hr.2⟩

/-- A block of cells lies on where only what is no cells turns. -/
theorem cells_kept {W W' : World} {row : Option Nat} {B : Nat} {A : Array Value} {t : TypeId} {fr : Nat × Nat} (h : W.heap[B]? = some (.cells A t fr)) (hg : W.grownBy W' row) (hr : ∀ r, row = some r → ∃ o : Obj, W.heap[r]? = some o ∧ o.isCells = false) : W'.heap[B]? = some (.cells A t fr) := by
  refine (hg.block B (Array.getElem?_eq_some_iff.1 h).1 (fun e => ?_)).trans h
  obtain ⟨o, ho, hc⟩ := hr B e.symm
  rw [h] at ho
  cases ho
  cases hc
theorem cells_own {β : Type} (B : Nat) (A : Array Value) (t : TypeId) (fr : Nat × Nat) : Own (fun (_ : β) W => W.heap[B]? = some (.cells A t fr)) := fun _ _ _ _ hs hg hr => cells_kept hs hg hr
theorem cells_alloc {W : World} {B : Nat} {A : Array Value} {t : TypeId} {fr : Nat × Nat} (h : W.heap[B]? = some (.cells A t fr)) (o : Obj) : (W.alloc o).heap[B]? = some (.cells A t fr) :=
  (Below.heap_alloc W _ _ (Array.getElem?_eq_some_iff.1 h).1).trans h
theorem cells_below {W W' : World} {B n : Nat} {A : Array Value} {t : TypeId} {fr : Nat × Nat} (h : W.heap[B]? = some (.cells A t fr)) (hb : Below n W W') (hlt : B < n) : W'.heap[B]? = some (.cells A t fr) := (hb.block _ hlt).trans h
theorem five {W : World} {B : Nat} {a0 a1 a2 a3 a4 : Value} {t : TypeId} (h : W.heap[B]? = some (.cells #[a0, a1, a2, a3, a4] t)) :
    W.cell? ⟨B, 0, none⟩ = some a0 ∧ W.cell? ⟨B, 1, none⟩ = some a1 ∧ W.cell? ⟨B, 2, none⟩ = some a2 ∧ W.cell? ⟨B, 3, none⟩ = some a3 ∧ W.cell? ⟨B, 4, none⟩ = some a4 := by
  simp [World.cell?, h]
theorem three {W : World} {B : Nat} {a0 a1 a2 : Value} {t : TypeId} (h : W.heap[B]? = some (.cells #[a0, a1, a2] t)) :
    W.cell? ⟨B, 0, none⟩ = some a0 ∧ W.cell? ⟨B, 1, none⟩ = some a1 ∧ W.cell? ⟨B, 2, none⟩ = some a2 := by
  simp [World.cell?, h]

abbrev shW (w : World) (gm : Int) (rv sv fv nv : Value) : World := (w.alloc (.cells #[.int .i64 gm, rv, sv, fv, nv] 44)).alloc (.cells #[.int .i64 0] 23)
theorem shW_below (w : World) (gm : Int) (rv sv fv nv : Value) : Below w.heap.size w (shW w gm rv sv fv nv) := ((Below.refl _ _).alloc (Nat.le_refl _) _).alloc (by simp) _
theorem shW_box (w : World) (gm : Int) (rv sv fv nv : Value) : (shW w gm rv sv fv nv).heap[w.heap.size]? = some (.cells #[.int .i64 gm, rv, sv, fv, nv] 44) := cells_alloc (World.alloc_heap_new w _) _
theorem shW_res (w : World) (gm : Int) (rv sv fv nv : Value) : Boxed (shW w gm rv sv fv nv) (w.heap.size + 1) 23 (.int .i64 0) := by
  have := Boxed.new (w.alloc (.cells #[.int .i64 gm, rv, sv, fv, nv] 44)) 23 (.int .i64 0)
  simpa using this

theorem shape_many (gm : Int) (ra : Option Addr) (rn rc : Nat) (sa : Option Addr) (sn sc : Nat) (fa : Option Addr) (fn fc : Nat) (na : Option Addr) (nn nc : Nat) (w : World) (hn : 3 < nn) :
    Calls Try.prog 24 #[.agg #[.int .i64 gm, .slice ra rn rc, .slice sa sn sc, .slice fa fn fc, .slice na nn nc]] w fun r w' => r = .returned (.int .i64 2) ∧ Below w.heap.size w w' := by
  have g : (3 : Int) < (nn : Int) := by omega
  refine (callsIn_wide (n := 6)).1 ?_
  refine callsIn_of_wp_marks Try.func24 rfl trivial ?_ rfl
  simp only [Try.ntmps24, List.size_toArray, List.length_cons, List.length_nil, Nat.reduceAdd, Nat.reduceSub, Array.replicate_succ, Array.replicate_zero, List.push_toArray, List.append_toArray, List.nil_append, List.cons_append]
  gi_wp2
  refine ⟨.int .i64 2, ?_, rfl, ((Below.refl _ _).alloc (Nat.le_refl _) _).alloc (by simp) _⟩
  simp [results, Try.f24, go_sem]

set_option maxRecDepth 100000 in
set_option maxHeartbeats 2000000 in
theorem shape_used (gm : Int) (ra : Option Addr) (rn rc : Nat) (sa : Option Addr) (sn sc : Nat) (fa : Option Addr) (fn fc : Nat) (na : Option Addr) (nn nc : Nat) (L : List SlotD) (E : Int) (w : World) (hn : nn ≤ 3) (hs : Slots w (.slice sa sn sc) L) (hE : slotsE L = E) (hne : (E != 0) = true) :
    Calls Try.prog 24 #[.agg #[.int .i64 gm, .slice ra rn rc, .slice sa sn sc, .slice fa fn fc, .slice na nn nc]] w fun r w' => r = .returned (.int .i64 E) ∧ Below w.heap.size w w' := by
  have g : ¬ (3 : Int) < (nn : Int) := by omega
  have b0 := shW_below w gm (.slice ra rn rc) (.slice sa sn sc) (.slice fa fn fc) (.slice na nn nc)
  have r0 := shW_res w gm (.slice ra rn rc) (.slice sa sn sc) (.slice fa fn fc) (.slice na nn nc)
  have hcall := used_err (hs.below b0) hE
  clear hs hE
  refine (callsIn_wide (n := 6)).1 ?_
  refine callsIn_of_wp_marks Try.func24 rfl trivial ?_ rfl
  simp only [Try.ntmps24, List.size_toArray, List.length_cons, List.length_nil, Nat.reduceAdd, Nat.reduceSub, Array.replicate_succ, Array.replicate_zero, List.push_toArray, List.append_toArray, List.nil_append, List.cons_append]
  gi_wp2_with (refine ⟨trivial, ?_⟩; gi_at_call 10; refine (callsIn_wide.2 hcall).mono ?_; rintro e w1 ⟨⟨u, rfl⟩, b1⟩; have r1 : Boxed w1 (w.heap.size + 1) 23 (.int .i64 0) := cells_below r0 b1 (by simp); have cR := r1.cell; have fR := r1.frozen)
  refine ⟨.int .i64 E, ?_, rfl, (Below.on b0 b1).setCell (p := ⟨w.heap.size + 1, 0, none⟩) (by simp) _⟩
  have hc5 := (r1.set (.int .i64 E)).cell
  simp [results, Try.f24, go_sem, hc5]

set_option maxRecDepth 100000 in
set_option maxHeartbeats 2000000 in
theorem shape_refs (gm : Int) (ra : Option Addr) (rn rc : Nat) (sa : Option Addr) (sn sc : Nat) (fa : Option Addr) (fn fc : Nat) (na : Option Addr) (nn nc : Nat) (L : List SlotD) (w : World) (hn : nn ≤ 3) (hs : Slots w (.slice sa sn sc) L) (hE : slotsE L = 0) (hne : ¬ fn = sn) :
    Calls Try.prog 24 #[.agg #[.int .i64 gm, .slice ra rn rc, .slice sa sn sc, .slice fa fn fc, .slice na nn nc]] w fun r w' => r = .returned (.int .i64 1) ∧ Below w.heap.size w w' := by
  have hd1 : ((fn : Int) != (sn : Int)) = true := by simp; omega
  have hd2 : (fn == sn) = false := by simpa using hne
  have hd3 : ((fn : Int) == (sn : Int)) = false := by simp; omega
  have g : ¬ (3 : Int) < (nn : Int) := by omega
  have b0 := shW_below w gm (.slice ra rn rc) (.slice sa sn sc) (.slice fa fn fc) (.slice na nn nc)
  have r0 := shW_res w gm (.slice ra rn rc) (.slice sa sn sc) (.slice fa fn fc) (.slice na nn nc)
  have m0 := shW_box w gm (.slice ra rn rc) (.slice sa sn sc) (.slice fa fn fc) (.slice na nn nc)
  have hcall := used_err (hs.below b0) hE
  clear hs hE
  refine (callsIn_wide (n := 6)).1 ?_
  refine callsIn_of_wp_marks Try.func24 rfl trivial ?_ rfl
  simp only [Try.ntmps24, List.size_toArray, List.length_cons, List.length_nil, Nat.reduceAdd, Nat.reduceSub, Array.replicate_succ, Array.replicate_zero, List.push_toArray, List.append_toArray, List.nil_append, List.cons_append]
  gi_wp2_with (refine ⟨trivial, ?_⟩; gi_at_call 10; refine (callsIn_wide.2 hcall).mono ?_; rintro e w1 ⟨⟨u, rfl⟩, b1⟩; have r1 : Boxed w1 (w.heap.size + 1) 23 (.int .i64 0) := cells_below r0 b1 (by simp); have cR := r1.cell; have fR := r1.frozen; have m1 := cells_below m0 b1 (by simp; omega); obtain ⟨c0, c1, c2, c3, c4⟩ := five m1)
  refine ⟨trivial, ?_⟩
  gi_wp2
  refine ⟨.int .i64 1, ?_, rfl, (Below.on b0 b1).setCell (p := ⟨w.heap.size + 1, 0, none⟩) (by simp) _⟩
  have hc5 := (r1.set (.int .i64 1)).cell
  simp [results, Try.f24, go_sem, hc5]

set_option maxRecDepth 100000 in
set_option maxHeartbeats 2000000 in
theorem shape_names (gm : Int) (ra : Option Addr) (rn rc : Nat) (sa : Option Addr) (sn sc : Nat) (fa : Option Addr) (fc : Nat) (na : Option Addr) (nn nc : Nat) (L : List SlotD) (S : List SnapD) (w : World) (hn : nn ≤ 3) (hs : Slots w (.slice sa sn sc) L) (hE : slotsE L = 0) (hS : Snaps w (.slice na nn nc) S) (hS3 : S.length ≤ 3) (hB : namesOK S = false) :
    Calls Try.prog 24 #[.agg #[.int .i64 gm, .slice ra rn rc, .slice sa sn sc, .slice fa sn fc, .slice na nn nc]] w fun r w' => r = .returned (.int .i64 1) ∧ Below w.heap.size w w' := by
  have g : ¬ (3 : Int) < (nn : Int) := by omega
  have b0 := shW_below w gm (.slice ra rn rc) (.slice sa sn sc) (.slice fa sn fc) (.slice na nn nc)
  have r0 := shW_res w gm (.slice ra rn rc) (.slice sa sn sc) (.slice fa sn fc) (.slice na nn nc)
  have m0 := shW_box w gm (.slice ra rn rc) (.slice sa sn sc) (.slice fa sn fc) (.slice na nn nc)
  have hcall := used_err (hs.below b0) hE
  have hS0 := hS.below b0
  clear hs hE hS
  refine (callsIn_wide (n := 6)).1 ?_
  refine callsIn_of_wp_marks Try.func24 rfl trivial ?_ rfl
  simp only [Try.ntmps24, List.size_toArray, List.length_cons, List.length_nil, Nat.reduceAdd, Nat.reduceSub, Array.replicate_succ, Array.replicate_zero, List.push_toArray, List.append_toArray, List.nil_append, List.cons_append]
  gi_wp2_with (first
    | (refine ⟨trivial, ?_⟩; gi_at_call 10; refine (callsIn_wide.2 hcall).mono ?_; rintro e w1 ⟨⟨u, rfl⟩, b1⟩; have hS1 := hS0.below b1; have r1 : Boxed w1 (w.heap.size + 1) 23 (.int .i64 0) := cells_below r0 b1 (by simp); have m1 := cells_below m0 b1 (by simp; omega); obtain ⟨c0, c1, c2, c3, c4⟩ := five m1)
    | (refine ⟨trivial, ?_⟩; gi_at_call 41; refine (callsIn_wide.2 (namesRise_is hS1 hS3 hB)).mono ?_; rintro e w2 ⟨rfl, b2⟩; have r2 : Boxed w2 (w.heap.size + 1) 23 (.int .i64 0) := cells_below r1 b2 r1.lt; have cR := r2.cell; have fR := r2.frozen))
  refine ⟨.int .i64 1, ?_, rfl, (Below.on' b0 b1 b2).setCell (p := ⟨w.heap.size + 1, 0, none⟩) (by simp) _⟩
  have hc5 := (r2.set (.int .i64 1)).cell
  simp [results, Try.f24, go_sem, hc5]

/-- The Roots of an image, as they come. -/
theorem rootsA_of {w W : World} {gm : Int} {ra : Option Addr} {rn rc : Nat} {sv fv : Value} {na : Option Addr} {nn nc : Nat} {r : List Int} {S : List SnapD} {Bm : Nat} (hr : Sl w (.slice ra rn rc) r) (hS : Snaps w (.slice na nn nc) S) (h3 : S.length ≤ 3) (hb : Below w.heap.size w W)
    (hm : W.heap[Bm]? = some (.cells #[.int .i64 gm, .slice ra rn rc, sv, fv, .slice na nn nc] 44)) :
    ∃ xs : List (RootA w), RootsV w.heap.size W Bm (xs.map (fun x => x.1.1)) ∧ xs.map (fun x => x.1.2) = (⟨#[]⟩, gm, r) :: S := by
  obtain ⟨c0, c1, c2, c3, c4⟩ := five hm
  have hlen : S.length = nn := by
    obtain ⟨ao, cap, e, _⟩ := hS
    simp at e
    exact e.2.1.symm
  have hex : ∀ j : Fin S.length, ∃ y : RootA w, y.1.2 = S[j] ∧
      ∀ b off, na = some ⟨b, off, none⟩ → W.cell? ⟨b, off + j.1 * 3, none⟩ = some (.string y.1.1.nm) ∧ W.cell? ⟨b, off + j.1 * 3 + 1, none⟩ = some (.int .i64 y.1.1.g) ∧ W.cell? ⟨b, off + j.1 * 3 + 1 + 1, none⟩ = some (.slice y.1.1.a y.1.1.n y.1.1.c) := by
    intro ⟨j, hj⟩
    obtain ⟨b, off, cap, e, _, hlt, hcell⟩ := hS.open (by omega)
    obtain ⟨rv, d1, d2, d3, hsl⟩ := hcell j hj
    obtain ⟨ya, yc, rfl⟩ := hsl.form
    refine ⟨⟨(⟨S[j].1, S[j].2.1, ya, S[j].2.2.length, yc⟩, S[j]), rfl, rfl, hsl⟩, rfl, fun b' off' e' => ?_⟩
    simp at e
    rw [e.1] at e'
    simp at e'
    obtain ⟨rfl, rfl⟩ := e'
    exact ⟨(hb.cell (p := ⟨b, off + j * 3, none⟩) hlt).trans d1, (hb.cell (p := ⟨b, off + j * 3 + 1, none⟩) hlt).trans d2, (hb.cell (p := ⟨b, off + j * 3 + 1 + 1, none⟩) hlt).trans d3⟩
  obtain ⟨f, hf⟩ := Classical.axiomOfChoice hex
  refine ⟨⟨(⟨⟨#[]⟩, gm, ra, rn, rc⟩, (⟨#[]⟩, gm, r)), rfl, rfl, hr⟩ :: List.ofFn f, ⟨⟨gm, ra, rn, rc, sv, fv, na, nn, nc, (List.ofFn f).map (fun x => x.1.1), rfl, by simp [hlen], by omega, c0, c1, c2, c3, c4, fun h0 => ?_⟩⟩, ?_⟩
  · obtain ⟨b, off, cap, e, _, hlt, _⟩ := hS.open (by omega)
    simp at e
    refine ⟨b, off, e.1, hlt, fun j hj => ?_⟩
    have hj' : j < S.length := by simpa using hj
    have := (hf ⟨j, hj'⟩).2 b off e.1
    rw [List.getElem_map, List.getElem_ofFn]
    exact this
  · simp only [List.map_cons, List.cons.injEq, true_and]
    apply List.ext_getElem
    · simp
    · intro j h1 h2
      have := (hf ⟨j, h2⟩).1
      simpa using this

theorem keepsFrom_of_below {B : Nat} {W W' : World} (h : Below W.heap.size W W') : KeepsFrom B W W' := ⟨h.size, fun k _ _ hk _ => (h.block k (Array.getElem?_eq_some_iff.1 hk).1).trans hk⟩
end Go.Proofs.Ytehleeibgkpjmab
