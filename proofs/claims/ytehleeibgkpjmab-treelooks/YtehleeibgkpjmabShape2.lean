/- Contract of Shape: the loops over Roots. -/
import Derived.Test.YtehleeibgkpjmabShape
namespace Go.Proofs.Ytehleeibgkpjmab
open Go.RowKit Go.Shelf
set_option maxRecDepth 20000
attribute [local go_sem] Oper.semAt_some

/-- What Shape answers, once names are right. -/
def tailE (L : List SlotD) (R : List SnapD) : Int := if R.all (fun s => guestOK s.2.1) = false then 3 else if tabFit L = false then 1 else if R.all (fun s => rootFit L s.2.1 s.2.2) = false then 1 else 0

def GAll {w : World} (pre : List (RootA w)) : Prop := ∀ x ∈ pre, guestOK x.1.2.2.1 = true
def GBad {w : World} (pre : List (RootA w)) : Prop := ∃ x ∈ pre, guestOK x.1.2.2.1 = false
abbrev RootB (w : World) : Type := { p : RootV × SnapD // Rt w p.1 p.2 ∧ guestOK p.2.2.1 = true }
theorem rootsB_of {w : World} : ∀ (zs : List (RootA w)), (∀ x ∈ zs, guestOK x.1.2.2.1 = true) → ∃ ys : List (RootB w), ys.map (fun x => x.1.1) = zs.map (fun x => x.1.1) ∧ ys.map (fun x => x.1.2) = zs.map (fun x => x.1.2)
  | [], _ => ⟨[], rfl, rfl⟩
  | x :: zs, h => by
    obtain ⟨ys, h1, h2⟩ := rootsB_of zs (fun y hy => h y (List.mem_cons_of_mem _ hy))
    exact ⟨⟨x.1, x.2, h x List.mem_cons_self⟩ :: ys, by rw [List.map_cons, List.map_cons, h1], by rw [List.map_cons, List.map_cons, h2]⟩
def FAll {w : World} (L : List SlotD) (pre : List (RootB w)) : Prop := ∀ x ∈ pre, rootFit L x.1.2.2.1 x.1.2.2.2 = true
def FBad {w : World} (L : List SlotD) (pre : List (RootB w)) : Prop := ∃ x ∈ pre, rootFit L x.1.2.2.1 x.1.2.2.2 = false
theorem GAll.snoc {w : World} {pre : List (RootA w)} {x : RootA w} (h : GAll pre) (hx : guestOK x.1.2.2.1 = true) : GAll (pre ++ [x]) := fun z hz => (List.mem_append.1 hz).elim (h z) (fun e => by rw [List.mem_singleton] at e; subst e; exact hx)
theorem FAll.snoc {w : World} {L : List SlotD} {pre : List (RootB w)} {x : RootB w} (h : FAll L pre) (hx : rootFit L x.1.2.2.1 x.1.2.2.2 = true) : FAll L (pre ++ [x]) := fun z hz => (List.mem_append.1 hz).elim (h z) (fun e => by rw [List.mem_singleton] at e; subst e; exact hx)
theorem last_mem {α : Type} (pre : List α) (x : α) : x ∈ pre ++ [x] := List.mem_append.2 (.inr (List.mem_singleton.2 rfl))

theorem below_put {w W : World} {D : Nat} (hB : Below w.heap.size w W) (hD : w.heap.size ≤ D) (o : Obj) : Below w.heap.size w (W.putObj D o) := hB.grown (grownBy_putObj' W D o) hB.size (fun k e => by cases e; exact hD)
theorem boxed_put {W : World} {B t : Nat} {v : Value} {D : Nat} (h : Boxed W B t v) (hne : B ≠ D) (o : Obj) : Boxed (W.putObj D o) B t v := h.kept (grownBy_putObj' W D o) (fun e => hne (by cases e; rfl))

set_option maxRecDepth 100000 in
set_option maxHeartbeats 8000000 in
theorem shape_tail (gm : Int) (ra : Option Addr) (rn rc : Nat) (sa : Option Addr) (sn sc : Nat) (fa : Option Addr) (fc : Nat) (na : Option Addr) (nn nc : Nat) (r : List Int) (L : List SlotD) (S : List SnapD) (w : World) (hn : nn ≤ 3) (hr : Sl w (.slice ra rn rc) r) (hs : Slots w (.slice sa sn sc) L) (hE : slotsE L = 0) (hS : Snaps w (.slice na nn nc) S) (hS3 : S.length ≤ 3) (hB : namesOK S = true) :
    Calls Try.prog 24 #[.agg #[.int .i64 gm, .slice ra rn rc, .slice sa sn sc, .slice fa sn fc, .slice na nn nc]] w fun e w' => e = .returned (.int .i64 (tailE L ((⟨#[]⟩, gm, r) :: S))) ∧ Below w.heap.size w w' := by
  have g : ¬ (3 : Int) < (nn : Int) := by omega
  have b0 := shW_below w gm (.slice ra rn rc) (.slice sa sn sc) (.slice fa sn fc) (.slice na nn nc)
  have r0 := shW_res w gm (.slice ra rn rc) (.slice sa sn sc) (.slice fa sn fc) (.slice na nn nc)
  have m0 := shW_box w gm (.slice ra rn rc) (.slice sa sn sc) (.slice fa sn fc) (.slice na nn nc)
  have hcall := used_err (hs.below b0) hE
  have hS0 := hS.below b0
  refine (callsIn_wide (n := 9)).1 ?_
  refine callsIn_of_wp_marks Try.func24 rfl trivial ?_ rfl
  simp only [Try.ntmps24, List.size_toArray, List.length_cons, List.length_nil, Nat.reduceAdd, Nat.reduceSub, Array.replicate_succ, Array.replicate_zero, List.push_toArray, List.append_toArray, List.nil_append, List.cons_append]
  gi_wp2_with (first
    | (refine ⟨trivial, ?_⟩; gi_at_call 10; refine (callsIn_wide.2 hcall).mono ?_; rintro e w1 ⟨⟨u, rfl⟩, b1⟩; have hS1 := hS0.below b1; have r1 : Boxed w1 (w.heap.size + 1) 23 (.int .i64 0) := cells_below r0 b1 (by simp); have m1 := cells_below m0 b1 (by simp; omega); obtain ⟨c0, c1, c2, c3, c4⟩ := five m1)
    | (refine ⟨trivial, ?_⟩; gi_at_call 41; refine (callsIn_wide.2 (namesRise_is hS1 hS3 hB)).mono ?_; rintro e w2 ⟨rfl, b2⟩; have r2 : Boxed w2 (w.heap.size + 1) 23 (.int .i64 0) := cells_below r1 b2 r1.lt; have m2 := cells_below m1 b2 (Nat.lt_of_succ_lt r1.lt); obtain ⟨d0, d1, d2, d3, d4⟩ := five m2)
    | (refine ⟨trivial, ?_⟩; gi_at_call 42; refine (roots_in Fence.wide _ trivial rfl _ _ _ _ _ _).mono ?_; rintro e w3 ⟨rfl, rfl⟩))
  have hb2 := Below.on' b0 b1 b2
  have hBm : w.heap.size + 1 < w2.heap.size := r2.lt
  have m3 : (w2.alloc (.cells #[.int .i64 gm, .slice ra rn rc, .slice sa sn sc, .slice fa sn fc, .slice na nn nc] 44)).heap[w2.heap.size]? = some (.cells #[.int .i64 gm, .slice ra rn rc, .slice sa sn sc, .slice fa sn fc, .slice na nn nc] 44) := World.alloc_heap_new _ _
  have m3' := cells_alloc m2 (.cells #[.int .i64 gm, .slice ra rn rc, .slice sa sn sc, .slice fa sn fc, .slice na nn nc] 44)
  have r3 := r2.alloc (.cells #[.int .i64 gm, .slice ra rn rc, .slice sa sn sc, .slice fa sn fc, .slice na nn nc] 44)
  have hb3 : Below w.heap.size w (w2.alloc (.cells #[.int .i64 gm, .slice ra rn rc, .slice sa sn sc, .slice fa sn fc, .slice na nn nc] 44)) := hb2.alloc hb2.size _
  have hsz : (w2.alloc (.cells #[.int .i64 gm, .slice ra rn rc, .slice sa sn sc, .slice fa sn fc, .slice na nn nc] 44)).heap.size = w2.heap.size + 1 := by simp
  have hsz1 := Nat.le_of_eq hsz
  have hsz2 := Nat.le_of_eq hsz.symm
  clear hsz
  obtain ⟨xs, hL, hxs⟩ := rootsA_of hr hS hS3 hb3 m3
  obtain ⟨W0, hW0⟩ : ∃ W0, w2.alloc (.cells #[.int .i64 gm, .slice ra rn rc, .slice sa sn sc, .slice fa sn fc, .slice na nn nc] 44) = W0 := ⟨_, rfl⟩
  rw [hW0] at m3 m3' r3 hb3 hsz1 hsz2 hL ⊢
  have HxS : Hid (xs.map (fun x => x.1.2) = (⟨#[]⟩, gm, r) :: S) := hxs
  clear hW0 hcall hS0 hS1 c0 c1 c2 c3 c4 d0 d1 d2 d3 d4 m0 m1 m2 r0 r1 r2 b0 b1 b2 hxs
  refine wpIn_rangeFunc_ownH rfl (by omega) (gf := 56) (lb := #[.pointer (some ⟨w2.heap.size, 0, none⟩)]) rfl trivial (enters_of Try.func56 (by kernel_rfl) rfl)
    (roots_stops (fun x : RootA w => x.1.1) Fence.wide 8 trivial rfl (by omega) w2.heap.size w.heap.size xs W0 hL (by omega) (by omega)) KpR.trans (KpR.put (by omega) (by omega)) (Below.refl _ _) (fun _ => rfl)
    (fun pre W => GAll pre ∧ Below W0.heap.size W0 W)
    (fun c pre W => ((c = .ret ∧ GBad pre) ∧ Boxed W (w.heap.size + 1) 23 (.int .i64 3)) ∧ Below w.heap.size w W)
    (OwnFrom.and (ownFrom_pure _ _) (ownFrom_below (Nat.le_refl _) (Nat.le_refl _)))
    (fun c => OwnFrom.and (OwnFrom.and (ownFrom_pure _ _) (Own.from (boxed_own _ _ _) _)) (ownFrom_below (Nat.le_refl _) (by omega)))
    ⟨(fun x hx => by cases hx), Below.refl _ _⟩
    (fun x a' W => ∃ Bx, W.heap[Bx]? = some (.cells #[.string x.1.1.nm, .int .i64 x.1.1.g, .slice x.1.1.a x.1.1.n x.1.1.c] 64) ∧ a' = { tmps := #[Value.agg #[.int .i64 gm, .slice ra rn rc, .slice sa sn sc, .slice fa sn fc, .slice na nn nc], .pointer (some ⟨w.heap.size, 0, none⟩), .pointer (some ⟨w.heap.size + 1, 0, none⟩), .int .i64 u, .int .i64 0, .pointer (some ⟨Bx, 0, none⟩), undef, .pointer (some ⟨w.heap.size, 4, none⟩), .slice na nn nc, .int .i64 nn, .bool false, .tuple #[.int .i64 u, .int .i64 0], .pointer (some ⟨w.heap.size, 2, none⟩), .slice sa sn sc, .tuple #[.int .i64 u, .int .i64 0], .int .i64 u, .int .i64 0, .int .i64 0, .bool false, undef, .pointer (some ⟨w.heap.size, 3, none⟩), .slice fa sn fc, .int .i64 sn, .pointer (some ⟨w.heap.size, 2, none⟩), .slice sa sn sc, .int .i64 sn, .bool false, .bool false, .pointer (some ⟨w.heap.size, 4, none⟩), .slice na nn nc, .bool true, .bool false, .bool false, Value.agg #[.int .i64 gm, .slice ra rn rc, .slice sa sn sc, .slice fa sn fc, .slice na nn nc], .func (.func 56) #[] #[.pointer (some ⟨w2.heap.size, 0, none⟩)], .agg #[.string x.1.1.nm, .int .i64 x.1.1.g, .slice x.1.1.a x.1.1.n x.1.1.c], undef, undef, undef, undef, undef, undef, undef, undef, undef, undef, undef, undef, undef, undef, undef, undef, undef, undef, undef, undef], defers := [] })
    (fun x a' _ X Y row hs hg hr => by obtain ⟨Bx, e1, e2⟩ := hs; exact ⟨Bx, cells_kept e1 hg (fun r e => (hr r e).2), e2⟩)
    ?assign ?body ?done ?stop
  case assign =>
    rintro l pre x W K ⟨hp, hB1⟩ hK
    unfold encRoot
    gi_wp2
    exact hK _ _ ((KeepsOthers.alloc _ _).from _) (KpR.alloc (by have := hB1.size; omega) (by have := hB1.size; omega) _) ⟨hp, hB1.alloc hB1.size _⟩ ⟨W.heap.size, World.alloc_heap_new _ _, rfl⟩
  case body =>
    rintro l pre x a' W hl ⟨rr, hrr⟩ ⟨hp, hB1⟩ ⟨Bx, hBx, rfl⟩ hlt
    obtain ⟨e0, e1, e2⟩ := three hBx
    have rW : Boxed W (w.heap.size + 1) 23 (.int .i64 0) := cells_below r3 hB1 (by omega)
    have cR := rW.cell
    have fR := rW.frozen
    have hgx : x.1.1.g = x.1.2.2.1 := x.2.2.1
    have HG : Hid (guestOK x.1.2.2.1 = guestOK x.1.1.g) := by show _ = _; rw [hgx]
    clear hgx
    by_cases h0 : x.1.1.g < 0
    · gi_wp2
      exact ⟨(KeepsOthers.setCell _ _ _).from _, ⟨⟨rfl, x, last_mem _ _, by rw [HG.out]; unfold guestOK; exact decide_eq_false (by omega)⟩, rW.set _⟩, (hb3.trans (hB1.mono hb3.size)).setCell (p := ⟨w.heap.size + 1, 0, none⟩) (by simp) _⟩
    · by_cases h1 : 16 < x.1.1.g
      · gi_wp2
        exact ⟨(KeepsOthers.setCell _ _ _).from _, ⟨⟨rfl, x, last_mem _ _, by rw [HG.out]; unfold guestOK; exact decide_eq_false (by omega)⟩, rW.set _⟩, (hb3.trans (hB1.mono hb3.size)).setCell (p := ⟨w.heap.size + 1, 0, none⟩) (by simp) _⟩
      · gi_wp2
        exact ⟨KeepsFrom.refl _ _, KpR.refl _ _ _, ⟨hp.snoc (by rw [HG.out]; unfold guestOK; exact decide_eq_true (by omega)), hB1⟩⟩
  case stop =>
    rintro D c pre W hD hpre ⟨⟨⟨rfl, x, hx, hy⟩, bR1⟩, hB1⟩ hK
    have HE : Hid (tailE L ((⟨#[]⟩, gm, r) :: S) = 3) := by
      show _ = _
      unfold tailE
      rw [if_pos]
      rw [← HxS.out, ← Bool.not_eq_true, List.all_eq_true]
      intro hall
      have := hall x.1.2 (List.mem_map.2 ⟨x, hpre.subset hx, rfl⟩)
      rw [hy] at this
      cases this
    gi_wp2
    refine ⟨by simp, .inl ⟨_, _, rfl, run_takeDeferred hK, ?_⟩⟩
    have hc5 := (boxed_put bR1 (D := D) (by omega) (.deferred none)).cell
    refine ⟨.int .i64 3, ?_, by rw [HE.out], below_put hB1 (by omega) _⟩
    simp [results, Try.f24, go_sem, hc5]
  case done =>
    rintro D ys W hD rfl ⟨hp, hB1⟩ hK
    have rW : Boxed W (w.heap.size + 1) 23 (.int .i64 0) := cells_below r3 hB1 (by omega)
    have mW := cells_below m3' hB1 (by omega)
    obtain ⟨c0, c1, c2, c3, c4⟩ := five mW
    have hbW := hb3.trans (hB1.mono hb3.size)
    have hsW := hs.below hbW
    have hDlt : D < W.heap.size := (Array.getElem?_eq_some_iff.1 hK).1
    have HA : Hid (((⟨#[]⟩, gm, r) :: S).all (fun s => guestOK s.2.1) = true) := by
      show _ = _
      rw [← HxS.out, List.all_eq_true]
      intro s hs
      obtain ⟨x, hx, rfl⟩ := List.mem_map.1 hs
      exact hp x hx
    have hKD : ∀ {W' : World}, Below W.heap.size W W' → W'.heap[D]? = some (.deferred (some [])) := fun h => (h.block D hDlt).trans hK
    cases hT : tabFit L with
    | false =>
      have HE : Hid (tailE L ((⟨#[]⟩, gm, r) :: S) = 1) := by
        show _ = _
        unfold tailE
        rw [if_neg (by rw [HA.out]; simp), if_pos hT]
      have hcall := tablesFit_any _ L W hsW
      rw [hT] at hcall
      gi_wp2_with (refine ⟨trivial, ?_⟩; gi_at_call 43; refine (callsIn_wide.2 hcall).mono ?_; rintro e w4 ⟨rfl, b4⟩; have r4 : Boxed w4 (w.heap.size + 1) 23 (.int .i64 0) := cells_below rW b4 rW.lt; have cR := r4.cell; have fR := r4.frozen)
      have hK' := (KeepsOthers.setCell w4 ⟨w.heap.size + 1, 0, none⟩ (.int .i64 1)).same D _ (hKD b4) rfl
      refine ⟨by simp, .inl ⟨_, _, rfl, run_takeDeferred hK', ?_⟩⟩
      have hc5 := (boxed_put (r4.set (.int .i64 1)) (D := D) (by omega) (.deferred none)).cell
      refine ⟨.int .i64 1, ?_, by rw [HE.out], below_put ((Below.on hbW b4).setCell (p := ⟨w.heap.size + 1, 0, none⟩) (by simp) _) (by omega) _⟩
      simp [results, Try.f24, go_sem, hc5]
    | true =>
      have hcall := tablesFit_any _ L W hsW
      rw [hT] at hcall
      gi_wp2_with (first
        | (refine ⟨trivial, ?_⟩; gi_at_call 43; refine (callsIn_wide.2 hcall).mono ?_; rintro e w4 ⟨rfl, b4⟩; have r4 : Boxed w4 (w.heap.size + 1) 23 (.int .i64 0) := cells_below rW b4 rW.lt; have m4 := cells_below mW b4 (Nat.lt_of_succ_lt rW.lt); obtain ⟨d0, d1, d2, d3, d4⟩ := five m4)
        | (refine ⟨trivial, ?_⟩; gi_at_call 42; refine (roots_in Fence.wide _ trivial rfl _ _ _ _ _ _).mono ?_; rintro e w3 ⟨rfl, rfl⟩))
      have hb4 := Below.on hbW b4
      have hBm4 : w.heap.size + 1 < w4.heap.size := r4.lt
      have m5 : (w4.alloc (.cells #[.int .i64 gm, .slice ra rn rc, .slice sa sn sc, .slice fa sn fc, .slice na nn nc] 44)).heap[w4.heap.size]? = some (.cells #[.int .i64 gm, .slice ra rn rc, .slice sa sn sc, .slice fa sn fc, .slice na nn nc] 44) := World.alloc_heap_new _ _
      have m5' := cells_alloc m4 (.cells #[.int .i64 gm, .slice ra rn rc, .slice sa sn sc, .slice fa sn fc, .slice na nn nc] 44)
      have r5 := r4.alloc (.cells #[.int .i64 gm, .slice ra rn rc, .slice sa sn sc, .slice fa sn fc, .slice na nn nc] 44)
      have hb5 : Below w.heap.size w (w4.alloc (.cells #[.int .i64 gm, .slice ra rn rc, .slice sa sn sc, .slice fa sn fc, .slice na nn nc] 44)) := hb4.alloc hb4.size _
      have hK5 : (w4.alloc (.cells #[.int .i64 gm, .slice ra rn rc, .slice sa sn sc, .slice fa sn fc, .slice na nn nc] 44)).heap[D]? = some (.deferred (some [])) := hKD (b4.alloc b4.size _)
      have hsz5 : (w4.alloc (.cells #[.int .i64 gm, .slice ra rn rc, .slice sa sn sc, .slice fa sn fc, .slice na nn nc] 44)).heap.size = w4.heap.size + 1 := by simp
      have hsz51 := Nat.le_of_eq hsz5
      have hsz52 := Nat.le_of_eq hsz5.symm
      clear hsz5
      obtain ⟨zs0, hL5, hzs0⟩ := rootsA_of hr hS hS3 hb5 m5
      obtain ⟨zs, hz1, hz2⟩ := rootsB_of zs0 (fun x hx => by
        have := HA.out
        rw [← hzs0, List.all_eq_true] at this
        exact this x.1.2 (List.mem_map.2 ⟨x, hx, rfl⟩))
      have hzs := hz2.trans hzs0
      rw [← hz1] at hL5
      obtain ⟨W5, hW5⟩ : ∃ W5, w4.alloc (.cells #[.int .i64 gm, .slice ra rn rc, .slice sa sn sc, .slice fa sn fc, .slice na nn nc] 44) = W5 := ⟨_, rfl⟩
      rw [hW5] at m5 m5' r5 hb5 hsz51 hsz52 hL5 hK5 ⊢
      have HzS : Hid (zs.map (fun x => x.1.2) = (⟨#[]⟩, gm, r) :: S) := hzs
      have hD5 : D < W5.heap.size := (Array.getElem?_eq_some_iff.1 hK5).1
      clear hz1 hz2 hzs0 hW5 hcall c0 c1 c2 c3 c4 d0 d1 d2 d3 d4 m4 r4 hzs hKD
      refine wpIn_rangeFunc_ownH rfl (by omega) (gf := 56) (lb := #[.pointer (some ⟨w4.heap.size, 0, none⟩)]) rfl trivial (enters_of Try.func56 (by kernel_rfl) rfl)
        (roots_stops (fun x : RootB w => x.1.1) Fence.wide 8 trivial rfl (by omega) w4.heap.size w.heap.size zs W5 hL5 (by omega) (by omega)) KpR.trans (KpR.put (by omega) (by omega)) (Below.refl _ _) (fun _ => rfl)
        (fun pre W => FAll L pre ∧ Below W5.heap.size W5 W)
        (fun c pre W => ((c = .ret ∧ FBad L pre) ∧ Boxed W (w.heap.size + 1) 23 (.int .i64 1)) ∧ (W.heap[D]? = some (.deferred (some [])) ∧ Below w.heap.size w W))
        (OwnFrom.and (ownFrom_pure _ _) (ownFrom_below (Nat.le_refl _) (Nat.le_refl _)))
        (fun c => OwnFrom.and (OwnFrom.and (ownFrom_pure _ _) (Own.from (boxed_own _ _ _) _)) (OwnFrom.and (fun _ X Y row hs hg hr => (hg.block D (Array.getElem?_eq_some_iff.1 hs).1 (fun e => by have := (hr D e.symm).1; omega)).trans hs) (ownFrom_below (Nat.le_refl _) (by omega))))
        ⟨(fun x hx => by cases hx), Below.refl _ _⟩
        (fun x a' W => ∃ Bx, W.heap[Bx]? = some (.cells #[.string x.1.1.nm, .int .i64 x.1.1.g, .slice x.1.1.a x.1.1.n x.1.1.c] 64) ∧ a' = { tmps := #[Value.agg #[.int .i64 gm, .slice ra rn rc, .slice sa sn sc, .slice fa sn fc, .slice na nn nc], .pointer (some ⟨w.heap.size, 0, none⟩), .pointer (some ⟨w.heap.size + 1, 0, none⟩), .int .i64 u, .int .i64 0, undef, .pointer (some ⟨Bx, 0, none⟩), .pointer (some ⟨w.heap.size, 4, none⟩), .slice na nn nc, .int .i64 nn, .bool false, .tuple #[.int .i64 u, .int .i64 0], .pointer (some ⟨w.heap.size, 2, none⟩), .slice sa sn sc, .tuple #[.int .i64 u, .int .i64 0], .int .i64 u, .int .i64 0, .int .i64 0, .bool false, undef, .pointer (some ⟨w.heap.size, 3, none⟩), .slice fa sn fc, .int .i64 sn, .pointer (some ⟨w.heap.size, 2, none⟩), .slice sa sn sc, .int .i64 sn, .bool false, .bool false, .pointer (some ⟨w.heap.size, 4, none⟩), .slice na nn nc, .bool true, .bool false, .bool false, Value.agg #[.int .i64 gm, .slice ra rn rc, .slice sa sn sc, .slice fa sn fc, .slice na nn nc], .func (.func 56) #[] #[.pointer (some ⟨w2.heap.size, 0, none⟩)], undef, undef, undef, undef, undef, undef, undef, undef, undef, .pointer (some ⟨w.heap.size, 2, none⟩), .slice sa sn sc, .bool true, .bool false, Value.agg #[.int .i64 gm, .slice ra rn rc, .slice sa sn sc, .slice fa sn fc, .slice na nn nc], .func (.func 56) #[] #[.pointer (some ⟨w4.heap.size, 0, none⟩)], .agg #[.string x.1.1.nm, .int .i64 x.1.1.g, .slice x.1.1.a x.1.1.n x.1.1.c], undef, undef, undef, undef, undef], defers := [] })
        (fun x a' _ X Y row hs hg hr => by obtain ⟨Bx, e1, e2⟩ := hs; exact ⟨Bx, cells_kept e1 hg (fun r e => (hr r e).2), e2⟩)
        ?assign2 ?body2 ?done2 ?stop2
      case assign2 =>
        rintro l pre x W K ⟨hp, hB1⟩ hK
        unfold encRoot
        gi_wp2
        exact hK _ _ ((KeepsOthers.alloc _ _).from _) (KpR.alloc (by have := hB1.size; omega) (by have := hB1.size; omega) _) ⟨hp, hB1.alloc hB1.size _⟩ ⟨W.heap.size, World.alloc_heap_new _ _, rfl⟩
      case body2 =>
        rintro l pre x a' W hl ⟨rr, hrr⟩ ⟨hp, hB1⟩ ⟨Bx, hBx, rfl⟩ hlt
        obtain ⟨e0, e1, e2⟩ := three hBx
        have rW : Boxed W (w.heap.size + 1) 23 (.int .i64 0) := cells_below r5 hB1 (by omega)
        have mW := cells_below m5' hB1 (by omega)
        obtain ⟨c0, c1, c2, c3, c4⟩ := five mW
        have hbW5 := hb5.trans (hB1.mono hb5.size)
        have hsx := hs.below hbW5
        have hrx := x.2.1.2.2.below hbW5
        have hKx : W.heap[D]? = some (.deferred (some [])) := (hB1.block D hD5).trans hK5
        have h1' : 1 ≤ 9 - 1 - 1 := by omega
        have hok := x.2.2
        · have hg : 0 ≤ x.1.2.2.1 ∧ x.1.2.2.1 ≤ 16 := by unfold guestOK at hok; simpa using hok
          have hgx : x.1.1.g = x.1.2.2.1 := x.2.1.2.1
          cases hF : rootFit L x.1.2.2.1 x.1.2.2.2 with
          | true =>
            have hcall := rootFits_is (nm := x.1.1.nm) hsx hE hg hrx hF
            rw [← hgx] at hcall
            clear hgx
            gi_wp2_with (refine ⟨trivial, ?_⟩; gi_at_call 44; refine (CallsIn.inRound l (callsIn_wide.2 hcall)).mono ?_; rintro e w6 ⟨rfl, b6⟩)
            exact ⟨keepsFrom_of_below b6, KpR.of_below b6 (by have := hB1.size; omega) (by have := hB1.size; omega), ⟨hp.snoc hF, hB1.trans (b6.mono hB1.size)⟩⟩
          | false =>
            have hcall := rootFits_is (nm := x.1.1.nm) hsx hE hg hrx hF
            rw [← hgx] at hcall
            clear hgx
            gi_wp2_with (refine ⟨trivial, ?_⟩; gi_at_call 44; refine (CallsIn.inRound l (callsIn_wide.2 hcall)).mono ?_; rintro e w6 ⟨rfl, b6⟩; have r6 : Boxed w6 (w.heap.size + 1) 23 (.int .i64 0) := cells_below rW b6 rW.lt; have cR := r6.cell; have fR := r6.frozen)
            exact ⟨(keepsFrom_of_below b6).trans ((KeepsOthers.setCell _ _ _).from _), ⟨⟨rfl, x, last_mem _ _, hF⟩, r6.set _⟩, (KeepsOthers.setCell _ _ _).same D _ ((b6.block D (Array.getElem?_eq_some_iff.1 hKx).1).trans hKx) rfl, (Below.on hbW5 b6).setCell (p := ⟨w.heap.size + 1, 0, none⟩) (by simp) _⟩
      case stop2 =>
        rintro D2 c pre W hD2 hpre ⟨⟨⟨rfl, x, hx, hy⟩, bR1⟩, hK1, hB2⟩ hK2
        have HE : Hid (tailE L ((⟨#[]⟩, gm, r) :: S) = 1) := by
          show _ = _
          unfold tailE
          rw [if_neg (by rw [HA.out]; simp), if_neg (by rw [hT]; simp), if_pos]
          rw [← HzS.out, ← Bool.not_eq_true, List.all_eq_true]
          intro hall
          have := hall x.1.2 (List.mem_map.2 ⟨x, hpre.subset hx, rfl⟩)
          rw [hy] at this
          cases this
        have hne : D ≠ D2 := by omega
        gi_wp2
        refine ⟨by simp, .inl ⟨_, _, rfl, run_takeDeferred hK2, ?_⟩⟩
        have hK1' : (W.putObj D2 (.deferred none)).heap[D]? = some (.deferred (some [])) := (World.putObj_heap_other hne).trans hK1
        refine ⟨by simp, .inl ⟨_, _, rfl, run_takeDeferred hK1', ?_⟩⟩
        have hc5 := (boxed_put (boxed_put bR1 (D := D2) (by omega) (.deferred none)) (D := D) (by omega) (.deferred none)).cell
        refine ⟨.int .i64 1, ?_, by rw [HE.out], below_put (below_put hB2 (by omega) _) (by omega) _⟩
        simp [results, Try.f24, go_sem, hc5]
      case done2 =>
        rintro D2 ys W hD2 rfl ⟨hp2, hB2⟩ hK2
        have HE : Hid (tailE L ((⟨#[]⟩, gm, r) :: S) = 0) := by
          show _ = _
          unfold tailE
          rw [if_neg (by rw [HA.out]; simp), if_neg (by rw [hT]; simp), if_neg]
          rw [Bool.not_eq_false, List.all_eq_true]
          intro s hs
          rw [← HzS.out] at hs
          obtain ⟨x, hx, rfl⟩ := List.mem_map.1 hs
          exact hp2 x hx
        have rW : Boxed W (w.heap.size + 1) 23 (.int .i64 0) := cells_below r5 hB2 (by omega)
        have cR := rW.cell
        have fR := rW.frozen
        have hbW6 := hb5.trans (hB2.mono hb5.size)
        have hK1 : W.heap[D]? = some (.deferred (some [])) := (hB2.block D hD5).trans hK5
        have hne : D ≠ D2 := by omega
        gi_wp2
        have hK2' := (KeepsOthers.setCell W ⟨w.heap.size + 1, 0, none⟩ (.int .i64 0)).same D2 _ hK2 rfl
        have hK1' := (KeepsOthers.setCell W ⟨w.heap.size + 1, 0, none⟩ (.int .i64 0)).same D _ hK1 rfl
        refine ⟨by simp, .inl ⟨_, _, rfl, run_takeDeferred hK2', ?_⟩⟩
        have hK1'' := (World.putObj_heap_other (o := .deferred none) hne).trans hK1'
        refine ⟨by simp, .inl ⟨_, _, rfl, run_takeDeferred hK1'', ?_⟩⟩
        have hc5 := (boxed_put (boxed_put (rW.set (.int .i64 0)) (D := D2) (by omega) (.deferred none)) (D := D) (by omega) (.deferred none)).cell
        refine ⟨.int .i64 0, ?_, by rw [HE.out], below_put (below_put (hbW6.setCell (p := ⟨w.heap.size + 1, 0, none⟩) (by simp) _) (by omega) _) (by omega) _⟩
        simp [results, Try.f24, go_sem, hc5]

theorem Img.parts {w : World} {v : Value} {m : ImgD} (h : Img w v m) : ∃ ra rc sa sc fa fc na nc, v = .agg #[.int .i64 m.guest, .slice ra m.root.length rc, .slice sa m.slots.length sc, .slice fa m.refs.length fc, .slice na m.snaps.length nc] ∧
    Sl w (.slice ra m.root.length rc) m.root ∧ Slots w (.slice sa m.slots.length sc) m.slots ∧ Sl w (.slice fa m.refs.length fc) m.refs ∧ Snaps w (.slice na m.snaps.length nc) m.snaps := by
  obtain ⟨rv, sv, fv, nv, rfl, h1, h2, h3, h4⟩ := h
  obtain ⟨ra, rc, rfl⟩ := h1.form
  obtain ⟨sa, sc, rfl⟩ := h2.form
  obtain ⟨fa, fc, rfl⟩ := h3.form
  obtain ⟨na, nc, rfl⟩ := h4.form
  exact ⟨ra, rc, sa, sc, fa, fc, na, nc, rfl, h1, h2, h3, h4⟩

theorem shape_is {w : World} {v : Value} {m : ImgD} (h : Img w v m) {E : Int} (hE : shapeE m = E) :
    Calls Try.prog 24 #[v] w fun r w' => r = .returned (.int .i64 E) ∧ Below w.heap.size w w' := by
  subst hE
  obtain ⟨ra, rc, sa, sc, fa, fc, na, nc, rfl, h1, h2, h3, h4⟩ := h.parts
  unfold shapeE
  by_cases hm : 3 < m.snaps.length
  · rw [if_pos hm]
    exact shape_many _ _ _ _ _ _ _ _ _ _ _ _ _ w hm
  rw [if_neg hm]
  by_cases hs : slotsE m.slots = 0
  · rw [if_neg (by simpa using hs)]
    by_cases hr : m.refs.length = m.slots.length
    · cases hn : namesOK m.snaps with
      | false =>
        rw [if_pos (.inr rfl)]
        rw [hr]
        exact shape_names _ _ _ _ _ _ _ _ _ _ _ _ m.slots m.snaps w (by omega) h2 hs h4 (by omega) hn
      | true =>
        rw [if_neg (by rintro (h | h); exact h hr; cases h)]
        rw [hr]
        exact shape_tail _ _ _ _ _ _ _ _ _ _ _ _ m.root m.slots m.snaps w (by omega) h1 h2 hs h4 (by omega) hn
    · rw [if_pos (.inl hr)]
      exact shape_refs _ _ _ _ _ _ _ _ _ _ _ _ _ m.slots w (by omega) h2 hs hr
  · rw [if_pos hs]
    exact shape_used _ _ _ _ _ _ _ _ _ _ _ _ _ m.slots _ w (by omega) h2 rfl (by simpa using hs)
end Go.Proofs.Ytehleeibgkpjmab
