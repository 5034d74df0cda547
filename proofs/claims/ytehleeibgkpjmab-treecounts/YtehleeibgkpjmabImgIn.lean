/- From the reading of an argument to what it holds: snapshots, slices of them, images. -/
import Derived.Test.YtehleeibgkpjmabImg
import Derived.Test.YtehleeibgkpjmabSlotsIn
namespace Go.Proofs.Ytehleeibgkpjmab
open Go.RowKit Go.Deep Go.ChangeShapes Go.WideShapes Go.ChangeAt
set_option maxRecDepth 20000

theorem cellsSnap : Try.prog.cellsOf 64 = 3 := by kernel_rfl
theorem cellsSnaps : Try.prog.cellsOf 42 = 1 := by kernel_rfl
theorem cellsSlots : Try.prog.cellsOf 22 = 1 := by kernel_rfl
theorem cellsImage : Try.prog.cellsOf 44 = 5 := by kernel_rfl

variable {H : Type} {enc : TypeId × Value → H} {w : World} {base : Nat} {spare : Nat → Bool} {held : Bool}

set_option maxRecDepth 20000 in
theorem snap_of_trod {n : Nat} {cs : List Value} {x : DataW H × List MemPlace} (h : DataW.trod enc Try.prog w base spare held n 64 cs = some x) :
    ∃ d k tv xs, cs = [.string d, .int .i64 k, tv] ∧ Sl w tv xs := by
  obtain ⟨y0, y1, y2, m, _, hl, h0, h1, h2⟩ := trod_struct3 Try.underlying64 h
  rw [cellsSnap] at hl
  match cs, hl with
  | [c0, c1, c2], _ =>
    simp only [cells3, cells9, cells27] at h0 h1 h2
    obtain ⟨d, e0, _, _⟩ := DataW.trod_string Try.underlying9 h0
    obtain ⟨k, e1, _, _⟩ := DataW.trod_int Try.underlying3 h1
    obtain ⟨tv, xs, e2, hs⟩ := sl_of_trod h2
    simp at e0 e1 e2
    subst e0 e1 e2
    exact ⟨d, k, _, xs, rfl, hs⟩

theorem snaps_of_trod {n : Nat} {v : Value} {x : DataW H × List MemPlace} (h : DataW.trod enc Try.prog w base spare held n 42 [v] = some x) : ∃ L, Snaps w v L := by
  rcases open_slice Try.underlying42 h with ⟨hv, _⟩ | ⟨a, len, cap, m, fuel, D, Pl, hv, _, hl, hm, hmm, _, hx⟩
  · simp at hv
    subst hv
    exact ⟨[], none, 0, rfl, Nat.zero_le _, Nat.zero_le _, fun h => absurd rfl h⟩
  · simp at hv
    subst hv
    rw [cellsSnap] at hx
    have hx' : ∀ i, i < len → ∃ s : SnapD, ∃ tv, w.cell? (a.add (i * 3)) = some (.string s.1) ∧ w.cell? ((a.add (i * 3)).add 1) = some (.int .i64 s.2.1) ∧ w.cell? ((a.add (i * 3)).add 2) = some tv ∧ Sl w tv s.2.2 := by
      intro i hi
      obtain ⟨cs', h1, h2⟩ := hx i (by rw [hmm]; split <;> omega)
      obtain ⟨k, d, tv, xs, rfl, hs⟩ := snap_of_trod h2
      obtain ⟨_, _, hc⟩ := World.cells?_some h1
      have c0 := hc 0 (by omega)
      have c1 := hc 1 (by omega)
      have c2 := hc 2 (by omega)
      exact ⟨(k, d, xs), tv, by simpa [Addr.add] using c0, c1, c2, hs⟩
    obtain ⟨f, hf⟩ := choose_lt hx'
    have hlen : ((List.range len).map f).length = len := by simp
    refine ⟨(List.range len).map f, some a, cap, by rw [hlen], by rw [hlen]; omega, by rw [hlen]; exact hl, fun hne => ?_⟩
    have hpos : 0 < len := by
      rcases Nat.eq_zero_or_pos len with e | e
      · subst e; simp at hne
      · exact e
    obtain ⟨tv0, c0, _⟩ := hf 0 hpos
    obtain ⟨b, off, spot⟩ := a
    have hspot : spot = none := by simpa [Addr.add] using World.cell?_spot c0
    subst hspot
    refine ⟨b, off, rfl, World.block_lt_of_cell? w _ (by rw [addr_add] at c0; exact c0), fun j hj => ?_⟩
    rw [hlen] at hj
    obtain ⟨tv, c0, c1, c2, hs⟩ := hf j hj
    rw [addr_add] at c0 c1 c2
    rw [addr_add] at c1 c2
    have e : ((List.range len).map f)[j]'(by rw [hlen]; exact hj) = f j := by simp
    rw [e]
    exact ⟨tv, c0, c1, c2, hs⟩

theorem trod_struct5 {P : Program} {t : TypeId} {f0 f1 f2 f3 f4 : Field} {fuel : Nat} {cs : List Value} {x : DataW H × List MemPlace} (ht : P.underlying t = some (.struct #[f0, f1, f2, f3, f4])) (h : DataW.trod enc P w base spare held fuel t cs = some x) :
    ∃ y0 y1 y2 y3 y4 n, cs.length = P.cellsOf t ∧ DataW.trod enc P w base spare held n f0.type ((cs.drop f0.offset).take (P.cellsOf f0.type)) = some y0 ∧
      DataW.trod enc P w base spare held n f1.type ((cs.drop f1.offset).take (P.cellsOf f1.type)) = some y1 ∧ DataW.trod enc P w base spare held n f2.type ((cs.drop f2.offset).take (P.cellsOf f2.type)) = some y2 ∧
      DataW.trod enc P w base spare held n f3.type ((cs.drop f3.offset).take (P.cellsOf f3.type)) = some y3 ∧ DataW.trod enc P w base spare held n f4.type ((cs.drop f4.offset).take (P.cellsOf f4.type)) = some y4 := by
  obtain ⟨xs, n, _, rfl, hl, hlen, hf⟩ := DataW.trod_struct ht h
  match xs, hlen with
  | [y0, y1, y2, y3, y4], _ => exact ⟨y0, y1, y2, y3, y4, n, hl, by simpa using hf 0 f0 rfl, by simpa using hf 1 f1 rfl, by simpa using hf 2 f2 rfl, by simpa using hf 3 f3 rfl, by simpa using hf 4 f4 rfl⟩
set_option maxRecDepth 20000 in
theorem img_of_trod {n : Nat} {cs : List Value} {x : DataW H × List MemPlace} (h : DataW.trod enc Try.prog w base spare held n 44 cs = some x) : ∃ g rv sv fv nv, cs = [.int .i64 g, rv, sv, fv, nv] ∧ ∃ r L F S, Sl w rv r ∧ Slots w sv L ∧ Sl w fv F ∧ Snaps w nv S := by
  obtain ⟨y0, y1, y2, y3, y4, m, hl, h0, h1, h2, h3, h4⟩ := trod_struct5 Try.underlying44 h
  rw [cellsImage] at hl
  match cs, hl with
  | [c0, c1, c2, c3, c4], _ =>
    simp only [cells3] at h0
    simp only [cells27] at h1 h3
    simp only [cellsSlots] at h2
    simp only [cellsSnaps] at h4
    obtain ⟨g, e0, _, _⟩ := DataW.trod_int Try.underlying3 h0
    obtain ⟨rv, r, e1, hr⟩ := sl_of_trod h1
    obtain ⟨L, hL⟩ := slots_of_trod (v := c2) h2
    obtain ⟨fv, F, e3, hF⟩ := sl_of_trod h3
    obtain ⟨S, hS⟩ := snaps_of_trod (v := c4) h4
    simp at e0 e1 e3
    subst e0 e1 e3
    exact ⟨g, _, _, _, _, rfl, r, L, F, S, hr, hL, hF, hS⟩
set_option maxRecDepth 20000 in
theorem img_of_arg {r : Reach} {b0 : Nat} {v : Value} {d : DataW H} {p : List MemPlace} (hv : Value.okWide Try.prog w r b0 44 v) (h : DataW.Trod enc Try.prog w base spare held 44 v d p) : ∃ m, Img w v m := by
  obtain ⟨cs, rfl, hsz⟩ := okWide_struct Try.underlying44 hv
  obtain ⟨fuel, hf⟩ := h
  obtain ⟨g, rv, sv, fv, nv, e, r, L, F, S, h1, h2, h3, h4⟩ := img_of_trod hf
  have e' : cs.toList = [.int .i64 g, rv, sv, fv, nv] := by simpa [Value.cells] using e
  cases cs
  simp at e'
  exact ⟨⟨g, r, L, F, S⟩, rv, sv, fv, nv, by rw [e'], h1, h2, h3, h4⟩
end Go.Proofs.Ytehleeibgkpjmab
