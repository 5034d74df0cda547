/- Texts joined: ImgIn, FitIn. -/
import Derived.Test.YtehleeibgkpjmaeMendTellsJ1
import Derived.Test.YtehleeibgkpjmaeMendTellsJ9
import Derived.Test.YtehleeibgkpjmaeMendTellsJ8
import Derived.SizedLaws
/- From the reading of an argument to what it holds: snapshots, slices of them, images. -/
namespace Go.Proofs.Ytehleeibgkpjmae
open Go.RowKit Go.Deep Go.ChangeShapes Go.WideShapes Go.ChangeAt
set_option maxRecDepth 20000

theorem cellsSnap : Try.prog.cellsOf 64 = 3 := by kernel_rfl
theorem cellsSnaps : Try.prog.cellsOf 24 = 1 := by kernel_rfl
theorem cellsSlots : Try.prog.cellsOf 23 = 1 := by kernel_rfl
theorem cellsImage : Try.prog.cellsOf 26 = 5 := by kernel_rfl

variable {H : Type} {enc : TypeId × Value → H} {w : World} {base : Nat} {spare : Nat → Bool} {held : Bool}

set_option maxRecDepth 20000 in
theorem snap_of_trod {n : Nat} {cs : List Value} {x : DataW H × List MemPlace} (h : DataW.trod enc Try.prog w base spare held n 64 cs = some x) :
    ∃ d k tv xs, cs = [.string d, .int .i64 k, tv] ∧ Sl w tv xs := by
  obtain ⟨y0, y1, y2, m, _, hl, h0, h1, h2⟩ := trod_struct3 Try.underlying64 h
  rw [cellsSnap] at hl
  match cs, hl with
  | [c0, c1, c2], _ =>
    simp only [cells3, cells9, cells27] at h0 h1 h2
    obtain ⟨d, e0, _, _⟩ := DataW.trod_string Try.underlying9 h0
    obtain ⟨k, e1, _, _⟩ := DataW.trod_int Try.underlying3 h1
    obtain ⟨tv, xs, e2, hs⟩ := sl_of_trod h2
    simp at e0 e1 e2
    subst e0 e1 e2
    exact ⟨d, k, _, xs, rfl, hs⟩

theorem snaps_of_trod {n : Nat} {v : Value} {x : DataW H × List MemPlace} (h : DataW.trod enc Try.prog w base spare held n 24 [v] = some x) : ∃ L, Snaps w v L := by
  rcases open_slice Try.underlying24 h with ⟨hv, _⟩ | ⟨a, len, cap, m, fuel, D, Pl, hv, _, hl, hm, hmm, _, hx⟩
  · simp at hv
    subst hv
    exact ⟨[], none, 0, rfl, Nat.zero_le _, Nat.zero_le _, fun h => absurd rfl h⟩
  · simp at hv
    subst hv
    rw [cellsSnap] at hx
    have hx' : ∀ i, i < len → ∃ s : SnapD, ∃ tv, w.cell? (a.add (i * 3)) = some (.string s.1) ∧ w.cell? ((a.add (i * 3)).add 1) = some (.int .i64 s.2.1) ∧ w.cell? ((a.add (i * 3)).add 2) = some tv ∧ Sl w tv s.2.2 := by
      intro i hi
      obtain ⟨cs', h1, h2⟩ := hx i (by rw [hmm]; split <;> omega)
      obtain ⟨k, d, tv, xs, rfl, hs⟩ := snap_of_trod h2
      obtain ⟨_, _, hc⟩ := World.cells?_some h1
      have c0 := hc 0 (by omega)
      have c1 := hc 1 (by omega)
      have c2 := hc 2 (by omega)
      exact ⟨(k, d, xs), tv, by simpa [Addr.add] using c0, c1, c2, hs⟩
    obtain ⟨f, hf⟩ := choose_lt hx'
    have hlen : ((List.range len).map f).length = len := by simp
    refine ⟨(List.range len).map f, some a, cap, by rw [hlen], by rw [hlen]; omega, by rw [hlen]; exact hl, fun hne => ?_⟩
    have hpos : 0 < len := by
      rcases Nat.eq_zero_or_pos len with e | e
      · subst e; simp at hne
      · exact e
    obtain ⟨tv0, c0, _⟩ := hf 0 hpos
    obtain ⟨b, off, spot⟩ := a
    have hspot : spot = none := by simpa [Addr.add] using World.cell?_spot c0
    subst hspot
    refine ⟨b, off, rfl, World.block_lt_of_cell? w _ (by rw [addr_add] at c0; exact c0), fun j hj => ?_⟩
    rw [hlen] at hj
    obtain ⟨tv, c0, c1, c2, hs⟩ := hf j hj
    rw [addr_add] at c0 c1 c2
    rw [addr_add] at c1 c2
    have e : ((List.range len).map f)[j]'(by rw [hlen]; exact hj) = f j := by simp
    rw [e]
    exact ⟨tv, c0, c1, c2, hs⟩

theorem trod_struct5 {P : Program} {t : TypeId} {f0 f1 f2 f3 f4 : Field} {fuel : Nat} {cs : List Value} {x : DataW H × List MemPlace} (ht : P.underlying t = some (.struct #[f0, f1, f2, f3, f4])) (h : DataW.trod enc P w base spare held fuel t cs = some x) :
    ∃ y0 y1 y2 y3 y4 n, cs.length = P.cellsOf t ∧ DataW.trod enc P w base spare held n f0.type ((cs.drop f0.offset).take (P.cellsOf f0.type)) = some y0 ∧
      DataW.trod enc P w base spare held n f1.type ((cs.drop f1.offset).take (P.cellsOf f1.type)) = some y1 ∧ DataW.trod enc P w base spare held n f2.type ((cs.drop f2.offset).take (P.cellsOf f2.type)) = some y2 ∧
      DataW.trod enc P w base spare held n f3.type ((cs.drop f3.offset).take (P.cellsOf f3.type)) = some y3 ∧ DataW.trod enc P w base spare held n f4.type ((cs.drop f4.offset).take (P.cellsOf f4.type)) = some y4 := by
  obtain ⟨xs, n, _, rfl, hl, hlen, hf⟩ := DataW.trod_struct ht h
  match xs, hlen with
  | [y0, y1, y2, y3, y4], _ => exact ⟨y0, y1, y2, y3, y4, n, hl, by simpa using hf 0 f0 rfl, by simpa using hf 1 f1 rfl, by simpa using hf 2 f2 rfl, by simpa using hf 3 f3 rfl, by simpa using hf 4 f4 rfl⟩
set_option maxRecDepth 20000 in
theorem img_of_trod {n : Nat} {cs : List Value} {x : DataW H × List MemPlace} (h : DataW.trod enc Try.prog w base spare held n 26 cs = some x) : ∃ g rv sv fv nv, cs = [.int .i64 g, rv, sv, fv, nv] ∧ ∃ r L F S, Sl w rv r ∧ Slots w sv L ∧ Sl w fv F ∧ Snaps w nv S := by
  obtain ⟨y0, y1, y2, y3, y4, m, hl, h0, h1, h2, h3, h4⟩ := trod_struct5 Try.underlying26 h
  rw [cellsImage] at hl
  match cs, hl with
  | [c0, c1, c2, c3, c4], _ =>
    simp only [cells3] at h0
    simp only [cells27] at h1 h3
    simp only [cellsSlots] at h2
    simp only [cellsSnaps] at h4
    obtain ⟨g, e0, _, _⟩ := DataW.trod_int Try.underlying3 h0
    obtain ⟨rv, r, e1, hr⟩ := sl_of_trod h1
    obtain ⟨L, hL⟩ := slots_of_trod (v := c2) h2
    obtain ⟨fv, F, e3, hF⟩ := sl_of_trod h3
    obtain ⟨S, hS⟩ := snaps_of_trod (v := c4) h4
    simp at e0 e1 e3
    subst e0 e1 e3
    exact ⟨g, _, _, _, _, rfl, r, L, F, S, hr, hL, hF, hS⟩
set_option maxRecDepth 20000 in
theorem img_of_arg {r : Reach} {b0 : Nat} {v : Value} {d : DataW H} {p : List MemPlace} (hv : Value.okWide Try.prog w r b0 26 v) (h : DataW.Trod enc Try.prog w base spare held 26 v d p) : ∃ m, Img w v m := by
  obtain ⟨cs, rfl, hsz⟩ := okWide_struct Try.underlying26 hv
  obtain ⟨fuel, hf⟩ := h
  obtain ⟨g, rv, sv, fv, nv, e, r, L, F, S, h1, h2, h3, h4⟩ := img_of_trod hf
  have e' : cs.toList = [.int .i64 g, rv, sv, fv, nv] := by simpa [Value.cells] using e
  cases cs
  simp at e'
  exact ⟨⟨g, r, L, F, S⟩, rv, sv, fv, nv, by rw [e'], h1, h2, h3, h4⟩
end Go.Proofs.Ytehleeibgkpjmae
/- From the reading of an argument to what it holds, and that it is not too wide to be copied. -/
namespace Go.Proofs.Ytehleeibgkpjmae
open Go.RowKit Go.Deep Go.ChangeShapes Go.WideShapes Go.ChangeAt
set_option maxRecDepth 20000

theorem bytes3 : Try.prog.bytesOf 3 = 8 := by kernel_rfl
theorem bytesSlot : Try.prog.bytesOf 72 = 48 := by kernel_rfl
theorem bytesSnap : Try.prog.bytesOf 64 = 48 := by kernel_rfl
theorem reach_room : reachBytes ≤ room := by decide

section
variable {H : Type} {enc : TypeId × Value → H} {w : World} {base : Nat} {spare : Nat → Bool} {held : Bool}

def Rch {H : Type} (d : DataW H) (t : TypeId) : Prop := ∀ n ∈ d.weights Try.prog t, n ≤ reachBytes
theorem mem_weightsAll {P : Program} {e : TypeId} {d : DataW H} {n : Nat} : ∀ {l : List (DataW H)}, d ∈ l → n ∈ d.weights P e → n ∈ DataW.weightsAll P e l
  | x :: l, hd, hn => by
    simp only [DataW.weightsAll, List.mem_append]
    rcases List.mem_cons.1 hd with rfl | h
    · exact .inl hn
    · exact .inr (mem_weightsAll h hn)
theorem sl_fit {n : Nat} {cs : List Value} {x : DataW H × List MemPlace} (h : DataW.trod enc Try.prog w base spare held n 22 cs = some x) (hr : Rch x.1 22) : ∃ v xs, cs = [v] ∧ Sl w v xs ∧ xs.length * 8 ≤ room := by
  obtain ⟨v, xs, e, hs⟩ := sl_of_trod h
  refine ⟨v, xs, e, hs, ?_⟩
  rcases open_ints Try.underlying22 Try.underlying3 cells3 h with ⟨rfl, _⟩ | ⟨a, l, c, zs, rfl, _, hl, hm, hz, rfl, hcell, _⟩
  · simp at e
    subst e
    obtain ⟨ao, cap, e, _⟩ := hs
    simp only [Value.slice.injEq] at e
    rw [← e.2.1, Nat.zero_mul]; exact Nat.zero_le _
  · simp at e
    subst e
    obtain ⟨ao, cap, e, _⟩ := hs
    simp only [Value.slice.injEq] at e
    have hlz : l ≤ zs.length := by rw [hz]; split <;> omega
    have := hr ((zs.take l).length * 8 + (zs.drop l).length * 8) (by
      simp only [DataW.weights, Try.underlying22, lits, List.length_map, bytes3, Nat.add_mul]
      exact List.mem_cons_self)
    have hh := Nat.le_trans this reach_room
    rw [List.length_take, List.length_drop] at hh
    rw [← e.2.1]
    omega

set_option maxRecDepth 20000 in
theorem slot_fit {n : Nat} {cs : List Value} {x : DataW H × List MemPlace} (h : DataW.trod enc Try.prog w base spare held n 72 cs = some x) (hr : Rch x.1 72) :
    ∃ k d tv xs, cs = [.int .i64 k, .string d, tv] ∧ Sl w tv xs ∧ xs.length * 8 ≤ room := by
  obtain ⟨y0, y1, y2, m, rfl, hl, h0, h1, h2⟩ := trod_struct3 Try.underlying72 h
  rw [cells29] at hl
  match cs, hl with
  | [c0, c1, c2], _ =>
    simp only [cells3, cells9, cells27] at h0 h1 h2
    have hr2 : Rch y2.1 22 := fun n hn => hr n (by
      simp only [DataW.weights, Try.underlying72, DataW.weightsEach, List.map_cons, List.map_nil, List.mem_append]
      exact .inr (.inr (.inl hn)))
    obtain ⟨tv, xs, e2, hs, hb⟩ := sl_fit h2 hr2
    obtain ⟨k, e0, _, _⟩ := DataW.trod_int Try.underlying3 h0
    obtain ⟨d, e1, _, _⟩ := DataW.trod_string Try.underlying9 h1
    simp at e0 e1 e2
    subst e0 e1 e2
    exact ⟨k, d, _, xs, rfl, hs, hb⟩
theorem slots_fit {n : Nat} {v : Value} {x : DataW H × List MemPlace} (h : DataW.trod enc Try.prog w base spare held n 23 [v] = some x) (hr : Rch x.1 23) : ∃ L, Slots w v L ∧ L.length * 48 ≤ room ∧ ∀ j, j < L.length → (L.getD j default).2.2.length * 8 ≤ room := by
  rcases open_slice Try.underlying23 h with ⟨hv, _⟩ | ⟨a, len, cap, m, fuel, D, Pl, hv, _, hl, hm, hmm, rfl, hx⟩
  · simp at hv
    subst hv
    exact ⟨[], ⟨none, 0, rfl, Nat.zero_le _, Nat.zero_le _, fun h => absurd rfl h⟩, Nat.zero_le _, fun j hj => absurd hj (Nat.not_lt_zero _)⟩
  · simp at hv
    subst hv
    rw [cells29] at hx
    have hx' : ∀ i, i < len → ∃ s : SlotD, ∃ tv, w.cell? (a.add (i * 3)) = some (.int .i64 s.1) ∧ w.cell? ((a.add (i * 3)).add 1) = some (.string s.2.1) ∧ w.cell? ((a.add (i * 3)).add 2) = some tv ∧ Sl w tv s.2.2 ∧ s.2.2.length * 8 ≤ room := by
      intro i hi
      obtain ⟨cs', h1, h2⟩ := hx i (by rw [hmm]; split <;> omega)
      have hri : Rch (D i) 72 := fun n hn => hr n (by
        simp only [DataW.weights, Try.underlying23]
        refine List.mem_cons_of_mem _ (List.mem_append_left _ (mem_weightsAll (d := D i) ?_ hn))
        exact List.mem_map.2 ⟨i, List.mem_range.2 hi, rfl⟩)
      obtain ⟨k, d, tv, xs, rfl, hs, hb⟩ := slot_fit h2 hri
      obtain ⟨_, _, hc⟩ := World.cells?_some h1
      have c0 := hc 0 (by omega)
      have c1 := hc 1 (by omega)
      have c2 := hc 2 (by omega)
      exact ⟨(k, d, xs), tv, by simpa [Addr.add] using c0, c1, c2, hs, hb⟩
    obtain ⟨f, hf⟩ := choose_lt hx'
    have hlen : ((List.range len).map f).length = len := by simp
    refine ⟨(List.range len).map f, ⟨some a, cap, by rw [hlen], by rw [hlen]; omega, by rw [hlen]; exact hl, fun hne => ?_⟩, ?_, fun j hj => ?_⟩
    · have hpos : 0 < len := by
        rcases Nat.eq_zero_or_pos len with e | e
        · subst e; simp at hne
        · exact e
      obtain ⟨tv0, c0, _⟩ := hf 0 hpos
      obtain ⟨b, off, spot⟩ := a
      have hspot : spot = none := by simpa [Addr.add] using World.cell?_spot c0
      subst hspot
      refine ⟨b, off, rfl, World.block_lt_of_cell? w _ (by rw [addr_add] at c0; exact c0), fun j hj => ?_⟩
      rw [hlen] at hj
      obtain ⟨tv, c0, c1, c2, hs, _⟩ := hf j hj
      rw [addr_add] at c0 c1 c2
      rw [addr_add] at c1 c2
      have e : ((List.range len).map f)[j]'(by rw [hlen]; exact hj) = f j := by simp
      rw [e]
      exact ⟨tv, c0, c1, c2, hs⟩
    · rw [hlen]
      have := hr ((len + (m - len)) * 48) (by
        simp only [DataW.weights, Try.underlying23, List.length_map, List.length_range, bytesSlot]
        exact List.mem_cons_self)
      have hh := Nat.le_trans this reach_room
      have : len * 48 ≤ (len + (m - len)) * 48 := Nat.mul_le_mul_right _ (by omega)
      omega
    · rw [hlen] at hj
      obtain ⟨_, _, _, _, _, hb⟩ := hf j hj
      have e : ((List.range len).map f).getD j default = f j := by simp [List.getD, hj]
      rw [e]
      exact hb

set_option maxRecDepth 20000 in
theorem snap_fitB {n : Nat} {cs : List Value} {x : DataW H × List MemPlace} (h : DataW.trod enc Try.prog w base spare held n 64 cs = some x) (hr : Rch x.1 64) :
    ∃ d k tv xs, cs = [.string d, .int .i64 k, tv] ∧ Sl w tv xs ∧ xs.length * 8 ≤ room := by
  obtain ⟨y0, y1, y2, m, rfl, hl, h0, h1, h2⟩ := trod_struct3 Try.underlying64 h
  rw [cellsSnap] at hl
  match cs, hl with
  | [c0, c1, c2], _ =>
    simp only [cells3, cells9, cells27] at h0 h1 h2
    have hr2 : Rch y2.1 22 := fun n hn => hr n (by
      simp only [DataW.weights, Try.underlying64, DataW.weightsEach, List.map_cons, List.map_nil, List.mem_append]
      exact .inr (.inr (.inl hn)))
    obtain ⟨tv, xs, e2, hs, hb⟩ := sl_fit h2 hr2
    obtain ⟨d, e0, _, _⟩ := DataW.trod_string Try.underlying9 h0
    obtain ⟨k, e1, _, _⟩ := DataW.trod_int Try.underlying3 h1
    simp at e0 e1 e2
    subst e0 e1 e2
    exact ⟨d, k, _, xs, rfl, hs, hb⟩
theorem snaps_fit {n : Nat} {v : Value} {x : DataW H × List MemPlace} (h : DataW.trod enc Try.prog w base spare held n 24 [v] = some x) (hr : Rch x.1 24) : ∃ L, Snaps w v L ∧ L.length * 48 ≤ room ∧ ∀ j, j < L.length → (L.getD j default).2.2.length * 8 ≤ room := by
  rcases open_slice Try.underlying24 h with ⟨hv, _⟩ | ⟨a, len, cap, m, fuel, D, Pl, hv, _, hl, hm, hmm, rfl, hx⟩
  · simp at hv
    subst hv
    exact ⟨[], ⟨none, 0, rfl, Nat.zero_le _, Nat.zero_le _, fun h => absurd rfl h⟩, Nat.zero_le _, fun j hj => absurd hj (Nat.not_lt_zero _)⟩
  · simp at hv
    subst hv
    rw [cellsSnap] at hx
    have hx' : ∀ i, i < len → ∃ s : SnapD, ∃ tv, w.cell? (a.add (i * 3)) = some (.string s.1) ∧ w.cell? ((a.add (i * 3)).add 1) = some (.int .i64 s.2.1) ∧ w.cell? ((a.add (i * 3)).add 2) = some tv ∧ Sl w tv s.2.2 ∧ s.2.2.length * 8 ≤ room := by
      intro i hi
      obtain ⟨cs', h1, h2⟩ := hx i (by rw [hmm]; split <;> omega)
      have hri : Rch (D i) 64 := fun n hn => hr n (by
        simp only [DataW.weights, Try.underlying24]
        refine List.mem_cons_of_mem _ (List.mem_append_left _ (mem_weightsAll (d := D i) ?_ hn))
        exact List.mem_map.2 ⟨i, List.mem_range.2 hi, rfl⟩)
      obtain ⟨d, k, tv, xs, rfl, hs, hb⟩ := snap_fitB h2 hri
      obtain ⟨_, _, hc⟩ := World.cells?_some h1
      have c0 := hc 0 (by omega)
      have c1 := hc 1 (by omega)
      have c2 := hc 2 (by omega)
      exact ⟨(d, k, xs), tv, by simpa [Addr.add] using c0, c1, c2, hs, hb⟩
    obtain ⟨f, hf⟩ := choose_lt hx'
    have hlen : ((List.range len).map f).length = len := by simp
    refine ⟨(List.range len).map f, ⟨some a, cap, by rw [hlen], by rw [hlen]; omega, by rw [hlen]; exact hl, fun hne => ?_⟩, ?_, fun j hj => ?_⟩
    · have hpos : 0 < len := by
        rcases Nat.eq_zero_or_pos len with e | e
        · subst e; simp at hne
        · exact e
      obtain ⟨tv0, c0, _⟩ := hf 0 hpos
      obtain ⟨b, off, spot⟩ := a
      have hspot : spot = none := by simpa [Addr.add] using World.cell?_spot c0
      subst hspot
      refine ⟨b, off, rfl, World.block_lt_of_cell? w _ (by rw [addr_add] at c0; exact c0), fun j hj => ?_⟩
      rw [hlen] at hj
      obtain ⟨tv, c0, c1, c2, hs, _⟩ := hf j hj
      rw [addr_add] at c0 c1 c2
      rw [addr_add] at c1 c2
      have e : ((List.range len).map f)[j]'(by rw [hlen]; exact hj) = f j := by simp
      rw [e]
      exact ⟨tv, c0, c1, c2, hs⟩
    · rw [hlen]
      have := hr ((len + (m - len)) * 48) (by
        simp only [DataW.weights, Try.underlying24, List.length_map, List.length_range, bytesSnap]
        exact List.mem_cons_self)
      have hh := Nat.le_trans this reach_room
      have : len * 48 ≤ (len + (m - len)) * 48 := Nat.mul_le_mul_right _ (by omega)
      omega
    · rw [hlen] at hj
      obtain ⟨_, _, _, _, _, hb⟩ := hf j hj
      have e : ((List.range len).map f).getD j default = f j := by simp [List.getD, hj]
      rw [e]
      exact hb

theorem trod_struct5x {P : Program} {t : TypeId} {f0 f1 f2 f3 f4 : Field} {fuel : Nat} {cs : List Value} {x : DataW H × List MemPlace} (ht : P.underlying t = some (.struct #[f0, f1, f2, f3, f4])) (h : DataW.trod enc P w base spare held fuel t cs = some x) :
    ∃ y0 y1 y2 y3 y4 n, x.1 = .agg [y0.1, y1.1, y2.1, y3.1, y4.1] ∧ cs.length = P.cellsOf t ∧ DataW.trod enc P w base spare held n f0.type ((cs.drop f0.offset).take (P.cellsOf f0.type)) = some y0 ∧
      DataW.trod enc P w base spare held n f1.type ((cs.drop f1.offset).take (P.cellsOf f1.type)) = some y1 ∧ DataW.trod enc P w base spare held n f2.type ((cs.drop f2.offset).take (P.cellsOf f2.type)) = some y2 ∧
      DataW.trod enc P w base spare held n f3.type ((cs.drop f3.offset).take (P.cellsOf f3.type)) = some y3 ∧ DataW.trod enc P w base spare held n f4.type ((cs.drop f4.offset).take (P.cellsOf f4.type)) = some y4 := by
  obtain ⟨xs, n, _, rfl, hl, hlen, hf⟩ := DataW.trod_struct ht h
  match xs, hlen with
  | [y0, y1, y2, y3, y4], _ => exact ⟨y0, y1, y2, y3, y4, n, by simp, hl, by simpa using hf 0 f0 rfl, by simpa using hf 1 f1 rfl, by simpa using hf 2 f2 rfl, by simpa using hf 3 f3 rfl, by simpa using hf 4 f4 rfl⟩
set_option maxRecDepth 20000 in
theorem img_fit {n : Nat} {cs : List Value} {x : DataW H × List MemPlace} (h : DataW.trod enc Try.prog w base spare held n 26 cs = some x) (hr : Rch x.1 26) : ∃ m : ImgD, ∃ rv sv fv nv, cs = [.int .i64 m.guest, rv, sv, fv, nv] ∧ Sl w rv m.root ∧ Slots w sv m.slots ∧ Sl w fv m.refs ∧ Snaps w nv m.snaps ∧ Fits m := by
  obtain ⟨y0, y1, y2, y3, y4, k, hx, hl, h0, h1, h2, h3, h4⟩ := trod_struct5x Try.underlying26 h
  rw [hx] at hr
  rw [cellsImage] at hl
  match cs, hl with
    | [c0, c1, c2, c3, c4], _ =>
      simp only [cells3] at h0
      simp only [cells27] at h1 h3
      simp only [cellsSlots] at h2
      simp only [cellsSnaps] at h4
      have hw : ∀ n, (n ∈ y1.1.weights Try.prog 22 ∨ n ∈ y2.1.weights Try.prog 23 ∨ n ∈ y3.1.weights Try.prog 22 ∨ n ∈ y4.1.weights Try.prog 24) → n ≤ reachBytes := fun n hn => hr n (by
        simp only [DataW.weights, Try.underlying26, DataW.weightsEach, List.map_cons, List.map_nil, List.mem_append]
        rcases hn with h | h | h | h
        · exact .inr (.inl h)
        · exact .inr (.inr (.inl h))
        · exact .inr (.inr (.inr (.inl h)))
        · exact .inr (.inr (.inr (.inr (.inl h)))))
      obtain ⟨g, e0, _, _⟩ := DataW.trod_int Try.underlying3 h0
      obtain ⟨rv, r, e1, hr1, b1⟩ := sl_fit h1 (fun n hn => hw n (.inl hn))
      obtain ⟨L, hL, b2, b2'⟩ := slots_fit (v := c2) h2 (fun n hn => hw n (.inr (.inl hn)))
      obtain ⟨fv, F, e3, hF, b3⟩ := sl_fit h3 (fun n hn => hw n (.inr (.inr (.inl hn))))
      obtain ⟨S, hS, b4, b4'⟩ := snaps_fit (v := c4) h4 (fun n hn => hw n (.inr (.inr (.inr hn))))
      simp at e0 e1 e3
      subst e0 e1 e3
      exact ⟨⟨g, r, L, F, S⟩, _, _, _, _, rfl, hr1, hL, hF, hS, b1, b2, b3, b4, b2', b4'⟩
theorem img_of_sized {r : Reach} {b0 : Nat} {v : Value} {d : DataW H} {p : List MemPlace} (hv : Value.okWide Try.prog w r b0 26 v) (h : DataW.Trod enc Try.prog w base spare held 26 v d p) (hr : ∀ n ∈ d.weights Try.prog 26, n ≤ reachBytes) : ∃ m, Img w v m ∧ Fits m := by
  obtain ⟨cs, rfl, hsz⟩ := okWide_struct Try.underlying26 hv
  obtain ⟨fuel, hf⟩ := h
  obtain ⟨m, rv, sv, fv, nv, e, h1, h2, h3, h4, hF⟩ := img_fit hf hr
  have e' : cs.toList = [.int .i64 m.guest, rv, sv, fv, nv] := by simpa [Value.cells] using e
  cases cs
  simp at e'
  exact ⟨m, ⟨rv, sv, fv, nv, by rw [e'], h1, h2, h3, h4⟩, hF⟩
end
end Go.Proofs.Ytehleeibgkpjmae
