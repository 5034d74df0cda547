/- Contracts of roots and of the function that it answers: all Roots come, one by one, or a part of them, if a round says 'no more'. -/
import Derived.RangeFuncNested
import Derived.RangeFuncBound
import Derived.RangeFuncCalls
import Derived.RangeFuncLeaves
import Derived.Shelf.Abstract
import Derived.Shelf.RegionOpen
import Derived.WalkKit
import Derived.OwnWalkIn
import Derived.TacticsInMore
import Derived.LoopNIn
import Derived.LoopIn
import Derived.Test.YtehleeibgkpjmabImg
namespace Go.Proofs.Ytehleeibgkpjmab
open Go.RowKit Go.Shelf
set_option maxRecDepth 20000
attribute [local go_sem] Oper.semAt_some

/-- What a Root is handed on as: its three parts, the last one a slice value. -/
structure RootV where
  nm : ByteArray
  g : Int
  a : Option Addr
  n : Nat
  c : Nat
def encRoot (x : RootV) : Array Value := #[.agg #[.string x.nm, .int .i64 x.g, .slice x.a x.n x.c]]

/-- The Roots of an image as values: the image's own first. -/
structure RootsV (n₀ : Nat) (W : World) (Bm : Nat) (xs : List RootV) : Prop where
  ex : ∃ (g : Int) (ra : Option Addr) (rn rc : Nat) (sv fv : Value) (ao : Option Addr) (n cap : Nat) (ys : List RootV), xs = ⟨⟨#[]⟩, g, ra, rn, rc⟩ :: ys ∧ ys.length = n ∧ n ≤ 3 ∧
    W.cell? ⟨Bm, 0, none⟩ = some (.int .i64 g) ∧ W.cell? ⟨Bm, 1, none⟩ = some (.slice ra rn rc) ∧ W.cell? ⟨Bm, 2, none⟩ = some sv ∧ W.cell? ⟨Bm, 3, none⟩ = some fv ∧ W.cell? ⟨Bm, 4, none⟩ = some (.slice ao n cap) ∧
    (0 < n → ∃ b off, ao = some ⟨b, off, none⟩ ∧ b < n₀ ∧ ∀ j, (h : j < ys.length) → W.cell? ⟨b, off + j * 3, none⟩ = some (.string ys[j].nm) ∧ W.cell? ⟨b, off + j * 3 + 1, none⟩ = some (.int .i64 ys[j].g) ∧ W.cell? ⟨b, off + j * 3 + 1 + 1, none⟩ = some (.slice ys[j].a ys[j].n ys[j].c))
/-- What a round must keep: what lay below n₀, and the block Bm. -/
def KpR (n₀ Bm : Nat) (W W' : World) : Prop := Below n₀ W W' ∧ W'.heap[Bm]? = W.heap[Bm]?
theorem KpR.trans {n₀ Bm : Nat} {A B C : World} (h : KpR n₀ Bm A B) (k : KpR n₀ Bm B C) : KpR n₀ Bm A C := ⟨h.1.trans k.1, k.2.trans h.2⟩
theorem KpR.put {n₀ Bm : Nat} {w : World} (hn : n₀ ≤ w.heap.size) (hB : Bm < w.heap.size) (W : World) (l : Nat) (o o' : Obj) (hl : w.heap.size ≤ l) (h : W.heap[l]? = some o) (h1 : o.isCells = false) (h2 : o.isWalk = false) : KpR n₀ Bm W (W.putObj l o') :=
  ⟨belowK_b hn W l o o' hl h h1 h2, World.putObj_heap_other (by omega)⟩
theorem KpR.refl (n₀ Bm : Nat) (W : World) : KpR n₀ Bm W W := ⟨Below.refl _ _, rfl⟩
theorem KpR.of_below {n₀ Bm : Nat} {W W' : World} (h : Below W.heap.size W W') (hn : n₀ ≤ W.heap.size) (hB : Bm < W.heap.size) : KpR n₀ Bm W W' := ⟨h.mono hn, h.block _ hB⟩
theorem KpR.alloc {n₀ Bm : Nat} {W : World} (hn : n₀ ≤ W.heap.size) (hB : Bm < W.heap.size) (o : Obj) : KpR n₀ Bm W (W.alloc o) := KpR.of_below ((Below.refl _ W).alloc (Nat.le_refl _) o) hn hB
theorem cell_same {A B : World} {b : Nat} (h : B.heap[b]? = A.heap[b]?) (o : Nat) : B.cell? ⟨b, o, none⟩ = A.cell? ⟨b, o, none⟩ := by simp [World.cell?, h]
theorem RootsV.kept {n₀ Bm : Nat} {A B : World} {xs : List RootV} (h : RootsV n₀ A Bm xs) (hk : KpR n₀ Bm A B) : RootsV n₀ B Bm xs := by
  obtain ⟨g, ra, rn, rc, sv, fv, ao, n, cap, ys, h1, h2, h3, c0, c1, c2, c3, c4, h5⟩ := h.ex
  refine ⟨g, ra, rn, rc, sv, fv, ao, n, cap, ys, h1, h2, h3, (cell_same hk.2 _).trans c0, (cell_same hk.2 _).trans c1, (cell_same hk.2 _).trans c2, (cell_same hk.2 _).trans c3, (cell_same hk.2 _).trans c4, fun h0 => ?_⟩
  obtain ⟨b, off, e, hlt, hc⟩ := h5 h0
  exact ⟨b, off, e, hlt, fun j hj => ⟨(hk.1.cell (p := ⟨b, off + j * 3, none⟩) hlt).trans (hc j hj).1, (hk.1.cell (p := ⟨b, off + j * 3 + 1, none⟩) hlt).trans (hc j hj).2.1, (hk.1.cell (p := ⟨b, off + j * 3 + 1 + 1, none⟩) hlt).trans (hc j hj).2.2⟩⟩

theorem roots_in (F : Fence) (n : Nat) (h1 : F.fn 42) (hro : F.round = none) (a0 a1 a2 a3 a4 : Value) (w : World) :
    CallsIn F n Try.prog 42 #[.agg #[a0, a1, a2, a3, a4]] w fun e w' => e = .returned (.func (.func 56) #[] #[.pointer (some ⟨w.heap.size, 0, none⟩)]) ∧ w' = w.alloc (.cells #[a0, a1, a2, a3, a4] 44) := by
  refine callsIn_of_wp Try.func42 rfl h1 ?_ hro
  simp only [Try.ntmps42, List.size_toArray, List.length_cons, List.length_nil, Nat.reduceAdd, Nat.reduceSub, Array.replicate_succ, Array.replicate_zero, List.push_toArray, List.append_toArray, List.nil_append, List.cons_append]
  gi_wp2
  go_ret
  exact ⟨rfl, rfl⟩

set_option maxRecDepth 100000 in
set_option maxHeartbeats 2000000 in
theorem roots1_in {α : Type} (val : α → RootV) (F : Fence) (n : Nat) (h6 : F.fn 56) (hro : F.round = none) (hn : 1 ≤ n) (l Bm n₀ : Nat) (xs : List α) (J Jx : List α → World → Prop)
    (hY : ∀ pre x W, J pre W → pre.length < xs.length → YieldAt F (n - 1) Try.prog l (encRoot (val x)) W fun e W' =>
      (e = .returned (.bool true) ∧ J (pre ++ [x]) W' ∧ KpR n₀ Bm W W') ∨ (e = .returned (.bool false) ∧ Jx (pre ++ [x]) W'))
    (hJa : ∀ s W o, J s W → J s (W.alloc o)) (W : World) (hL : RootsV n₀ W Bm (xs.map val)) (hn₀ : n₀ ≤ W.heap.size) (hBm : Bm < W.heap.size) (h0 : J [] W) :
    CallsIn F n Try.prog 56 #[.func (.yield l) #[] #[], .pointer (some ⟨Bm, 0, none⟩)] W fun e W' => (∃ v, e = .returned v) ∧
      ((∃ ys, ys = xs ∧ J ys W') ∨ (∃ pre, pre <+: xs ∧ Jx pre W')) := by
  obtain ⟨g, ra, rn, rc, sv, fv, ao, m, cap, vs, hx, hz, hm3, c0, c1, c2, c3, c4, hc⟩ := hL.ex
  obtain ⟨x0, zs, rfl, hx0, hzs⟩ := List.map_eq_cons_iff.1 hx
  subst hzs
  have HZ : Hid (zs.length = m) := by show _ = _; simpa using hz
  have HC : Hid (0 < m → ∃ b off, ao = some ⟨b, off, none⟩ ∧ b < n₀ ∧ ∀ j, (h : j < zs.length) → W.cell? ⟨b, off + j * 3, none⟩ = some (.string (val zs[j]).nm) ∧ W.cell? ⟨b, off + j * 3 + 1, none⟩ = some (.int .i64 (val zs[j]).g) ∧ W.cell? ⟨b, off + j * 3 + 1 + 1, none⟩ = some (.slice (val zs[j]).a (val zs[j]).n (val zs[j]).c)) := fun h0 => by
    obtain ⟨b, off, e, hb, h⟩ := hc h0
    exact ⟨b, off, e, hb, fun j hj => by have := h j (by simpa using hj); rw [List.getElem_map] at this; exact this⟩
  obtain ⟨fn, tmps, assign, body, hy, hR⟩ := hY [] x0 W h0 (by simp)
  rw [hx0] at hy
  unfold encRoot at hy
  dsimp only at hy
  clear hx hz hc hL hx0
  refine callsIn_of_wp Try.func56 rfl h6 ?_ hro
  simp only [Try.ntmps56, List.size_toArray, List.length_cons, List.length_nil, Nat.reduceAdd, Nat.reduceSub, Array.replicate_succ, Array.replicate_zero, List.push_toArray, List.append_toArray, List.nil_append, List.cons_append]
  gi_wp2
  refine hR.mono ?_
  rintro e W1 (⟨rfl, hJ1, hk1⟩ | ⟨rfl, hJx1⟩)
  · have c4 : W1.cell? ⟨Bm, 4, none⟩ = some (.slice ao m cap) := (cell_same hk1.2 _).trans c4
    have hs1 : n₀ ≤ W1.heap.size := Nat.le_trans hn₀ hk1.1.size
    have hs2 : Bm < W1.heap.size := Nat.lt_of_lt_of_le hBm hk1.1.size
    gi_wp2
    gi_loopw [4, 16] (fun _ i wr => ∃ k : Nat, k ≤ m ∧ i = .int .i64 k ∧ J (x0 :: zs.take k) wr ∧ Below n₀ W wr ∧ n₀ ≤ wr.heap.size ∧ Bm < wr.heap.size) (fun _ i _ => m - (intOf i).toNat)
    case atStart => exact ⟨0, Nat.zero_le _, rfl, hJ1, hk1.1, hs1, hs2⟩
    case round =>
      obtain ⟨k, hk, rfl, hJk, hbel, hsz, hsB⟩ := hrel
      by_cases hlk : k < m
      · obtain ⟨b, off, rfl, hlt, hcell⟩ := HC.out (by omega)
        have hki : (k : Int) < (m : Int) := by omega
        obtain ⟨y, hyk⟩ : ∃ y, y = zs[k]'(by rw [HZ.out]; exact hlk) := ⟨_, rfl⟩
        have hcc := hcell k (by rw [HZ.out]; exact hlk)
        rw [← hyk] at hcc
        have HT : Hid (zs.take (k + 1) = zs.take k ++ [y]) := by show _ = _; rw [List.take_add_one, hyk]; simp [show k < zs.length by rw [HZ.out]; exact hlk]
        have hYk := hY (x0 :: zs.take k) y
        obtain ⟨s, hs⟩ : ∃ s, s = val y := ⟨_, rfl⟩
        rw [← hs] at hcc hYk
        obtain ⟨nm, gg, sa, sn, sc⟩ := s
        obtain ⟨d1, d2, d3⟩ := hcc
        have d1 : wr.cell? ⟨b, off + k * 3, none⟩ = some (.string nm) := (hbel.cell (p := ⟨b, off + k * 3, none⟩) hlt).trans d1
        have d2 : wr.cell? ⟨b, off + k * 3 + 1, none⟩ = some (.int .i64 gg) := (hbel.cell (p := ⟨b, off + k * 3 + 1, none⟩) hlt).trans d2
        have d3 : wr.cell? ⟨b, off + k * 3 + 1 + 1, none⟩ = some (.slice sa sn sc) := (hbel.cell (p := ⟨b, off + k * 3 + 1 + 1, none⟩) hlt).trans d3
        have hba : Below n₀ wr (wr.alloc (.cells #[.string nm, .int .i64 gg, .slice sa sn sc] 64)) := (Below.refl _ _).alloc hsz _
        obtain ⟨fn, tmps, assign, body, hy, hR⟩ := hYk (wr.alloc (.cells #[.string nm, .int .i64 gg, .slice sa sn sc] 64)) (hJa _ _ _ hJk) (by have := HZ.out; simp; omega)
        unfold encRoot at hy
        dsimp only at hy
        clear hs hcell hyk hYk
        gi_wp2
        refine hR.mono ?_
        rintro e W3 (⟨rfl, hJ3, hk3⟩ | ⟨rfl, hJx3⟩)
        · gi_wp2
          go_roundw
          case rel => exact ⟨k + 1, by omega, by go_num, by rw [HT.out]; exact hJ3, (hbel.trans hba).trans hk3.1, Nat.le_trans (Nat.le_trans hsz hba.size) hk3.1.size, Nat.lt_of_lt_of_le (Nat.lt_of_lt_of_le hsB hba.size) hk3.1.size⟩
          case measure => simp [intOf]; omega
        · gi_wp2
          refine bodyPost_ret (results_none rfl _ _ _) rfl ?_
          refine ⟨⟨_, rfl⟩, .inr ⟨_, ?_, hJx3⟩⟩
          rw [List.cons_append, ← HT.out]
          exact List.cons_prefix_cons.2 ⟨rfl, List.take_prefix _ _⟩
      · have e4 : k = m := by omega
        subst e4
        gi_wp2
        go_end0
        refine ⟨⟨_, rfl⟩, .inl ⟨_, ?_, hJk⟩⟩
        rw [List.take_of_length_le (by rw [HZ.out]; exact Nat.le_refl _)]
  · gi_wp2
    refine bodyPost_ret (results_none rfl _ _ _) rfl ?_
    refine ⟨⟨_, rfl⟩, .inr ⟨_, ?_, hJx1⟩⟩
    exact ⟨zs, rfl⟩

theorem roots_stops {α : Type} (val : α → RootV) (F : Fence) (n : Nat) (h6 : F.fn 56) (hro : F.round = none) (hn : 1 ≤ n) (Bm n₀ : Nat) (xs : List α) (w : World) (hL : RootsV n₀ w Bm (xs.map val)) (hn₀ : n₀ ≤ w.heap.size) (hBm : Bm < w.heap.size) :
    SeqStopsK F n Try.prog 56 #[.pointer (some ⟨Bm, 0, none⟩)] (fun x => encRoot (val x)) (KpR n₀ Bm) (fun ys => ys = xs) (fun pre => pre <+: xs) xs.length w := fun l J Jx W hW hJ _ hY h0 =>
  roots1_in val F n h6 hro hn l Bm n₀ xs J Jx hY (fun s A o h => hJ s A _ none h (World.grownBy_alloc A o none) (by simp)) W (hL.kept (KpR.of_below hW hn₀ hBm)) (Nat.le_trans hn₀ hW.size) (Nat.lt_of_lt_of_le hBm hW.size) h0

/-- A Root's value, and what it is as data. -/
def Rt (w : World) (x : RootV) (s : SnapD) : Prop := x.nm = s.1 ∧ x.g = s.2.1 ∧ Sl w (.slice x.a x.n x.c) s.2.2
abbrev RootA (w : World) : Type := { p : RootV × SnapD // Rt w p.1 p.2 }
end Go.Proofs.Ytehleeibgkpjmab
