/- Texts joined: Strs, PgPlain, WiR, WiE, WiF, WiG, WiH, WiB, WiI, OwA, OxI. -/
import Derived.Test.YtehleeibgkpjmagWireBackJ1
import Derived.Lib.Strings
import Derived.Lib.Join
import Derived.Lib.Repeat
import Derived.Test.YtehleeibgkpjmagWireBackJ4
import Derived.Test.YtehleeibgkpjmagWireBackJ3
import Derived.Deep.CutRange
import Derived.Deep.RegionLaw
set_option linter.unusedVariables false
set_option linter.unusedSimpArgs false
/- Slices of strings: what it means that a slice value holds them in a world. -/
namespace Go.Proofs.Ytehleeibgkpjmag
open Go.RowKit
set_option maxRecDepth 20000

def Ss (w : World) (v : Value) (xs : List ByteArray) : Prop :=
  ∃ ao cap, v = .slice ao xs.length cap ∧ xs.length ≤ maxLen ∧ xs.length ≤ cap ∧ (xs ≠ [] → ∃ b off, ao = some ⟨b, off, none⟩ ∧ b < w.heap.size ∧ ∀ j, j < xs.length → w.cell? ⟨b, off + j, none⟩ = some (.string (xs.getD j ByteArray.empty)))

theorem Ss.below {w w1 : World} {v : Value} {xs : List ByteArray} (h : Ss w v xs) (hb : Below w.heap.size w w1) : Ss w1 v xs := by
  obtain ⟨ao, cap, hv, hm, hcp, hc⟩ := h
  refine ⟨ao, cap, hv, hm, hcp, fun hne => ?_⟩
  obtain ⟨b, off, ha, hlt, hcell⟩ := hc hne
  exact ⟨b, off, ha, Nat.lt_of_lt_of_le hlt hb.size, fun j hj => (hb.cell (p := ⟨b, off + j, none⟩) hlt).trans (hcell j hj)⟩

theorem Ss.nil (w : World) : Ss w (.slice none 0 0) [] := ⟨none, 0, rfl, Nat.zero_le _, Nat.zero_le _, fun h => absurd rfl h⟩

theorem Ss.cells {w : World} {ao : Option Addr} {n cap : Nat} {xs : List ByteArray} (h : Ss w (.slice ao n cap) xs) :
    xs.length = n ∧ n ≤ 9223372036854775807 ∧ n ≤ cap ∧ ∀ j, j < n → ∃ b off, ao = some ⟨b, off, none⟩ ∧ b < w.heap.size ∧ w.cell? ⟨b, off + j, none⟩ = some (.string (xs.getD j ByteArray.empty)) := by
  obtain ⟨ao', cap', hv, hm, hcp, hc⟩ := h
  simp only [Value.slice.injEq] at hv
  obtain ⟨rfl, rfl, rfl⟩ := hv
  unfold maxLen at hm
  refine ⟨rfl, by omega, hcp, fun j hj => ?_⟩
  obtain ⟨b, off, rfl, hlt, hcell⟩ := hc (by intro e; rw [e] at hj; simp at hj)
  exact ⟨b, off, rfl, hlt, hcell j hj⟩

theorem Ss.form {w : World} {v : Value} {xs : List ByteArray} (h : Ss w v xs) : ∃ ao cap, v = .slice ao xs.length cap := by
  obtain ⟨ao, cap, hv, _⟩ := h; exact ⟨ao, cap, hv⟩

theorem Ss.past {w : World} {v : Value} {xs : List ByteArray} (h : Ss w v xs) (o : Obj) : Ss (w.alloc o) v xs := h.below ((Below.refl _ _).alloc (Nat.le_refl _) o)


end Go.Proofs.Ytehleeibgkpjmag
/- Pages, plainly: which pages some bytes are, and what is joined; lists of bytes alone. -/
namespace Go.Proofs.Ytehleeibgkpjmag
open Go.RowKit
set_option maxRecDepth 20000

def bytes (s : ByteArray) : List UInt8 := s.data.toList
theorem bytes_extract (s : ByteArray) (a b : Nat) : bytes (s.extract a b) = ((bytes s).drop a).take (b - a) := Lib.extract_data s a b

end Go.Proofs.Ytehleeibgkpjmag
/- The program's reader: text, number. -/
namespace Go.Proofs.Ytehleeibgkpjmag
open Go.RowKit Go.Shelf Go.Lib
set_option maxRecDepth 20000
set_option linter.unusedVariables false
set_option linter.unusedSimpArgs false

abbrev wrongP : List PanicEntry := [{ v := .iface 110 (.agg #[]), recovered := false }]
theorem bstr_bytes (u : ByteArray) : bstr (bytes u) = u := by
  unfold bstr bytes
  cases u
  simp
theorem bytes_bstr (l : List UInt8) : bytes (bstr l) = l := by unfold bstr bytes; simp
theorem bstr_size (l : List UInt8) : (bstr l).size = l.length := by unfold bstr; simp [ByteArray.size]
theorem bstr_take (l : List UInt8) (n : Nat) : (bstr l).extract 0 n = bstr (l.take n) := by
  rw [← bstr_bytes ((bstr l).extract 0 n), bytes_extract, bytes_bstr]
  simp
theorem bstr_drop (l : List UInt8) (n : Nat) : (bstr l).extract n (bstr l).size = bstr (l.drop n) := by
  rw [← bstr_bytes ((bstr l).extract n (bstr l).size), bytes_extract, bytes_bstr, bstr_size]
  rw [List.take_of_length_le (by simp)]
set_option maxHeartbeats 1000000 in
theorem rtext_ok (R n : Nat) (l : List UInt8) (W : World) (hb : W.heap[R]? = some (.cells #[.string (bstr (l))] 112)) (hn : n ≤ l.length) (hm : l.length ≤ 4096) :
    Calls Try.prog 104 #[.pointer (some ⟨R, 0, none⟩), .int .i64 (n : Int)] W fun r W' => r = .returned (.string (bstr (l.take n))) ∧ W' = W.setCell ⟨R, 0, none⟩ (.string (bstr (l.drop n))) := by
  have c0 : W.cell? ⟨R, 0, none⟩ = some (.string (bstr l)) := by simp [World.cell?, hb]
  have f0 := cells_frozen hb 0
  have ht := bstr_take l n
  have hd := bstr_drop l n
  obtain ⟨u, hu⟩ : ∃ u, bstr l = u := ⟨_, rfl⟩
  have hsz : u.size = l.length := by rw [← hu, bstr_size]
  rw [hu] at c0 ht hd
  have h1 : n ≤ u.size := by omega
  have h2 : (n : Int) ≤ (u.size : Int) := by omega
  have h3 : ¬ (u.size : Int) < (n : Int) := by omega
  have h4 : u.size ≤ 4096 := by omega
  have HT : Hid (u.extract 0 n = bstr (l.take n) ∧ u.extract n u.size = bstr (l.drop n)) := ⟨ht, hd⟩
  clear ht hd hu hsz hb hm hn
  go_enter Try.func104, Try.ntmps104
  go_wp2
  go_ret
  exact ⟨by rw [← HT.out.1]; rfl, by rw [← HT.out.2]⟩
theorem rtext_bad (R n : Nat) (l : List UInt8) (W : World) (hb : W.heap[R]? = some (.cells #[.string (bstr (l))] 112)) (hn : l.length < n) (hm : l.length ≤ 4096) :
    Calls Try.prog 104 #[.pointer (some ⟨R, 0, none⟩), .int .i64 (n : Int)] W fun r W' => r = .panicked wrongP ∧ W' = W := by
  have c0 : W.cell? ⟨R, 0, none⟩ = some (.string (bstr l)) := by simp [World.cell?, hb]
  have f0 := cells_frozen hb 0
  obtain ⟨u, hu⟩ : ∃ u, bstr l = u := ⟨_, rfl⟩
  have hsz : u.size = l.length := by rw [← hu, bstr_size]
  rw [hu] at c0
  have h2 : (u.size : Int) < (n : Int) := by omega
  have h4 : u.size ≤ 4096 := by omega
  clear hu hsz hb hm hn
  go_enter Try.func104, Try.ntmps104
  go_wp2
  exact ⟨rfl, rfl, rfl⟩
theorem rnum_ok (R : Nat) (a : UInt8) (l : List UInt8) (W : World) (hb : W.heap[R]? = some (.cells #[.string (bstr (a :: l))] 112)) (hm : l.length < 4096) :
    Calls Try.prog 90 #[.pointer (some ⟨R, 0, none⟩)] W fun r W' => r = .returned (.int .i64 (a.toNat : Int)) ∧ W' = W.setCell ⟨R, 0, none⟩ (.string (bstr l)) := by
  have hc := rtext_ok R 1 (a :: l) W hb (by simp) (by simp; omega)
  have ha : a.toNat < 256 := a.toNat_lt
  have hs1 : 0 < (bstr [a]).size := by rw [bstr_size]; simp
  have hs2 : (0 : Int) < ((bstr [a]).size : Int) := by omega
  go_enter Try.func90, Try.ntmps90
  go_wp2_with (go_at_call 104; refine hc.mono ?_; rintro e w1 ⟨rfl, hw⟩; rw [hw]; clear hw)
  go_ret
  exact ⟨ret_int (by show wrap64 (a.toNat : Int) = (a.toNat : Int); unfold wrap64; omega), rfl⟩
theorem rnum_bad (R : Nat) (W : World) (hb : W.heap[R]? = some (.cells #[.string (bstr ([]))] 112)) :
    Calls Try.prog 90 #[.pointer (some ⟨R, 0, none⟩)] W fun r W' => r = .panicked wrongP ∧ W' = W := by
  have hc := rtext_bad R 1 [] W hb (by simp) (by simp)
  go_enter Try.func90, Try.ntmps90
  go_wp2_with (go_at_call 104; refine hc.mono ?_; rintro e w1 ⟨rfl, hw⟩; rw [hw]; clear hw)
  exact ⟨rfl, rfl, rfl⟩
end Go.Proofs.Ytehleeibgkpjmag
/- The program's reader: entries, root. -/
namespace Go.Proofs.Ytehleeibgkpjmag
open Go.RowKit Go.Shelf Go.Lib
set_option maxRecDepth 20000
set_option linter.unusedVariables false
set_option linter.unusedSimpArgs false

theorem mk_intsR (n : Nat) (hn : n ≤ 1000) (W : World) : (Instr.makeSlice 22 (.int .i64 (n : Int)) (.int .i64 (n : Int))).run Try.prog W = .ok (.slice (some ⟨W.heap.size, 0, none⟩) n n) (W.alloc (.cells ((List.replicate n (0 : Int)).map (Value.int .i64)).toArray 3)) := by
  have hi := info3
  cases h : Try.prog.info? 3 with
  | none => rw [h] at hi; cases hi
  | some i =>
    rw [h] at hi
    simp at hi
    have := run_make (P := Try.prog) W 22 3 i (.int .i64 0) Try.underlying22 h hi.1 .i64 .i64 n n (by omega) (by omega) (by rw [hi.2.2]; omega) (by omega)
    rw [this, hi.2.1]
    have e : madeCells (Value.int .i64 0).cells (((n : Int)).toNat * 1) = ((List.replicate n (0 : Int)).map (Value.int .i64)).toArray := by
      apply Array.ext
      · simp [madeCells]
      · intro j h1 h2
        simp [madeCells, Value.cells, Nat.mod_one]
    rw [e]
    simp


structure RdT (W X : World) (R : Nat) (l : List UInt8) : Prop where
  os : X.os = W.os
  tape : X.tape = W.tape
  output : X.output = W.output
  size : W.heap.size ≤ X.heap.size
  keep : ∀ q, q < W.heap.size → q ≠ R → X.heap[q]? = W.heap[q]?
  box : X.heap[R]? = some (.cells #[.string (bstr (l))] 112)
theorem RdT.refl {W : World} {R : Nat} {l : List UInt8} (h : W.heap[R]? = some (.cells #[.string (bstr (l))] 112)) : RdT W W R l := ⟨rfl, rfl, rfl, Nat.le_refl _, fun _ _ _ => rfl, h⟩
theorem RdT.lt {W X : World} {R : Nat} {l : List UInt8} (h : RdT W X R l) : R < X.heap.size := (Array.getElem?_eq_some_iff.1 h.box).1
theorem RdT.trans {W X Y : World} {R : Nat} {l l' : List UInt8} (h : RdT W X R l) (k : RdT X Y R l') : RdT W Y R l' := ⟨k.os.trans h.os, k.tape.trans h.tape, k.output.trans h.output, Nat.le_trans h.size k.size, fun q hq hn => (k.keep q (Nat.lt_of_lt_of_le hq h.size) hn).trans (h.keep q hq hn), k.box⟩
theorem RdT.alloc {W X : World} {R : Nat} {l : List UInt8} (h : RdT W X R l) (o : Obj) : RdT W (X.alloc o) R l := ⟨h.os, h.tape, h.output, Nat.le_trans h.size (by simp), fun q hq hn => (Below.heap_alloc _ _ q (Nat.lt_of_lt_of_le hq h.size)).trans (h.keep q hq hn), cells_alloc h.box _⟩
theorem RdT.set {W X : World} {R : Nat} {l : List UInt8} (h : RdT W X R l) (l' : List UInt8) : RdT W (X.setCell ⟨R, 0, none⟩ (.string (bstr l'))) R l' := ⟨h.os, h.tape, h.output, Nat.le_trans h.size (by simp), fun q hq hn => (Below.heap_setCell _ ⟨R, 0, none⟩ _ q hn).trans (h.keep q hq hn), cells_set h.box 0 _⟩
theorem RdT.other {W X : World} {R g i : Nat} {l : List UInt8} (h : RdT W X R l) (hg : W.heap.size ≤ g) (hR : R < W.heap.size) (v : Value) : RdT W (X.setCell ⟨g, i, none⟩ v) R l := ⟨h.os, h.tape, h.output, Nat.le_trans h.size (by simp), fun q hq hn => (Below.heap_setCell _ ⟨g, i, none⟩ _ q (by show q ≠ g; omega)).trans (h.keep q hq hn), (Below.heap_setCell _ ⟨g, i, none⟩ _ R (by show R ≠ g; omega)).trans h.box⟩
end Go.Proofs.Ytehleeibgkpjmag
/- The program's reader: entries. -/
namespace Go.Proofs.Ytehleeibgkpjmag
open Go.RowKit Go.Shelf Go.Lib
set_option maxRecDepth 20000
set_option linter.unusedVariables false
set_option linter.unusedSimpArgs false

theorem setN_nextW {α : Type} (A : List α) (z x : α) (n : Nat) : (A ++ List.replicate (n + 1) z).set A.length x = A ++ x :: List.replicate n z := by
  rw [List.set_append_right _ _ (Nat.le_refl _), Nat.sub_self]
  rfl
theorem setTwice (C : Array Value) (k : Nat) (x y : Value) : (C.setIfInBounds k x).setIfInBounds k y = C.setIfInBounds k y := by
  apply Array.ext'
  simp

set_option maxHeartbeats 4000000 in
theorem rents_ok (R n : Nat) (l : List UInt8) (W : World) (hb : W.heap[R]? = some (.cells #[.string (bstr (l))] 112)) (hn : n ≤ l.length) (hn9 : n ≤ 1000) (hm : l.length ≤ 4096) :
    Calls Try.prog 105 #[.pointer (some ⟨R, 0, none⟩), .int .i64 (n : Int)] W fun r W' => r = .returned (.slice (some ⟨W.heap.size, 0, none⟩) n n) ∧ RdT W W' R (l.drop n) ∧ W'.heap[W.heap.size]? = some (.cells (ints ((l.take n).map eInt)).toArray 3) := by
  have hR : R < W.heap.size := (Array.getElem?_eq_some_iff.1 hb).1
  have hmk : ∀ W, (Instr.makeSlice 22 (.int .i64 (n : Int)) (.int .i64 (n : Int))).run Try.prog W = .ok (.slice (some ⟨W.heap.size, 0, none⟩) n n) (W.alloc (.cells (ints ((l.take 0).map eInt) ++ List.replicate (n - 0) (Value.int .i64 0)).toArray 3)) := fun W => by
    have := mk_intsR n hn9 W
    have e : (ints ((l.take 0).map eInt) ++ List.replicate (n - 0) (Value.int .i64 0)).toArray = ((List.replicate n (0 : Int)).map (Value.int .i64)).toArray := by simp [ints]
    rw [e]; exact this
  have H0 : Hid (RdT W (W.alloc (.cells (ints ((l.take 0).map eInt) ++ List.replicate (n - 0) (Value.int .i64 0)).toArray 3)) R (l.drop 0) ∧ (W.alloc (.cells (ints ((l.take 0).map eInt) ++ List.replicate (n - 0) (Value.int .i64 0)).toArray 3)).heap[W.heap.size]? = some (.cells (ints ((l.take 0).map eInt) ++ List.replicate (n - 0) (Value.int .i64 0)).toArray 3)) := ⟨(RdT.refl hb).alloc _, World.alloc_heap_new _ _⟩
  obtain ⟨C0, hC0⟩ : ∃ X, (ints ((l.take 0).map eInt) ++ List.replicate (n - 0) (Value.int .i64 0)).toArray = X := ⟨_, rfl⟩
  rw [hC0] at hmk
  have HC0 : Hid ((ints ((l.take 0).map eInt) ++ List.replicate (n - 0) (Value.int .i64 0)).toArray = C0) := hC0
  clear hb hC0
  go_enter Try.func105, Try.ntmps105
  go_wp2_with fail
  clear hmk
  go_loopw [6, 11] (fun _ i wr => ∃ k : Nat, k ≤ n ∧ i = .int .i64 k ∧ Hid (RdT W wr R (l.drop k) ∧ wr.heap[W.heap.size]? = some (.cells (ints ((l.take k).map eInt) ++ List.replicate (n - k) (Value.int .i64 0)).toArray 3))) (fun _ i _ => n - (intOf i).toNat)
  case atStart => exact ⟨0, Nat.zero_le _, rfl, by have h0 := H0.out; rw [HC0.out] at h0; rw [HC0.out]; exact h0⟩
  case round =>
    obtain ⟨k, hk, rfl, HC⟩ := hrel
    by_cases hlk : k < n
    · have hki : (k : Int) < (n : Int) := by omega
      have hkl : k < l.length := by omega
      have hcons := List.drop_eq_getElem_cons hkl
      obtain ⟨a, ha⟩ : ∃ x, l[k] = x := ⟨_, rfl⟩
      have HN1 : Hid ((l.take (k + 1)).map eInt = (l.take k).map eInt ++ [eInt a]) := by
        show _ = _
        rw [show l.take (k + 1) = l.take k ++ [l[k]] from (List.take_append_getElem hkl).symm, List.map_append, ha]
        rfl
      rw [ha] at hcons
      have hT := HC.out.1
      rw [hcons] at hT
      have hg := HC.out.2
      have HCl : Hid (Calls Try.prog 90 #[.pointer (some ⟨R, 0, none⟩)] wr fun r W' => r = .returned (.int .i64 (a.toNat : Int)) ∧ W' = wr.setCell ⟨R, 0, none⟩ (.string (bstr (l.drop (k + 1))))) := rnum_ok R a (l.drop (k + 1)) wr hT.box (by rw [List.length_drop]; omega)
      have HT : Hid (RdT W wr R (a :: l.drop (k + 1)) ∧ wr.heap[W.heap.size]? = some (.cells (ints ((l.take k).map eInt) ++ List.replicate (n - k) (Value.int .i64 0)).toArray 3)) := ⟨hT, hg⟩
      have hsz := hT.size
      have ne1 : ¬ W.heap.size = R := by omega
      have ne2 : ¬ R = W.heap.size := by omega
      have hlen : (ints ((l.take k).map eInt)).length = k := by rw [ints_length, List.length_map, List.length_take]; omega
      have hck : ((ints ((l.take k).map eInt) ++ List.replicate (n - k) (Value.int .i64 0)).toArray)[k]? = some (.int .i64 0) := by
        rw [List.getElem?_toArray, List.getElem?_append_right (by omega), hlen, Nat.sub_self, List.getElem?_replicate, if_pos (by omega)]
      have hst : ∀ v, (ints ((l.take k).map eInt) ++ List.replicate (n - k) (Value.int .i64 0)).set k v = ints ((l.take k).map eInt) ++ v :: List.replicate (n - (k + 1)) (Value.int .i64 0) := fun v => by
        rw [show n - k = n - (k + 1) + 1 by omega]
        have := setN_nextW (ints ((l.take k).map eInt)) (Value.int .i64 0) v (n - (k + 1))
        rw [hlen] at this
        exact this
      obtain ⟨C, hC⟩ : ∃ X, (ints ((l.take k).map eInt) ++ List.replicate (n - k) (Value.int .i64 0)).toArray = X := ⟨_, rfl⟩
      have HCs : Hid (∀ v, C.setIfInBounds k v = (ints ((l.take k).map eInt) ++ v :: List.replicate (n - (k + 1)) (Value.int .i64 0)).toArray) := fun v => by rw [← hC, List.setIfInBounds_toArray, hst]
      rw [hC] at hg hck HT
      have ck : wr.cell? ⟨W.heap.size, k, none⟩ = some (.int .i64 0) := by simp [World.cell?, hg, hck]
      have fk : wr.frozen? ⟨W.heap.size, k, none⟩ = false := cells_frozen hg k
      have ck1 : ∀ v, (wr.setCell ⟨R, 0, none⟩ v).cell? ⟨W.heap.size, k, none⟩ = some (.int .i64 0) := fun v => (World.cell?_of_block (a := ⟨W.heap.size, k, none⟩) (Below.heap_setCell _ ⟨R, 0, none⟩ v W.heap.size ne1)).trans ck
      clear hT hcons ha hst hC hlen hck hg HC
      have HEn : ∀ x : Int, eInt a = x → Hid (RdT W (((wr.setCell ⟨R, 0, none⟩ (.string (bstr (l.drop (k + 1))))).setCell ⟨W.heap.size, k, none⟩ (.int .i64 x))) R (l.drop (k + 1)) ∧ ((wr.setCell ⟨R, 0, none⟩ (.string (bstr (l.drop (k + 1))))).setCell ⟨W.heap.size, k, none⟩ (.int .i64 x)).heap[W.heap.size]? = some (.cells (ints ((l.take (k + 1)).map eInt) ++ List.replicate (n - (k + 1)) (Value.int .i64 0)).toArray 3)) := fun x hx => by
        refine ⟨(HT.out.1.set _).other (Nat.le_refl _) hR _, ?_⟩
        have h1 := cells_set ((Below.heap_setCell wr ⟨R, 0, none⟩ (.string (bstr (l.drop (k + 1)))) W.heap.size ne1).trans HT.out.2) k (.int .i64 x)
        rw [h1, HCs.out, HN1.out, hx]
        simp [ints]
      have HEm : eInt a = -1 → Hid (RdT W ((((wr.setCell ⟨R, 0, none⟩ (.string (bstr (l.drop (k + 1))))).setCell ⟨W.heap.size, k, none⟩ (.int .i64 (a.toNat : Int))).setCell ⟨W.heap.size, k, none⟩ (.int .i64 (-1)))) R (l.drop (k + 1)) ∧ (((wr.setCell ⟨R, 0, none⟩ (.string (bstr (l.drop (k + 1))))).setCell ⟨W.heap.size, k, none⟩ (.int .i64 (a.toNat : Int))).setCell ⟨W.heap.size, k, none⟩ (.int .i64 (-1))).heap[W.heap.size]? = some (.cells (ints ((l.take (k + 1)).map eInt) ++ List.replicate (n - (k + 1)) (Value.int .i64 0)).toArray 3)) := fun hx => by
        refine ⟨((HT.out.1.set _).other (Nat.le_refl _) hR _).other (Nat.le_refl _) hR _, ?_⟩
        have h1 := cells_set ((Below.heap_setCell wr ⟨R, 0, none⟩ (.string (bstr (l.drop (k + 1)))) W.heap.size ne1).trans HT.out.2) k (.int .i64 (a.toNat : Int))
        have h2 := cells_set h1 k (.int .i64 (-1))
        rw [h2, setTwice, HCs.out, HN1.out, hx]
        simp [ints]
      have HE : Hid ((∀ x : Int, eInt a = x → Hid (RdT W (((wr.setCell ⟨R, 0, none⟩ (.string (bstr (l.drop (k + 1))))).setCell ⟨W.heap.size, k, none⟩ (.int .i64 x))) R (l.drop (k + 1)) ∧ ((wr.setCell ⟨R, 0, none⟩ (.string (bstr (l.drop (k + 1))))).setCell ⟨W.heap.size, k, none⟩ (.int .i64 x)).heap[W.heap.size]? = some (.cells (ints ((l.take (k + 1)).map eInt) ++ List.replicate (n - (k + 1)) (Value.int .i64 0)).toArray 3)))) := HEn
      have HE2 : Hid (eInt a = -1 → Hid (RdT W ((((wr.setCell ⟨R, 0, none⟩ (.string (bstr (l.drop (k + 1))))).setCell ⟨W.heap.size, k, none⟩ (.int .i64 (a.toNat : Int))).setCell ⟨W.heap.size, k, none⟩ (.int .i64 (-1)))) R (l.drop (k + 1)) ∧ (((wr.setCell ⟨R, 0, none⟩ (.string (bstr (l.drop (k + 1))))).setCell ⟨W.heap.size, k, none⟩ (.int .i64 (a.toNat : Int))).setCell ⟨W.heap.size, k, none⟩ (.int .i64 (-1))).heap[W.heap.size]? = some (.cells (ints ((l.take (k + 1)).map eInt) ++ List.replicate (n - (k + 1)) (Value.int .i64 0)).toArray 3))) := HEm
      clear HEn HEm
      rcases Bool.eq_false_or_eq_true ((a.toNat : Int) == 255) with h5 | h5
      · have HF : Hid (eInt a = -1) := by show eInt a = -1; unfold eInt; rw [if_pos (by have := beq_iff_eq.1 h5; omega)]
        go_wp2_with (go_at_call 90; refine HCl.out.mono ?_; rintro e9 w9 ⟨rfl, hw⟩; rw [hw]; clear hw)
        go_roundw
        case rel => exact ⟨k + 1, by omega, by go_num, HE2.out HF.out⟩
        case measure => simp [intOf]; omega
      · have HF : Hid (eInt a = (a.toNat : Int)) := by show eInt a = _; unfold eInt; rw [if_neg (by have := beq_eq_false_iff_ne.1 h5; omega)]
        go_wp2_with (go_at_call 90; refine HCl.out.mono ?_; rintro e9 w9 ⟨rfl, hw⟩; rw [hw]; clear hw)
        go_roundw
        case rel => exact ⟨k + 1, by omega, by go_num, HE.out _ HF.out⟩
        case measure => simp [intOf]; omega
    · have hki : ¬ (k : Int) < (n : Int) := by omega
      have HE : Hid (RdT W wr R (l.drop n) ∧ wr.heap[W.heap.size]? = some (.cells (ints ((l.take n).map eInt)).toArray 3)) := by
        have ek : k = n := by omega
        subst ek
        refine ⟨HC.out.1, ?_⟩
        have := HC.out.2
        rw [Nat.sub_self] at this
        simpa using this
      clear HC
      go_wp2_with fail
      go_ret
      exact ⟨rfl, HE.out.1, by rw [← List.map_take]; exact HE.out.2⟩

set_option maxHeartbeats 4000000 in
theorem rents_bad (R n : Nat) (l : List UInt8) (W : World) (hb : W.heap[R]? = some (.cells #[.string (bstr (l))] 112)) (hn : l.length < n) (hn9 : n ≤ 1000) (hm : l.length ≤ 4096) :
    Calls Try.prog 105 #[.pointer (some ⟨R, 0, none⟩), .int .i64 (n : Int)] W fun r W' => r = .panicked wrongP ∧ RdT W W' R [] := by
  have hR : R < W.heap.size := (Array.getElem?_eq_some_iff.1 hb).1
  have hmk : ∀ W, (Instr.makeSlice 22 (.int .i64 (n : Int)) (.int .i64 (n : Int))).run Try.prog W = .ok (.slice (some ⟨W.heap.size, 0, none⟩) n n) (W.alloc (.cells (ints ((l.take 0).map eInt) ++ List.replicate (n - 0) (Value.int .i64 0)).toArray 3)) := fun W => by
    have := mk_intsR n hn9 W
    have e : (ints ((l.take 0).map eInt) ++ List.replicate (n - 0) (Value.int .i64 0)).toArray = ((List.replicate n (0 : Int)).map (Value.int .i64)).toArray := by simp [ints]
    rw [e]; exact this
  have H0 : Hid (RdT W (W.alloc (.cells (ints ((l.take 0).map eInt) ++ List.replicate (n - 0) (Value.int .i64 0)).toArray 3)) R (l.drop 0) ∧ (W.alloc (.cells (ints ((l.take 0).map eInt) ++ List.replicate (n - 0) (Value.int .i64 0)).toArray 3)).heap[W.heap.size]? = some (.cells (ints ((l.take 0).map eInt) ++ List.replicate (n - 0) (Value.int .i64 0)).toArray 3)) := ⟨(RdT.refl hb).alloc _, World.alloc_heap_new _ _⟩
  obtain ⟨C0, hC0⟩ : ∃ X, (ints ((l.take 0).map eInt) ++ List.replicate (n - 0) (Value.int .i64 0)).toArray = X := ⟨_, rfl⟩
  rw [hC0] at hmk
  have HC0 : Hid ((ints ((l.take 0).map eInt) ++ List.replicate (n - 0) (Value.int .i64 0)).toArray = C0) := hC0
  clear hb hC0
  go_enter Try.func105, Try.ntmps105
  go_wp2_with fail
  clear hmk
  go_loopw [6, 11] (fun _ i wr => ∃ k : Nat, k ≤ l.length ∧ i = .int .i64 k ∧ Hid (RdT W wr R (l.drop k) ∧ wr.heap[W.heap.size]? = some (.cells (ints ((l.take k).map eInt) ++ List.replicate (n - k) (Value.int .i64 0)).toArray 3))) (fun _ i _ => n - (intOf i).toNat)
  case atStart => exact ⟨0, Nat.zero_le _, rfl, by have h0 := H0.out; rw [HC0.out] at h0; rw [HC0.out]; exact h0⟩
  case round =>
    obtain ⟨k, hk, rfl, HC⟩ := hrel
    by_cases hlk : k < l.length
    · have hki : (k : Int) < (n : Int) := by omega
      have hkl : k < l.length := by omega
      have hcons := List.drop_eq_getElem_cons hkl
      obtain ⟨a, ha⟩ : ∃ x, l[k] = x := ⟨_, rfl⟩
      have HN1 : Hid ((l.take (k + 1)).map eInt = (l.take k).map eInt ++ [eInt a]) := by
        show _ = _
        rw [show l.take (k + 1) = l.take k ++ [l[k]] from (List.take_append_getElem hkl).symm, List.map_append, ha]
        rfl
      rw [ha] at hcons
      have hT := HC.out.1
      rw [hcons] at hT
      have hg := HC.out.2
      have HCl : Hid (Calls Try.prog 90 #[.pointer (some ⟨R, 0, none⟩)] wr fun r W' => r = .returned (.int .i64 (a.toNat : Int)) ∧ W' = wr.setCell ⟨R, 0, none⟩ (.string (bstr (l.drop (k + 1))))) := rnum_ok R a (l.drop (k + 1)) wr hT.box (by rw [List.length_drop]; omega)
      have HT : Hid (RdT W wr R (a :: l.drop (k + 1)) ∧ wr.heap[W.heap.size]? = some (.cells (ints ((l.take k).map eInt) ++ List.replicate (n - k) (Value.int .i64 0)).toArray 3)) := ⟨hT, hg⟩
      have hsz := hT.size
      have ne1 : ¬ W.heap.size = R := by omega
      have ne2 : ¬ R = W.heap.size := by omega
      have hlen : (ints ((l.take k).map eInt)).length = k := by rw [ints_length, List.length_map, List.length_take]; omega
      have hck : ((ints ((l.take k).map eInt) ++ List.replicate (n - k) (Value.int .i64 0)).toArray)[k]? = some (.int .i64 0) := by
        rw [List.getElem?_toArray, List.getElem?_append_right (by omega), hlen, Nat.sub_self, List.getElem?_replicate, if_pos (by omega)]
      have hst : ∀ v, (ints ((l.take k).map eInt) ++ List.replicate (n - k) (Value.int .i64 0)).set k v = ints ((l.take k).map eInt) ++ v :: List.replicate (n - (k + 1)) (Value.int .i64 0) := fun v => by
        rw [show n - k = n - (k + 1) + 1 by omega]
        have := setN_nextW (ints ((l.take k).map eInt)) (Value.int .i64 0) v (n - (k + 1))
        rw [hlen] at this
        exact this
      obtain ⟨C, hC⟩ : ∃ X, (ints ((l.take k).map eInt) ++ List.replicate (n - k) (Value.int .i64 0)).toArray = X := ⟨_, rfl⟩
      have HCs : Hid (∀ v, C.setIfInBounds k v = (ints ((l.take k).map eInt) ++ v :: List.replicate (n - (k + 1)) (Value.int .i64 0)).toArray) := fun v => by rw [← hC, List.setIfInBounds_toArray, hst]
      rw [hC] at hg hck HT
      have ck : wr.cell? ⟨W.heap.size, k, none⟩ = some (.int .i64 0) := by simp [World.cell?, hg, hck]
      have fk : wr.frozen? ⟨W.heap.size, k, none⟩ = false := cells_frozen hg k
      have ck1 : ∀ v, (wr.setCell ⟨R, 0, none⟩ v).cell? ⟨W.heap.size, k, none⟩ = some (.int .i64 0) := fun v => (World.cell?_of_block (a := ⟨W.heap.size, k, none⟩) (Below.heap_setCell _ ⟨R, 0, none⟩ v W.heap.size ne1)).trans ck
      clear hT hcons ha hst hC hlen hck hg HC
      have HEn : ∀ x : Int, eInt a = x → Hid (RdT W (((wr.setCell ⟨R, 0, none⟩ (.string (bstr (l.drop (k + 1))))).setCell ⟨W.heap.size, k, none⟩ (.int .i64 x))) R (l.drop (k + 1)) ∧ ((wr.setCell ⟨R, 0, none⟩ (.string (bstr (l.drop (k + 1))))).setCell ⟨W.heap.size, k, none⟩ (.int .i64 x)).heap[W.heap.size]? = some (.cells (ints ((l.take (k + 1)).map eInt) ++ List.replicate (n - (k + 1)) (Value.int .i64 0)).toArray 3)) := fun x hx => by
        refine ⟨(HT.out.1.set _).other (Nat.le_refl _) hR _, ?_⟩
        have h1 := cells_set ((Below.heap_setCell wr ⟨R, 0, none⟩ (.string (bstr (l.drop (k + 1)))) W.heap.size ne1).trans HT.out.2) k (.int .i64 x)
        rw [h1, HCs.out, HN1.out, hx]
        simp [ints]
      have HEm : eInt a = -1 → Hid (RdT W ((((wr.setCell ⟨R, 0, none⟩ (.string (bstr (l.drop (k + 1))))).setCell ⟨W.heap.size, k, none⟩ (.int .i64 (a.toNat : Int))).setCell ⟨W.heap.size, k, none⟩ (.int .i64 (-1)))) R (l.drop (k + 1)) ∧ (((wr.setCell ⟨R, 0, none⟩ (.string (bstr (l.drop (k + 1))))).setCell ⟨W.heap.size, k, none⟩ (.int .i64 (a.toNat : Int))).setCell ⟨W.heap.size, k, none⟩ (.int .i64 (-1))).heap[W.heap.size]? = some (.cells (ints ((l.take (k + 1)).map eInt) ++ List.replicate (n - (k + 1)) (Value.int .i64 0)).toArray 3)) := fun hx => by
        refine ⟨((HT.out.1.set _).other (Nat.le_refl _) hR _).other (Nat.le_refl _) hR _, ?_⟩
        have h1 := cells_set ((Below.heap_setCell wr ⟨R, 0, none⟩ (.string (bstr (l.drop (k + 1)))) W.heap.size ne1).trans HT.out.2) k (.int .i64 (a.toNat : Int))
        have h2 := cells_set h1 k (.int .i64 (-1))
        rw [h2, setTwice, HCs.out, HN1.out, hx]
        simp [ints]
      have HE : Hid ((∀ x : Int, eInt a = x → Hid (RdT W (((wr.setCell ⟨R, 0, none⟩ (.string (bstr (l.drop (k + 1))))).setCell ⟨W.heap.size, k, none⟩ (.int .i64 x))) R (l.drop (k + 1)) ∧ ((wr.setCell ⟨R, 0, none⟩ (.string (bstr (l.drop (k + 1))))).setCell ⟨W.heap.size, k, none⟩ (.int .i64 x)).heap[W.heap.size]? = some (.cells (ints ((l.take (k + 1)).map eInt) ++ List.replicate (n - (k + 1)) (Value.int .i64 0)).toArray 3)))) := HEn
      have HE2 : Hid (eInt a = -1 → Hid (RdT W ((((wr.setCell ⟨R, 0, none⟩ (.string (bstr (l.drop (k + 1))))).setCell ⟨W.heap.size, k, none⟩ (.int .i64 (a.toNat : Int))).setCell ⟨W.heap.size, k, none⟩ (.int .i64 (-1)))) R (l.drop (k + 1)) ∧ (((wr.setCell ⟨R, 0, none⟩ (.string (bstr (l.drop (k + 1))))).setCell ⟨W.heap.size, k, none⟩ (.int .i64 (a.toNat : Int))).setCell ⟨W.heap.size, k, none⟩ (.int .i64 (-1))).heap[W.heap.size]? = some (.cells (ints ((l.take (k + 1)).map eInt) ++ List.replicate (n - (k + 1)) (Value.int .i64 0)).toArray 3))) := HEm
      clear HEn HEm
      rcases Bool.eq_false_or_eq_true ((a.toNat : Int) == 255) with h5 | h5
      · have HF : Hid (eInt a = -1) := by show eInt a = -1; unfold eInt; rw [if_pos (by have := beq_iff_eq.1 h5; omega)]
        go_wp2_with (go_at_call 90; refine HCl.out.mono ?_; rintro e9 w9 ⟨rfl, hw⟩; rw [hw]; clear hw)
        go_roundw
        case rel => exact ⟨k + 1, by omega, by go_num, HE2.out HF.out⟩
        case measure => simp [intOf]; omega
      · have HF : Hid (eInt a = (a.toNat : Int)) := by show eInt a = _; unfold eInt; rw [if_neg (by have := beq_eq_false_iff_ne.1 h5; omega)]
        go_wp2_with (go_at_call 90; refine HCl.out.mono ?_; rintro e9 w9 ⟨rfl, hw⟩; rw [hw]; clear hw)
        go_roundw
        case rel => exact ⟨k + 1, by omega, by go_num, HE.out _ HF.out⟩
        case measure => simp [intOf]; omega
    · have ek : k = l.length := by omega
      have hki : (k : Int) < (n : Int) := by omega
      have hdk : l.drop k = [] := by rw [ek, List.drop_length]
      have hT := HC.out.1
      rw [hdk] at hT
      have HCl : Hid (Calls Try.prog 90 #[.pointer (some ⟨R, 0, none⟩)] wr fun r W' => r = .panicked wrongP ∧ W' = wr) := rnum_bad R wr hT.box
      have HT : Hid (RdT W wr R []) := hT
      clear hT hdk ek
      go_wp2_with (go_at_call 90; refine HCl.out.mono ?_; rintro e9 w9 ⟨rfl, hw⟩; rw [hw]; clear hw)
      exact ⟨rfl, rfl, HT.out⟩

end Go.Proofs.Ytehleeibgkpjmag
/- The program's reader: slot. -/
namespace Go.Proofs.Ytehleeibgkpjmag
open Go.RowKit Go.Shelf Go.Lib
set_option maxRecDepth 20000
set_option linter.unusedVariables false
set_option linter.unusedSimpArgs false

theorem Hid_mkG {p : Prop} (h : p) : Hid p := h
theorem row_newG {W : World} {B g : Nat} {xs : List Int} (hB : B ≤ g) (hm : xs.length ≤ 4096) (h : W.heap[g]? = some (.cells (ints xs).toArray 3)) : W.ownsRow B 3 1 (.slice (some ⟨g, 0, none⟩) xs.length xs.length) xs.length (ints xs) :=
  ⟨by rw [ints_length, Nat.mul_one], .inr ⟨g, xs.length, _, rfl, hB, h, Nat.le_refl _, by unfold maxLen; omega, by simp [ints_length], by rw [Nat.mul_one]; exact List.take_of_length_le (by rw [ints_length]; exact Nat.le_refl _)⟩⟩
theorem row_new4 {W : World} {B g : Nat} {l : List UInt8} (hB : B ≤ g) (h4 : 4 ≤ l.length) (h : W.heap[g]? = some (.cells (ints ((l.take 4).map eInt)).toArray 3)) : W.ownsRow B 3 1 (.slice (some ⟨g, 0, none⟩) 4 4) ((l.take 4).map eInt).length (ints ((l.take 4).map eInt)) := by
  have e : ((l.take 4).map eInt).length = 4 := by rw [List.length_map, List.length_take]; omega
  have := row_newG hB (by omega) h
  rw [e] at this ⊢
  exact this

set_option maxHeartbeats 2000000 in
theorem rslot_0 (R : Nat) (a : UInt8) (l : List UInt8) (W : World) (hb : W.heap[R]? = some (.cells #[.string (bstr (a :: l))] 112)) (hm : l.length < 4096) (ha : a.toNat = 0) :
    Calls Try.prog 91 #[.pointer (some ⟨R, 0, none⟩)] W fun r W' => ∃ tv, r = .returned (.agg #[.int .i64 0, .string ⟨#[]⟩, tv]) ∧ RdT W W' R (l) ∧ W'.ownsRow W.heap.size 3 1 tv ([] : List Int).length (ints ([] : List Int)) := by
  have hR : R < W.heap.size := (Array.getElem?_eq_some_iff.1 hb).1
  have hbV : (W.alloc (.cells #[.int .i64 0, .string ⟨#[]⟩, .slice none 0 0] 60)).heap[R]? = some (.cells #[.string (bstr (a :: l))] 112) := cells_alloc hb _
  have mz : (W.alloc (.cells #[.int .i64 0, .string ⟨#[]⟩, .slice none 0 0] 60)).heap[W.heap.size]? = some (.cells #[.int .i64 0, .string ⟨#[]⟩, .slice none 0 0] 60) := World.alloc_heap_new _ _
  have ne1 : ¬ W.heap.size = R := by omega
  have ne2 : ¬ R = W.heap.size := by omega
  have HNu : Hid (Calls Try.prog 90 #[.pointer (some ⟨R, 0, none⟩)] (W.alloc (.cells #[.int .i64 0, .string ⟨#[]⟩, .slice none 0 0] 60)) fun r W' => r = .returned (.int .i64 (a.toNat : Int)) ∧ W' = (W.alloc (.cells #[.int .i64 0, .string ⟨#[]⟩, .slice none 0 0] 60)).setCell ⟨R, 0, none⟩ (.string (bstr l))) := rnum_ok R a l (W.alloc (.cells #[.int .i64 0, .string ⟨#[]⟩, .slice none 0 0] 60)) hbV (by omega)
  obtain ⟨w1, hw1⟩ : ∃ X, (W.alloc (.cells #[.int .i64 0, .string ⟨#[]⟩, .slice none 0 0] 60)).setCell ⟨R, 0, none⟩ (.string (bstr l)) = X := ⟨_, rfl⟩
  have T1 : RdT W w1 R l := by rw [← hw1]; exact ((RdT.refl hb).alloc _).set l
  have z1 : w1.heap[W.heap.size]? = some (.cells #[.int .i64 0, .string ⟨#[]⟩, .slice none 0 0] 60) := by rw [← hw1]; exact (Below.heap_setCell _ ⟨R, 0, none⟩ _ _ ne1).trans mz
  rw [hw1] at HNu
  have h0 : ((a.toNat : Int) == 0) = true := by rw [ha]; rfl
  obtain ⟨z0, z1', z2⟩ := three z1; have y0 := cells_frozen z1 0; have y1 := cells_frozen z1 1; have y2 := cells_frozen z1 2
  have HT : Hid (RdT W w1 R l) := T1
  clear hb hbV mz hw1 T1 z1 ha
  go_enter Try.func91, Try.ntmps91
  go_wp2_with (go_at_call 90; refine HNu.out.mono ?_; rintro e9 w9 ⟨rfl, hw⟩; rw [hw]; clear hw)
  refine bodyPost_ret (v := .agg #[.int .i64 0, .string ⟨#[]⟩, .slice none 0 0]) (by simp [results, Try.results91, go_sem, z0, z1', z2]) rfl ?_
  exact ⟨_, rfl, ((HT.out.other (Nat.le_refl _) hR _).other (Nat.le_refl _) hR _).other (Nat.le_refl _) hR _, World.ownsRow_nil _ _ _ _⟩

set_option maxHeartbeats 2000000 in
theorem rslot_1 (R : Nat) (a : UInt8) (l : List UInt8) (W : World) (hb : W.heap[R]? = some (.cells #[.string (bstr (a :: l))] 112)) (hm : l.length < 4096) (ha : a.toNat = 1) (h4 : 4 ≤ l.length) :
    Calls Try.prog 91 #[.pointer (some ⟨R, 0, none⟩)] W fun r W' => ∃ tv, r = .returned (.agg #[.int .i64 1, .string (bstr (l.take 4)), tv]) ∧ RdT W W' R (l.drop 4) ∧ W'.ownsRow W.heap.size 3 1 tv ([] : List Int).length (ints ([] : List Int)) := by
  have hR : R < W.heap.size := (Array.getElem?_eq_some_iff.1 hb).1
  have hbV : (W.alloc (.cells #[.int .i64 0, .string ⟨#[]⟩, .slice none 0 0] 60)).heap[R]? = some (.cells #[.string (bstr (a :: l))] 112) := cells_alloc hb _
  have mz : (W.alloc (.cells #[.int .i64 0, .string ⟨#[]⟩, .slice none 0 0] 60)).heap[W.heap.size]? = some (.cells #[.int .i64 0, .string ⟨#[]⟩, .slice none 0 0] 60) := World.alloc_heap_new _ _
  have ne1 : ¬ W.heap.size = R := by omega
  have ne2 : ¬ R = W.heap.size := by omega
  have HNu : Hid (Calls Try.prog 90 #[.pointer (some ⟨R, 0, none⟩)] (W.alloc (.cells #[.int .i64 0, .string ⟨#[]⟩, .slice none 0 0] 60)) fun r W' => r = .returned (.int .i64 (a.toNat : Int)) ∧ W' = (W.alloc (.cells #[.int .i64 0, .string ⟨#[]⟩, .slice none 0 0] 60)).setCell ⟨R, 0, none⟩ (.string (bstr l))) := rnum_ok R a l (W.alloc (.cells #[.int .i64 0, .string ⟨#[]⟩, .slice none 0 0] 60)) hbV (by omega)
  obtain ⟨w1, hw1⟩ : ∃ X, (W.alloc (.cells #[.int .i64 0, .string ⟨#[]⟩, .slice none 0 0] 60)).setCell ⟨R, 0, none⟩ (.string (bstr l)) = X := ⟨_, rfl⟩
  have T1 : RdT W w1 R l := by rw [← hw1]; exact ((RdT.refl hb).alloc _).set l
  have z1 : w1.heap[W.heap.size]? = some (.cells #[.int .i64 0, .string ⟨#[]⟩, .slice none 0 0] 60) := by rw [← hw1]; exact (Below.heap_setCell _ ⟨R, 0, none⟩ _ _ ne1).trans mz
  rw [hw1] at HNu
  have h0 : ((a.toNat : Int) == 0) = false := by rw [ha]; rfl
  have h1 : ((a.toNat : Int) == 1) = true := by rw [ha]; rfl
  have HTx : Hid (Calls Try.prog 104 #[.pointer (some ⟨R, 0, none⟩), .int .i64 4] w1 fun r W' => r = .returned (.string (bstr (l.take 4))) ∧ W' = w1.setCell ⟨R, 0, none⟩ (.string (bstr (l.drop 4)))) := rtext_ok R 4 l w1 T1.box h4 (by omega)
  obtain ⟨w2, hw2⟩ : ∃ X, w1.setCell ⟨R, 0, none⟩ (.string (bstr (l.drop 4))) = X := ⟨_, rfl⟩
  have HT : Hid (RdT W w2 R (l.drop 4)) := by rw [← hw2]; exact T1.set _
  have z1 : w2.heap[W.heap.size]? = some (.cells #[.int .i64 0, .string ⟨#[]⟩, .slice none 0 0] 60) := by rw [← hw2]; exact (Below.heap_setCell _ ⟨R, 0, none⟩ _ _ ne1).trans z1
  rw [hw2] at HTx
  obtain ⟨z0, z1', z2⟩ := three z1; have y0 := cells_frozen z1 0; have y1 := cells_frozen z1 1; have y2 := cells_frozen z1 2
  clear hb hbV mz hw1 T1 z1 ha hw2
  go_enter Try.func91, Try.ntmps91
  go_wp2_with (first | (go_at_call 104; refine HTx.out.mono ?_; rintro e9 w9 ⟨rfl, hw⟩; rw [hw]; clear hw) | (go_at_call 90; refine HNu.out.mono ?_; rintro e9 w9 ⟨rfl, hw⟩; rw [hw]; clear hw))
  refine bodyPost_ret (v := .agg #[.int .i64 1, .string (bstr (l.take 4)), .slice none 0 0]) (by simp [results, Try.results91, go_sem, z0, z1', z2]) rfl ?_
  exact ⟨_, rfl, ((HT.out.other (Nat.le_refl _) hR _).other (Nat.le_refl _) hR _).other (Nat.le_refl _) hR _, World.ownsRow_nil _ _ _ _⟩

set_option maxHeartbeats 2000000 in
theorem rslot_2 (R : Nat) (a : UInt8) (l : List UInt8) (W : World) (hb : W.heap[R]? = some (.cells #[.string (bstr (a :: l))] 112)) (hm : l.length < 4096) (ha : a.toNat = 2) (h4 : 4 ≤ l.length) :
    Calls Try.prog 91 #[.pointer (some ⟨R, 0, none⟩)] W fun r W' => ∃ tv, r = .returned (.agg #[.int .i64 2, .string ⟨#[]⟩, tv]) ∧ RdT W W' R (l.drop 4) ∧ W'.ownsRow W.heap.size 3 1 tv ((l.take 4).map eInt).length (ints ((l.take 4).map eInt)) := by
  have hR : R < W.heap.size := (Array.getElem?_eq_some_iff.1 hb).1
  have hbV : (W.alloc (.cells #[.int .i64 0, .string ⟨#[]⟩, .slice none 0 0] 60)).heap[R]? = some (.cells #[.string (bstr (a :: l))] 112) := cells_alloc hb _
  have mz : (W.alloc (.cells #[.int .i64 0, .string ⟨#[]⟩, .slice none 0 0] 60)).heap[W.heap.size]? = some (.cells #[.int .i64 0, .string ⟨#[]⟩, .slice none 0 0] 60) := World.alloc_heap_new _ _
  have ne1 : ¬ W.heap.size = R := by omega
  have ne2 : ¬ R = W.heap.size := by omega
  have HNu : Hid (Calls Try.prog 90 #[.pointer (some ⟨R, 0, none⟩)] (W.alloc (.cells #[.int .i64 0, .string ⟨#[]⟩, .slice none 0 0] 60)) fun r W' => r = .returned (.int .i64 (a.toNat : Int)) ∧ W' = (W.alloc (.cells #[.int .i64 0, .string ⟨#[]⟩, .slice none 0 0] 60)).setCell ⟨R, 0, none⟩ (.string (bstr l))) := rnum_ok R a l (W.alloc (.cells #[.int .i64 0, .string ⟨#[]⟩, .slice none 0 0] 60)) hbV (by omega)
  obtain ⟨w1, hw1⟩ : ∃ X, (W.alloc (.cells #[.int .i64 0, .string ⟨#[]⟩, .slice none 0 0] 60)).setCell ⟨R, 0, none⟩ (.string (bstr l)) = X := ⟨_, rfl⟩
  have T1 : RdT W w1 R l := by rw [← hw1]; exact ((RdT.refl hb).alloc _).set l
  have z1 : w1.heap[W.heap.size]? = some (.cells #[.int .i64 0, .string ⟨#[]⟩, .slice none 0 0] 60) := by rw [← hw1]; exact (Below.heap_setCell _ ⟨R, 0, none⟩ _ _ ne1).trans mz
  rw [hw1] at HNu
  have h0 : ((a.toNat : Int) == 0) = false := by rw [ha]; rfl
  have h1 : ((a.toNat : Int) == 1) = false := by rw [ha]; rfl
  have h2 : ((a.toNat : Int) == 2) = true := by rw [ha]; rfl
  have HEn : Hid (Calls Try.prog 105 #[.pointer (some ⟨R, 0, none⟩), .int .i64 4] w1 fun r W' => r = .returned (.slice (some ⟨w1.heap.size, 0, none⟩) 4 4) ∧ RdT w1 W' R (l.drop 4) ∧ W'.heap[w1.heap.size]? = some (.cells (ints ((l.take 4).map eInt)).toArray 3)) := rents_ok R 4 l w1 T1.box h4 (by omega) (by omega)
  have HT1 : Hid (RdT W w1 R l ∧ w1.heap[W.heap.size]? = some (.cells #[.int .i64 0, .string ⟨#[]⟩, .slice none 0 0] 60)) := ⟨T1, z1⟩
  clear hb hbV mz hw1 T1 z1 ha
  go_enter Try.func91, Try.ntmps91
  go_wp2_with (first | (go_at_call 105; refine HEn.out.mono ?_; rintro e9 w9 ⟨rfl, T9, g9⟩; have z1 := (T9.keep W.heap.size ((Array.getElem?_eq_some_iff.1 HT1.out.2).1) ne1).trans HT1.out.2; obtain ⟨z0, z1', z2⟩ := three z1; have y0 := cells_frozen z1 0; have y1 := cells_frozen z1 1; have y2 := cells_frozen z1 2; have HT := Hid_mkG (And.intro (HT1.out.1.trans T9) g9); clear z1 T9 g9) | (go_at_call 90; refine HNu.out.mono ?_; rintro e9 w9 ⟨rfl, hw⟩; rw [hw]; clear hw))
  refine bodyPost_ret (v := .agg #[.int .i64 2, .string ⟨#[]⟩, .slice (some ⟨w1.heap.size, 0, none⟩) 4 4]) (by simp [results, Try.results91, go_sem, z0, z1', z2]) rfl ?_
  have hw1s : W.heap.size < w1.heap.size := (Array.getElem?_eq_some_iff.1 HT1.out.2).1
  refine ⟨_, rfl, ((HT.out.1.other (Nat.le_refl _) hR _).other (Nat.le_refl _) hR _).other (Nat.le_refl _) hR _, row_new4 (by omega) h4 ?_⟩
  exact (Below.heap_setCell _ ⟨W.heap.size, 2, none⟩ _ _ (Nat.ne_of_gt hw1s)).trans ((Below.heap_setCell _ ⟨W.heap.size, 1, none⟩ _ _ (Nat.ne_of_gt hw1s)).trans ((Below.heap_setCell _ ⟨W.heap.size, 0, none⟩ _ _ (Nat.ne_of_gt hw1s)).trans HT.out.2))

set_option maxHeartbeats 2000000 in
theorem rslot_b0 (R : Nat) (W : World) (hb : W.heap[R]? = some (.cells #[.string (bstr ([]))] 112))  :
    Calls Try.prog 91 #[.pointer (some ⟨R, 0, none⟩)] W fun r W' => r = .panicked wrongP ∧ ∃ l', RdT W W' R l' := by
  have hR : R < W.heap.size := (Array.getElem?_eq_some_iff.1 hb).1
  have hbV : (W.alloc (.cells #[.int .i64 0, .string ⟨#[]⟩, .slice none 0 0] 60)).heap[R]? = some (.cells #[.string (bstr ([]))] 112) := cells_alloc hb _
  have mz : (W.alloc (.cells #[.int .i64 0, .string ⟨#[]⟩, .slice none 0 0] 60)).heap[W.heap.size]? = some (.cells #[.int .i64 0, .string ⟨#[]⟩, .slice none 0 0] 60) := World.alloc_heap_new _ _
  have ne1 : ¬ W.heap.size = R := by omega
  have ne2 : ¬ R = W.heap.size := by omega
  have HNu : Hid (Calls Try.prog 90 #[.pointer (some ⟨R, 0, none⟩)] (W.alloc (.cells #[.int .i64 0, .string ⟨#[]⟩, .slice none 0 0] 60)) fun r W' => r = .panicked wrongP ∧ W' = (W.alloc (.cells #[.int .i64 0, .string ⟨#[]⟩, .slice none 0 0] 60))) := rnum_bad R (W.alloc (.cells #[.int .i64 0, .string ⟨#[]⟩, .slice none 0 0] 60)) hbV
  have HT : Hid (RdT W (W.alloc (.cells #[.int .i64 0, .string ⟨#[]⟩, .slice none 0 0] 60)) R []) := (RdT.refl hb).alloc _
  clear hb hbV mz
  go_enter Try.func91, Try.ntmps91
  go_wp2_with (go_at_call 90; refine HNu.out.mono ?_; rintro e9 w9 ⟨rfl, hw⟩; rw [hw]; clear hw)
  exact ⟨rfl, rfl, _, HT.out⟩

set_option maxHeartbeats 2000000 in
theorem rslot_b1 (R : Nat) (a : UInt8) (l : List UInt8) (W : World) (hb : W.heap[R]? = some (.cells #[.string (bstr (a :: l))] 112)) (hm : l.length < 4096) (ha : a.toNat = 1) (h4 : l.length < 4) :
    Calls Try.prog 91 #[.pointer (some ⟨R, 0, none⟩)] W fun r W' => r = .panicked wrongP ∧ ∃ l', RdT W W' R l' := by
  have hR : R < W.heap.size := (Array.getElem?_eq_some_iff.1 hb).1
  have hbV : (W.alloc (.cells #[.int .i64 0, .string ⟨#[]⟩, .slice none 0 0] 60)).heap[R]? = some (.cells #[.string (bstr (a :: l))] 112) := cells_alloc hb _
  have mz : (W.alloc (.cells #[.int .i64 0, .string ⟨#[]⟩, .slice none 0 0] 60)).heap[W.heap.size]? = some (.cells #[.int .i64 0, .string ⟨#[]⟩, .slice none 0 0] 60) := World.alloc_heap_new _ _
  have ne1 : ¬ W.heap.size = R := by omega
  have ne2 : ¬ R = W.heap.size := by omega
  have HNu : Hid (Calls Try.prog 90 #[.pointer (some ⟨R, 0, none⟩)] (W.alloc (.cells #[.int .i64 0, .string ⟨#[]⟩, .slice none 0 0] 60)) fun r W' => r = .returned (.int .i64 (a.toNat : Int)) ∧ W' = (W.alloc (.cells #[.int .i64 0, .string ⟨#[]⟩, .slice none 0 0] 60)).setCell ⟨R, 0, none⟩ (.string (bstr l))) := rnum_ok R a l (W.alloc (.cells #[.int .i64 0, .string ⟨#[]⟩, .slice none 0 0] 60)) hbV (by omega)
  obtain ⟨w1, hw1⟩ : ∃ X, (W.alloc (.cells #[.int .i64 0, .string ⟨#[]⟩, .slice none 0 0] 60)).setCell ⟨R, 0, none⟩ (.string (bstr l)) = X := ⟨_, rfl⟩
  have T1 : RdT W w1 R l := by rw [← hw1]; exact ((RdT.refl hb).alloc _).set l
  have z1 : w1.heap[W.heap.size]? = some (.cells #[.int .i64 0, .string ⟨#[]⟩, .slice none 0 0] 60) := by rw [← hw1]; exact (Below.heap_setCell _ ⟨R, 0, none⟩ _ _ ne1).trans mz
  rw [hw1] at HNu
  have h0 : ((a.toNat : Int) == 0) = false := by rw [ha]; rfl
  have h1 : ((a.toNat : Int) == 1) = true := by rw [ha]; rfl
  have HTx : Hid (Calls Try.prog 104 #[.pointer (some ⟨R, 0, none⟩), .int .i64 4] w1 fun r W' => r = .panicked wrongP ∧ W' = w1) := rtext_bad R 4 l w1 T1.box h4 (by omega)
  have HT : Hid (RdT W w1 R l) := T1
  obtain ⟨z0, z1', z2⟩ := three z1; have y0 := cells_frozen z1 0; have y1 := cells_frozen z1 1; have y2 := cells_frozen z1 2
  clear hb hbV mz hw1 T1 z1 ha
  go_enter Try.func91, Try.ntmps91
  go_wp2_with (first | (go_at_call 104; refine HTx.out.mono ?_; rintro e9 w9 ⟨rfl, hw⟩; rw [hw]; clear hw) | (go_at_call 90; refine HNu.out.mono ?_; rintro e9 w9 ⟨rfl, hw⟩; rw [hw]; clear hw))
  exact ⟨rfl, rfl, _, HT.out⟩

set_option maxHeartbeats 2000000 in
theorem rslot_b2 (R : Nat) (a : UInt8) (l : List UInt8) (W : World) (hb : W.heap[R]? = some (.cells #[.string (bstr (a :: l))] 112)) (hm : l.length < 4096) (ha : a.toNat = 2) (h4 : l.length < 4) :
    Calls Try.prog 91 #[.pointer (some ⟨R, 0, none⟩)] W fun r W' => r = .panicked wrongP ∧ ∃ l', RdT W W' R l' := by
  have hR : R < W.heap.size := (Array.getElem?_eq_some_iff.1 hb).1
  have hbV : (W.alloc (.cells #[.int .i64 0, .string ⟨#[]⟩, .slice none 0 0] 60)).heap[R]? = some (.cells #[.string (bstr (a :: l))] 112) := cells_alloc hb _
  have mz : (W.alloc (.cells #[.int .i64 0, .string ⟨#[]⟩, .slice none 0 0] 60)).heap[W.heap.size]? = some (.cells #[.int .i64 0, .string ⟨#[]⟩, .slice none 0 0] 60) := World.alloc_heap_new _ _
  have ne1 : ¬ W.heap.size = R := by omega
  have ne2 : ¬ R = W.heap.size := by omega
  have HNu : Hid (Calls Try.prog 90 #[.pointer (some ⟨R, 0, none⟩)] (W.alloc (.cells #[.int .i64 0, .string ⟨#[]⟩, .slice none 0 0] 60)) fun r W' => r = .returned (.int .i64 (a.toNat : Int)) ∧ W' = (W.alloc (.cells #[.int .i64 0, .string ⟨#[]⟩, .slice none 0 0] 60)).setCell ⟨R, 0, none⟩ (.string (bstr l))) := rnum_ok R a l (W.alloc (.cells #[.int .i64 0, .string ⟨#[]⟩, .slice none 0 0] 60)) hbV (by omega)
  obtain ⟨w1, hw1⟩ : ∃ X, (W.alloc (.cells #[.int .i64 0, .string ⟨#[]⟩, .slice none 0 0] 60)).setCell ⟨R, 0, none⟩ (.string (bstr l)) = X := ⟨_, rfl⟩
  have T1 : RdT W w1 R l := by rw [← hw1]; exact ((RdT.refl hb).alloc _).set l
  have z1 : w1.heap[W.heap.size]? = some (.cells #[.int .i64 0, .string ⟨#[]⟩, .slice none 0 0] 60) := by rw [← hw1]; exact (Below.heap_setCell _ ⟨R, 0, none⟩ _ _ ne1).trans mz
  rw [hw1] at HNu
  have h0 : ((a.toNat : Int) == 0) = false := by rw [ha]; rfl
  have h1 : ((a.toNat : Int) == 1) = false := by rw [ha]; rfl
  have h2 : ((a.toNat : Int) == 2) = true := by rw [ha]; rfl
  have HEn : Hid (Calls Try.prog 105 #[.pointer (some ⟨R, 0, none⟩), .int .i64 4] w1 fun r W' => r = .panicked wrongP ∧ RdT w1 W' R []) := rents_bad R 4 l w1 T1.box h4 (by omega) (by omega)
  have HT1 : Hid (RdT W w1 R l) := T1
  clear hb hbV mz hw1 T1 z1 ha
  go_enter Try.func91, Try.ntmps91
  go_wp2_with (first | (go_at_call 105; refine HEn.out.mono ?_; rintro e9 w9 ⟨rfl, T9⟩; have HT := Hid_mkG (HT1.out.trans T9); clear T9) | (go_at_call 90; refine HNu.out.mono ?_; rintro e9 w9 ⟨rfl, hw⟩; rw [hw]; clear hw))
  exact ⟨rfl, rfl, _, HT.out⟩

set_option maxHeartbeats 2000000 in
theorem rslot_b3 (R : Nat) (a : UInt8) (l : List UInt8) (W : World) (hb : W.heap[R]? = some (.cells #[.string (bstr (a :: l))] 112)) (hm : l.length < 4096) (ha : 3 ≤ a.toNat) :
    Calls Try.prog 91 #[.pointer (some ⟨R, 0, none⟩)] W fun r W' => r = .panicked wrongP ∧ ∃ l', RdT W W' R l' := by
  have hR : R < W.heap.size := (Array.getElem?_eq_some_iff.1 hb).1
  have hbV : (W.alloc (.cells #[.int .i64 0, .string ⟨#[]⟩, .slice none 0 0] 60)).heap[R]? = some (.cells #[.string (bstr (a :: l))] 112) := cells_alloc hb _
  have mz : (W.alloc (.cells #[.int .i64 0, .string ⟨#[]⟩, .slice none 0 0] 60)).heap[W.heap.size]? = some (.cells #[.int .i64 0, .string ⟨#[]⟩, .slice none 0 0] 60) := World.alloc_heap_new _ _
  have ne1 : ¬ W.heap.size = R := by omega
  have ne2 : ¬ R = W.heap.size := by omega
  have HNu : Hid (Calls Try.prog 90 #[.pointer (some ⟨R, 0, none⟩)] (W.alloc (.cells #[.int .i64 0, .string ⟨#[]⟩, .slice none 0 0] 60)) fun r W' => r = .returned (.int .i64 (a.toNat : Int)) ∧ W' = (W.alloc (.cells #[.int .i64 0, .string ⟨#[]⟩, .slice none 0 0] 60)).setCell ⟨R, 0, none⟩ (.string (bstr l))) := rnum_ok R a l (W.alloc (.cells #[.int .i64 0, .string ⟨#[]⟩, .slice none 0 0] 60)) hbV (by omega)
  obtain ⟨w1, hw1⟩ : ∃ X, (W.alloc (.cells #[.int .i64 0, .string ⟨#[]⟩, .slice none 0 0] 60)).setCell ⟨R, 0, none⟩ (.string (bstr l)) = X := ⟨_, rfl⟩
  have T1 : RdT W w1 R l := by rw [← hw1]; exact ((RdT.refl hb).alloc _).set l
  have z1 : w1.heap[W.heap.size]? = some (.cells #[.int .i64 0, .string ⟨#[]⟩, .slice none 0 0] 60) := by rw [← hw1]; exact (Below.heap_setCell _ ⟨R, 0, none⟩ _ _ ne1).trans mz
  rw [hw1] at HNu
  have h0 : ((a.toNat : Int) == 0) = false := by simp; omega
  have h1 : ((a.toNat : Int) == 1) = false := by simp; omega
  have h2 : ((a.toNat : Int) == 2) = false := by simp; omega
  have HT : Hid (RdT W w1 R l) := T1
  clear hb hbV mz hw1 T1 z1 ha
  go_enter Try.func91, Try.ntmps91
  go_wp2_with (go_at_call 90; refine HNu.out.mono ?_; rintro e9 w9 ⟨rfl, hw⟩; rw [hw]; clear hw)
  exact ⟨rfl, rfl, _, HT.out⟩

theorem rslot_ok {R : Nat} {L : List UInt8} {W : World} {s : SlotD} {r : List UInt8} (hb : W.heap[R]? = some (.cells #[.string (bstr (L))] 112)) (hm : L.length ≤ 4096) (hp : pSlot L = some (s, r)) :
    Calls Try.prog 91 #[.pointer (some ⟨R, 0, none⟩)] W fun e W' => ∃ tv, e = .returned (.agg #[.int .i64 s.1, .string s.2.1, tv]) ∧ RdT W W' R r ∧ W'.ownsRow W.heap.size 3 1 tv s.2.2.length (ints s.2.2) := by
  obtain ⟨q, h1, h2⟩ := bindS hp
  cases L with
  | nil => simp [pNum] at h1
  | cons a l =>
    have h1 : (a.toNat, l) = q := by simpa [pNum] using h1
    subst h1
    have hm : l.length < 4096 := by simp at hm; omega
    unfold pKind at h2
    dsimp only at h2
    split at h2
    · rename_i ha
      have h2 : (((0 : Int), (⟨#[]⟩ : ByteArray), ([] : List Int)), l) = (s, r) := by simpa using h2
      cases h2
      exact rslot_0 R a _ W hb hm ha
    · split at h2
      · rename_i ha
        obtain ⟨t, h3, h4⟩ := mapS h2
        unfold pText at h3
        split at h3
        · rename_i hl
          have h3 : (l.take 4, l.drop 4) = t := by simpa using h3
          subst h3
          cases h4
          exact rslot_1 R a _ W hb hm ha hl
        · simp at h3
      · split at h2
        · rename_i ha
          obtain ⟨t, h3, h4⟩ := mapS h2
          unfold pEnts at h3
          split at h3
          · rename_i hl
            have h3 : ((l.take 4).map eInt, l.drop 4) = t := by simpa using h3
            subst h3
            cases h4
            exact rslot_2 R a _ W hb hm ha hl
          · simp at h3
        · simp at h2
theorem rslot_bad {R : Nat} {L : List UInt8} {W : World} (hb : W.heap[R]? = some (.cells #[.string (bstr (L))] 112)) (hm : L.length ≤ 4096) (hp : pSlot L = none) :
    Calls Try.prog 91 #[.pointer (some ⟨R, 0, none⟩)] W fun r W' => r = .panicked wrongP ∧ ∃ l', RdT W W' R l' := by
  cases L with
  | nil => exact rslot_b0 R W hb
  | cons a l =>
    have hm : l.length < 4096 := by simp at hm; omega
    have hp : pKind a.toNat l = none := hp
    unfold pKind at hp
    split at hp
    · simp at hp
    · split at hp
      · rename_i ha
        have : pText 4 l = none := by simpa using hp
        unfold pText at this
        split at this
        · simp at this
        · rename_i hl; exact rslot_b1 R a l W hb hm ha (by omega)
      · split at hp
        · rename_i ha
          have : pEnts 4 l = none := by simpa using hp
          unfold pEnts at this
          split at this
          · simp at this
          · rename_i hl; exact rslot_b2 R a l W hb hm ha (by omega)
        · rename_i n0 n1 n2
          exact rslot_b3 R a l W hb hm (by omega)
end Go.Proofs.Ytehleeibgkpjmag
/- The program's reader: root. -/
namespace Go.Proofs.Ytehleeibgkpjmag
open Go.RowKit Go.Shelf Go.Lib
set_option maxRecDepth 20000
set_option linter.unusedVariables false
set_option linter.unusedSimpArgs false

theorem rroot_ok (R g n : Nat) (l : List UInt8) (W : World) (hb : W.heap[R]? = some (.cells #[.string (bstr (l))] 112)) (hg : g ≤ 255) (hgn : (g + 3) / 4 = n) (hn : n ≤ l.length) (hm : l.length ≤ 4096) :
    Calls Try.prog 93 #[.pointer (some ⟨R, 0, none⟩), .int .i64 (g : Int)] W fun r W' => r = .returned (.slice (some ⟨W.heap.size, 0, none⟩) n n) ∧ RdT W W' R (l.drop n) ∧ W'.heap[W.heap.size]? = some (.cells (ints ((l.take n).map eInt)).toArray 3) := by
  have hE := rents_ok R n l W hb hn (by omega) hm
  have ea : ((n : Nat) : Int) = ((g : Int) + 4 - 1) / 4 := by omega
  rw [ea] at hE
  have HE := Hid_mkG hE
  clear hE ea hgn hb
  go_enter Try.func93, Try.ntmps93
  go_wp2_with (go_at_call 105; refine HE.out.mono ?_; rintro e w1 ⟨rfl, T1, g1⟩; have HT := Hid_mkG (And.intro T1 g1); clear T1 g1)
  go_ret
  exact ⟨rfl, HT.out.1, HT.out.2⟩
theorem rroot_bad (R g n : Nat) (l : List UInt8) (W : World) (hb : W.heap[R]? = some (.cells #[.string (bstr (l))] 112)) (hg : g ≤ 255) (hgn : (g + 3) / 4 = n) (hn : l.length < n) (hm : l.length ≤ 4096) :
    Calls Try.prog 93 #[.pointer (some ⟨R, 0, none⟩), .int .i64 (g : Int)] W fun r W' => r = .panicked wrongP ∧ RdT W W' R [] := by
  have hE := rents_bad R n l W hb hn (by omega) hm
  have ea : ((n : Nat) : Int) = ((g : Int) + 4 - 1) / 4 := by omega
  rw [ea] at hE
  have HE := Hid_mkG hE
  clear hE ea hgn hb
  go_enter Try.func93, Try.ntmps93
  go_wp2_with (go_at_call 105; refine HE.out.mono ?_; rintro e w1 ⟨rfl, T1⟩; have HT := Hid_mkG T1; clear T1)
  exact ⟨rfl, rfl, HT.out⟩
end Go.Proofs.Ytehleeibgkpjmag
/- The document's bytesOf. -/
namespace Go.Proofs.Ytehleeibgkpjmag
open Go.RowKit Go.Shelf Go.Lib
theorem row_blkW {W W' : World} {B n size : Nat} {e : TypeId} {v : Value} {xs : List Value} (h : W.ownsRow B e size v n xs) (hb : ∀ g, v.ownBlock = some g → W'.heap[g]? = W.heap[g]?) : W'.ownsRow B e size v n xs := by
  refine ⟨h.1, ?_⟩
  rcases h.2 with hn | ⟨g, cap, cur, hv, hb', hg, rest⟩
  · exact .inl hn
  · exact .inr ⟨g, cap, cur, hv, hb', (hb g (by rw [hv]; rfl)).trans hg, rest⟩
structure IbS (w wr : World) (bx : Obj) (v : Value) (l : List UInt8) : Prop where
  row : wr.ownsRow (w.heap.size + 1) 5 1 v l.length (bys l)
  bel : Below w.heap.size w wr
  box : wr.heap[w.heap.size]? = some bx
theorem IbS.lt {w wr : World} {bx : Obj} {v : Value} {l : List UInt8} (h : IbS w wr bx v l) : w.heap.size < wr.heap.size := (Array.getElem?_eq_some_iff.1 h.box).1
theorem IbS.on {w wr wx : World} {bx : Obj} {v : Value} {l : List UInt8} (h : IbS w wr bx v l) (hb : Below wr.heap.size wr wx) : IbS w wx bx v l :=
  ⟨row_blkW h.row (fun q hq => hb.block q (h.row.lt q hq).2), h.bel.trans (hb.mono h.bel.size), (hb.block _ h.lt).trans h.box⟩
theorem IbS.grow {w wr wx : World} {bx : Obj} {v v' : Value} {n : Nat} {l l' : List UInt8} (h : IbS w wr bx v l) (hn : l'.length = n) (g1 : wx.ownsRow (w.heap.size + 1) 5 1 v' n (bys l')) (g2 : wr.grownBy wx v.ownBlock) : IbS w wx bx v' l' := by
  subst hn
  have hne : some w.heap.size ≠ v.ownBlock := fun e => by have := (h.row.lt _ e.symm).1; omega
  exact ⟨g1, h.bel.grown g2 h.bel.size (fun q e => by have := (h.row.lt _ e).1; omega), (g2.block _ h.lt hne).trans h.box⟩
end Go.Proofs.Ytehleeibgkpjmag
/- The program's reader: snap. -/
namespace Go.Proofs.Ytehleeibgkpjmag
open Go.RowKit Go.Shelf Go.Lib
set_option maxRecDepth 20000
set_option linter.unusedVariables false
set_option linter.unusedSimpArgs false

set_option maxHeartbeats 2000000 in
theorem rsnap_at (R n : Nat) (a b : UInt8) (l1 l3 : List UInt8) (W : World) (hb : W.heap[R]? = some (.cells #[.string (bstr (a :: l1))] 112)) (hm : l1.length < 4096) (ha : a.toNat ≤ l1.length) (hd : l1.drop a.toNat = b :: l3) (hgn : (b.toNat + 3) / 4 = n) (hn : n ≤ l3.length) :
    Calls Try.prog 92 #[.pointer (some ⟨R, 0, none⟩)] W fun r W' => ∃ tv, r = .returned (.agg #[.string (bstr (l1.take a.toNat)), .int .i64 (b.toNat : Int), tv]) ∧ RdT W W' R (l3.drop n) ∧ W'.ownsRow W.heap.size 3 1 tv n (ints ((l3.take n).map eInt)) := by
  have hR : R < W.heap.size := (Array.getElem?_eq_some_iff.1 hb).1
  have hbV : (W.alloc (.cells #[.string ⟨#[]⟩, .int .i64 0, .slice none 0 0] 74)).heap[R]? = some (.cells #[.string (bstr (a :: l1))] 112) := cells_alloc hb _
  have mz : (W.alloc (.cells #[.string ⟨#[]⟩, .int .i64 0, .slice none 0 0] 74)).heap[W.heap.size]? = some (.cells #[.string ⟨#[]⟩, .int .i64 0, .slice none 0 0] 74) := World.alloc_heap_new _ _
  have ne1 : ¬ W.heap.size = R := by omega
  have ne2 : ¬ R = W.heap.size := by omega
  have HN1 : Hid (Calls Try.prog 90 #[.pointer (some ⟨R, 0, none⟩)] (W.alloc (.cells #[.string ⟨#[]⟩, .int .i64 0, .slice none 0 0] 74)) fun r W' => r = .returned (.int .i64 (a.toNat : Int)) ∧ W' = (W.alloc (.cells #[.string ⟨#[]⟩, .int .i64 0, .slice none 0 0] 74)).setCell ⟨R, 0, none⟩ (.string (bstr l1))) := rnum_ok R a l1 (W.alloc (.cells #[.string ⟨#[]⟩, .int .i64 0, .slice none 0 0] 74)) hbV hm
  obtain ⟨w1, hw1⟩ : ∃ X, (W.alloc (.cells #[.string ⟨#[]⟩, .int .i64 0, .slice none 0 0] 74)).setCell ⟨R, 0, none⟩ (.string (bstr l1)) = X := ⟨_, rfl⟩
  have T1 : RdT W w1 R l1 := by rw [← hw1]; exact ((RdT.refl hb).alloc _).set l1
  have z1 : w1.heap[W.heap.size]? = some (.cells #[.string ⟨#[]⟩, .int .i64 0, .slice none 0 0] 74) := by rw [← hw1]; exact (Below.heap_setCell _ ⟨R, 0, none⟩ _ _ ne1).trans mz
  rw [hw1] at HN1
  clear hb hbV mz hw1
  have HTx : Hid (Calls Try.prog 104 #[.pointer (some ⟨R, 0, none⟩), .int .i64 (a.toNat : Int)] w1 fun r W' => r = .returned (.string (bstr (l1.take a.toNat))) ∧ W' = w1.setCell ⟨R, 0, none⟩ (.string (bstr (l1.drop a.toNat)))) := rtext_ok R a.toNat l1 w1 T1.box ha (by omega)
  obtain ⟨w2, hw2⟩ : ∃ X, w1.setCell ⟨R, 0, none⟩ (.string (bstr (l1.drop a.toNat))) = X := ⟨_, rfl⟩
  have T2 : RdT W w2 R (l1.drop a.toNat) := by rw [← hw2]; exact T1.set _
  have z2 : w2.heap[W.heap.size]? = some (.cells #[.string ⟨#[]⟩, .int .i64 0, .slice none 0 0] 74) := by rw [← hw2]; exact (Below.heap_setCell _ ⟨R, 0, none⟩ _ _ ne1).trans z1
  rw [hw2] at HTx
  clear T1 z1 hw2
  rw [hd] at T2
  have hW2 : W.heap.size < w2.heap.size := (Array.getElem?_eq_some_iff.1 z2).1
  have T2b : RdT W (w2.alloc (.cells #[.string (bstr (l1.take a.toNat)), .int .i64 0, .slice none 0 0] 74)) R (b :: l3) := T2.alloc _
  have z2b : (w2.alloc (.cells #[.string (bstr (l1.take a.toNat)), .int .i64 0, .slice none 0 0] 74)).heap[W.heap.size]? = some (.cells #[.string ⟨#[]⟩, .int .i64 0, .slice none 0 0] 74) := cells_alloc z2 _
  have s2b : (w2.alloc (.cells #[.string (bstr (l1.take a.toNat)), .int .i64 0, .slice none 0 0] 74)).heap[w2.heap.size]? = some (.cells #[.string (bstr (l1.take a.toNat)), .int .i64 0, .slice none 0 0] 74) := World.alloc_heap_new _ _
  have hl3 : l3.length < 4096 := by have := congrArg List.length hd; rw [List.length_drop] at this; simp at this; omega
  have HN2 : Hid (Calls Try.prog 90 #[.pointer (some ⟨R, 0, none⟩)] (w2.alloc (.cells #[.string (bstr (l1.take a.toNat)), .int .i64 0, .slice none 0 0] 74)) fun r W' => r = .returned (.int .i64 (b.toNat : Int)) ∧ W' = (w2.alloc (.cells #[.string (bstr (l1.take a.toNat)), .int .i64 0, .slice none 0 0] 74)).setCell ⟨R, 0, none⟩ (.string (bstr l3))) := rnum_ok R b l3 (w2.alloc (.cells #[.string (bstr (l1.take a.toNat)), .int .i64 0, .slice none 0 0] 74)) T2b.box hl3
  obtain ⟨w3, hw3⟩ : ∃ X, (w2.alloc (.cells #[.string (bstr (l1.take a.toNat)), .int .i64 0, .slice none 0 0] 74)).setCell ⟨R, 0, none⟩ (.string (bstr l3)) = X := ⟨_, rfl⟩
  have ns : ¬ w2.heap.size = R := by omega
  have T3 : RdT W w3 R l3 := by rw [← hw3]; exact T2b.set _
  have z3 : w3.heap[W.heap.size]? = some (.cells #[.string ⟨#[]⟩, .int .i64 0, .slice none 0 0] 74) := by rw [← hw3]; exact (Below.heap_setCell _ ⟨R, 0, none⟩ _ _ ne1).trans z2b
  have s3 : w3.heap[w2.heap.size]? = some (.cells #[.string (bstr (l1.take a.toNat)), .int .i64 0, .slice none 0 0] 74) := by rw [← hw3]; exact (Below.heap_setCell _ ⟨R, 0, none⟩ _ _ ns).trans s2b
  rw [hw3] at HN2
  clear hw3 T2 z2 T2b z2b s2b hd
  obtain ⟨p0, p1, p2⟩ := three s3
  have o1 := cells_frozen s3 1
  obtain ⟨w4, hw4⟩ : ∃ X, w3.setCell ⟨w2.heap.size, 1, none⟩ (.int .i64 (b.toNat : Int)) = X := ⟨_, rfl⟩
  have T4 : RdT W w4 R l3 := by rw [← hw4]; exact T3.other (by omega) hR _
  have z4 : w4.heap[W.heap.size]? = some (.cells #[.string ⟨#[]⟩, .int .i64 0, .slice none 0 0] 74) := by rw [← hw4]; exact (Below.heap_setCell _ ⟨w2.heap.size, 1, none⟩ _ _ (by show W.heap.size ≠ w2.heap.size; omega)).trans z3
  have s4 : w4.heap[w2.heap.size]? = some (.cells #[.string (bstr (l1.take a.toNat)), .int .i64 (b.toNat : Int), .slice none 0 0] 74) := by rw [← hw4]; exact cells_set s3 1 _
  have HW4 : Hid (w3.setCell ⟨w2.heap.size, 1, none⟩ (.int .i64 (b.toNat : Int)) = w4) := hw4
  clear hw4 T3 z3 s3
  have hb255 : b.toNat ≤ 255 := by have := b.toNat_lt; omega
  have HRo : Hid (Calls Try.prog 93 #[.pointer (some ⟨R, 0, none⟩), .int .i64 (b.toNat : Int)] w4 fun r W' => r = .returned (.slice (some ⟨w4.heap.size, 0, none⟩) n n) ∧ RdT w4 W' R (l3.drop n) ∧ W'.heap[w4.heap.size]? = some (.cells (ints ((l3.take n).map eInt)).toArray 3)) := rroot_ok R b.toNat n l3 w4 T4.box hb255 hgn hn (by omega)
  obtain ⟨r0, r1, r2⟩ := three s4
  have HS4 : Hid (RdT W w4 R l3 ∧ w4.heap[W.heap.size]? = some (.cells #[.string ⟨#[]⟩, .int .i64 0, .slice none 0 0] 74) ∧ w4.heap[w2.heap.size]? = some (.cells #[.string (bstr (l1.take a.toNat)), .int .i64 (b.toNat : Int), .slice none 0 0] 74)) := ⟨T4, z4, s4⟩
  have hl4 : n ≤ 1000 := by omega
  have Hn : Hid (n ≤ l3.length) := hn
  clear T4 z4 s4 hgn hn ha hm hl3
  go_enter Try.func92, Try.ntmps92
  go_wp2_with fail
  refine HN1.out.mono ?_
  rintro e1 x1 ⟨rfl, hw⟩
  rw [hw]
  clear hw
  go_wp2_with fail
  refine HTx.out.mono ?_
  rintro e2 x2 ⟨rfl, hw⟩
  rw [hw]
  clear hw
  go_wp2_with fail
  refine HN2.out.mono ?_
  rintro e3 x3 ⟨rfl, hw⟩
  rw [hw]
  clear hw
  go_upto_region 3 with fail
  rw [HW4.out]
  clear p0 p1 p2 o1
  go_wp2_with fail
  refine HRo.out.mono ?_
  rintro e4 w5 ⟨rfl, T5, g5⟩
  clear r0 r1 r2
  have q4 := (Array.getElem?_eq_some_iff.1 HS4.out.2.2).1
  have z5 := (T5.keep W.heap.size (by omega) ne1).trans HS4.out.2.1
  have s5 := (T5.keep w2.heap.size q4 ns).trans HS4.out.2.2
  obtain ⟨r0, r1, r2⟩ := three s5
  have u2 := cells_frozen s5 2
  obtain ⟨y0, y1, y2⟩ := three z5
  have f0 := cells_frozen z5 0
  have f1 := cells_frozen z5 1
  have f2 := cells_frozen z5 2
  have nz1 : ¬ W.heap.size = w2.heap.size := by omega
  have nz2 : ¬ w2.heap.size = W.heap.size := by omega
  have HT5 : Hid (RdT W w5 R (l3.drop n) ∧ w5.heap[w4.heap.size]? = some (.cells (ints ((l3.take n).map eInt)).toArray 3) ∧ w2.heap.size < w4.heap.size) := ⟨HS4.out.1.trans T5, g5, q4⟩
  clear T5 g5 z5 s5 q4
  go_wp2_with fail
  refine bodyPost_ret (v := .agg #[.string (bstr (l1.take a.toNat)), .int .i64 (b.toNat : Int), .slice (some ⟨w4.heap.size, 0, none⟩) n n]) (by simp [results, Try.results92, go_sem, y0, y1, y2, nz1, nz2]) rfl ?_
  have hq := HT5.out.2.2
  have hWq : W.heap.size < w4.heap.size := by omega
  refine ⟨_, rfl, (((HT5.out.1.other (by omega) hR _).other (Nat.le_refl _) hR _).other (Nat.le_refl _) hR _).other (Nat.le_refl _) hR _, ?_⟩
  have e : ((l3.take n).map eInt).length = n := by rw [List.length_map, List.length_take]; have := Hn.out; omega
  have key := row_newG (W := w5) (B := W.heap.size) (g := w4.heap.size) (xs := (l3.take n).map eInt) (by omega) (by omega) HT5.out.2.1
  rw [e] at key
  exact row_blkW key (fun q hq' => by
    cases hq'
    exact (Below.heap_setCell _ ⟨W.heap.size, 2, none⟩ _ _ (Nat.ne_of_gt hWq)).trans ((Below.heap_setCell _ ⟨W.heap.size, 1, none⟩ _ _ (Nat.ne_of_gt hWq)).trans ((Below.heap_setCell _ ⟨W.heap.size, 0, none⟩ _ _ (Nat.ne_of_gt hWq)).trans (Below.heap_setCell _ ⟨w2.heap.size, 2, none⟩ _ _ (Nat.ne_of_gt hq)))))

set_option maxHeartbeats 2000000 in
theorem rsnap_b0 (R : Nat) (W : World) (hb : W.heap[R]? = some (.cells #[.string (bstr ([]))] 112))  :
    Calls Try.prog 92 #[.pointer (some ⟨R, 0, none⟩)] W fun r W' => r = .panicked wrongP ∧ ∃ l', RdT W W' R l' := by
  have hR : R < W.heap.size := (Array.getElem?_eq_some_iff.1 hb).1
  have hbV : (W.alloc (.cells #[.string ⟨#[]⟩, .int .i64 0, .slice none 0 0] 74)).heap[R]? = some (.cells #[.string (bstr ([]))] 112) := cells_alloc hb _
  have mz : (W.alloc (.cells #[.string ⟨#[]⟩, .int .i64 0, .slice none 0 0] 74)).heap[W.heap.size]? = some (.cells #[.string ⟨#[]⟩, .int .i64 0, .slice none 0 0] 74) := World.alloc_heap_new _ _
  have ne1 : ¬ W.heap.size = R := by omega
  have ne2 : ¬ R = W.heap.size := by omega
  have HN1 : Hid (Calls Try.prog 90 #[.pointer (some ⟨R, 0, none⟩)] (W.alloc (.cells #[.string ⟨#[]⟩, .int .i64 0, .slice none 0 0] 74)) fun r W' => r = .panicked wrongP ∧ W' = (W.alloc (.cells #[.string ⟨#[]⟩, .int .i64 0, .slice none 0 0] 74))) := rnum_bad R (W.alloc (.cells #[.string ⟨#[]⟩, .int .i64 0, .slice none 0 0] 74)) hbV
  have HT : Hid (RdT W (W.alloc (.cells #[.string ⟨#[]⟩, .int .i64 0, .slice none 0 0] 74)) R []) := (RdT.refl hb).alloc _
  clear hb hbV mz
  go_enter Try.func92, Try.ntmps92
  go_wp2_with (go_at_call 90; refine HN1.out.mono ?_; rintro e9 w9 ⟨rfl, hw⟩; rw [hw]; clear hw)
  exact ⟨rfl, rfl, _, HT.out⟩

set_option maxHeartbeats 2000000 in
theorem rsnap_b1 (R : Nat) (a : UInt8) (l1 : List UInt8) (W : World) (hb : W.heap[R]? = some (.cells #[.string (bstr (a :: l1))] 112)) (hm : l1.length < 4096) (ha : l1.length < a.toNat) :
    Calls Try.prog 92 #[.pointer (some ⟨R, 0, none⟩)] W fun r W' => r = .panicked wrongP ∧ ∃ l', RdT W W' R l' := by
  have hR : R < W.heap.size := (Array.getElem?_eq_some_iff.1 hb).1
  have hbV : (W.alloc (.cells #[.string ⟨#[]⟩, .int .i64 0, .slice none 0 0] 74)).heap[R]? = some (.cells #[.string (bstr (a :: l1))] 112) := cells_alloc hb _
  have mz : (W.alloc (.cells #[.string ⟨#[]⟩, .int .i64 0, .slice none 0 0] 74)).heap[W.heap.size]? = some (.cells #[.string ⟨#[]⟩, .int .i64 0, .slice none 0 0] 74) := World.alloc_heap_new _ _
  have ne1 : ¬ W.heap.size = R := by omega
  have ne2 : ¬ R = W.heap.size := by omega
  have HN1 : Hid (Calls Try.prog 90 #[.pointer (some ⟨R, 0, none⟩)] (W.alloc (.cells #[.string ⟨#[]⟩, .int .i64 0, .slice none 0 0] 74)) fun r W' => r = .returned (.int .i64 (a.toNat : Int)) ∧ W' = (W.alloc (.cells #[.string ⟨#[]⟩, .int .i64 0, .slice none 0 0] 74)).setCell ⟨R, 0, none⟩ (.string (bstr l1))) := rnum_ok R a l1 (W.alloc (.cells #[.string ⟨#[]⟩, .int .i64 0, .slice none 0 0] 74)) hbV hm
  obtain ⟨w1, hw1⟩ : ∃ X, (W.alloc (.cells #[.string ⟨#[]⟩, .int .i64 0, .slice none 0 0] 74)).setCell ⟨R, 0, none⟩ (.string (bstr l1)) = X := ⟨_, rfl⟩
  have T1 : RdT W w1 R l1 := by rw [← hw1]; exact ((RdT.refl hb).alloc _).set l1
  have z1 : w1.heap[W.heap.size]? = some (.cells #[.string ⟨#[]⟩, .int .i64 0, .slice none 0 0] 74) := by rw [← hw1]; exact (Below.heap_setCell _ ⟨R, 0, none⟩ _ _ ne1).trans mz
  rw [hw1] at HN1
  clear hb hbV mz hw1
  have HTx : Hid (Calls Try.prog 104 #[.pointer (some ⟨R, 0, none⟩), .int .i64 (a.toNat : Int)] w1 fun r W' => r = .panicked wrongP ∧ W' = w1) := rtext_bad R a.toNat l1 w1 T1.box ha (by omega)
  have HT : Hid (RdT W w1 R l1) := T1
  clear T1 z1 ha hm
  go_enter Try.func92, Try.ntmps92
  go_wp2_with fail
  refine HN1.out.mono ?_
  rintro e1 x1 ⟨rfl, hw⟩
  rw [hw]
  clear hw
  go_wp2_with (go_at_call 104; refine HTx.out.mono ?_; rintro e9 w9 ⟨rfl, hw⟩; rw [hw]; clear hw)
  exact ⟨rfl, rfl, _, HT.out⟩

set_option maxHeartbeats 2000000 in
theorem rsnap_b2 (R : Nat) (a : UInt8) (l1 : List UInt8) (W : World) (hb : W.heap[R]? = some (.cells #[.string (bstr (a :: l1))] 112)) (hm : l1.length < 4096) (ha : a.toNat ≤ l1.length) (hd : l1.drop a.toNat = []) :
    Calls Try.prog 92 #[.pointer (some ⟨R, 0, none⟩)] W fun r W' => r = .panicked wrongP ∧ ∃ l', RdT W W' R l' := by
  have hR : R < W.heap.size := (Array.getElem?_eq_some_iff.1 hb).1
  have hbV : (W.alloc (.cells #[.string ⟨#[]⟩, .int .i64 0, .slice none 0 0] 74)).heap[R]? = some (.cells #[.string (bstr (a :: l1))] 112) := cells_alloc hb _
  have mz : (W.alloc (.cells #[.string ⟨#[]⟩, .int .i64 0, .slice none 0 0] 74)).heap[W.heap.size]? = some (.cells #[.string ⟨#[]⟩, .int .i64 0, .slice none 0 0] 74) := World.alloc_heap_new _ _
  have ne1 : ¬ W.heap.size = R := by omega
  have ne2 : ¬ R = W.heap.size := by omega
  have HN1 : Hid (Calls Try.prog 90 #[.pointer (some ⟨R, 0, none⟩)] (W.alloc (.cells #[.string ⟨#[]⟩, .int .i64 0, .slice none 0 0] 74)) fun r W' => r = .returned (.int .i64 (a.toNat : Int)) ∧ W' = (W.alloc (.cells #[.string ⟨#[]⟩, .int .i64 0, .slice none 0 0] 74)).setCell ⟨R, 0, none⟩ (.string (bstr l1))) := rnum_ok R a l1 (W.alloc (.cells #[.string ⟨#[]⟩, .int .i64 0, .slice none 0 0] 74)) hbV hm
  obtain ⟨w1, hw1⟩ : ∃ X, (W.alloc (.cells #[.string ⟨#[]⟩, .int .i64 0, .slice none 0 0] 74)).setCell ⟨R, 0, none⟩ (.string (bstr l1)) = X := ⟨_, rfl⟩
  have T1 : RdT W w1 R l1 := by rw [← hw1]; exact ((RdT.refl hb).alloc _).set l1
  have z1 : w1.heap[W.heap.size]? = some (.cells #[.string ⟨#[]⟩, .int .i64 0, .slice none 0 0] 74) := by rw [← hw1]; exact (Below.heap_setCell _ ⟨R, 0, none⟩ _ _ ne1).trans mz
  rw [hw1] at HN1
  clear hb hbV mz hw1
  have HTx : Hid (Calls Try.prog 104 #[.pointer (some ⟨R, 0, none⟩), .int .i64 (a.toNat : Int)] w1 fun r W' => r = .returned (.string (bstr (l1.take a.toNat))) ∧ W' = w1.setCell ⟨R, 0, none⟩ (.string (bstr (l1.drop a.toNat)))) := rtext_ok R a.toNat l1 w1 T1.box ha (by omega)
  obtain ⟨w2, hw2⟩ : ∃ X, w1.setCell ⟨R, 0, none⟩ (.string (bstr (l1.drop a.toNat))) = X := ⟨_, rfl⟩
  have T2 : RdT W w2 R (l1.drop a.toNat) := by rw [← hw2]; exact T1.set _
  have z2 : w2.heap[W.heap.size]? = some (.cells #[.string ⟨#[]⟩, .int .i64 0, .slice none 0 0] 74) := by rw [← hw2]; exact (Below.heap_setCell _ ⟨R, 0, none⟩ _ _ ne1).trans z1
  rw [hw2] at HTx
  clear T1 z1 hw2
  rw [hd] at T2
  have HN2 : Hid (Calls Try.prog 90 #[.pointer (some ⟨R, 0, none⟩)] (w2.alloc (.cells #[.string (bstr (l1.take a.toNat)), .int .i64 0, .slice none 0 0] 74)) fun r W' => r = .panicked wrongP ∧ W' = w2.alloc (.cells #[.string (bstr (l1.take a.toNat)), .int .i64 0, .slice none 0 0] 74)) := rnum_bad R (w2.alloc (.cells #[.string (bstr (l1.take a.toNat)), .int .i64 0, .slice none 0 0] 74)) (T2.alloc _).box
  have HT : Hid (RdT W (w2.alloc (.cells #[.string (bstr (l1.take a.toNat)), .int .i64 0, .slice none 0 0] 74)) R []) := T2.alloc _
  clear T2 z2 ha hm hd
  go_enter Try.func92, Try.ntmps92
  go_wp2_with fail
  refine HN1.out.mono ?_
  rintro e1 x1 ⟨rfl, hw⟩
  rw [hw]
  clear hw
  go_wp2_with fail
  refine HTx.out.mono ?_
  rintro e2 x2 ⟨rfl, hw⟩
  rw [hw]
  clear hw
  go_wp2_with (go_at_call 90; refine HN2.out.mono ?_; rintro e9 w9 ⟨rfl, hw⟩; rw [hw]; clear hw)
  exact ⟨rfl, rfl, _, HT.out⟩

set_option maxHeartbeats 2000000 in
theorem rsnap_b3 (R n : Nat) (a b : UInt8) (l1 l3 : List UInt8) (W : World) (hb : W.heap[R]? = some (.cells #[.string (bstr (a :: l1))] 112)) (hm : l1.length < 4096) (ha : a.toNat ≤ l1.length) (hd : l1.drop a.toNat = b :: l3) (hgn : (b.toNat + 3) / 4 = n) (hn : l3.length < n) :
    Calls Try.prog 92 #[.pointer (some ⟨R, 0, none⟩)] W fun r W' => r = .panicked wrongP ∧ ∃ l', RdT W W' R l' := by
  have hR : R < W.heap.size := (Array.getElem?_eq_some_iff.1 hb).1
  have hbV : (W.alloc (.cells #[.string ⟨#[]⟩, .int .i64 0, .slice none 0 0] 74)).heap[R]? = some (.cells #[.string (bstr (a :: l1))] 112) := cells_alloc hb _
  have mz : (W.alloc (.cells #[.string ⟨#[]⟩, .int .i64 0, .slice none 0 0] 74)).heap[W.heap.size]? = some (.cells #[.string ⟨#[]⟩, .int .i64 0, .slice none 0 0] 74) := World.alloc_heap_new _ _
  have ne1 : ¬ W.heap.size = R := by omega
  have ne2 : ¬ R = W.heap.size := by omega
  have HN1 : Hid (Calls Try.prog 90 #[.pointer (some ⟨R, 0, none⟩)] (W.alloc (.cells #[.string ⟨#[]⟩, .int .i64 0, .slice none 0 0] 74)) fun r W' => r = .returned (.int .i64 (a.toNat : Int)) ∧ W' = (W.alloc (.cells #[.string ⟨#[]⟩, .int .i64 0, .slice none 0 0] 74)).setCell ⟨R, 0, none⟩ (.string (bstr l1))) := rnum_ok R a l1 (W.alloc (.cells #[.string ⟨#[]⟩, .int .i64 0, .slice none 0 0] 74)) hbV hm
  obtain ⟨w1, hw1⟩ : ∃ X, (W.alloc (.cells #[.string ⟨#[]⟩, .int .i64 0, .slice none 0 0] 74)).setCell ⟨R, 0, none⟩ (.string (bstr l1)) = X := ⟨_, rfl⟩
  have T1 : RdT W w1 R l1 := by rw [← hw1]; exact ((RdT.refl hb).alloc _).set l1
  have z1 : w1.heap[W.heap.size]? = some (.cells #[.string ⟨#[]⟩, .int .i64 0, .slice none 0 0] 74) := by rw [← hw1]; exact (Below.heap_setCell _ ⟨R, 0, none⟩ _ _ ne1).trans mz
  rw [hw1] at HN1
  clear hb hbV mz hw1
  have HTx : Hid (Calls Try.prog 104 #[.pointer (some ⟨R, 0, none⟩), .int .i64 (a.toNat : Int)] w1 fun r W' => r = .returned (.string (bstr (l1.take a.toNat))) ∧ W' = w1.setCell ⟨R, 0, none⟩ (.string (bstr (l1.drop a.toNat)))) := rtext_ok R a.toNat l1 w1 T1.box ha (by omega)
  obtain ⟨w2, hw2⟩ : ∃ X, w1.setCell ⟨R, 0, none⟩ (.string (bstr (l1.drop a.toNat))) = X := ⟨_, rfl⟩
  have T2 : RdT W w2 R (l1.drop a.toNat) := by rw [← hw2]; exact T1.set _
  have z2 : w2.heap[W.heap.size]? = some (.cells #[.string ⟨#[]⟩, .int .i64 0, .slice none 0 0] 74) := by rw [← hw2]; exact (Below.heap_setCell _ ⟨R, 0, none⟩ _ _ ne1).trans z1
  rw [hw2] at HTx
  clear T1 z1 hw2
  rw [hd] at T2
  have hW2 : W.heap.size < w2.heap.size := (Array.getElem?_eq_some_iff.1 z2).1
  have T2b : RdT W (w2.alloc (.cells #[.string (bstr (l1.take a.toNat)), .int .i64 0, .slice none 0 0] 74)) R (b :: l3) := T2.alloc _
  have z2b : (w2.alloc (.cells #[.string (bstr (l1.take a.toNat)), .int .i64 0, .slice none 0 0] 74)).heap[W.heap.size]? = some (.cells #[.string ⟨#[]⟩, .int .i64 0, .slice none 0 0] 74) := cells_alloc z2 _
  have s2b : (w2.alloc (.cells #[.string (bstr (l1.take a.toNat)), .int .i64 0, .slice none 0 0] 74)).heap[w2.heap.size]? = some (.cells #[.string (bstr (l1.take a.toNat)), .int .i64 0, .slice none 0 0] 74) := World.alloc_heap_new _ _
  have hl3 : l3.length < 4096 := by have := congrArg List.length hd; rw [List.length_drop] at this; simp at this; omega
  have HN2 : Hid (Calls Try.prog 90 #[.pointer (some ⟨R, 0, none⟩)] (w2.alloc (.cells #[.string (bstr (l1.take a.toNat)), .int .i64 0, .slice none 0 0] 74)) fun r W' => r = .returned (.int .i64 (b.toNat : Int)) ∧ W' = (w2.alloc (.cells #[.string (bstr (l1.take a.toNat)), .int .i64 0, .slice none 0 0] 74)).setCell ⟨R, 0, none⟩ (.string (bstr l3))) := rnum_ok R b l3 (w2.alloc (.cells #[.string (bstr (l1.take a.toNat)), .int .i64 0, .slice none 0 0] 74)) T2b.box hl3
  obtain ⟨w3, hw3⟩ : ∃ X, (w2.alloc (.cells #[.string (bstr (l1.take a.toNat)), .int .i64 0, .slice none 0 0] 74)).setCell ⟨R, 0, none⟩ (.string (bstr l3)) = X := ⟨_, rfl⟩
  have ns : ¬ w2.heap.size = R := by omega
  have T3 : RdT W w3 R l3 := by rw [← hw3]; exact T2b.set _
  have z3 : w3.heap[W.heap.size]? = some (.cells #[.string ⟨#[]⟩, .int .i64 0, .slice none 0 0] 74) := by rw [← hw3]; exact (Below.heap_setCell _ ⟨R, 0, none⟩ _ _ ne1).trans z2b
  have s3 : w3.heap[w2.heap.size]? = some (.cells #[.string (bstr (l1.take a.toNat)), .int .i64 0, .slice none 0 0] 74) := by rw [← hw3]; exact (Below.heap_setCell _ ⟨R, 0, none⟩ _ _ ns).trans s2b
  rw [hw3] at HN2
  clear hw3 T2 z2 T2b z2b s2b hd
  obtain ⟨p0, p1, p2⟩ := three s3
  have o1 := cells_frozen s3 1
  obtain ⟨w4, hw4⟩ : ∃ X, w3.setCell ⟨w2.heap.size, 1, none⟩ (.int .i64 (b.toNat : Int)) = X := ⟨_, rfl⟩
  have T4 : RdT W w4 R l3 := by rw [← hw4]; exact T3.other (by omega) hR _
  have z4 : w4.heap[W.heap.size]? = some (.cells #[.string ⟨#[]⟩, .int .i64 0, .slice none 0 0] 74) := by rw [← hw4]; exact (Below.heap_setCell _ ⟨w2.heap.size, 1, none⟩ _ _ (by show W.heap.size ≠ w2.heap.size; omega)).trans z3
  have s4 : w4.heap[w2.heap.size]? = some (.cells #[.string (bstr (l1.take a.toNat)), .int .i64 (b.toNat : Int), .slice none 0 0] 74) := by rw [← hw4]; exact cells_set s3 1 _
  have HW4 : Hid (w3.setCell ⟨w2.heap.size, 1, none⟩ (.int .i64 (b.toNat : Int)) = w4) := hw4
  clear hw4 T3 z3 s3
  have hb255 : b.toNat ≤ 255 := by have := b.toNat_lt; omega
  have HRo : Hid (Calls Try.prog 93 #[.pointer (some ⟨R, 0, none⟩), .int .i64 (b.toNat : Int)] w4 fun r W' => r = .panicked wrongP ∧ RdT w4 W' R []) := rroot_bad R b.toNat n l3 w4 T4.box hb255 hgn hn (by omega)
  obtain ⟨r0, r1, r2⟩ := three s4
  have HS4 : Hid (RdT W w4 R l3) := T4
  clear T4 z4 s4 hgn hn ha hm hl3
  go_enter Try.func92, Try.ntmps92
  go_wp2_with fail
  refine HN1.out.mono ?_
  rintro e1 x1 ⟨rfl, hw⟩
  rw [hw]
  clear hw
  go_wp2_with fail
  refine HTx.out.mono ?_
  rintro e2 x2 ⟨rfl, hw⟩
  rw [hw]
  clear hw
  go_wp2_with fail
  refine HN2.out.mono ?_
  rintro e3 x3 ⟨rfl, hw⟩
  rw [hw]
  clear hw
  go_upto_region 3 with fail
  rw [HW4.out]
  clear p0 p1 p2 o1
  go_wp2_with (go_at_call 93; refine HRo.out.mono ?_; rintro e4 w5 ⟨rfl, T5⟩; have HT5 := Hid_mkG (HS4.out.trans T5); clear T5)
  exact ⟨rfl, rfl, _, HT5.out⟩

theorem rsnap_ok {R : Nat} {L : List UInt8} {W : World} {s : SnapD} {r : List UInt8} (hb : W.heap[R]? = some (.cells #[.string (bstr (L))] 112)) (hm : L.length ≤ 4096) (hp : pSnap L = some (s, r)) :
    Calls Try.prog 92 #[.pointer (some ⟨R, 0, none⟩)] W fun e W' => ∃ tv, e = .returned (.agg #[.string s.1, .int .i64 s.2.1, tv]) ∧ RdT W W' R r ∧ W'.ownsRow W.heap.size 3 1 tv s.2.2.length (ints s.2.2) := by
  obtain ⟨q, h1, h⟩ := bindS hp
  obtain ⟨t, h2, h⟩ := bindS h
  obtain ⟨g, h3, h⟩ := bindS h
  obtain ⟨u, h4, h⟩ := mapS h
  cases L with
  | nil => simp [pNum] at h1
  | cons a l1 =>
    have h1 : (a.toNat, l1) = q := by simpa [pNum] using h1
    subst h1
    have hm : l1.length < 4096 := by simp at hm; omega
    unfold pText at h2
    split at h2
    · rename_i ha
      have h2 : (l1.take a.toNat, l1.drop a.toNat) = t := by simpa using h2
      subst h2
      dsimp only at h3 ha
      cases hd : l1.drop a.toNat with
      | nil => rw [hd] at h3; simp [pNum] at h3
      | cons b l3 =>
        rw [hd] at h3
        have h3 : (b.toNat, l3) = g := by simpa [pNum] using h3
        subst h3
        unfold pEnts at h4
        split at h4
        · rename_i hn
          have h4 : ((l3.take ((b.toNat + 3) / 4)).map eInt, l3.drop ((b.toNat + 3) / 4)) = u := by simpa using h4
          subst h4
          cases h
          have key := rsnap_at R _ a b l1 l3 W hb hm ha hd rfl hn
          have e : ((l3.take ((b.toNat + 3) / 4)).map eInt).length = (b.toNat + 3) / 4 := by rw [List.length_map, List.length_take]; have : (b.toNat + 3) / 4 ≤ l3.length := hn; omega
          refine key.mono fun x W' hx => ?_
          obtain ⟨tv, e1, e2, e3⟩ := hx
          exact ⟨tv, e1, e2, by rw [e]; exact e3⟩
        · simp at h4
    · simp at h2
theorem rsnap_bad {R : Nat} {L : List UInt8} {W : World} (hb : W.heap[R]? = some (.cells #[.string (bstr (L))] 112)) (hm : L.length ≤ 4096) (hp : pSnap L = none) :
    Calls Try.prog 92 #[.pointer (some ⟨R, 0, none⟩)] W fun r W' => r = .panicked wrongP ∧ ∃ l', RdT W W' R l' := by
  cases L with
  | nil => exact rsnap_b0 R W hb
  | cons a l1 =>
    have hm : l1.length < 4096 := by simp at hm; omega
    by_cases ha : a.toNat ≤ l1.length
    · cases hd : l1.drop a.toNat with
      | nil => exact rsnap_b2 R a l1 W hb hm ha hd
      | cons b l3 =>
        by_cases hn : (b.toNat + 3) / 4 ≤ l3.length
        · exfalso
          unfold pSnap at hp
          simp [pNum, pText, pEnts, ha, hd, hn] at hp
        · exact rsnap_b3 R _ a b l1 l3 W hb hm ha hd rfl (by omega)
    · exact rsnap_b1 R a l1 W hb hm (by omega)
end Go.Proofs.Ytehleeibgkpjmag
/- Of one's own: two lists that are copied in whatever order; a snapshot that is put behind all. -/
namespace Go.Proofs.Ytehleeibgkpjmag
open Go.RowKit Go.Shelf
set_option maxRecDepth 20000
set_option linter.unusedVariables false

abbrev e3 : Obj := .cells #[] 3
structure CpI (w1 : World) (xs ys : List Int) (a b : Option Value) (W : World) : Prop where
  bel : Below w1.heap.size w1 W
  ra : ∀ v, a = some v → W.ownsRow w1.heap.size 3 1 v xs.length (ints xs)
  rb : ∀ v, b = some v → W.ownsRow w1.heap.size 3 1 v ys.length (ints ys)
  ap : ∀ v u, a = some v → b = some u → ∀ g, v.ownBlock = some g → u.ownBlock ≠ some g
theorem CpI.zero (w1 : World) (xs ys : List Int) : CpI w1 xs ys none none w1 := ⟨Below.refl _ _, fun v h => by (cases h), fun v h => by (cases h), fun v u h => by (cases h)⟩
theorem CpI.alloc {w1 : World} {xs ys : List Int} {a b : Option Value} {W : World} (h : CpI w1 xs ys a b W) (o : Obj) : CpI w1 xs ys a b (W.alloc o) :=
  ⟨h.bel.alloc h.bel.size o, fun v e => (h.ra v e).alloc o, fun v e => (h.rb v e).alloc o, h.ap⟩
theorem CpI.drew {w1 : World} {xs ys : List Int} {a b : Option Value} {W : World} (h : CpI w1 xs ys a b W) : CpI w1 xs ys a b W.drew :=
  ⟨h.bel.drew, fun v e => (h.ra v e).drew, fun v e => (h.rb v e).drew, h.ap⟩
end Go.Proofs.Ytehleeibgkpjmag
/- An image of one's own, as the document makes it: a table that has no entry may be whatever slice there was; all other lists lie in rows of their own, in memory that came since B. -/
namespace Go.Proofs.Ytehleeibgkpjmag
open Go.RowKit Go.Shelf
set_option maxRecDepth 20000
set_option linter.unusedVariables false

abbrev tbl (m : ImgD) (j : Nat) : List Int := (m.slots.getD j default).2.2
def LiveX (m : ImgD) (a : Nm) : Prop := (a.kind < 4 ∧ a.ix = 0) ∨ (a.kind = 4 ∧ a.ix < m.slots.length ∧ tbl m a.ix ≠ []) ∨ (a.kind = 5 ∧ a.ix < m.snaps.length)
theorem LiveX.cases {m : ImgD} {a : Nm} (h : LiveX m a) : a = .root ∨ a = .slots ∨ a = .refs ∨ a = .snaps ∨ (∃ j, a = .tab j ∧ j < m.slots.length ∧ tbl m j ≠ []) ∨ ∃ j, a = .sr j ∧ j < m.snaps.length := by
  obtain ⟨k, j⟩ := a
  rcases h with ⟨h1, h2⟩ | ⟨h1, h2⟩ | ⟨h1, h2⟩
  · dsimp only at h1 h2
    subst h2
    match k, h1 with
    | 0, _ => exact .inl rfl
    | 1, _ => exact .inr (.inl rfl)
    | 2, _ => exact .inr (.inr (.inl rfl))
    | 3, _ => exact .inr (.inr (.inr (.inl rfl)))
  · dsimp only at h1 h2; subst h1; exact .inr (.inr (.inr (.inr (.inl ⟨j, rfl, h2⟩))))
  · dsimp only at h1 h2; subst h1; exact .inr (.inr (.inr (.inr (.inr ⟨j, rfl, h2⟩))))
theorem LiveX.root (m : ImgD) : LiveX m .root := .inl ⟨by decide, rfl⟩
theorem LiveX.slots (m : ImgD) : LiveX m .slots := .inl ⟨by decide, rfl⟩
theorem LiveX.refs (m : ImgD) : LiveX m .refs := .inl ⟨by decide, rfl⟩
theorem LiveX.snaps (m : ImgD) : LiveX m .snaps := .inl ⟨by decide, rfl⟩
theorem LiveX.tab {m : ImgD} {j : Nat} (h : j < m.slots.length ∧ tbl m j ≠ []) : LiveX m (.tab j) := .inr (.inl ⟨rfl, h⟩)
theorem LiveX.sr {m : ImgD} {j : Nat} (h : j < m.snaps.length) : LiveX m (.sr j) := .inr (.inr ⟨rfl, h⟩)
theorem liveX_iff {m m' : ImgD} (h1 : m'.slots.length = m.slots.length) (h2 : m'.snaps.length = m.snaps.length) (h3 : ∀ j, tbl m' j = [] ↔ tbl m j = []) (b : Nm) : LiveX m' b ↔ LiveX m b := by
  unfold LiveX
  rw [h1, h2, ne_eq, ne_eq, h3]
theorem LiveX.live {m : ImgD} {a : Nm} (h : LiveX m a) : Live m a := by
  rcases h with h | h | h
  · exact .inl h
  · exact .inr (.inl ⟨h.1, h.2.1⟩)
  · exact .inr (.inr h)
structure OX (W : World) (B : Nat) (val : Nm → Value) (m : ImgD) : Prop where
  row : ∀ a, LiveX m a → W.ownsRow B (rowT a) (rowS a) (val a) (rowN m a) (rowV m val a)
  apart : ∀ a b, LiveX m a → LiveX m b → a ≠ b → ∀ g, (val a).ownBlock = some g → (val b).ownBlock ≠ some g
  loose : ∀ j, j < m.slots.length → tbl m j = [] → ∃ ao cap, val (.tab j) = .slice ao 0 cap
theorem OX.keep {W W' : World} {B : Nat} {val : Nm → Value} {m : ImgD} (h : OX W B val m) (hk : ∀ g, B ≤ g → g < W.heap.size → W'.heap[g]? = W.heap[g]?) : OX W' B val m := by
  refine ⟨fun a ha => ?_, h.apart, h.loose⟩
  have hr := h.row a ha
  refine ⟨hr.1, ?_⟩
  rcases hr.2 with hn | ⟨g, cap, cur, hv, hb, hg, rest⟩
  · exact .inl hn
  · exact .inr ⟨g, cap, cur, hv, hb, (hk g hb (Array.getElem?_eq_some_iff.1 hg).1).trans hg, rest⟩
theorem OX.below {W W' : World} {B : Nat} {val : Nm → Value} {m : ImgD} (h : OX W B val m) (hb : Below W.heap.size W W') : OX W' B val m := h.keep fun g _ hg => hb.block g hg
theorem OX.alloc {W : World} {B : Nat} {val : Nm → Value} {m : ImgD} (h : OX W B val m) (o : Obj) : OX (W.alloc o) B val m := h.below ((Below.refl _ _).alloc (Nat.le_refl _) o)
theorem OX.drew {W : World} {B : Nat} {val : Nm → Value} {m : ImgD} (h : OX W B val m) : OX W.drew B val m := ⟨fun a ha => (h.row a ha).drew, h.apart, h.loose⟩

theorem OX.mono {W : World} {B B' : Nat} {val : Nm → Value} {m : ImgD} (h : OX W B val m) (hb : B' ≤ B) : OX W B' val m := by
  refine ⟨fun a ha => ?_, h.apart, h.loose⟩
  have hr := h.row a ha
  refine ⟨hr.1, ?_⟩
  rcases hr.2 with hn | ⟨g, cap, cur, hv, hg, rest⟩
  · exact .inl hn
  · exact .inr ⟨g, cap, cur, hv, Nat.le_trans hb hg, rest⟩
theorem OX.tabSl {W : World} {B : Nat} {val : Nm → Value} {m : ImgD} (h : OX W B val m) {j : Nat} (hj : j < m.slots.length) : Sl W (val (.tab j)) (tbl m j) := by
  by_cases e : tbl m j = []
  · obtain ⟨ao, cap, ev⟩ := h.loose j hj e
    rw [ev, e]
    exact ⟨ao, cap, rfl, Nat.zero_le _, Nat.zero_le _, fun x => absurd rfl x⟩
  · exact row_sl (h.row (.tab j) (LiveX.tab ⟨hj, e⟩))
theorem OX.img {W : World} {B : Nat} {val : Nm → Value} {m : ImgD} (h : OX W B val m) : Img W (imgV m.guest val) m :=
  ⟨_, _, _, _, rfl, row_sl (h.row .root (LiveX.root m)), row_slots (h.row .slots (LiveX.slots m)) (fun j hj => h.tabSl hj), row_sl (h.row .refs (LiveX.refs m)), row_snaps (h.row .snaps (LiveX.snaps m)) (fun j hj => row_sl (h.row (.sr j) (LiveX.sr hj)))⟩
def FarX (m : ImgD) (val : Nm → Value) (a : Nm) (v : Value) : Prop := ∀ b, LiveX m b → b ≠ a → ∀ g, v.ownBlock = some g → (val b).ownBlock ≠ some g
theorem farX_new {W : World} {B : Nat} {val : Nm → Value} {m : ImgD} (h : OX W B val m) (a : Nm) {v : Value} (hv : ∀ g, v.ownBlock = some g → W.heap.size ≤ g) : FarX m val a v := fun b hb _ g hg e => by
  have := ((h.row b hb).lt g e).2
  have := hv g hg
  omega
theorem OX.swap {W : World} {B : Nat} {val : Nm → Value} {m m' : ImgD} (h : OX W B val m) {a : Nm} (ha : LiveX m a) {v : Value} (hv : W.ownsRow B (rowT a) (rowS a) v (rowN m' a) (rowV m' (upd val a v) a)) (hfar : FarX m val a v)
    (hlive : ∀ b, LiveX m' b ↔ LiveX m b) (hsame : ∀ b, LiveX m b → b ≠ a → rowN m' b = rowN m b ∧ rowV m' (upd val a v) b = rowV m val b) (hloose : ∀ j, j < m'.slots.length → tbl m' j = [] → a ≠ .tab j ∧ j < m.slots.length ∧ tbl m j = []) : OX W B (upd val a v) m' := by
  refine ⟨fun b hb => ?_, fun b c hb hc hne g hg => ?_, fun j hj e => by obtain ⟨h1, h2, h3⟩ := hloose j hj e; rw [upd_other val v (fun x => h1 x.symm)]; exact h.loose j h2 h3⟩
  · have hb := (hlive b).1 hb
    by_cases e : b = a
    · subst e; rw [upd_same]; exact hv
    · rw [upd_other val v e, (hsame b hb e).1, (hsame b hb e).2]; exact h.row b hb
  · have hb := (hlive b).1 hb
    have hc := (hlive c).1 hc
    by_cases e : b = a
    · subst e
      rw [upd_same] at hg
      rw [upd_other val v (fun x => hne x.symm)]
      exact hfar c hc (fun x => hne x.symm) g hg
    · rw [upd_other val v e] at hg
      by_cases e2 : c = a
      · subst e2
        rw [upd_same]
        exact fun x => hfar b hb e g x hg
      · rw [upd_other val v e2]; exact h.apart b c hb hc hne g hg
theorem OX.swapRoot {W : World} {B : Nat} {val : Nm → Value} {m : ImgD} (h : OX W B val m) {v : Value} {r : List Int} (hv : W.ownsRow B 3 1 v r.length (ints r)) (hfar : FarX m val .root v) (g : Int) : OX W B (upd val .root v) { m with guest := g, root := r } := by
  refine h.swap (a := .root) (LiveX.root m) hv hfar (liveX_iff rfl rfl fun _ => Iff.rfl) (fun b hb hne => ?_) (fun j hj e => ⟨(by intro x; cases x), hj, e⟩)
  rcases hb.cases with rfl | rfl | rfl | rfl | ⟨j, rfl, hj⟩ | ⟨j, rfl, hj⟩ <;> first | exact ⟨rfl, rfl⟩ | exact absurd rfl hne
theorem OX.swapRefs {W : World} {B : Nat} {val : Nm → Value} {m : ImgD} (h : OX W B val m) {v : Value} {r : List Int} (hv : W.ownsRow B 3 1 v r.length (ints r)) (hfar : FarX m val .refs v) : OX W B (upd val .refs v) { m with refs := r } := by
  refine h.swap (a := .refs) (LiveX.refs m) hv hfar (liveX_iff rfl rfl fun _ => Iff.rfl) (fun b hb hne => ?_) (fun j hj e => ⟨(by intro x; cases x), hj, e⟩)
  rcases hb.cases with rfl | rfl | rfl | rfl | ⟨j, rfl, hj⟩ | ⟨j, rfl, hj⟩ <;> first | exact ⟨rfl, rfl⟩ | exact absurd rfl hne

theorem OX.addSlot {W W' : World} {B : Nat} {val : Nm → Value} {m : ImgD} (h : OX W B val m) {k : Int} {d : ByteArray} {es : List Int} {ev sv : Value} (hev : es ≠ [] → W.ownsRow B 3 1 ev es.length (ints es)) (hev0 : es = [] → ∃ ao cap, ev = .slice ao 0 cap) (hfar : es ≠ [] → FarX m val (.tab m.slots.length) ev)
    (hgrow : W.grownBy W' (val .slots).ownBlock) (hrow : W'.ownsRow B 60 3 sv (m.slots.length + 1) (flatS m.slots (fun j => val (.tab j)) ++ [.int .i64 k, .string d, ev])) (hblk : sv.ownBlock = (val .slots).ownBlock ∨ ∀ g, sv.ownBlock = some g → W.heap.size ≤ g) :
    OX W' B (upd (upd val (.tab m.slots.length) ev) .slots sv) { m with slots := m.slots ++ [(k, d, es)] } := by
  have hval : ∀ b, b ≠ .slots → b ≠ .tab m.slots.length → upd (upd val (.tab m.slots.length) ev) .slots sv b = val b := fun b h1 h2 => by rw [upd_other _ sv h1, upd_other _ ev h2]
  have hvs : upd (upd val (.tab m.slots.length) ev) .slots sv .slots = sv := upd_same _ _ _
  have hvt : upd (upd val (.tab m.slots.length) ev) .slots sv (.tab m.slots.length) = ev := by rw [upd_other _ sv (by intro x; cases x), upd_same]
  have hcase : ∀ b, LiveX { m with slots := m.slots ++ [(k, d, es)] } b → b = .slots ∨ (b = .tab m.slots.length ∧ es ≠ []) ∨ (LiveX m b ∧ b ≠ .slots ∧ b ≠ .tab m.slots.length) := fun b hb => by
    rcases hb.cases with rfl | rfl | rfl | rfl | ⟨j, rfl, hj⟩ | ⟨j, rfl, hj⟩
    · exact .inr (.inr ⟨LiveX.root m, (by intro x; cases x), (by intro x; cases x)⟩)
    · exact .inl rfl
    · exact .inr (.inr ⟨LiveX.refs m, (by intro x; cases x), (by intro x; cases x)⟩)
    · exact .inr (.inr ⟨LiveX.snaps m, (by intro x; cases x), (by intro x; cases x)⟩)
    · obtain ⟨hj, hjn⟩ := hj
      by_cases e : j = m.slots.length
      · subst e
        refine .inr (.inl ⟨rfl, ?_⟩)
        have hjn : ((m.slots ++ [(k, d, es)]).getD m.slots.length default).2.2 ≠ [] := hjn
        simpa [List.getD] using hjn
      · have hjl : j < m.slots.length := by simp at hj; omega
        refine .inr (.inr ⟨LiveX.tab ⟨hjl, ?_⟩, (by intro x; cases x), ?_⟩)
        · have hjn : ((m.slots ++ [(k, d, es)]).getD j default).2.2 ≠ [] := hjn
          have e : (m.slots ++ [(k, d, es)]).getD j default = m.slots.getD j default := by simp [List.getD, List.getElem?_append, hjl]
          rwa [e] at hjn
        · intro x; apply e; injection x
    · exact .inr (.inr ⟨LiveX.sr hj, (by intro x; cases x), (by intro x; cases x)⟩)
  have hnot : ∀ b, LiveX m b → b ≠ .slots → (val b).ownBlock = none ∨ (val b).ownBlock ≠ (val .slots).ownBlock := fun b hb hne => by
    cases hg : (val b).ownBlock with
    | none => exact .inl rfl
    | some g => exact .inr (fun x => h.apart b .slots hb (LiveX.slots m) hne g hg x.symm)
  have hevn : es ≠ [] → ev.ownBlock = none ∨ ev.ownBlock ≠ (val .slots).ownBlock := fun hne => by
    cases hg : ev.ownBlock with
    | none => exact .inl rfl
    | some g => exact .inr (fun x => hfar hne .slots (LiveX.slots m) (by intro y; cases y) g hg x.symm)
  have hsvfar : ∀ b, LiveX m b → b ≠ .slots → ∀ g, sv.ownBlock = some g → (val b).ownBlock ≠ some g := fun b hb hne g hg hx => by
    rcases hblk with e | e
    · rw [e] at hg; exact h.apart b .slots hb (LiveX.slots m) hne g hx hg
    · have := ((h.row b hb).lt g hx).2
      have := e g hg
      omega
  have hsvev : es ≠ [] → ∀ g, sv.ownBlock = some g → ev.ownBlock ≠ some g := fun hne g hg hx => by
    rcases hblk with e | e
    · rw [e] at hg; exact hfar hne .slots (LiveX.slots m) (by intro y; cases y) g hx hg
    · have := ((hev hne).lt g hx).2
      have := e g hg
      omega
  refine ⟨fun b hb => ?_, fun b c hb hc hne q hq => ?_, fun j hj e => ?_⟩
  · rcases hcase b hb with rfl | ⟨rfl, hes⟩ | ⟨hb', h1, h2⟩
    · rw [hvs]
      have e1 : rowV { m with slots := m.slots ++ [(k, d, es)] } (upd (upd val (.tab m.slots.length) ev) .slots sv) .slots = flatS m.slots (fun j => val (.tab j)) ++ [.int .i64 k, .string d, ev] := by
        have := flatS_snoc m.slots (fun j => val (.tab j)) (fun j => upd (upd val (.tab m.slots.length) ev) .slots sv (.tab j)) (k, d, es) (fun j hj => hval _ (by intro x; cases x) (by intro x; injection x with _ x; omega))
        rw [hvt] at this
        exact this
      have e2 : rowN { m with slots := m.slots ++ [(k, d, es)] } .slots = m.slots.length + 1 := by show (m.slots ++ [(k, d, es)]).length = _; simp
      rw [e1, e2]; exact hrow
    · rw [hvt]
      have e0 : (m.slots ++ [(k, d, es)]).getD m.slots.length default = (k, d, es) := by simp [List.getD]
      have e1 : rowV { m with slots := m.slots ++ [(k, d, es)] } (upd (upd val (.tab m.slots.length) ev) .slots sv) (.tab m.slots.length) = ints es := by
        show ints ((m.slots ++ [(k, d, es)]).getD m.slots.length default).2.2 = _
        rw [e0]
      have e2 : rowN { m with slots := m.slots ++ [(k, d, es)] } (.tab m.slots.length) = es.length := by
        show ((m.slots ++ [(k, d, es)]).getD m.slots.length default).2.2.length = _
        rw [e0]
      rw [e1, e2]
      exact (hev hes).kept hgrow (hevn hes)
    · rw [hval b h1 h2]
      have e1 : rowV { m with slots := m.slots ++ [(k, d, es)] } (upd (upd val (.tab m.slots.length) ev) .slots sv) b = rowV m val b ∧ rowN { m with slots := m.slots ++ [(k, d, es)] } b = rowN m b := by
        rcases hb'.cases with rfl | rfl | rfl | rfl | ⟨j, rfl, hj⟩ | ⟨j, rfl, hj⟩
        · exact ⟨rfl, rfl⟩
        · exact absurd rfl h1
        · exact ⟨rfl, rfl⟩
        · refine ⟨?_, rfl⟩
          show flatN m.snaps _ = flatN m.snaps _
          unfold flatN
          refine congrArg List.flatten (List.map_congr_left fun j _ => ?_)
          dsimp only
          rw [hval (.sr j) (by intro x; cases x) (by intro x; cases x)]
        · have e : (m.slots ++ [(k, d, es)]).getD j default = m.slots.getD j default := by simp [List.getD, List.getElem?_append, hj.1]
          constructor
          · show ints ((m.slots ++ [(k, d, es)]).getD j default).2.2 = _
            rw [e]; rfl
          · show ((m.slots ++ [(k, d, es)]).getD j default).2.2.length = _
            rw [e]; rfl
        · exact ⟨rfl, rfl⟩
      rw [e1.1, e1.2]
      exact (h.row b hb').kept hgrow (hnot b hb' h1)
  · rcases hcase b hb with rfl | ⟨rfl, hes⟩ | ⟨hb', h1, h2⟩
    · rw [hvs] at hq
      rcases hcase c hc with rfl | ⟨rfl, hes2⟩ | ⟨hc', g1, g2⟩
      · exact absurd rfl hne
      · rw [hvt]; exact hsvev hes2 q hq
      · rw [hval c g1 g2]; exact hsvfar c hc' g1 q hq
    · rw [hvt] at hq
      rcases hcase c hc with rfl | ⟨rfl, hes2⟩ | ⟨hc', g1, g2⟩
      · rw [hvs]; exact fun x => hsvev hes q x hq
      · exact absurd rfl hne
      · rw [hval c g1 g2]; exact hfar hes c hc' g2 q hq
    · rw [hval b h1 h2] at hq
      rcases hcase c hc with rfl | ⟨rfl, hes2⟩ | ⟨hc', g1, g2⟩
      · rw [hvs]; exact fun x => hsvfar b hb' h1 q x hq
      · rw [hvt]; exact fun x => hfar hes2 b hb' h2 q x hq
      · rw [hval c g1 g2]; exact h.apart b c hb' hc' hne q hq
  · have hj : j < (m.slots ++ [(k, d, es)]).length := hj
    have e : ((m.slots ++ [(k, d, es)]).getD j default).2.2 = [] := e
    by_cases ej : j = m.slots.length
    · subst ej
      rw [hvt]
      exact hev0 (by simpa [List.getD] using e)
    · have hjl : j < m.slots.length := by simp at hj; omega
      have e2 : (m.slots ++ [(k, d, es)]).getD j default = m.slots.getD j default := by simp [List.getD, List.getElem?_append, hjl]
      rw [hval _ (by intro x; cases x) (by intro x; injection x with _ x; exact ej x)]
      exact h.loose j hjl (by rw [e2] at e; exact e)
theorem flatN_snoc (L : List SnapD) (tv tv' : Nat → Value) (s : SnapD) (htv : ∀ j, j < L.length → tv' j = tv j) : flatN (L ++ [s]) tv' = flatN L tv ++ [.string s.1, .int .i64 s.2.1, tv' L.length] := by
  unfold flatN
  rw [List.length_append, List.length_singleton, List.range_succ, List.flatMap_append]
  have e1 : (List.range L.length).flatMap (fun j => [Value.string ((L ++ [s]).getD j default).1, .int .i64 ((L ++ [s]).getD j default).2.1, tv' j]) = (List.range L.length).flatMap (fun j => [Value.string (L.getD j default).1, .int .i64 (L.getD j default).2.1, tv j]) := by
    refine congrArg List.flatten (List.map_congr_left fun j hj => ?_)
    have hj := List.mem_range.1 hj
    have e : (L ++ [s]).getD j default = L.getD j default := by simp [List.getD, List.getElem?_append, hj]
    rw [e, htv j hj]
  rw [e1]
  simp
theorem OX.addSnap {W W' : World} {B : Nat} {val : Nm → Value} {m : ImgD} (h : OX W B val m) {k : Int} {d : ByteArray} {es : List Int} {ev sv : Value} (hev : W.ownsRow B 3 1 ev es.length (ints es)) (hfar : FarX m val (.sr m.snaps.length) ev)
    (hgrow : W.grownBy W' (val .snaps).ownBlock) (hrow : W'.ownsRow B 74 3 sv (m.snaps.length + 1) (flatN m.snaps (fun j => val (.sr j)) ++ [.string d, .int .i64 k, ev])) (hblk : sv.ownBlock = (val .snaps).ownBlock ∨ ∀ g, sv.ownBlock = some g → W.heap.size ≤ g) :
    OX W' B (upd (upd val (.sr m.snaps.length) ev) .snaps sv) { m with snaps := m.snaps ++ [(d, k, es)] } := by
  have hval : ∀ b, b ≠ .snaps → b ≠ .sr m.snaps.length → upd (upd val (.sr m.snaps.length) ev) .snaps sv b = val b := fun b h1 h2 => by rw [upd_other _ sv h1, upd_other _ ev h2]
  have hvs : upd (upd val (.sr m.snaps.length) ev) .snaps sv .snaps = sv := upd_same _ _ _
  have hvt : upd (upd val (.sr m.snaps.length) ev) .snaps sv (.sr m.snaps.length) = ev := by rw [upd_other _ sv (by intro x; cases x), upd_same]
  have hcase : ∀ b, LiveX { m with snaps := m.snaps ++ [(d, k, es)] } b → b = .snaps ∨ b = .sr m.snaps.length ∨ (LiveX m b ∧ b ≠ .snaps ∧ b ≠ .sr m.snaps.length) := fun b hb => by
    rcases hb.cases with rfl | rfl | rfl | rfl | ⟨j, rfl, hj⟩ | ⟨j, rfl, hj⟩
    · exact .inr (.inr ⟨LiveX.root m, (by intro x; cases x), (by intro x; cases x)⟩)
    · exact .inr (.inr ⟨LiveX.slots m, (by intro x; cases x), (by intro x; cases x)⟩)
    · exact .inr (.inr ⟨LiveX.refs m, (by intro x; cases x), (by intro x; cases x)⟩)
    · exact .inl rfl
    · exact .inr (.inr ⟨LiveX.tab hj, (by intro x; cases x), (by intro x; cases x)⟩)
    · by_cases e : j = m.snaps.length
      · subst e; exact .inr (.inl rfl)
      · refine .inr (.inr ⟨LiveX.sr (by simp at hj; omega), (by intro x; cases x), ?_⟩)
        intro x; apply e; injection x
  have hnot : ∀ b, LiveX m b → b ≠ .snaps → (val b).ownBlock = none ∨ (val b).ownBlock ≠ (val .snaps).ownBlock := fun b hb hne => by
    cases hg : (val b).ownBlock with
    | none => exact .inl rfl
    | some g => exact .inr (fun x => h.apart b .snaps hb (LiveX.snaps m) hne g hg x.symm)
  have hevn : ev.ownBlock = none ∨ ev.ownBlock ≠ (val .snaps).ownBlock := by
    cases hg : ev.ownBlock with
    | none => exact .inl rfl
    | some g => exact .inr (fun x => hfar .snaps (LiveX.snaps m) (by intro y; cases y) g hg x.symm)
  have hsvfar : ∀ b, LiveX m b → b ≠ .snaps → ∀ g, sv.ownBlock = some g → (val b).ownBlock ≠ some g := fun b hb hne g hg hx => by
    rcases hblk with e | e
    · rw [e] at hg; exact h.apart b .snaps hb (LiveX.snaps m) hne g hx hg
    · have := ((h.row b hb).lt g hx).2
      have := e g hg
      omega
  have hsvev : ∀ g, sv.ownBlock = some g → ev.ownBlock ≠ some g := fun g hg hx => by
    rcases hblk with e | e
    · rw [e] at hg; exact hfar .snaps (LiveX.snaps m) (by intro y; cases y) g hx hg
    · have := (hev.lt g hx).2
      have := e g hg
      omega
  refine ⟨fun b hb => ?_, fun b c hb hc hne q hq => ?_, fun j hj e => by rw [hval _ (by intro x; cases x) (by intro x; cases x)]; exact h.loose j hj e⟩
  · rcases hcase b hb with rfl | rfl | ⟨hb', h1, h2⟩
    · rw [hvs]
      have e1 : rowV { m with snaps := m.snaps ++ [(d, k, es)] } (upd (upd val (.sr m.snaps.length) ev) .snaps sv) .snaps = flatN m.snaps (fun j => val (.sr j)) ++ [.string d, .int .i64 k, ev] := by
        have := flatN_snoc m.snaps (fun j => val (.sr j)) (fun j => upd (upd val (.sr m.snaps.length) ev) .snaps sv (.sr j)) (d, k, es) (fun j hj => hval _ (by intro x; cases x) (by intro x; injection x with _ x; omega))
        rw [hvt] at this
        exact this
      have e2 : rowN { m with snaps := m.snaps ++ [(d, k, es)] } .snaps = m.snaps.length + 1 := by show (m.snaps ++ [(d, k, es)]).length = _; simp
      rw [e1, e2]; exact hrow
    · rw [hvt]
      have e0 : (m.snaps ++ [(d, k, es)]).getD m.snaps.length default = (d, k, es) := by simp [List.getD]
      have e1 : rowV { m with snaps := m.snaps ++ [(d, k, es)] } (upd (upd val (.sr m.snaps.length) ev) .snaps sv) (.sr m.snaps.length) = ints es := by
        show ints ((m.snaps ++ [(d, k, es)]).getD m.snaps.length default).2.2 = _
        rw [e0]
      have e2 : rowN { m with snaps := m.snaps ++ [(d, k, es)] } (.sr m.snaps.length) = es.length := by
        show ((m.snaps ++ [(d, k, es)]).getD m.snaps.length default).2.2.length = _
        rw [e0]
      rw [e1, e2]
      exact hev.kept hgrow hevn
    · rw [hval b h1 h2]
      have e1 : rowV { m with snaps := m.snaps ++ [(d, k, es)] } (upd (upd val (.sr m.snaps.length) ev) .snaps sv) b = rowV m val b ∧ rowN { m with snaps := m.snaps ++ [(d, k, es)] } b = rowN m b := by
        rcases hb'.cases with rfl | rfl | rfl | rfl | ⟨j, rfl, hj⟩ | ⟨j, rfl, hj⟩
        · exact ⟨rfl, rfl⟩
        · refine ⟨?_, rfl⟩
          show flatS m.slots _ = flatS m.slots _
          unfold flatS
          refine congrArg List.flatten (List.map_congr_left fun j _ => ?_)
          dsimp only
          rw [hval (.tab j) (by intro x; cases x) (by intro x; cases x)]
        · exact ⟨rfl, rfl⟩
        · exact absurd rfl h1
        · exact ⟨rfl, rfl⟩
        · have e : (m.snaps ++ [(d, k, es)]).getD j default = m.snaps.getD j default := by simp [List.getD, List.getElem?_append, hj]
          constructor
          · show ints ((m.snaps ++ [(d, k, es)]).getD j default).2.2 = _
            rw [e]; rfl
          · show ((m.snaps ++ [(d, k, es)]).getD j default).2.2.length = _
            rw [e]; rfl
      rw [e1.1, e1.2]
      exact (h.row b hb').kept hgrow (hnot b hb' h1)
  · rcases hcase b hb with rfl | rfl | ⟨hb', h1, h2⟩
    · rw [hvs] at hq
      rcases hcase c hc with rfl | rfl | ⟨hc', g1, g2⟩
      · exact absurd rfl hne
      · rw [hvt]; exact hsvev q hq
      · rw [hval c g1 g2]; exact hsvfar c hc' g1 q hq
    · rw [hvt] at hq
      rcases hcase c hc with rfl | rfl | ⟨hc', g1, g2⟩
      · rw [hvs]; exact fun x => hsvev q x hq
      · exact absurd rfl hne
      · rw [hval c g1 g2]; exact hfar c hc' g2 q hq
    · rw [hval b h1 h2] at hq
      rcases hcase c hc with rfl | rfl | ⟨hc', g1, g2⟩
      · rw [hvs]; exact fun x => hsvfar b hb' h1 q x hq
      · rw [hvt]; exact fun x => hfar b hb' h2 q x hq
      · rw [hval c g1 g2]; exact h.apart b c hb' hc' hne q hq

theorem OX.far {W : World} {B : Nat} {val : Nm → Value} {m : ImgD} (h : OX W B val m) {g i : Nat} {u : Value} (hg : ∀ a, LiveX m a → (val a).ownBlock ≠ some g) : OX (W.setCell ⟨g, i, none⟩ u) B val m :=
  ⟨fun a ha => ownsRow_setCell_other (h.row a ha) (hg a ha) u, h.apart, h.loose⟩
theorem OX.lt {W : World} {B : Nat} {val : Nm → Value} {m : ImgD} (h : OX W B val m) {g : Nat} (hg : W.heap.size ≤ g) : ∀ a, LiveX m a → (val a).ownBlock ≠ some g := fun a ha e => by
  have := ((h.row a ha).lt g e).2
  omega

def KeepX (w w' : World) (m : ImgD) (val : Nm → Value) : Prop := ∀ q, q < w.heap.size → (∀ a, LiveX m a → (val a).ownBlock ≠ some q) → w'.heap[q]? = w.heap[q]?
theorem KeepX.refl (w : World) (m : ImgD) (val : Nm → Value) : KeepX w w m val := fun _ _ _ => rfl
theorem KeepX.alloc {w W : World} {m : ImgD} {val : Nm → Value} (h : KeepX w W m val) (hs : w.heap.size ≤ W.heap.size) (o : Obj) : KeepX w (W.alloc o) m val := fun q hq hn => (Below.heap_alloc W o q (by omega)).trans (h q hq hn)
theorem KeepX.own {w W : World} {m : ImgD} {val : Nm → Value} (h : KeepX w W m val) {a : Nm} (ha : LiveX m a) {g n c : Nat} (hg : val a = .slice (some ⟨g, 0, none⟩) n c) {i : Nat} {v : Value} : KeepX w (W.setCell ⟨g, i, none⟩ v) m val := fun q hq hn =>
  (Below.heap_setCell W ⟨g, i, none⟩ v q (fun e => hn a ha (by rw [hg]; exact congrArg some e.symm))).trans (h q hq hn)
theorem KeepX.new {w W : World} {m : ImgD} {val : Nm → Value} (h : KeepX w W m val) {g i : Nat} (hg : w.heap.size ≤ g) {v : Value} : KeepX w (W.setCell ⟨g, i, none⟩ v) m val := fun q hq hn =>
  (Below.heap_setCell W ⟨g, i, none⟩ v q (fun e => by have e : q = g := e; omega)).trans (h q hq hn)
theorem KeepX.grown {w W W' : World} {m : ImgD} {val : Nm → Value} (h : KeepX w W m val) (hs : w.heap.size ≤ W.heap.size) {a : Nm} (ha : LiveX m a) {v : Value} (hv : val a = v) (hg : W.grownBy W' v.ownBlock) : KeepX w W' m val := fun q hq hn =>
  (hg.block q (by omega) (fun e => hn a ha (by rw [hv]; exact e.symm))).trans (h q hq hn)
theorem KeepX.below {w W W' : World} {m : ImgD} {val : Nm → Value} (h : KeepX w W m val) {n : Nat} (hs : w.heap.size ≤ n) (hg : Below n W W') : KeepX w W' m val := fun q hq hn => (hg.block q (by omega)).trans (h q hq hn)

theorem OX.forms {W : World} {B : Nat} {val : Nm → Value} {m : ImgD} (h : OX W B val m) (a : Nm) (ha : LiveX m a) : ∃ ao cap, val a = .slice ao (rowN m a) cap ∧ (0 < rowN m a → ∃ g, ao = some ⟨g, 0, none⟩) := by
  rcases row_form (h.row a ha) with ⟨e, hn⟩ | ⟨g, cap, e, _⟩
  · exact ⟨none, 0, by rw [e, hn], fun hp => absurd hp (by omega)⟩
  · exact ⟨_, cap, e, fun _ => ⟨g, rfl⟩⟩
end Go.Proofs.Ytehleeibgkpjmag
