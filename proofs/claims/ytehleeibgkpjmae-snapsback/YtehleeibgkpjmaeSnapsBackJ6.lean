/- Texts joined: ShelfC, SnF, SnG, SnV, SnW, Strs, FlPlain, WrR, WrA. -/
import Derived.Shelf.Strings.Builder1
import Derived.Shelf.Strings.Builder2
import Derived.Shelf.Small.Strs
import Derived.Shelf.Strings.BuilderF
import Derived.Shelf.Strings.Prefix
import Derived.Shelf.Bits.Mul64
import Derived.Shelf.Strings.Repeat
import Derived.Test.YtehleeibgkpjmaeProg
import Derived.Test.YtehleeibgkpjmaeSnapsBackJ1
import Derived.Test.YtehleeibgkpjmaeSnapsBackJ4
import Derived.Test.YtehleeibgkpjmaeSnapsBackJ5
import Derived.Test.YtehleeibgkpjmaeSnapsBackJ3
/- The library's contracts that are used here, at this program: strings.Repeat, strings.Join. -/
namespace Go.Proofs
open Go.Shelf
def Try.lays106_ren : Go.Shelf.Ren := ⟨fun | 106 => 67 | 213 => 90 | 265 => 109 | n => n, fun | 9 => 9 | 3 => 3 | n => n, fun | n => n⟩
theorem Try.lays106 : Go.Proofs.Lays.n106 Try.prog Try.lays106_ren := {
  mixed := by kernel_rfl
  f106 := Try.func67.trans (congrArg some (by kernel_rfl))
  f213 := Try.func90.trans (congrArg some (by kernel_rfl))
  f265 := Try.func109.trans (congrArg some (by kernel_rfl))
  t3 := Try.underlying3
  a3 := Try.isAgg3
  z3 := Try.sizeOf3
  v3 := Try.zeroValue3
  t9 := Try.underlying9
  a9 := Try.isAgg9
  z9 := Try.sizeOf9
  v9 := Try.zeroValue9 }
open Go.RowKit in
theorem Try.strings_Compare (a b : ByteArray) (w : World) :
    Calls Try.prog 67 #[.string a, .string b] w fun e w' => e = .returned (.int .i64 (Lib.compareBytes a.data.toList b.data.toList)) ∧ w' = w := Any.strings_Compare Try.lays106 a b w
end Go.Proofs
/- Contracts of the program's snaps: the comparison that find hands on. -/
namespace Go.Proofs.Ytehleeibgkpjmae
open Go.RowKit Go.Shelf
set_option maxRecDepth 20000
set_option linter.unusedVariables false
set_option linter.unusedSimpArgs false

theorem findCmp_is (a nm : ByteArray) (g : Int) (ra : Option Addr) (rn rc : Nat) (w : World) :
    Calls Try.prog 66 #[.agg #[.string a, .int .i64 g, .slice ra rn rc], .string nm] w fun r w' => r = .returned (.int .i64 (Lib.compareBytes a.data.toList nm.data.toList)) ∧ Below w.heap.size w w' := by
  have b0 : Below w.heap.size w (w.alloc (.cells #[.string a, .int .i64 g, .slice ra rn rc] 64)) := (Below.refl _ _).alloc (Nat.le_refl _) _
  go_enter Try.func66, Try.ntmps66
  go_wp2_with (go_at_call 67; refine (Try.strings_Compare _ _ _).mono ?_; rintro e w' ⟨rfl, hw⟩; rw [hw]; clear hw)
  go_ret
  exact ⟨rfl, b0⟩




set_option maxHeartbeats 4000000 in
theorem bsearch_at (b off cap n k : Nat) (nm : ByteArray) (c : Nat → Int) (w : World) (h3 : n ≤ 3) (hlt : b < w.heap.size) (HC : Hid (∀ j, j < n → ∃ (a : ByteArray) (g : Int) (ra : Option Addr) (rn rc : Nat), w.cell? ⟨b, off + j * 3, none⟩ = some (.string a) ∧ w.cell? ⟨b, off + j * 3 + 1, none⟩ = some (.int .i64 g) ∧ w.cell? ⟨b, off + j * 3 + 1 + 1, none⟩ = some (.slice ra rn rc) ∧ Lib.compareBytes a.data.toList nm.data.toList = c j))
    (hk : k ≤ n) (HL : Hid (∀ j, j < n → (c j < 0 ↔ j < k))) :
    Calls Try.prog 65 #[.slice (some ⟨b, off, none⟩) n cap, .string nm, .func (.func 66) #[] #[]] w fun r w' => r = .returned (.tuple #[.int .i64 (k : Int), .bool (decide (k < n) && c k == 0)]) ∧ Below w.heap.size w w' := by
  go_enter Try.func65, Try.ntmps65
  go_wp2_with fail
  go_loopw [9, 10, 11] (fun s9 s10 _ wr => ∃ i j : Nat, s9 = .int .i64 i ∧ s10 = .int .i64 j ∧ i ≤ k ∧ k ≤ j ∧ j ≤ n ∧ Below w.heap.size w wr) (fun s9 s10 _ _ => (intOf s10).toNat - (intOf s9).toNat)
  case atStart => exact ⟨0, n, rfl, rfl, Nat.zero_le _, hk, Nat.le_refl _, Below.refl _ _⟩
  case round =>
    obtain ⟨i, j, rfl, rfl, hi, hj, hjn, hbel⟩ := hrel
    by_cases hlt2 : i < j
    · have hcase : (i = 0 ∧ j = 1) ∨ (i = 0 ∧ j = 2) ∨ (i = 0 ∧ j = 3) ∨ (i = 1 ∧ j = 2) ∨ (i = 1 ∧ j = 3) ∨ (i = 2 ∧ j = 3) := by omega
      rcases hcase with ⟨rfl, rfl⟩ | ⟨rfl, rfl⟩ | ⟨rfl, rfl⟩ | ⟨rfl, rfl⟩ | ⟨rfl, rfl⟩ | ⟨rfl, rfl⟩
      · obtain ⟨a, g, ra, rn, rc, k0, k1, k2, hcc⟩ := HC.out 0 (by omega)
        have k0 := (hbel.cell (p := ⟨b, off + 0 * 3, none⟩) hlt).trans k0
        have k1 := (hbel.cell (p := ⟨b, off + 0 * 3 + 1, none⟩) hlt).trans k1
        have k2 := (hbel.cell (p := ⟨b, off + 0 * 3 + 1 + 1, none⟩) hlt).trans k2
        simp only [Nat.reduceMul, Nat.add_assoc, Nat.reduceAdd, Nat.add_zero] at k0 k1 k2
        have hn0 : ((0 : Nat) : Int) < (n : Int) := by omega
        have hnn : (0 : Int) < (n : Int) := by omega
        have hL := HL.out 0 (by omega)
        have hcall := fun W => findCmp_is a nm g ra rn rc W
        rw [hcc] at hcall
        clear hcc
        generalize c 0 = ch at hcall hL
        by_cases hs : ch < 0
        · have hs1 : decide (ch < 0) = true := by simpa using hs
          have hk2 := hL.1 hs
          clear hL
          go_wp2_with (go_at_call 66; refine (hcall _).mono ?_; rintro e w1 ⟨rfl, b1⟩)
          go_roundw
          case rel => exact ⟨1, 1, by go_num, by go_num, hk2, hj, hjn, Below.on hbel b1⟩
          case measure => simp [intOf]
        · have hs1 : decide (ch < 0) = false := by simpa using hs
          have hk2 : k ≤ 0 := by have := fun x => hs (hL.2 x); omega
          clear hL
          go_wp2_with (go_at_call 66; refine (hcall _).mono ?_; rintro e w1 ⟨rfl, b1⟩)
          go_roundw
          case rel => exact ⟨0, 0, by go_num, by go_num, hi, hk2, by omega, Below.on hbel b1⟩
          case measure => simp [intOf]
      · obtain ⟨a, g, ra, rn, rc, k0, k1, k2, hcc⟩ := HC.out 1 (by omega)
        have k0 := (hbel.cell (p := ⟨b, off + 1 * 3, none⟩) hlt).trans k0
        have k1 := (hbel.cell (p := ⟨b, off + 1 * 3 + 1, none⟩) hlt).trans k1
        have k2 := (hbel.cell (p := ⟨b, off + 1 * 3 + 1 + 1, none⟩) hlt).trans k2
        simp only [Nat.reduceMul, Nat.add_assoc, Nat.reduceAdd, Nat.add_zero] at k0 k1 k2
        have hn1 : ((1 : Nat) : Int) < (n : Int) := by omega
        have hnn : (1 : Int) < (n : Int) := by omega
        have hL := HL.out 1 (by omega)
        have hcall := fun W => findCmp_is a nm g ra rn rc W
        rw [hcc] at hcall
        clear hcc
        generalize c 1 = ch at hcall hL
        by_cases hs : ch < 0
        · have hs1 : decide (ch < 0) = true := by simpa using hs
          have hk2 := hL.1 hs
          clear hL
          go_wp2_with (go_at_call 66; refine (hcall _).mono ?_; rintro e w1 ⟨rfl, b1⟩)
          go_roundw
          case rel => exact ⟨2, 2, by go_num, by go_num, hk2, hj, hjn, Below.on hbel b1⟩
          case measure => simp [intOf]
        · have hs1 : decide (ch < 0) = false := by simpa using hs
          have hk2 : k ≤ 1 := by have := fun x => hs (hL.2 x); omega
          clear hL
          go_wp2_with (go_at_call 66; refine (hcall _).mono ?_; rintro e w1 ⟨rfl, b1⟩)
          go_roundw
          case rel => exact ⟨0, 1, by go_num, by go_num, hi, hk2, by omega, Below.on hbel b1⟩
          case measure => simp [intOf]
      · obtain ⟨a, g, ra, rn, rc, k0, k1, k2, hcc⟩ := HC.out 1 (by omega)
        have k0 := (hbel.cell (p := ⟨b, off + 1 * 3, none⟩) hlt).trans k0
        have k1 := (hbel.cell (p := ⟨b, off + 1 * 3 + 1, none⟩) hlt).trans k1
        have k2 := (hbel.cell (p := ⟨b, off + 1 * 3 + 1 + 1, none⟩) hlt).trans k2
        simp only [Nat.reduceMul, Nat.add_assoc, Nat.reduceAdd, Nat.add_zero] at k0 k1 k2
        have hn1 : ((1 : Nat) : Int) < (n : Int) := by omega
        have hnn : (1 : Int) < (n : Int) := by omega
        have hL := HL.out 1 (by omega)
        have hcall := fun W => findCmp_is a nm g ra rn rc W
        rw [hcc] at hcall
        clear hcc
        generalize c 1 = ch at hcall hL
        by_cases hs : ch < 0
        · have hs1 : decide (ch < 0) = true := by simpa using hs
          have hk2 := hL.1 hs
          clear hL
          go_wp2_with (go_at_call 66; refine (hcall _).mono ?_; rintro e w1 ⟨rfl, b1⟩)
          go_roundw
          case rel => exact ⟨2, 3, by go_num, by go_num, hk2, hj, hjn, Below.on hbel b1⟩
          case measure => simp [intOf]
        · have hs1 : decide (ch < 0) = false := by simpa using hs
          have hk2 : k ≤ 1 := by have := fun x => hs (hL.2 x); omega
          clear hL
          go_wp2_with (go_at_call 66; refine (hcall _).mono ?_; rintro e w1 ⟨rfl, b1⟩)
          go_roundw
          case rel => exact ⟨0, 1, by go_num, by go_num, hi, hk2, by omega, Below.on hbel b1⟩
          case measure => simp [intOf]
      · obtain ⟨a, g, ra, rn, rc, k0, k1, k2, hcc⟩ := HC.out 1 (by omega)
        have k0 := (hbel.cell (p := ⟨b, off + 1 * 3, none⟩) hlt).trans k0
        have k1 := (hbel.cell (p := ⟨b, off + 1 * 3 + 1, none⟩) hlt).trans k1
        have k2 := (hbel.cell (p := ⟨b, off + 1 * 3 + 1 + 1, none⟩) hlt).trans k2
        simp only [Nat.reduceMul, Nat.add_assoc, Nat.reduceAdd, Nat.add_zero] at k0 k1 k2
        have hn1 : ((1 : Nat) : Int) < (n : Int) := by omega
        have hnn : (1 : Int) < (n : Int) := by omega
        have hL := HL.out 1 (by omega)
        have hcall := fun W => findCmp_is a nm g ra rn rc W
        rw [hcc] at hcall
        clear hcc
        generalize c 1 = ch at hcall hL
        by_cases hs : ch < 0
        · have hs1 : decide (ch < 0) = true := by simpa using hs
          have hk2 := hL.1 hs
          clear hL
          go_wp2_with (go_at_call 66; refine (hcall _).mono ?_; rintro e w1 ⟨rfl, b1⟩)
          go_roundw
          case rel => exact ⟨2, 2, by go_num, by go_num, hk2, hj, hjn, Below.on hbel b1⟩
          case measure => simp [intOf]
        · have hs1 : decide (ch < 0) = false := by simpa using hs
          have hk2 : k ≤ 1 := by have := fun x => hs (hL.2 x); omega
          clear hL
          go_wp2_with (go_at_call 66; refine (hcall _).mono ?_; rintro e w1 ⟨rfl, b1⟩)
          go_roundw
          case rel => exact ⟨1, 1, by go_num, by go_num, hi, hk2, by omega, Below.on hbel b1⟩
          case measure => simp [intOf]
      · obtain ⟨a, g, ra, rn, rc, k0, k1, k2, hcc⟩ := HC.out 2 (by omega)
        have k0 := (hbel.cell (p := ⟨b, off + 2 * 3, none⟩) hlt).trans k0
        have k1 := (hbel.cell (p := ⟨b, off + 2 * 3 + 1, none⟩) hlt).trans k1
        have k2 := (hbel.cell (p := ⟨b, off + 2 * 3 + 1 + 1, none⟩) hlt).trans k2
        simp only [Nat.reduceMul, Nat.add_assoc, Nat.reduceAdd, Nat.add_zero] at k0 k1 k2
        have hn2 : ((2 : Nat) : Int) < (n : Int) := by omega
        have hnn : (2 : Int) < (n : Int) := by omega
        have hL := HL.out 2 (by omega)
        have hcall := fun W => findCmp_is a nm g ra rn rc W
        rw [hcc] at hcall
        clear hcc
        generalize c 2 = ch at hcall hL
        by_cases hs : ch < 0
        · have hs1 : decide (ch < 0) = true := by simpa using hs
          have hk2 := hL.1 hs
          clear hL
          go_wp2_with (go_at_call 66; refine (hcall _).mono ?_; rintro e w1 ⟨rfl, b1⟩)
          go_roundw
          case rel => exact ⟨3, 3, by go_num, by go_num, hk2, hj, hjn, Below.on hbel b1⟩
          case measure => simp [intOf]
        · have hs1 : decide (ch < 0) = false := by simpa using hs
          have hk2 : k ≤ 2 := by have := fun x => hs (hL.2 x); omega
          clear hL
          go_wp2_with (go_at_call 66; refine (hcall _).mono ?_; rintro e w1 ⟨rfl, b1⟩)
          go_roundw
          case rel => exact ⟨1, 2, by go_num, by go_num, hi, hk2, by omega, Below.on hbel b1⟩
          case measure => simp [intOf]
      · obtain ⟨a, g, ra, rn, rc, k0, k1, k2, hcc⟩ := HC.out 2 (by omega)
        have k0 := (hbel.cell (p := ⟨b, off + 2 * 3, none⟩) hlt).trans k0
        have k1 := (hbel.cell (p := ⟨b, off + 2 * 3 + 1, none⟩) hlt).trans k1
        have k2 := (hbel.cell (p := ⟨b, off + 2 * 3 + 1 + 1, none⟩) hlt).trans k2
        simp only [Nat.reduceMul, Nat.add_assoc, Nat.reduceAdd, Nat.add_zero] at k0 k1 k2
        have hn2 : ((2 : Nat) : Int) < (n : Int) := by omega
        have hnn : (2 : Int) < (n : Int) := by omega
        have hL := HL.out 2 (by omega)
        have hcall := fun W => findCmp_is a nm g ra rn rc W
        rw [hcc] at hcall
        clear hcc
        generalize c 2 = ch at hcall hL
        by_cases hs : ch < 0
        · have hs1 : decide (ch < 0) = true := by simpa using hs
          have hk2 := hL.1 hs
          clear hL
          go_wp2_with (go_at_call 66; refine (hcall _).mono ?_; rintro e w1 ⟨rfl, b1⟩)
          go_roundw
          case rel => exact ⟨3, 3, by go_num, by go_num, hk2, hj, hjn, Below.on hbel b1⟩
          case measure => simp [intOf]
        · have hs1 : decide (ch < 0) = false := by simpa using hs
          have hk2 : k ≤ 2 := by have := fun x => hs (hL.2 x); omega
          clear hL
          go_wp2_with (go_at_call 66; refine (hcall _).mono ?_; rintro e w1 ⟨rfl, b1⟩)
          go_roundw
          case rel => exact ⟨2, 2, by go_num, by go_num, hi, hk2, by omega, Below.on hbel b1⟩
          case measure => simp [intOf]
    · have e1 : i = k := by omega
      subst e1
      by_cases hin : i < n
      · obtain ⟨a, g, ra, rn, rc, k0, k1, k2, hcc⟩ := HC.out i hin
        have k0 := (hbel.cell (p := ⟨b, off + i * 3, none⟩) hlt).trans k0
        have k1 := (hbel.cell (p := ⟨b, off + i * 3 + 1, none⟩) hlt).trans k1
        have k2 := (hbel.cell (p := ⟨b, off + i * 3 + 1 + 1, none⟩) hlt).trans k2
        have hni : (i : Int) < (n : Int) := by omega
        have hd : decide ((i : Int) < (n : Int)) = true := by simpa using hni
        have hcall := fun W => findCmp_is a nm g ra rn rc W
        rw [hcc] at hcall
        clear hcc
        have hdn : decide (i < n) = true := by simpa using hin
        have HDn : Hid (decide (i < n) = true) := hdn
        clear hdn hin
        go_wp2_with (go_at_call 66; refine (hcall _).mono ?_; rintro e w1 ⟨rfl, b1⟩)
        go_ret2
        exact ⟨by rw [HDn.out, Bool.true_and]; rfl, Below.on hbel b1⟩
      · have e2 : i = n := by omega
        subst e2
        have hd : decide ((i : Int) < (i : Int)) = false := by simp
        have HDn : Hid (decide (i < i) = false) := by show decide (i < i) = false; simp
        clear hin
        go_wp2_with fail
        go_ret2
        exact ⟨by rw [HDn.out, Bool.false_and]; rfl, hbel⟩
end Go.Proofs.Ytehleeibgkpjmae
/- The program's find: where a name stands among snapshots, or would stand. -/
namespace Go.Proofs.Ytehleeibgkpjmae
open Go.RowKit Go.Shelf
set_option maxRecDepth 20000
set_option linter.unusedVariables false
set_option linter.unusedSimpArgs false

theorem cmp_less : ∀ x y : List UInt8, Lib.compareBytes x y < 0 ↔ Op.bytesLess x y = true
  | [], [] => by simp [Lib.compareBytes, Op.bytesLess]
  | [], _ :: _ => by simp [Lib.compareBytes, Op.bytesLess]
  | _ :: _, [] => by simp [Lib.compareBytes, Op.bytesLess]
  | a :: x, b :: y => by
    have ih := cmp_less x y
    unfold Lib.compareBytes
    simp only [Op.bytesLess, Bool.or_eq_true, Bool.and_eq_true, decide_eq_true_eq, beq_iff_eq]
    by_cases h : a < b
    · simp [h]
    · by_cases h2 : b < a
      · have hne : a ≠ b := fun e => by subst e; exact h h2
        simp [h, h2, hne]
      · have e : a = b := by
          rw [UInt8.lt_iff_toNat_lt] at h h2
          exact UInt8.toNat_inj.1 (by omega)
        simp [h, h2, e, ih]
theorem cmp_zero : ∀ x y : List UInt8, Lib.compareBytes x y = 0 ↔ x = y
  | [], [] => by simp [Lib.compareBytes]
  | [], _ :: _ => by simp [Lib.compareBytes]
  | _ :: _, [] => by simp [Lib.compareBytes]
  | a :: x, b :: y => by
    have ih := cmp_zero x y
    unfold Lib.compareBytes
    by_cases h : a < b
    · have hne : a ≠ b := fun e => by subst e; rw [UInt8.lt_iff_toNat_lt] at h; omega
      simp [h, hne]
    · by_cases h2 : b < a
      · have hne : a ≠ b := fun e => by subst e; exact h h2
        simp [h, h2, hne]
      · have e : a = b := by
          rw [UInt8.lt_iff_toNat_lt] at h h2
          exact UInt8.toNat_inj.1 (by omega)
        simp [h, h2, e, ih]

def posS (S : List SnapD) (nm : ByteArray) : Nat := (S.takeWhile (fun x => lessN x.1 nm)).length
theorem posS_le (S : List SnapD) (nm : ByteArray) : posS S nm ≤ S.length := by
  unfold posS
  have := congrArg List.length (List.takeWhile_append_dropWhile (p := fun x : SnapD => lessN x.1 nm) (l := S))
  rw [List.length_append] at this
  omega
theorem tw_lt {p : SnapD → Bool} : ∀ {L : List SnapD} {j : Nat} (hj : j < L.length), j < (L.takeWhile p).length → p L[j] = true
  | a :: L, 0, _, h => by
    rw [List.takeWhile_cons] at h
    split at h
    · assumption
    · simp at h
  | a :: L, j + 1, hj, h => by
    rw [List.takeWhile_cons] at h
    split at h
    · exact tw_lt (L := L) (by simpa using hj) (by simpa using h)
    · simp at h
theorem tw_at {p : SnapD → Bool} : ∀ {L : List SnapD} (hj : (L.takeWhile p).length < L.length), p (L[(L.takeWhile p).length]) = false
  | [], h => by simp at h
  | a :: L, h => by
    by_cases hp : p a = true
    · have e : ((a :: L).takeWhile p) = a :: L.takeWhile p := by rw [List.takeWhile_cons, if_pos hp]
      have h2 : (L.takeWhile p).length < L.length := by rw [e] at h; simpa using h
      have := tw_at (L := L) h2
      simp only [e, List.length_cons, List.getElem_cons_succ]
      exact this
    · have e : ((a :: L).takeWhile p) = [] := by rw [List.takeWhile_cons, if_neg hp]
      simp only [e, List.length_nil, List.getElem_cons_zero]
      simpa using hp

theorem pos_iff {S : List SnapD} (h : NamesP S) (nm : ByteArray) {j : Nat} (hj : j < S.length) : lessN S[j].1 nm = true ↔ j < posS S nm := by
  constructor
  · intro hl
    apply Decidable.byContradiction
    intro hn
    have hp : posS S nm < S.length := by omega
    have hf : lessN (S[posS S nm]).1 nm = false := tw_at (p := fun x => lessN x.1 nm) hp
    rcases Nat.lt_or_ge (posS S nm) j with h1 | h1
    · have := (List.pairwise_iff_getElem.1 h.2) (posS S nm) j hp hj h1
      have := less_trans this hl
      exact absurd (hf.symm.trans this) (by decide)
    · have e : posS S nm = j := by omega
      simp only [e] at hf
      rw [hl] at hf; cases hf
  · intro h1
    exact tw_lt (p := fun x => lessN x.1 nm) hj h1
theorem pos_here {S : List SnapD} (h : NamesP S) {nm : ByteArray} {k : Nat} (hk : snapIx S nm = some k) : posS S nm = k := by
  have hkl := snapIx_some hk
  unfold snapIx at hk
  have he : (S[k]).1.toList = nm.toList := by
    have := (List.findIdx?_eq_some_iff_getElem.1 hk).2.1
    simpa using this
  have h1 : ¬ k < posS S nm := fun hh => by
    have := (pos_iff h nm hkl).2 hh
    unfold lessN at this
    rw [he, less_irr] at this; cases this
  have h2 : ¬ posS S nm < k := fun hh => by
    have hp : posS S nm < S.length := by omega
    have := (List.pairwise_iff_getElem.1 h.2) (posS S nm) k hp hkl hh
    unfold lessN at this
    rw [he] at this
    have := (pos_iff h nm hp).1 this
    omega
  omega
theorem pos_found {S : List SnapD} (h : NamesP S) (nm : ByteArray) : (snapIx S nm).isSome = (decide (posS S nm < S.length) && ((S.getD (posS S nm) default).1.toList == nm.toList)) := by
  cases hs : snapIx S nm with
  | some k =>
    have hp := pos_here h hs
    have hkl := snapIx_some hs
    unfold snapIx at hs
    have he : (S[k]).1.toList = nm.toList := by
      have := (List.findIdx?_eq_some_iff_getElem.1 hs).2.1
      simpa using this
    rw [hp]
    simp [hkl, he]
  | none =>
    by_cases hl : posS S nm < S.length
    · have := snapIx_none hs S[posS S nm] (List.getElem_mem hl)
      simp [hl, this]
    · simp [hl]

theorem bsearch_none (ao : Option Addr) (cap : Nat) (nm : ByteArray) (w : World) :
    Calls Try.prog 65 #[.slice ao 0 cap, .string nm, .func (.func 66) #[] #[]] w fun r w' => r = .returned (.tuple #[.int .i64 (0 : Int), .bool false]) ∧ Below w.heap.size w w' := by
  go_enter Try.func65, Try.ntmps65
  go_wp2_with fail
  go_loopw [9, 10, 11] (fun s9 s10 _ wr => s9 = .int .i64 0 ∧ s10 = .int .i64 0 ∧ wr = w) (fun _ _ _ _ => 0)
  case atStart => exact ⟨rfl, rfl, rfl⟩
  case round =>
    obtain ⟨rfl, rfl, hw⟩ := hrel
    subst hw
    go_wp2_with fail
    go_ret2
    exact ⟨rfl, Below.refl _ _⟩

theorem find_is {w : World} {v : Value} {S : List SnapD} (h : Snaps w v S) (hN : NamesP S) (h3 : S.length ≤ 3) (nm : ByteArray) {k : Nat} (hk : posS S nm = k) {t : Bool} (ht : (snapIx S nm).isSome = t) :
    Calls Try.prog 30 #[v, .string nm] w fun r w' => r = .returned (.tuple #[.int .i64 (k : Int), .bool t]) ∧ Below w.heap.size w w' := by
  have hb : Calls Try.prog 65 #[v, .string nm, .func (.func 66) #[] #[]] w fun r w' => r = .returned (.tuple #[.int .i64 (k : Int), .bool t]) ∧ Below w.heap.size w w' := by
    obtain ⟨ao, cap, rfl, hm, hc, hS⟩ := h
    rw [pos_found hN] at ht
    by_cases e : S = []
    · subst e
      have e1 : k = 0 := by rw [← hk]; rfl
      have e2 : t = false := by rw [← ht]; simp
      subst e1 e2
      exact bsearch_none ao cap nm w
    · obtain ⟨b, off, rfl, hlt, hA⟩ := hS e
      have hle := posS_le S nm
      have hcz : ∀ j, (hj : j < S.length) → Lib.compareBytes (S.getD j default).1.data.toList nm.data.toList = Lib.compareBytes S[j].1.data.toList nm.data.toList := fun j hj => by simp [List.getD, hj]
      refine (bsearch_at b off cap S.length k nm (fun j => Lib.compareBytes (S.getD j default).1.data.toList nm.data.toList) w h3 hlt (fun j hj => ?_) (by rw [← hk]; exact hle) (fun j hj => ?_)).mono ?_
      · obtain ⟨rv, a0, a1, a2, a3⟩ := hA j hj
        obtain ⟨ra, rc, rfl⟩ := a3.form
        exact ⟨_, _, ra, _, rc, a0, a1, a2, (hcz j hj).symm⟩
      · rw [hcz j hj, cmp_less, ← ByteArray.toList_eq, ← ByteArray.toList_eq, ← hk]
        exact pos_iff hN nm hj
      · rintro r w' ⟨rfl, hbb⟩
        refine ⟨?_, hbb⟩
        rw [← ht, hk]
        by_cases hkl : k < S.length
        · have : ((Lib.compareBytes (S.getD k default).1.data.toList nm.data.toList) == 0) = ((S.getD k default).1.toList == nm.toList) := by
            rw [Bool.eq_iff_iff, beq_iff_eq, beq_iff_eq, cmp_zero, ByteArray.toList_eq, ByteArray.toList_eq]
          rw [this]
        · simp [hkl]
  obtain ⟨ao, cap, rfl⟩ := h.form
  generalize S.length = n at hb
  clear h hN h3 hk ht
  go_enter Try.func30, Try.ntmps30
  go_wp2_with (go_at_call 65; refine hb.mono ?_; rintro e w1 ⟨rfl, b1⟩)
  go_ret2
  exact ⟨rfl, b1⟩
end Go.Proofs.Ytehleeibgkpjmae
/- The desk with a snapshot more. -/
namespace Go.Proofs.Ytehleeibgkpjmae
open Go.RowKit Go.Shelf
set_option maxRecDepth 20000
set_option linter.unusedVariables false
set_option linter.unusedSimpArgs false

def insN (k : Nat) (S : List SnapD) (s : SnapD) : List SnapD := S.take k ++ s :: S.drop k
theorem insN_length {k : Nat} {S : List SnapD} (s : SnapD) (hk : k ≤ S.length) : (insN k S s).length = S.length + 1 := by
  unfold insN; simp; omega
theorem tw_take {p : SnapD → Bool} : ∀ (L : List SnapD), L.takeWhile p = L.take (L.takeWhile p).length ∧ L.dropWhile p = L.drop (L.takeWhile p).length
  | [] => ⟨rfl, rfl⟩
  | a :: L => by
    have ih := tw_take (p := p) L
    cases e : p a with
    | true => rw [List.takeWhile_cons, List.dropWhile_cons, if_pos e, if_pos e]; simp only [List.length_cons, List.take_succ_cons, List.drop_succ_cons]; exact ⟨by rw [← ih.1], ih.2⟩
    | false => rw [List.takeWhile_cons, List.dropWhile_cons, if_neg (by rw [e]; decide), if_neg (by rw [e]; decide)]; exact ⟨rfl, rfl⟩
theorem insS_insN (S : List SnapD) (s : SnapD) : insS S s = insN (posS S s.1) S s := by
  unfold insS insN posS
  rw [← (tw_take S).1, ← (tw_take S).2]
def skip2 (k j : Nat) : Nat := if j < k then j else j - 1
theorem getD_ins {S : List SnapD} {k : Nat} (s : SnapD) (hk : k ≤ S.length) (j : Nat) : (insN k S s).getD j default = if j = k then s else S.getD (skip2 k j) default := by
  have ht : (S.take k).length = k := by rw [List.length_take]; omega
  unfold insN skip2
  simp only [List.getD_eq_getElem?_getD, List.getElem?_append, ht]
  by_cases h : j < k
  · rw [if_pos h, if_neg (by omega), if_pos h, List.getElem?_take, if_pos h]
  · rw [if_neg h, if_neg h]
    by_cases e : j = k
    · rw [if_pos e, e]; simp
    · rw [if_neg e]
      obtain ⟨d, rfl⟩ : ∃ d, j = k + d + 1 := ⟨j - k - 1, by omega⟩
      rw [show k + d + 1 - k = d + 1 by omega, List.getElem?_cons_succ, List.getElem?_drop, show k + d + 1 - 1 = k + d by omega]
def insQ (qv : Nat → Value) (rv : Value) (k : Nat) : Nat → Value := fun j => if j = k then rv else qv (skip2 k j)
theorem flatN_ins {S : List SnapD} {k : Nat} (s : SnapD) (rv : Value) (hk : k ≤ S.length) (qv : Nat → Value) : flatN (insN k S s) (insQ qv rv k) = (flatN S qv).take (k * 3) ++ [.string s.1, .int .i64 s.2.1, rv] ++ (flatN S qv).drop (k * 3) := by
  have hl := flatN_length S qv
  have he := insN_length s hk
  have ht : ((flatN S qv).take (k * 3)).length = k * 3 := by rw [List.length_take, hl]; omega
  refine ext3 (n := S.length + 1) (by rw [flatN_length, he]) (by simp only [List.length_append, List.length_drop, ht, hl, List.length_cons, List.length_nil]; omega) fun q hq => ?_
  obtain ⟨a, b, c⟩ := flatN_get (S := insN k S s) (qv := insQ qv rv k) (j := q) (by omega)
  rw [a, b, c, getD_ins s hk]
  unfold insQ
  simp only [List.append_assoc, List.getElem?_append, ht]
  by_cases h : q < k
  · obtain ⟨a', b', c'⟩ := flatN_get (S := S) (qv := qv) (j := q) (by omega)
    have n1 : ¬ q = k := by omega
    have p0 : q * 3 < k * 3 := by omega
    have p1 : q * 3 + 1 < k * 3 := by omega
    have p2 : q * 3 + 2 < k * 3 := by omega
    rw [if_neg n1, if_neg n1, if_pos p0, if_pos p1, if_pos p2]
    simp only [List.getElem?_take, if_pos p0, if_pos p1, if_pos p2]
    rw [a', b', c']
    unfold skip2; rw [if_pos h]; exact ⟨rfl, rfl, rfl⟩
  · rw [if_neg (show ¬ q * 3 < k * 3 by omega), if_neg (show ¬ q * 3 + 1 < k * 3 by omega), if_neg (show ¬ q * 3 + 2 < k * 3 by omega)]
    by_cases e : q = k
    · subst e
      rw [if_pos rfl, if_pos rfl, show q * 3 - q * 3 = 0 by omega, show q * 3 + 1 - q * 3 = 1 by omega, show q * 3 + 2 - q * 3 = 2 by omega]
      exact ⟨rfl, rfl, rfl⟩
    · rw [if_neg e, if_neg e]
      obtain ⟨a', b', c'⟩ := flatN_get (S := S) (qv := qv) (j := q - 1) (by omega)
      unfold skip2
      rw [if_neg h, ← a', ← b', ← c']
      simp only [List.length_cons, List.length_nil]
      rw [if_neg (show ¬ q * 3 - k * 3 < 0 + 1 + 1 + 1 by omega), if_neg (show ¬ q * 3 + 1 - k * 3 < 0 + 1 + 1 + 1 by omega), if_neg (show ¬ q * 3 + 2 - k * 3 < 0 + 1 + 1 + 1 by omega)]
      simp only [List.getElem?_drop]
      exact ⟨by congr 1; omega, by congr 1; omega, by congr 1; omega⟩

def insVal (val : Nm → Value) (v rv : Value) (k : Nat) : Nm → Value := fun a => if a.kind = 5 then insQ (fun j => val (.sr j)) rv k a.ix else if a.kind = 3 then v else val a
def insNm (k : Nat) (a : Nm) : Nm := if a.kind = 5 then .sr (skip2 k a.ix) else a
def isNew (k : Nat) (a : Nm) : Prop := a.kind = 5 ∧ a.ix = k
def insM (m : ImgD) (k : Nat) (s : SnapD) : ImgD := { m with snaps := insN k m.snaps s }
theorem insVal_new {val : Nm → Value} {v rv : Value} {k : Nat} {a : Nm} (h : isNew k a) : insVal val v rv k a = rv := by
  unfold insVal insQ; rw [if_pos h.1, if_pos h.2]
theorem insVal_eq {val : Nm → Value} {v rv : Value} {k : Nat} {a : Nm} (h : a.kind ≠ 3) (hn : ¬ isNew k a) : insVal val v rv k a = val (insNm k a) := by
  unfold insVal insNm
  by_cases e : a.kind = 5
  · rw [if_pos e, if_pos e]; unfold insQ; rw [if_neg (fun x => hn ⟨e, x⟩)]
  · rw [if_neg e, if_neg e, if_neg h]
theorem insNm_kind (k : Nat) (a : Nm) : (insNm k a).kind = a.kind := by
  unfold insNm
  split
  · rename_i e; rw [e]
  · rfl
theorem insNm_live {m : ImgD} {k : Nat} {s : SnapD} (hk : k ≤ m.snaps.length) {a : Nm} (h : Live (insM m k s) a) (hn : ¬ isNew k a) : Live m (insNm k a) := by
  have he := insN_length s hk
  rcases h with ⟨h1, h2⟩ | ⟨h1, h2⟩ | ⟨h1, h2⟩
  · have : a.kind ≠ 5 := by omega
    unfold insNm; rw [if_neg this]; exact .inl ⟨h1, h2⟩
  · have : a.kind ≠ 5 := by omega
    unfold insNm; rw [if_neg this]; exact .inr (.inl ⟨h1, h2⟩)
  · unfold insNm; rw [if_pos h1]
    have h2 : a.ix < (insN k m.snaps s).length := h2
    have hne : a.ix ≠ k := fun x => hn ⟨h1, x⟩
    exact Live.sr (by unfold skip2; split <;> omega)
theorem insNm_inj {k : Nat} {a b : Nm} (h : a ≠ b) (ha : ¬ isNew k a) (hb : ¬ isNew k b) : insNm k a ≠ insNm k b := fun e => by
  have hk := congrArg Nm.kind e
  rw [insNm_kind, insNm_kind] at hk
  apply h
  unfold insNm at e
  by_cases h5 : a.kind = 5
  · rw [if_pos h5, if_pos (hk ▸ h5)] at e
    have e := congrArg Nm.ix e
    have e : skip2 k a.ix = skip2 k b.ix := e
    have na : a.ix ≠ k := fun x => ha ⟨h5, x⟩
    have nb : b.ix ≠ k := fun x => hb ⟨hk ▸ h5, x⟩
    have : a.ix = b.ix := by unfold skip2 at e; split at e <;> split at e <;> omega
    cases a; cases b; simp_all
  · rw [if_neg h5, if_neg (hk ▸ h5)] at e
    exact e
theorem isNew_eq {k : Nat} {a : Nm} (h : isNew k a) : a = .sr k := by obtain ⟨x, y⟩ := a; obtain ⟨h1, h2⟩ := h; simp_all

theorem OI.ins {W W' : World} {B k : Nat} {val : Nm → Value} {m : ImgD} {v rv : Value} {s : SnapD} (h : OI W B val m) (hk : k ≤ m.snaps.length)
    (hr : W.ownsRow B 3 1 rv s.2.2.length (ints s.2.2)) (hrf : ∀ b, Live m b → ∀ g, rv.ownBlock = some g → (val b).ownBlock ≠ some g)
    (hv : W'.ownsRow B 64 3 v (m.snaps.length + 1) ((flatN m.snaps (fun j => val (.sr j))).take (k * 3) ++ [.string s.1, .int .i64 s.2.1, rv] ++ (flatN m.snaps (fun j => val (.sr j))).drop (k * 3)))
    (hg : W.grownBy W' (val .snaps).ownBlock) (hb : v.ownBlock = (val .snaps).ownBlock ∨ v.ownBlock = some W.heap.size) : OI W' B (insVal val v rv k) (insM m k s) := by
  have hold : ∀ a, Live m a → a ≠ .snaps → ∀ g, (val a).ownBlock = some g → v.ownBlock ≠ some g := fun a ha hne g hga x => by
    rcases hb with e | e
    · exact h.apart a .snaps ha (Live.snaps m) hne g hga (e.symm.trans x)
    · rw [e] at x
      have := ((h.row a ha).lt g hga).2
      have x := Option.some.inj x
      omega
  have hnew : ∀ g, rv.ownBlock = some g → v.ownBlock ≠ some g := fun g hga x => by
    rcases hb with e | e
    · exact hrf .snaps (Live.snaps m) g hga (e.symm.trans x)
    · rw [e] at x
      have := (hr.lt g hga).2
      have x := Option.some.inj x
      omega
  have hns : ∀ {a : Nm}, a.kind ≠ 3 → insNm k a ≠ .snaps := fun {a} e y => e (by rw [← insNm_kind k a, y])
  refine ⟨fun a ha => ?_, fun a b ha hb2 hab g hga => ?_⟩
  · by_cases e : a.kind = 3
    · have ea := live3 ha e
      subst ea
      rw [← flatN_ins s rv hk, ← insN_length s hk] at hv
      exact hv
    · by_cases en : isNew k a
      · have ea := isNew_eq en
        subst ea
        have hr' := hr.kept hg (by
          cases eq : rv.ownBlock with
          | none => exact .inl rfl
          | some g => exact .inr (fun x => hrf .snaps (Live.snaps m) g eq x.symm))
        rw [insVal_new en]
        have e3 : rowN (insM m k s) (.sr k) = s.2.2.length := by
          show ((insN k m.snaps s).getD k default).2.2.length = _
          rw [getD_ins s hk, if_pos rfl]
        have e4 : rowV (insM m k s) (insVal val v rv k) (.sr k) = ints s.2.2 := by
          show ints ((insN k m.snaps s).getD k default).2.2 = _
          rw [getD_ins s hk, if_pos rfl]
        rw [e3, e4]; exact hr'
      · have hl := insNm_live hk ha en
        have hr := h.row (insNm k a) hl
        have hr := hr.kept hg (by
          cases eq : (val (insNm k a)).ownBlock with
          | none => exact .inl rfl
          | some g => exact .inr (fun x => h.apart (insNm k a) .snaps hl (Live.snaps m) (hns e) g eq x.symm))
        rw [insVal_eq e en]
        have e1 : rowT (insNm k a) = rowT a := by unfold rowT; rw [insNm_kind]
        have e2 : rowS (insNm k a) = rowS a := by unfold rowS; rw [insNm_kind]
        rw [e1, e2] at hr
        rcases ha.cases with rfl | rfl | rfl | rfl | ⟨j, rfl, hj⟩ | ⟨j, rfl, hj⟩
        · exact hr
        · exact hr
        · exact hr
        · exact absurd rfl e
        · exact hr
        · have hjk : j ≠ k := fun x => en ⟨rfl, x⟩
          have e3 : rowN (insM m k s) (.sr j) = rowN m (insNm k (.sr j)) := by
            show ((insN k m.snaps s).getD j default).2.2.length = (m.snaps.getD (skip2 k j) default).2.2.length
            rw [getD_ins s hk, if_neg hjk]
          have e4 : rowV (insM m k s) (insVal val v rv k) (.sr j) = rowV m val (insNm k (.sr j)) := by
            show ints ((insN k m.snaps s).getD j default).2.2 = ints (m.snaps.getD (skip2 k j) default).2.2
            rw [getD_ins s hk, if_neg hjk]
          rw [e3, e4]; exact hr
  · by_cases ea : a.kind = 3
    · have ea' := live3 ha ea
      have eb : b.kind ≠ 3 := fun x => hab (ea'.trans (live3 hb2 x).symm)
      subst ea'
      have hga : v.ownBlock = some g := hga
      by_cases nb : isNew k b
      · rw [insVal_new nb]; exact fun x => hnew g x hga
      · rw [insVal_eq eb nb]; exact fun x => hold _ (insNm_live hk hb2 nb) (hns eb) g x hga
    · by_cases na : isNew k a
      · rw [insVal_new na] at hga
        by_cases eb : b.kind = 3
        · have eb' := live3 hb2 eb
          subst eb'
          exact hnew g hga
        · have nb : ¬ isNew k b := fun x => hab ((isNew_eq na).trans (isNew_eq x).symm)
          rw [insVal_eq eb nb]
          exact hrf _ (insNm_live hk hb2 nb) g hga
      · rw [insVal_eq ea na] at hga
        by_cases eb : b.kind = 3
        · have eb' := live3 hb2 eb
          subst eb'
          exact hold _ (insNm_live hk ha na) (hns ea) g hga
        · by_cases nb : isNew k b
          · rw [insVal_new nb]; exact fun x => hrf _ (insNm_live hk ha na) g x hga
          · rw [insVal_eq eb nb]
            exact h.apart _ _ (insNm_live hk ha na) (insNm_live hk hb2 nb) (insNm_inj hab na nb) g hga

theorem DTo.ins {W W' : World} {B D k : Nat} {val : Nm → Value} {m : ImgD} {v rv : Value} {s : SnapD} (h : DK W B D val m) (hB : B ≤ W.heap.size) (hk : k ≤ m.snaps.length)
    (hr : W.ownsRow B 3 1 rv s.2.2.length (ints s.2.2)) (hrf : ∀ b, Live m b → ∀ g, rv.ownBlock = some g → (val b).ownBlock ≠ some g) (hrD : rv.ownBlock ≠ some D)
    (hv : W'.ownsRow B 64 3 v (m.snaps.length + 1) ((flatN m.snaps (fun j => val (.sr j))).take (k * 3) ++ [.string s.1, .int .i64 s.2.1, rv] ++ (flatN m.snaps (fun j => val (.sr j))).drop (k * 3)))
    (hg : W.grownBy W' (val .snaps).ownBlock) (hb : v.ownBlock = (val .snaps).ownBlock ∨ v.ownBlock = some W.heap.size) : DTo W (W'.setCell ⟨D, 4, none⟩ v) B D m val rv (insM m k s) (insVal val v rv k) := by
  have hval : ∀ q, q < W.heap.size → rv.ownBlock ≠ some q → (∀ b, Live m b → (val b).ownBlock ≠ some q) → ∀ a, Live (insM m k s) a → (insVal val v rv k a).ownBlock ≠ some q := fun q hq hrq hm a ha => by
    by_cases e : a.kind = 3
    · have ea := live3 ha e
      subst ea
      show v.ownBlock ≠ some q
      rcases hb with x | x
      · rw [x]; exact hm .snaps (Live.snaps m)
      · rw [x]; intro y; have := Option.some.inj y; omega
    · by_cases en : isNew k a
      · rw [insVal_new en]; exact hrq
      · rw [insVal_eq e en]; exact hm _ (insNm_live hk ha en)
  have hf := hval D h.lt hrD h.far
  have hbel : Below B W W' := Below.grown (Below.refl _ _) hg hB (fun q e => ((h.own.row .snaps (Live.snaps m)).lt q e).1)
  refine ⟨⟨(h.own.ins hk hr hrf hv hg hb).far hf, ?_, h.ge, hf⟩, hbel.setCell h.ge _, fun q hq hD _ hm => (Below.heap_setCell W' ⟨D, 4, none⟩ v q hD).trans (hg.block q hq (fun e => hm .snaps (Live.snaps m) e.symm)), fun q hq hrq hm => hval q hq hrq hm⟩
  have hbox := (hg.block D h.lt (fun e => h.far .snaps (Live.snaps m) e.symm)).trans h.box
  exact cells_set hbox 4 v
end Go.Proofs.Ytehleeibgkpjmae
/- What Create, Revert do on the desk; and the closure of with. -/
namespace Go.Proofs.Ytehleeibgkpjmae
open Go.RowKit Go.Shelf Go.Lib
set_option maxRecDepth 20000
set_option linter.unusedVariables false
set_option linter.unusedSimpArgs false

theorem row_blkN {W W' : World} {B n size : Nat} {e : TypeId} {v : Value} {xs : List Value} (h : W.ownsRow B e size v n xs) (hb : ∀ g, v.ownBlock = some g → W'.heap[g]? = W.heap[g]?) : W'.ownsRow B e size v n xs := by
  refine ⟨h.1, ?_⟩
  rcases h.2 with hn | ⟨g, cap, cur, hv, hb', hg, rest⟩
  · exact .inl hn
  · exact .inr ⟨g, cap, cur, hv, hb', (hb g (by rw [hv]; rfl)).trans hg, rest⟩
theorem oneN {W : World} {B : Nat} {a0 : Value} {t : TypeId} (h : W.heap[B]? = some (.cells #[a0] t)) : W.cell? ⟨B, 0, none⟩ = some a0 := by simp [World.cell?, h]
theorem to_drewN {n : Nat} {w W : World} (h : Below n w W) : Below n w W.drew := h.drew
structure CrR (W wx : World) (B b4 : Nat) (nm : ByteArray) (g : Int) (rv : Value) (r : List Int) : Prop where
  bel : Below W.heap.size W wx
  ge : W.heap.size ≤ b4
  box : wx.heap[b4]? = some (.cells #[.string nm, .int .i64 g, rv] 64)
  row : wx.ownsRow B 3 1 rv r.length (ints r)
  new : ∀ q, rv.ownBlock = some q → W.heap.size ≤ q ∧ q ≠ b4
theorem threeC {W : World} {B : Nat} {a b c : Value} {t : TypeId} (h : W.heap[B]? = some (.cells #[a, b, c] t)) : W.cell? ⟨B, 0, none⟩ = some a ∧ W.cell? ⟨B, 1, none⟩ = some b ∧ W.cell? ⟨B, 2, none⟩ = some c := by
  refine ⟨?_, ?_, ?_⟩ <;> simp [World.cell?, h]
theorem heap_three {W : World} {D : Nat} {x0 x1 x2 : Value} {T : TypeId} (h : W.heap[D]? = some (.cells #[x0, x1, x2] T)) (a0 a1 a2 : Value) : (((W.setCell ⟨D, 0, none⟩ a0).setCell ⟨D, 1, none⟩ a1).setCell ⟨D, 2, none⟩ a2).heap[D]? = some (.cells #[a0, a1, a2] T) := by
  have h1 := cells_set h 0 a0
  have h2 := cells_set h1 1 a1
  have h3 := cells_set h2 2 a2
  exact h3
theorem heap_threeF {W : World} {D q : Nat} (a0 a1 a2 : Value) (hq : q ≠ D) : (((W.setCell ⟨D, 0, none⟩ a0).setCell ⟨D, 1, none⟩ a1).setCell ⟨D, 2, none⟩ a2).heap[q]? = W.heap[q]? :=
  (Below.heap_setCell _ ⟨D, 2, none⟩ a2 q hq).trans ((Below.heap_setCell _ ⟨D, 1, none⟩ a1 q hq).trans (Below.heap_setCell _ ⟨D, 0, none⟩ a0 q hq))
theorem CrR.mk3 {W X : World} {B b4 : Nat} {nm : ByteArray} {g : Int} {rv : Value} {r : List Int} {x0 x1 x2 : Value} (hb : Below W.heap.size W X) (hge : W.heap.size ≤ b4) (hbox : X.heap[b4]? = some (.cells #[x0, x1, x2] 64)) (hrow : X.ownsRow B 3 1 rv r.length (ints r)) (hnew : ∀ q, rv.ownBlock = some q → W.heap.size ≤ q ∧ q ≠ b4) :
    CrR W (((X.setCell ⟨b4, 0, none⟩ (.string nm)).setCell ⟨b4, 1, none⟩ (.int .i64 g)).setCell ⟨b4, 2, none⟩ rv) B b4 nm g rv r :=
  ⟨((hb.setCell hge _).setCell hge _).setCell hge _, hge, heap_three hbox _ _ _, row_blkN hrow (fun q e => heap_threeF _ _ _ (hnew q e).2), hnew⟩
set_option maxHeartbeats 4000000 in
theorem create_turn {w : World} {m : ImgD} {nm : ByteArray} {k bn bi : Nat} (cn : w.cell? ⟨bn, 0, none⟩ = some (.string nm)) (ci : w.cell? ⟨bi, 0, none⟩ = some (.int .i64 (k : Int))) (ln : bn < w.heap.size) (li : bi < w.heap.size) (hs : shapeE m = 0) (hk : k ≤ m.snaps.length) :
    Turns w 32 #[.pointer (some ⟨bn, 0, none⟩), .pointer (some ⟨bi, 0, none⟩)] m (some (insM m k (nm, m.guest, m.root))) := by
  intro W D B val hb h1 h2 hK
  have cn := (hb.cell (p := ⟨bn, 0, none⟩) ln).trans cn
  have ci := (hb.cell (p := ⟨bi, 0, none⟩) li).trans ci
  have lnW : bn < W.heap.size := Nat.lt_of_lt_of_le ln hb.size
  have liW : bi < W.heap.size := Nat.lt_of_lt_of_le li hb.size
  have liB : bi < B := Nat.lt_of_lt_of_le li h1
  have hDB := hK.ge
  have hDlt := hK.lt
  show Calls Try.prog 32 #[.pointer (some ⟨D, 0, none⟩), .pointer (some ⟨bn, 0, none⟩), .pointer (some ⟨bi, 0, none⟩)] W (fun r W' => ∃ val', r = .returned (.tuple #[]) ∧ DTo W W' B D m val nilV (insM m k (nm, m.guest, m.root)) val')
  have h3l := (shapeE_zero hs).1
  have hr4 : m.root.length ≤ 4 := by
    obtain ⟨f1, f2, f3, _⟩ := snap_fit hs (s := (⟨#[]⟩, m.guest, m.root)) List.mem_cons_self
    dsimp only at f1 f2 f3
    omega
  obtain ⟨ra, rc, e0, _⟩ := hK.own.forms .root (Live.root m)
  obtain ⟨sa, sc, e1, _⟩ := hK.own.forms .slots (Live.slots m)
  obtain ⟨fa, fc, e2, _⟩ := hK.own.forms .refs (Live.refs m)
  obtain ⟨na, nc, e3, _⟩ := hK.own.forms .snaps (Live.snaps m)
  have e0 : val .root = .slice ra m.root.length rc := e0
  have e1 : val .slots = .slice sa m.slots.length sc := e1
  have e2 : val .refs = .slice fa m.refs.length fc := e2
  have e3 : val .snaps = .slice na m.snaps.length nc := e3
  have hbox := hK.box
  rw [e0, e1, e2, e3] at hbox
  have HC : Hid (∀ X, Below W.heap.size W X → Calls Try.prog 33 #[.slice ra m.root.length rc] X fun r w' => ∃ v', r = .returned v' ∧ w'.ownsRow X.heap.size 3 1 v' m.root.length (ints m.root) ∧ Below X.heap.size X w') := fun X hX => by
    have := clone_ints (row_sl ((hK.below hX).own.row .root (Live.root m))) (by have := room_is; omega)
    rw [e0] at this
    exact this
  have HK : Hid (DK W B D val m ∧ B ≤ W.heap.size ∧ val .snaps = .slice na m.snaps.length nc) := ⟨hK, h2, e3⟩
  clear hb h1 h2 hK e0 e1 e2 e3 hs
  go_enter Try.func32, Try.ntmps32
  go_upto_region 0 with fail
  go_cut [4] from 5 (fun s wx => ∃ b4 rv, s = .pointer (some ⟨b4, 0, none⟩) ∧ Hid (CrR W wx B b4 nm m.guest rv m.root))
  case first =>
    refine wp_region_held_drew (S := (fun X : World => X.heap[D]? = some (.cells #[.int .i64 m.guest, .slice ra m.root.length rc, .slice sa m.slots.length sc, .slice fa m.refs.length fc, .slice na m.snaps.length nc] 61) ∧ X.cell? ⟨bn, 0, none⟩ = some (.string nm))) (by kernel_rfl) ⟨hbox, cn⟩ (fun hHeld => ?_)
    refine wpAnyH_take (i := 0) (v := .string nm) rfl (by kernel_rfl) (by kernel_rfl) (by kernel_rfl) (fun _ _ _ h => h) (Or.inl ⟨by rfl, fun w' hSw => by obtain ⟨qa, qb⟩ := hSw; obtain ⟨j0, j1, j2, j3, j4⟩ := five qa; go_simp⟩) hHeld ?_
    simp only [Act.put, List.getElem_toArray, List.getElem_cons_succ, List.getElem_cons_zero, List.setIfInBounds_toArray, List.set_cons_zero, List.set_cons_succ]
    refine wpAnyH_take (i := 1) (v := .pointer (some ⟨D, 0, none⟩)) rfl (by kernel_rfl) (by kernel_rfl) (by kernel_rfl) (fun _ _ _ h => h) (Or.inl ⟨by rfl, fun w' hSw => by go_simp⟩) hHeld ?_
    simp only [Act.put, List.getElem_toArray, List.getElem_cons_succ, List.getElem_cons_zero, List.setIfInBounds_toArray, List.set_cons_zero, List.set_cons_succ]
    refine wpAnyH_take (i := 2) (v := .pointer (some ⟨D, 0, none⟩)) rfl (by kernel_rfl) (by kernel_rfl) (by kernel_rfl) (fun _ _ _ h => h) (Or.inl ⟨by rfl, fun w' hSw => by go_simp⟩) hHeld ?_
    simp only [Act.put, List.getElem_toArray, List.getElem_cons_succ, List.getElem_cons_zero, List.setIfInBounds_toArray, List.set_cons_zero, List.set_cons_succ]
    refine wpAnyH_take (i := 3) (v := .pointer (some ⟨D, 0, none⟩)) rfl (by kernel_rfl) (by kernel_rfl) (by kernel_rfl) (fun _ _ _ h => h) (Or.inl ⟨by rfl, fun w' hSw => by go_simp⟩) hHeld ?_
    simp only [Act.put, List.getElem_toArray, List.getElem_cons_succ, List.getElem_cons_zero, List.setIfInBounds_toArray, List.set_cons_zero, List.set_cons_succ]
    refine wpAnyH_take (i := 4) (v := .pointer (some ⟨D, 0, none⟩)) rfl (by kernel_rfl) (by kernel_rfl) (by kernel_rfl) (fun _ _ _ h => h) (Or.inl ⟨by rfl, fun w' hSw => by go_simp⟩) hHeld ?_
    simp only [Act.put, List.getElem_toArray, List.getElem_cons_succ, List.getElem_cons_zero, List.setIfInBounds_toArray, List.set_cons_zero, List.set_cons_succ]
    refine wpAnyH_take (i := 5) (v := .int .i64 m.guest) rfl (by kernel_rfl) (by kernel_rfl) (by kernel_rfl) (fun _ _ _ h => h) (Or.inl ⟨by rfl, fun w' hSw => by obtain ⟨qa, qb⟩ := hSw; obtain ⟨j0, j1, j2, j3, j4⟩ := five qa; go_simp⟩) hHeld ?_
    simp only [Act.put, List.getElem_toArray, List.getElem_cons_succ, List.getElem_cons_zero, List.setIfInBounds_toArray, List.set_cons_zero, List.set_cons_succ]
    refine wpAnyH_take (i := 6) (v := .pointer (some ⟨D, 0, none⟩)) rfl (by kernel_rfl) (by kernel_rfl) (by kernel_rfl) (fun _ _ _ h => h) (Or.inl ⟨by rfl, fun w' hSw => by go_simp⟩) hHeld ?_
    simp only [Act.put, List.getElem_toArray, List.getElem_cons_succ, List.getElem_cons_zero, List.setIfInBounds_toArray, List.set_cons_zero, List.set_cons_succ]
    refine wpAnyH_take (i := 7) (v := .pointer (some ⟨D, 0, none⟩)) rfl (by kernel_rfl) (by kernel_rfl) (by kernel_rfl) (fun _ _ _ h => h) (Or.inl ⟨by rfl, fun w' hSw => by go_simp⟩) hHeld ?_
    simp only [Act.put, List.getElem_toArray, List.getElem_cons_succ, List.getElem_cons_zero, List.setIfInBounds_toArray, List.set_cons_zero, List.set_cons_succ]
    refine wpAnyH_take (i := 8) (v := .pointer (some ⟨D, 0, none⟩)) rfl (by kernel_rfl) (by kernel_rfl) (by kernel_rfl) (fun _ _ _ h => h) (Or.inl ⟨by rfl, fun w' hSw => by go_simp⟩) hHeld ?_
    simp only [Act.put, List.getElem_toArray, List.getElem_cons_succ, List.getElem_cons_zero, List.setIfInBounds_toArray, List.set_cons_zero, List.set_cons_succ]
    refine wpAnyH_take (i := 9) (v := .pointer (some ⟨D, 1, none⟩)) rfl (by kernel_rfl) (by kernel_rfl) (by kernel_rfl) (fun _ _ _ h => h) (Or.inl ⟨by rfl, fun w' hSw => by go_simp⟩) hHeld ?_
    simp only [Act.put, List.getElem_toArray, List.getElem_cons_succ, List.getElem_cons_zero, List.setIfInBounds_toArray, List.set_cons_zero, List.set_cons_succ]
    refine wpAnyH_take (i := 10) (v := .slice ra m.root.length rc) rfl (by kernel_rfl) (by kernel_rfl) (by kernel_rfl) (fun _ _ _ h => h) (Or.inl ⟨by rfl, fun w' hSw => by obtain ⟨qa, qb⟩ := hSw; obtain ⟨j0, j1, j2, j3, j4⟩ := five qa; go_simp⟩) hHeld ?_
    simp only [Act.put, List.getElem_toArray, List.getElem_cons_succ, List.getElem_cons_zero, List.setIfInBounds_toArray, List.set_cons_zero, List.set_cons_succ]
    refine wpAnyH_ready (rs := [11, 13]) (by kernel_rfl) (by simp) ?_
    refine AllReadyH.cons rfl (fun K hK => ?_) (AllReadyH.cons rfl (fun K hK => ?_) AllReadyH.nil)
    · clear hHeld
      simp only [Act.put, List.getElem_toArray, List.getElem_cons_succ, List.getElem_cons_zero, List.setIfInBounds_toArray, List.set_cons_zero, List.set_cons_succ]
      rw [if_pos (by rfl)]
      go_wp2_with (go_at_call 33; refine (HC.out _ (to_drewN (Below.refl _ _))).mono ?_; rintro e9 w1 ⟨rv, rfl, hrow, b1⟩; obtain ⟨va, vc, rfl⟩ := row_slice hrow)
      have b1 : Below W.heap.size W w1 := below_drew b1
      have hrow : w1.ownsRow W.heap.size 3 1 (.slice va m.root.length vc) m.root.length (ints m.root) := hrow
      have hb1 := cells_below hbox b1 hDlt
      have cn1 := (b1.cell (p := ⟨bn, 0, none⟩) lnW).trans cn
      refine hK.out _ _ ⟨hb1, cn1⟩ (fun hHeld => ?_)
      clear hK K
      try simp only [Act.put, List.getElem_toArray, List.getElem_cons_succ, List.getElem_cons_zero, List.setIfInBounds_toArray, List.set_cons_zero, List.set_cons_succ]
      refine wpAnyH_take (i := 12) (v := .agg #[.string nm, .int .i64 m.guest, .slice va m.root.length vc]) rfl (by kernel_rfl) (by kernel_rfl) (by kernel_rfl) (fun _ _ _ h => h) (Or.inl ⟨by rfl, fun w' hSw => by go_simp⟩) hHeld ?_
      simp only [Act.put, List.getElem_toArray, List.getElem_cons_succ, List.getElem_cons_zero, List.setIfInBounds_toArray, List.set_cons_zero, List.set_cons_succ]
      refine wpAnyH_ready (rs := [13]) (by kernel_rfl) (by simp) ?_
      refine AllReadyH.cons rfl (fun K hK => ?_) AllReadyH.nil
      clear hHeld
      simp only [Act.put, List.getElem_toArray, List.getElem_cons_succ, List.getElem_cons_zero, List.setIfInBounds_toArray, List.set_cons_zero, List.set_cons_succ]
      rw [if_pos (by rfl)]
      go_simp
      obtain ⟨X1, hX1⟩ : ∃ X, X = (w1.alloc (.cells #[.string ⟨#[]⟩, .int .i64 0, .slice none 0 0] 64)) := ⟨_, rfl⟩
      have hX1b : Below W.heap.size W X1 := by rw [hX1]; exact b1.alloc b1.size _
      have k4 : X1.heap[w1.heap.size]? = some (.cells #[.string ⟨#[]⟩, .int .i64 0, .slice none 0 0] 64) := by rw [hX1]; exact World.alloc_heap_new _ _
      have hrowX : X1.ownsRow W.heap.size 3 1 (.slice va m.root.length vc) m.root.length (ints m.root) := by rw [hX1]; exact row_blkN hrow (fun q e => Below.heap_alloc w1 _ q ((hrow.lt q e).2))
      have HH : Hid (X1.heap[D]? = some (.cells #[.int .i64 m.guest, .slice ra m.root.length rc, .slice sa m.slots.length sc, .slice fa m.refs.length fc, .slice na m.snaps.length nc] 61) ∧ X1.cell? ⟨bn, 0, none⟩ = some (.string nm)) := ⟨by rw [hX1]; exact cells_alloc hb1 _, (hX1b.cell (p := ⟨bn, 0, none⟩) lnW).trans cn⟩
      rw [← hX1]
      clear hX1
      refine hK.out _ _ HH.out (fun hHeld => ?_)
      clear hK K
      try simp only [Act.put, List.getElem_toArray, List.getElem_cons_succ, List.getElem_cons_zero, List.setIfInBounds_toArray, List.set_cons_zero, List.set_cons_succ]
      refine wpAnyH_ready (rs := [14]) (by kernel_rfl) (by simp) ?_
      refine AllReadyH.cons rfl (fun K hK => ?_) AllReadyH.nil
      clear hHeld
      simp only [Act.put, List.getElem_toArray, List.getElem_cons_succ, List.getElem_cons_zero, List.setIfInBounds_toArray, List.set_cons_zero, List.set_cons_succ]
      rw [if_pos (by rfl)]
      have hb4 : X1.heap[w1.heap.size]? = some (.cells #[.string ⟨#[]⟩, .int .i64 0, .slice none 0 0] 64) := k4
      obtain ⟨t0, t1, t2⟩ := threeC hb4
      have y0 := cells_frozen hb4 0
      have y1 := cells_frozen hb4 1
      have y2 := cells_frozen hb4 2
      have HR : Hid (CrR W (((X1.setCell ⟨w1.heap.size, 0, none⟩ (.string nm)).setCell ⟨w1.heap.size, 1, none⟩ (.int .i64 m.guest)).setCell ⟨w1.heap.size, 2, none⟩ (.slice va m.root.length vc)) B (w1.heap.size) nm m.guest (.slice va m.root.length vc) m.root) := CrR.mk3 (hX1b) (b1.size) hb4 (row_mono hrowX HK.out.2.1) (fun q e => ⟨(hrow.lt q e).1, by have := (hrow.lt q e).2; omega⟩)
      have HS : Hid ((fun X : World => X.heap[D]? = some (.cells #[.int .i64 m.guest, .slice ra m.root.length rc, .slice sa m.slots.length sc, .slice fa m.refs.length fc, .slice na m.snaps.length nc] 61) ∧ X.cell? ⟨bn, 0, none⟩ = some (.string nm)) (((X1.setCell ⟨w1.heap.size, 0, none⟩ (.string nm)).setCell ⟨w1.heap.size, 1, none⟩ (.int .i64 m.guest)).setCell ⟨w1.heap.size, 2, none⟩ (.slice va m.root.length vc))) := ⟨(heap_threeF _ _ _ (by have := b1.size; omega)).trans (HH.out.1), (by have := HR.out.bel.cell (p := ⟨bn, 0, none⟩) lnW; exact this.trans cn)⟩
      clear hb4
      go_simp
      refine hK.out _ _ HS.out (fun hHeld => ?_)
      clear hK K hHeld
      try simp only [Act.put, List.getElem_toArray, List.getElem_cons_succ, List.getElem_cons_zero, List.setIfInBounds_toArray, List.set_cons_zero, List.set_cons_succ]
      refine wpAnyH_done (by kernel_rfl) ?_ _
      go_wp2_with fail
      go_meet
      exact ⟨_, _, rfl, HR⟩
    · clear hHeld
      simp only [Act.put, List.getElem_toArray, List.getElem_cons_succ, List.getElem_cons_zero, List.setIfInBounds_toArray, List.set_cons_zero, List.set_cons_succ]
      rw [if_pos (by rfl)]
      go_simp
      obtain ⟨X1, hX1⟩ : ∃ X, X = (W.alloc (.cells #[.string ⟨#[]⟩, .int .i64 0, .slice none 0 0] 64)).drew := ⟨_, rfl⟩
      have b0 : Below W.heap.size W X1 := by rw [hX1]; exact to_drewN ((Below.refl _ _).alloc (Nat.le_refl _) _)
      have hz1 : X1.heap.size = W.heap.size + 1 := by rw [hX1]; show (W.alloc (.cells #[.string ⟨#[]⟩, .int .i64 0, .slice none 0 0] 64)).heap.size = _; simp
      have k4 : X1.heap[W.heap.size]? = some (.cells #[.string ⟨#[]⟩, .int .i64 0, .slice none 0 0] 64) := by rw [hX1]; exact World.alloc_heap_new _ _
      have HH0 : Hid (X1.heap[D]? = some (.cells #[.int .i64 m.guest, .slice ra m.root.length rc, .slice sa m.slots.length sc, .slice fa m.refs.length fc, .slice na m.snaps.length nc] 61) ∧ X1.cell? ⟨bn, 0, none⟩ = some (.string nm)) := ⟨cells_below hbox b0 hDlt, (b0.cell (p := ⟨bn, 0, none⟩) lnW).trans cn⟩
      rw [← hX1]
      clear hX1
      refine hK.out _ _ HH0.out (fun hHeld => ?_)
      clear hK K
      try simp only [Act.put, List.getElem_toArray, List.getElem_cons_succ, List.getElem_cons_zero, List.setIfInBounds_toArray, List.set_cons_zero, List.set_cons_succ]
      refine wpAnyH_ready (rs := [11]) (by kernel_rfl) (by simp) ?_
      refine AllReadyH.cons rfl (fun K hK => ?_) AllReadyH.nil
      clear hHeld
      simp only [Act.put, List.getElem_toArray, List.getElem_cons_succ, List.getElem_cons_zero, List.setIfInBounds_toArray, List.set_cons_zero, List.set_cons_succ]
      rw [if_pos (by rfl)]
      go_wp2_with (go_at_call 33; refine (HC.out _ (b0)).mono ?_; rintro e9 w1 ⟨rv, rfl, hrow, b1⟩; obtain ⟨va, vc, rfl⟩ := row_slice hrow)
      have b2 : Below W.heap.size W w1 := b0.trans (b1.mono (by omega))
      have k4 := cells_below k4 b1 (by omega)
      have HH : Hid (w1.heap[D]? = some (.cells #[.int .i64 m.guest, .slice ra m.root.length rc, .slice sa m.slots.length sc, .slice fa m.refs.length fc, .slice na m.snaps.length nc] 61) ∧ w1.cell? ⟨bn, 0, none⟩ = some (.string nm)) := ⟨cells_below hbox b2 hDlt, (b2.cell (p := ⟨bn, 0, none⟩) lnW).trans cn⟩
      refine hK.out _ _ HH.out (fun hHeld => ?_)
      clear hK K
      try simp only [Act.put, List.getElem_toArray, List.getElem_cons_succ, List.getElem_cons_zero, List.setIfInBounds_toArray, List.set_cons_zero, List.set_cons_succ]
      refine wpAnyH_take (i := 12) (v := .agg #[.string nm, .int .i64 m.guest, .slice va m.root.length vc]) rfl (by kernel_rfl) (by kernel_rfl) (by kernel_rfl) (fun _ _ _ h => h) (Or.inl ⟨by rfl, fun w' hSw => by go_simp⟩) hHeld ?_
      simp only [Act.put, List.getElem_toArray, List.getElem_cons_succ, List.getElem_cons_zero, List.setIfInBounds_toArray, List.set_cons_zero, List.set_cons_succ]
      refine wpAnyH_ready (rs := [14]) (by kernel_rfl) (by simp) ?_
      refine AllReadyH.cons rfl (fun K hK => ?_) AllReadyH.nil
      clear hHeld
      simp only [Act.put, List.getElem_toArray, List.getElem_cons_succ, List.getElem_cons_zero, List.setIfInBounds_toArray, List.set_cons_zero, List.set_cons_succ]
      rw [if_pos (by rfl)]
      have hb4 : w1.heap[W.heap.size]? = some (.cells #[.string ⟨#[]⟩, .int .i64 0, .slice none 0 0] 64) := k4
      obtain ⟨t0, t1, t2⟩ := threeC hb4
      have y0 := cells_frozen hb4 0
      have y1 := cells_frozen hb4 1
      have y2 := cells_frozen hb4 2
      have HR : Hid (CrR W (((w1.setCell ⟨W.heap.size, 0, none⟩ (.string nm)).setCell ⟨W.heap.size, 1, none⟩ (.int .i64 m.guest)).setCell ⟨W.heap.size, 2, none⟩ (.slice va m.root.length vc)) B (W.heap.size) nm m.guest (.slice va m.root.length vc) m.root) := CrR.mk3 (b2) (Nat.le_refl W.heap.size) hb4 (row_mono hrow (by have := HK.out.2.1; omega)) (fun q e => ⟨by have := (hrow.lt q e).1; omega, by have := (hrow.lt q e).1; omega⟩)
      have HS : Hid ((fun X : World => X.heap[D]? = some (.cells #[.int .i64 m.guest, .slice ra m.root.length rc, .slice sa m.slots.length sc, .slice fa m.refs.length fc, .slice na m.snaps.length nc] 61) ∧ X.cell? ⟨bn, 0, none⟩ = some (.string nm)) (((w1.setCell ⟨W.heap.size, 0, none⟩ (.string nm)).setCell ⟨W.heap.size, 1, none⟩ (.int .i64 m.guest)).setCell ⟨W.heap.size, 2, none⟩ (.slice va m.root.length vc))) := ⟨(heap_threeF _ _ _ (by have := Nat.le_refl W.heap.size; omega)).trans (HH.out.1), (by have := HR.out.bel.cell (p := ⟨bn, 0, none⟩) lnW; exact this.trans cn)⟩
      clear hb4
      go_simp
      refine hK.out _ _ HS.out (fun hHeld => ?_)
      clear hK K hHeld
      try simp only [Act.put, List.getElem_toArray, List.getElem_cons_succ, List.getElem_cons_zero, List.setIfInBounds_toArray, List.set_cons_zero, List.set_cons_succ]
      refine wpAnyH_done (by kernel_rfl) ?_ _
      go_wp2_with fail
      go_meet
      exact ⟨_, _, rfl, HR⟩
  case rest =>
  obtain ⟨b4, rv, rfl, HR⟩ := hcut
  obtain ⟨W1, hW1⟩ : ∃ X, X = wc := ⟨_, rfl⟩
  subst hW1
  obtain ⟨va, vc, rfl⟩ := row_slice HR.out.row
  have b1 := HR.out.bel
  have hge := HR.out.ge
  have hbx1 := HR.out.box
  have ci1 := (b1.cell (p := ⟨bi, 0, none⟩) liW).trans ci
  have hbD := cells_below hbox b1 hDlt
  obtain ⟨o0, o1, o2, o3, o4⟩ := five hbD
  have hb4lt := (Array.getElem?_eq_some_iff.1 hbx1).1
  have hs1 := b1.size
  have HI : Hid (∀ X N, Below W1.heap.size W1 X → X.heap[N]? = some (.cells #[.string nm, .int .i64 m.guest, .slice va m.root.length vc] 64) → W1.heap.size ≤ N → Calls Try.prog 34 #[.slice na m.snaps.length nc, .int .i64 (k : Int), .slice (some ⟨N, 0, none⟩) 1 1] X fun r w' => ∃ v', r = .returned v' ∧ DTo W (w'.setCell ⟨D, 4, none⟩ v') B D m val nilV (insM m k (nm, m.guest, m.root)) (insVal val v' (.slice va m.root.length vc) k) ∧ w'.heap[D]? = some (.cells #[.int .i64 m.guest, .slice ra m.root.length rc, .slice sa m.slots.length sc, .slice fa m.refs.length fc, .slice na m.snaps.length nc] 61) ∧ w'.heap[b4]? = some (.cells #[.string nm, .int .i64 m.guest, .slice va m.root.length vc] 64) ∧ w'.cell? ⟨bi, 0, none⟩ = some (.int .i64 (k : Int)) ∧ ∃ a c, v' = .slice a (m.snaps.length + 1) c) := fun X N hX hN hNge => by
    have hD := HK.out.1.below (Below.on b1 hX)
    have hrow : X.ownsRow B 64 3 (val .snaps) m.snaps.length (flatN m.snaps (fun j => val (.sr j))) := hD.own.row .snaps (Live.snaps m)
    have hins := insert_is B m.snaps.length k N (val .snaps) _ (.string nm) (.int .i64 m.guest) (.slice va m.root.length vc) X (Nat.le_trans HK.out.2.1 (Nat.le_trans hs1 hX.size)) (by omega) hk hrow (flatN_one hD.own) hN (fun e => by have := ((HK.out.1.own.row .snaps (Live.snaps m)).lt N e).2; omega) (by intro u hu; simp at hu; rcases hu with rfl | rfl | rfl <;> rfl)
    rw [HK.out.2.2] at hins
    refine hins.mono ?_
    rintro r w' ⟨v', rfl, k1, k2, k3⟩
    have hne : ∀ q, W.heap.size ≤ q → ¬ (val .snaps).ownBlock = some q := fun q hq e => by have := ((HK.out.1.own.row .snaps (Live.snaps m)).lt q e).2; omega
    have hrv : X.ownsRow B 3 1 (.slice va m.root.length vc) m.root.length (ints m.root) := row_blkN HR.out.row (fun q e => hX.block q ((HR.out.row.lt q e).2))
    have k2' : X.grownBy w' (val .snaps).ownBlock := by rw [HK.out.2.2]; exact k2
    have hT := DTo.ins (s := (nm, m.guest, m.root)) hD (Nat.le_trans HK.out.2.1 (Nat.le_trans hs1 hX.size)) hk hrv (fun b hb g hg x => by have := (HR.out.new g hg).1; have := ((HK.out.1.own.row b hb).lt g x).2; omega) (fun e => by have := (HR.out.new D e).1; omega) k1 k2' (by rw [HK.out.2.2]; exact k3)
    have hbel : Below B X w' := Below.grown (Below.refl _ _) k2' (Nat.le_trans HK.out.2.1 (Nat.le_trans hs1 hX.size)) (fun q e => ((hrow).lt q e).1)
    refine ⟨v', rfl, DTo.first (Below.on b1 hX) HK.out.2.1 hT (fun q e => (HR.out.new q e).1), ?_, ?_, ?_, row_slice k1⟩
    · exact (k2'.block D (Nat.lt_of_lt_of_le hDlt (Nat.le_trans hs1 hX.size)) (fun e => HK.out.1.far .snaps (Live.snaps m) e.symm)).trans (cells_below hbD hX (Nat.lt_of_lt_of_le hDlt hs1))
    · exact (k2'.block b4 (Nat.lt_of_lt_of_le hb4lt hX.size) (fun e => hne b4 hge e.symm)).trans (cells_below hbx1 hX hb4lt)
    · exact (hbel.cell (p := ⟨bi, 0, none⟩) liB).trans ((hX.cell (p := ⟨bi, 0, none⟩) (Nat.lt_of_lt_of_le liW hs1)).trans ci1)
  go_upto_region 1 with fail
  refine wp_region_held_drew (S := (fun X : World => X.cell? ⟨bi, 0, none⟩ = some (.int .i64 (k : Int)) ∧ X.heap[b4]? = some (.cells #[.string nm, .int .i64 m.guest, .slice va m.root.length vc] 64))) (by kernel_rfl) ⟨ci1, hbx1⟩ (fun hHeld => ?_)
  refine wpAnyH_take (i := 0) (v := .pointer (some ⟨D, 0, none⟩)) rfl (by kernel_rfl) (by kernel_rfl) (by kernel_rfl) (fun _ _ _ h => h) (Or.inl ⟨by rfl, fun w' hSw => by go_simp⟩) hHeld ?_
  simp only [Act.put, List.getElem_toArray, List.getElem_cons_succ, List.getElem_cons_zero, List.setIfInBounds_toArray, List.set_cons_zero, List.set_cons_succ]
  refine wpAnyH_take (i := 1) (v := .pointer (some ⟨D, 0, none⟩)) rfl (by kernel_rfl) (by kernel_rfl) (by kernel_rfl) (fun _ _ _ h => h) (Or.inl ⟨by rfl, fun w' hSw => by go_simp⟩) hHeld ?_
  simp only [Act.put, List.getElem_toArray, List.getElem_cons_succ, List.getElem_cons_zero, List.setIfInBounds_toArray, List.set_cons_zero, List.set_cons_succ]
  refine wpAnyH_take (i := 2) (v := .pointer (some ⟨D, 0, none⟩)) rfl (by kernel_rfl) (by kernel_rfl) (by kernel_rfl) (fun _ _ _ h => h) (Or.inl ⟨by rfl, fun w' hSw => by go_simp⟩) hHeld ?_
  simp only [Act.put, List.getElem_toArray, List.getElem_cons_succ, List.getElem_cons_zero, List.setIfInBounds_toArray, List.set_cons_zero, List.set_cons_succ]
  refine wpAnyH_take (i := 3) (v := .pointer (some ⟨D, 0, none⟩)) rfl (by kernel_rfl) (by kernel_rfl) (by kernel_rfl) (fun _ _ _ h => h) (Or.inl ⟨by rfl, fun w' hSw => by go_simp⟩) hHeld ?_
  simp only [Act.put, List.getElem_toArray, List.getElem_cons_succ, List.getElem_cons_zero, List.setIfInBounds_toArray, List.set_cons_zero, List.set_cons_succ]
  refine wpAnyH_take (i := 4) (v := .pointer (some ⟨D, 4, none⟩)) rfl (by kernel_rfl) (by kernel_rfl) (by kernel_rfl) (fun _ _ _ h => h) (Or.inl ⟨by rfl, fun w' hSw => by go_simp⟩) hHeld ?_
  simp only [Act.put, List.getElem_toArray, List.getElem_cons_succ, List.getElem_cons_zero, List.setIfInBounds_toArray, List.set_cons_zero, List.set_cons_succ]
  refine wpAnyH_take (i := 6) (v := .int .i64 (k : Int)) rfl (by kernel_rfl) (by kernel_rfl) (by kernel_rfl) (fun _ _ _ h => h) (Or.inl ⟨by rfl, fun w' hSw => by obtain ⟨qa, qb⟩ := hSw; obtain ⟨j0, j1, j2⟩ := threeC qb; go_simp⟩) hHeld ?_
  simp only [Act.put, List.getElem_toArray, List.getElem_cons_succ, List.getElem_cons_zero, List.setIfInBounds_toArray, List.set_cons_zero, List.set_cons_succ]
  refine wpAnyH_take (i := 7) (v := .agg #[.string nm, .int .i64 m.guest, .slice va m.root.length vc]) rfl (by kernel_rfl) (by kernel_rfl) (by kernel_rfl) (fun _ _ _ h => h) (Or.inl ⟨by rfl, fun w' hSw => by obtain ⟨qa, qb⟩ := hSw; obtain ⟨j0, j1, j2⟩ := threeC qb; go_simp⟩) hHeld ?_
  simp only [Act.put, List.getElem_toArray, List.getElem_cons_succ, List.getElem_cons_zero, List.setIfInBounds_toArray, List.set_cons_zero, List.set_cons_succ]
  refine wpAnyH_ready (rs := [5, 8]) (by kernel_rfl) (by simp) ?_
  refine AllReadyH.cons rfl (fun K hK => ?_) (AllReadyH.cons rfl (fun K hK => ?_) AllReadyH.nil)
  · clear hHeld
    simp only [Act.put, List.getElem_toArray, List.getElem_cons_succ, List.getElem_cons_zero, List.setIfInBounds_toArray, List.set_cons_zero, List.set_cons_succ]
    rw [if_pos (by rfl)]
    have o4' : W1.drew.cell? ⟨D, 4, none⟩ = some (.slice na m.snaps.length nc) := o4
    go_simp
    refine hK.out _ _ ⟨ci1, hbx1⟩ (fun hHeld => ?_)
    clear hK K
    try simp only [Act.put, List.getElem_toArray, List.getElem_cons_succ, List.getElem_cons_zero, List.setIfInBounds_toArray, List.set_cons_zero, List.set_cons_succ]
    refine wpAnyH_ready (rs := [8]) (by kernel_rfl) (by simp) ?_
    refine AllReadyH.cons rfl (fun K hK => ?_) AllReadyH.nil
    clear hHeld
    simp only [Act.put, List.getElem_toArray, List.getElem_cons_succ, List.getElem_cons_zero, List.setIfInBounds_toArray, List.set_cons_zero, List.set_cons_succ]
    rw [if_pos (by rfl)]
    go_simp
    have HS2 : Hid ((fun X : World => X.cell? ⟨bi, 0, none⟩ = some (.int .i64 (k : Int)) ∧ X.heap[b4]? = some (.cells #[.string nm, .int .i64 m.guest, .slice va m.root.length vc] 64)) (W1.alloc (.cells #[.string nm, .int .i64 m.guest, .slice va m.root.length vc] 64)).drew) := ⟨(((Below.refl _ _).alloc (Nat.le_refl _) _).cell (p := ⟨bi, 0, none⟩) (Nat.lt_of_lt_of_le liW hs1)).trans ci1, cells_alloc hbx1 _⟩
    obtain ⟨X2, hX2⟩ : ∃ X, X = (W1.alloc (.cells #[.string nm, .int .i64 m.guest, .slice va m.root.length vc] 64)).drew := ⟨_, rfl⟩
    have b2 : Below W1.heap.size W1 X2 := by rw [hX2]; exact to_drewN ((Below.refl _ _).alloc (Nat.le_refl _) _)
    have k2 : X2.heap[W1.heap.size]? = some (.cells #[.string nm, .int .i64 m.guest, .slice va m.root.length vc] 64) := by rw [hX2]; exact World.alloc_heap_new _ _
    rw [← hX2] at HS2 ⊢
    clear hX2
    refine hK.out _ _ HS2.out (fun hHeld => ?_)
    clear hK K
    try simp only [Act.put, List.getElem_toArray, List.getElem_cons_succ, List.getElem_cons_zero, List.setIfInBounds_toArray, List.set_cons_zero, List.set_cons_succ]
    refine wpAnyH_ready (rs := [9]) (by kernel_rfl) (by simp) ?_
    refine AllReadyH.cons rfl (fun K hK => ?_) AllReadyH.nil
    clear hHeld
    simp only [Act.put, List.getElem_toArray, List.getElem_cons_succ, List.getElem_cons_zero, List.setIfInBounds_toArray, List.set_cons_zero, List.set_cons_succ]
    rw [if_pos (by rfl)]
    go_wp2_with (go_at_call 34; refine (HI.out _ W1.heap.size (b2) (k2) (Nat.le_refl _)).mono ?_; rintro e9 w2 ⟨v2, rfl, hT, hD2, h42, hi2, a2, c2, rfl⟩; have HT : Hid (DTo W (w2.setCell ⟨D, 4, none⟩ (.slice a2 (m.snaps.length + 1) c2)) B D m val nilV (insM m k (nm, m.guest, m.root)) (insVal val (.slice a2 (m.snaps.length + 1) c2) (.slice va m.root.length vc) k)) := hT; clear hT)
    refine hK.out _ _ ⟨hi2, h42⟩ (fun hHeld => ?_)
    clear hK K
    try simp only [Act.put, List.getElem_toArray, List.getElem_cons_succ, List.getElem_cons_zero, List.setIfInBounds_toArray, List.set_cons_zero, List.set_cons_succ]
    refine wpAnyH_take (i := 10) (v := .pointer (some ⟨D, 0, none⟩)) rfl (by kernel_rfl) (by kernel_rfl) (by kernel_rfl) (fun _ _ _ h => h) (Or.inl ⟨by rfl, fun w' hSw => by go_simp⟩) hHeld ?_
    simp only [Act.put, List.getElem_toArray, List.getElem_cons_succ, List.getElem_cons_zero, List.setIfInBounds_toArray, List.set_cons_zero, List.set_cons_succ]
    refine wpAnyH_take (i := 11) (v := .pointer (some ⟨D, 0, none⟩)) rfl (by kernel_rfl) (by kernel_rfl) (by kernel_rfl) (fun _ _ _ h => h) (Or.inl ⟨by rfl, fun w' hSw => by go_simp⟩) hHeld ?_
    simp only [Act.put, List.getElem_toArray, List.getElem_cons_succ, List.getElem_cons_zero, List.setIfInBounds_toArray, List.set_cons_zero, List.set_cons_succ]
    refine wpAnyH_take (i := 12) (v := .pointer (some ⟨D, 4, none⟩)) rfl (by kernel_rfl) (by kernel_rfl) (by kernel_rfl) (fun _ _ _ h => h) (Or.inl ⟨by rfl, fun w' hSw => by go_simp⟩) hHeld ?_
    simp only [Act.put, List.getElem_toArray, List.getElem_cons_succ, List.getElem_cons_zero, List.setIfInBounds_toArray, List.set_cons_zero, List.set_cons_succ]
    refine wpAnyH_ready (rs := [13]) (by kernel_rfl) (by simp) ?_
    refine AllReadyH.cons rfl (fun K hK => ?_) AllReadyH.nil
    clear hHeld
    simp only [Act.put, List.getElem_toArray, List.getElem_cons_succ, List.getElem_cons_zero, List.setIfInBounds_toArray, List.set_cons_zero, List.set_cons_succ]
    rw [if_pos (by rfl)]
    have f4 := cells_frozen hD2 4
    obtain ⟨p0, p1, p2, p3, p4⟩ := five hD2
    have HS : Hid ((fun X : World => X.cell? ⟨bi, 0, none⟩ = some (.int .i64 (k : Int)) ∧ X.heap[b4]? = some (.cells #[.string nm, .int .i64 m.guest, .slice va m.root.length vc] 64)) (w2.setCell ⟨D, 4, none⟩ (.slice a2 (m.snaps.length + 1) c2))) := ⟨(((Below.refl (D) w2).setCell (Nat.le_refl _) _).cell (p := ⟨bi, 0, none⟩) (Nat.lt_of_lt_of_le liB hDB)).trans hi2, cells_other h42 (by omega) _ _⟩
    clear hD2 hi2 h42
    go_simp
    refine hK.out _ _ HS.out (fun hHeld => ?_)
    clear hK K hHeld
    try simp only [Act.put, List.getElem_toArray, List.getElem_cons_succ, List.getElem_cons_zero, List.setIfInBounds_toArray, List.set_cons_zero, List.set_cons_succ]
    refine wpAnyH_done (by kernel_rfl) ?_ _
    go_wp2_with fail
    go_end0
    first | exact ⟨_, rfl, HT.out⟩ | exact ⟨_, _, rfl, HT.out⟩ | exact ⟨_, rfl, _, rfl, HT.out⟩ | exact ⟨rfl, _, HT.out⟩
  · clear hHeld
    simp only [Act.put, List.getElem_toArray, List.getElem_cons_succ, List.getElem_cons_zero, List.setIfInBounds_toArray, List.set_cons_zero, List.set_cons_succ]
    rw [if_pos (by rfl)]
    go_simp
    have HS2 : Hid ((fun X : World => X.cell? ⟨bi, 0, none⟩ = some (.int .i64 (k : Int)) ∧ X.heap[b4]? = some (.cells #[.string nm, .int .i64 m.guest, .slice va m.root.length vc] 64)) (W1.alloc (.cells #[.string nm, .int .i64 m.guest, .slice va m.root.length vc] 64)).drew) := ⟨(((Below.refl _ _).alloc (Nat.le_refl _) _).cell (p := ⟨bi, 0, none⟩) (Nat.lt_of_lt_of_le liW hs1)).trans ci1, cells_alloc hbx1 _⟩
    obtain ⟨X2, hX2⟩ : ∃ X, X = (W1.alloc (.cells #[.string nm, .int .i64 m.guest, .slice va m.root.length vc] 64)).drew := ⟨_, rfl⟩
    have b2 : Below W1.heap.size W1 X2 := by rw [hX2]; exact to_drewN ((Below.refl _ _).alloc (Nat.le_refl _) _)
    have k2 : X2.heap[W1.heap.size]? = some (.cells #[.string nm, .int .i64 m.guest, .slice va m.root.length vc] 64) := by rw [hX2]; exact World.alloc_heap_new _ _
    rw [← hX2] at HS2 ⊢
    clear hX2
    have o4' := (b2.cell (p := ⟨D, 4, none⟩) (Nat.lt_of_lt_of_le hDlt hs1)).trans o4
    refine hK.out _ _ HS2.out (fun hHeld => ?_)
    clear hK K
    try simp only [Act.put, List.getElem_toArray, List.getElem_cons_succ, List.getElem_cons_zero, List.setIfInBounds_toArray, List.set_cons_zero, List.set_cons_succ]
    refine wpAnyH_ready (rs := [5]) (by kernel_rfl) (by simp) ?_
    refine AllReadyH.cons rfl (fun K hK => ?_) AllReadyH.nil
    clear hHeld
    simp only [Act.put, List.getElem_toArray, List.getElem_cons_succ, List.getElem_cons_zero, List.setIfInBounds_toArray, List.set_cons_zero, List.set_cons_succ]
    rw [if_pos (by rfl)]
    go_simp
    refine hK.out _ _ HS2.out (fun hHeld => ?_)
    clear hK K
    try simp only [Act.put, List.getElem_toArray, List.getElem_cons_succ, List.getElem_cons_zero, List.setIfInBounds_toArray, List.set_cons_zero, List.set_cons_succ]
    refine wpAnyH_ready (rs := [9]) (by kernel_rfl) (by simp) ?_
    refine AllReadyH.cons rfl (fun K hK => ?_) AllReadyH.nil
    clear hHeld
    simp only [Act.put, List.getElem_toArray, List.getElem_cons_succ, List.getElem_cons_zero, List.setIfInBounds_toArray, List.set_cons_zero, List.set_cons_succ]
    rw [if_pos (by rfl)]
    go_wp2_with (go_at_call 34; refine (HI.out _ W1.heap.size (b2) (k2) (Nat.le_refl _)).mono ?_; rintro e9 w2 ⟨v2, rfl, hT, hD2, h42, hi2, a2, c2, rfl⟩; have HT : Hid (DTo W (w2.setCell ⟨D, 4, none⟩ (.slice a2 (m.snaps.length + 1) c2)) B D m val nilV (insM m k (nm, m.guest, m.root)) (insVal val (.slice a2 (m.snaps.length + 1) c2) (.slice va m.root.length vc) k)) := hT; clear hT)
    refine hK.out _ _ ⟨hi2, h42⟩ (fun hHeld => ?_)
    clear hK K
    try simp only [Act.put, List.getElem_toArray, List.getElem_cons_succ, List.getElem_cons_zero, List.setIfInBounds_toArray, List.set_cons_zero, List.set_cons_succ]
    refine wpAnyH_take (i := 10) (v := .pointer (some ⟨D, 0, none⟩)) rfl (by kernel_rfl) (by kernel_rfl) (by kernel_rfl) (fun _ _ _ h => h) (Or.inl ⟨by rfl, fun w' hSw => by go_simp⟩) hHeld ?_
    simp only [Act.put, List.getElem_toArray, List.getElem_cons_succ, List.getElem_cons_zero, List.setIfInBounds_toArray, List.set_cons_zero, List.set_cons_succ]
    refine wpAnyH_take (i := 11) (v := .pointer (some ⟨D, 0, none⟩)) rfl (by kernel_rfl) (by kernel_rfl) (by kernel_rfl) (fun _ _ _ h => h) (Or.inl ⟨by rfl, fun w' hSw => by go_simp⟩) hHeld ?_
    simp only [Act.put, List.getElem_toArray, List.getElem_cons_succ, List.getElem_cons_zero, List.setIfInBounds_toArray, List.set_cons_zero, List.set_cons_succ]
    refine wpAnyH_take (i := 12) (v := .pointer (some ⟨D, 4, none⟩)) rfl (by kernel_rfl) (by kernel_rfl) (by kernel_rfl) (fun _ _ _ h => h) (Or.inl ⟨by rfl, fun w' hSw => by go_simp⟩) hHeld ?_
    simp only [Act.put, List.getElem_toArray, List.getElem_cons_succ, List.getElem_cons_zero, List.setIfInBounds_toArray, List.set_cons_zero, List.set_cons_succ]
    refine wpAnyH_ready (rs := [13]) (by kernel_rfl) (by simp) ?_
    refine AllReadyH.cons rfl (fun K hK => ?_) AllReadyH.nil
    clear hHeld
    simp only [Act.put, List.getElem_toArray, List.getElem_cons_succ, List.getElem_cons_zero, List.setIfInBounds_toArray, List.set_cons_zero, List.set_cons_succ]
    rw [if_pos (by rfl)]
    have f4 := cells_frozen hD2 4
    obtain ⟨p0, p1, p2, p3, p4⟩ := five hD2
    have HS : Hid ((fun X : World => X.cell? ⟨bi, 0, none⟩ = some (.int .i64 (k : Int)) ∧ X.heap[b4]? = some (.cells #[.string nm, .int .i64 m.guest, .slice va m.root.length vc] 64)) (w2.setCell ⟨D, 4, none⟩ (.slice a2 (m.snaps.length + 1) c2))) := ⟨(((Below.refl (D) w2).setCell (Nat.le_refl _) _).cell (p := ⟨bi, 0, none⟩) (Nat.lt_of_lt_of_le liB hDB)).trans hi2, cells_other h42 (by omega) _ _⟩
    clear hD2 hi2 h42
    go_simp
    refine hK.out _ _ HS.out (fun hHeld => ?_)
    clear hK K hHeld
    try simp only [Act.put, List.getElem_toArray, List.getElem_cons_succ, List.getElem_cons_zero, List.setIfInBounds_toArray, List.set_cons_zero, List.set_cons_succ]
    refine wpAnyH_done (by kernel_rfl) ?_ _
    go_wp2_with fail
    go_end0
    first | exact ⟨_, rfl, HT.out⟩ | exact ⟨_, _, rfl, HT.out⟩ | exact ⟨_, rfl, _, rfl, HT.out⟩ | exact ⟨rfl, _, HT.out⟩

theorem with_turn {w : World} {m M0 : ImgD} {N k bt bi : Nat} (ct : w.cell? ⟨bt, 0, none⟩ = some (.func (.func N) #[] #[])) (ci : w.cell? ⟨bi, 0, none⟩ = some (.int .i64 (k : Int))) (lt : bt < w.heap.size) (li : bi < w.heap.size)
    (hN : ∀ (args : Array Value) (w : World), (callFunc N args).run Try.prog w = .ok (.enter N args) w) (hT : ∀ (W : World) (D B : Nat) (val : Nm → Value), B ≤ W.heap.size → DK W B D val m → Calls Try.prog N #[.pointer (some ⟨D, 0, none⟩), .int .i64 (k : Int)] W fun r W' => ∃ val', r = .returned (.tuple #[]) ∧ DTo W W' B D m val nilV M0 val') :
    Turns w 73 #[.pointer (some ⟨bt, 0, none⟩), .pointer (some ⟨bi, 0, none⟩)] m (some M0) := by
  intro W D B val hb h1 h2 hK
  have ct := (hb.cell (p := ⟨bt, 0, none⟩) lt).trans ct
  have ci := (hb.cell (p := ⟨bi, 0, none⟩) li).trans ci
  have hcall := hT W D B val h2 hK
  show Calls Try.prog 73 #[.pointer (some ⟨D, 0, none⟩), .pointer (some ⟨bt, 0, none⟩), .pointer (some ⟨bi, 0, none⟩)] W (fun r W' => ∃ val', r = .returned (.tuple #[]) ∧ DTo W W' B D m val nilV M0 val')
  clear hT hK hb
  go_enter Try.func73, Try.ntmps73
  go_wp2_with fail
  refine hcall.mono ?_
  rintro e w1 ⟨val1, rfl, hD⟩
  dsimp only
  have HD : Hid (DTo W w1 B D m val nilV M0 val1) := hD
  clear hD
  go_wp2_with fail
  go_end0
  exact ⟨_, rfl, HD.out⟩

set_option maxHeartbeats 4000000 in
theorem revert_desk {W : World} {B D k : Nat} {val : Nm → Value} {m : ImgD} (hK : DK W B D val m) (hB : B ≤ W.heap.size) (hk : k < m.snaps.length) (h3 : m.snaps.length ≤ 1000) (hs : shapeE m = 0) :
    Calls Try.prog 36 #[.pointer (some ⟨D, 0, none⟩), .int .i64 k] W fun r W' => ∃ val', r = .returned (.tuple #[]) ∧ DTo W W' B D m val nilV (revertM m k) val' := by
  have hDlt := hK.lt
  have hge := hK.ge
  obtain ⟨na, nc, e3, hna⟩ := hK.own.forms .snaps (Live.snaps m)
  have e3 : val .snaps = .slice na m.snaps.length nc := e3
  obtain ⟨nb, rfl⟩ := hna (by show 0 < m.snaps.length; omega)
  have hrow : W.ownsRow B 64 3 (val .snaps) m.snaps.length (flatN m.snaps (fun j => val (.sr j))) := hK.own.row .snaps (Live.snaps m)
  rw [e3] at hrow
  have hcx := fun i (hi : i < 3) => hrow.cellAt (k * 3 + i) (by omega)
  obtain ⟨g0, g1, g2⟩ := flatN_get (qv := fun j => val (.sr j)) hk
  obtain ⟨qa, qc, eq, _⟩ := hK.own.forms (.sr k) (Live.sr hk)
  have k0 : W.cell? ⟨nb, k * 3, none⟩ = _ := (hcx 0 (by omega)).trans g0
  have k1 := (hcx 1 (by omega)).trans g1
  have k2 : W.cell? ⟨nb, k * 3 + 1 + 1, none⟩ = _ := (hcx 2 (by omega)).trans g2
  have hsr : Sl W (val (.sr k)) (m.snaps.getD k default).2.2 := row_sl (hK.own.row (.sr k) (Live.sr hk))
  have hq4 : (m.snaps.getD k default).2.2.length ≤ 4 := by
    have hm : m.snaps.getD k default ∈ m.snaps := by rw [show m.snaps.getD k default = m.snaps[k] by simp [List.getD, hk]]; exact List.getElem_mem hk
    obtain ⟨f1, f2, f3, _⟩ := snap_fit hs (List.mem_cons_of_mem _ hm)
    omega
  have HM : Hid (revertM m k = { { m with guest := (m.snaps.getD k default).2.1 } with root := (m.snaps.getD k default).2.2 }) := rfl
  have eq : val (.sr k) = .slice qa (m.snaps.getD k default).2.2.length qc := eq
  obtain ⟨⟨sn, sg, sr⟩, hsn⟩ : ∃ s, s = m.snaps.getD k default := ⟨_, rfl⟩
  rw [← hsn] at k0 k1 hsr hq4 HM eq
  dsimp only at k0 k1 k2 hsr hq4 eq
  rw [eq] at k2 hsr
  clear hsn eq
  have c4 : W.cell? ⟨D, 4, none⟩ = some (.slice (some ⟨nb, 0, none⟩) m.snaps.length nc) := by have := hK.five.2.2.2.2; rw [e3] at this; exact this
  have hnbl : nb < W.heap.size := (row_lt hrow).2.1
  have HC : Hid (∀ X, Below W.heap.size W X → Calls Try.prog 33 #[.slice qa sr.length qc] X fun r w' => ∃ v', r = .returned v' ∧ w'.ownsRow X.heap.size 3 1 v' sr.length (ints sr) ∧ Below X.heap.size X w') := fun X hX => clone_ints (hsr.below hX) (by have := room_is; omega)
  have HK : Hid (DK W B D val m ∧ B ≤ W.heap.size) := ⟨hK, hB⟩
  have hkn : (k : Int) < (m.snaps.length : Int) := by omega
  clear hK hB hrow hcx g0 g1 g2 hna e3 hsr
  go_enter Try.func36, Try.ntmps36
  go_upto_region 1 with fail
  have hb0 : Below W.heap.size W (W.alloc (.cells #[.string sn, .int .i64 sg, .slice qa sr.length qc] 64)) := (Below.refl _ _).alloc (Nat.le_refl _) _
  have hbx : (W.alloc (.cells #[.string sn, .int .i64 sg, .slice qa sr.length qc] 64)).heap[W.heap.size]? = some (.cells #[.string sn, .int .i64 sg, .slice qa sr.length qc] 64) := World.alloc_heap_new _ _
  refine wp_region_held_drew (S := (fun X : World => X.heap[W.heap.size]? = some (.cells #[.string sn, .int .i64 sg, .slice qa sr.length qc] 64))) (by kernel_rfl) hbx (fun hHeld => ?_)
  refine wpAnyH_take (i := 0) (v := .pointer (some ⟨D, 0, none⟩)) rfl (by kernel_rfl) (by kernel_rfl) (by kernel_rfl) (fun _ _ _ h => h) (Or.inl ⟨by rfl, fun w' hSw => by go_simp⟩) hHeld ?_
  simp only [Act.put, List.getElem_toArray, List.getElem_cons_succ, List.getElem_cons_zero, List.setIfInBounds_toArray, List.set_cons_zero, List.set_cons_succ]
  refine wpAnyH_take (i := 1) (v := .pointer (some ⟨D, 0, none⟩)) rfl (by kernel_rfl) (by kernel_rfl) (by kernel_rfl) (fun _ _ _ h => h) (Or.inl ⟨by rfl, fun w' hSw => by go_simp⟩) hHeld ?_
  simp only [Act.put, List.getElem_toArray, List.getElem_cons_succ, List.getElem_cons_zero, List.setIfInBounds_toArray, List.set_cons_zero, List.set_cons_succ]
  refine wpAnyH_take (i := 2) (v := .pointer (some ⟨W.heap.size, 1, none⟩)) rfl (by kernel_rfl) (by kernel_rfl) (by kernel_rfl) (fun _ _ _ h => h) (Or.inl ⟨by rfl, fun w' hSw => by go_simp⟩) hHeld ?_
  simp only [Act.put, List.getElem_toArray, List.getElem_cons_succ, List.getElem_cons_zero, List.setIfInBounds_toArray, List.set_cons_zero, List.set_cons_succ]
  refine wpAnyH_take (i := 3) (v := .int .i64 sg) rfl (by kernel_rfl) (by kernel_rfl) (by kernel_rfl) (fun _ _ _ h => h) (Or.inl ⟨by rfl, fun w' hSw => by obtain ⟨j0, j1, j2⟩ := threeC hSw; go_simp⟩) hHeld ?_
  simp only [Act.put, List.getElem_toArray, List.getElem_cons_succ, List.getElem_cons_zero, List.setIfInBounds_toArray, List.set_cons_zero, List.set_cons_succ]
  refine wpAnyH_take (i := 4) (v := .pointer (some ⟨W.heap.size, 2, none⟩)) rfl (by kernel_rfl) (by kernel_rfl) (by kernel_rfl) (fun _ _ _ h => h) (Or.inl ⟨by rfl, fun w' hSw => by go_simp⟩) hHeld ?_
  simp only [Act.put, List.getElem_toArray, List.getElem_cons_succ, List.getElem_cons_zero, List.setIfInBounds_toArray, List.set_cons_zero, List.set_cons_succ]
  refine wpAnyH_take (i := 5) (v := .slice qa sr.length qc) rfl (by kernel_rfl) (by kernel_rfl) (by kernel_rfl) (fun _ _ _ h => h) (Or.inl ⟨by rfl, fun w' hSw => by obtain ⟨j0, j1, j2⟩ := threeC hSw; go_simp⟩) hHeld ?_
  simp only [Act.put, List.getElem_toArray, List.getElem_cons_succ, List.getElem_cons_zero, List.setIfInBounds_toArray, List.set_cons_zero, List.set_cons_succ]
  refine wpAnyH_ready (rs := [6]) (by kernel_rfl) (by simp) ?_
  refine AllReadyH.cons rfl (fun K hK => ?_) AllReadyH.nil
  clear hHeld
  simp only [Act.put, List.getElem_toArray, List.getElem_cons_succ, List.getElem_cons_zero, List.setIfInBounds_toArray, List.set_cons_zero, List.set_cons_succ]
  rw [if_pos (by rfl)]
  go_wp2_with (go_at_call 33; refine (HC.out _ (to_drewN hb0)).mono ?_; rintro e9 w1 ⟨rv, rfl, hrw, b1⟩; obtain ⟨va, vc, rfl⟩ := row_slice hrw)
  have b1 : Below (W.alloc (.cells #[.string sn, .int .i64 sg, .slice qa sr.length qc] 64)).heap.size (W.alloc (.cells #[.string sn, .int .i64 sg, .slice qa sr.length qc] 64)) w1 := below_drew b1
  have hrw : w1.ownsRow (W.alloc (.cells #[.string sn, .int .i64 sg, .slice qa sr.length qc] 64)).heap.size 3 1 (.slice va sr.length vc) sr.length (ints sr) := hrw
  have hz0 : (W.alloc (.cells #[.string sn, .int .i64 sg, .slice qa sr.length qc] 64)).heap.size = W.heap.size + 1 := by simp
  have hbx1 := cells_below hbx b1 (by omega)
  have hbw : Below W.heap.size W w1 := Below.on hb0 b1
  have hD1 := HK.out.1.below hbw
  have hT1 : DTo W w1 B D m val nilV m val := (DTo.refl HK.out.1 nilV).below HK.out.2 hbw
  have hT2 := hT1.setGuest sg
  have hf0 := hD1.frozen 0
  have hf1 := hD1.frozen 1
  obtain ⟨u0, u1, _, _, _⟩ := hD1.five
  have hT3 := hT2.swapRoot (v := .slice va sr.length vc) (r := sr) (row_mono (row_blkN hrw (fun q e => Below.heap_setCell w1 ⟨D, 0, none⟩ _ q (by have := (hrw.lt q e).1; show q ≠ D; omega))) (by have := HK.out.2; omega)) (fun b hb _ g hg x => by have := (hrw.lt g hg).1; have := ((HK.out.1.own.row b hb).lt g x).2; omega) (fun e => by have := (hrw.lt D e).1; omega) (fun q e => .inr (by have := (hrw.lt q e).1; omega))
  have HT : Hid (∃ val', DTo W ((w1.setCell ⟨D, 0, none⟩ (.int .i64 sg)).setCell ⟨D, 1, none⟩ (.slice va sr.length vc)) B D m val nilV (revertM m k) val') := ⟨_, by rw [HM.out]; exact hT3⟩
  have hn1 : W.heap.size ≠ D := by omega
  have HS2 : Hid ((fun X : World => X.heap[W.heap.size]? = some (.cells #[.string sn, .int .i64 sg, .slice qa sr.length qc] 64)) (w1.setCell ⟨D, 0, none⟩ (.int .i64 sg))) := cells_other hbx1 hn1 _ _
  have HS3 : Hid ((fun X : World => X.heap[W.heap.size]? = some (.cells #[.string sn, .int .i64 sg, .slice qa sr.length qc] 64)) ((w1.setCell ⟨D, 0, none⟩ (.int .i64 sg)).setCell ⟨D, 1, none⟩ (.slice va sr.length vc))) := cells_other HS2.out hn1 _ _
  have hf1' : (w1.setCell ⟨D, 0, none⟩ (.int .i64 sg)).frozen? ⟨D, 1, none⟩ = false := hT2.dk.frozen 1
  have u1' : (w1.setCell ⟨D, 0, none⟩ (.int .i64 sg)).cell? ⟨D, 1, none⟩ = some (val .root) := hT2.dk.five.2.1
  clear hT1 hT2 hT3 hD1 hrw
  refine hK.out _ _ hbx1 (fun hHeld => ?_)
  clear hK K
  try simp only [Act.put, List.getElem_toArray, List.getElem_cons_succ, List.getElem_cons_zero, List.setIfInBounds_toArray, List.set_cons_zero, List.set_cons_succ]
  refine wpAnyH_take (i := 7) (v := .pointer (some ⟨D, 0, none⟩)) rfl (by kernel_rfl) (by kernel_rfl) (by kernel_rfl) (fun _ _ _ h => h) (Or.inl ⟨by rfl, fun w' hSw => by go_simp⟩) hHeld ?_
  simp only [Act.put, List.getElem_toArray, List.getElem_cons_succ, List.getElem_cons_zero, List.setIfInBounds_toArray, List.set_cons_zero, List.set_cons_succ]
  refine wpAnyH_take (i := 8) (v := .pointer (some ⟨D, 0, none⟩)) rfl (by kernel_rfl) (by kernel_rfl) (by kernel_rfl) (fun _ _ _ h => h) (Or.inl ⟨by rfl, fun w' hSw => by go_simp⟩) hHeld ?_
  simp only [Act.put, List.getElem_toArray, List.getElem_cons_succ, List.getElem_cons_zero, List.setIfInBounds_toArray, List.set_cons_zero, List.set_cons_succ]
  refine wpAnyH_take (i := 9) (v := .pointer (some ⟨D, 0, none⟩)) rfl (by kernel_rfl) (by kernel_rfl) (by kernel_rfl) (fun _ _ _ h => h) (Or.inl ⟨by rfl, fun w' hSw => by go_simp⟩) hHeld ?_
  simp only [Act.put, List.getElem_toArray, List.getElem_cons_succ, List.getElem_cons_zero, List.setIfInBounds_toArray, List.set_cons_zero, List.set_cons_succ]
  refine wpAnyH_ready (rs := [10]) (by kernel_rfl) (by simp) ?_
  refine AllReadyH.cons rfl (fun K hK => ?_) AllReadyH.nil
  clear hHeld
  simp only [Act.put, List.getElem_toArray, List.getElem_cons_succ, List.getElem_cons_zero, List.setIfInBounds_toArray, List.set_cons_zero, List.set_cons_succ]
  rw [if_pos (by rfl)]
  go_simp
  refine hK.out _ _ HS2.out (fun hHeld => ?_)
  clear hK K
  try simp only [Act.put, List.getElem_toArray, List.getElem_cons_succ, List.getElem_cons_zero, List.setIfInBounds_toArray, List.set_cons_zero, List.set_cons_succ]
  refine wpAnyH_take (i := 11) (v := .pointer (some ⟨D, 0, none⟩)) rfl (by kernel_rfl) (by kernel_rfl) (by kernel_rfl) (fun _ _ _ h => h) (Or.inl ⟨by rfl, fun w' hSw => by go_simp⟩) hHeld ?_
  simp only [Act.put, List.getElem_toArray, List.getElem_cons_succ, List.getElem_cons_zero, List.setIfInBounds_toArray, List.set_cons_zero, List.set_cons_succ]
  refine wpAnyH_take (i := 12) (v := .pointer (some ⟨D, 0, none⟩)) rfl (by kernel_rfl) (by kernel_rfl) (by kernel_rfl) (fun _ _ _ h => h) (Or.inl ⟨by rfl, fun w' hSw => by go_simp⟩) hHeld ?_
  simp only [Act.put, List.getElem_toArray, List.getElem_cons_succ, List.getElem_cons_zero, List.setIfInBounds_toArray, List.set_cons_zero, List.set_cons_succ]
  refine wpAnyH_take (i := 13) (v := .pointer (some ⟨D, 1, none⟩)) rfl (by kernel_rfl) (by kernel_rfl) (by kernel_rfl) (fun _ _ _ h => h) (Or.inl ⟨by rfl, fun w' hSw => by go_simp⟩) hHeld ?_
  simp only [Act.put, List.getElem_toArray, List.getElem_cons_succ, List.getElem_cons_zero, List.setIfInBounds_toArray, List.set_cons_zero, List.set_cons_succ]
  refine wpAnyH_ready (rs := [14]) (by kernel_rfl) (by simp) ?_
  refine AllReadyH.cons rfl (fun K hK => ?_) AllReadyH.nil
  clear hHeld
  simp only [Act.put, List.getElem_toArray, List.getElem_cons_succ, List.getElem_cons_zero, List.setIfInBounds_toArray, List.set_cons_zero, List.set_cons_succ]
  rw [if_pos (by rfl)]
  go_simp
  refine hK.out _ _ HS3.out (fun hHeld => ?_)
  clear hK K hHeld
  try simp only [Act.put, List.getElem_toArray, List.getElem_cons_succ, List.getElem_cons_zero, List.setIfInBounds_toArray, List.set_cons_zero, List.set_cons_succ]
  refine wpAnyH_done (by kernel_rfl) ?_ _
  obtain ⟨val', hfin⟩ := HT.out
  have HF : Hid (DTo W ((w1.setCell ⟨D, 0, none⟩ (.int .i64 sg)).setCell ⟨D, 1, none⟩ (.slice va sr.length vc)) B D m val nilV (revertM m k) val') := hfin
  clear hfin HT
  go_wp2_with fail
  go_end0
  exact ⟨rfl, _, HF.out⟩
end Go.Proofs.Ytehleeibgkpjmae
/- Slices of strings: what it means that a slice value holds them in a world. -/
namespace Go.Proofs.Ytehleeibgkpjmae
open Go.RowKit
set_option maxRecDepth 20000

def Ss (w : World) (v : Value) (xs : List ByteArray) : Prop :=
  ∃ ao cap, v = .slice ao xs.length cap ∧ xs.length ≤ maxLen ∧ xs.length ≤ cap ∧ (xs ≠ [] → ∃ b off, ao = some ⟨b, off, none⟩ ∧ b < w.heap.size ∧ ∀ j, j < xs.length → w.cell? ⟨b, off + j, none⟩ = some (.string (xs.getD j ByteArray.empty)))

theorem Ss.below {w w1 : World} {v : Value} {xs : List ByteArray} (h : Ss w v xs) (hb : Below w.heap.size w w1) : Ss w1 v xs := by
  obtain ⟨ao, cap, hv, hm, hcp, hc⟩ := h
  refine ⟨ao, cap, hv, hm, hcp, fun hne => ?_⟩
  obtain ⟨b, off, ha, hlt, hcell⟩ := hc hne
  exact ⟨b, off, ha, Nat.lt_of_lt_of_le hlt hb.size, fun j hj => (hb.cell (p := ⟨b, off + j, none⟩) hlt).trans (hcell j hj)⟩

theorem Ss.nil (w : World) : Ss w (.slice none 0 0) [] := ⟨none, 0, rfl, Nat.zero_le _, Nat.zero_le _, fun h => absurd rfl h⟩

theorem Ss.cells {w : World} {ao : Option Addr} {n cap : Nat} {xs : List ByteArray} (h : Ss w (.slice ao n cap) xs) :
    xs.length = n ∧ n ≤ 9223372036854775807 ∧ n ≤ cap ∧ ∀ j, j < n → ∃ b off, ao = some ⟨b, off, none⟩ ∧ b < w.heap.size ∧ w.cell? ⟨b, off + j, none⟩ = some (.string (xs.getD j ByteArray.empty)) := by
  obtain ⟨ao', cap', hv, hm, hcp, hc⟩ := h
  simp only [Value.slice.injEq] at hv
  obtain ⟨rfl, rfl, rfl⟩ := hv
  unfold maxLen at hm
  refine ⟨rfl, by omega, hcp, fun j hj => ?_⟩
  obtain ⟨b, off, rfl, hlt, hcell⟩ := hc (by intro e; rw [e] at hj; simp at hj)
  exact ⟨b, off, rfl, hlt, hcell j hj⟩

theorem Ss.form {w : World} {v : Value} {xs : List ByteArray} (h : Ss w v xs) : ∃ ao cap, v = .slice ao xs.length cap := by
  obtain ⟨ao, cap, hv, _⟩ := h; exact ⟨ao, cap, hv⟩

theorem Ss.at {w : World} {ao : Option Addr} {n cap : Nat} {xs : List ByteArray} (h : Ss w (.slice ao n cap) xs) (hpos : 0 < n) :
    ∃ b off, ao = some ⟨b, off, none⟩ ∧ b < w.heap.size ∧ ∀ j, j < n → w.cell? ⟨b, off + j, none⟩ = some (.string (xs.getD j ByteArray.empty)) := by
  obtain ⟨ao', cap', hv, hm, hcp, hc⟩ := h
  simp only [Value.slice.injEq] at hv
  obtain ⟨rfl, rfl, rfl⟩ := hv
  exact hc (by intro e; rw [e] at hpos; simp at hpos)

theorem Ss.past {w : World} {v : Value} {xs : List ByteArray} (h : Ss w v xs) (o : Obj) : Ss (w.alloc o) v xs := h.below ((Below.refl _ _).alloc (Nat.le_refl _) o)


end Go.Proofs.Ytehleeibgkpjmae
/- Flat images, plainly: what Read, Write and Resize answer, over lists of pages. -/
namespace Go.Proofs.Ytehleeibgkpjmae
open Go.RowKit
end Go.Proofs.Ytehleeibgkpjmae
/- Resizing: what comes is right, and how it is read; the answers of Write, Wipe, Punch, Resize. Plain lists. -/
namespace Go.Proofs.Ytehleeibgkpjmae
open Go.RowKit Go.Shelf
end Go.Proofs.Ytehleeibgkpjmae
/- What Write, Wipe, Punch and Resize answer, plain: it is right, how much greater it is, and how it is read. -/
namespace Go.Proofs.Ytehleeibgkpjmae
open Go.RowKit Go.Shelf
set_option maxRecDepth 20000


theorem le_two {f : Nat → Nat} {a b : Nat} : ∀ {n : Nat}, a < n → b < n → a ≠ b → f a + f b ≤ ((List.range n).map f).sum
  | 0, h, _, _ => absurd h (by omega)
  | n + 1, ha, hb, hne => by
    rw [List.range_succ, List.map_append, List.sum_append]
    by_cases ea : a = n
    · have := le_sum (f := f) (n := n) (k := b) (by omega); subst ea; simp; omega
    · by_cases eb : b = n
      · have := le_sum (f := f) (n := n) (k := a) (by omega); subst eb; simp; omega
      · have := le_two (f := f) (a := a) (b := b) (n := n) (by omega) (by omega) hne; simp; omega
theorem look_by {m : ImgD} (h : shapeE m = 0) {root : List Int} (hall : root.all (rootE m.slots) = true) {q : Nat} (hl : q / 4 < root.length) {e : Nat} (e1 : 1 ≤ e) (hq : lookV m root q = (e : Int)) :
    ∃ j : Nat, root.getD (q / 4) 0 = (j : Int) ∧ (j : Int) ∈ root ∧ j < m.slots.length ∧ kd m.slots j = 2 ∧ q % 4 < (tabOf m.slots j).length ∧ (tabOf m.slots j).getD (q % 4) 0 = (e : Int) := by
  unfold lookV at hq
  by_cases hz : root.getD (q / 4) 0 = 0
  · rw [if_pos hz] at hq; omega
  rw [if_neg hz] at hq
  have hE := all_at hall hl
  have hE2 := hE
  rw [rootE_x hz] at hE2
  have h4 := tab_len (shapeE_zero h).2.1 hE2
  rcases rootE_cases hE with e0 | ⟨j, ej, hj, hk⟩
  · exact absurd e0 hz
  · refine ⟨j, ej, ?_, hj, hk, ?_, ?_⟩
    · rw [← ej, getD_at hl]; exact List.getElem_mem hl
    · rw [← ej]; omega
    · rw [← ej]; exact hq
theorem told_twice {m : ImgD} {e : Nat} (e1 : 1 ≤ e) (hc : cntI m.slots (flatR m) e = 1) {j i j' i' : Nat} (hj : j < m.slots.length) (hk : kd m.slots j = 2) (hm : (j : Int) ∈ flatR m) (hi : i < (tabOf m.slots j).length) (ht : (tabOf m.slots j).getD i 0 = (e : Int))
    (hj' : j' < m.slots.length) (hk' : kd m.slots j' = 2) (hm' : (j' : Int) ∈ flatR m) (hi' : i' < (tabOf m.slots j').length) (ht' : (tabOf m.slots j').getD i' 0 = (e : Int)) : j = j' ∧ i = i' := by
  unfold cntI at hc
  rw [if_neg (by omega)] at hc
  have hs : sumT m.slots (flatR m) (e : Int) ≤ 1 := by omega
  have t1 : toldT m.slots (flatR m) e j = (tabOf m.slots j).count (e : Int) := by unfold toldT; rw [if_pos ⟨hk, hm⟩]
  have t2 : toldT m.slots (flatR m) e j' = (tabOf m.slots j').count (e : Int) := by unfold toldT; rw [if_pos ⟨hk', hm'⟩]
  have c1 : 1 ≤ (tabOf m.slots j).count (e : Int) := List.count_pos_iff.2 (by rw [← ht, getD_at hi]; exact List.getElem_mem hi)
  have c2 : 1 ≤ (tabOf m.slots j').count (e : Int) := List.count_pos_iff.2 (by rw [← ht', getD_at hi']; exact List.getElem_mem hi')
  have ej : j = j' := Classical.byContradiction fun hne => by
    have := le_two (f := toldT m.slots (flatR m) e) hj hj' hne
    unfold sumT at hs
    omega
  subst ej
  refine ⟨rfl, Classical.byContradiction fun hne => ?_⟩
  have h2 : 2 ≤ (tabOf m.slots j).count (e : Int) := by
    rcases Nat.lt_or_ge i i' with hl | hl
    · exact count_two _ i i' hl hi' ht ht'
    · exact count_two _ i' i (by omega) hi ht' ht
  have := le_sum (f := toldT m.slots (flatR m) e) (n := m.slots.length) (k := j) hj
  unfold sumT at hs
  omega
theorem inplace_only {m : ImgD} (hC : checkE m = 0) {n : Nat} (hn : (n : Int) < m.guest) (hi : wInPl m n = true) :
    ∃ e : Nat, lookV m m.root n = (e : Int) ∧ 1 ≤ e ∧ e < m.slots.length ∧ kd m.slots e = 1 ∧ (∀ q, q / 4 < m.root.length → q ≠ n → lookV m m.root q ≠ (e : Int)) ∧ ∀ s ∈ m.snaps, ∀ q, q / 4 < s.2.2.length → lookV m s.2.2 q ≠ (e : Int) := by
  obtain ⟨h, hcnt, _⟩ := checkE_zero hC
  have hr := root_ok h
  have hg := guest_ok h
  have hk : n / 4 < m.root.length := by omega
  unfold wInPl at hi
  simp only [Bool.and_eq_true, decide_eq_true_eq, beq_iff_eq] at hi
  obtain ⟨hpos, hin, hrf⟩ := hi
  rcases lookV_ent h hr.2 n hk with e0 | e0 | ⟨e, he, e1, el, ek⟩
  · omega
  · omega
  rw [he, Int.toNat_natCast, ← hcnt, cntL_get h e el] at hrf
  obtain ⟨j, ej, jm, hj, hjk, hjl, hjt⟩ := look_by h hr.2 hk e1 he
  have hin2 := hin
  unfold inPl at hin2
  simp only [Bool.and_eq_true, bne_iff_ne, beq_iff_eq] at hin2
  have hlone : Lone m (n / 4) j := by
    have hrf2 := hin2.2
    have j1 : 1 ≤ j := by have := hin2.1; omega
    rw [ej, Int.toNat_natCast, ← hcnt, cntL_get h j hj] at hrf2
    unfold cntI at hrf2
    rw [if_neg (by omega), sumT_no (shapeE_zero h).2.2.2.2.2.1 _ j1 (by rw [hjk]; decide)] at hrf2
    exact lone_one hk ej (by omega)
  have hjf : (j : Int) ∈ flatR m := by rw [flatR_app]; exact List.mem_append_left _ jm
  refine ⟨e, he, e1, el, ek, fun q hq hne hl => ?_, fun s hs q hq hl => ?_⟩
  · obtain ⟨j', ej', jm', hj', hjk', hjl', hjt'⟩ := look_by h hr.2 hq e1 hl
    obtain ⟨e2, e3⟩ := told_twice e1 hrf hj hjk hjf hjl hjt hj' hjk' (by rw [flatR_app]; exact List.mem_append_left _ jm') hjl' hjt'
    subst e2
    by_cases e4 : q / 4 = n / 4
    · exact hne (by omega)
    · exact hlone.root (q / 4) hq e4 ej'
  · have hfit := snap_fit h (List.mem_cons_of_mem _ hs)
    obtain ⟨j', ej', jm', hj', hjk', hjl', hjt'⟩ := look_by h hfit.2.2.2 hq e1 hl
    obtain ⟨e2, e3⟩ := told_twice e1 hrf hj hjk hjf hjl hjt hj' hjk' (by rw [flatR_app]; exact List.mem_append_right _ (by rw [List.mem_flatMap]; exact ⟨s, hs, jm'⟩)) hjl' hjt'
    subst e2
    exact hlone.snap s hs jm'
theorem page_setP {L : List SlotD} {e : Nat} {page : ByteArray} {x : Int} (hx : x ≠ (e : Int)) (hx0 : 0 ≤ x ∨ x ≤ 0) : pageV (L.set e (1, page, [])) x = pageV L x := by
  unfold pageV
  by_cases h : x ≤ 0
  · rw [if_pos h, if_pos h]
  · rw [if_neg h, if_neg h]
    have : e ≠ x.toNat := by omega
    simp [List.getD, this]
theorem page_at {L : List SlotD} {e : Nat} {page : ByteArray} (e1 : 1 ≤ e) (el : e < L.length) : pageV (L.set e (1, page, [])) (e : Int) = page := by
  unfold pageV
  rw [if_neg (by omega), Int.toNat_natCast]
  simp [List.getD, el]

structure Wrote (m M : ImgD) (n : Nat) (page : ByteArray) (d : Nat) : Prop where
  right : checkE M = 0
  len : M.slots.length ≤ m.slots.length + d
  all : allV M = (allV m).set n page
  pastV : ∀ nm, pastV M nm = pastV m nm
  pastE : ∀ nm, pastE M nm = pastE m nm
  guest : M.guest = m.guest

theorem allP_congr {m M : ImgD} {r r' : List Int} {g : Nat} (h : ∀ q, q < g → pageV M.slots (lookV M r' q) = pageV m.slots (lookV m r q)) : allP M r' g = allP m r g := by
  unfold allP
  exact List.map_congr_left fun q hq => h q (List.mem_range.1 hq)
theorem past_of {m M : ImgD} (hC : checkE m = 0) (hM : checkE M = 0) (hs : M.snaps = m.snaps) (h : ∀ s ∈ m.snaps, allP M s.2.2 s.2.1.toNat = allP m s.2.2 s.2.1.toNat) (nm : ByteArray) : pastV M nm = pastV m nm ∧ pastE M nm = pastE m nm := by
  unfold pastV pastE
  rw [if_neg (by rw [hM]; simp), if_neg (by rw [hC]; simp), if_neg (by rw [hM]; simp), if_neg (by rw [hC]; simp), hs]
  cases hsi : snapIx m.snaps nm with
  | none => exact ⟨rfl, rfl⟩
  | some j => exact ⟨h _ (snapIx_get hsi), rfl⟩
theorem wrote_in {m : ImgD} (hC : checkE m = 0) {n : Nat} (hn : (n : Int) < m.guest) (hi : wInPl m n = true) {page : ByteArray} (hp : page.size = 4) : Wrote m { m with slots := m.slots.set (lookV m m.root n).toNat (1, page, []) } n page 0 := by
  obtain ⟨e, he, e1, el, ek, hown, hsnap⟩ := inplace_only hC hn hi
  have h := checkE_shape hC
  have hr := root_ok h
  have hg := guest_ok h
  rw [he, Int.toNat_natCast]
  obtain ⟨hck, hlk⟩ := setP_same (page := page) hC ek hp
  have hp2 : ∀ nm, pastV { m with slots := m.slots.set e (1, page, []) } nm = pastV m nm ∧ pastE { m with slots := m.slots.set e (1, page, []) } nm = pastE m nm := past_of hC hck rfl fun s hs => allP_congr fun q hq => by
    have hfit := snap_fit h (List.mem_cons_of_mem _ hs)
    rw [hlk]
    exact page_setP (hsnap s hs q (by omega)) (by omega)
  refine ⟨hck, by show (m.slots.set _ _).length ≤ _; rw [List.length_set]; omega, ?_, fun nm => (hp2 nm).1, fun nm => (hp2 nm).2, rfl⟩
  unfold allV
  rw [if_pos hck, if_pos hC]
  unfold allP
  apply List.ext_getElem
  · simp
  · intro q h1 h2
    have hq : q < m.guest.toNat := by simpa using h1
    rw [List.getElem_set, List.getElem_map, List.getElem_range, hlk]
    show pageV (m.slots.set e (1, page, [])) (lookV m m.root q) = _
    by_cases e4 : n = q
    · subst e4
      rw [if_pos rfl, he, page_at e1 el]
    · rw [if_neg e4, List.getElem_map, List.getElem_range]
      exact page_setP (hown q (by omega) (fun x => e4 x.symm)) (by omega)
theorem Laid.wrote {m M : ImgD} {n d : Nat} {x : Int} (hC : checkE m = 0) (hn : (n : Int) < m.guest) (hL : Laid m M (n / 4) ((tableO m (n / 4)).set (n % 4) x)) (hl : M.slots.length ≤ m.slots.length + d) {page : ByteArray} (hp : pageV M.slots x = page) : Wrote m (countedD M) n page d := by
  refine ⟨counted_right hL.shape, ?_, ?_, fun nm => (hL.pastV hC nm).1, fun nm => (hL.pastV hC nm).2, hL.guest⟩
  · have : (countedD M).slots.length = M.slots.length := freeUn_length _ _
    omega
  · rw [← hp]; exact hL.put hC hn
theorem wrote_write {m : ImgD} (hC : checkE m = 0) {n : Nat} (hn : (n : Int) < m.guest) {page : ByteArray} (hp : page.size = 4) {M : ImgD} (hM : writeD m n page = some M) : Wrote m M n page 2 := by
  unfold writeD at hM
  by_cases hi : wInPl m n = true
  · rw [if_pos hi] at hM
    simp only [Option.some.injEq] at hM
    subst hM
    have := wrote_in hC hn hi hp
    exact ⟨this.right, Nat.le_trans this.len (by omega), this.all, this.pastV, this.pastE, this.guest⟩
  · rw [if_neg hi] at hM
    by_cases h1 : tabN m (n / 4) = 40
    · rw [if_pos h1] at hM; cases hM
    · rw [if_neg h1] at hM
      by_cases h2 : wD m n = 40
      · rw [if_pos h2] at hM; cases hM
      · rw [if_neg h2] at hM
        simp only [Option.some.injEq] at hM
        subst hM
        obtain ⟨a, b, c⟩ := write_laid hC hn h1 h2 hp
        exact a.wrote hC hn c b
end Go.Proofs.Ytehleeibgkpjmae
