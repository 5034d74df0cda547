/- Texts joined: PChk, PgPlain, Shelf, PgZero, RdA, RdP, WPast. -/
import Derived.Test.YtehleeibgkpjmadRows
import Derived.Test.YtehleeibgkpjmadWBegunB5
import Derived.WalkLawsBesides
import Derived.Deep.QuietTactic
import Derived.BigQuiet
import Derived.Lib.Strings
import Derived.Lib.Join
import Derived.Lib.Repeat
import Derived.Shelf.Strings.Builder1
import Derived.Shelf.Strings.Builder2
import Derived.Shelf.Small.Strs
import Derived.Shelf.Strings.BuilderF
import Derived.Shelf.Strings.Prefix
import Derived.Shelf.Bits.Mul64
import Derived.Shelf.Strings.Repeat
import Derived.Test.YtehleeibgkpjmadProg
import Derived.Test.YtehleeibgkpjmadWBegunB4
import Derived.Test.YtehleeibgkpjmadWBegunB11
import Derived.Test.YtehleeibgkpjmadWBegunB1
/- Contracts of isPage, Check, and of the document's CheckPages, SamePages, ZeroPage. -/
namespace Go.Proofs.Ytehleeibgkpjmad
open Go.RowKit
set_option maxRecDepth 20000

theorem isPage_any (p : ByteArray) (w : World) : Calls Try.prog 79 #[.string p] w fun r w' => r = .returned (.bool (decide (p.size = 4))) ∧ w' = w := by
  go_enter Try.func79, Try.ntmps79
  go_wp2
  go_ret
  exact ⟨ret_bool (by simp; omega), rfl⟩

theorem zeroPage_any (w : World) : Calls Try.prog 16 #[] w fun r w' => r = .returned (.string ⟨#[0, 0, 0, 0]⟩) ∧ w' = w := by
  go_enter Try.func16, Try.ntmps16
  go_wp2
  go_ret
  exact ⟨rfl, rfl⟩

theorem pcheck_many (ao : Option Addr) (n cap : Nat) (w : World) (hn : (16 : Int) < (n : Int)) : Calls Try.prog 45 #[.slice ao n cap] w fun r w' => r = .returned (.int .i64 2) ∧ w' = w := by
  go_enter Try.func45, Try.ntmps45
  go_wp2
  go_ret; exact ⟨rfl, rfl⟩

theorem pcheck_0 (ao : Option Addr) (cap : Nat) (w : World) : Calls Try.prog 45 #[.slice ao 0 cap] w fun r w' => r = .returned (.int .i64 0) ∧ w' = w := by
  go_enter Try.func45, Try.ntmps45
  go_wp2
  refine wp_loop_rounds 1 ?_
  rw [rounds_succ]
  go_wp2
  go_ret
  exact ⟨rfl, rfl⟩

theorem pcheck_at (b off n cap : Nat) (xs : List ByteArray) (w : World) (hn : xs.length = n) (h16 : n ≤ 16) (hc : ∀ j, j < n → w.cell? ⟨b, off + j, none⟩ = some (.string (xs.getD j ByteArray.empty))) :
    Calls Try.prog 45 #[.slice (some ⟨b, off, none⟩) n cap] w fun r w' => r = .returned (.int .i64 (ckP xs)) ∧ w' = w := by
  have HC : Hid (∀ j, j < n → w.cell? ⟨b, off + j, none⟩ = some (.string (xs.getD j ByteArray.empty))) := hc
  have HN : Hid (xs.length = n) := hn
  clear hc hn
  have g1 : ¬ (16 : Int) < (n : Int) := by omega
  go_enter Try.func45, Try.ntmps45
  go_wp2
  go_loop [10] (fun i => ∃ k : Nat, k ≤ n ∧ i = .int .i64 k ∧ ∀ j, j < k → (xs.getD j ByteArray.empty).size = 4) (fun i => n - (intOf i).toNat)
  case atStart => exact ⟨0, by omega, rfl, fun j hj => absurd hj (by omega)⟩
  case round =>
    obtain ⟨k, hk, rfl, hall⟩ := hrel
    have HA : Hid (∀ j, j < k → (xs.getD j ByteArray.empty).size = 4) := hall
    clear hall
    by_cases hlt : k < n
    · obtain ⟨x, hx⟩ : ∃ x, xs.getD k ByteArray.empty = x := ⟨_, rfl⟩
      have hck := HC.out k hlt
      rw [hx] at hck
      have HX : Hid (xs.getD k ByteArray.empty = x) := hx
      clear hx
      by_cases hE : x.size = 4
      · have hd : decide (x.size = 4) = true := by simp [hE]
        have HE : Hid (x.size = 4) := hE
        clear hE
        go_wp2_with (go_at_call 79; refine (isPage_any _ _).mono ?_; rintro e w' ⟨rfl, hw⟩; subst hw; rw [hd])
        go_round
        case rel => exact ⟨k + 1, by omega, by go_num, fun j hj => by
          by_cases e : j = k
          · subst e; rw [HX.out]; exact HE.out
          · exact HA.out j (by omega)⟩
        case measure => simp [intOf]; omega
      · have hd : decide (x.size = 4) = false := by simp [hE]
        go_wp2_with (go_at_call 79; refine (isPage_any _ _).mono ?_; rintro e w' ⟨rfl, hw⟩; subst hw; rw [hd])
        go_ret
        exact ⟨ret_int (ckP_bad (by rw [HN.out]; exact h16) (j := k) (by rw [HN.out]; exact hlt) (by rw [HX.out]; exact hE)).symm, rfl⟩
    · have e4 : k = n := by omega
      subst e4
      go_wp2
      go_ret
      exact ⟨ret_int (ckP_ok (by rw [HN.out]; exact h16) (by rw [HN.out]; exact HA.out)).symm, rfl⟩

theorem pcheck_any (v : Value) (xs : List ByteArray) (w : World) (h : Ss w v xs) : Calls Try.prog 45 #[v] w fun r w' => r = .returned (.int .i64 (ckP xs)) ∧ w' = w := by
  obtain ⟨ao, cap, rfl⟩ := h.form
  by_cases h16 : xs.length ≤ 16
  · by_cases h0 : xs.length = 0
    · have e : xs = [] := List.eq_nil_of_length_eq_zero h0
      subst e
      exact pcheck_0 ao cap w
    · obtain ⟨b, off, rfl, hlt, hcell⟩ := h.at (by omega)
      exact pcheck_at b off _ cap xs w rfl h16 hcell
  · rw [ckP_many h16]; exact pcheck_many ao _ cap w (by omega)
theorem pcheck_is {v : Value} {xs : List ByteArray} {w : World} (h : Ss w v xs) {c : Int} (hc : ckP xs = c) : Calls Try.prog 45 #[v] w fun r w' => r = .returned (.int .i64 c) ∧ w' = w := by subst hc; exact pcheck_any v xs w h

theorem samePages_at (ao bo : Option Addr) (n cap cap' : Nat) (xs : List ByteArray) (w : World) (hm : n ≤ 9223372036854775807)
    (hc : ∀ j, j < n → ∃ b off, ao = some ⟨b, off, none⟩ ∧ b < w.heap.size ∧ w.cell? ⟨b, off + j, none⟩ = some (.string (xs.getD j ByteArray.empty)))
    (hd : ∀ j, j < n → ∃ b off, bo = some ⟨b, off, none⟩ ∧ b < w.heap.size ∧ w.cell? ⟨b, off + j, none⟩ = some (.string (xs.getD j ByteArray.empty))) :
    Calls Try.prog 18 #[.slice ao n cap, .slice bo n cap'] w fun r w' => r = .returned (.bool true) ∧ Below w.heap.size w w' := by
  have HC : Hid (∀ j, j < n → ∃ b off, ao = some ⟨b, off, none⟩ ∧ b < w.heap.size ∧ w.cell? ⟨b, off + j, none⟩ = some (.string (xs.getD j ByteArray.empty))) := hc
  have HD : Hid (∀ j, j < n → ∃ b off, bo = some ⟨b, off, none⟩ ∧ b < w.heap.size ∧ w.cell? ⟨b, off + j, none⟩ = some (.string (xs.getD j ByteArray.empty))) := hd
  clear hc hd
  go_enter Try.func18, Try.ntmps18
  go_wp2
  go_loopw [5] (fun i wr => ∃ k : Nat, k ≤ n ∧ i = .int .i64 k ∧ Below w.heap.size w wr) (fun i _ => n - (intOf i).toNat)
  case atStart => exact ⟨0, by omega, rfl, Below.refl _ _⟩
  case round =>
    obtain ⟨k, hk, rfl, hbel⟩ := hrel
    by_cases hlt : k < n
    · obtain ⟨x, hx⟩ : ∃ x, xs.getD k ByteArray.empty = x := ⟨_, rfl⟩
      obtain ⟨b, off, hao, hl1, hck⟩ := HC.out k hlt
      obtain ⟨b', off', hbo, hl2, hck'⟩ := HD.out k hlt
      rw [hx] at hck hck'
      clear hx
      have g1 : wr.cell? ⟨b, off + k, none⟩ = some (.string x) := (hbel.cell (p := ⟨b, off + k, none⟩) hl1).trans hck
      have g2 : wr.cell? ⟨b', off' + k, none⟩ = some (.string x) := (hbel.cell (p := ⟨b', off' + k, none⟩) hl2).trans hck'
      have i1 : (k : Int) < (n : Int) := by omega
      go_wp2
      go_quiet (fail)
      go_wp2
      go_roundw
      case rel => exact ⟨k + 1, by omega, by go_num, below_drewN hbel _⟩
      case measure => simp [intOf]; omega
    · have e4 : k = n := by omega
      subst e4
      go_wp2
      go_ret
      exact ⟨rfl, hbel⟩

theorem samePages_any {v u : Value} {xs : List ByteArray} {w : World} (h : Ss w v xs) (k : Ss w u xs) :
    Calls Try.prog 18 #[v, u] w fun r w' => r = .returned (.bool true) ∧ Below w.heap.size w w' := by
  obtain ⟨ao, cap, rfl⟩ := h.form
  obtain ⟨bo, cap', rfl⟩ := k.form
  obtain ⟨hn, hm, _, hc⟩ := h.cells
  obtain ⟨_, _, _, hd⟩ := k.cells
  exact samePages_at ao bo _ cap cap' xs w hm hc hd
end Go.Proofs.Ytehleeibgkpjmad
/- Pages, plainly: which pages some bytes are, and what is joined; lists of bytes alone. -/
namespace Go.Proofs.Ytehleeibgkpjmad
open Go.RowKit
set_option maxRecDepth 20000

def bytes (s : ByteArray) : List UInt8 := s.data.toList
def ofBytes (l : List UInt8) : ByteArray := ⟨l.toArray⟩
theorem bytes_of (l : List UInt8) : bytes (ofBytes l) = l := by simp [bytes, ofBytes]
theorem of_bytes (s : ByteArray) : ofBytes (bytes s) = s := by cases s; rfl
theorem bytes_inj {a b : ByteArray} (h : bytes a = bytes b) : a = b := by rw [← of_bytes a, ← of_bytes b, h]
theorem bytes_size (s : ByteArray) : (bytes s).length = s.size := by cases s; rfl
theorem bytes_append (a b : ByteArray) : bytes (a ++ b) = bytes a ++ bytes b := by simp [bytes]
theorem bytes_extract (s : ByteArray) (a b : Nat) : bytes (s.extract a b) = ((bytes s).drop a).take (b - a) := Lib.extract_data s a b

/-- As many 0 behind as a page wants. -/
def padL (p : List UInt8) : List UInt8 := p ++ List.replicate (4 - p.length) 0
/-- Page k of the bytes l. -/
def pageL (l : List UInt8) (k : Nat) : List UInt8 := padL ((l.drop (4 * k)).take 4)
def pageB (l : List UInt8) (k : Nat) : ByteArray := ofBytes (pageL l k)
def countP (n : Nat) : Nat := (n + 3) / 4
/-- The pages that the bytes l are. -/
def splitP (l : List UInt8) : List ByteArray := (List.range (countP l.length)).map (pageB l)
def splitE (n : Nat) : Int := if n ≤ 64 then 0 else 2
/-- What is answered by Split. -/
def splitA (s : ByteArray) : List ByteArray := if s.size ≤ 64 then splitP (bytes s) else []

theorem padL_length {p : List UInt8} (h : p.length ≤ 4) : (padL p).length = 4 := by unfold padL; simp; omega
theorem padL_full {p : List UInt8} (h : p.length = 4) : padL p = p := by unfold padL; rw [h]; simp
theorem pageL_length (l : List UInt8) (k : Nat) : (pageL l k).length = 4 := padL_length (by simp; omega)
theorem pageB_size (l : List UInt8) (k : Nat) : (pageB l k).size = 4 := by rw [← bytes_size, pageB, bytes_of, pageL_length]
theorem splitP_length (l : List UInt8) : (splitP l).length = countP l.length := by simp [splitP]
theorem range_snoc (l : List UInt8) (k : Nat) : (List.range (k + 1)).map (pageB l) = (List.range k).map (pageB l) ++ [pageB l k] := by simp [List.range_succ]

/-- A whole page at the head of what is left. -/
theorem page_head {l : List UInt8} {t : ByteArray} {k : Nat} (ht : bytes t = l.drop (4 * k)) (h4 : 4 ≤ t.size) : t.extract 0 4 = pageB l k := by
  apply bytes_inj
  rw [bytes_extract, pageB, bytes_of, pageL, ht]
  rw [List.drop_zero]
  have : (l.drop (4 * k)).length = t.size := by rw [← ht, bytes_size]
  rw [padL_full (by simp at this ⊢; omega)]
theorem page_rest {l : List UInt8} {t : ByteArray} {k : Nat} (ht : bytes t = l.drop (4 * k)) : bytes (t.extract 4 t.size) = l.drop (4 * (k + 1)) := by
  rw [bytes_extract, ht, List.drop_drop]
  have : (l.drop (4 * k)).length = t.size := by rw [← ht, bytes_size]
  rw [List.take_of_length_le (by simp at this ⊢; omega)]
  congr 1
/-- The last page, with 0 behind. -/
theorem page_last {l : List UInt8} {t : ByteArray} {k : Nat} (ht : bytes t = l.drop (4 * k)) (h4 : t.size ≤ 4) : t ++ ofBytes (List.replicate (4 - t.size) 0) = pageB l k := by
  apply bytes_inj
  have hl : (l.drop (4 * k)).length = t.size := by rw [← ht, bytes_size]
  rw [bytes_append, bytes_of, pageB, bytes_of, pageL, ht, List.take_of_length_le (by omega)]
  unfold padL
  rw [hl]

/-- The bytes with 0 behind up to a whole number of pages: page k of them. -/
theorem page_padded {l m : List UInt8} {p k : Nat} (hm : m = l ++ List.replicate p 0) (hp : m.length % 4 = 0) (hk : 4 * k < m.length) (hp3 : p ≤ 3) : (m.drop (4 * k)).take 4 = pageL l k := by
  subst hm
  have hlen : (l ++ List.replicate p (0 : UInt8)).length = l.length + p := by simp
  rw [hlen] at hp hk
  unfold pageL padL
  rw [List.drop_append, List.take_append]
  have e1 : 4 * k - l.length = 0 ∨ l.length ≤ 4 * k := by omega
  rcases Nat.lt_or_ge l.length (4 * k) with h | h
  · omega
  · rw [show 4 * k - l.length = 0 by omega, List.drop_zero]
    congr 1
    simp only [List.length_take, List.length_drop]
    rw [List.take_replicate]
    congr 1
    omega

theorem repeat_zero (n : Nat) : Lib.repeatL [0] n = List.replicate n 0 := by
  induction n with
  | zero => rfl
  | succ n ih => rw [Lib.repeatL, ih]; rfl

/-- All pages, one behind the other. -/
def joinB (xs : List ByteArray) : ByteArray := ofBytes (xs.map bytes).flatten
theorem joinB_nil : joinB [] = ByteArray.empty := rfl
theorem joinB_snoc (xs : List ByteArray) (x : ByteArray) : joinB (xs ++ [x]) = joinB xs ++ x := by
  apply bytes_inj
  rw [bytes_append, joinB, joinB, bytes_of, bytes_of]
  simp
theorem join_flat (ls : List (List UInt8)) : Lib.join ls [] = ls.flatten := by
  unfold Lib.join List.intercalate
  induction ls with
  | nil => rfl
  | cons a r ih =>
    cases r with
    | nil => simp
    | cons b t => simp at ih ⊢; exact ih
theorem joinB_size {xs : List ByteArray} (h : ∀ x ∈ xs, x.size = 4) : (joinB xs).size = 4 * xs.length := by
  rw [← bytes_size, joinB, bytes_of]
  induction xs with
  | nil => rfl
  | cons a r ih =>
    rw [List.map_cons, List.flatten_cons, List.length_append, bytes_size, h a (by simp), ih (fun x hx => h x (by simp [hx]))]
    simp; omega
end Go.Proofs.Ytehleeibgkpjmad
/- The library's contracts that are used here, at this program: strings.Repeat, strings.Join. -/
namespace Go.Proofs
open Go.Shelf
def Try.lays105_ren : Go.Shelf.Ren := ⟨fun | 105 => 120 | 212 => 128 | 99 => 129 | 165 => 130 | 166 => 131 | 170 => 132 | 169 => 133 | 263 => 136 | 264 => 137 | 206 => 138 | 240 => 139 | 241 => 140 | 276 => 142 | 277 => 143 | n => n, fun | 9 => 9 | 3 => 3 | 4 => 4 | 20 => 20 | 0 => 0 | 46 => 123 | 109 => 136 | 5 => 5 | 72 => 142 | 76 => 146 | 51 => 150 | 146 => 151 | 53 => 153 | 148 => 154 | 70 => 139 | 37 => 140 | 75 => 145 | 127 => 156 | 164 => 157 | 80 => 37 | n => n, fun | n => n⟩
theorem Try.lays105 : Go.Proofs.Lays.n105 Try.prog Try.lays105_ren := {
  mixed := by kernel_rfl
  f99 := Try.func129.trans (congrArg some (by kernel_rfl))
  f105 := Try.func120.trans (congrArg some (by kernel_rfl))
  f165 := Try.func130.trans (congrArg some (by kernel_rfl))
  f166 := Try.func131.trans (congrArg some (by kernel_rfl))
  f169 := Try.func133.trans (congrArg some (by kernel_rfl))
  f170 := Try.func132.trans (congrArg some (by kernel_rfl))
  f206 := Try.func138.trans (congrArg some (by kernel_rfl))
  f212 := Try.func128.trans (congrArg some (by kernel_rfl))
  f240 := Try.func139.trans (congrArg some (by kernel_rfl))
  f241 := Try.func140.trans (congrArg some (by kernel_rfl))
  f263 := Try.func136.trans (congrArg some (by kernel_rfl))
  f264 := Try.func137.trans (congrArg some (by kernel_rfl))
  f276 := Try.func142.trans (congrArg some (by kernel_rfl))
  f277 := Try.func143.trans (congrArg some (by kernel_rfl))
  t0 := Try.underlying0
  a0 := Try.isAgg0
  z0 := Try.sizeOf0
  v0 := Try.zeroValue0
  t3 := Try.underlying3
  a3 := Try.isAgg3
  z3 := Try.sizeOf3
  v3 := Try.zeroValue3
  t4 := Try.underlying4
  a4 := Try.isAgg4
  z4 := Try.sizeOf4
  v4 := Try.zeroValue4
  t5 := Try.underlying5
  a5 := Try.isAgg5
  z5 := Try.sizeOf5
  v5 := Try.zeroValue5
  t9 := Try.underlying9
  a9 := Try.isAgg9
  z9 := Try.sizeOf9
  v9 := Try.zeroValue9
  t20 := Try.underlying20
  a20 := Try.isAgg20
  z20 := Try.sizeOf20
  v20 := Try.zeroValue20
  t37 := Try.underlying140
  a37 := Try.isAgg140
  z37 := Try.sizeOf140
  v37 := Try.zeroValue140
  t46 := Try.underlying123
  a46 := Try.isAgg123
  z46 := Try.sizeOf123
  v46 := Try.zeroValue123
  t51 := Try.underlying150
  a51 := Try.isAgg150
  z51 := Try.sizeOf150
  v51 := Try.zeroValue150
  t53 := Try.underlying153
  a53 := Try.isAgg153
  z53 := Try.sizeOf153
  v53 := Try.zeroValue153
  t70 := Try.underlying139
  a70 := Try.isAgg139
  z70 := Try.sizeOf139
  v70 := Try.zeroValue139
  t72 := Try.underlying142
  a72 := Try.isAgg142
  z72 := Try.sizeOf142
  v72 := Try.zeroValue142
  t75 := Try.underlying145
  a75 := Try.isAgg145
  z75 := Try.sizeOf145
  v75 := Try.zeroValue145
  t76 := Try.underlying146
  a76 := Try.isAgg146
  z76 := Try.sizeOf146
  v76 := Try.zeroValue146
  t109 := Try.underlying136
  a109 := Try.isAgg136
  z109 := Try.sizeOf136
  v109 := Try.zeroValue136
  t127 := Try.underlying156
  a127 := Try.isAgg156
  z127 := Try.sizeOf156
  v127 := Try.zeroValue156
  t146 := Try.underlying151
  a146 := Try.isAgg151
  z146 := Try.sizeOf151
  v146 := Try.zeroValue151
  t148 := Try.underlying154
  a148 := Try.isAgg154
  z148 := Try.sizeOf154
  v148 := Try.zeroValue154
  t164 := Try.underlying157
  a164 := Try.isAgg157
  z164 := Try.sizeOf157
  v164 := Try.zeroValue157 }
theorem Try.Builder_Extra_105 : Builder.Extra Try.prog Try.lays105_ren := {
  sizeBuilder := by kernel_rfl
  liesBuilder := by kernel_rfl
  t5 := Try.underlying5
  a5 := Try.isAgg5
  z5 := Try.sizeOf5
  v5 := Try.zeroValue5
  infoByte := by kernel_rfl
  cellsByte := by kernel_rfl
  sizeByte := by kernel_rfl
  neB5 := by decide }
open Go.RowKit Go.Lib in
theorem Try.strings_Repeat (s : ByteArray) (c : Nat) (w : World) (hc : c ≤ 9223372036854775807) (hlen : s.size * c ≤ 140737488355328) :
    Calls Try.prog 120 #[.string s, .int .i64 c] w fun e w' => e = .returned (.string ⟨(Lib.repeatL s.data.toList c).toArray⟩) ∧ Below w.heap.size w w' := Any.strings_Repeat Try.lays105 Try.Builder_Extra_105 s c w hc hlen

end Go.Proofs
/- Contracts of zeros and Zero; the law of an append of one string. -/
namespace Go.Proofs.Ytehleeibgkpjmad
open Go.RowKit
set_option maxRecDepth 20000

theorem zeros_any (n : Nat) (w : World) (hn : n ≤ 4) : Calls Try.prog 105 #[.int .i64 n] w fun r w' => r = .returned (.string (ofBytes (List.replicate n 0))) ∧ Below w.heap.size w w' := by
  have h := Try.strings_Repeat ⟨#[0]⟩ n w (by omega) (by show 1 * n ≤ _; omega)
  rw [show (⟨#[0]⟩ : ByteArray).data.toList = [0] from rfl, repeat_zero] at h
  have HH : Hid (Calls Try.prog 120 #[.string ⟨#[0]⟩, .int .i64 n] w fun e w' => e = .returned (.string (ofBytes (List.replicate n 0))) ∧ Below w.heap.size w w') := h
  clear h
  go_enter Try.func105, Try.ntmps105
  go_wp2_with (go_at_call 120; refine (HH.out).mono ?_; rintro e w1 ⟨rfl, b1⟩)
  go_ret
  exact ⟨rfl, b1⟩

/-- How long is the text in a slot? -/
def strLen : Value → Nat | .string s => s.size | _ => 0
theorem zero_any (w : World) : Calls Try.prog 80 #[] w fun r w' => r = .returned (.string Z4) ∧ Below w.heap.size w w' := by
  go_enter Try.func80, Try.ntmps80
  go_wp2_with (go_at_call 105; refine (zeros_any 4 _ (by omega)).mono ?_; rintro e w1 ⟨rfl, b1⟩)
  go_ret
  exact ⟨rfl, b1⟩

theorem Try.info9 : (Try.prog.info? 9).map (fun i => (i.zero, i.size, i.bytes)) = some (some (.string ByteArray.empty), 1, 16) := by kernel_rfl

theorem Ss_of_owns {w : World} {base n : Nat} {v : Value} {xs : List ByteArray} (h : w.ownsRow base 9 1 v n (xs.map Value.string)) : Ss w v xs := by
  have hl : xs.length = n := by have := h.1; simpa using this
  have h' := h
  rcases h.2 with ⟨rfl, rfl⟩ | ⟨g, cap, cur, rfl, _⟩
  · have : xs = [] := List.eq_nil_of_length_eq_zero hl
    subst this
    exact Ss.nil w
  · exact Ss_of_own h'

theorem one_new (w : World) (y : ByteArray) : ∀ (j : Nat) (u : Value), [Value.string y][j]? = some u → (w.alloc (.cells #[.string y] 9)).cell? ((⟨w.heap.size, 0, none⟩ : Addr).add j) = some u := by
  intro j u hj
  match j, hj with
  | 0, hj =>
    simp at hj
    subst hj
    rw [addr_add, World.cell?_alloc_at _ _ _ _ rfl]
    rfl

/-- 'l = append(l, y)' of one string, l nil or the call's own, at its call in a walk. -/
theorem app_str {w0 w : World} {ops : Array Oper} {rest : List Oper} {o : Oper} {a : Act} {Q : Exit → Act → World → Prop} (hgd : o.guard = none) (s x : Operand)
    (ho : o.op = .call { callee := .builtin .append, args := #[s, x], argTypes := #[34, 34] }) (v : Value) (xs : List ByteArray) (y : ByteArray) (B : Nat) (hs : a.eval s = v) (hx : a.eval x = .slice (some ⟨w.heap.size, 0, none⟩) 1 1)
    (hown : w.ownsRow B 9 1 v xs.length (xs.map Value.string)) (hl : xs.length ≤ 1000) (hB : B ≤ w.heap.size) (hbel : Below B w0 w)
    (h : ∀ v' w', Hid (w'.ownsRow B 9 1 v' (xs ++ [y]).length ((xs ++ [y]).map Value.string)) → Below B w0 w' → B ≤ w'.heap.size → wpList Try.prog ops Q rest (a.put o.dst v') w') :
    wpList Try.prog ops Q (o :: rest) a (w.alloc (.cells #[.string y] 9)) := by
  obtain ⟨i0, hi, hz0, hz1, hz2⟩ := info_parts Try.info9
  refine wpList_append_own (w.alloc (.cells #[.string y] 9)) hgd s x 34 ho B 9 i0 (.string ByteArray.empty) 1 16 Try.underlying34 hi hz0 hz1 hz2 rfl (by decide) v xs.length _ hs (hown.alloc _) ⟨w.heap.size, 0, none⟩ 1 1 [.string y] hx rfl (one_new w y) (by intro u hu; simp at hu; subst hu; rfl) (by unfold maxLen; omega) (by omega) (by simp; omega) ?_
  intro v' w' hown' hgrow _
  have hz : w.heap.size ≤ w'.heap.size := Nat.le_trans (by simp) hgrow.size
  refine h v' w' ?_ ((hbel.alloc hB _).grown hgrow (by simp; omega) ?_) (Nat.le_trans hB hz)
  · show w'.ownsRow _ _ _ _ _ _
    rw [List.map_append, List.length_append]; exact hown'
  · intro k hk
    exact (hown.lt k hk).1
end Go.Proofs.Ytehleeibgkpjmad
/- Contracts of reads.page, allPages, Read, All. -/
namespace Go.Proofs.Ytehleeibgkpjmad
open Go.RowKit Go.Shelf
set_option maxRecDepth 20000

def SAt (W : World) (g : Nat) (l : List ByteArray) : Prop := W.heap[g]? = some (.cells (l.map Value.string).toArray 9)
theorem SAt.cell {W : World} {g : Nat} {l : List ByteArray} (h : SAt W g l) {j : Nat} (hj : j < l.length) : W.cell? ⟨g, j, none⟩ = some (.string (l.getD j ByteArray.empty)) := by
  have h' : W.heap[g]? = some (.cells (l.map Value.string).toArray 9) := h
  simp [World.cell?, h', List.getD, hj]
theorem SAt.frozen {W : World} {g : Nat} {l : List ByteArray} (h : SAt W g l) (j : Nat) : W.frozen? ⟨g, j, none⟩ = false := by
  have h' : W.heap[g]? = some (.cells (l.map Value.string).toArray 9) := h
  simp [World.frozen?, h']
theorem SAt.lt {W : World} {g : Nat} {l : List ByteArray} (h : SAt W g l) : g < W.heap.size := (Array.getElem?_eq_some_iff.1 h).1
theorem SAt.set {W : World} {g : Nat} {l : List ByteArray} (h : SAt W g l) (j : Nat) (x : ByteArray) : SAt (W.setCell ⟨g, j, none⟩ (.string x)) g (l.set j x) := by
  obtain ⟨hlt, hk⟩ := Array.getElem?_eq_some_iff.1 h
  show (W.heap.modify g _)[g]? = _
  rw [Array.getElem?_eq_getElem (by rw [Array.size_modify]; exact hlt), Array.getElem_modify_self, hk]
  simp [List.map_set]
theorem SAt.ss {W : World} {g n : Nat} {l : List ByteArray} (h : SAt W g l) (hn : l.length = n) (hm : n ≤ maxLen) : Ss W (.slice (some ⟨g, 0, none⟩) n n) l := by
  subst hn
  exact ⟨_, _, rfl, hm, Nat.le_refl _, fun _ => ⟨g, 0, rfl, h.lt, fun j hj => by rw [Nat.zero_add]; exact h.cell hj⟩⟩
theorem mk_strs (n : Nat) (hn : n ≤ 40) (W : World) : (Instr.makeSlice 34 (.int .i64 (n : Int)) (.int .i64 (n : Int))).run Try.prog W = .ok (.slice (some ⟨W.heap.size, 0, none⟩) n n) (W.alloc (.cells ((List.replicate n ByteArray.empty).map Value.string).toArray 9)) := by
  have hi := Try.info9
  cases h : Try.prog.info? 9 with
  | none => rw [h] at hi; cases hi
  | some i =>
    rw [h] at hi
    simp at hi
    have := run_make (P := Try.prog) W 34 9 i (.string ByteArray.empty) Try.underlying34 h hi.1 .i64 .i64 n n (by omega) (by omega) (by rw [hi.2.2]; omega) (by omega)
    rw [this, hi.2.1]
    have e : madeCells (Value.string ByteArray.empty).cells (((n : Int)).toNat * 1) = ((List.replicate n ByteArray.empty).map Value.string).toArray := by
      apply Array.ext
      · simp [madeCells]
      · intro j h1 h2
        simp [madeCells, Value.cells, Nat.mod_one]
    rw [e]
    simp

theorem page_zero (la : Option Addr) (ln lc : Nat) (e : Int) (w : World) (he : e = 0 ∨ e = -1) :
    Calls Try.prog 78 #[.slice la ln lc, .int .i64 e] w fun r w' => r = .returned (.string Z4) ∧ Below w.heap.size w w' := by
  rcases he with rfl | rfl
  all_goals
    go_enter Try.func78, Try.ntmps78
    go_wp2_with (go_at_call 80; refine (zero_any _).mono ?_; rintro e w1 ⟨rfl, b1⟩)
    go_ret
    exact ⟨rfl, b1⟩
theorem page_slot (lb lo : Nat) (ln lc : Nat) (j : Nat) (d : ByteArray) (w : World) (h1 : 1 ≤ j) (hj : j < ln) (hc : w.cell? ⟨lb, lo + j * 3 + 1, none⟩ = some (.string d)) :
    Calls Try.prog 78 #[.slice (some ⟨lb, lo, none⟩) ln lc, .int .i64 j] w fun r w' => r = .returned (.string d) ∧ Below w.heap.size w w' := by
  have h0 : ((j : Int) == 0) = false := by simp; omega
  have hm : ((j : Int) == -1) = false := by simp <;> omega
  have hji : (j : Int) < (ln : Int) := by omega
  go_enter Try.func78, Try.ntmps78
  go_wp2_with fail
  go_ret
  exact ⟨rfl, Below.refl _ _⟩
theorem page_is {lv : Value} {L : List SlotD} {w : World} (h : Slots w lv L) {e : Int} (he : e = 0 ∨ e = -1 ∨ ∃ j : Nat, e = j ∧ 1 ≤ j ∧ j < L.length) {p : ByteArray} (hp : pageV L e = p) :
    Calls Try.prog 78 #[lv, .int .i64 e] w fun r w' => r = .returned (.string p) ∧ Below w.heap.size w w' := by
  unfold pageV at hp
  have h' := h
  obtain ⟨la, lc, rfl⟩ := h.form
  rcases he with he | he | ⟨j, rfl, h1, hj⟩
  · rw [if_pos (by omega)] at hp; subst hp
    exact page_zero la _ lc e w (.inl he)
  · rw [if_pos (by omega)] at hp; subst hp
    exact page_zero la _ lc e w (.inr he)
  · rw [if_neg (by omega)] at hp
    obtain ⟨sb, so, rfl, hsb, tv, _, c2, _⟩ := h'.at j hj
    have e : L.getD (j : Int).toNat default = L[j] := by simp [List.getD, hj]
    rw [e] at hp
    rw [hp] at c2
    exact page_slot sb so _ lc j p w h1 hj c2

def rowP (m : ImgD) (root : List Int) (g k : Nat) : List ByteArray := (List.range g).map (fun n => if n < k then pageV m.slots (lookV m root n) else ByteArray.empty)
theorem rowP_length (m : ImgD) (root : List Int) (g k : Nat) : (rowP m root g k).length = g := by simp [rowP]
theorem rowP_zero (m : ImgD) (root : List Int) (g : Nat) : rowP m root g 0 = List.replicate g ByteArray.empty := by
  unfold rowP
  apply List.ext_getElem <;> simp
theorem rowP_end (m : ImgD) (root : List Int) (g : Nat) : rowP m root g g = allP m root g := by
  unfold rowP allP
  exact List.map_congr_left fun n hn => by rw [if_pos (List.mem_range.1 hn)]
theorem rowP_set (m : ImgD) (root : List Int) (g k : Nat) : (rowP m root g k).set k (pageV m.slots (lookV m root k)) = rowP m root g (k + 1) := by
  unfold rowP
  apply List.ext_getElem
  · simp
  · intro j h1 h2
    rw [List.getElem_set]
    by_cases e : k = j
    · subst e; simp
    · rw [if_neg e]
      simp only [List.getElem_map, List.getElem_range]
      by_cases c : j < k
      · rw [if_pos c, if_pos (by omega)]
      · rw [if_neg c, if_neg (by omega)]

theorem SAt.below {W W' : World} {g n : Nat} {l : List ByteArray} (h : SAt W g l) (hb : Below n W W') (hg : g < n) : SAt W' g l := (hb.block _ hg).trans h

set_option maxHeartbeats 4000000 in
theorem allPages_at (sa : Option Addr) (sn sc : Nat) (qa : Option Addr) (qn qc : Nat) (g : Nat) (m : ImgD) (root : List Int) (w : World) (hS : Slots w (.slice sa sn sc) m.slots) (hq : Sl w (.slice qa qn qc) root) (hg : g ≤ 16) (hl : (root.length : Int) = ((g : Int) + 3) / 4) (hE : shapeE m = 0) (hall : root.all (rootE m.slots) = true) :
    Calls Try.prog 43 #[.slice sa sn sc, .slice qa qn qc, .int .i64 g] w fun r w' => (r = .returned (.slice (some ⟨w.heap.size, 0, none⟩) g g) ∧ SAt w' w.heap.size (allP m root g)) ∧ Below w.heap.size w w' := by
  have hmk := mk_strs g (by omega)
  obtain ⟨W0, hW0⟩ : ∃ W0, w.alloc (.cells ((List.replicate g ByteArray.empty).map Value.string).toArray 9) = W0 := ⟨_, rfl⟩
  have l0 : SAt W0 w.heap.size (rowP m root g 0) := by
    rw [rowP_zero, ← hW0]; exact World.alloc_heap_new _ _
  have b0 : Below w.heap.size w W0 := by rw [← hW0]; exact (Below.refl _ _).alloc (Nat.le_refl _) _
  have H1 : Hid (Slots w (.slice sa sn sc) m.slots) := hS
  have H2 : Hid (Sl w (.slice qa qn qc) root ∧ root.length = qn) := ⟨hq, hq.cells.1⟩
  have H3 : Hid ((root.length : Int) = ((g : Int) + 3) / 4) := hl
  have H4 : Hid (shapeE m = 0 ∧ root.all (rootE m.slots) = true) := ⟨hE, hall⟩
  have H5 : Hid (m.slots.length = sn) := by
    obtain ⟨_, _, e, _⟩ := hS
    simp at e
    exact e.2.1.symm
  clear hS hq hl hE hall
  go_enter Try.func43, Try.ntmps43
  go_wp2_with fail
  rw [show w.alloc (Obj.cells (Array.replicate g (Value.string ByteArray.empty)) 9) = W0 by rw [← hW0]; simp]
  clear hmk hW0
  go_loopw [8, 9, 10, 15] (fun _ _ _ i wq => ∃ k : Nat, k ≤ g ∧ i = .int .i64 k ∧ SAt wq w.heap.size (rowP m root g k) ∧ Below w.heap.size w wq) (fun _ _ _ i _ => g - (intOf i).toNat)
  case atStart => exact ⟨0, Nat.zero_le _, rfl, l0, b0⟩
  case round =>
    obtain ⟨k, hk, rfl, hL, hbel⟩ := hrel
    by_cases hlk : k < g
    · have hki : (k : Int) < (g : Int) := by omega
      have hkq : k / 4 < root.length := by have := H3.out; omega
      have hqn : k / 4 < qn := by rw [← H2.out.2]; exact hkq
      obtain ⟨b, off, rfl, hlt, hcr⟩ := H2.out.1.cells.2.2.2 (k / 4) hqn
      have hcr := (hbel.cell (p := ⟨b, off + k / 4, none⟩) hlt).trans hcr
      have hq1 : ((k : Int) / 4).toNat = k / 4 := by omega
      have hq2 : ((k : Int) % 4).toNat = k % 4 := by omega
      have hqi : (k : Int) / 4 < (qn : Int) := by omega
      have hent := lookV_ent H4.out.1 H4.out.2 k hkq
      obtain ⟨p, hp⟩ : ∃ p, pageV m.slots (lookV m root k) = p := ⟨_, rfl⟩
      have hcall := fun W (hW : Below w.heap.size w W) => page_is (H1.out.below hW) (hent.imp id (Or.imp id (fun ⟨j, a, b, c, _⟩ => ⟨j, a, b, c⟩))) hp
      have HP : Hid ((rowP m root g k).set k p = rowP m root g (k + 1)) := by show _ = _; rw [← hp]; exact rowP_set m root g k
      have hfx := hL.frozen k
      have hcx := hL.cell (j := k) (by rw [rowP_length]; exact hlk)
      have hzr := hL.lt
      obtain ⟨x, hx⟩ : ∃ x, root.getD (k / 4) 0 = x := ⟨_, rfl⟩
      have HX : Hid (lookV m root k = if x = 0 then 0 else (tabOf m.slots x).getD (k % 4) 0) := by show _ = _; unfold lookV; rw [hx]
      have HXe : Hid (rootE m.slots x = true) := by show _ = _; rw [← hx]; exact all_at H4.out.2 hkq
      rw [hx] at hcr
      clear hp hx hent
      by_cases hx0 : x = 0
      · have hxb : (x != 0) = false := by simp [hx0]
        rw [HX.out, if_pos hx0] at hcall
        clear hx0
        go_wp2_with fail
        refine (hcall _ hbel).mono ?_
        rintro e w1 ⟨rfl, b1⟩
        have hL1 := hL.below b1 hzr
        have hfx := hL1.frozen k
        have hcx := hL1.cell (j := k) (by rw [rowP_length]; exact hlk)
        have hb1 := Below.on hbel b1
        clear hcall
        go_wp2_with fail
        go_roundw
        case rel => exact ⟨k + 1, by omega, by go_num, by rw [← HP.out]; exact hL1.set k p, hb1.setCell (Nat.le_refl _) _⟩
        case measure => simp [intOf]; omega
      · have hxb : (x != 0) = true := by simp [hx0]
        have hkd := HXe.out
        rw [rootE_x hx0] at hkd
        rw [HX.out, if_neg hx0] at hcall
        obtain ⟨t, rfl, htl, hk2⟩ := isKd_yes hkd
        have hok := okD_tab (slotsE_all (shapeE_zero H4.out.1).2.1 htl) hk2
        obtain ⟨sb, so, rfl, hsb, tv, _, _, c3, hsl⟩ := H1.out.at t htl
        obtain ⟨tb, tw, tc, rfl, _, htb, htc⟩ := hsl.four hok.1
        have hts : t < sn := by rw [← H5.out]; exact htl
        have hti : (t : Int) < (sn : Int) := by omega
        have ct : wr.cell? ⟨sb, so + t * 3 + 2, none⟩ = some (.slice (some ⟨tb, tw, none⟩) 4 tc) := (hbel.cell (p := ⟨sb, so + t * 3 + 2, none⟩) hsb).trans c3
        have cx := (hbel.cell (p := ⟨tb, tw + k % 4, none⟩) htb).trans (htc (k % 4) (by omega))
        have etab : m.slots[t].2.2 = tabOf m.slots t := by unfold tabOf; simp [List.getD, htl]
        rw [etab] at cx
        obtain ⟨y, hy⟩ : ∃ y, (tabOf m.slots t).getD (k % 4) 0 = y := ⟨_, rfl⟩
        rw [hy] at cx hcall
        have h4 : k % 4 < 4 := by omega
        clear hx0 hkd hk2 hok hsl htc c3 etab hy
        go_wp2_with fail
        refine (hcall _ hbel).mono ?_
        rintro e w1 ⟨rfl, b1⟩
        have hL1 := hL.below b1 hzr
        have hfx := hL1.frozen k
        have hcx := hL1.cell (j := k) (by rw [rowP_length]; exact hlk)
        have hb1 := Below.on hbel b1
        clear hcall
        go_wp2_with fail
        go_roundw
        case rel => exact ⟨k + 1, by omega, by go_num, by rw [← HP.out]; exact hL1.set k p, hb1.setCell (Nat.le_refl _) _⟩
        case measure => simp [intOf]; omega
    · have e4 : k = g := by omega
      subst e4
      go_wp2_with fail
      go_ret
      exact ⟨⟨rfl, by rw [← rowP_end]; exact hL⟩, hbel⟩
theorem allP_length (m : ImgD) (root : List Int) (g : Nat) : (allP m root g).length = g := by simp [allP]
/-- All pages of a Root that fits. -/
theorem allPages_is {lv rv : Value} {m : ImgD} {g : Int} {root : List Int} {w : World} (hS : Slots w lv m.slots) (hq : Sl w rv root) (hE : shapeE m = 0) (hg : guestOK g = true) (hf : rootFit m.slots g root = true) :
    Calls Try.prog 43 #[lv, rv, .int .i64 g] w fun r w' => (∃ v, r = .returned v ∧ Ss w' v (allP m root g.toNat)) ∧ Below w.heap.size w w' := by
  unfold guestOK at hg
  simp only [decide_eq_true_eq] at hg
  unfold rootFit at hf
  simp only [Bool.and_eq_true, decide_eq_true_eq] at hf
  obtain ⟨k, rfl⟩ : ∃ k : Nat, g = k := ⟨g.toNat, by omega⟩
  obtain ⟨sa, sc, rfl⟩ := hS.form
  obtain ⟨qa, qc, rfl⟩ := hq.form
  rw [Int.toNat_natCast]
  exact (allPages_at sa _ sc qa _ qc k m root w hS hq (by omega) hf.1 hE hf.2.1).mono fun _ _ h => ⟨⟨_, h.1.1, h.1.2.ss (allP_length _ _ _) (by unfold maxLen; omega)⟩, h.2⟩

theorem lookE_parts {m : ImgD} {n : Int} (h : lookE m n = 0) : checkE m = 0 ∧ 0 ≤ n ∧ n < m.guest := by
  unfold lookE at h
  split at h
  · rename_i h0; exact absurd h h0
  rename_i h0
  split at h
  · rename_i hn; exact ⟨Classical.not_not.1 h0, hn⟩
  · simp at h
theorem look_ent {m : ImgD} {n : Int} (h : lookE m n = 0) : lookV m m.root n.toNat = 0 ∨ lookV m m.root n.toNat = -1 ∨ ∃ j : Nat, lookV m m.root n.toNat = j ∧ 1 ≤ j ∧ j < m.slots.length := by
  obtain ⟨h0, h1, h2⟩ := lookE_parts h
  have hs := checkE_shape h0
  have hg := guest_ok hs
  have hr := root_ok hs
  exact (lookV_ent hs hr.2 n.toNat (by omega)).imp id (Or.imp id (fun ⟨j, a, b, c, _⟩ => ⟨j, a, b, c⟩))

theorem all_bad (gm : Int) (ra : Option Addr) (rn rc : Nat) (sa : Option Addr) (sn sc : Nat) (fa : Option Addr) (fn fc : Nat) (na : Option Addr) (nn nc : Nat) (m : ImgD) (E : Int) (w : World) (h : Img w (.agg #[.int .i64 gm, .slice ra rn rc, .slice sa sn sc, .slice fa fn fc, .slice na nn nc]) m) (hE : checkE m = E) (hne : (E != 0) = true) :
    Calls Try.prog 15 #[.agg #[.int .i64 gm, .slice ra rn rc, .slice sa sn sc, .slice fa fn fc, .slice na nn nc]] w fun r w' => r = .returned (.tuple #[.slice none 0 0, .int .i64 E]) ∧ Below w.heap.size w w' := by
  have b0 : Below w.heap.size w (w.alloc (.cells #[.int .i64 gm, .slice ra rn rc, .slice sa sn sc, .slice fa fn fc, .slice na nn nc] 26)) := (Below.refl _ _).alloc (Nat.le_refl _) _
  have m0 : (w.alloc (.cells #[.int .i64 gm, .slice ra rn rc, .slice sa sn sc, .slice fa fn fc, .slice na nn nc] 26)).heap[w.heap.size]? = some (.cells #[.int .i64 gm, .slice ra rn rc, .slice sa sn sc, .slice fa fn fc, .slice na nn nc] 26) := World.alloc_heap_new _ _
  have z0 : w.heap.size < (w.alloc (.cells #[.int .i64 gm, .slice ra rn rc, .slice sa sn sc, .slice fa fn fc, .slice na nn nc] 26)).heap.size := by simp
  have h1 := tcheck_is (h.below b0) hE
  clear h hE
  go_enter Try.func15, Try.ntmps15
  go_wp2_with fail
  refine h1.mono ?_
  rintro e w1 ⟨rfl, b1⟩
  go_wp2_with fail
  go_ret2
  exact ⟨rfl, Below.on b0 b1⟩
theorem all_at' (gm : Int) (ra : Option Addr) (rn rc : Nat) (sa : Option Addr) (sn sc : Nat) (fa : Option Addr) (fn fc : Nat) (na : Option Addr) (nn nc : Nat) (m : ImgD) (w : World) (h : Img w (.agg #[.int .i64 gm, .slice ra rn rc, .slice sa sn sc, .slice fa fn fc, .slice na nn nc]) m) (hS : Slots w (.slice sa sn sc) m.slots) (hr : Sl w (.slice ra rn rc) m.root) (hgm : m.guest = gm) (hC : checkE m = 0) :
    Calls Try.prog 15 #[.agg #[.int .i64 gm, .slice ra rn rc, .slice sa sn sc, .slice fa fn fc, .slice na nn nc]] w fun r w' => (∃ v, r = .returned (.tuple #[v, .int .i64 0]) ∧ Ss w' v (allP m m.root m.guest.toNat)) ∧ Below w.heap.size w w' := by
  have b0 : Below w.heap.size w (w.alloc (.cells #[.int .i64 gm, .slice ra rn rc, .slice sa sn sc, .slice fa fn fc, .slice na nn nc] 26)) := (Below.refl _ _).alloc (Nat.le_refl _) _
  have m0 : (w.alloc (.cells #[.int .i64 gm, .slice ra rn rc, .slice sa sn sc, .slice fa fn fc, .slice na nn nc] 26)).heap[w.heap.size]? = some (.cells #[.int .i64 gm, .slice ra rn rc, .slice sa sn sc, .slice fa fn fc, .slice na nn nc] 26) := World.alloc_heap_new _ _
  have z0 : w.heap.size < (w.alloc (.cells #[.int .i64 gm, .slice ra rn rc, .slice sa sn sc, .slice fa fn fc, .slice na nn nc] 26)).heap.size := by simp
  have h1 := tcheck_is (h.below b0) hC
  have hE := checkE_shape hC
  have z5 := List.all_eq_true.1 (shapeE_zero hE).2.2.2.2.1 (⟨#[]⟩, m.guest, m.root) List.mem_cons_self
  have z7 := List.all_eq_true.1 (shapeE_zero hE).2.2.2.2.2.2 (⟨#[]⟩, m.guest, m.root) List.mem_cons_self
  dsimp only at z5 z7
  have h2 := fun W (hW : Below w.heap.size w W) => allPages_is (hS.below hW) (hr.below hW) hE z5 z7
  rw [hgm] at h2 ⊢
  clear h hE z5 z7 hS hr hC
  go_enter Try.func15, Try.ntmps15
  go_wp2_with fail
  refine h1.mono ?_
  rintro e w1 ⟨rfl, b1⟩
  have m1 := cells_below m0 b1 z0
  have hB1 := Below.on b0 b1
  obtain ⟨a0, a1, a2, a3, a4⟩ := five m1
  clear h1
  go_wp2_with fail
  refine (h2 _ hB1).mono ?_
  rintro e w2 ⟨⟨v, rfl, hv⟩, b2⟩
  go_wp2_with fail
  go_ret2
  exact ⟨⟨v, rfl, hv⟩, Below.on hB1 b2⟩
theorem all_is {w : World} {v : Value} {m : ImgD} (h : Img w v m) {E : Int} {l : List ByteArray} (hE : checkE m = E) (hl : allV m = l) :
    Calls Try.prog 15 #[v] w fun r w' => (∃ v, r = .returned (.tuple #[v, .int .i64 E]) ∧ Ss w' v l) ∧ Below w.heap.size w w' := by
  have h' := h
  obtain ⟨ra, rc, sa, sc, fa, fc, na, nc, rfl, h1, h2, h3, h4⟩ := h.parts
  unfold allV at hl
  by_cases h0 : checkE m = 0
  · rw [if_pos h0] at hl
    rw [h0] at hE
    subst hE hl
    exact all_at' m.guest ra _ rc sa _ sc fa _ fc na _ nc m w h' h2 h1 rfl h0
  · rw [if_neg h0] at hl
    subst hl
    exact (all_bad m.guest ra _ rc sa _ sc fa _ fc na _ nc m E w h' hE (by rw [← hE]; simpa using h0)).mono fun _ w' h => ⟨⟨_, h.1, Ss.nil w'⟩, h.2⟩
end Go.Proofs.Ytehleeibgkpjmad
/- Contracts of slices.IndexFunc over snapshots, and of Past. -/
namespace Go.Proofs.Ytehleeibgkpjmad
open Go.RowKit Go.Shelf
set_option maxRecDepth 20000

def PredN (g : Nat) (lb : Array Value) (p : SnapD → Bool) (w : World) : Prop :=
  ∀ (W : World) (s : SnapD) (tv : Value), Below w.heap.size w W → Sl W tv s.2.2 → Calls Try.prog g (#[.agg #[.string s.1, .int .i64 s.2.1, tv]] ++ lb) W fun e w' => e = .returned (.bool (p s)) ∧ Below W.heap.size W w'
theorem find_hit {p : SnapD → Bool} {L : List SnapD} {k : Nat} (hk : k < L.length) (h : p L[k] = true) (ha : ∀ j, (hj : j < L.length) → j < k → p L[j] = false) : L.findIdx? p = some k := by
  rw [List.findIdx?_eq_some_iff_getElem]
  exact ⟨hk, h, fun j hj => by rw [ha j (by omega) hj]; decide⟩
theorem find_none {p : SnapD → Bool} {L : List SnapD} (ha : ∀ j, (hj : j < L.length) → p L[j] = false) : L.findIdx? p = none := by
  rw [List.findIdx?_eq_none_iff]
  intro x hx
  obtain ⟨j, hj, rfl⟩ := List.getElem_of_mem hx
  exact ha j hj

set_option maxHeartbeats 1000000 in
theorem indexN_at (g : Nat) (lb : Array Value) (eg : ∀ args w, (callFunc g args).run Try.prog w = .ok (.enter g args) w) (p : SnapD → Bool) (ao : Option Addr) (n cap : Nat) (L : List SnapD) (w : World) (hn : L.length = n) (hm : n ≤ 9223372036854775807)
    (hc : ∀ j, (h : j < L.length) → ∃ b off, ao = some ⟨b, off, none⟩ ∧ b < w.heap.size ∧ SnAt w b (off + j * 3) L[j]) (hp : PredN g lb p w) (i : Int) (hi : ixOf (L.findIdx? p) = i) :
    Calls Try.prog 47 #[.slice ao n cap, .func (.func g) #[] lb] w fun r w' => r = .returned (.int .i64 i) ∧ Below w.heap.size w w' := by
  have HN : Hid (L.length = n) := hn
  have HP : Hid (PredN g lb p w) := hp
  have HI : Hid (ixOf (L.findIdx? p) = i) := hi
  have HC : Hid (∀ j, (h : j < L.length) → ∃ b off, ao = some ⟨b, off, none⟩ ∧ b < w.heap.size ∧ SnAt w b (off + j * 3) L[j]) := hc
  clear hn hp hc hi
  go_enter Try.func47, Try.ntmps47
  go_wp2
  go_loopw [5, 8] (fun _ i wr => ∃ k : Nat, k ≤ n ∧ i = .int .i64 k ∧ Hid (∀ j, (h : j < L.length) → j < k → p L[j] = false) ∧ Below w.heap.size w wr) (fun _ i _ => n - (intOf i).toNat)
  case atStart => exact ⟨0, Nat.zero_le _, rfl, fun j h hj => absurd hj (by omega), Below.refl _ _⟩
  case round =>
    obtain ⟨k, hk, rfl, HA, hbel⟩ := hrel
    by_cases hlk : k < n
    · have hkL : k < L.length := by rw [HN.out]; exact hlk
      obtain ⟨b, off, rfl, hlt, hS⟩ := HC.out k hkL
      have hki : (k : Int) < (n : Int) := by omega
      obtain ⟨s, hs⟩ : ∃ s, s = L[k] := ⟨_, rfl⟩
      obtain ⟨kk, dd, tt⟩ := s
      rw [← hs] at hS
      obtain ⟨tv, c1, c2, c3, hsl⟩ := hS
      have HX : Hid ((kk, dd, tt) = L[k]) := hs
      have c1 : wr.cell? ⟨b, off + k * 3, none⟩ = some (.string kk) := (hbel.cell (p := ⟨b, off + k * 3, none⟩) hlt).trans c1
      have c2 : wr.cell? ⟨b, off + k * 3 + 1, none⟩ = some (.int .i64 dd) := (hbel.cell (p := ⟨b, off + k * 3 + 1, none⟩) hlt).trans c2
      have c3 : wr.cell? ⟨b, off + k * 3 + 1 + 1, none⟩ = some tv := (hbel.cell (p := ⟨b, off + k * 3 + 1 + 1, none⟩) hlt).trans c3
      have hcall := HP.out wr (kk, dd, tt) tv hbel (hsl.below hbel)
      dsimp only at hcall
      clear hs hsl
      cases hq : p (kk, dd, tt) with
      | true =>
        rw [hq] at hcall
        go_wp2_with (go_at_fn g; refine hcall.mono ?_; rintro e w1 ⟨rfl, b1⟩)
        go_ret
        exact ⟨by rw [← HI.out, find_hit (p := p) hkL (by rw [← HX.out]; exact hq) HA.out]; rfl, Below.on hbel b1⟩
      | false =>
        rw [hq] at hcall
        go_wp2_with (go_at_fn g; refine hcall.mono ?_; rintro e w1 ⟨rfl, b1⟩)
        go_roundw
        case rel => exact ⟨k + 1, by omega, by go_num, fun j h hj => by
          by_cases e : j = k
          · subst e; rw [← HX.out]; exact hq
          · exact HA.out j h (by omega), Below.on hbel b1⟩
        case measure => simp [intOf]; omega
    · have e4 : k = n := by omega
      subst e4
      go_wp2
      go_ret
      exact ⟨by rw [← HI.out, find_none (p := p) (fun j hj => HA.out j hj (by rw [HN.out] at hj; exact hj))]; rfl, hbel⟩

theorem pastP_any (B : Nat) (nm : ByteArray) (s : SnapD) (ta : Option Addr) (tn tc : Nat) (w : World) (hB : B < w.heap.size) (hc : w.cell? ⟨B, 0, none⟩ = some (.string nm)) :
    Calls Try.prog 48 #[.agg #[.string s.1, .int .i64 s.2.1, .slice ta tn tc], .pointer (some ⟨B, 0, none⟩)] w fun r w' => r = .returned (.bool (s.1.toList == nm.toList)) ∧ Below w.heap.size w w' := by
  obtain ⟨k, d, xs⟩ := s
  dsimp only
  have b0 : Below w.heap.size w (w.alloc (.cells #[.string k, .int .i64 d, .slice ta tn tc] 72)) := (Below.refl _ _).alloc (Nat.le_refl _) _
  have hc1 := (b0.cell (p := ⟨B, 0, none⟩) hB).trans hc
  go_enter Try.func48, Try.ntmps48
  go_wp2
  go_ret
  exact ⟨rfl, b0⟩

theorem past_bad (gm : Int) (ra : Option Addr) (rn rc : Nat) (sa : Option Addr) (sn sc : Nat) (fa : Option Addr) (fn fc : Nat) (na : Option Addr) (nn nc : Nat) (m : ImgD) (nm : ByteArray) (E : Int) (w : World) (h : Img w (.agg #[.int .i64 gm, .slice ra rn rc, .slice sa sn sc, .slice fa fn fc, .slice na nn nc]) m) (hE : checkE m = E) (hne : (E != 0) = true) :
    Calls Try.prog 20 #[.agg #[.int .i64 gm, .slice ra rn rc, .slice sa sn sc, .slice fa fn fc, .slice na nn nc], .string nm] w fun r w' => r = .returned (.tuple #[.slice none 0 0, .int .i64 E]) ∧ Below w.heap.size w w' := by
  have b0 : Below w.heap.size w ((w.alloc (.cells #[.int .i64 gm, .slice ra rn rc, .slice sa sn sc, .slice fa fn fc, .slice na nn nc] 26)).alloc (.cells #[.string nm] 9)) := ((Below.refl _ _).alloc (Nat.le_refl _) _).alloc (by simp) _
  have m0 : ((w.alloc (.cells #[.int .i64 gm, .slice ra rn rc, .slice sa sn sc, .slice fa fn fc, .slice na nn nc] 26)).alloc (.cells #[.string nm] 9)).heap[w.heap.size]? = some (.cells #[.int .i64 gm, .slice ra rn rc, .slice sa sn sc, .slice fa fn fc, .slice na nn nc] 26) := cells_alloc (World.alloc_heap_new _ _) _
  have k0 : ((w.alloc (.cells #[.int .i64 gm, .slice ra rn rc, .slice sa sn sc, .slice fa fn fc, .slice na nn nc] 26)).alloc (.cells #[.string nm] 9)).heap[w.heap.size + 1]? = some (.cells #[.string nm] 9) := by
    have := World.alloc_heap_new (w.alloc (.cells #[.int .i64 gm, .slice ra rn rc, .slice sa sn sc, .slice fa fn fc, .slice na nn nc] 26)) (.cells #[.string nm] 9)
    simpa using this
  have z0 : w.heap.size + 1 < ((w.alloc (.cells #[.int .i64 gm, .slice ra rn rc, .slice sa sn sc, .slice fa fn fc, .slice na nn nc] 26)).alloc (.cells #[.string nm] 9)).heap.size := by simp
  have h1 := tcheck_is (h.below b0) hE
  clear h hE
  go_enter Try.func20, Try.ntmps20
  go_wp2_with fail
  refine h1.mono ?_
  rintro e w1 ⟨rfl, b1⟩
  go_wp2_with fail
  go_ret2
  exact ⟨rfl, Below.on b0 b1⟩
set_option maxHeartbeats 2000000 in
theorem past_at (gm : Int) (ra : Option Addr) (rn rc : Nat) (sa : Option Addr) (sn sc : Nat) (fa : Option Addr) (fn fc : Nat) (na : Option Addr) (nn nc : Nat) (m : ImgD) (nm : ByteArray) (w : World) (h : Img w (.agg #[.int .i64 gm, .slice ra rn rc, .slice sa sn sc, .slice fa fn fc, .slice na nn nc]) m) (hS : Slots w (.slice sa sn sc) m.slots) (hN : Snaps w (.slice na nn nc) m.snaps) (hnn : m.snaps.length = nn) (hC : checkE m = 0) :
    Calls Try.prog 20 #[.agg #[.int .i64 gm, .slice ra rn rc, .slice sa sn sc, .slice fa fn fc, .slice na nn nc], .string nm] w fun r w' => (∃ v, r = .returned (.tuple #[v, .int .i64 (pastE m nm)]) ∧ Ss w' v (pastV m nm)) ∧ Below w.heap.size w w' := by
  have b0 : Below w.heap.size w ((w.alloc (.cells #[.int .i64 gm, .slice ra rn rc, .slice sa sn sc, .slice fa fn fc, .slice na nn nc] 26)).alloc (.cells #[.string nm] 9)) := ((Below.refl _ _).alloc (Nat.le_refl _) _).alloc (by simp) _
  have m0 : ((w.alloc (.cells #[.int .i64 gm, .slice ra rn rc, .slice sa sn sc, .slice fa fn fc, .slice na nn nc] 26)).alloc (.cells #[.string nm] 9)).heap[w.heap.size]? = some (.cells #[.int .i64 gm, .slice ra rn rc, .slice sa sn sc, .slice fa fn fc, .slice na nn nc] 26) := cells_alloc (World.alloc_heap_new _ _) _
  have k0 : ((w.alloc (.cells #[.int .i64 gm, .slice ra rn rc, .slice sa sn sc, .slice fa fn fc, .slice na nn nc] 26)).alloc (.cells #[.string nm] 9)).heap[w.heap.size + 1]? = some (.cells #[.string nm] 9) := by
    have := World.alloc_heap_new (w.alloc (.cells #[.int .i64 gm, .slice ra rn rc, .slice sa sn sc, .slice fa fn fc, .slice na nn nc] 26)) (.cells #[.string nm] 9)
    simpa using this
  have z0 : w.heap.size + 1 < ((w.alloc (.cells #[.int .i64 gm, .slice ra rn rc, .slice sa sn sc, .slice fa fn fc, .slice na nn nc] 26)).alloc (.cells #[.string nm] 9)).heap.size := by simp
  have h1 := tcheck_is (h.below b0) hC
  have hE := checkE_shape hC
  have hn3 : nn ≤ 3 := by rw [← hnn]; exact (shapeE_zero hE).1
  have hix : ∀ W, Below ((w.alloc (.cells #[.int .i64 gm, .slice ra rn rc, .slice sa sn sc, .slice fa fn fc, .slice na nn nc] 26)).alloc (.cells #[.string nm] 9)).heap.size ((w.alloc (.cells #[.int .i64 gm, .slice ra rn rc, .slice sa sn sc, .slice fa fn fc, .slice na nn nc] 26)).alloc (.cells #[.string nm] 9)) W → Calls Try.prog 47 #[.slice na nn nc, .func (.func 48) #[] #[.pointer (some ⟨w.heap.size + 1, 0, none⟩)]] W fun r w' => r = .returned (.int .i64 (ixOf (snapIx m.snaps nm))) ∧ Below W.heap.size W w' := by
    intro W hW
    refine indexN_at 48 #[.pointer (some ⟨w.heap.size + 1, 0, none⟩)] (enters_of Try.func48 (by kernel_rfl) rfl) (fun s => s.1.toList == nm.toList) na nn nc m.snaps W hnn (by omega) (hN.below (Below.on b0 hW)).at (fun W' s tv hb ht => ?_) _ rfl
    obtain ⟨ta, tc, rfl⟩ := ht.form
    have hk := cells_below (cells_below k0 hW z0) hb (Nat.lt_of_lt_of_le z0 hW.size)
    exact pastP_any (w.heap.size + 1) nm s ta _ tc W' (Array.getElem?_eq_some_iff.1 hk).1 (cell_of hk rfl)
  have H1 : Hid (checkE m = 0 ∧ shapeE m = 0) := ⟨hC, hE⟩
  have H2 : Hid (Slots w (.slice sa sn sc) m.slots ∧ Snaps w (.slice na nn nc) m.snaps ∧ m.snaps.length = nn) := ⟨hS, hN, hnn⟩
  clear h hE hS hN hnn hC
  cases hsi : snapIx m.snaps nm with
  | none =>
    have HPE : Hid (pastE m nm = 5) := by show _ = _; unfold pastE; rw [if_neg (by rw [H1.out.1]; simp), hsi]
    have HPV : Hid (pastV m nm = []) := by show _ = _; unfold pastV; rw [if_neg (by rw [H1.out.1]; simp), hsi]
    rw [hsi] at hix
    rw [HPE.out, HPV.out]
    go_enter Try.func20, Try.ntmps20
    go_wp2_with fail
    refine h1.mono ?_
    rintro e w1 ⟨rfl, b1⟩
    have m1 := cells_below m0 b1 (by simp; omega)
    obtain ⟨a0, a1, a2, a3, a4⟩ := five m1
    clear h1
    go_wp2_with fail
    refine (hix _ b1).mono ?_
    rintro e w2 ⟨rfl, b2⟩
    clear hix
    simp only [ixOf]
    go_wp2_with fail
    go_ret2
    exact ⟨⟨_, rfl, Ss.nil _⟩, Below.on' b0 b1 b2⟩
  | some k =>
    have hk := snapIx_some hsi
    have hkn : k < nn := by rw [← H2.out.2.2]; exact hk
    obtain ⟨s, hs⟩ : ∃ s, s = m.snaps[k] := ⟨_, rfl⟩
    obtain ⟨sm, sg, sr⟩ := s
    have eget : m.snaps.getD k default = (sm, sg, sr) := by rw [hs]; simp [List.getD, hk]
    have HPE : Hid (pastE m nm = 0) := by show _ = _; unfold pastE; rw [if_neg (by rw [H1.out.1]; simp), hsi]
    have HPV : Hid (pastV m nm = allP m sr sg.toNat) := by show _ = _; unfold pastV; rw [if_neg (by rw [H1.out.1]; simp), hsi]; dsimp only; rw [eget]
    have hmem : (sm, sg, sr) ∈ rootsOf m := List.mem_cons_of_mem _ (by rw [hs]; exact List.getElem_mem hk)
    have hgg := List.all_eq_true.1 (shapeE_zero H1.out.2).2.2.2.2.1 _ hmem
    have hrr := List.all_eq_true.1 (shapeE_zero H1.out.2).2.2.2.2.2.2 _ hmem
    dsimp only at hgg hrr
    obtain ⟨b, off, rfl, hlt, hSA⟩ := H2.out.2.1.at k hk
    rw [← hs] at hSA
    obtain ⟨rv, s1, s2, s3, hsl⟩ := hSA
    have hcall := fun W (hW : Below w.heap.size w W) => allPages_is (H2.out.1.below hW) (hsl.below hW) H1.out.2 hgg hrr
    obtain ⟨va, vc, rfl⟩ := hsl.form
    have hki : (k : Int) < (nn : Int) := by omega
    have hk0 : ¬ (k : Int) < 0 := by omega
    rw [hsi] at hix
    rw [HPE.out, HPV.out]
    clear hs eget hmem hgg hrr hsl hsi s1
    go_enter Try.func20, Try.ntmps20
    go_wp2_with fail
    refine h1.mono ?_
    rintro e w1 ⟨rfl, b1⟩
    have m1 := cells_below m0 b1 (by simp; omega)
    obtain ⟨a0, a1, a2, a3, a4⟩ := five m1
    clear h1
    go_wp2_with fail
    refine (hix _ b1).mono ?_
    rintro e w2 ⟨rfl, b2⟩
    have m2 := cells_below m1 b2 (Array.getElem?_eq_some_iff.1 m1).1
    have z2 := (Array.getElem?_eq_some_iff.1 m2).1
    clear hix a0 a1 a2 a3 a4
    obtain ⟨c0, c1, c2, c3, c4⟩ := five m2
    have hB2 := Below.on' b0 b1 b2
    have s2 : w2.cell? ⟨b, off + k * 3 + 1, none⟩ = some (.int .i64 sg) := (hB2.cell (p := ⟨b, off + k * 3 + 1, none⟩) hlt).trans s2
    have s3 : w2.cell? ⟨b, off + k * 3 + 2, none⟩ = some (.slice va sr.length vc) := (hB2.cell (p := ⟨b, off + k * 3 + 2, none⟩) hlt).trans s3
    have hbw : b < w2.heap.size := Nat.lt_of_lt_of_le hlt hB2.size
    simp only [ixOf]
    go_wp2_with fail
    go_region_held3 (fun w' => w'.cell? ⟨w.heap.size, 0, none⟩ = some (.int .i64 gm) ∧ w'.cell? ⟨w.heap.size, 0 + 1, none⟩ = some (.slice ra rn rc) ∧ w'.cell? ⟨w.heap.size, 0 + 1 + 1, none⟩ = some (.slice sa sn sc) ∧ w'.cell? ⟨w.heap.size, 0 + 1 + 1 + 1, none⟩ = some (.slice fa fn fc) ∧ w'.cell? ⟨w.heap.size, 0 + 1 + 1 + 1 + 1, none⟩ = some (.slice (some ⟨b, off, none⟩) nn nc) ∧ w'.cell? ⟨b, off + k * 3 + 1, none⟩ = some (.int .i64 sg) ∧ w'.cell? ⟨b, off + k * 3 + 2, none⟩ = some (.slice va sr.length vc)) (first | exact ⟨c0, c1, c2, c3, c4, s2, s3⟩ | exact ⟨d0, d1, d2, d3, d4, e1, e2⟩)
      (first | (go_at_call 43; refine (hcall _ (to_drew hB2)).mono ?_; rintro e w3 ⟨⟨v, rfl, hv⟩, b3⟩; have b3 := below_drew b3; have m3 := cells_below m2 b3 z2; obtain ⟨d0, d1, d2, d3, d4⟩ := five m3; have e1 := (b3.cell (p := ⟨b, off + k * 3 + 1, none⟩) hbw).trans s2; have e2 := (b3.cell (p := ⟨b, off + k * 3 + 2, none⟩) hbw).trans s3))
    go_wp2_with fail
    go_ret2
    exact ⟨⟨v, rfl, hv⟩, Below.on hB2 b3⟩
theorem past_is {w : World} {v : Value} {m : ImgD} (h : Img w v m) (nm : ByteArray) {E : Int} {l : List ByteArray} (hE : pastE m nm = E) (hl : pastV m nm = l) :
    Calls Try.prog 20 #[v, .string nm] w fun r w' => (∃ v, r = .returned (.tuple #[v, .int .i64 E]) ∧ Ss w' v l) ∧ Below w.heap.size w w' := by
  have h' := h
  obtain ⟨ra, rc, sa, sc, fa, fc, na, nc, rfl, h1, h2, h3, h4⟩ := h.parts
  subst hE hl
  by_cases h0 : checkE m = 0
  · exact past_at m.guest ra _ rc sa _ sc fa _ fc na _ nc m nm w h' h2 h4 rfl h0
  · have e1 : pastE m nm = checkE m := by unfold pastE; rw [if_pos h0]
    have e2 : pastV m nm = [] := by unfold pastV; rw [if_pos h0]
    rw [e1, e2]
    exact (past_bad m.guest ra _ rc sa _ sc fa _ fc na _ nc m nm _ w h' rfl (by simpa using h0)).mono fun _ w' h => ⟨⟨_, h.1, Ss.nil w'⟩, h.2⟩
end Go.Proofs.Ytehleeibgkpjmad
/- The walk of WritesPast. -/
namespace Go.Proofs.Ytehleeibgkpjmad
open Go.RowKit Go.Shelf
set_option maxRecDepth 20000
set_option linter.unusedVariables false

set_option maxHeartbeats 4000000 in
theorem wpast_bad (ra : Option Addr) (rc : Nat) (sa : Option Addr) (sc : Nat) (fa : Option Addr) (fc : Nat) (na : Option Addr) (nc : Nat) (m : ImgD) (n : Int) (page : ByteArray) (g : Int) (nm : ByteArray) (w : World) (h : Img w (.agg #[.int .i64 m.guest, .slice ra m.root.length rc, .slice sa m.slots.length sc, .slice fa m.refs.length fc, .slice na m.snaps.length nc]) m) (P : Int) (V : List ByteArray) (HP : Hid (pastE m nm = P ∧ pastV m nm = V)) (bP : (P != 0) = true) :
    Calls Try.prog 5 #[.agg #[.int .i64 m.guest, .slice ra m.root.length rc, .slice sa m.slots.length sc, .slice fa m.refs.length fc, .slice na m.snaps.length nc], .int .i64 n, .string page, .int .i64 g, .string nm] w fun r w' => r = .returned (.bool true) ∧ Below w.heap.size w w' := by
  have hB : Below w.heap.size w (w.alloc (.cells #[.int .i64 m.guest, .slice ra m.root.length rc, .slice sa m.slots.length sc, .slice fa m.refs.length fc, .slice na m.snaps.length nc] 26)) := (Below.refl _ _).alloc (Nat.le_refl _) _
  have mb_m : (w.alloc (.cells #[.int .i64 m.guest, .slice ra m.root.length rc, .slice sa m.slots.length sc, .slice fa m.refs.length fc, .slice na m.snaps.length nc] 26)).heap[w.heap.size]? = some (.cells #[.int .i64 m.guest, .slice ra m.root.length rc, .slice sa m.slots.length sc, .slice fa m.refs.length fc, .slice na m.snaps.length nc] 26) := World.alloc_heap_new _ _
  have I_m := h.below hB
  clear h
  go_enter Try.func5, Try.ntmps5
  obtain ⟨m0, m1, m2, m3, m4⟩ := five mb_m
  have hh_mb_m := Hid_mkW mb_m
  have hh_I_m := Hid_mkW I_m
  have hh_hB := Hid_mkW hB
  clear mb_m I_m hB
  go_wp2_with fail
  clear m0 m1 m2 m3 m4
  have mb_m := hh_mb_m.out
  have I_m := hh_I_m.out
  have hB := hh_hB.out
  clear hh_mb_m hh_I_m hh_hB
  refine (past_is I_m nm HP.out.1 HP.out.2).mono ?_
  rintro e w1 ⟨⟨l0, rfl, S0⟩, bb⟩
  replace mb_m := cells_below mb_m bb (Array.getElem?_eq_some_iff.1 mb_m).1
  replace hB := Below.on hB bb
  replace I_m := I_m.below bb
  clear bb
  have hh_mb_m := Hid_mkW mb_m
  have hh_I_m := Hid_mkW I_m
  have hh_hB := Hid_mkW hB
  clear mb_m I_m hB
  go_wp2_with fail
  have mb_m := hh_mb_m.out
  have I_m := hh_I_m.out
  have hB := hh_hB.out
  clear hh_mb_m hh_I_m hh_hB
  refine (writesBegun_any _).mono ?_
  rintro e w2 ⟨rfl, bb⟩
  replace mb_m := cells_below mb_m bb (Array.getElem?_eq_some_iff.1 mb_m).1
  replace hB := Below.on hB bb
  replace I_m := I_m.below bb
  clear bb
  have hh_mb_m := Hid_mkW mb_m
  have hh_I_m := Hid_mkW I_m
  have hh_hB := Hid_mkW hB
  clear mb_m I_m hB
  go_wp2_with fail
  go_ret
  have hB := hh_hB.out
  exact ⟨rfl, hB⟩

set_option maxHeartbeats 16000000 in
theorem wpast_at (ra : Option Addr) (rc : Nat) (sa : Option Addr) (sc : Nat) (fa : Option Addr) (fc : Nat) (na : Option Addr) (nc : Nat) (m : ImgD) (n : Int) (page : ByteArray) (g : Int) (nm : ByteArray) (w : World) (h : Img w (.agg #[.int .i64 m.guest, .slice ra m.root.length rc, .slice sa m.slots.length sc, .slice fa m.refs.length fc, .slice na m.snaps.length nc]) m) (V : List ByteArray) (HP : Hid (pastE m nm = 0 ∧ pastV m nm = V)) :
    Calls Try.prog 5 #[.agg #[.int .i64 m.guest, .slice ra m.root.length rc, .slice sa m.slots.length sc, .slice fa m.refs.length fc, .slice na m.snaps.length nc], .int .i64 n, .string page, .int .i64 g, .string nm] w fun r w' => r = .returned (.bool true) ∧ Below w.heap.size w w' := by
  have hB : Below w.heap.size w (w.alloc (.cells #[.int .i64 m.guest, .slice ra m.root.length rc, .slice sa m.slots.length sc, .slice fa m.refs.length fc, .slice na m.snaps.length nc] 26)) := (Below.refl _ _).alloc (Nat.le_refl _) _
  have mb_m : (w.alloc (.cells #[.int .i64 m.guest, .slice ra m.root.length rc, .slice sa m.slots.length sc, .slice fa m.refs.length fc, .slice na m.snaps.length nc] 26)).heap[w.heap.size]? = some (.cells #[.int .i64 m.guest, .slice ra m.root.length rc, .slice sa m.slots.length sc, .slice fa m.refs.length fc, .slice na m.snaps.length nc] 26) := World.alloc_heap_new _ _
  have I_m := h.below hB
  obtain ⟨MA, hMA⟩ : ∃ X, wrM m n page = X := ⟨_, rfl⟩
  obtain ⟨EA, hEA⟩ : ∃ X, wrE m n page = X := ⟨_, rfl⟩
  obtain ⟨MB, hMB⟩ : ∃ X, puM m n (-1) = X := ⟨_, rfl⟩
  obtain ⟨EB, hEB⟩ : ∃ X, puE m n (-1) = X := ⟨_, rfl⟩
  obtain ⟨MC, hMC⟩ : ∃ X, puM m n 0 = X := ⟨_, rfl⟩
  obtain ⟨EC, hEC⟩ : ∃ X, puE m n 0 = X := ⟨_, rfl⟩
  obtain ⟨MD, hMD⟩ : ∃ X, rzM m g = X := ⟨_, rfl⟩
  obtain ⟨ED, hED⟩ : ∃ X, rzE m g = X := ⟨_, rfl⟩
  have HA : Hid (wrM m n page = MA ∧ wrE m n page = EA) := ⟨hMA, hEA⟩
  have HB : Hid (puM m n (-1) = MB ∧ puE m n (-1) = EB) := ⟨hMB, hEB⟩
  have HC : Hid (puM m n 0 = MC ∧ puE m n 0 = EC) := ⟨hMC, hEC⟩
  have HD : Hid (rzM m g = MD ∧ rzE m g = ED) := ⟨hMD, hED⟩
  have KA : Hid (EA = 0 → lookE m n = 0 ∧ page.size = 4 ∧ Wrote m MA n.toNat page 2) := fun e => by subst hMA hEA; have := wr_ok e; exact ⟨this.1, this.2.1, this.2.2.2⟩
  have KB : Hid (EB = 0 → lookE m n = 0 ∧ Wrote m MB n.toNat Z4 1) := fun e => by subst hMB hEB; have := pu_ok (Or.inr rfl) e; exact ⟨this.1, this.2.2⟩
  have KC : Hid (EC = 0 → lookE m n = 0 ∧ Wrote m MC n.toNat Z4 1) := fun e => by subst hMC hEC; have := pu_ok (Or.inl rfl) e; exact ⟨this.1, this.2.2⟩
  have KD : Hid (ED = 0 → 0 ≤ g ∧ g ≤ 16 ∧ Resized m MD g.toNat) := fun e => by subst hMD hED; have := rz_ok e; exact ⟨this.2.1, this.2.2.1, this.2.2.2.2⟩
  clear hMA hEA hMB hEB hMC hEC hMD hED
  clear h
  go_enter Try.func5, Try.ntmps5
  obtain ⟨m0, m1, m2, m3, m4⟩ := five mb_m
  have hh_mb_m := Hid_mkW mb_m
  have hh_I_m := Hid_mkW I_m
  have hh_hB := Hid_mkW hB
  clear mb_m I_m hB
  go_wp2_with fail
  clear m0 m1 m2 m3 m4
  have mb_m := hh_mb_m.out
  have I_m := hh_I_m.out
  have hB := hh_hB.out
  clear hh_mb_m hh_I_m hh_hB
  refine (past_is I_m nm HP.out.1 HP.out.2).mono ?_
  rintro e w1 ⟨⟨l0, rfl, S0⟩, bb⟩
  replace mb_m := cells_below mb_m bb (Array.getElem?_eq_some_iff.1 mb_m).1
  replace hB := Below.on hB bb
  replace I_m := I_m.below bb
  clear bb
  obtain ⟨m0, m1, m2, m3, m4⟩ := five mb_m
  have hh_mb_m := Hid_mkW mb_m
  have hh_I_m := Hid_mkW I_m
  have hh_S0 := Hid_mkW S0
  have hh_hB := Hid_mkW hB
  clear mb_m I_m S0 hB
  go_wp2_with fail
  clear m0 m1 m2 m3 m4
  have mb_m := hh_mb_m.out
  have I_m := hh_I_m.out
  have S0 := hh_S0.out
  have hB := hh_hB.out
  clear hh_mb_m hh_I_m hh_S0 hh_hB
  refine (write_to I_m n page HA.out.1 HA.out.2).mono ?_
  intro e w2 hA
  obtain ⟨val, a_r, a_rc, a_s, a_sc, a_f, a_fc, a_n, a_nc, rfl, hO, bb, hI⟩ := hA.open
  dsimp only
  have I_a := hO.img
  rw [hI] at I_a
  clear hA hO hI
  replace mb_m := cells_below mb_m bb (Array.getElem?_eq_some_iff.1 mb_m).1
  replace hB := Below.on hB bb
  replace I_m := I_m.below bb
  replace S0 := S0.below bb
  clear bb
  replace mb_m := cells_alloc mb_m (.cells #[.int .i64 MA.guest, .slice a_r MA.root.length a_rc, .slice a_s MA.slots.length a_sc, .slice a_f MA.refs.length a_fc, .slice a_n MA.snaps.length a_nc] 26)
  have ba : Below w2.heap.size w2 (w2.alloc (.cells #[.int .i64 MA.guest, .slice a_r MA.root.length a_rc, .slice a_s MA.slots.length a_sc, .slice a_f MA.refs.length a_fc, .slice a_n MA.snaps.length a_nc] 26)) := (Below.refl _ _).alloc (Nat.le_refl _) _
  replace hB := Below.on hB ba
  replace I_m := I_m.below ba
  replace S0 := S0.below ba
  replace I_a := I_a.below ba
  clear ba
  have mb_a : (w2.alloc (.cells #[.int .i64 MA.guest, .slice a_r MA.root.length a_rc, .slice a_s MA.slots.length a_sc, .slice a_f MA.refs.length a_fc, .slice a_n MA.snaps.length a_nc] 26)).heap[w2.heap.size]? = some (.cells #[.int .i64 MA.guest, .slice a_r MA.root.length a_rc, .slice a_s MA.slots.length a_sc, .slice a_f MA.refs.length a_fc, .slice a_n MA.snaps.length a_nc] 26) := World.alloc_heap_new _ _
  obtain ⟨m0, m1, m2, m3, m4⟩ := five mb_m
  have hh_mb_m := Hid_mkW mb_m
  have hh_mb_a := Hid_mkW mb_a
  have hh_I_m := Hid_mkW I_m
  have hh_S0 := Hid_mkW S0
  have hh_I_a := Hid_mkW I_a
  have hh_hB := Hid_mkW hB
  clear mb_m mb_a I_m S0 I_a hB
  go_wp2_with fail
  clear m0 m1 m2 m3 m4
  have mb_m := hh_mb_m.out
  have mb_a := hh_mb_a.out
  have I_m := hh_I_m.out
  have S0 := hh_S0.out
  have I_a := hh_I_a.out
  have hB := hh_hB.out
  clear hh_mb_m hh_mb_a hh_I_m hh_S0 hh_I_a hh_hB
  refine (wipe_to I_m n HB.out.1 HB.out.2).mono ?_
  intro e w3 hA
  obtain ⟨val, b_r, b_rc, b_s, b_sc, b_f, b_fc, b_n, b_nc, rfl, hO, bb, hI⟩ := hA.open
  dsimp only
  have I_b := hO.img
  rw [hI] at I_b
  clear hA hO hI
  replace mb_m := cells_below mb_m bb (Array.getElem?_eq_some_iff.1 mb_m).1
  replace mb_a := cells_below mb_a bb (Array.getElem?_eq_some_iff.1 mb_a).1
  replace hB := Below.on hB bb
  replace I_m := I_m.below bb
  replace S0 := S0.below bb
  replace I_a := I_a.below bb
  clear bb
  replace mb_m := cells_alloc mb_m (.cells #[.int .i64 MB.guest, .slice b_r MB.root.length b_rc, .slice b_s MB.slots.length b_sc, .slice b_f MB.refs.length b_fc, .slice b_n MB.snaps.length b_nc] 26)
  replace mb_a := cells_alloc mb_a (.cells #[.int .i64 MB.guest, .slice b_r MB.root.length b_rc, .slice b_s MB.slots.length b_sc, .slice b_f MB.refs.length b_fc, .slice b_n MB.snaps.length b_nc] 26)
  have ba : Below w3.heap.size w3 (w3.alloc (.cells #[.int .i64 MB.guest, .slice b_r MB.root.length b_rc, .slice b_s MB.slots.length b_sc, .slice b_f MB.refs.length b_fc, .slice b_n MB.snaps.length b_nc] 26)) := (Below.refl _ _).alloc (Nat.le_refl _) _
  replace hB := Below.on hB ba
  replace I_m := I_m.below ba
  replace S0 := S0.below ba
  replace I_a := I_a.below ba
  replace I_b := I_b.below ba
  clear ba
  have mb_b : (w3.alloc (.cells #[.int .i64 MB.guest, .slice b_r MB.root.length b_rc, .slice b_s MB.slots.length b_sc, .slice b_f MB.refs.length b_fc, .slice b_n MB.snaps.length b_nc] 26)).heap[w3.heap.size]? = some (.cells #[.int .i64 MB.guest, .slice b_r MB.root.length b_rc, .slice b_s MB.slots.length b_sc, .slice b_f MB.refs.length b_fc, .slice b_n MB.snaps.length b_nc] 26) := World.alloc_heap_new _ _
  obtain ⟨m0, m1, m2, m3, m4⟩ := five mb_m
  have hh_mb_m := Hid_mkW mb_m
  have hh_mb_a := Hid_mkW mb_a
  have hh_mb_b := Hid_mkW mb_b
  have hh_I_m := Hid_mkW I_m
  have hh_S0 := Hid_mkW S0
  have hh_I_a := Hid_mkW I_a
  have hh_I_b := Hid_mkW I_b
  have hh_hB := Hid_mkW hB
  clear mb_m mb_a mb_b I_m S0 I_a I_b hB
  go_wp2_with fail
  clear m0 m1 m2 m3 m4
  have mb_m := hh_mb_m.out
  have mb_a := hh_mb_a.out
  have mb_b := hh_mb_b.out
  have I_m := hh_I_m.out
  have S0 := hh_S0.out
  have I_a := hh_I_a.out
  have I_b := hh_I_b.out
  have hB := hh_hB.out
  clear hh_mb_m hh_mb_a hh_mb_b hh_I_m hh_S0 hh_I_a hh_I_b hh_hB
  refine (punch_to I_m n HC.out.1 HC.out.2).mono ?_
  intro e w4 hA
  obtain ⟨val, c_r, c_rc, c_s, c_sc, c_f, c_fc, c_n, c_nc, rfl, hO, bb, hI⟩ := hA.open
  dsimp only
  have I_c := hO.img
  rw [hI] at I_c
  clear hA hO hI
  replace mb_m := cells_below mb_m bb (Array.getElem?_eq_some_iff.1 mb_m).1
  replace mb_a := cells_below mb_a bb (Array.getElem?_eq_some_iff.1 mb_a).1
  replace mb_b := cells_below mb_b bb (Array.getElem?_eq_some_iff.1 mb_b).1
  replace hB := Below.on hB bb
  replace I_m := I_m.below bb
  replace S0 := S0.below bb
  replace I_a := I_a.below bb
  replace I_b := I_b.below bb
  clear bb
  replace mb_m := cells_alloc mb_m (.cells #[.int .i64 MC.guest, .slice c_r MC.root.length c_rc, .slice c_s MC.slots.length c_sc, .slice c_f MC.refs.length c_fc, .slice c_n MC.snaps.length c_nc] 26)
  replace mb_a := cells_alloc mb_a (.cells #[.int .i64 MC.guest, .slice c_r MC.root.length c_rc, .slice c_s MC.slots.length c_sc, .slice c_f MC.refs.length c_fc, .slice c_n MC.snaps.length c_nc] 26)
  replace mb_b := cells_alloc mb_b (.cells #[.int .i64 MC.guest, .slice c_r MC.root.length c_rc, .slice c_s MC.slots.length c_sc, .slice c_f MC.refs.length c_fc, .slice c_n MC.snaps.length c_nc] 26)
  have ba : Below w4.heap.size w4 (w4.alloc (.cells #[.int .i64 MC.guest, .slice c_r MC.root.length c_rc, .slice c_s MC.slots.length c_sc, .slice c_f MC.refs.length c_fc, .slice c_n MC.snaps.length c_nc] 26)) := (Below.refl _ _).alloc (Nat.le_refl _) _
  replace hB := Below.on hB ba
  replace I_m := I_m.below ba
  replace S0 := S0.below ba
  replace I_a := I_a.below ba
  replace I_b := I_b.below ba
  replace I_c := I_c.below ba
  clear ba
  have mb_c : (w4.alloc (.cells #[.int .i64 MC.guest, .slice c_r MC.root.length c_rc, .slice c_s MC.slots.length c_sc, .slice c_f MC.refs.length c_fc, .slice c_n MC.snaps.length c_nc] 26)).heap[w4.heap.size]? = some (.cells #[.int .i64 MC.guest, .slice c_r MC.root.length c_rc, .slice c_s MC.slots.length c_sc, .slice c_f MC.refs.length c_fc, .slice c_n MC.snaps.length c_nc] 26) := World.alloc_heap_new _ _
  obtain ⟨m0, m1, m2, m3, m4⟩ := five mb_m
  have hh_mb_m := Hid_mkW mb_m
  have hh_mb_a := Hid_mkW mb_a
  have hh_mb_b := Hid_mkW mb_b
  have hh_mb_c := Hid_mkW mb_c
  have hh_I_m := Hid_mkW I_m
  have hh_S0 := Hid_mkW S0
  have hh_I_a := Hid_mkW I_a
  have hh_I_b := Hid_mkW I_b
  have hh_I_c := Hid_mkW I_c
  have hh_hB := Hid_mkW hB
  clear mb_m mb_a mb_b mb_c I_m S0 I_a I_b I_c hB
  go_wp2_with fail
  clear m0 m1 m2 m3 m4
  have mb_m := hh_mb_m.out
  have mb_a := hh_mb_a.out
  have mb_b := hh_mb_b.out
  have mb_c := hh_mb_c.out
  have I_m := hh_I_m.out
  have S0 := hh_S0.out
  have I_a := hh_I_a.out
  have I_b := hh_I_b.out
  have I_c := hh_I_c.out
  have hB := hh_hB.out
  clear hh_mb_m hh_mb_a hh_mb_b hh_mb_c hh_I_m hh_S0 hh_I_a hh_I_b hh_I_c hh_hB
  refine (resize_to I_m g HD.out.1 HD.out.2).mono ?_
  intro e w5 hA
  obtain ⟨val, d_r, d_rc, d_s, d_sc, d_f, d_fc, d_n, d_nc, rfl, hO, bb, hI⟩ := hA.open
  dsimp only
  have I_d := hO.img
  rw [hI] at I_d
  clear hA hO hI
  replace mb_m := cells_below mb_m bb (Array.getElem?_eq_some_iff.1 mb_m).1
  replace mb_a := cells_below mb_a bb (Array.getElem?_eq_some_iff.1 mb_a).1
  replace mb_b := cells_below mb_b bb (Array.getElem?_eq_some_iff.1 mb_b).1
  replace mb_c := cells_below mb_c bb (Array.getElem?_eq_some_iff.1 mb_c).1
  replace hB := Below.on hB bb
  replace I_m := I_m.below bb
  replace S0 := S0.below bb
  replace I_a := I_a.below bb
  replace I_b := I_b.below bb
  replace I_c := I_c.below bb
  clear bb
  replace mb_m := cells_alloc mb_m (.cells #[.int .i64 MD.guest, .slice d_r MD.root.length d_rc, .slice d_s MD.slots.length d_sc, .slice d_f MD.refs.length d_fc, .slice d_n MD.snaps.length d_nc] 26)
  replace mb_a := cells_alloc mb_a (.cells #[.int .i64 MD.guest, .slice d_r MD.root.length d_rc, .slice d_s MD.slots.length d_sc, .slice d_f MD.refs.length d_fc, .slice d_n MD.snaps.length d_nc] 26)
  replace mb_b := cells_alloc mb_b (.cells #[.int .i64 MD.guest, .slice d_r MD.root.length d_rc, .slice d_s MD.slots.length d_sc, .slice d_f MD.refs.length d_fc, .slice d_n MD.snaps.length d_nc] 26)
  replace mb_c := cells_alloc mb_c (.cells #[.int .i64 MD.guest, .slice d_r MD.root.length d_rc, .slice d_s MD.slots.length d_sc, .slice d_f MD.refs.length d_fc, .slice d_n MD.snaps.length d_nc] 26)
  have ba : Below w5.heap.size w5 (w5.alloc (.cells #[.int .i64 MD.guest, .slice d_r MD.root.length d_rc, .slice d_s MD.slots.length d_sc, .slice d_f MD.refs.length d_fc, .slice d_n MD.snaps.length d_nc] 26)) := (Below.refl _ _).alloc (Nat.le_refl _) _
  replace hB := Below.on hB ba
  replace I_m := I_m.below ba
  replace S0 := S0.below ba
  replace I_a := I_a.below ba
  replace I_b := I_b.below ba
  replace I_c := I_c.below ba
  replace I_d := I_d.below ba
  clear ba
  have mb_d : (w5.alloc (.cells #[.int .i64 MD.guest, .slice d_r MD.root.length d_rc, .slice d_s MD.slots.length d_sc, .slice d_f MD.refs.length d_fc, .slice d_n MD.snaps.length d_nc] 26)).heap[w5.heap.size]? = some (.cells #[.int .i64 MD.guest, .slice d_r MD.root.length d_rc, .slice d_s MD.slots.length d_sc, .slice d_f MD.refs.length d_fc, .slice d_n MD.snaps.length d_nc] 26) := World.alloc_heap_new _ _
  obtain ⟨Pa, hPa⟩ : ∃ X, pastE MA nm = X := ⟨_, rfl⟩
  obtain ⟨Va, hVa⟩ : ∃ X, pastV MA nm = X := ⟨_, rfl⟩
  have Qa : Hid (pastE MA nm = Pa ∧ pastV MA nm = Va) := ⟨hPa, hVa⟩
  clear hPa hVa
  obtain ⟨m0, m1, m2, m3, m4⟩ := five mb_m
  obtain ⟨a0, a1, a2, a3, a4⟩ := five mb_a
  obtain ⟨b0, b1, b2, b3, b4⟩ := five mb_b
  obtain ⟨c0, c1, c2, c3, c4⟩ := five mb_c
  obtain ⟨d0, d1, d2, d3, d4⟩ := five mb_d
  have hh_mb_m := Hid_mkW mb_m
  have hh_mb_a := Hid_mkW mb_a
  have hh_mb_b := Hid_mkW mb_b
  have hh_mb_c := Hid_mkW mb_c
  have hh_mb_d := Hid_mkW mb_d
  have hh_I_m := Hid_mkW I_m
  have hh_S0 := Hid_mkW S0
  have hh_I_a := Hid_mkW I_a
  have hh_I_b := Hid_mkW I_b
  have hh_I_c := Hid_mkW I_c
  have hh_I_d := Hid_mkW I_d
  have hh_hB := Hid_mkW hB
  clear mb_m mb_a mb_b mb_c mb_d I_m S0 I_a I_b I_c I_d hB
  go_wp2_with fail
  clear m0 m1 m2 m3 m4 a0 a1 a2 a3 a4 b0 b1 b2 b3 b4 c0 c1 c2 c3 c4 d0 d1 d2 d3 d4
  have mb_m := hh_mb_m.out
  have mb_a := hh_mb_a.out
  have mb_b := hh_mb_b.out
  have mb_c := hh_mb_c.out
  have mb_d := hh_mb_d.out
  have I_m := hh_I_m.out
  have S0 := hh_S0.out
  have I_a := hh_I_a.out
  have I_b := hh_I_b.out
  have I_c := hh_I_c.out
  have I_d := hh_I_d.out
  have hB := hh_hB.out
  clear hh_mb_m hh_mb_a hh_mb_b hh_mb_c hh_mb_d hh_I_m hh_S0 hh_I_a hh_I_b hh_I_c hh_I_d hh_hB
  refine (past_is I_a nm Qa.out.1 Qa.out.2).mono ?_
  rintro e w6 ⟨⟨la, rfl, Sa⟩, bb⟩
  replace mb_m := cells_below mb_m bb (Array.getElem?_eq_some_iff.1 mb_m).1
  replace mb_a := cells_below mb_a bb (Array.getElem?_eq_some_iff.1 mb_a).1
  replace mb_b := cells_below mb_b bb (Array.getElem?_eq_some_iff.1 mb_b).1
  replace mb_c := cells_below mb_c bb (Array.getElem?_eq_some_iff.1 mb_c).1
  replace mb_d := cells_below mb_d bb (Array.getElem?_eq_some_iff.1 mb_d).1
  replace hB := Below.on hB bb
  replace I_m := I_m.below bb
  replace S0 := S0.below bb
  replace I_a := I_a.below bb
  replace I_b := I_b.below bb
  replace I_c := I_c.below bb
  replace I_d := I_d.below bb
  clear bb
  clear mb_a
  clear I_a
  obtain ⟨Pb, hPb⟩ : ∃ X, pastE MB nm = X := ⟨_, rfl⟩
  obtain ⟨Vb, hVb⟩ : ∃ X, pastV MB nm = X := ⟨_, rfl⟩
  have Qb : Hid (pastE MB nm = Pb ∧ pastV MB nm = Vb) := ⟨hPb, hVb⟩
  clear hPb hVb
  obtain ⟨m0, m1, m2, m3, m4⟩ := five mb_m
  obtain ⟨b0, b1, b2, b3, b4⟩ := five mb_b
  obtain ⟨c0, c1, c2, c3, c4⟩ := five mb_c
  obtain ⟨d0, d1, d2, d3, d4⟩ := five mb_d
  have hh_mb_m := Hid_mkW mb_m
  have hh_mb_b := Hid_mkW mb_b
  have hh_mb_c := Hid_mkW mb_c
  have hh_mb_d := Hid_mkW mb_d
  have hh_I_m := Hid_mkW I_m
  have hh_S0 := Hid_mkW S0
  have hh_I_b := Hid_mkW I_b
  have hh_I_c := Hid_mkW I_c
  have hh_I_d := Hid_mkW I_d
  have hh_Sa := Hid_mkW Sa
  have hh_hB := Hid_mkW hB
  clear mb_m mb_b mb_c mb_d I_m S0 I_b I_c I_d Sa hB
  go_wp2_with fail
  clear m0 m1 m2 m3 m4 b0 b1 b2 b3 b4 c0 c1 c2 c3 c4 d0 d1 d2 d3 d4
  have mb_m := hh_mb_m.out
  have mb_b := hh_mb_b.out
  have mb_c := hh_mb_c.out
  have mb_d := hh_mb_d.out
  have I_m := hh_I_m.out
  have S0 := hh_S0.out
  have I_b := hh_I_b.out
  have I_c := hh_I_c.out
  have I_d := hh_I_d.out
  have Sa := hh_Sa.out
  have hB := hh_hB.out
  clear hh_mb_m hh_mb_b hh_mb_c hh_mb_d hh_I_m hh_S0 hh_I_b hh_I_c hh_I_d hh_Sa hh_hB
  refine (past_is I_b nm Qb.out.1 Qb.out.2).mono ?_
  rintro e w7 ⟨⟨lb, rfl, Sb⟩, bb⟩
  replace mb_m := cells_below mb_m bb (Array.getElem?_eq_some_iff.1 mb_m).1
  replace mb_b := cells_below mb_b bb (Array.getElem?_eq_some_iff.1 mb_b).1
  replace mb_c := cells_below mb_c bb (Array.getElem?_eq_some_iff.1 mb_c).1
  replace mb_d := cells_below mb_d bb (Array.getElem?_eq_some_iff.1 mb_d).1
  replace hB := Below.on hB bb
  replace I_m := I_m.below bb
  replace S0 := S0.below bb
  replace I_b := I_b.below bb
  replace I_c := I_c.below bb
  replace I_d := I_d.below bb
  replace Sa := Sa.below bb
  clear bb
  clear mb_b
  clear I_b
  obtain ⟨Pc, hPc⟩ : ∃ X, pastE MC nm = X := ⟨_, rfl⟩
  obtain ⟨Vc, hVc⟩ : ∃ X, pastV MC nm = X := ⟨_, rfl⟩
  have Qc : Hid (pastE MC nm = Pc ∧ pastV MC nm = Vc) := ⟨hPc, hVc⟩
  clear hPc hVc
  obtain ⟨m0, m1, m2, m3, m4⟩ := five mb_m
  obtain ⟨c0, c1, c2, c3, c4⟩ := five mb_c
  obtain ⟨d0, d1, d2, d3, d4⟩ := five mb_d
  have hh_mb_m := Hid_mkW mb_m
  have hh_mb_c := Hid_mkW mb_c
  have hh_mb_d := Hid_mkW mb_d
  have hh_I_m := Hid_mkW I_m
  have hh_S0 := Hid_mkW S0
  have hh_I_c := Hid_mkW I_c
  have hh_I_d := Hid_mkW I_d
  have hh_Sa := Hid_mkW Sa
  have hh_Sb := Hid_mkW Sb
  have hh_hB := Hid_mkW hB
  clear mb_m mb_c mb_d I_m S0 I_c I_d Sa Sb hB
  go_wp2_with fail
  clear m0 m1 m2 m3 m4 c0 c1 c2 c3 c4 d0 d1 d2 d3 d4
  have mb_m := hh_mb_m.out
  have mb_c := hh_mb_c.out
  have mb_d := hh_mb_d.out
  have I_m := hh_I_m.out
  have S0 := hh_S0.out
  have I_c := hh_I_c.out
  have I_d := hh_I_d.out
  have Sa := hh_Sa.out
  have Sb := hh_Sb.out
  have hB := hh_hB.out
  clear hh_mb_m hh_mb_c hh_mb_d hh_I_m hh_S0 hh_I_c hh_I_d hh_Sa hh_Sb hh_hB
  refine (past_is I_c nm Qc.out.1 Qc.out.2).mono ?_
  rintro e w8 ⟨⟨lc, rfl, Sc⟩, bb⟩
  replace mb_m := cells_below mb_m bb (Array.getElem?_eq_some_iff.1 mb_m).1
  replace mb_c := cells_below mb_c bb (Array.getElem?_eq_some_iff.1 mb_c).1
  replace mb_d := cells_below mb_d bb (Array.getElem?_eq_some_iff.1 mb_d).1
  replace hB := Below.on hB bb
  replace I_m := I_m.below bb
  replace S0 := S0.below bb
  replace I_c := I_c.below bb
  replace I_d := I_d.below bb
  replace Sa := Sa.below bb
  replace Sb := Sb.below bb
  clear bb
  clear mb_c
  clear I_c
  obtain ⟨Pd, hPd⟩ : ∃ X, pastE MD nm = X := ⟨_, rfl⟩
  obtain ⟨Vd, hVd⟩ : ∃ X, pastV MD nm = X := ⟨_, rfl⟩
  have Qd : Hid (pastE MD nm = Pd ∧ pastV MD nm = Vd) := ⟨hPd, hVd⟩
  clear hPd hVd
  obtain ⟨m0, m1, m2, m3, m4⟩ := five mb_m
  obtain ⟨d0, d1, d2, d3, d4⟩ := five mb_d
  have hh_mb_m := Hid_mkW mb_m
  have hh_mb_d := Hid_mkW mb_d
  have hh_I_m := Hid_mkW I_m
  have hh_S0 := Hid_mkW S0
  have hh_I_d := Hid_mkW I_d
  have hh_Sa := Hid_mkW Sa
  have hh_Sb := Hid_mkW Sb
  have hh_Sc := Hid_mkW Sc
  have hh_hB := Hid_mkW hB
  clear mb_m mb_d I_m S0 I_d Sa Sb Sc hB
  go_wp2_with fail
  clear m0 m1 m2 m3 m4 d0 d1 d2 d3 d4
  have mb_m := hh_mb_m.out
  have mb_d := hh_mb_d.out
  have I_m := hh_I_m.out
  have S0 := hh_S0.out
  have I_d := hh_I_d.out
  have Sa := hh_Sa.out
  have Sb := hh_Sb.out
  have Sc := hh_Sc.out
  have hB := hh_hB.out
  clear hh_mb_m hh_mb_d hh_I_m hh_S0 hh_I_d hh_Sa hh_Sb hh_Sc hh_hB
  refine (past_is I_d nm Qd.out.1 Qd.out.2).mono ?_
  rintro e w9 ⟨⟨ld, rfl, Sd⟩, bb⟩
  replace mb_m := cells_below mb_m bb (Array.getElem?_eq_some_iff.1 mb_m).1
  replace mb_d := cells_below mb_d bb (Array.getElem?_eq_some_iff.1 mb_d).1
  replace hB := Below.on hB bb
  replace I_m := I_m.below bb
  replace S0 := S0.below bb
  replace I_d := I_d.below bb
  replace Sa := Sa.below bb
  replace Sb := Sb.below bb
  replace Sc := Sc.below bb
  clear bb
  clear mb_d
  clear I_d
  clear mb_m
  clear I_m
  rcases Bool.eq_false_or_eq_true (EA == 0) with bEA | bEA
  · skip
    have nEA : (EA != 0) = false := by show (!(EA == 0)) = _; rw [bEA]; rfl
    have k0 := (KA.out (by simpa using bEA)).2.2
    have p0 : Pa = 0 := by rw [← Qa.out.1, k0.pastE nm]; exact HP.out.1
    have v0 : Va = V := by rw [← Qa.out.2, k0.pastV nm]; exact HP.out.2
    have p1 : (Pa == 0) = true := by simp [p0]
    have p2 : (Pa != 0) = false := by simp [p0]
    rw [v0] at Sa
    clear k0 p0 v0
    have hh_S0 := Hid_mkW S0
    have hh_Sa := Hid_mkW Sa
    have hh_Sb := Hid_mkW Sb
    have hh_Sc := Hid_mkW Sc
    have hh_Sd := Hid_mkW Sd
    have hh_hB := Hid_mkW hB
    clear S0 Sa Sb Sc Sd hB
    go_wp2_with fail
    have S0 := hh_S0.out
    have Sa := hh_Sa.out
    have Sb := hh_Sb.out
    have Sc := hh_Sc.out
    have Sd := hh_Sd.out
    have hB := hh_hB.out
    clear hh_S0 hh_Sa hh_Sb hh_Sc hh_Sd hh_hB
    refine (samePages_any Sa S0).mono ?_
    rintro e w10 ⟨rfl, bb⟩
    replace hB := Below.on hB bb
    replace S0 := S0.below bb
    replace Sa := Sa.below bb
    replace Sb := Sb.below bb
    replace Sc := Sc.below bb
    replace Sd := Sd.below bb
    clear bb
    clear p1 p2
    rcases Bool.eq_false_or_eq_true (EB == 0) with bEB | bEB
    · skip
      have nEB : (EB != 0) = false := by show (!(EB == 0)) = _; rw [bEB]; rfl
      have k0 := (KB.out (by simpa using bEB)).2
      have p0 : Pb = 0 := by rw [← Qb.out.1, k0.pastE nm]; exact HP.out.1
      have v0 : Vb = V := by rw [← Qb.out.2, k0.pastV nm]; exact HP.out.2
      have p1 : (Pb == 0) = true := by simp [p0]
      have p2 : (Pb != 0) = false := by simp [p0]
      rw [v0] at Sb
      clear k0 p0 v0
      have hh_S0 := Hid_mkW S0
      have hh_Sa := Hid_mkW Sa
      have hh_Sb := Hid_mkW Sb
      have hh_Sc := Hid_mkW Sc
      have hh_Sd := Hid_mkW Sd
      have hh_hB := Hid_mkW hB
      clear S0 Sa Sb Sc Sd hB
      go_wp2_with fail
      have S0 := hh_S0.out
      have Sa := hh_Sa.out
      have Sb := hh_Sb.out
      have Sc := hh_Sc.out
      have Sd := hh_Sd.out
      have hB := hh_hB.out
      clear hh_S0 hh_Sa hh_Sb hh_Sc hh_Sd hh_hB
      refine (samePages_any Sb S0).mono ?_
      rintro e w11 ⟨rfl, bb⟩
      replace hB := Below.on hB bb
      replace S0 := S0.below bb
      replace Sa := Sa.below bb
      replace Sb := Sb.below bb
      replace Sc := Sc.below bb
      replace Sd := Sd.below bb
      clear bb
      clear p1 p2
      have hh_S0 := Hid_mkW S0
      have hh_Sa := Hid_mkW Sa
      have hh_Sb := Hid_mkW Sb
      have hh_Sc := Hid_mkW Sc
      have hh_Sd := Hid_mkW Sd
      have hh_hB := Hid_mkW hB
      clear S0 Sa Sb Sc Sd hB
      go_wp2_with fail
      have S0 := hh_S0.out
      have Sa := hh_Sa.out
      have Sb := hh_Sb.out
      have Sc := hh_Sc.out
      have Sd := hh_Sd.out
      have hB := hh_hB.out
      clear hh_S0 hh_Sa hh_Sb hh_Sc hh_Sd hh_hB
      refine (writesBegun_any _).mono ?_
      rintro e w12 ⟨rfl, bb⟩
      replace hB := Below.on hB bb
      replace S0 := S0.below bb
      replace Sa := Sa.below bb
      replace Sb := Sb.below bb
      replace Sc := Sc.below bb
      replace Sd := Sd.below bb
      clear bb
      rcases Bool.eq_false_or_eq_true (EC == 0) with bEC | bEC
      · skip
        have nEC : (EC != 0) = false := by show (!(EC == 0)) = _; rw [bEC]; rfl
        have k0 := (KC.out (by simpa using bEC)).2
        have p0 : Pc = 0 := by rw [← Qc.out.1, k0.pastE nm]; exact HP.out.1
        have v0 : Vc = V := by rw [← Qc.out.2, k0.pastV nm]; exact HP.out.2
        have p1 : (Pc == 0) = true := by simp [p0]
        have p2 : (Pc != 0) = false := by simp [p0]
        rw [v0] at Sc
        clear k0 p0 v0
        have hh_S0 := Hid_mkW S0
        have hh_Sa := Hid_mkW Sa
        have hh_Sb := Hid_mkW Sb
        have hh_Sc := Hid_mkW Sc
        have hh_Sd := Hid_mkW Sd
        have hh_hB := Hid_mkW hB
        clear S0 Sa Sb Sc Sd hB
        go_wp2_with fail
        have S0 := hh_S0.out
        have Sa := hh_Sa.out
        have Sb := hh_Sb.out
        have Sc := hh_Sc.out
        have Sd := hh_Sd.out
        have hB := hh_hB.out
        clear hh_S0 hh_Sa hh_Sb hh_Sc hh_Sd hh_hB
        refine (samePages_any Sc S0).mono ?_
        rintro e w13 ⟨rfl, bb⟩
        replace hB := Below.on hB bb
        replace S0 := S0.below bb
        replace Sa := Sa.below bb
        replace Sb := Sb.below bb
        replace Sc := Sc.below bb
        replace Sd := Sd.below bb
        clear bb
        clear p1 p2
        rcases Bool.eq_false_or_eq_true (ED == 0) with bED | bED
        · skip
          have nED : (ED != 0) = false := by show (!(ED == 0)) = _; rw [bED]; rfl
          have k0 := (KD.out (by simpa using bED)).2.2
          have p0 : Pd = 0 := by rw [← Qd.out.1, k0.pastE nm]; exact HP.out.1
          have v0 : Vd = V := by rw [← Qd.out.2, k0.pastV nm]; exact HP.out.2
          have p1 : (Pd == 0) = true := by simp [p0]
          have p2 : (Pd != 0) = false := by simp [p0]
          rw [v0] at Sd
          clear k0 p0 v0
          have hh_S0 := Hid_mkW S0
          have hh_Sa := Hid_mkW Sa
          have hh_Sb := Hid_mkW Sb
          have hh_Sc := Hid_mkW Sc
          have hh_Sd := Hid_mkW Sd
          have hh_hB := Hid_mkW hB
          clear S0 Sa Sb Sc Sd hB
          go_wp2_with fail
          have S0 := hh_S0.out
          have Sa := hh_Sa.out
          have Sb := hh_Sb.out
          have Sc := hh_Sc.out
          have Sd := hh_Sd.out
          have hB := hh_hB.out
          clear hh_S0 hh_Sa hh_Sb hh_Sc hh_Sd hh_hB
          refine (samePages_any Sd S0).mono ?_
          rintro e w14 ⟨rfl, bb⟩
          replace hB := Below.on hB bb
          replace S0 := S0.below bb
          replace Sa := Sa.below bb
          replace Sb := Sb.below bb
          replace Sc := Sc.below bb
          replace Sd := Sd.below bb
          clear bb
          clear p1 p2
          have hh_S0 := Hid_mkW S0
          have hh_Sa := Hid_mkW Sa
          have hh_Sb := Hid_mkW Sb
          have hh_Sc := Hid_mkW Sc
          have hh_Sd := Hid_mkW Sd
          have hh_hB := Hid_mkW hB
          clear S0 Sa Sb Sc Sd hB
          go_wp2_with fail
          go_ret
          have hB := hh_hB.out
          exact ⟨rfl, hB⟩
        · skip
          have nED : (ED != 0) = true := by show (!(ED == 0)) = _; rw [bED]; rfl
          have hh_S0 := Hid_mkW S0
          have hh_Sa := Hid_mkW Sa
          have hh_Sb := Hid_mkW Sb
          have hh_Sc := Hid_mkW Sc
          have hh_Sd := Hid_mkW Sd
          have hh_hB := Hid_mkW hB
          clear S0 Sa Sb Sc Sd hB
          go_wp2_with fail
          go_ret
          have hB := hh_hB.out
          exact ⟨rfl, hB⟩
      · skip
        have nEC : (EC != 0) = true := by show (!(EC == 0)) = _; rw [bEC]; rfl
        rcases Bool.eq_false_or_eq_true (ED == 0) with bED | bED
        · skip
          have nED : (ED != 0) = false := by show (!(ED == 0)) = _; rw [bED]; rfl
          have k0 := (KD.out (by simpa using bED)).2.2
          have p0 : Pd = 0 := by rw [← Qd.out.1, k0.pastE nm]; exact HP.out.1
          have v0 : Vd = V := by rw [← Qd.out.2, k0.pastV nm]; exact HP.out.2
          have p1 : (Pd == 0) = true := by simp [p0]
          have p2 : (Pd != 0) = false := by simp [p0]
          rw [v0] at Sd
          clear k0 p0 v0
          have hh_S0 := Hid_mkW S0
          have hh_Sa := Hid_mkW Sa
          have hh_Sb := Hid_mkW Sb
          have hh_Sc := Hid_mkW Sc
          have hh_Sd := Hid_mkW Sd
          have hh_hB := Hid_mkW hB
          clear S0 Sa Sb Sc Sd hB
          go_wp2_with fail
          have S0 := hh_S0.out
          have Sa := hh_Sa.out
          have Sb := hh_Sb.out
          have Sc := hh_Sc.out
          have Sd := hh_Sd.out
          have hB := hh_hB.out
          clear hh_S0 hh_Sa hh_Sb hh_Sc hh_Sd hh_hB
          refine (samePages_any Sd S0).mono ?_
          rintro e w13 ⟨rfl, bb⟩
          replace hB := Below.on hB bb
          replace S0 := S0.below bb
          replace Sa := Sa.below bb
          replace Sb := Sb.below bb
          replace Sc := Sc.below bb
          replace Sd := Sd.below bb
          clear bb
          clear p1 p2
          have hh_S0 := Hid_mkW S0
          have hh_Sa := Hid_mkW Sa
          have hh_Sb := Hid_mkW Sb
          have hh_Sc := Hid_mkW Sc
          have hh_Sd := Hid_mkW Sd
          have hh_hB := Hid_mkW hB
          clear S0 Sa Sb Sc Sd hB
          go_wp2_with fail
          go_ret
          have hB := hh_hB.out
          exact ⟨rfl, hB⟩
        · skip
          have nED : (ED != 0) = true := by show (!(ED == 0)) = _; rw [bED]; rfl
          have hh_S0 := Hid_mkW S0
          have hh_Sa := Hid_mkW Sa
          have hh_Sb := Hid_mkW Sb
          have hh_Sc := Hid_mkW Sc
          have hh_Sd := Hid_mkW Sd
          have hh_hB := Hid_mkW hB
          clear S0 Sa Sb Sc Sd hB
          go_wp2_with fail
          go_ret
          have hB := hh_hB.out
          exact ⟨rfl, hB⟩
    · skip
      have nEB : (EB != 0) = true := by show (!(EB == 0)) = _; rw [bEB]; rfl
      have hh_S0 := Hid_mkW S0
      have hh_Sa := Hid_mkW Sa
      have hh_Sb := Hid_mkW Sb
      have hh_Sc := Hid_mkW Sc
      have hh_Sd := Hid_mkW Sd
      have hh_hB := Hid_mkW hB
      clear S0 Sa Sb Sc Sd hB
      go_wp2_with fail
      have S0 := hh_S0.out
      have Sa := hh_Sa.out
      have Sb := hh_Sb.out
      have Sc := hh_Sc.out
      have Sd := hh_Sd.out
      have hB := hh_hB.out
      clear hh_S0 hh_Sa hh_Sb hh_Sc hh_Sd hh_hB
      refine (writesBegun_any _).mono ?_
      rintro e w11 ⟨rfl, bb⟩
      replace hB := Below.on hB bb
      replace S0 := S0.below bb
      replace Sa := Sa.below bb
      replace Sb := Sb.below bb
      replace Sc := Sc.below bb
      replace Sd := Sd.below bb
      clear bb
      rcases Bool.eq_false_or_eq_true (EC == 0) with bEC | bEC
      · skip
        have nEC : (EC != 0) = false := by show (!(EC == 0)) = _; rw [bEC]; rfl
        have k0 := (KC.out (by simpa using bEC)).2
        have p0 : Pc = 0 := by rw [← Qc.out.1, k0.pastE nm]; exact HP.out.1
        have v0 : Vc = V := by rw [← Qc.out.2, k0.pastV nm]; exact HP.out.2
        have p1 : (Pc == 0) = true := by simp [p0]
        have p2 : (Pc != 0) = false := by simp [p0]
        rw [v0] at Sc
        clear k0 p0 v0
        have hh_S0 := Hid_mkW S0
        have hh_Sa := Hid_mkW Sa
        have hh_Sb := Hid_mkW Sb
        have hh_Sc := Hid_mkW Sc
        have hh_Sd := Hid_mkW Sd
        have hh_hB := Hid_mkW hB
        clear S0 Sa Sb Sc Sd hB
        go_wp2_with fail
        have S0 := hh_S0.out
        have Sa := hh_Sa.out
        have Sb := hh_Sb.out
        have Sc := hh_Sc.out
        have Sd := hh_Sd.out
        have hB := hh_hB.out
        clear hh_S0 hh_Sa hh_Sb hh_Sc hh_Sd hh_hB
        refine (samePages_any Sc S0).mono ?_
        rintro e w12 ⟨rfl, bb⟩
        replace hB := Below.on hB bb
        replace S0 := S0.below bb
        replace Sa := Sa.below bb
        replace Sb := Sb.below bb
        replace Sc := Sc.below bb
        replace Sd := Sd.below bb
        clear bb
        clear p1 p2
        rcases Bool.eq_false_or_eq_true (ED == 0) with bED | bED
        · skip
          have nED : (ED != 0) = false := by show (!(ED == 0)) = _; rw [bED]; rfl
          have k0 := (KD.out (by simpa using bED)).2.2
          have p0 : Pd = 0 := by rw [← Qd.out.1, k0.pastE nm]; exact HP.out.1
          have v0 : Vd = V := by rw [← Qd.out.2, k0.pastV nm]; exact HP.out.2
          have p1 : (Pd == 0) = true := by simp [p0]
          have p2 : (Pd != 0) = false := by simp [p0]
          rw [v0] at Sd
          clear k0 p0 v0
          have hh_S0 := Hid_mkW S0
          have hh_Sa := Hid_mkW Sa
          have hh_Sb := Hid_mkW Sb
          have hh_Sc := Hid_mkW Sc
          have hh_Sd := Hid_mkW Sd
          have hh_hB := Hid_mkW hB
          clear S0 Sa Sb Sc Sd hB
          go_wp2_with fail
          have S0 := hh_S0.out
          have Sa := hh_Sa.out
          have Sb := hh_Sb.out
          have Sc := hh_Sc.out
          have Sd := hh_Sd.out
          have hB := hh_hB.out
          clear hh_S0 hh_Sa hh_Sb hh_Sc hh_Sd hh_hB
          refine (samePages_any Sd S0).mono ?_
          rintro e w13 ⟨rfl, bb⟩
          replace hB := Below.on hB bb
          replace S0 := S0.below bb
          replace Sa := Sa.below bb
          replace Sb := Sb.below bb
          replace Sc := Sc.below bb
          replace Sd := Sd.below bb
          clear bb
          clear p1 p2
          have hh_S0 := Hid_mkW S0
          have hh_Sa := Hid_mkW Sa
          have hh_Sb := Hid_mkW Sb
          have hh_Sc := Hid_mkW Sc
          have hh_Sd := Hid_mkW Sd
          have hh_hB := Hid_mkW hB
          clear S0 Sa Sb Sc Sd hB
          go_wp2_with fail
          go_ret
          have hB := hh_hB.out
          exact ⟨rfl, hB⟩
        · skip
          have nED : (ED != 0) = true := by show (!(ED == 0)) = _; rw [bED]; rfl
          have hh_S0 := Hid_mkW S0
          have hh_Sa := Hid_mkW Sa
          have hh_Sb := Hid_mkW Sb
          have hh_Sc := Hid_mkW Sc
          have hh_Sd := Hid_mkW Sd
          have hh_hB := Hid_mkW hB
          clear S0 Sa Sb Sc Sd hB
          go_wp2_with fail
          go_ret
          have hB := hh_hB.out
          exact ⟨rfl, hB⟩
      · skip
        have nEC : (EC != 0) = true := by show (!(EC == 0)) = _; rw [bEC]; rfl
        rcases Bool.eq_false_or_eq_true (ED == 0) with bED | bED
        · skip
          have nED : (ED != 0) = false := by show (!(ED == 0)) = _; rw [bED]; rfl
          have k0 := (KD.out (by simpa using bED)).2.2
          have p0 : Pd = 0 := by rw [← Qd.out.1, k0.pastE nm]; exact HP.out.1
          have v0 : Vd = V := by rw [← Qd.out.2, k0.pastV nm]; exact HP.out.2
          have p1 : (Pd == 0) = true := by simp [p0]
          have p2 : (Pd != 0) = false := by simp [p0]
          rw [v0] at Sd
          clear k0 p0 v0
          have hh_S0 := Hid_mkW S0
          have hh_Sa := Hid_mkW Sa
          have hh_Sb := Hid_mkW Sb
          have hh_Sc := Hid_mkW Sc
          have hh_Sd := Hid_mkW Sd
          have hh_hB := Hid_mkW hB
          clear S0 Sa Sb Sc Sd hB
          go_wp2_with fail
          have S0 := hh_S0.out
          have Sa := hh_Sa.out
          have Sb := hh_Sb.out
          have Sc := hh_Sc.out
          have Sd := hh_Sd.out
          have hB := hh_hB.out
          clear hh_S0 hh_Sa hh_Sb hh_Sc hh_Sd hh_hB
          refine (samePages_any Sd S0).mono ?_
          rintro e w12 ⟨rfl, bb⟩
          replace hB := Below.on hB bb
          replace S0 := S0.below bb
          replace Sa := Sa.below bb
          replace Sb := Sb.below bb
          replace Sc := Sc.below bb
          replace Sd := Sd.below bb
          clear bb
          clear p1 p2
          have hh_S0 := Hid_mkW S0
          have hh_Sa := Hid_mkW Sa
          have hh_Sb := Hid_mkW Sb
          have hh_Sc := Hid_mkW Sc
          have hh_Sd := Hid_mkW Sd
          have hh_hB := Hid_mkW hB
          clear S0 Sa Sb Sc Sd hB
          go_wp2_with fail
          go_ret
          have hB := hh_hB.out
          exact ⟨rfl, hB⟩
        · skip
          have nED : (ED != 0) = true := by show (!(ED == 0)) = _; rw [bED]; rfl
          have hh_S0 := Hid_mkW S0
          have hh_Sa := Hid_mkW Sa
          have hh_Sb := Hid_mkW Sb
          have hh_Sc := Hid_mkW Sc
          have hh_Sd := Hid_mkW Sd
          have hh_hB := Hid_mkW hB
          clear S0 Sa Sb Sc Sd hB
          go_wp2_with fail
          go_ret
          have hB := hh_hB.out
          exact ⟨rfl, hB⟩
  · skip
    have nEA : (EA != 0) = true := by show (!(EA == 0)) = _; rw [bEA]; rfl
    rcases Bool.eq_false_or_eq_true (EB == 0) with bEB | bEB
    · skip
      have nEB : (EB != 0) = false := by show (!(EB == 0)) = _; rw [bEB]; rfl
      have k0 := (KB.out (by simpa using bEB)).2
      have p0 : Pb = 0 := by rw [← Qb.out.1, k0.pastE nm]; exact HP.out.1
      have v0 : Vb = V := by rw [← Qb.out.2, k0.pastV nm]; exact HP.out.2
      have p1 : (Pb == 0) = true := by simp [p0]
      have p2 : (Pb != 0) = false := by simp [p0]
      rw [v0] at Sb
      clear k0 p0 v0
      have hh_S0 := Hid_mkW S0
      have hh_Sa := Hid_mkW Sa
      have hh_Sb := Hid_mkW Sb
      have hh_Sc := Hid_mkW Sc
      have hh_Sd := Hid_mkW Sd
      have hh_hB := Hid_mkW hB
      clear S0 Sa Sb Sc Sd hB
      go_wp2_with fail
      have S0 := hh_S0.out
      have Sa := hh_Sa.out
      have Sb := hh_Sb.out
      have Sc := hh_Sc.out
      have Sd := hh_Sd.out
      have hB := hh_hB.out
      clear hh_S0 hh_Sa hh_Sb hh_Sc hh_Sd hh_hB
      refine (samePages_any Sb S0).mono ?_
      rintro e w10 ⟨rfl, bb⟩
      replace hB := Below.on hB bb
      replace S0 := S0.below bb
      replace Sa := Sa.below bb
      replace Sb := Sb.below bb
      replace Sc := Sc.below bb
      replace Sd := Sd.below bb
      clear bb
      clear p1 p2
      have hh_S0 := Hid_mkW S0
      have hh_Sa := Hid_mkW Sa
      have hh_Sb := Hid_mkW Sb
      have hh_Sc := Hid_mkW Sc
      have hh_Sd := Hid_mkW Sd
      have hh_hB := Hid_mkW hB
      clear S0 Sa Sb Sc Sd hB
      go_wp2_with fail
      have S0 := hh_S0.out
      have Sa := hh_Sa.out
      have Sb := hh_Sb.out
      have Sc := hh_Sc.out
      have Sd := hh_Sd.out
      have hB := hh_hB.out
      clear hh_S0 hh_Sa hh_Sb hh_Sc hh_Sd hh_hB
      refine (writesBegun_any _).mono ?_
      rintro e w11 ⟨rfl, bb⟩
      replace hB := Below.on hB bb
      replace S0 := S0.below bb
      replace Sa := Sa.below bb
      replace Sb := Sb.below bb
      replace Sc := Sc.below bb
      replace Sd := Sd.below bb
      clear bb
      rcases Bool.eq_false_or_eq_true (EC == 0) with bEC | bEC
      · skip
        have nEC : (EC != 0) = false := by show (!(EC == 0)) = _; rw [bEC]; rfl
        have k0 := (KC.out (by simpa using bEC)).2
        have p0 : Pc = 0 := by rw [← Qc.out.1, k0.pastE nm]; exact HP.out.1
        have v0 : Vc = V := by rw [← Qc.out.2, k0.pastV nm]; exact HP.out.2
        have p1 : (Pc == 0) = true := by simp [p0]
        have p2 : (Pc != 0) = false := by simp [p0]
        rw [v0] at Sc
        clear k0 p0 v0
        have hh_S0 := Hid_mkW S0
        have hh_Sa := Hid_mkW Sa
        have hh_Sb := Hid_mkW Sb
        have hh_Sc := Hid_mkW Sc
        have hh_Sd := Hid_mkW Sd
        have hh_hB := Hid_mkW hB
        clear S0 Sa Sb Sc Sd hB
        go_wp2_with fail
        have S0 := hh_S0.out
        have Sa := hh_Sa.out
        have Sb := hh_Sb.out
        have Sc := hh_Sc.out
        have Sd := hh_Sd.out
        have hB := hh_hB.out
        clear hh_S0 hh_Sa hh_Sb hh_Sc hh_Sd hh_hB
        refine (samePages_any Sc S0).mono ?_
        rintro e w12 ⟨rfl, bb⟩
        replace hB := Below.on hB bb
        replace S0 := S0.below bb
        replace Sa := Sa.below bb
        replace Sb := Sb.below bb
        replace Sc := Sc.below bb
        replace Sd := Sd.below bb
        clear bb
        clear p1 p2
        rcases Bool.eq_false_or_eq_true (ED == 0) with bED | bED
        · skip
          have nED : (ED != 0) = false := by show (!(ED == 0)) = _; rw [bED]; rfl
          have k0 := (KD.out (by simpa using bED)).2.2
          have p0 : Pd = 0 := by rw [← Qd.out.1, k0.pastE nm]; exact HP.out.1
          have v0 : Vd = V := by rw [← Qd.out.2, k0.pastV nm]; exact HP.out.2
          have p1 : (Pd == 0) = true := by simp [p0]
          have p2 : (Pd != 0) = false := by simp [p0]
          rw [v0] at Sd
          clear k0 p0 v0
          have hh_S0 := Hid_mkW S0
          have hh_Sa := Hid_mkW Sa
          have hh_Sb := Hid_mkW Sb
          have hh_Sc := Hid_mkW Sc
          have hh_Sd := Hid_mkW Sd
          have hh_hB := Hid_mkW hB
          clear S0 Sa Sb Sc Sd hB
          go_wp2_with fail
          have S0 := hh_S0.out
          have Sa := hh_Sa.out
          have Sb := hh_Sb.out
          have Sc := hh_Sc.out
          have Sd := hh_Sd.out
          have hB := hh_hB.out
          clear hh_S0 hh_Sa hh_Sb hh_Sc hh_Sd hh_hB
          refine (samePages_any Sd S0).mono ?_
          rintro e w13 ⟨rfl, bb⟩
          replace hB := Below.on hB bb
          replace S0 := S0.below bb
          replace Sa := Sa.below bb
          replace Sb := Sb.below bb
          replace Sc := Sc.below bb
          replace Sd := Sd.below bb
          clear bb
          clear p1 p2
          have hh_S0 := Hid_mkW S0
          have hh_Sa := Hid_mkW Sa
          have hh_Sb := Hid_mkW Sb
          have hh_Sc := Hid_mkW Sc
          have hh_Sd := Hid_mkW Sd
          have hh_hB := Hid_mkW hB
          clear S0 Sa Sb Sc Sd hB
          go_wp2_with fail
          go_ret
          have hB := hh_hB.out
          exact ⟨rfl, hB⟩
        · skip
          have nED : (ED != 0) = true := by show (!(ED == 0)) = _; rw [bED]; rfl
          have hh_S0 := Hid_mkW S0
          have hh_Sa := Hid_mkW Sa
          have hh_Sb := Hid_mkW Sb
          have hh_Sc := Hid_mkW Sc
          have hh_Sd := Hid_mkW Sd
          have hh_hB := Hid_mkW hB
          clear S0 Sa Sb Sc Sd hB
          go_wp2_with fail
          go_ret
          have hB := hh_hB.out
          exact ⟨rfl, hB⟩
      · skip
        have nEC : (EC != 0) = true := by show (!(EC == 0)) = _; rw [bEC]; rfl
        rcases Bool.eq_false_or_eq_true (ED == 0) with bED | bED
        · skip
          have nED : (ED != 0) = false := by show (!(ED == 0)) = _; rw [bED]; rfl
          have k0 := (KD.out (by simpa using bED)).2.2
          have p0 : Pd = 0 := by rw [← Qd.out.1, k0.pastE nm]; exact HP.out.1
          have v0 : Vd = V := by rw [← Qd.out.2, k0.pastV nm]; exact HP.out.2
          have p1 : (Pd == 0) = true := by simp [p0]
          have p2 : (Pd != 0) = false := by simp [p0]
          rw [v0] at Sd
          clear k0 p0 v0
          have hh_S0 := Hid_mkW S0
          have hh_Sa := Hid_mkW Sa
          have hh_Sb := Hid_mkW Sb
          have hh_Sc := Hid_mkW Sc
          have hh_Sd := Hid_mkW Sd
          have hh_hB := Hid_mkW hB
          clear S0 Sa Sb Sc Sd hB
          go_wp2_with fail
          have S0 := hh_S0.out
          have Sa := hh_Sa.out
          have Sb := hh_Sb.out
          have Sc := hh_Sc.out
          have Sd := hh_Sd.out
          have hB := hh_hB.out
          clear hh_S0 hh_Sa hh_Sb hh_Sc hh_Sd hh_hB
          refine (samePages_any Sd S0).mono ?_
          rintro e w12 ⟨rfl, bb⟩
          replace hB := Below.on hB bb
          replace S0 := S0.below bb
          replace Sa := Sa.below bb
          replace Sb := Sb.below bb
          replace Sc := Sc.below bb
          replace Sd := Sd.below bb
          clear bb
          clear p1 p2
          have hh_S0 := Hid_mkW S0
          have hh_Sa := Hid_mkW Sa
          have hh_Sb := Hid_mkW Sb
          have hh_Sc := Hid_mkW Sc
          have hh_Sd := Hid_mkW Sd
          have hh_hB := Hid_mkW hB
          clear S0 Sa Sb Sc Sd hB
          go_wp2_with fail
          go_ret
          have hB := hh_hB.out
          exact ⟨rfl, hB⟩
        · skip
          have nED : (ED != 0) = true := by show (!(ED == 0)) = _; rw [bED]; rfl
          have hh_S0 := Hid_mkW S0
          have hh_Sa := Hid_mkW Sa
          have hh_Sb := Hid_mkW Sb
          have hh_Sc := Hid_mkW Sc
          have hh_Sd := Hid_mkW Sd
          have hh_hB := Hid_mkW hB
          clear S0 Sa Sb Sc Sd hB
          go_wp2_with fail
          go_ret
          have hB := hh_hB.out
          exact ⟨rfl, hB⟩
    · skip
      have nEB : (EB != 0) = true := by show (!(EB == 0)) = _; rw [bEB]; rfl
      have hh_S0 := Hid_mkW S0
      have hh_Sa := Hid_mkW Sa
      have hh_Sb := Hid_mkW Sb
      have hh_Sc := Hid_mkW Sc
      have hh_Sd := Hid_mkW Sd
      have hh_hB := Hid_mkW hB
      clear S0 Sa Sb Sc Sd hB
      go_wp2_with fail
      have S0 := hh_S0.out
      have Sa := hh_Sa.out
      have Sb := hh_Sb.out
      have Sc := hh_Sc.out
      have Sd := hh_Sd.out
      have hB := hh_hB.out
      clear hh_S0 hh_Sa hh_Sb hh_Sc hh_Sd hh_hB
      refine (writesBegun_any _).mono ?_
      rintro e w10 ⟨rfl, bb⟩
      replace hB := Below.on hB bb
      replace S0 := S0.below bb
      replace Sa := Sa.below bb
      replace Sb := Sb.below bb
      replace Sc := Sc.below bb
      replace Sd := Sd.below bb
      clear bb
      rcases Bool.eq_false_or_eq_true (EC == 0) with bEC | bEC
      · skip
        have nEC : (EC != 0) = false := by show (!(EC == 0)) = _; rw [bEC]; rfl
        have k0 := (KC.out (by simpa using bEC)).2
        have p0 : Pc = 0 := by rw [← Qc.out.1, k0.pastE nm]; exact HP.out.1
        have v0 : Vc = V := by rw [← Qc.out.2, k0.pastV nm]; exact HP.out.2
        have p1 : (Pc == 0) = true := by simp [p0]
        have p2 : (Pc != 0) = false := by simp [p0]
        rw [v0] at Sc
        clear k0 p0 v0
        have hh_S0 := Hid_mkW S0
        have hh_Sa := Hid_mkW Sa
        have hh_Sb := Hid_mkW Sb
        have hh_Sc := Hid_mkW Sc
        have hh_Sd := Hid_mkW Sd
        have hh_hB := Hid_mkW hB
        clear S0 Sa Sb Sc Sd hB
        go_wp2_with fail
        have S0 := hh_S0.out
        have Sa := hh_Sa.out
        have Sb := hh_Sb.out
        have Sc := hh_Sc.out
        have Sd := hh_Sd.out
        have hB := hh_hB.out
        clear hh_S0 hh_Sa hh_Sb hh_Sc hh_Sd hh_hB
        refine (samePages_any Sc S0).mono ?_
        rintro e w11 ⟨rfl, bb⟩
        replace hB := Below.on hB bb
        replace S0 := S0.below bb
        replace Sa := Sa.below bb
        replace Sb := Sb.below bb
        replace Sc := Sc.below bb
        replace Sd := Sd.below bb
        clear bb
        clear p1 p2
        rcases Bool.eq_false_or_eq_true (ED == 0) with bED | bED
        · skip
          have nED : (ED != 0) = false := by show (!(ED == 0)) = _; rw [bED]; rfl
          have k0 := (KD.out (by simpa using bED)).2.2
          have p0 : Pd = 0 := by rw [← Qd.out.1, k0.pastE nm]; exact HP.out.1
          have v0 : Vd = V := by rw [← Qd.out.2, k0.pastV nm]; exact HP.out.2
          have p1 : (Pd == 0) = true := by simp [p0]
          have p2 : (Pd != 0) = false := by simp [p0]
          rw [v0] at Sd
          clear k0 p0 v0
          have hh_S0 := Hid_mkW S0
          have hh_Sa := Hid_mkW Sa
          have hh_Sb := Hid_mkW Sb
          have hh_Sc := Hid_mkW Sc
          have hh_Sd := Hid_mkW Sd
          have hh_hB := Hid_mkW hB
          clear S0 Sa Sb Sc Sd hB
          go_wp2_with fail
          have S0 := hh_S0.out
          have Sa := hh_Sa.out
          have Sb := hh_Sb.out
          have Sc := hh_Sc.out
          have Sd := hh_Sd.out
          have hB := hh_hB.out
          clear hh_S0 hh_Sa hh_Sb hh_Sc hh_Sd hh_hB
          refine (samePages_any Sd S0).mono ?_
          rintro e w12 ⟨rfl, bb⟩
          replace hB := Below.on hB bb
          replace S0 := S0.below bb
          replace Sa := Sa.below bb
          replace Sb := Sb.below bb
          replace Sc := Sc.below bb
          replace Sd := Sd.below bb
          clear bb
          clear p1 p2
          have hh_S0 := Hid_mkW S0
          have hh_Sa := Hid_mkW Sa
          have hh_Sb := Hid_mkW Sb
          have hh_Sc := Hid_mkW Sc
          have hh_Sd := Hid_mkW Sd
          have hh_hB := Hid_mkW hB
          clear S0 Sa Sb Sc Sd hB
          go_wp2_with fail
          go_ret
          have hB := hh_hB.out
          exact ⟨rfl, hB⟩
        · skip
          have nED : (ED != 0) = true := by show (!(ED == 0)) = _; rw [bED]; rfl
          have hh_S0 := Hid_mkW S0
          have hh_Sa := Hid_mkW Sa
          have hh_Sb := Hid_mkW Sb
          have hh_Sc := Hid_mkW Sc
          have hh_Sd := Hid_mkW Sd
          have hh_hB := Hid_mkW hB
          clear S0 Sa Sb Sc Sd hB
          go_wp2_with fail
          go_ret
          have hB := hh_hB.out
          exact ⟨rfl, hB⟩
      · skip
        have nEC : (EC != 0) = true := by show (!(EC == 0)) = _; rw [bEC]; rfl
        rcases Bool.eq_false_or_eq_true (ED == 0) with bED | bED
        · skip
          have nED : (ED != 0) = false := by show (!(ED == 0)) = _; rw [bED]; rfl
          have k0 := (KD.out (by simpa using bED)).2.2
          have p0 : Pd = 0 := by rw [← Qd.out.1, k0.pastE nm]; exact HP.out.1
          have v0 : Vd = V := by rw [← Qd.out.2, k0.pastV nm]; exact HP.out.2
          have p1 : (Pd == 0) = true := by simp [p0]
          have p2 : (Pd != 0) = false := by simp [p0]
          rw [v0] at Sd
          clear k0 p0 v0
          have hh_S0 := Hid_mkW S0
          have hh_Sa := Hid_mkW Sa
          have hh_Sb := Hid_mkW Sb
          have hh_Sc := Hid_mkW Sc
          have hh_Sd := Hid_mkW Sd
          have hh_hB := Hid_mkW hB
          clear S0 Sa Sb Sc Sd hB
          go_wp2_with fail
          have S0 := hh_S0.out
          have Sa := hh_Sa.out
          have Sb := hh_Sb.out
          have Sc := hh_Sc.out
          have Sd := hh_Sd.out
          have hB := hh_hB.out
          clear hh_S0 hh_Sa hh_Sb hh_Sc hh_Sd hh_hB
          refine (samePages_any Sd S0).mono ?_
          rintro e w11 ⟨rfl, bb⟩
          replace hB := Below.on hB bb
          replace S0 := S0.below bb
          replace Sa := Sa.below bb
          replace Sb := Sb.below bb
          replace Sc := Sc.below bb
          replace Sd := Sd.below bb
          clear bb
          clear p1 p2
          have hh_S0 := Hid_mkW S0
          have hh_Sa := Hid_mkW Sa
          have hh_Sb := Hid_mkW Sb
          have hh_Sc := Hid_mkW Sc
          have hh_Sd := Hid_mkW Sd
          have hh_hB := Hid_mkW hB
          clear S0 Sa Sb Sc Sd hB
          go_wp2_with fail
          go_ret
          have hB := hh_hB.out
          exact ⟨rfl, hB⟩
        · skip
          have nED : (ED != 0) = true := by show (!(ED == 0)) = _; rw [bED]; rfl
          have hh_S0 := Hid_mkW S0
          have hh_Sa := Hid_mkW Sa
          have hh_Sb := Hid_mkW Sb
          have hh_Sc := Hid_mkW Sc
          have hh_Sd := Hid_mkW Sd
          have hh_hB := Hid_mkW hB
          clear S0 Sa Sb Sc Sd hB
          go_wp2_with fail
          go_ret
          have hB := hh_hB.out
          exact ⟨rfl, hB⟩

theorem wpast_is {v : Value} {m : ImgD} {w : World} (h : Img w v m) (n : Int) (page : ByteArray) (g : Int) (nm : ByteArray) : Calls Try.prog 5 #[v, .int .i64 n, .string page, .int .i64 g, .string nm] w fun r w' => r = .returned (.bool true) ∧ Below w.heap.size w w' := by
  have h' := h
  obtain ⟨ra, rc, sa, sc, fa, fc, na, nc, rfl, h1, h2, h3, h4⟩ := h.parts
  by_cases hP : pastE m nm = 0
  · exact wpast_at ra rc sa sc fa fc na nc m n page g nm w h' _ ⟨hP, rfl⟩
  · exact wpast_bad ra rc sa sc fa fc na nc m n page g nm w h' _ _ ⟨rfl, rfl⟩ (by simpa using hP)
end Go.Proofs.Ytehleeibgkpjmad
