/- Contracts of the document's IsName and kindOf. -/
import Derived.Test.YtehleeibgkpjmabRefA
import Derived.Test.YtehleeibgkpjmabWithin
import Derived.Test.YtehleeibgkpjmabShape2
namespace Go.Proofs.Ytehleeibgkpjmab
open Go.RowKit Go.Shelf
set_option maxRecDepth 20000

/-- The kind of a slot's number; -1: there is none. -/
def kindN (L : List SlotD) (n : Int) : Int := if 1 ≤ n ∧ n < L.length then (L.getD n.toNat default).1 else -1

theorem kindOf_out (gm : Int) (ra : Option Addr) (rn rc : Nat) (sa : Option Addr) (sn sc : Nat) (fa : Option Addr) (fn fc : Nat) (na : Option Addr) (nn nc : Nat) (n : Int) (w : World) (hsn : sn ≤ 1000000) (hd : decide (1 ≤ n ∧ n ≤ (sn : Int) - 1) = false) :
    Calls Try.prog 47 #[.agg #[.int .i64 gm, .slice ra rn rc, .slice sa sn sc, .slice fa fn fc, .slice na nn nc], .int .i64 n] w fun r w' => r = .returned (.int .i64 (-1)) ∧ Below w.heap.size w w' := by
  have b0 : Below w.heap.size w (w.alloc (.cells #[.int .i64 gm, .slice ra rn rc, .slice sa sn sc, .slice fa fn fc, .slice na nn nc] 44)) := (Below.refl _ _).alloc (Nat.le_refl _) _
  have HD : Hid (decide (1 ≤ n ∧ n ≤ (sn : Int) - 1) = false) := hd
  clear hd
  go_enter Try.func47, Try.ntmps47
  go_wp2_with (go_at_call 38; refine (within_any _ _ _ _).mono ?_; rintro e w' ⟨rfl, hw⟩; subst hw; rw [HD.out])
  go_ret
  exact ⟨rfl, b0⟩
theorem kindOf_in (gm : Int) (ra : Option Addr) (rn rc : Nat) (sb so : Nat) (sn sc : Nat) (fa : Option Addr) (fn fc : Nat) (na : Option Addr) (nn nc : Nat) (n : Nat) (k : Int) (w : World) (hsn : sn ≤ 1000000) (hd : decide ((1 : Int) ≤ (n : Int) ∧ (n : Int) ≤ (sn : Int) - 1) = true) (hn : n < sn) (hsb : sb < w.heap.size) (hc : w.cell? ⟨sb, so + n * 3, none⟩ = some (.int .i64 k)) :
    Calls Try.prog 47 #[.agg #[.int .i64 gm, .slice ra rn rc, .slice (some ⟨sb, so, none⟩) sn sc, .slice fa fn fc, .slice na nn nc], .int .i64 n] w fun r w' => r = .returned (.int .i64 k) ∧ Below w.heap.size w w' := by
  have b0 : Below w.heap.size w (w.alloc (.cells #[.int .i64 gm, .slice ra rn rc, .slice (some ⟨sb, so, none⟩) sn sc, .slice fa fn fc, .slice na nn nc] 44)) := (Below.refl _ _).alloc (Nat.le_refl _) _
  have hc1 := (b0.cell (p := ⟨sb, so + n * 3, none⟩) hsb).trans hc
  have HD : Hid (decide ((1 : Int) ≤ (n : Int) ∧ (n : Int) ≤ (sn : Int) - 1) = true) := hd
  have hni : (n : Int) < (sn : Int) := by omega
  clear hd
  go_enter Try.func47, Try.ntmps47
  go_wp2_with (go_at_call 38; refine (within_any _ _ _ _).mono ?_; rintro e w' ⟨rfl, hw⟩; subst hw; rw [HD.out])
  go_ret
  exact ⟨rfl, b0⟩
theorem kindOf_is {w : World} {v : Value} {m : ImgD} (h : Img w v m) (hL : m.slots.length ≤ 1000000) (n : Int) {k : Int} (hk : kindN m.slots n = k) :
    Calls Try.prog 47 #[v, .int .i64 n] w fun r w' => r = .returned (.int .i64 k) ∧ Below w.heap.size w w' := by
  obtain ⟨ra, rc, sa, sc, fa, fc, na, nc, rfl, h1, h2, h3, h4⟩ := h.parts
  unfold kindN at hk
  by_cases hn : 1 ≤ n ∧ n < m.slots.length
  · rw [if_pos hn] at hk
    obtain ⟨j, rfl⟩ : ∃ j : Nat, n = j := ⟨n.toNat, by omega⟩
    have hj : j < m.slots.length := by omega
    obtain ⟨sb, so, sc', e, _, hsb, hcl⟩ := h2.open (by omega)
    simp at e
    obtain ⟨rfl, rfl⟩ := e
    obtain ⟨tv, c1, _⟩ := hcl j hj
    have e : m.slots.getD j default = m.slots[j] := by simp [List.getD, hj]
    rw [Int.toNat_natCast, e] at hk
    rw [hk] at c1
    exact kindOf_in m.guest ra _ rc sb so _ sc fa _ fc na _ nc j k w hL (decide_eq_true (by omega)) hj hsb c1
  · rw [if_neg hn] at hk
    subst hk
    exact kindOf_out m.guest ra _ rc sa _ sc fa _ fc na _ nc n w hL (decide_eq_false (by omega))

set_option maxHeartbeats 1000000 in
theorem isNameOf_any (s : ByteArray) (w : World) : Calls Try.prog 46 #[.string s] w fun r w' => r = .returned (.bool (isNm s)) ∧ w' = w := by
  by_cases hs : 1 ≤ s.size ∧ s.size ≤ 8
  · have HS : Hid (isNm s = s.data.toList.all isLetter) := by
      show _ = _
      unfold isNm
      rw [decide_eq_true hs]; rfl
    have HD : Hid (decide ((1 : Int) ≤ (s.size : Int) ∧ (s.size : Int) ≤ 8) = true) := decide_eq_true (by omega)
    have h8 := hs.2
    clear hs
    go_enter Try.func46, Try.ntmps46
    go_wp2_with (go_at_call 38; refine (within_any _ _ _ _).mono ?_; rintro e w' ⟨rfl, hw⟩; subst hw; rw [HD.out])
    go_loop [3] (fun i => ∃ k : Nat, k ≤ s.size ∧ i = .int .i64 k ∧ Hid (∀ j, (h : j < s.size) → j < k → isLetter s[j] = true)) (fun i => s.size - (intOf i).toNat)
    case atStart => exact ⟨0, Nat.zero_le _, rfl, fun j h hj => absurd hj (by omega)⟩
    case round =>
      obtain ⟨k, hk, rfl, HA⟩ := hrel
      by_cases hlk : k < s.size
      · have hki : (k : Int) < (s.size : Int) := by omega
        by_cases h1 : (s[k]'hlk).toNat < 97
        · have HB : Hid (isLetter s[k] = false) := by show _ = _; unfold isLetter; exact decide_eq_false (by omega)
          have h1i : ((s[k]'hlk).toNat : Int) < 97 := by omega
          go_wp2
          go_ret
          exact ⟨ret_boolE (by rw [HS.out, letters_bad hlk HB.out]), rfl⟩
        by_cases h2 : 122 < (s[k]'hlk).toNat
        · have HB : Hid (isLetter s[k] = false) := by show _ = _; unfold isLetter; exact decide_eq_false (by omega)
          have h2i : (122 : Int) < ((s[k]'hlk).toNat : Int) := by omega
          have h1i : ¬ ((s[k]'hlk).toNat : Int) < 97 := by omega
          go_wp2
          go_ret
          exact ⟨ret_boolE (by rw [HS.out, letters_bad hlk HB.out]), rfl⟩
        · have HG : Hid (isLetter s[k] = true) := by show _ = _; unfold isLetter; exact decide_eq_true (by omega)
          have h2i : ¬ (122 : Int) < ((s[k]'hlk).toNat : Int) := by omega
          have h1i : ¬ ((s[k]'hlk).toNat : Int) < 97 := by omega
          go_wp2
          go_round
          case rel => exact ⟨k + 1, by omega, by go_num, fun j h hj => by
            by_cases e : j = k
            · subst e; exact HG.out
            · exact HA.out j h (by omega)⟩
          case measure => simp [intOf]; omega
      · have e4 : k = s.size := by omega
        subst e4
        go_wp2
        go_ret
        exact ⟨ret_boolE (by rw [HS.out, letters_good (fun j hj => HA.out j hj hj)]), rfl⟩
  · have HS : Hid (isNm s = false) := by
      show _ = _
      unfold isNm
      rw [decide_eq_false hs]; rfl
    have HD : Hid (decide ((1 : Int) ≤ (s.size : Int) ∧ (s.size : Int) ≤ 8) = false) := decide_eq_false (by omega)
    clear hs
    go_enter Try.func46, Try.ntmps46
    go_wp2_with (go_at_call 38; refine (within_any _ _ _ _).mono ?_; rintro e w' ⟨rfl, hw⟩; subst hw; rw [HD.out])
    go_ret
    exact ⟨by rw [HS.out]; rfl, rfl⟩
end Go.Proofs.Ytehleeibgkpjmab
