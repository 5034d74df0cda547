/- Texts joined: Rise, Shape, Shape2, RefB, CntP. -/
import Derived.Test.YtehleeibgkpjmacReadsTrueJ1
import Derived.BigQuiet
import Derived.Deep.RegionWith
import Derived.Deep.RegionHeld3
set_option linter.unusedVariables false
set_option linter.unusedSimpArgs false
/- Contract of namesRise. -/
namespace Go.Proofs.Ytehleeibgkpjmac
open Go.RowKit Go.Shelf
set_option maxRecDepth 20000

theorem namesOK_bad {L : List SnapD} {k : Nat} (hk : k < L.length) (h : nmAt L k = false) : namesOK L = false := by
  cases e : namesOK L with
  | false => rfl
  | true =>
    unfold namesOK at e
    rw [List.all_eq_true] at e
    have := e k (by simpa using hk)
    rw [h] at this; cases this
theorem namesOK_good {L : List SnapD} (h : ∀ k, k < L.length → nmAt L k = true) : namesOK L = true := by
  unfold namesOK
  rw [List.all_eq_true]
  intro k hk
  exact h k (by simpa using hk)
theorem nmAt_at {L : List SnapD} {k : Nat} (hk : k < L.length) (h1 : 1 ≤ k) : nmAt L k = (isNm L[k].1 && Op.bytesLess (L[k - 1]'(by omega)).1.toList L[k].1.toList) := by
  unfold nmAt
  have e : (k == 0) = false := by simp; omega
  rw [e, Bool.false_or]
  simp [List.getD, hk, show k - 1 < L.length by omega]
theorem nmAt_0 {L : List SnapD} (hk : 0 < L.length) : nmAt L 0 = isNm L[0].1 := by
  unfold nmAt
  simp [List.getD, hk]
theorem bytesLeq : ∀ x y : List UInt8, (Op.bytesLess x y || x == y) = !Op.bytesLess y x
  | [], [] => rfl
  | [], _ :: _ => rfl
  | _ :: _, [] => rfl
  | a :: x, b :: y => by
    have ih := bytesLeq x y
    rcases Nat.lt_trichotomy a.toNat b.toNat with h | h | h
    · have h1 : a < b := UInt8.lt_iff_toNat_lt.2 h
      have h2 : ¬ b < a := fun h' => by have := UInt8.lt_iff_toNat_lt.1 h'; omega
      have h3 : (b == a) = false := by simp; intro e; rw [e] at h; omega
      simp [Op.bytesLess, h1, h2, h3]
    · have e : a = b := UInt8.toNat_inj.1 h
      subst e
      simp only [Op.bytesLess, UInt8.lt_irrefl, decide_false, Bool.false_or, BEq.rfl, Bool.true_and, List.cons_beq_cons]
      exact ih
    · have h1 : b < a := UInt8.lt_iff_toNat_lt.2 h
      have h2 : ¬ a < b := fun h' => by have := UInt8.lt_iff_toNat_lt.1 h'; omega
      have h3 : (a == b) = false := by simp; intro e; rw [e] at h; omega
      simp [Op.bytesLess, h1, h2, h3]
theorem below_drew {w w1 : World} (h : Below w.drew.heap.size w.drew w1) : Below w.heap.size w w1 := ⟨h.os, h.tape, h.output, h.size, h.block⟩
theorem isName_is {s : ByteArray} (w : World) {B : Bool} (hB : isNm s = B) : Calls Try.prog 98 #[.string s] w fun r w' => r = .returned (.bool B) ∧ Below w.heap.size w w' := by subst hB; exact isName_any s w

set_option linter.unusedSimpArgs false in
set_option maxHeartbeats 4000000 in
theorem namesRise_at (ao : Option Addr) (n cap : Nat) (L : List SnapD) (w : World) (hn : L.length = n) (hm : n ≤ 3) (hc : 0 < n → ∃ b off, ao = some ⟨b, off, none⟩ ∧ b < w.heap.size ∧ ∀ j, (h : j < L.length) → SnAt w b (off + j * 3) L[j]) :
    Calls Try.prog 73 #[.slice ao n cap] w fun r w' => r = .returned (.bool (namesOK L)) ∧ Below w.heap.size w w' := by
  have HN : Hid (L.length = n) := hn
  have HC : Hid (0 < n → ∃ b off, ao = some ⟨b, off, none⟩ ∧ b < w.heap.size ∧ ∀ j, (h : j < L.length) → SnAt w b (off + j * 3) L[j]) := hc
  clear hn hc
  go_enter Try.func73, Try.ntmps73
  go_wp2
  go_loopw [3, 4, 7] (fun _ _ i wr => ∃ k : Nat, k ≤ n ∧ i = .int .i64 k ∧ Hid (∀ j, j < k → nmAt L j = true) ∧ Below w.heap.size w wr) (fun _ _ i _ => n - (intOf i).toNat)
  case atStart => exact ⟨0, Nat.zero_le _, rfl, fun j hj => absurd hj (by omega), Below.refl _ _⟩
  case round =>
    obtain ⟨k, hk, rfl, HA, hbel⟩ := hrel
    by_cases hlk : k < n
    · have h3 : k = 0 ∨ k = 1 ∨ k = 2 := by omega
      have HL : Hid (k < n) := hlk
      obtain ⟨b, off, rfl, hlt, hcell⟩ := HC.out (by omega)
      obtain ⟨s, hs⟩ : ∃ s, s = L[k]'(by rw [HN.out]; exact hlk) := ⟨_, rfl⟩
      obtain ⟨nm, gg, rr⟩ := s
      have hS : SnAt w b (off + k * 3) (nm, gg, rr) := by rw [hs]; exact hcell k _
      obtain ⟨rv, c1, c2, c3, hsl⟩ := hS
      obtain ⟨rra, rrc, hrf⟩ := hsl.form
      subst hrf
      have c1 : wr.cell? ⟨b, off + k * 3, none⟩ = some (.string nm) := (hbel.cell (p := ⟨b, off + k * 3, none⟩) hlt).trans c1
      have c2 : wr.cell? ⟨b, off + k * 3 + 1, none⟩ = some (.int .i64 gg) := (hbel.cell (p := ⟨b, off + k * 3 + 1, none⟩) hlt).trans c2
      have c3 : wr.cell? ⟨b, off + k * 3 + 1 + 1, none⟩ = some (.slice rra rr.length rrc) := (hbel.cell (p := ⟨b, off + k * 3 + 1 + 1, none⟩) hlt).trans c3
      have b1 : Below w.heap.size w (wr.alloc (.cells #[.string nm, .int .i64 gg, .slice rra rr.length rrc] 61)) := hbel.alloc hbel.size _
      have cN : (wr.alloc (.cells #[.string nm, .int .i64 gg, .slice rra rr.length rrc] 61)).cell? ⟨wr.heap.size, 0, none⟩ = some (.string nm) := by rw [World.cell?_alloc_at _ _ _ _ rfl]; rfl
      have zN : wr.heap.size < (wr.alloc (.cells #[.string nm, .int .i64 gg, .slice rra rr.length rrc] 61)).heap.size := by simp
      have HE : Hid (∀ hk0 : k = 0, nmAt L k = isNm nm) := fun hk0 => by
        have := nmAt_0 (L := L) (by rw [HN.out]; omega)
        have e : L[0]'(by rw [HN.out]; omega) = (nm, gg, rr) := by rw [hs]; simp [hk0]
        rw [hk0, this, e]
      have HP : Hid (∀ hk0 : 1 ≤ k, ∃ pn, wr.cell? ⟨b, off + (k - 1) * 3, none⟩ = some (.string pn) ∧ nmAt L k = (isNm nm && Op.bytesLess pn.toList nm.toList)) := fun hk0 => by
        have hS' : SnAt w b (off + (k - 1) * 3) (L[k - 1]'(by rw [HN.out]; omega)) := hcell (k - 1) _
        obtain ⟨_, d1, _⟩ := hS'
        refine ⟨_, (hbel.cell (p := ⟨b, off + (k - 1) * 3, none⟩) hlt).trans d1, ?_⟩
        rw [nmAt_at (L := L) (by rw [HN.out]; exact hlk) hk0, ← hs]
      have HGo : Hid (nmAt L k = true → ∀ j, j < k + 1 → nmAt L j = true) := fun h j hj => by
        by_cases e : j = k
        · subst e; exact h
        · exact HA.out j (by omega)
      have HBad : Hid (nmAt L k = false → namesOK L = false) := fun h => namesOK_bad (k := k) (by rw [HN.out]; exact hlk) h
      have hbw : b < (wr.alloc (.cells #[.string nm, .int .i64 gg, .slice rra rr.length rrc] 61)).heap.size := by have := hbel.size; simp; omega
      have hbw' : b < wr.heap.size := Nat.lt_of_lt_of_le hlt hbel.size
      clear hs hcell hsl HA
      rcases h3 with rfl | h3
      · have hki : (0 : Int) < (n : Int) := by omega
        clear hlk
        have c1 : wr.cell? ⟨b, off, none⟩ = some (.string nm) := c1
        have c2 : wr.cell? ⟨b, off + 1, none⟩ = some (.int .i64 gg) := c2
        have c3 : wr.cell? ⟨b, off + 1 + 1, none⟩ = some (.slice rra rr.length rrc) := c3
        simp only [Int.cast_ofNat_Int]
        have HK : Hid (nmAt L 0 = isNm nm) := HE.out rfl
        clear HE HP
        cases hq : isNm nm with
        | true =>
          go_wp2_with fail
          refine wp_region_any (by kernel_rfl) ?_
          try (change wpAny _ _ _ _ _ _ _ (World.drew _))
          refine wpAny_take (i := 0) (v := .pointer (some ⟨wr.heap.size, 0, none⟩)) rfl (by kernel_rfl) (by kernel_rfl) (by kernel_rfl) (fun _ _ _ h => h) (Or.inl ⟨by rfl, fun w => by go_simp⟩) ?_
          simp only [Act.put, List.getElem_toArray, List.getElem_cons_succ, List.getElem_cons_zero, List.setIfInBounds_toArray, List.set_cons_zero, List.set_cons_succ]
          refine wpAny_ready (rs := [1]) (by kernel_rfl) (by simp) ?_
          refine AllReady.cons rfl (fun K hK => ?_) AllReady.nil
          go_simp
          refine hK _ _ ?_
          clear hK K
          try simp only [Act.put, List.getElem_toArray, List.getElem_cons_succ, List.getElem_cons_zero, List.setIfInBounds_toArray, List.set_cons_zero, List.set_cons_succ]
          refine wpAny_ready (rs := [2]) (by kernel_rfl) (by simp) ?_
          refine AllReady.cons rfl (fun K hK => ?_) AllReady.nil
          go_wp2_with (go_at_call 98; refine (isName_is _ hq).mono ?_; rintro e w1 ⟨rfl, b2⟩; have b2 := below_drew b2)
          try simp only [Act.put, List.getElem_toArray, List.getElem_cons_succ, List.getElem_cons_zero, List.setIfInBounds_toArray, List.set_cons_zero, List.set_cons_succ]
          refine wpAny_take (i := 3) (v := .bool false) rfl (by kernel_rfl) (by kernel_rfl) (by kernel_rfl) (fun _ _ _ h => h) (Or.inl ⟨by rfl, fun w => by go_simp⟩) ?_
          simp only [Act.put, List.getElem_toArray, List.getElem_cons_succ, List.getElem_cons_zero, List.setIfInBounds_toArray, List.set_cons_zero, List.set_cons_succ]
          refine wpAny_take (i := 4) (v := .bool false) rfl (by kernel_rfl) (by kernel_rfl) (by kernel_rfl) (fun _ _ _ h => h) (Or.inl ⟨by rfl, fun w => by go_simp⟩) ?_
          simp only [Act.put, List.getElem_toArray, List.getElem_cons_succ, List.getElem_cons_zero, List.setIfInBounds_toArray, List.set_cons_zero, List.set_cons_succ]
          refine wpAny_take (i := 5) (v := .int .i64 0) rfl (by kernel_rfl) (by kernel_rfl) (by kernel_rfl) (fun _ _ _ h => h) (Or.inl ⟨by rfl, fun w => by go_simp⟩) ?_
          simp only [Act.put, List.getElem_toArray, List.getElem_cons_succ, List.getElem_cons_zero, List.setIfInBounds_toArray, List.set_cons_zero, List.set_cons_succ]
          refine wpAny_take (i := 6) (v := .bool false) rfl (by kernel_rfl) (by kernel_rfl) (by kernel_rfl) (fun _ _ _ h => h) (Or.inl ⟨by rfl, fun w => by go_simp⟩) ?_
          simp only [Act.put, List.getElem_toArray, List.getElem_cons_succ, List.getElem_cons_zero, List.setIfInBounds_toArray, List.set_cons_zero, List.set_cons_succ]
          refine wpAny_take (i := 7) (v := .bool false) rfl (by kernel_rfl) (by kernel_rfl) (by kernel_rfl) (fun _ _ _ h => h) (Or.inl ⟨by rfl, fun w => by go_simp⟩) ?_
          simp only [Act.put, List.getElem_toArray, List.getElem_cons_succ, List.getElem_cons_zero, List.setIfInBounds_toArray, List.set_cons_zero, List.set_cons_succ]
          refine wpAny_take (i := 8) (v := undef) rfl (by kernel_rfl) (by kernel_rfl) (by kernel_rfl) (fun _ _ _ h => h) (Or.inr ⟨by rfl, rfl⟩) ?_
          simp only [Act.put, List.getElem_toArray, List.getElem_cons_succ, List.getElem_cons_zero, List.setIfInBounds_toArray, List.set_cons_zero, List.set_cons_succ]
          refine wpAny_take (i := 9) (v := undef) rfl (by kernel_rfl) (by kernel_rfl) (by kernel_rfl) (fun _ _ _ h => h) (Or.inr ⟨by rfl, rfl⟩) ?_
          simp only [Act.put, List.getElem_toArray, List.getElem_cons_succ, List.getElem_cons_zero, List.setIfInBounds_toArray, List.set_cons_zero, List.set_cons_succ]
          refine wpAny_take (i := 10) (v := undef) rfl (by kernel_rfl) (by kernel_rfl) (by kernel_rfl) (fun _ _ _ h => h) (Or.inr ⟨by rfl, rfl⟩) ?_
          simp only [Act.put, List.getElem_toArray, List.getElem_cons_succ, List.getElem_cons_zero, List.setIfInBounds_toArray, List.set_cons_zero, List.set_cons_succ]
          refine wpAny_take (i := 11) (v := undef) rfl (by kernel_rfl) (by kernel_rfl) (by kernel_rfl) (fun _ _ _ h => h) (Or.inr ⟨by rfl, rfl⟩) ?_
          simp only [Act.put, List.getElem_toArray, List.getElem_cons_succ, List.getElem_cons_zero, List.setIfInBounds_toArray, List.set_cons_zero, List.set_cons_succ]
          refine wpAny_take (i := 12) (v := undef) rfl (by kernel_rfl) (by kernel_rfl) (by kernel_rfl) (fun _ _ _ h => h) (Or.inr ⟨by rfl, rfl⟩) ?_
          simp only [Act.put, List.getElem_toArray, List.getElem_cons_succ, List.getElem_cons_zero, List.setIfInBounds_toArray, List.set_cons_zero, List.set_cons_succ]
          refine wpAny_take (i := 13) (v := undef) rfl (by kernel_rfl) (by kernel_rfl) (by kernel_rfl) (fun _ _ _ h => h) (Or.inr ⟨by rfl, rfl⟩) ?_
          simp only [Act.put, List.getElem_toArray, List.getElem_cons_succ, List.getElem_cons_zero, List.setIfInBounds_toArray, List.set_cons_zero, List.set_cons_succ]
          refine wpAny_take (i := 14) (v := undef) rfl (by kernel_rfl) (by kernel_rfl) (by kernel_rfl) (fun _ _ _ h => h) (Or.inr ⟨by rfl, rfl⟩) ?_
          simp only [Act.put, List.getElem_toArray, List.getElem_cons_succ, List.getElem_cons_zero, List.setIfInBounds_toArray, List.set_cons_zero, List.set_cons_succ]
          refine wpAny_take (i := 15) (v := undef) rfl (by kernel_rfl) (by kernel_rfl) (by kernel_rfl) (fun _ _ _ h => h) (Or.inr ⟨by rfl, rfl⟩) ?_
          simp only [Act.put, List.getElem_toArray, List.getElem_cons_succ, List.getElem_cons_zero, List.setIfInBounds_toArray, List.set_cons_zero, List.set_cons_succ]
          refine wpAny_take (i := 16) (v := undef) rfl (by kernel_rfl) (by kernel_rfl) (by kernel_rfl) (fun _ _ _ h => h) (Or.inr ⟨by rfl, rfl⟩) ?_
          simp only [Act.put, List.getElem_toArray, List.getElem_cons_succ, List.getElem_cons_zero, List.setIfInBounds_toArray, List.set_cons_zero, List.set_cons_succ]
          refine wpAny_take (i := 17) (v := .bool false) rfl (by kernel_rfl) (by kernel_rfl) (by kernel_rfl) (fun _ _ _ h => h) (Or.inl ⟨by rfl, fun w => by go_simp⟩) ?_
          simp only [Act.put, List.getElem_toArray, List.getElem_cons_succ, List.getElem_cons_zero, List.setIfInBounds_toArray, List.set_cons_zero, List.set_cons_succ]
          refine wpAny_take (i := 18) (v := .bool false) rfl (by kernel_rfl) (by kernel_rfl) (by kernel_rfl) (fun _ _ _ h => h) (Or.inl ⟨by rfl, fun w => by go_simp⟩) ?_
          simp only [Act.put, List.getElem_toArray, List.getElem_cons_succ, List.getElem_cons_zero, List.setIfInBounds_toArray, List.set_cons_zero, List.set_cons_succ]
          refine wpAny_done (by kernel_rfl) ?_ _
          go_wp2_with fail
          go_roundw
          case rel => exact ⟨1, by omega, by rfl, HGo.out (by rw [HK.out]; exact hq), b1.trans (b2.mono b1.size)⟩
          case measure => simp [intOf]; omega
        | false =>
          go_wp2_with fail
          refine wp_region_any (by kernel_rfl) ?_
          try (change wpAny _ _ _ _ _ _ _ (World.drew _))
          refine wpAny_take (i := 0) (v := .pointer (some ⟨wr.heap.size, 0, none⟩)) rfl (by kernel_rfl) (by kernel_rfl) (by kernel_rfl) (fun _ _ _ h => h) (Or.inl ⟨by rfl, fun w => by go_simp⟩) ?_
          simp only [Act.put, List.getElem_toArray, List.getElem_cons_succ, List.getElem_cons_zero, List.setIfInBounds_toArray, List.set_cons_zero, List.set_cons_succ]
          refine wpAny_ready (rs := [1]) (by kernel_rfl) (by simp) ?_
          refine AllReady.cons rfl (fun K hK => ?_) AllReady.nil
          go_simp
          refine hK _ _ ?_
          clear hK K
          try simp only [Act.put, List.getElem_toArray, List.getElem_cons_succ, List.getElem_cons_zero, List.setIfInBounds_toArray, List.set_cons_zero, List.set_cons_succ]
          refine wpAny_ready (rs := [2]) (by kernel_rfl) (by simp) ?_
          refine AllReady.cons rfl (fun K hK => ?_) AllReady.nil
          go_wp2_with (go_at_call 98; refine (isName_is _ hq).mono ?_; rintro e w1 ⟨rfl, b2⟩; have b2 := below_drew b2)
          try simp only [Act.put, List.getElem_toArray, List.getElem_cons_succ, List.getElem_cons_zero, List.setIfInBounds_toArray, List.set_cons_zero, List.set_cons_succ]
          refine wpAny_take (i := 3) (v := .bool true) rfl (by kernel_rfl) (by kernel_rfl) (by kernel_rfl) (fun _ _ _ h => h) (Or.inl ⟨by rfl, fun w => by go_simp⟩) ?_
          simp only [Act.put, List.getElem_toArray, List.getElem_cons_succ, List.getElem_cons_zero, List.setIfInBounds_toArray, List.set_cons_zero, List.set_cons_succ]
          refine wpAny_take (i := 4) (v := .bool true) rfl (by kernel_rfl) (by kernel_rfl) (by kernel_rfl) (fun _ _ _ h => h) (Or.inl ⟨by rfl, fun w => by go_simp⟩) ?_
          simp only [Act.put, List.getElem_toArray, List.getElem_cons_succ, List.getElem_cons_zero, List.setIfInBounds_toArray, List.set_cons_zero, List.set_cons_succ]
          refine wpAny_take (i := 5) (v := undef) rfl (by kernel_rfl) (by kernel_rfl) (by kernel_rfl) (fun _ _ _ h => h) (Or.inr ⟨by rfl, rfl⟩) ?_
          simp only [Act.put, List.getElem_toArray, List.getElem_cons_succ, List.getElem_cons_zero, List.setIfInBounds_toArray, List.set_cons_zero, List.set_cons_succ]
          refine wpAny_take (i := 6) (v := undef) rfl (by kernel_rfl) (by kernel_rfl) (by kernel_rfl) (fun _ _ _ h => h) (Or.inr ⟨by rfl, rfl⟩) ?_
          simp only [Act.put, List.getElem_toArray, List.getElem_cons_succ, List.getElem_cons_zero, List.setIfInBounds_toArray, List.set_cons_zero, List.set_cons_succ]
          refine wpAny_take (i := 7) (v := undef) rfl (by kernel_rfl) (by kernel_rfl) (by kernel_rfl) (fun _ _ _ h => h) (Or.inr ⟨by rfl, rfl⟩) ?_
          simp only [Act.put, List.getElem_toArray, List.getElem_cons_succ, List.getElem_cons_zero, List.setIfInBounds_toArray, List.set_cons_zero, List.set_cons_succ]
          refine wpAny_take (i := 8) (v := undef) rfl (by kernel_rfl) (by kernel_rfl) (by kernel_rfl) (fun _ _ _ h => h) (Or.inr ⟨by rfl, rfl⟩) ?_
          simp only [Act.put, List.getElem_toArray, List.getElem_cons_succ, List.getElem_cons_zero, List.setIfInBounds_toArray, List.set_cons_zero, List.set_cons_succ]
          refine wpAny_take (i := 9) (v := undef) rfl (by kernel_rfl) (by kernel_rfl) (by kernel_rfl) (fun _ _ _ h => h) (Or.inr ⟨by rfl, rfl⟩) ?_
          simp only [Act.put, List.getElem_toArray, List.getElem_cons_succ, List.getElem_cons_zero, List.setIfInBounds_toArray, List.set_cons_zero, List.set_cons_succ]
          refine wpAny_take (i := 10) (v := undef) rfl (by kernel_rfl) (by kernel_rfl) (by kernel_rfl) (fun _ _ _ h => h) (Or.inr ⟨by rfl, rfl⟩) ?_
          simp only [Act.put, List.getElem_toArray, List.getElem_cons_succ, List.getElem_cons_zero, List.setIfInBounds_toArray, List.set_cons_zero, List.set_cons_succ]
          refine wpAny_take (i := 11) (v := undef) rfl (by kernel_rfl) (by kernel_rfl) (by kernel_rfl) (fun _ _ _ h => h) (Or.inr ⟨by rfl, rfl⟩) ?_
          simp only [Act.put, List.getElem_toArray, List.getElem_cons_succ, List.getElem_cons_zero, List.setIfInBounds_toArray, List.set_cons_zero, List.set_cons_succ]
          refine wpAny_take (i := 12) (v := undef) rfl (by kernel_rfl) (by kernel_rfl) (by kernel_rfl) (fun _ _ _ h => h) (Or.inr ⟨by rfl, rfl⟩) ?_
          simp only [Act.put, List.getElem_toArray, List.getElem_cons_succ, List.getElem_cons_zero, List.setIfInBounds_toArray, List.set_cons_zero, List.set_cons_succ]
          refine wpAny_take (i := 13) (v := undef) rfl (by kernel_rfl) (by kernel_rfl) (by kernel_rfl) (fun _ _ _ h => h) (Or.inr ⟨by rfl, rfl⟩) ?_
          simp only [Act.put, List.getElem_toArray, List.getElem_cons_succ, List.getElem_cons_zero, List.setIfInBounds_toArray, List.set_cons_zero, List.set_cons_succ]
          refine wpAny_take (i := 14) (v := undef) rfl (by kernel_rfl) (by kernel_rfl) (by kernel_rfl) (fun _ _ _ h => h) (Or.inr ⟨by rfl, rfl⟩) ?_
          simp only [Act.put, List.getElem_toArray, List.getElem_cons_succ, List.getElem_cons_zero, List.setIfInBounds_toArray, List.set_cons_zero, List.set_cons_succ]
          refine wpAny_take (i := 15) (v := undef) rfl (by kernel_rfl) (by kernel_rfl) (by kernel_rfl) (fun _ _ _ h => h) (Or.inr ⟨by rfl, rfl⟩) ?_
          simp only [Act.put, List.getElem_toArray, List.getElem_cons_succ, List.getElem_cons_zero, List.setIfInBounds_toArray, List.set_cons_zero, List.set_cons_succ]
          refine wpAny_take (i := 16) (v := undef) rfl (by kernel_rfl) (by kernel_rfl) (by kernel_rfl) (fun _ _ _ h => h) (Or.inr ⟨by rfl, rfl⟩) ?_
          simp only [Act.put, List.getElem_toArray, List.getElem_cons_succ, List.getElem_cons_zero, List.setIfInBounds_toArray, List.set_cons_zero, List.set_cons_succ]
          refine wpAny_take (i := 17) (v := undef) rfl (by kernel_rfl) (by kernel_rfl) (by kernel_rfl) (fun _ _ _ h => h) (Or.inr ⟨by rfl, rfl⟩) ?_
          simp only [Act.put, List.getElem_toArray, List.getElem_cons_succ, List.getElem_cons_zero, List.setIfInBounds_toArray, List.set_cons_zero, List.set_cons_succ]
          refine wpAny_take (i := 18) (v := .bool true) rfl (by kernel_rfl) (by kernel_rfl) (by kernel_rfl) (fun _ _ _ h => h) (Or.inl ⟨by rfl, fun w => by go_simp⟩) ?_
          simp only [Act.put, List.getElem_toArray, List.getElem_cons_succ, List.getElem_cons_zero, List.setIfInBounds_toArray, List.set_cons_zero, List.set_cons_succ]
          refine wpAny_done (by kernel_rfl) ?_ _
          go_wp2_with fail
          go_ret
          exact ⟨ret_boolE (HBad.out (by rw [HK.out]; exact hq)).symm, b1.trans (b2.mono b1.size)⟩
      rcases h3 with rfl | rfl
      · have hki : (1 : Int) < (n : Int) := by omega
        clear hlk
        have c1 : wr.cell? ⟨b, off + 3, none⟩ = some (.string nm) := c1
        have c2 : wr.cell? ⟨b, off + 3 + 1, none⟩ = some (.int .i64 gg) := c2
        have c3 : wr.cell? ⟨b, off + 3 + 1 + 1, none⟩ = some (.slice rra rr.length rrc) := c3
        simp only [Int.cast_ofNat_Int]
        obtain ⟨pn, d1, hK⟩ := HP.out (by omega)
        have d1 : wr.cell? ⟨b, off, none⟩ = some (.string pn) := d1
        have HK : Hid (nmAt L 1 = (isNm nm && !(Op.bytesLess nm.toList pn.toList || nm.toList == pn.toList))) := hK.trans (by rw [bytesLeq, Bool.not_not])
        have cP : (wr.alloc (.cells #[.string nm, .int .i64 gg, .slice rra rr.length rrc] 61)).cell? ⟨b, off, none⟩ = some (.string pn) := (((Below.refl _ wr).alloc (Nat.le_refl _) _).cell (p := ⟨b, off, none⟩) hbw').trans d1
        clear HE HP hK d1
        have hnl : (0 : Int) < (n : Int) := by omega
        have hnn : 0 < n := by omega
        have hw : IntKind.i64.wrap 0 = 0 := by rfl
        cases hq : isNm nm with
        | true =>
          cases hla : Op.bytesLess nm.toList pn.toList with
          | true =>
            go_wp2_with fail
            go_region_held3 (fun w' => w'.cell? ⟨wr.heap.size, 0, none⟩ = some (.string nm) ∧ w'.cell? ⟨b, off, none⟩ = some (.string pn)) (first | exact ⟨cN, cP⟩ | exact ⟨cN1, cP1⟩)
              (first | (go_at_call 98; refine (isName_is _ hq).mono ?_; rintro e w1 ⟨rfl, b2⟩; have b2 := below_drew b2; have cN1 := (b2.cell (p := ⟨wr.heap.size, 0, none⟩) zN).trans cN; have cP1 := (b2.cell (p := ⟨b, off, none⟩) hbw).trans cP))
            go_wp2_with fail
            go_ret
            exact ⟨ret_boolE (HBad.out (by rw [HK.out, hq, hla]; rfl)).symm, b1.trans (b2.mono b1.size)⟩
          | false =>
            cases hlb : nm.toList == pn.toList with
            | true =>
              go_wp2_with fail
              go_region_held3 (fun w' => w'.cell? ⟨wr.heap.size, 0, none⟩ = some (.string nm) ∧ w'.cell? ⟨b, off, none⟩ = some (.string pn)) (first | exact ⟨cN, cP⟩ | exact ⟨cN1, cP1⟩)
                (first | (go_at_call 98; refine (isName_is _ hq).mono ?_; rintro e w1 ⟨rfl, b2⟩; have b2 := below_drew b2; have cN1 := (b2.cell (p := ⟨wr.heap.size, 0, none⟩) zN).trans cN; have cP1 := (b2.cell (p := ⟨b, off, none⟩) hbw).trans cP))
              go_wp2_with fail
              go_ret
              exact ⟨ret_boolE (HBad.out (by rw [HK.out, hq, hla, hlb]; rfl)).symm, b1.trans (b2.mono b1.size)⟩
            | false =>
              go_wp2_with fail
              go_region_held3 (fun w' => w'.cell? ⟨wr.heap.size, 0, none⟩ = some (.string nm) ∧ w'.cell? ⟨b, off, none⟩ = some (.string pn)) (first | exact ⟨cN, cP⟩ | exact ⟨cN1, cP1⟩)
                (first | (go_at_call 98; refine (isName_is _ hq).mono ?_; rintro e w1 ⟨rfl, b2⟩; have b2 := below_drew b2; have cN1 := (b2.cell (p := ⟨wr.heap.size, 0, none⟩) zN).trans cN; have cP1 := (b2.cell (p := ⟨b, off, none⟩) hbw).trans cP))
              go_wp2_with fail
              go_roundw
              case rel => exact ⟨2, by omega, by rfl, HGo.out (by rw [HK.out, hq, hla, hlb]; rfl), b1.trans (b2.mono b1.size)⟩
              case measure => simp [intOf]; omega
        | false =>
          go_wp2_with fail
          refine wp_region_any (by kernel_rfl) ?_
          try (change wpAny _ _ _ _ _ _ _ (World.drew _))
          refine wpAny_take (i := 0) (v := .pointer (some ⟨wr.heap.size, 0, none⟩)) rfl (by kernel_rfl) (by kernel_rfl) (by kernel_rfl) (fun _ _ _ h => h) (Or.inl ⟨by rfl, fun w => by go_simp⟩) ?_
          simp only [Act.put, List.getElem_toArray, List.getElem_cons_succ, List.getElem_cons_zero, List.setIfInBounds_toArray, List.set_cons_zero, List.set_cons_succ]
          refine wpAny_ready (rs := [1]) (by kernel_rfl) (by simp) ?_
          refine AllReady.cons rfl (fun K hK => ?_) AllReady.nil
          go_simp
          refine hK _ _ ?_
          clear hK K
          try simp only [Act.put, List.getElem_toArray, List.getElem_cons_succ, List.getElem_cons_zero, List.setIfInBounds_toArray, List.set_cons_zero, List.set_cons_succ]
          refine wpAny_ready (rs := [2]) (by kernel_rfl) (by simp) ?_
          refine AllReady.cons rfl (fun K hK => ?_) AllReady.nil
          go_wp2_with (go_at_call 98; refine (isName_is _ hq).mono ?_; rintro e w1 ⟨rfl, b2⟩; have b2 := below_drew b2)
          try simp only [Act.put, List.getElem_toArray, List.getElem_cons_succ, List.getElem_cons_zero, List.setIfInBounds_toArray, List.set_cons_zero, List.set_cons_succ]
          refine wpAny_take (i := 3) (v := .bool true) rfl (by kernel_rfl) (by kernel_rfl) (by kernel_rfl) (fun _ _ _ h => h) (Or.inl ⟨by rfl, fun w => by go_simp⟩) ?_
          simp only [Act.put, List.getElem_toArray, List.getElem_cons_succ, List.getElem_cons_zero, List.setIfInBounds_toArray, List.set_cons_zero, List.set_cons_succ]
          refine wpAny_take (i := 4) (v := .bool true) rfl (by kernel_rfl) (by kernel_rfl) (by kernel_rfl) (fun _ _ _ h => h) (Or.inl ⟨by rfl, fun w => by go_simp⟩) ?_
          simp only [Act.put, List.getElem_toArray, List.getElem_cons_succ, List.getElem_cons_zero, List.setIfInBounds_toArray, List.set_cons_zero, List.set_cons_succ]
          refine wpAny_take (i := 5) (v := undef) rfl (by kernel_rfl) (by kernel_rfl) (by kernel_rfl) (fun _ _ _ h => h) (Or.inr ⟨by rfl, rfl⟩) ?_
          simp only [Act.put, List.getElem_toArray, List.getElem_cons_succ, List.getElem_cons_zero, List.setIfInBounds_toArray, List.set_cons_zero, List.set_cons_succ]
          refine wpAny_take (i := 6) (v := undef) rfl (by kernel_rfl) (by kernel_rfl) (by kernel_rfl) (fun _ _ _ h => h) (Or.inr ⟨by rfl, rfl⟩) ?_
          simp only [Act.put, List.getElem_toArray, List.getElem_cons_succ, List.getElem_cons_zero, List.setIfInBounds_toArray, List.set_cons_zero, List.set_cons_succ]
          refine wpAny_take (i := 7) (v := undef) rfl (by kernel_rfl) (by kernel_rfl) (by kernel_rfl) (fun _ _ _ h => h) (Or.inr ⟨by rfl, rfl⟩) ?_
          simp only [Act.put, List.getElem_toArray, List.getElem_cons_succ, List.getElem_cons_zero, List.setIfInBounds_toArray, List.set_cons_zero, List.set_cons_succ]
          refine wpAny_take (i := 8) (v := undef) rfl (by kernel_rfl) (by kernel_rfl) (by kernel_rfl) (fun _ _ _ h => h) (Or.inr ⟨by rfl, rfl⟩) ?_
          simp only [Act.put, List.getElem_toArray, List.getElem_cons_succ, List.getElem_cons_zero, List.setIfInBounds_toArray, List.set_cons_zero, List.set_cons_succ]
          refine wpAny_take (i := 9) (v := undef) rfl (by kernel_rfl) (by kernel_rfl) (by kernel_rfl) (fun _ _ _ h => h) (Or.inr ⟨by rfl, rfl⟩) ?_
          simp only [Act.put, List.getElem_toArray, List.getElem_cons_succ, List.getElem_cons_zero, List.setIfInBounds_toArray, List.set_cons_zero, List.set_cons_succ]
          refine wpAny_take (i := 10) (v := undef) rfl (by kernel_rfl) (by kernel_rfl) (by kernel_rfl) (fun _ _ _ h => h) (Or.inr ⟨by rfl, rfl⟩) ?_
          simp only [Act.put, List.getElem_toArray, List.getElem_cons_succ, List.getElem_cons_zero, List.setIfInBounds_toArray, List.set_cons_zero, List.set_cons_succ]
          refine wpAny_take (i := 11) (v := undef) rfl (by kernel_rfl) (by kernel_rfl) (by kernel_rfl) (fun _ _ _ h => h) (Or.inr ⟨by rfl, rfl⟩) ?_
          simp only [Act.put, List.getElem_toArray, List.getElem_cons_succ, List.getElem_cons_zero, List.setIfInBounds_toArray, List.set_cons_zero, List.set_cons_succ]
          refine wpAny_take (i := 12) (v := undef) rfl (by kernel_rfl) (by kernel_rfl) (by kernel_rfl) (fun _ _ _ h => h) (Or.inr ⟨by rfl, rfl⟩) ?_
          simp only [Act.put, List.getElem_toArray, List.getElem_cons_succ, List.getElem_cons_zero, List.setIfInBounds_toArray, List.set_cons_zero, List.set_cons_succ]
          refine wpAny_take (i := 13) (v := undef) rfl (by kernel_rfl) (by kernel_rfl) (by kernel_rfl) (fun _ _ _ h => h) (Or.inr ⟨by rfl, rfl⟩) ?_
          simp only [Act.put, List.getElem_toArray, List.getElem_cons_succ, List.getElem_cons_zero, List.setIfInBounds_toArray, List.set_cons_zero, List.set_cons_succ]
          refine wpAny_take (i := 14) (v := undef) rfl (by kernel_rfl) (by kernel_rfl) (by kernel_rfl) (fun _ _ _ h => h) (Or.inr ⟨by rfl, rfl⟩) ?_
          simp only [Act.put, List.getElem_toArray, List.getElem_cons_succ, List.getElem_cons_zero, List.setIfInBounds_toArray, List.set_cons_zero, List.set_cons_succ]
          refine wpAny_take (i := 15) (v := undef) rfl (by kernel_rfl) (by kernel_rfl) (by kernel_rfl) (fun _ _ _ h => h) (Or.inr ⟨by rfl, rfl⟩) ?_
          simp only [Act.put, List.getElem_toArray, List.getElem_cons_succ, List.getElem_cons_zero, List.setIfInBounds_toArray, List.set_cons_zero, List.set_cons_succ]
          refine wpAny_take (i := 16) (v := undef) rfl (by kernel_rfl) (by kernel_rfl) (by kernel_rfl) (fun _ _ _ h => h) (Or.inr ⟨by rfl, rfl⟩) ?_
          simp only [Act.put, List.getElem_toArray, List.getElem_cons_succ, List.getElem_cons_zero, List.setIfInBounds_toArray, List.set_cons_zero, List.set_cons_succ]
          refine wpAny_take (i := 17) (v := undef) rfl (by kernel_rfl) (by kernel_rfl) (by kernel_rfl) (fun _ _ _ h => h) (Or.inr ⟨by rfl, rfl⟩) ?_
          simp only [Act.put, List.getElem_toArray, List.getElem_cons_succ, List.getElem_cons_zero, List.setIfInBounds_toArray, List.set_cons_zero, List.set_cons_succ]
          refine wpAny_take (i := 18) (v := .bool true) rfl (by kernel_rfl) (by kernel_rfl) (by kernel_rfl) (fun _ _ _ h => h) (Or.inl ⟨by rfl, fun w => by go_simp⟩) ?_
          simp only [Act.put, List.getElem_toArray, List.getElem_cons_succ, List.getElem_cons_zero, List.setIfInBounds_toArray, List.set_cons_zero, List.set_cons_succ]
          refine wpAny_done (by kernel_rfl) ?_ _
          go_wp2_with fail
          go_ret
          exact ⟨ret_boolE (HBad.out (by rw [HK.out, hq]; rfl)).symm, b1.trans (b2.mono b1.size)⟩
      · have hki : (2 : Int) < (n : Int) := by omega
        clear hlk
        have c1 : wr.cell? ⟨b, off + 6, none⟩ = some (.string nm) := c1
        have c2 : wr.cell? ⟨b, off + 6 + 1, none⟩ = some (.int .i64 gg) := c2
        have c3 : wr.cell? ⟨b, off + 6 + 1 + 1, none⟩ = some (.slice rra rr.length rrc) := c3
        simp only [Int.cast_ofNat_Int]
        obtain ⟨pn, d1, hK⟩ := HP.out (by omega)
        have d1 : wr.cell? ⟨b, off + 3, none⟩ = some (.string pn) := d1
        have HK : Hid (nmAt L 2 = (isNm nm && !(Op.bytesLess nm.toList pn.toList || nm.toList == pn.toList))) := hK.trans (by rw [bytesLeq, Bool.not_not])
        have cP : (wr.alloc (.cells #[.string nm, .int .i64 gg, .slice rra rr.length rrc] 61)).cell? ⟨b, off + 3, none⟩ = some (.string pn) := (((Below.refl _ wr).alloc (Nat.le_refl _) _).cell (p := ⟨b, off + 3, none⟩) hbw').trans d1
        clear HE HP hK d1
        have hnl : (1 : Int) < (n : Int) := by omega
        have hnn : 1 < n := by omega
        have hw : IntKind.i64.wrap 1 = 1 := by rfl
        cases hq : isNm nm with
        | true =>
          cases hla : Op.bytesLess nm.toList pn.toList with
          | true =>
            go_wp2_with fail
            go_region_held3 (fun w' => w'.cell? ⟨wr.heap.size, 0, none⟩ = some (.string nm) ∧ w'.cell? ⟨b, off + 3, none⟩ = some (.string pn)) (first | exact ⟨cN, cP⟩ | exact ⟨cN1, cP1⟩)
              (first | (go_at_call 98; refine (isName_is _ hq).mono ?_; rintro e w1 ⟨rfl, b2⟩; have b2 := below_drew b2; have cN1 := (b2.cell (p := ⟨wr.heap.size, 0, none⟩) zN).trans cN; have cP1 := (b2.cell (p := ⟨b, off + 3, none⟩) hbw).trans cP))
            go_wp2_with fail
            go_ret
            exact ⟨ret_boolE (HBad.out (by rw [HK.out, hq, hla]; rfl)).symm, b1.trans (b2.mono b1.size)⟩
          | false =>
            cases hlb : nm.toList == pn.toList with
            | true =>
              go_wp2_with fail
              go_region_held3 (fun w' => w'.cell? ⟨wr.heap.size, 0, none⟩ = some (.string nm) ∧ w'.cell? ⟨b, off + 3, none⟩ = some (.string pn)) (first | exact ⟨cN, cP⟩ | exact ⟨cN1, cP1⟩)
                (first | (go_at_call 98; refine (isName_is _ hq).mono ?_; rintro e w1 ⟨rfl, b2⟩; have b2 := below_drew b2; have cN1 := (b2.cell (p := ⟨wr.heap.size, 0, none⟩) zN).trans cN; have cP1 := (b2.cell (p := ⟨b, off + 3, none⟩) hbw).trans cP))
              go_wp2_with fail
              go_ret
              exact ⟨ret_boolE (HBad.out (by rw [HK.out, hq, hla, hlb]; rfl)).symm, b1.trans (b2.mono b1.size)⟩
            | false =>
              go_wp2_with fail
              go_region_held3 (fun w' => w'.cell? ⟨wr.heap.size, 0, none⟩ = some (.string nm) ∧ w'.cell? ⟨b, off + 3, none⟩ = some (.string pn)) (first | exact ⟨cN, cP⟩ | exact ⟨cN1, cP1⟩)
                (first | (go_at_call 98; refine (isName_is _ hq).mono ?_; rintro e w1 ⟨rfl, b2⟩; have b2 := below_drew b2; have cN1 := (b2.cell (p := ⟨wr.heap.size, 0, none⟩) zN).trans cN; have cP1 := (b2.cell (p := ⟨b, off + 3, none⟩) hbw).trans cP))
              go_wp2_with fail
              go_roundw
              case rel => exact ⟨3, by omega, by rfl, HGo.out (by rw [HK.out, hq, hla, hlb]; rfl), b1.trans (b2.mono b1.size)⟩
              case measure => simp [intOf]; omega
        | false =>
          go_wp2_with fail
          refine wp_region_any (by kernel_rfl) ?_
          try (change wpAny _ _ _ _ _ _ _ (World.drew _))
          refine wpAny_take (i := 0) (v := .pointer (some ⟨wr.heap.size, 0, none⟩)) rfl (by kernel_rfl) (by kernel_rfl) (by kernel_rfl) (fun _ _ _ h => h) (Or.inl ⟨by rfl, fun w => by go_simp⟩) ?_
          simp only [Act.put, List.getElem_toArray, List.getElem_cons_succ, List.getElem_cons_zero, List.setIfInBounds_toArray, List.set_cons_zero, List.set_cons_succ]
          refine wpAny_ready (rs := [1]) (by kernel_rfl) (by simp) ?_
          refine AllReady.cons rfl (fun K hK => ?_) AllReady.nil
          go_simp
          refine hK _ _ ?_
          clear hK K
          try simp only [Act.put, List.getElem_toArray, List.getElem_cons_succ, List.getElem_cons_zero, List.setIfInBounds_toArray, List.set_cons_zero, List.set_cons_succ]
          refine wpAny_ready (rs := [2]) (by kernel_rfl) (by simp) ?_
          refine AllReady.cons rfl (fun K hK => ?_) AllReady.nil
          go_wp2_with (go_at_call 98; refine (isName_is _ hq).mono ?_; rintro e w1 ⟨rfl, b2⟩; have b2 := below_drew b2)
          try simp only [Act.put, List.getElem_toArray, List.getElem_cons_succ, List.getElem_cons_zero, List.setIfInBounds_toArray, List.set_cons_zero, List.set_cons_succ]
          refine wpAny_take (i := 3) (v := .bool true) rfl (by kernel_rfl) (by kernel_rfl) (by kernel_rfl) (fun _ _ _ h => h) (Or.inl ⟨by rfl, fun w => by go_simp⟩) ?_
          simp only [Act.put, List.getElem_toArray, List.getElem_cons_succ, List.getElem_cons_zero, List.setIfInBounds_toArray, List.set_cons_zero, List.set_cons_succ]
          refine wpAny_take (i := 4) (v := .bool true) rfl (by kernel_rfl) (by kernel_rfl) (by kernel_rfl) (fun _ _ _ h => h) (Or.inl ⟨by rfl, fun w => by go_simp⟩) ?_
          simp only [Act.put, List.getElem_toArray, List.getElem_cons_succ, List.getElem_cons_zero, List.setIfInBounds_toArray, List.set_cons_zero, List.set_cons_succ]
          refine wpAny_take (i := 5) (v := undef) rfl (by kernel_rfl) (by kernel_rfl) (by kernel_rfl) (fun _ _ _ h => h) (Or.inr ⟨by rfl, rfl⟩) ?_
          simp only [Act.put, List.getElem_toArray, List.getElem_cons_succ, List.getElem_cons_zero, List.setIfInBounds_toArray, List.set_cons_zero, List.set_cons_succ]
          refine wpAny_take (i := 6) (v := undef) rfl (by kernel_rfl) (by kernel_rfl) (by kernel_rfl) (fun _ _ _ h => h) (Or.inr ⟨by rfl, rfl⟩) ?_
          simp only [Act.put, List.getElem_toArray, List.getElem_cons_succ, List.getElem_cons_zero, List.setIfInBounds_toArray, List.set_cons_zero, List.set_cons_succ]
          refine wpAny_take (i := 7) (v := undef) rfl (by kernel_rfl) (by kernel_rfl) (by kernel_rfl) (fun _ _ _ h => h) (Or.inr ⟨by rfl, rfl⟩) ?_
          simp only [Act.put, List.getElem_toArray, List.getElem_cons_succ, List.getElem_cons_zero, List.setIfInBounds_toArray, List.set_cons_zero, List.set_cons_succ]
          refine wpAny_take (i := 8) (v := undef) rfl (by kernel_rfl) (by kernel_rfl) (by kernel_rfl) (fun _ _ _ h => h) (Or.inr ⟨by rfl, rfl⟩) ?_
          simp only [Act.put, List.getElem_toArray, List.getElem_cons_succ, List.getElem_cons_zero, List.setIfInBounds_toArray, List.set_cons_zero, List.set_cons_succ]
          refine wpAny_take (i := 9) (v := undef) rfl (by kernel_rfl) (by kernel_rfl) (by kernel_rfl) (fun _ _ _ h => h) (Or.inr ⟨by rfl, rfl⟩) ?_
          simp only [Act.put, List.getElem_toArray, List.getElem_cons_succ, List.getElem_cons_zero, List.setIfInBounds_toArray, List.set_cons_zero, List.set_cons_succ]
          refine wpAny_take (i := 10) (v := undef) rfl (by kernel_rfl) (by kernel_rfl) (by kernel_rfl) (fun _ _ _ h => h) (Or.inr ⟨by rfl, rfl⟩) ?_
          simp only [Act.put, List.getElem_toArray, List.getElem_cons_succ, List.getElem_cons_zero, List.setIfInBounds_toArray, List.set_cons_zero, List.set_cons_succ]
          refine wpAny_take (i := 11) (v := undef) rfl (by kernel_rfl) (by kernel_rfl) (by kernel_rfl) (fun _ _ _ h => h) (Or.inr ⟨by rfl, rfl⟩) ?_
          simp only [Act.put, List.getElem_toArray, List.getElem_cons_succ, List.getElem_cons_zero, List.setIfInBounds_toArray, List.set_cons_zero, List.set_cons_succ]
          refine wpAny_take (i := 12) (v := undef) rfl (by kernel_rfl) (by kernel_rfl) (by kernel_rfl) (fun _ _ _ h => h) (Or.inr ⟨by rfl, rfl⟩) ?_
          simp only [Act.put, List.getElem_toArray, List.getElem_cons_succ, List.getElem_cons_zero, List.setIfInBounds_toArray, List.set_cons_zero, List.set_cons_succ]
          refine wpAny_take (i := 13) (v := undef) rfl (by kernel_rfl) (by kernel_rfl) (by kernel_rfl) (fun _ _ _ h => h) (Or.inr ⟨by rfl, rfl⟩) ?_
          simp only [Act.put, List.getElem_toArray, List.getElem_cons_succ, List.getElem_cons_zero, List.setIfInBounds_toArray, List.set_cons_zero, List.set_cons_succ]
          refine wpAny_take (i := 14) (v := undef) rfl (by kernel_rfl) (by kernel_rfl) (by kernel_rfl) (fun _ _ _ h => h) (Or.inr ⟨by rfl, rfl⟩) ?_
          simp only [Act.put, List.getElem_toArray, List.getElem_cons_succ, List.getElem_cons_zero, List.setIfInBounds_toArray, List.set_cons_zero, List.set_cons_succ]
          refine wpAny_take (i := 15) (v := undef) rfl (by kernel_rfl) (by kernel_rfl) (by kernel_rfl) (fun _ _ _ h => h) (Or.inr ⟨by rfl, rfl⟩) ?_
          simp only [Act.put, List.getElem_toArray, List.getElem_cons_succ, List.getElem_cons_zero, List.setIfInBounds_toArray, List.set_cons_zero, List.set_cons_succ]
          refine wpAny_take (i := 16) (v := undef) rfl (by kernel_rfl) (by kernel_rfl) (by kernel_rfl) (fun _ _ _ h => h) (Or.inr ⟨by rfl, rfl⟩) ?_
          simp only [Act.put, List.getElem_toArray, List.getElem_cons_succ, List.getElem_cons_zero, List.setIfInBounds_toArray, List.set_cons_zero, List.set_cons_succ]
          refine wpAny_take (i := 17) (v := undef) rfl (by kernel_rfl) (by kernel_rfl) (by kernel_rfl) (fun _ _ _ h => h) (Or.inr ⟨by rfl, rfl⟩) ?_
          simp only [Act.put, List.getElem_toArray, List.getElem_cons_succ, List.getElem_cons_zero, List.setIfInBounds_toArray, List.set_cons_zero, List.set_cons_succ]
          refine wpAny_take (i := 18) (v := .bool true) rfl (by kernel_rfl) (by kernel_rfl) (by kernel_rfl) (fun _ _ _ h => h) (Or.inl ⟨by rfl, fun w => by go_simp⟩) ?_
          simp only [Act.put, List.getElem_toArray, List.getElem_cons_succ, List.getElem_cons_zero, List.setIfInBounds_toArray, List.set_cons_zero, List.set_cons_succ]
          refine wpAny_done (by kernel_rfl) ?_ _
          go_wp2_with fail
          go_ret
          exact ⟨ret_boolE (HBad.out (by rw [HK.out, hq]; rfl)).symm, b1.trans (b2.mono b1.size)⟩
    · have e4 : k = n := by omega
      subst e4
      go_wp2
      go_ret
      exact ⟨ret_boolE (namesOK_good (fun j hj => HA.out j (by rw [HN.out] at hj; exact hj))).symm, hbel⟩

theorem namesRise_is {v : Value} {L : List SnapD} {w : World} (h : Snaps w v L) (h3 : L.length ≤ 3) {B : Bool} (hB : namesOK L = B) :
    Calls Try.prog 73 #[v] w fun r w' => r = .returned (.bool B) ∧ Below w.heap.size w w' := by
  subst hB
  obtain ⟨ao, cap, rfl, _, _, hc⟩ := h
  exact namesRise_at ao _ cap L w rfl h3 (fun h0 => hc (by intro e; rw [e] at h0; simp at h0))
end Go.Proofs.Ytehleeibgkpjmac
/- Contract of Shape. -/
namespace Go.Proofs.Ytehleeibgkpjmac
open Go.RowKit Go.Shelf
set_option maxRecDepth 20000
attribute [local go_sem] Oper.semAt_some

theorem used_err {v : Value} {L : List SlotD} {w : World} (h : Slots w v L) {E : Int} (hE : slotsE L = E) :
    Calls Try.prog 72 #[v] w fun r w' => (∃ u : Int, r = .returned (.tuple #[.int .i64 u, .int .i64 E])) ∧ Below w.heap.size w w' := by
  subst hE
  by_cases h0 : slotsE L = 0
  · rw [h0]
    exact (used_is h h0 rfl).mono fun e w' hr => ⟨⟨_, hr.1⟩, hr.2⟩
  · exact (used_bad v L _ w h rfl (by simpa using h0)).mono fun e w' hr => ⟨⟨_, hr.1⟩, hr.2⟩

/-- A block of cells lies on where only what is no cells turns. -/
theorem cells_kept {W W' : World} {row : Option Nat} {B : Nat} {A : Array Value} {t : TypeId} {fr : Nat × Nat} (h : W.heap[B]? = some (.cells A t fr)) (hg : W.grownBy W' row) (hr : ∀ r, row = some r → ∃ o : Obj, W.heap[r]? = some o ∧ o.isCells = false) : W'.heap[B]? = some (.cells A t fr) := by
  refine (hg.block B (Array.getElem?_eq_some_iff.1 h).1 (fun e => ?_)).trans h
  obtain ⟨o, ho, hc⟩ := hr B e.symm
  rw [h] at ho
  cases ho
  cases hc
theorem cells_own {β : Type} (B : Nat) (A : Array Value) (t : TypeId) (fr : Nat × Nat) : Own (fun (_ : β) W => W.heap[B]? = some (.cells A t fr)) := fun _ _ _ _ hs hg hr => cells_kept hs hg hr
theorem cells_alloc {W : World} {B : Nat} {A : Array Value} {t : TypeId} {fr : Nat × Nat} (h : W.heap[B]? = some (.cells A t fr)) (o : Obj) : (W.alloc o).heap[B]? = some (.cells A t fr) :=
  (Below.heap_alloc W _ _ (Array.getElem?_eq_some_iff.1 h).1).trans h
theorem cells_below {W W' : World} {B n : Nat} {A : Array Value} {t : TypeId} {fr : Nat × Nat} (h : W.heap[B]? = some (.cells A t fr)) (hb : Below n W W') (hlt : B < n) : W'.heap[B]? = some (.cells A t fr) := (hb.block _ hlt).trans h
theorem five {W : World} {B : Nat} {a0 a1 a2 a3 a4 : Value} {t : TypeId} (h : W.heap[B]? = some (.cells #[a0, a1, a2, a3, a4] t)) :
    W.cell? ⟨B, 0, none⟩ = some a0 ∧ W.cell? ⟨B, 1, none⟩ = some a1 ∧ W.cell? ⟨B, 2, none⟩ = some a2 ∧ W.cell? ⟨B, 3, none⟩ = some a3 ∧ W.cell? ⟨B, 4, none⟩ = some a4 := by
  simp [World.cell?, h]
theorem three {W : World} {B : Nat} {a0 a1 a2 : Value} {t : TypeId} (h : W.heap[B]? = some (.cells #[a0, a1, a2] t)) :
    W.cell? ⟨B, 0, none⟩ = some a0 ∧ W.cell? ⟨B, 1, none⟩ = some a1 ∧ W.cell? ⟨B, 2, none⟩ = some a2 := by
  simp [World.cell?, h]

abbrev shW (w : World) (gm : Int) (rv sv fv nv : Value) : World := (w.alloc (.cells #[.int .i64 gm, rv, sv, fv, nv] 26)).alloc (.cells #[.int .i64 0] 27)
theorem shW_below (w : World) (gm : Int) (rv sv fv nv : Value) : Below w.heap.size w (shW w gm rv sv fv nv) := ((Below.refl _ _).alloc (Nat.le_refl _) _).alloc (by simp) _
theorem shW_box (w : World) (gm : Int) (rv sv fv nv : Value) : (shW w gm rv sv fv nv).heap[w.heap.size]? = some (.cells #[.int .i64 gm, rv, sv, fv, nv] 26) := cells_alloc (World.alloc_heap_new w _) _
theorem shW_res (w : World) (gm : Int) (rv sv fv nv : Value) : Boxed (shW w gm rv sv fv nv) (w.heap.size + 1) 27 (.int .i64 0) := by
  have := Boxed.new (w.alloc (.cells #[.int .i64 gm, rv, sv, fv, nv] 26)) 27 (.int .i64 0)
  simpa using this

theorem shape_many (gm : Int) (ra : Option Addr) (rn rc : Nat) (sa : Option Addr) (sn sc : Nat) (fa : Option Addr) (fn fc : Nat) (na : Option Addr) (nn nc : Nat) (w : World) (hn : 3 < nn) :
    Calls Try.prog 38 #[.agg #[.int .i64 gm, .slice ra rn rc, .slice sa sn sc, .slice fa fn fc, .slice na nn nc]] w fun r w' => r = .returned (.int .i64 2) ∧ Below w.heap.size w w' := by
  have g : (3 : Int) < (nn : Int) := by omega
  refine (callsIn_wide (n := 6)).1 ?_
  refine callsIn_of_wp_marks Try.func38 rfl trivial ?_ rfl
  simp only [Try.ntmps38, List.size_toArray, List.length_cons, List.length_nil, Nat.reduceAdd, Nat.reduceSub, Array.replicate_succ, Array.replicate_zero, List.push_toArray, List.append_toArray, List.nil_append, List.cons_append]
  gi_wp2
  refine ⟨.int .i64 2, ?_, rfl, ((Below.refl _ _).alloc (Nat.le_refl _) _).alloc (by simp) _⟩
  simp [results, Try.f38, go_sem]

set_option maxRecDepth 100000 in
set_option maxHeartbeats 2000000 in
theorem shape_used (gm : Int) (ra : Option Addr) (rn rc : Nat) (sa : Option Addr) (sn sc : Nat) (fa : Option Addr) (fn fc : Nat) (na : Option Addr) (nn nc : Nat) (L : List SlotD) (E : Int) (w : World) (hn : nn ≤ 3) (hs : Slots w (.slice sa sn sc) L) (hE : slotsE L = E) (hne : (E != 0) = true) :
    Calls Try.prog 38 #[.agg #[.int .i64 gm, .slice ra rn rc, .slice sa sn sc, .slice fa fn fc, .slice na nn nc]] w fun r w' => r = .returned (.int .i64 E) ∧ Below w.heap.size w w' := by
  have g : ¬ (3 : Int) < (nn : Int) := by omega
  have b0 := shW_below w gm (.slice ra rn rc) (.slice sa sn sc) (.slice fa fn fc) (.slice na nn nc)
  have r0 := shW_res w gm (.slice ra rn rc) (.slice sa sn sc) (.slice fa fn fc) (.slice na nn nc)
  have hcall := used_err (hs.below b0) hE
  clear hs hE
  refine (callsIn_wide (n := 6)).1 ?_
  refine callsIn_of_wp_marks Try.func38 rfl trivial ?_ rfl
  simp only [Try.ntmps38, List.size_toArray, List.length_cons, List.length_nil, Nat.reduceAdd, Nat.reduceSub, Array.replicate_succ, Array.replicate_zero, List.push_toArray, List.append_toArray, List.nil_append, List.cons_append]
  gi_wp2_with (refine ⟨trivial, ?_⟩; gi_at_call 72; refine (callsIn_wide.2 hcall).mono ?_; rintro e w1 ⟨⟨u, rfl⟩, b1⟩; have r1 : Boxed w1 (w.heap.size + 1) 27 (.int .i64 0) := cells_below r0 b1 (by simp); have cR := r1.cell; have fR := r1.frozen)
  refine ⟨.int .i64 E, ?_, rfl, (Below.on b0 b1).setCell (p := ⟨w.heap.size + 1, 0, none⟩) (by simp) _⟩
  have hc5 := (r1.set (.int .i64 E)).cell
  simp [results, Try.f38, go_sem, hc5]

set_option maxRecDepth 100000 in
set_option maxHeartbeats 2000000 in
theorem shape_refs (gm : Int) (ra : Option Addr) (rn rc : Nat) (sa : Option Addr) (sn sc : Nat) (fa : Option Addr) (fn fc : Nat) (na : Option Addr) (nn nc : Nat) (L : List SlotD) (w : World) (hn : nn ≤ 3) (hs : Slots w (.slice sa sn sc) L) (hE : slotsE L = 0) (hne : ¬ fn = sn) :
    Calls Try.prog 38 #[.agg #[.int .i64 gm, .slice ra rn rc, .slice sa sn sc, .slice fa fn fc, .slice na nn nc]] w fun r w' => r = .returned (.int .i64 1) ∧ Below w.heap.size w w' := by
  have hd1 : ((fn : Int) != (sn : Int)) = true := by simp; omega
  have hd2 : (fn == sn) = false := by simpa using hne
  have hd3 : ((fn : Int) == (sn : Int)) = false := by simp; omega
  have g : ¬ (3 : Int) < (nn : Int) := by omega
  have b0 := shW_below w gm (.slice ra rn rc) (.slice sa sn sc) (.slice fa fn fc) (.slice na nn nc)
  have r0 := shW_res w gm (.slice ra rn rc) (.slice sa sn sc) (.slice fa fn fc) (.slice na nn nc)
  have m0 := shW_box w gm (.slice ra rn rc) (.slice sa sn sc) (.slice fa fn fc) (.slice na nn nc)
  have hcall := used_err (hs.below b0) hE
  clear hs hE
  refine (callsIn_wide (n := 6)).1 ?_
  refine callsIn_of_wp_marks Try.func38 rfl trivial ?_ rfl
  simp only [Try.ntmps38, List.size_toArray, List.length_cons, List.length_nil, Nat.reduceAdd, Nat.reduceSub, Array.replicate_succ, Array.replicate_zero, List.push_toArray, List.append_toArray, List.nil_append, List.cons_append]
  gi_wp2_with (refine ⟨trivial, ?_⟩; gi_at_call 72; refine (callsIn_wide.2 hcall).mono ?_; rintro e w1 ⟨⟨u, rfl⟩, b1⟩; have r1 : Boxed w1 (w.heap.size + 1) 27 (.int .i64 0) := cells_below r0 b1 (by simp); have cR := r1.cell; have fR := r1.frozen; have m1 := cells_below m0 b1 (by simp; omega); obtain ⟨c0, c1, c2, c3, c4⟩ := five m1)
  refine ⟨trivial, ?_⟩
  gi_wp2
  refine ⟨.int .i64 1, ?_, rfl, (Below.on b0 b1).setCell (p := ⟨w.heap.size + 1, 0, none⟩) (by simp) _⟩
  have hc5 := (r1.set (.int .i64 1)).cell
  simp [results, Try.f38, go_sem, hc5]

set_option maxRecDepth 100000 in
set_option maxHeartbeats 2000000 in
theorem shape_names (gm : Int) (ra : Option Addr) (rn rc : Nat) (sa : Option Addr) (sn sc : Nat) (fa : Option Addr) (fc : Nat) (na : Option Addr) (nn nc : Nat) (L : List SlotD) (S : List SnapD) (w : World) (hn : nn ≤ 3) (hs : Slots w (.slice sa sn sc) L) (hE : slotsE L = 0) (hS : Snaps w (.slice na nn nc) S) (hS3 : S.length ≤ 3) (hB : namesOK S = false) :
    Calls Try.prog 38 #[.agg #[.int .i64 gm, .slice ra rn rc, .slice sa sn sc, .slice fa sn fc, .slice na nn nc]] w fun r w' => r = .returned (.int .i64 1) ∧ Below w.heap.size w w' := by
  have g : ¬ (3 : Int) < (nn : Int) := by omega
  have b0 := shW_below w gm (.slice ra rn rc) (.slice sa sn sc) (.slice fa sn fc) (.slice na nn nc)
  have r0 := shW_res w gm (.slice ra rn rc) (.slice sa sn sc) (.slice fa sn fc) (.slice na nn nc)
  have m0 := shW_box w gm (.slice ra rn rc) (.slice sa sn sc) (.slice fa sn fc) (.slice na nn nc)
  have hcall := used_err (hs.below b0) hE
  have hS0 := hS.below b0
  clear hs hE hS
  refine (callsIn_wide (n := 6)).1 ?_
  refine callsIn_of_wp_marks Try.func38 rfl trivial ?_ rfl
  simp only [Try.ntmps38, List.size_toArray, List.length_cons, List.length_nil, Nat.reduceAdd, Nat.reduceSub, Array.replicate_succ, Array.replicate_zero, List.push_toArray, List.append_toArray, List.nil_append, List.cons_append]
  gi_wp2_with (first
    | (refine ⟨trivial, ?_⟩; gi_at_call 72; refine (callsIn_wide.2 hcall).mono ?_; rintro e w1 ⟨⟨u, rfl⟩, b1⟩; have hS1 := hS0.below b1; have r1 : Boxed w1 (w.heap.size + 1) 27 (.int .i64 0) := cells_below r0 b1 (by simp); have m1 := cells_below m0 b1 (by simp; omega); obtain ⟨c0, c1, c2, c3, c4⟩ := five m1)
    | (refine ⟨trivial, ?_⟩; gi_at_call 73; refine (callsIn_wide.2 (namesRise_is hS1 hS3 hB)).mono ?_; rintro e w2 ⟨rfl, b2⟩; have r2 : Boxed w2 (w.heap.size + 1) 27 (.int .i64 0) := cells_below r1 b2 r1.lt; have cR := r2.cell; have fR := r2.frozen))
  refine ⟨.int .i64 1, ?_, rfl, (Below.on' b0 b1 b2).setCell (p := ⟨w.heap.size + 1, 0, none⟩) (by simp) _⟩
  have hc5 := (r2.set (.int .i64 1)).cell
  simp [results, Try.f38, go_sem, hc5]

/-- The Roots of an image, as they come. -/
theorem rootsA_of {w W : World} {gm : Int} {ra : Option Addr} {rn rc : Nat} {sv fv : Value} {na : Option Addr} {nn nc : Nat} {r : List Int} {S : List SnapD} {Bm : Nat} (hr : Sl w (.slice ra rn rc) r) (hS : Snaps w (.slice na nn nc) S) (h3 : S.length ≤ 3) (hb : Below w.heap.size w W)
    (hm : W.heap[Bm]? = some (.cells #[.int .i64 gm, .slice ra rn rc, sv, fv, .slice na nn nc] 26)) :
    ∃ xs : List (RootA w), RootsV w.heap.size W Bm (xs.map (fun x => x.1.1)) ∧ xs.map (fun x => x.1.2) = (⟨#[]⟩, gm, r) :: S := by
  obtain ⟨c0, c1, c2, c3, c4⟩ := five hm
  have hlen : S.length = nn := by
    obtain ⟨ao, cap, e, _⟩ := hS
    simp at e
    exact e.2.1.symm
  have hex : ∀ j : Fin S.length, ∃ y : RootA w, y.1.2 = S[j] ∧
      ∀ b off, na = some ⟨b, off, none⟩ → W.cell? ⟨b, off + j.1 * 3, none⟩ = some (.string y.1.1.nm) ∧ W.cell? ⟨b, off + j.1 * 3 + 1, none⟩ = some (.int .i64 y.1.1.g) ∧ W.cell? ⟨b, off + j.1 * 3 + 1 + 1, none⟩ = some (.slice y.1.1.a y.1.1.n y.1.1.c) := by
    intro ⟨j, hj⟩
    obtain ⟨b, off, cap, e, _, hlt, hcell⟩ := hS.open (by omega)
    obtain ⟨rv, d1, d2, d3, hsl⟩ := hcell j hj
    obtain ⟨ya, yc, rfl⟩ := hsl.form
    refine ⟨⟨(⟨S[j].1, S[j].2.1, ya, S[j].2.2.length, yc⟩, S[j]), rfl, rfl, hsl⟩, rfl, fun b' off' e' => ?_⟩
    simp at e
    rw [e.1] at e'
    simp at e'
    obtain ⟨rfl, rfl⟩ := e'
    exact ⟨(hb.cell (p := ⟨b, off + j * 3, none⟩) hlt).trans d1, (hb.cell (p := ⟨b, off + j * 3 + 1, none⟩) hlt).trans d2, (hb.cell (p := ⟨b, off + j * 3 + 1 + 1, none⟩) hlt).trans d3⟩
  obtain ⟨f, hf⟩ := Classical.axiomOfChoice hex
  refine ⟨⟨(⟨⟨#[]⟩, gm, ra, rn, rc⟩, (⟨#[]⟩, gm, r)), rfl, rfl, hr⟩ :: List.ofFn f, ⟨⟨gm, ra, rn, rc, sv, fv, na, nn, nc, (List.ofFn f).map (fun x => x.1.1), rfl, by simp [hlen], by omega, c0, c1, c2, c3, c4, fun h0 => ?_⟩⟩, ?_⟩
  · obtain ⟨b, off, cap, e, _, hlt, _⟩ := hS.open (by omega)
    simp at e
    refine ⟨b, off, e.1, hlt, fun j hj => ?_⟩
    have hj' : j < S.length := by simpa using hj
    have := (hf ⟨j, hj'⟩).2 b off e.1
    rw [List.getElem_map, List.getElem_ofFn]
    exact this
  · simp only [List.map_cons, List.cons.injEq, true_and]
    apply List.ext_getElem
    · simp
    · intro j h1 h2
      have := (hf ⟨j, h2⟩).1
      simpa using this

theorem keepsFrom_of_below {B : Nat} {W W' : World} (h : Below W.heap.size W W') : KeepsFrom B W W' := ⟨h.size, fun k _ _ hk _ => (h.block k (Array.getElem?_eq_some_iff.1 hk).1).trans hk⟩
end Go.Proofs.Ytehleeibgkpjmac
/- Contract of Shape: the loops over Roots. -/
namespace Go.Proofs.Ytehleeibgkpjmac
open Go.RowKit Go.Shelf
set_option maxRecDepth 20000
attribute [local go_sem] Oper.semAt_some

/-- What Shape answers, once names are right. -/
def tailE (L : List SlotD) (R : List SnapD) : Int := if R.all (fun s => guestOK s.2.1) = false then 3 else if tabFit L = false then 1 else if R.all (fun s => rootFit L s.2.1 s.2.2) = false then 1 else 0

def GAll {w : World} (pre : List (RootA w)) : Prop := ∀ x ∈ pre, guestOK x.1.2.2.1 = true
def GBad {w : World} (pre : List (RootA w)) : Prop := ∃ x ∈ pre, guestOK x.1.2.2.1 = false
abbrev RootB (w : World) : Type := { p : RootV × SnapD // Rt w p.1 p.2 ∧ guestOK p.2.2.1 = true }
theorem rootsB_of {w : World} : ∀ (zs : List (RootA w)), (∀ x ∈ zs, guestOK x.1.2.2.1 = true) → ∃ ys : List (RootB w), ys.map (fun x => x.1.1) = zs.map (fun x => x.1.1) ∧ ys.map (fun x => x.1.2) = zs.map (fun x => x.1.2)
  | [], _ => ⟨[], rfl, rfl⟩
  | x :: zs, h => by
    obtain ⟨ys, h1, h2⟩ := rootsB_of zs (fun y hy => h y (List.mem_cons_of_mem _ hy))
    exact ⟨⟨x.1, x.2, h x List.mem_cons_self⟩ :: ys, by rw [List.map_cons, List.map_cons, h1], by rw [List.map_cons, List.map_cons, h2]⟩
def FAll {w : World} (L : List SlotD) (pre : List (RootB w)) : Prop := ∀ x ∈ pre, rootFit L x.1.2.2.1 x.1.2.2.2 = true
def FBad {w : World} (L : List SlotD) (pre : List (RootB w)) : Prop := ∃ x ∈ pre, rootFit L x.1.2.2.1 x.1.2.2.2 = false
theorem GAll.snoc {w : World} {pre : List (RootA w)} {x : RootA w} (h : GAll pre) (hx : guestOK x.1.2.2.1 = true) : GAll (pre ++ [x]) := fun z hz => (List.mem_append.1 hz).elim (h z) (fun e => by rw [List.mem_singleton] at e; subst e; exact hx)
theorem FAll.snoc {w : World} {L : List SlotD} {pre : List (RootB w)} {x : RootB w} (h : FAll L pre) (hx : rootFit L x.1.2.2.1 x.1.2.2.2 = true) : FAll L (pre ++ [x]) := fun z hz => (List.mem_append.1 hz).elim (h z) (fun e => by rw [List.mem_singleton] at e; subst e; exact hx)
theorem last_mem {α : Type} (pre : List α) (x : α) : x ∈ pre ++ [x] := List.mem_append.2 (.inr (List.mem_singleton.2 rfl))

theorem below_put {w W : World} {D : Nat} (hB : Below w.heap.size w W) (hD : w.heap.size ≤ D) (o : Obj) : Below w.heap.size w (W.putObj D o) := hB.grown (grownBy_putObj' W D o) hB.size (fun k e => by cases e; exact hD)
theorem boxed_put {W : World} {B t : Nat} {v : Value} {D : Nat} (h : Boxed W B t v) (hne : B ≠ D) (o : Obj) : Boxed (W.putObj D o) B t v := h.kept (grownBy_putObj' W D o) (fun e => hne (by cases e; rfl))

set_option maxRecDepth 100000 in
set_option maxHeartbeats 8000000 in
theorem shape_tail (gm : Int) (ra : Option Addr) (rn rc : Nat) (sa : Option Addr) (sn sc : Nat) (fa : Option Addr) (fc : Nat) (na : Option Addr) (nn nc : Nat) (r : List Int) (L : List SlotD) (S : List SnapD) (w : World) (hn : nn ≤ 3) (hr : Sl w (.slice ra rn rc) r) (hs : Slots w (.slice sa sn sc) L) (hE : slotsE L = 0) (hS : Snaps w (.slice na nn nc) S) (hS3 : S.length ≤ 3) (hB : namesOK S = true) :
    Calls Try.prog 38 #[.agg #[.int .i64 gm, .slice ra rn rc, .slice sa sn sc, .slice fa sn fc, .slice na nn nc]] w fun e w' => e = .returned (.int .i64 (tailE L ((⟨#[]⟩, gm, r) :: S))) ∧ Below w.heap.size w w' := by
  have g : ¬ (3 : Int) < (nn : Int) := by omega
  have b0 := shW_below w gm (.slice ra rn rc) (.slice sa sn sc) (.slice fa sn fc) (.slice na nn nc)
  have r0 := shW_res w gm (.slice ra rn rc) (.slice sa sn sc) (.slice fa sn fc) (.slice na nn nc)
  have m0 := shW_box w gm (.slice ra rn rc) (.slice sa sn sc) (.slice fa sn fc) (.slice na nn nc)
  have hcall := used_err (hs.below b0) hE
  have hS0 := hS.below b0
  refine (callsIn_wide (n := 9)).1 ?_
  refine callsIn_of_wp_marks Try.func38 rfl trivial ?_ rfl
  simp only [Try.ntmps38, List.size_toArray, List.length_cons, List.length_nil, Nat.reduceAdd, Nat.reduceSub, Array.replicate_succ, Array.replicate_zero, List.push_toArray, List.append_toArray, List.nil_append, List.cons_append]
  gi_wp2_with (first
    | (refine ⟨trivial, ?_⟩; gi_at_call 72; refine (callsIn_wide.2 hcall).mono ?_; rintro e w1 ⟨⟨u, rfl⟩, b1⟩; have hS1 := hS0.below b1; have r1 : Boxed w1 (w.heap.size + 1) 27 (.int .i64 0) := cells_below r0 b1 (by simp); have m1 := cells_below m0 b1 (by simp; omega); obtain ⟨c0, c1, c2, c3, c4⟩ := five m1)
    | (refine ⟨trivial, ?_⟩; gi_at_call 73; refine (callsIn_wide.2 (namesRise_is hS1 hS3 hB)).mono ?_; rintro e w2 ⟨rfl, b2⟩; have r2 : Boxed w2 (w.heap.size + 1) 27 (.int .i64 0) := cells_below r1 b2 r1.lt; have m2 := cells_below m1 b2 (Nat.lt_of_succ_lt r1.lt); obtain ⟨d0, d1, d2, d3, d4⟩ := five m2)
    | (refine ⟨trivial, ?_⟩; gi_at_call 40; refine (roots_in Fence.wide _ trivial rfl _ _ _ _ _ _).mono ?_; rintro e w3 ⟨rfl, rfl⟩))
  have hb2 := Below.on' b0 b1 b2
  have hBm : w.heap.size + 1 < w2.heap.size := r2.lt
  have m3 : (w2.alloc (.cells #[.int .i64 gm, .slice ra rn rc, .slice sa sn sc, .slice fa sn fc, .slice na nn nc] 26)).heap[w2.heap.size]? = some (.cells #[.int .i64 gm, .slice ra rn rc, .slice sa sn sc, .slice fa sn fc, .slice na nn nc] 26) := World.alloc_heap_new _ _
  have m3' := cells_alloc m2 (.cells #[.int .i64 gm, .slice ra rn rc, .slice sa sn sc, .slice fa sn fc, .slice na nn nc] 26)
  have r3 := r2.alloc (.cells #[.int .i64 gm, .slice ra rn rc, .slice sa sn sc, .slice fa sn fc, .slice na nn nc] 26)
  have hb3 : Below w.heap.size w (w2.alloc (.cells #[.int .i64 gm, .slice ra rn rc, .slice sa sn sc, .slice fa sn fc, .slice na nn nc] 26)) := hb2.alloc hb2.size _
  have hsz : (w2.alloc (.cells #[.int .i64 gm, .slice ra rn rc, .slice sa sn sc, .slice fa sn fc, .slice na nn nc] 26)).heap.size = w2.heap.size + 1 := by simp
  have hsz1 := Nat.le_of_eq hsz
  have hsz2 := Nat.le_of_eq hsz.symm
  clear hsz
  obtain ⟨xs, hL, hxs⟩ := rootsA_of hr hS hS3 hb3 m3
  obtain ⟨W0, hW0⟩ : ∃ W0, w2.alloc (.cells #[.int .i64 gm, .slice ra rn rc, .slice sa sn sc, .slice fa sn fc, .slice na nn nc] 26) = W0 := ⟨_, rfl⟩
  rw [hW0] at m3 m3' r3 hb3 hsz1 hsz2 hL ⊢
  have HxS : Hid (xs.map (fun x => x.1.2) = (⟨#[]⟩, gm, r) :: S) := hxs
  clear hW0 hcall hS0 hS1 c0 c1 c2 c3 c4 d0 d1 d2 d3 d4 m0 m1 m2 r0 r1 r2 b0 b1 b2 hxs
  refine wpIn_rangeFunc_ownH rfl (by omega) (gf := 76) (lb := #[.pointer (some ⟨w2.heap.size, 0, none⟩)]) rfl trivial (enters_of Try.func76 (by kernel_rfl) rfl)
    (roots_stops (fun x : RootA w => x.1.1) Fence.wide 8 trivial rfl (by omega) w2.heap.size w.heap.size xs W0 hL (by omega) (by omega)) KpR.trans (KpR.put (by omega) (by omega)) (Below.refl _ _) (fun _ => rfl)
    (fun pre W => GAll pre ∧ Below W0.heap.size W0 W)
    (fun c pre W => ((c = .ret ∧ GBad pre) ∧ Boxed W (w.heap.size + 1) 27 (.int .i64 3)) ∧ Below w.heap.size w W)
    (OwnFrom.and (ownFrom_pure _ _) (ownFrom_below (Nat.le_refl _) (Nat.le_refl _)))
    (fun c => OwnFrom.and (OwnFrom.and (ownFrom_pure _ _) (Own.from (boxed_own _ _ _) _)) (ownFrom_below (Nat.le_refl _) (by omega)))
    ⟨(fun x hx => by cases hx), Below.refl _ _⟩
    (fun x a' W => ∃ Bx, W.heap[Bx]? = some (.cells #[.string x.1.1.nm, .int .i64 x.1.1.g, .slice x.1.1.a x.1.1.n x.1.1.c] 61) ∧ a' = { tmps := #[Value.agg #[.int .i64 gm, .slice ra rn rc, .slice sa sn sc, .slice fa sn fc, .slice na nn nc], .pointer (some ⟨w.heap.size, 0, none⟩), .pointer (some ⟨w.heap.size + 1, 0, none⟩), .int .i64 u, .int .i64 0, .pointer (some ⟨Bx, 0, none⟩), undef, .pointer (some ⟨w.heap.size, 4, none⟩), .slice na nn nc, .int .i64 nn, .bool false, .tuple #[.int .i64 u, .int .i64 0], .pointer (some ⟨w.heap.size, 2, none⟩), .slice sa sn sc, .tuple #[.int .i64 u, .int .i64 0], .int .i64 u, .int .i64 0, .int .i64 0, .bool false, undef, .pointer (some ⟨w.heap.size, 3, none⟩), .slice fa sn fc, .int .i64 sn, .pointer (some ⟨w.heap.size, 2, none⟩), .slice sa sn sc, .int .i64 sn, .bool false, .bool false, .pointer (some ⟨w.heap.size, 4, none⟩), .slice na nn nc, .bool true, .bool false, .bool false, Value.agg #[.int .i64 gm, .slice ra rn rc, .slice sa sn sc, .slice fa sn fc, .slice na nn nc], .func (.func 76) #[] #[.pointer (some ⟨w2.heap.size, 0, none⟩)], .agg #[.string x.1.1.nm, .int .i64 x.1.1.g, .slice x.1.1.a x.1.1.n x.1.1.c], undef, undef, undef, undef, undef, undef, undef, undef, undef, undef, undef, undef, undef, undef, undef, undef, undef, undef, undef, undef], defers := [] })
    (fun x a' _ X Y row hs hg hr => by obtain ⟨Bx, e1, e2⟩ := hs; exact ⟨Bx, cells_kept e1 hg (fun r e => (hr r e).2), e2⟩)
    ?assign ?body ?done ?stop
  case assign =>
    rintro l pre x W K ⟨hp, hB1⟩ hK
    unfold encRoot
    gi_wp2
    exact hK _ _ ((KeepsOthers.alloc _ _).from _) (KpR.alloc (by have := hB1.size; omega) (by have := hB1.size; omega) _) ⟨hp, hB1.alloc hB1.size _⟩ ⟨W.heap.size, World.alloc_heap_new _ _, rfl⟩
  case body =>
    rintro l pre x a' W hl ⟨rr, hrr⟩ ⟨hp, hB1⟩ ⟨Bx, hBx, rfl⟩ hlt
    obtain ⟨e0, e1, e2⟩ := three hBx
    have rW : Boxed W (w.heap.size + 1) 27 (.int .i64 0) := cells_below r3 hB1 (by omega)
    have cR := rW.cell
    have fR := rW.frozen
    have hgx : x.1.1.g = x.1.2.2.1 := x.2.2.1
    have HG : Hid (guestOK x.1.2.2.1 = guestOK x.1.1.g) := by show _ = _; rw [hgx]
    clear hgx
    by_cases h0 : x.1.1.g < 0
    · gi_wp2
      exact ⟨(KeepsOthers.setCell _ _ _).from _, ⟨⟨rfl, x, last_mem _ _, by rw [HG.out]; unfold guestOK; exact decide_eq_false (by omega)⟩, rW.set _⟩, (hb3.trans (hB1.mono hb3.size)).setCell (p := ⟨w.heap.size + 1, 0, none⟩) (by simp) _⟩
    · by_cases h1 : 16 < x.1.1.g
      · gi_wp2
        exact ⟨(KeepsOthers.setCell _ _ _).from _, ⟨⟨rfl, x, last_mem _ _, by rw [HG.out]; unfold guestOK; exact decide_eq_false (by omega)⟩, rW.set _⟩, (hb3.trans (hB1.mono hb3.size)).setCell (p := ⟨w.heap.size + 1, 0, none⟩) (by simp) _⟩
      · gi_wp2
        exact ⟨KeepsFrom.refl _ _, KpR.refl _ _ _, ⟨hp.snoc (by rw [HG.out]; unfold guestOK; exact decide_eq_true (by omega)), hB1⟩⟩
  case stop =>
    rintro D c pre W hD hpre ⟨⟨⟨rfl, x, hx, hy⟩, bR1⟩, hB1⟩ hK
    have HE : Hid (tailE L ((⟨#[]⟩, gm, r) :: S) = 3) := by
      show _ = _
      unfold tailE
      rw [if_pos]
      rw [← HxS.out, ← Bool.not_eq_true, List.all_eq_true]
      intro hall
      have := hall x.1.2 (List.mem_map.2 ⟨x, hpre.subset hx, rfl⟩)
      rw [hy] at this
      cases this
    gi_wp2
    refine ⟨by simp, .inl ⟨_, _, rfl, run_takeDeferred hK, ?_⟩⟩
    have hc5 := (boxed_put bR1 (D := D) (by omega) (.deferred none)).cell
    refine ⟨.int .i64 3, ?_, by rw [HE.out], below_put hB1 (by omega) _⟩
    simp [results, Try.f38, go_sem, hc5]
  case done =>
    rintro D ys W hD rfl ⟨hp, hB1⟩ hK
    have rW : Boxed W (w.heap.size + 1) 27 (.int .i64 0) := cells_below r3 hB1 (by omega)
    have mW := cells_below m3' hB1 (by omega)
    obtain ⟨c0, c1, c2, c3, c4⟩ := five mW
    have hbW := hb3.trans (hB1.mono hb3.size)
    have hsW := hs.below hbW
    have hDlt : D < W.heap.size := (Array.getElem?_eq_some_iff.1 hK).1
    have HA : Hid (((⟨#[]⟩, gm, r) :: S).all (fun s => guestOK s.2.1) = true) := by
      show _ = _
      rw [← HxS.out, List.all_eq_true]
      intro s hs
      obtain ⟨x, hx, rfl⟩ := List.mem_map.1 hs
      exact hp x hx
    have hKD : ∀ {W' : World}, Below W.heap.size W W' → W'.heap[D]? = some (.deferred (some [])) := fun h => (h.block D hDlt).trans hK
    cases hT : tabFit L with
    | false =>
      have HE : Hid (tailE L ((⟨#[]⟩, gm, r) :: S) = 1) := by
        show _ = _
        unfold tailE
        rw [if_neg (by rw [HA.out]; simp), if_pos hT]
      have hcall := tablesFit_any _ L W hsW
      rw [hT] at hcall
      gi_wp2_with (refine ⟨trivial, ?_⟩; gi_at_call 74; refine (callsIn_wide.2 hcall).mono ?_; rintro e w4 ⟨rfl, b4⟩; have r4 : Boxed w4 (w.heap.size + 1) 27 (.int .i64 0) := cells_below rW b4 rW.lt; have cR := r4.cell; have fR := r4.frozen)
      have hK' := (KeepsOthers.setCell w4 ⟨w.heap.size + 1, 0, none⟩ (.int .i64 1)).same D _ (hKD b4) rfl
      refine ⟨by simp, .inl ⟨_, _, rfl, run_takeDeferred hK', ?_⟩⟩
      have hc5 := (boxed_put (r4.set (.int .i64 1)) (D := D) (by omega) (.deferred none)).cell
      refine ⟨.int .i64 1, ?_, by rw [HE.out], below_put ((Below.on hbW b4).setCell (p := ⟨w.heap.size + 1, 0, none⟩) (by simp) _) (by omega) _⟩
      simp [results, Try.f38, go_sem, hc5]
    | true =>
      have hcall := tablesFit_any _ L W hsW
      rw [hT] at hcall
      gi_wp2_with (first
        | (refine ⟨trivial, ?_⟩; gi_at_call 74; refine (callsIn_wide.2 hcall).mono ?_; rintro e w4 ⟨rfl, b4⟩; have r4 : Boxed w4 (w.heap.size + 1) 27 (.int .i64 0) := cells_below rW b4 rW.lt; have m4 := cells_below mW b4 (Nat.lt_of_succ_lt rW.lt); obtain ⟨d0, d1, d2, d3, d4⟩ := five m4)
        | (refine ⟨trivial, ?_⟩; gi_at_call 40; refine (roots_in Fence.wide _ trivial rfl _ _ _ _ _ _).mono ?_; rintro e w3 ⟨rfl, rfl⟩))
      have hb4 := Below.on hbW b4
      have hBm4 : w.heap.size + 1 < w4.heap.size := r4.lt
      have m5 : (w4.alloc (.cells #[.int .i64 gm, .slice ra rn rc, .slice sa sn sc, .slice fa sn fc, .slice na nn nc] 26)).heap[w4.heap.size]? = some (.cells #[.int .i64 gm, .slice ra rn rc, .slice sa sn sc, .slice fa sn fc, .slice na nn nc] 26) := World.alloc_heap_new _ _
      have m5' := cells_alloc m4 (.cells #[.int .i64 gm, .slice ra rn rc, .slice sa sn sc, .slice fa sn fc, .slice na nn nc] 26)
      have r5 := r4.alloc (.cells #[.int .i64 gm, .slice ra rn rc, .slice sa sn sc, .slice fa sn fc, .slice na nn nc] 26)
      have hb5 : Below w.heap.size w (w4.alloc (.cells #[.int .i64 gm, .slice ra rn rc, .slice sa sn sc, .slice fa sn fc, .slice na nn nc] 26)) := hb4.alloc hb4.size _
      have hK5 : (w4.alloc (.cells #[.int .i64 gm, .slice ra rn rc, .slice sa sn sc, .slice fa sn fc, .slice na nn nc] 26)).heap[D]? = some (.deferred (some [])) := hKD (b4.alloc b4.size _)
      have hsz5 : (w4.alloc (.cells #[.int .i64 gm, .slice ra rn rc, .slice sa sn sc, .slice fa sn fc, .slice na nn nc] 26)).heap.size = w4.heap.size + 1 := by simp
      have hsz51 := Nat.le_of_eq hsz5
      have hsz52 := Nat.le_of_eq hsz5.symm
      clear hsz5
      obtain ⟨zs0, hL5, hzs0⟩ := rootsA_of hr hS hS3 hb5 m5
      obtain ⟨zs, hz1, hz2⟩ := rootsB_of zs0 (fun x hx => by
        have := HA.out
        rw [← hzs0, List.all_eq_true] at this
        exact this x.1.2 (List.mem_map.2 ⟨x, hx, rfl⟩))
      have hzs := hz2.trans hzs0
      rw [← hz1] at hL5
      obtain ⟨W5, hW5⟩ : ∃ W5, w4.alloc (.cells #[.int .i64 gm, .slice ra rn rc, .slice sa sn sc, .slice fa sn fc, .slice na nn nc] 26) = W5 := ⟨_, rfl⟩
      rw [hW5] at m5 m5' r5 hb5 hsz51 hsz52 hL5 hK5 ⊢
      have HzS : Hid (zs.map (fun x => x.1.2) = (⟨#[]⟩, gm, r) :: S) := hzs
      have hD5 : D < W5.heap.size := (Array.getElem?_eq_some_iff.1 hK5).1
      clear hz1 hz2 hzs0 hW5 hcall c0 c1 c2 c3 c4 d0 d1 d2 d3 d4 m4 r4 hzs hKD
      refine wpIn_rangeFunc_ownH rfl (by omega) (gf := 76) (lb := #[.pointer (some ⟨w4.heap.size, 0, none⟩)]) rfl trivial (enters_of Try.func76 (by kernel_rfl) rfl)
        (roots_stops (fun x : RootB w => x.1.1) Fence.wide 8 trivial rfl (by omega) w4.heap.size w.heap.size zs W5 hL5 (by omega) (by omega)) KpR.trans (KpR.put (by omega) (by omega)) (Below.refl _ _) (fun _ => rfl)
        (fun pre W => FAll L pre ∧ Below W5.heap.size W5 W)
        (fun c pre W => ((c = .ret ∧ FBad L pre) ∧ Boxed W (w.heap.size + 1) 27 (.int .i64 1)) ∧ (W.heap[D]? = some (.deferred (some [])) ∧ Below w.heap.size w W))
        (OwnFrom.and (ownFrom_pure _ _) (ownFrom_below (Nat.le_refl _) (Nat.le_refl _)))
        (fun c => OwnFrom.and (OwnFrom.and (ownFrom_pure _ _) (Own.from (boxed_own _ _ _) _)) (OwnFrom.and (fun _ X Y row hs hg hr => (hg.block D (Array.getElem?_eq_some_iff.1 hs).1 (fun e => by have := (hr D e.symm).1; omega)).trans hs) (ownFrom_below (Nat.le_refl _) (by omega))))
        ⟨(fun x hx => by cases hx), Below.refl _ _⟩
        (fun x a' W => ∃ Bx, W.heap[Bx]? = some (.cells #[.string x.1.1.nm, .int .i64 x.1.1.g, .slice x.1.1.a x.1.1.n x.1.1.c] 61) ∧ a' = { tmps := #[Value.agg #[.int .i64 gm, .slice ra rn rc, .slice sa sn sc, .slice fa sn fc, .slice na nn nc], .pointer (some ⟨w.heap.size, 0, none⟩), .pointer (some ⟨w.heap.size + 1, 0, none⟩), .int .i64 u, .int .i64 0, undef, .pointer (some ⟨Bx, 0, none⟩), .pointer (some ⟨w.heap.size, 4, none⟩), .slice na nn nc, .int .i64 nn, .bool false, .tuple #[.int .i64 u, .int .i64 0], .pointer (some ⟨w.heap.size, 2, none⟩), .slice sa sn sc, .tuple #[.int .i64 u, .int .i64 0], .int .i64 u, .int .i64 0, .int .i64 0, .bool false, undef, .pointer (some ⟨w.heap.size, 3, none⟩), .slice fa sn fc, .int .i64 sn, .pointer (some ⟨w.heap.size, 2, none⟩), .slice sa sn sc, .int .i64 sn, .bool false, .bool false, .pointer (some ⟨w.heap.size, 4, none⟩), .slice na nn nc, .bool true, .bool false, .bool false, Value.agg #[.int .i64 gm, .slice ra rn rc, .slice sa sn sc, .slice fa sn fc, .slice na nn nc], .func (.func 76) #[] #[.pointer (some ⟨w2.heap.size, 0, none⟩)], undef, undef, undef, undef, undef, undef, undef, undef, undef, .pointer (some ⟨w.heap.size, 2, none⟩), .slice sa sn sc, .bool true, .bool false, Value.agg #[.int .i64 gm, .slice ra rn rc, .slice sa sn sc, .slice fa sn fc, .slice na nn nc], .func (.func 76) #[] #[.pointer (some ⟨w4.heap.size, 0, none⟩)], .agg #[.string x.1.1.nm, .int .i64 x.1.1.g, .slice x.1.1.a x.1.1.n x.1.1.c], undef, undef, undef, undef, undef], defers := [] })
        (fun x a' _ X Y row hs hg hr => by obtain ⟨Bx, e1, e2⟩ := hs; exact ⟨Bx, cells_kept e1 hg (fun r e => (hr r e).2), e2⟩)
        ?assign2 ?body2 ?done2 ?stop2
      case assign2 =>
        rintro l pre x W K ⟨hp, hB1⟩ hK
        unfold encRoot
        gi_wp2
        exact hK _ _ ((KeepsOthers.alloc _ _).from _) (KpR.alloc (by have := hB1.size; omega) (by have := hB1.size; omega) _) ⟨hp, hB1.alloc hB1.size _⟩ ⟨W.heap.size, World.alloc_heap_new _ _, rfl⟩
      case body2 =>
        rintro l pre x a' W hl ⟨rr, hrr⟩ ⟨hp, hB1⟩ ⟨Bx, hBx, rfl⟩ hlt
        obtain ⟨e0, e1, e2⟩ := three hBx
        have rW : Boxed W (w.heap.size + 1) 27 (.int .i64 0) := cells_below r5 hB1 (by omega)
        have mW := cells_below m5' hB1 (by omega)
        obtain ⟨c0, c1, c2, c3, c4⟩ := five mW
        have hbW5 := hb5.trans (hB1.mono hb5.size)
        have hsx := hs.below hbW5
        have hrx := x.2.1.2.2.below hbW5
        have hKx : W.heap[D]? = some (.deferred (some [])) := (hB1.block D hD5).trans hK5
        have h1' : 1 ≤ 9 - 1 - 1 := by omega
        have hok := x.2.2
        · have hg : 0 ≤ x.1.2.2.1 ∧ x.1.2.2.1 ≤ 16 := by unfold guestOK at hok; simpa using hok
          have hgx : x.1.1.g = x.1.2.2.1 := x.2.1.2.1
          cases hF : rootFit L x.1.2.2.1 x.1.2.2.2 with
          | true =>
            have hcall := rootFits_is (nm := x.1.1.nm) hsx hE hg hrx hF
            rw [← hgx] at hcall
            clear hgx
            gi_wp2_with (refine ⟨trivial, ?_⟩; gi_at_call 75; refine (CallsIn.inRound l (callsIn_wide.2 hcall)).mono ?_; rintro e w6 ⟨rfl, b6⟩)
            exact ⟨keepsFrom_of_below b6, KpR.of_below b6 (by have := hB1.size; omega) (by have := hB1.size; omega), ⟨hp.snoc hF, hB1.trans (b6.mono hB1.size)⟩⟩
          | false =>
            have hcall := rootFits_is (nm := x.1.1.nm) hsx hE hg hrx hF
            rw [← hgx] at hcall
            clear hgx
            gi_wp2_with (refine ⟨trivial, ?_⟩; gi_at_call 75; refine (CallsIn.inRound l (callsIn_wide.2 hcall)).mono ?_; rintro e w6 ⟨rfl, b6⟩; have r6 : Boxed w6 (w.heap.size + 1) 27 (.int .i64 0) := cells_below rW b6 rW.lt; have cR := r6.cell; have fR := r6.frozen)
            exact ⟨(keepsFrom_of_below b6).trans ((KeepsOthers.setCell _ _ _).from _), ⟨⟨rfl, x, last_mem _ _, hF⟩, r6.set _⟩, (KeepsOthers.setCell _ _ _).same D _ ((b6.block D (Array.getElem?_eq_some_iff.1 hKx).1).trans hKx) rfl, (Below.on hbW5 b6).setCell (p := ⟨w.heap.size + 1, 0, none⟩) (by simp) _⟩
      case stop2 =>
        rintro D2 c pre W hD2 hpre ⟨⟨⟨rfl, x, hx, hy⟩, bR1⟩, hK1, hB2⟩ hK2
        have HE : Hid (tailE L ((⟨#[]⟩, gm, r) :: S) = 1) := by
          show _ = _
          unfold tailE
          rw [if_neg (by rw [HA.out]; simp), if_neg (by rw [hT]; simp), if_pos]
          rw [← HzS.out, ← Bool.not_eq_true, List.all_eq_true]
          intro hall
          have := hall x.1.2 (List.mem_map.2 ⟨x, hpre.subset hx, rfl⟩)
          rw [hy] at this
          cases this
        have hne : D ≠ D2 := by omega
        gi_wp2
        refine ⟨by simp, .inl ⟨_, _, rfl, run_takeDeferred hK2, ?_⟩⟩
        have hK1' : (W.putObj D2 (.deferred none)).heap[D]? = some (.deferred (some [])) := (World.putObj_heap_other hne).trans hK1
        refine ⟨by simp, .inl ⟨_, _, rfl, run_takeDeferred hK1', ?_⟩⟩
        have hc5 := (boxed_put (boxed_put bR1 (D := D2) (by omega) (.deferred none)) (D := D) (by omega) (.deferred none)).cell
        refine ⟨.int .i64 1, ?_, by rw [HE.out], below_put (below_put hB2 (by omega) _) (by omega) _⟩
        simp [results, Try.f38, go_sem, hc5]
      case done2 =>
        rintro D2 ys W hD2 rfl ⟨hp2, hB2⟩ hK2
        have HE : Hid (tailE L ((⟨#[]⟩, gm, r) :: S) = 0) := by
          show _ = _
          unfold tailE
          rw [if_neg (by rw [HA.out]; simp), if_neg (by rw [hT]; simp), if_neg]
          rw [Bool.not_eq_false, List.all_eq_true]
          intro s hs
          rw [← HzS.out] at hs
          obtain ⟨x, hx, rfl⟩ := List.mem_map.1 hs
          exact hp2 x hx
        have rW : Boxed W (w.heap.size + 1) 27 (.int .i64 0) := cells_below r5 hB2 (by omega)
        have cR := rW.cell
        have fR := rW.frozen
        have hbW6 := hb5.trans (hB2.mono hb5.size)
        have hK1 : W.heap[D]? = some (.deferred (some [])) := (hB2.block D hD5).trans hK5
        have hne : D ≠ D2 := by omega
        gi_wp2
        have hK2' := (KeepsOthers.setCell W ⟨w.heap.size + 1, 0, none⟩ (.int .i64 0)).same D2 _ hK2 rfl
        have hK1' := (KeepsOthers.setCell W ⟨w.heap.size + 1, 0, none⟩ (.int .i64 0)).same D _ hK1 rfl
        refine ⟨by simp, .inl ⟨_, _, rfl, run_takeDeferred hK2', ?_⟩⟩
        have hK1'' := (World.putObj_heap_other (o := .deferred none) hne).trans hK1'
        refine ⟨by simp, .inl ⟨_, _, rfl, run_takeDeferred hK1'', ?_⟩⟩
        have hc5 := (boxed_put (boxed_put (rW.set (.int .i64 0)) (D := D2) (by omega) (.deferred none)) (D := D) (by omega) (.deferred none)).cell
        refine ⟨.int .i64 0, ?_, by rw [HE.out], below_put (below_put (hbW6.setCell (p := ⟨w.heap.size + 1, 0, none⟩) (by simp) _) (by omega) _) (by omega) _⟩
        simp [results, Try.f38, go_sem, hc5]

theorem Img.parts {w : World} {v : Value} {m : ImgD} (h : Img w v m) : ∃ ra rc sa sc fa fc na nc, v = .agg #[.int .i64 m.guest, .slice ra m.root.length rc, .slice sa m.slots.length sc, .slice fa m.refs.length fc, .slice na m.snaps.length nc] ∧
    Sl w (.slice ra m.root.length rc) m.root ∧ Slots w (.slice sa m.slots.length sc) m.slots ∧ Sl w (.slice fa m.refs.length fc) m.refs ∧ Snaps w (.slice na m.snaps.length nc) m.snaps := by
  obtain ⟨rv, sv, fv, nv, rfl, h1, h2, h3, h4⟩ := h
  obtain ⟨ra, rc, rfl⟩ := h1.form
  obtain ⟨sa, sc, rfl⟩ := h2.form
  obtain ⟨fa, fc, rfl⟩ := h3.form
  obtain ⟨na, nc, rfl⟩ := h4.form
  exact ⟨ra, rc, sa, sc, fa, fc, na, nc, rfl, h1, h2, h3, h4⟩

theorem shape_is {w : World} {v : Value} {m : ImgD} (h : Img w v m) {E : Int} (hE : shapeE m = E) :
    Calls Try.prog 38 #[v] w fun r w' => r = .returned (.int .i64 E) ∧ Below w.heap.size w w' := by
  subst hE
  obtain ⟨ra, rc, sa, sc, fa, fc, na, nc, rfl, h1, h2, h3, h4⟩ := h.parts
  unfold shapeE
  by_cases hm : 3 < m.snaps.length
  · rw [if_pos hm]
    exact shape_many _ _ _ _ _ _ _ _ _ _ _ _ _ w hm
  rw [if_neg hm]
  by_cases hs : slotsE m.slots = 0
  · rw [if_neg (by simpa using hs)]
    by_cases hr : m.refs.length = m.slots.length
    · cases hn : namesOK m.snaps with
      | false =>
        rw [if_pos (.inr rfl)]
        rw [hr]
        exact shape_names _ _ _ _ _ _ _ _ _ _ _ _ m.slots m.snaps w (by omega) h2 hs h4 (by omega) hn
      | true =>
        rw [if_neg (by rintro (h | h); exact h hr; cases h)]
        rw [hr]
        exact shape_tail _ _ _ _ _ _ _ _ _ _ _ _ m.root m.slots m.snaps w (by omega) h1 h2 hs h4 (by omega) hn
    · rw [if_pos (.inl hr)]
      exact shape_refs _ _ _ _ _ _ _ _ _ _ _ _ _ m.slots w (by omega) h2 hs hr
  · rw [if_pos hs]
    exact shape_used _ _ _ _ _ _ _ _ _ _ _ _ _ m.slots _ w (by omega) h2 rfl (by simpa using hs)
end Go.Proofs.Ytehleeibgkpjmac
/- Contracts of the document's IsName and kindOf. -/
namespace Go.Proofs.Ytehleeibgkpjmac
open Go.RowKit Go.Shelf
set_option maxRecDepth 20000

/-- The kind of a slot's number; -1: there is none. -/
def kindN (L : List SlotD) (n : Int) : Int := if 1 ≤ n ∧ n < L.length then (L.getD n.toNat default).1 else -1

theorem kindOf_out (gm : Int) (ra : Option Addr) (rn rc : Nat) (sa : Option Addr) (sn sc : Nat) (fa : Option Addr) (fn fc : Nat) (na : Option Addr) (nn nc : Nat) (n : Int) (w : World) (hsn : sn ≤ 1000000) (hd : decide (1 ≤ n ∧ n ≤ (sn : Int) - 1) = false) :
    Calls Try.prog 80 #[.agg #[.int .i64 gm, .slice ra rn rc, .slice sa sn sc, .slice fa fn fc, .slice na nn nc], .int .i64 n] w fun r w' => r = .returned (.int .i64 (-1)) ∧ Below w.heap.size w w' := by
  have b0 : Below w.heap.size w (w.alloc (.cells #[.int .i64 gm, .slice ra rn rc, .slice sa sn sc, .slice fa fn fc, .slice na nn nc] 26)) := (Below.refl _ _).alloc (Nat.le_refl _) _
  have HD : Hid (decide (1 ≤ n ∧ n ≤ (sn : Int) - 1) = false) := hd
  clear hd
  go_enter Try.func80, Try.ntmps80
  go_wp2_with (go_at_call 46; refine (within_any _ _ _ _).mono ?_; rintro e w' ⟨rfl, hw⟩; subst hw; rw [HD.out])
  go_ret
  exact ⟨rfl, b0⟩
theorem kindOf_in (gm : Int) (ra : Option Addr) (rn rc : Nat) (sb so : Nat) (sn sc : Nat) (fa : Option Addr) (fn fc : Nat) (na : Option Addr) (nn nc : Nat) (n : Nat) (k : Int) (w : World) (hsn : sn ≤ 1000000) (hd : decide ((1 : Int) ≤ (n : Int) ∧ (n : Int) ≤ (sn : Int) - 1) = true) (hn : n < sn) (hsb : sb < w.heap.size) (hc : w.cell? ⟨sb, so + n * 3, none⟩ = some (.int .i64 k)) :
    Calls Try.prog 80 #[.agg #[.int .i64 gm, .slice ra rn rc, .slice (some ⟨sb, so, none⟩) sn sc, .slice fa fn fc, .slice na nn nc], .int .i64 n] w fun r w' => r = .returned (.int .i64 k) ∧ Below w.heap.size w w' := by
  have b0 : Below w.heap.size w (w.alloc (.cells #[.int .i64 gm, .slice ra rn rc, .slice (some ⟨sb, so, none⟩) sn sc, .slice fa fn fc, .slice na nn nc] 26)) := (Below.refl _ _).alloc (Nat.le_refl _) _
  have hc1 := (b0.cell (p := ⟨sb, so + n * 3, none⟩) hsb).trans hc
  have HD : Hid (decide ((1 : Int) ≤ (n : Int) ∧ (n : Int) ≤ (sn : Int) - 1) = true) := hd
  have hni : (n : Int) < (sn : Int) := by omega
  clear hd
  go_enter Try.func80, Try.ntmps80
  go_wp2_with (go_at_call 46; refine (within_any _ _ _ _).mono ?_; rintro e w' ⟨rfl, hw⟩; subst hw; rw [HD.out])
  go_ret
  exact ⟨rfl, b0⟩
theorem kindOf_is {w : World} {v : Value} {m : ImgD} (h : Img w v m) (hL : m.slots.length ≤ 1000000) (n : Int) {k : Int} (hk : kindN m.slots n = k) :
    Calls Try.prog 80 #[v, .int .i64 n] w fun r w' => r = .returned (.int .i64 k) ∧ Below w.heap.size w w' := by
  obtain ⟨ra, rc, sa, sc, fa, fc, na, nc, rfl, h1, h2, h3, h4⟩ := h.parts
  unfold kindN at hk
  by_cases hn : 1 ≤ n ∧ n < m.slots.length
  · rw [if_pos hn] at hk
    obtain ⟨j, rfl⟩ : ∃ j : Nat, n = j := ⟨n.toNat, by omega⟩
    have hj : j < m.slots.length := by omega
    obtain ⟨sb, so, sc', e, _, hsb, hcl⟩ := h2.open (by omega)
    simp at e
    obtain ⟨rfl, rfl⟩ := e
    obtain ⟨tv, c1, _⟩ := hcl j hj
    have e : m.slots.getD j default = m.slots[j] := by simp [List.getD, hj]
    rw [Int.toNat_natCast, e] at hk
    rw [hk] at c1
    exact kindOf_in m.guest ra _ rc sb so _ sc fa _ fc na _ nc j k w hL (decide_eq_true (by omega)) hj hsb c1
  · rw [if_neg hn] at hk
    subst hk
    exact kindOf_out m.guest ra _ rc sa _ sc fa _ fc na _ nc n w hL (decide_eq_false (by omega))

set_option maxHeartbeats 1000000 in
theorem isNameOf_any (s : ByteArray) (w : World) : Calls Try.prog 79 #[.string s] w fun r w' => r = .returned (.bool (isNm s)) ∧ w' = w := by
  by_cases hs : 1 ≤ s.size ∧ s.size ≤ 8
  · have HS : Hid (isNm s = s.data.toList.all isLetter) := by
      show _ = _
      unfold isNm
      rw [decide_eq_true hs]; rfl
    have HD : Hid (decide ((1 : Int) ≤ (s.size : Int) ∧ (s.size : Int) ≤ 8) = true) := decide_eq_true (by omega)
    have h8 := hs.2
    clear hs
    go_enter Try.func79, Try.ntmps79
    go_wp2_with (go_at_call 46; refine (within_any _ _ _ _).mono ?_; rintro e w' ⟨rfl, hw⟩; subst hw; rw [HD.out])
    go_loop [3] (fun i => ∃ k : Nat, k ≤ s.size ∧ i = .int .i64 k ∧ Hid (∀ j, (h : j < s.size) → j < k → isLetter s[j] = true)) (fun i => s.size - (intOf i).toNat)
    case atStart => exact ⟨0, Nat.zero_le _, rfl, fun j h hj => absurd hj (by omega)⟩
    case round =>
      obtain ⟨k, hk, rfl, HA⟩ := hrel
      by_cases hlk : k < s.size
      · have hki : (k : Int) < (s.size : Int) := by omega
        by_cases h1 : (s[k]'hlk).toNat < 97
        · have HB : Hid (isLetter s[k] = false) := by show _ = _; unfold isLetter; exact decide_eq_false (by omega)
          have h1i : ((s[k]'hlk).toNat : Int) < 97 := by omega
          go_wp2
          go_ret
          exact ⟨ret_boolE (by rw [HS.out, letters_bad hlk HB.out]), rfl⟩
        by_cases h2 : 122 < (s[k]'hlk).toNat
        · have HB : Hid (isLetter s[k] = false) := by show _ = _; unfold isLetter; exact decide_eq_false (by omega)
          have h2i : (122 : Int) < ((s[k]'hlk).toNat : Int) := by omega
          have h1i : ¬ ((s[k]'hlk).toNat : Int) < 97 := by omega
          go_wp2
          go_ret
          exact ⟨ret_boolE (by rw [HS.out, letters_bad hlk HB.out]), rfl⟩
        · have HG : Hid (isLetter s[k] = true) := by show _ = _; unfold isLetter; exact decide_eq_true (by omega)
          have h2i : ¬ (122 : Int) < ((s[k]'hlk).toNat : Int) := by omega
          have h1i : ¬ ((s[k]'hlk).toNat : Int) < 97 := by omega
          go_wp2
          go_round
          case rel => exact ⟨k + 1, by omega, by go_num, fun j h hj => by
            by_cases e : j = k
            · subst e; exact HG.out
            · exact HA.out j h (by omega)⟩
          case measure => simp [intOf]; omega
      · have e4 : k = s.size := by omega
        subst e4
        go_wp2
        go_ret
        exact ⟨ret_boolE (by rw [HS.out, letters_good (fun j hj => HA.out j hj hj)]), rfl⟩
  · have HS : Hid (isNm s = false) := by
      show _ = _
      unfold isNm
      rw [decide_eq_false hs]; rfl
    have HD : Hid (decide ((1 : Int) ≤ (s.size : Int) ∧ (s.size : Int) ≤ 8) = false) := decide_eq_false (by omega)
    clear hs
    go_enter Try.func79, Try.ntmps79
    go_wp2_with (go_at_call 46; refine (within_any _ _ _ _).mono ?_; rintro e w' ⟨rfl, hw⟩; subst hw; rw [HD.out])
    go_ret
    exact ⟨by rw [HS.out]; rfl, rfl⟩
end Go.Proofs.Ytehleeibgkpjmac
/- Counts, as data: what goes on while Roots are gone through; and the contract of countPages. -/
namespace Go.Proofs.Ytehleeibgkpjmac
open Go.RowKit
set_option maxRecDepth 20000

def inc (l : List Int) (k : Int) : List Int := l.set k.toNat (l.getD k.toNat 0 + 1)
def incE (l : List Int) (e : Int) : List Int := if e = 0 ∨ e = -1 then l else inc l e
def pagesC (l t : List Int) : List Int := t.foldl incE l
def stepC (L : List SlotD) (l : List Int) (k : Int) : List Int := if k = 0 then l else if (inc l k).getD k.toNat 0 = 1 then pagesC (inc l k) (tabOf L k) else inc l k
def Bnd (l : List Int) (B : Nat) : Prop := ∀ j, 0 ≤ l.getD j 0 ∧ l.getD j 0 ≤ (B : Int)

theorem inc_length (l : List Int) (k : Int) : (inc l k).length = l.length := by simp [inc]
theorem incE_length (l : List Int) (k : Int) : (incE l k).length = l.length := by unfold incE; split; rfl; exact inc_length l k
theorem pagesC_length (t : List Int) : ∀ l : List Int, (pagesC l t).length = l.length := by
  induction t with
  | nil => exact fun l => rfl
  | cons e r ih => exact fun l => by show (pagesC (incE l e) r).length = _; rw [ih, incE_length]
theorem stepC_length (L : List SlotD) (l : List Int) (k : Int) : (stepC L l k).length = l.length := by
  unfold stepC
  split
  · rfl
  · split
    · rw [pagesC_length, inc_length]
    · exact inc_length l k
theorem getD_set (l : List Int) (i j : Nat) (x : Int) : (l.set i x).getD j 0 = if i = j ∧ j < l.length then x else l.getD j 0 := by
  by_cases h : i = j
  · subst h
    by_cases hj : i < l.length
    · simp [List.getD, hj]
    · simp [List.getD, hj]
  · simp [List.getD, List.getElem?_set_ne h, h]
theorem Bnd.inc {l : List Int} {B : Nat} (h : Bnd l B) (k : Int) : Bnd (inc l k) (B + 1) := fun j => by
  unfold Go.Proofs.Ytehleeibgkpjmac.inc
  rw [getD_set]
  have h1 := h j
  have h2 := h k.toNat
  split <;> omega
theorem Bnd.mono {l : List Int} {B B' : Nat} (h : Bnd l B) (hB : B ≤ B') : Bnd l B' := fun j => by have := h j; omega
theorem Bnd.incE {l : List Int} {B : Nat} (h : Bnd l B) (k : Int) : Bnd (incE l k) (B + 1) := by
  unfold Go.Proofs.Ytehleeibgkpjmac.incE
  split
  · exact h.mono (by omega)
  · exact h.inc k
theorem Bnd.pagesC : ∀ {t l : List Int} {B : Nat}, Bnd l B → Bnd (pagesC l t) (B + t.length)
  | [], _, _, h => h
  | e :: r, l, B, h => by
    have := Bnd.pagesC (t := r) (h.incE e)
    exact this.mono (by simp; omega)
theorem Bnd.zero (n : Nat) : Bnd (List.replicate n 0) 0 := fun j => by
  by_cases h : j < n <;> simp [List.getD, h]

/-- The list l lies in block g, whole. -/
def LAt (W : World) (g : Nat) (l : List Int) : Prop := W.heap[g]? = some (.cells (l.map (Value.int .i64)).toArray 3)
theorem LAt.cell {W : World} {g : Nat} {l : List Int} (h : LAt W g l) {j : Nat} (hj : j < l.length) : W.cell? ⟨g, j, none⟩ = some (.int .i64 (l.getD j 0)) := by
  have h' : W.heap[g]? = some (.cells (l.map (Value.int .i64)).toArray 3) := h
  simp [World.cell?, h', List.getD, hj]
theorem LAt.frozen {W : World} {g : Nat} {l : List Int} (h : LAt W g l) (j : Nat) : W.frozen? ⟨g, j, none⟩ = false := by
  have h' : W.heap[g]? = some (.cells (l.map (Value.int .i64)).toArray 3) := h
  simp [World.frozen?, h']
theorem LAt.lt {W : World} {g : Nat} {l : List Int} (h : LAt W g l) : g < W.heap.size := (Array.getElem?_eq_some_iff.1 h).1
theorem LAt.set {W : World} {g : Nat} {l : List Int} (h : LAt W g l) (j : Nat) (x : Int) : LAt (W.setCell ⟨g, j, none⟩ (.int .i64 x)) g (l.set j x) := by
  obtain ⟨hlt, hk⟩ := Array.getElem?_eq_some_iff.1 h
  show (W.heap.modify g _)[g]? = _
  rw [Array.getElem?_eq_getElem (by rw [Array.size_modify]; exact hlt), Array.getElem_modify_self, hk]
  simp [List.map_set]

/-- Nothing but block g has turned. -/
structure Only (g : Nat) (W W' : World) : Prop where
  os : W'.os = W.os
  tape : W'.tape = W.tape
  output : W'.output = W.output
  size : W'.heap.size = W.heap.size
  block : ∀ k, k ≠ g → W'.heap[k]? = W.heap[k]?
theorem Only.refl (g : Nat) (W : World) : Only g W W := ⟨rfl, rfl, rfl, rfl, fun _ _ => rfl⟩
theorem Only.trans {g : Nat} {A B C : World} (h : Only g A B) (k : Only g B C) : Only g A C := ⟨k.os.trans h.os, k.tape.trans h.tape, k.output.trans h.output, k.size.trans h.size, fun j hj => (k.block j hj).trans (h.block j hj)⟩
theorem Only.set (g : Nat) (W : World) (j : Nat) (v : Value) : Only g W (W.setCell ⟨g, j, none⟩ v) := by
  have hb := fun n (h : n ≤ g) => (Below.refl n W).setCell (p := ⟨g, j, none⟩) h v
  refine ⟨(hb 0 (Nat.zero_le _)).os, (hb 0 (Nat.zero_le _)).tape, (hb 0 (Nat.zero_le _)).output, by show (W.heap.modify g _).size = _; simp, fun k hk => ?_⟩
  show (W.heap.modify g _)[k]? = _
  rw [Array.getElem?_modify, if_neg (fun e => hk e.symm)]
theorem Only.below {g n : Nat} {W W' : World} (h : Only g W W') (hn : n ≤ g) : Below n W W' := ⟨h.os, h.tape, h.output, Nat.le_of_eq h.size.symm, fun k hk => h.block k (by omega)⟩

set_option maxHeartbeats 1000000 in
theorem countPages_at (g n : Nat) (l : List Int) (ta : Option Addr) (tn tc : Nat) (xs : List Int) (B : Nat) (w w0 : World) (hl : l.length = n) (_hn : n ≤ 40) (hxn : xs.length = tn) (htn : tn ≤ 4) (hB : B ≤ 1000000) (hL : LAt w g l) (hbd : Bnd l B)
    (hb : Below w0.heap.size w0 w) (hg : w0.heap.size ≤ g) (ht : Sl w0 (.slice ta tn tc) xs) (hx : ∀ e ∈ xs, e = 0 ∨ e = -1 ∨ (1 ≤ e ∧ e < (n : Int))) :
    Calls Try.prog 41 #[.slice (some ⟨g, 0, none⟩) n n, .slice ta tn tc] w fun r w' => (∃ v, r = .returned v) ∧ LAt w' g (pagesC l xs) ∧ Only g w w' := by
  have hcl := ht.cells
  obtain ⟨_, _, _, hcc⟩ := hcl
  have HC : Hid (∀ j, j < tn → ∃ b off, ta = some ⟨b, off, none⟩ ∧ b < w0.heap.size ∧ w0.cell? ⟨b, off + j, none⟩ = some (.int .i64 (xs.getD j 0))) := hcc
  have HX : Hid (∀ e ∈ xs, e = 0 ∨ e = -1 ∨ (1 ≤ e ∧ e < (n : Int))) := hx
  have HT : Hid (xs.length = tn) := hxn
  have HLn : Hid (l.length = n) := hl
  have HB : Hid (Bnd l B) := hbd
  have HL : Hid (LAt w g l) := hL
  clear hcc hx hxn hl hbd hL ht
  go_enter Try.func41, Try.ntmps41
  go_wp2
  go_loopw [5, 8] (fun _ i wr => ∃ k : Nat, k ≤ tn ∧ i = .int .i64 k ∧ Hid (LAt wr g (pagesC l (xs.take k))) ∧ Only g w wr) (fun _ i _ => tn - (intOf i).toNat)
  case atStart => exact ⟨0, Nat.zero_le _, rfl, HL, Only.refl _ _⟩
  case round =>
    obtain ⟨k, hk, rfl, HLk, hon⟩ := hrel
    by_cases hlk : k < tn
    · obtain ⟨b, off, rfl, hlt, hcell⟩ := HC.out k hlk
      have hki : (k : Int) < (tn : Int) := by omega
      obtain ⟨x, hxx⟩ : ∃ x, x = xs.getD k 0 := ⟨_, rfl⟩
      rw [← hxx] at hcell
      have c1 : wr.cell? ⟨b, off + k, none⟩ = some (.int .i64 x) := ((hon.below hg).cell (p := ⟨b, off + k, none⟩) hlt).trans ((hb.cell (p := ⟨b, off + k, none⟩) hlt).trans hcell)
      have hkx : k < xs.length := by rw [HT.out]; exact hlk
      have hxm : x ∈ xs := by rw [hxx]; simp [List.getD, hkx]
      have HS : Hid (pagesC l (xs.take (k + 1)) = incE (pagesC l (xs.take k)) x) := by
        show _ = _
        have e : xs.getD k 0 = xs[k] := by simp [List.getD, hkx]
        unfold pagesC
        rw [List.take_add_one, List.getElem?_eq_getElem hkx, Option.toList_some, List.foldl_append, hxx, e]
        rfl
      have hcase := HX.out x hxm
      clear hxx hcell hkx hxm
      by_cases h0 : x = 0
      · have h0' : (x != 0) = false := by simp [h0]
        have H0 : Hid (x = 0) := h0
        clear h0 hcase
        go_wp2
        go_roundw
        case rel => exact ⟨k + 1, by omega, by go_num, by show LAt _ _ _; rw [HS.out]; unfold incE; rw [if_pos (.inl H0.out)]; exact HLk.out, hon⟩
        case measure => simp [intOf]; omega
      by_cases h1 : x = -1
      · have h0' : (x != 0) = true := by simp [h0]
        have h1' : (x != -1) = false := by simp [h1]
        have H0 : Hid (x = -1) := h1
        clear h0 h1 hcase
        go_wp2
        go_roundw
        case rel => exact ⟨k + 1, by omega, by go_num, by show LAt _ _ _; rw [HS.out]; unfold incE; rw [if_pos (.inr H0.out)]; exact HLk.out, hon⟩
        case measure => simp [intOf]; omega
      · have h0' : (x != 0) = true := by simp [h0]
        have h1' : (x != -1) = true := by simp [h1]
        obtain ⟨j, rfl⟩ : ∃ j : Nat, x = j := ⟨x.toNat, by omega⟩
        have hjn : j < n := by omega
        obtain ⟨q, hq⟩ : ∃ q, q = (pagesC l (xs.take k)).getD j 0 := ⟨_, rfl⟩
        have hlen : (pagesC l (xs.take k)).length = n := by rw [pagesC_length, HLn.out]
        have cq : wr.cell? ⟨g, j, none⟩ = some (.int .i64 q) := by rw [hq]; exact HLk.out.cell (by rw [hlen]; exact hjn)
        have fq : wr.frozen? ⟨g, j, none⟩ = false := HLk.out.frozen j
        have hqb : 0 ≤ q ∧ q ≤ 1000004 := by
          have := (HB.out.pagesC (t := xs.take k)) j
          have h4 : (xs.take k).length ≤ 4 := by have := HT.out; simp; omega
          rw [← hq] at this
          omega
        have HQ : Hid (LAt (wr.setCell ⟨g, j, none⟩ (.int .i64 (q + 1))) g (pagesC l (xs.take (k + 1)))) := by
          show LAt _ _ _
          rw [HS.out]
          unfold incE
          rw [if_neg (by rintro (h | h); exact h0 h; exact h1 h)]
          have := HLk.out.set j (q + 1)
          unfold inc
          rw [Int.toNat_natCast, ← hq]
          exact this
        have hji : (j : Int) < (n : Int) := by omega
        have hq1 := hqb.1
        have hq2 := hqb.2
        clear h0 h1 hcase hq hqb hlen
        go_wp2
        go_roundw
        case rel => exact ⟨k + 1, by omega, by go_num, HQ, hon.trans (Only.set g wr j _)⟩
        case measure => simp [intOf]; omega
    · have e4 : k = tn := by omega
      subst e4
      have HE : Hid (LAt wr g (pagesC l xs)) := by
        show LAt _ _ _
        have := HLk.out
        rwa [List.take_of_length_le (by rw [HT.out]; exact Nat.le_refl _)] at this
      go_wp2
      go_end0
      exact ⟨⟨_, rfl⟩, HE.out, hon⟩
end Go.Proofs.Ytehleeibgkpjmac
