/- Contracts of the document's FlatWrite, FlatResize. -/
import Derived.Test.YtehleeibgkpjmaaFlWrite
namespace Go.Proofs.Ytehleeibgkpjmaa
open Go.RowKit
set_option maxRecDepth 20000

/-- What 'append([]string{}, l...)' does, of one page at least. -/
theorem sapp_runs (b off m cap : Nat) (xs : List ByteArray) (w : World) (hm : xs.length = m) (h16 : m ≤ 16) (hlt : b < w.heap.size) (hc : ∀ j, j < m → w.cell? ⟨b, off + j, none⟩ = some (.string (xs.getD j ByteArray.empty))) (h1 : 0 < m) :
    ∃ g cap' W2, (Builtin.append_ #[22, 22] 22 #[.slice (some ⟨w.heap.size, 0, none⟩) 0 0, .slice (some ⟨b, off, none⟩) m cap]).run Try.prog (w.alloc (.cells #[] 9)) = .ok (.slice (some ⟨g, 0, none⟩) m cap') W2 ∧
      W2.ownsRow w.heap.size 9 1 (.slice (some ⟨g, 0, none⟩) m cap') m (xs.map Value.string) ∧ Below w.heap.size w W2 := by
  subst hm
  obtain ⟨i0, hi, hz0, hz1, hz2⟩ := info_parts Try.info9
  have hown : (w.alloc (.cells #[] 9)).ownsRow w.heap.size 9 1 (.slice (some ⟨w.heap.size, 0, none⟩) 0 0) 0 [] := World.ownsRow_made w #[] 0 (Nat.le_refl _) (by decide) (by simp)
  obtain ⟨v', w', hrun, hown', hgrow, _⟩ := run_append_own (P := Try.prog) (w.alloc (.cells #[] 9)) w.heap.size 22 22 9 i0 (.string ByteArray.empty) 1 16 Try.underlying22 hi hz0 hz1 hz2 rfl (by decide) _ 0 [] hown ⟨b, off, none⟩ xs.length cap (xs.map Value.string) (by simp)
    (by
      intro j u hj
      have hjn : j < xs.length := by have := (List.getElem?_eq_some_iff.1 hj).1; simpa using this
      have : u = .string (xs.getD j ByteArray.empty) := by
        simp [List.getD, hjn] at hj ⊢
        exact hj.symm
      rw [this, addr_add]
      exact (World.cell?_alloc_past _ _ _ hlt).trans (hc j hjn)) (strs_oneCell _) (by unfold maxLen; omega) (by omega) (by simp)
  rw [Nat.zero_add, List.nil_append] at hown'
  have hb : Below w.heap.size w w' := ((Below.refl _ w).alloc (Nat.le_refl _) (.cells #[] 9)).grown hgrow (by simp) (fun k hk => by simp [Value.ownBlock] at hk; omega)
  rcases hown'.2 with ⟨_, h'⟩ | ⟨g, cap', cur, rfl, _⟩
  · omega
  · exact ⟨g, cap', w', hrun, hown', hb⟩

theorem sapp_law {w : World} {ops : Array Oper} {rest : List Oper} {o : Oper} {a : Act} {Q : Exit → Act → World → Prop} (hgd : o.guard = none) (s x : Operand)
    (ho : o.op = .call { callee := .builtin .append, args := #[s, x], argTypes := #[22, 22] }) (b off m cap : Nat) (xs : List ByteArray) (hs : a.eval s = .slice (some ⟨w.heap.size, 0, none⟩) 0 0) (hx : a.eval x = .slice (some ⟨b, off, none⟩) m cap) (hT : o.type = 22)
    (hm : xs.length = m) (h16 : m ≤ 16) (hlt : b < w.heap.size) (hc : ∀ j, j < m → w.cell? ⟨b, off + j, none⟩ = some (.string (xs.getD j ByteArray.empty))) (h1 : 0 < m)
    (h : ∀ g cap' w', Hid (w'.ownsRow w.heap.size 9 1 (.slice (some ⟨g, 0, none⟩) m cap') m (xs.map Value.string)) → Below w.heap.size w w' → wpList Try.prog ops Q rest (a.put o.dst (.slice (some ⟨g, 0, none⟩) m cap')) w') :
    wpList Try.prog ops Q (o :: rest) a (w.alloc (.cells #[] 9)) := by
  obtain ⟨g, cap', W2, hrun, hown, hb⟩ := sapp_runs b off m cap xs w hm h16 hlt hc h1
  refine wpList_plain hgd fun K hK => ?_
  unfold Oper.wp
  simp [execOp, ho, resolve, invoke, builtin, hs, hx, hT, hrun, Result.andThen]
  exact hK _ _ (h g cap' W2 hown hb)

theorem fwriteOf_bad (v : Value) (xs : List ByteArray) (n E : Int) (page : ByteArray) (w : World) (h : Ss w v xs) (hE : atE xs n = E) (hne : (E != 0) = true) :
    Calls Try.prog 25 #[v, .int .i64 n, .string page] w (AnsS w [] E) := by
  obtain ⟨p, hp⟩ : ∃ p, freadA xs n = p := ⟨_, rfl⟩
  have HE : Hid (freadA xs n = p ∧ atE xs n = E) := ⟨hp, hE⟩
  clear hE hp
  go_enter Try.func25, Try.ntmps25
  go_wp2_with (go_at_call 24; refine (freadOf_is h HE.out.1 HE.out.2).mono ?_; rintro e w' ⟨rfl, hw⟩; subst hw)
  go_ret2
  exact AnsS.bad _ rfl
theorem fwriteOf_form (v : Value) (xs : List ByteArray) (n : Int) (page : ByteArray) (w : World) (h : Ss w v xs) (hE : atE xs n = 0) (hp4 : page.size ≠ 4) :
    Calls Try.prog 25 #[v, .int .i64 n, .string page] w (AnsS w [] 1) := by
  obtain ⟨p, hp⟩ : ∃ p, freadA xs n = p := ⟨_, rfl⟩
  have HE : Hid (freadA xs n = p ∧ atE xs n = 0) := ⟨hp, hE⟩
  have hd : ((page.size : Int) != 4) = true := by simp; omega
  clear hE hp
  go_enter Try.func25, Try.ntmps25
  go_wp2_with (go_at_call 24; refine (freadOf_is h HE.out.1 HE.out.2).mono ?_; rintro e w' ⟨rfl, hw⟩; subst hw)
  go_ret2
  exact AnsS.bad _ rfl
set_option maxHeartbeats 1000000 in
theorem fwriteOf_at (b off m cap k : Nat) (xs : List ByteArray) (page : ByteArray) (w : World) (h : Ss w (.slice (some ⟨b, off, none⟩) m cap) xs) (hm : xs.length = m) (h16 : m ≤ 16) (hk : k < m) (hlt : b < w.heap.size) (hc : ∀ j, j < m → w.cell? ⟨b, off + j, none⟩ = some (.string (xs.getD j ByteArray.empty))) (hE : atE xs (k : Int) = 0) (hp4 : page.size = 4) :
    Calls Try.prog 25 #[.slice (some ⟨b, off, none⟩) m cap, .int .i64 k, .string page] w (AnsS w (xs.set k page) 0) := by
  obtain ⟨p, hp⟩ : ∃ p, freadA xs (k : Int) = p := ⟨_, rfl⟩
  have HE : Hid (freadA xs (k : Int) = p ∧ atE xs (k : Int) = 0) := ⟨hp, hE⟩
  have HC : Hid (∀ j, j < m → w.cell? ⟨b, off + j, none⟩ = some (.string (xs.getD j ByteArray.empty))) := hc
  have HM : Hid (xs.length = m) := hm
  have hd : ((page.size : Int) != 4) = false := by simp [hp4]
  have hki : (k : Int) < (m : Int) := by omega
  clear hE hp hc hm hp4
  go_enter Try.func25, Try.ntmps25
  go_wp2_with (first | (go_at_call 24; refine (freadOf_is h HE.out.1 HE.out.2).mono ?_; rintro e w' ⟨rfl, hw⟩; subst hw) | (at_builtin; refine sapp_law (by rfl) _ _ (by rfl) b off m cap xs (by rfl) (by rfl) (by rfl) HM.out h16 hlt HC.out (by omega) ?_; intro g cap' w1 HO b1; obtain ⟨u, hcl⟩ := owns_cell HO.out k hk; have hfr := HO.out.frozenAt k))
  go_ret2
  exact AnsS.put HO.out b1 rfl
theorem fwriteOf_any (v : Value) (xs : List ByteArray) (n : Int) (page : ByteArray) (w : World) (h : Ss w v xs) :
    Calls Try.prog 25 #[v, .int .i64 n, .string page] w (AnsS w (fwA xs n page) (fwE xs n page)) := by
  by_cases hE : atE xs n = 0
  · by_cases hp : page.size = 4
    · have e : fwE xs n page = 0 := by unfold fwE; rw [if_pos hE, if_pos hp]
      rw [fwA, if_pos e, e]
      obtain ⟨hK, h0, hn⟩ := atE_parts hE
      obtain ⟨k, rfl⟩ := Int.eq_ofNat_of_zero_le h0
      obtain ⟨ao, cap, rfl⟩ := h.form
      obtain ⟨b, off, rfl, hlt, hcell⟩ := h.at (by omega)
      rw [Int.toNat_natCast]
      exact fwriteOf_at b off _ cap k xs page w h rfl (ckP_parts hK).1 (by omega) hlt hcell hE hp
    · have e : fwE xs n page = 1 := by unfold fwE; rw [if_pos hE, if_neg hp]
      rw [fwA, if_neg (by omega), e]
      exact fwriteOf_form v xs n page w h hE hp
  · have e : fwE xs n page = atE xs n := by unfold fwE; rw [if_neg hE]
    rw [fwA, if_neg (by rw [e]; exact hE), e]
    exact fwriteOf_bad v xs n _ page w h rfl (by simpa using hE)
theorem fwriteOf_is {v : Value} {xs : List ByteArray} {n : Int} {page : ByteArray} {w : World} (h : Ss w v xs) {ys : List ByteArray} {c : Int} (hy : fwA xs n page = ys) (hc : fwE xs n page = c) :
    Calls Try.prog 25 #[v, .int .i64 n, .string page] w (AnsS w ys c) := by subst hy; subst hc; exact fwriteOf_any v xs n page w h

theorem fresizeOf_bad (v : Value) (xs : List ByteArray) (g E : Int) (w : World) (h : Ss w v xs) (hE : ckP xs = E) (hne : (E != 0) = true) :
    Calls Try.prog 26 #[v, .int .i64 g] w (AnsS w [] E) := by
  have HE : Hid (ckP xs = E) := hE
  clear hE
  go_enter Try.func26, Try.ntmps26
  go_wp2_with (go_at_call 12; refine (checkPages_is h HE.out).mono ?_; rintro e w' ⟨rfl, hw⟩; subst hw)
  go_ret2
  exact AnsS.bad _ rfl
theorem fresizeOf_out (v : Value) (xs : List ByteArray) (g : Int) (w : World) (h : Ss w v xs) (hE : ckP xs = 0) (hd : decide (0 ≤ g ∧ g ≤ 16) = false) :
    Calls Try.prog 26 #[v, .int .i64 g] w (AnsS w [] 3) := by
  have HE : Hid (ckP xs = 0) := hE
  clear hE
  go_enter Try.func26, Try.ntmps26
  go_wp2_with (first | (go_at_call 12; refine (checkPages_is h HE.out).mono ?_; rintro e w' ⟨rfl, hw⟩; subst hw) | (go_at_call 39; refine (within_any _ _ _ _).mono ?_; rintro e w' ⟨rfl, hw⟩; subst hw; rw [hd]))
  go_ret2
  exact AnsS.bad _ rfl

/-- Page k of what is resized. -/
def frP (xs : List ByteArray) (k : Nat) : ByteArray := if k < xs.length then xs.getD k ByteArray.empty else Z4
theorem frR_map (xs : List ByteArray) (g : Nat) : frR xs g = (List.range g).map (frP xs) := by
  apply List.ext_getElem
  · simp [frR_length]
  · intro k h1 h2
    simp only [List.getElem_map, List.getElem_range, frR, frP]
    have hk : k < g := by simpa using h2
    by_cases h : k < xs.length
    · rw [List.getElem_append_left (by simp; omega), if_pos h]
      simp [List.getD, h]
    · rw [List.getElem_append_right (by simp; omega), if_neg h]
      simp
theorem frP_snoc (xs : List ByteArray) (k : Nat) : (List.range (k + 1)).map (frP xs) = (List.range k).map (frP xs) ++ [frP xs k] := by simp [List.range_succ]

set_option maxHeartbeats 1000000 in
theorem fresizeOf_at (b off m cap g : Nat) (xs : List ByteArray) (w : World) (h : Ss w (.slice (some ⟨b, off, none⟩) m cap) xs) (hm : xs.length = m) (hE : ckP xs = 0) (hg : g ≤ 16) (hlt : b < w.heap.size) (hc : ∀ j, j < m → w.cell? ⟨b, off + j, none⟩ = some (.string (xs.getD j ByteArray.empty))) (R : List ByteArray) (hR : frR xs g = R) :
    Calls Try.prog 26 #[.slice (some ⟨b, off, none⟩) m cap, .int .i64 g] w (AnsS w R 0) := by
  have HE : Hid (ckP xs = 0) := hE
  have HC : Hid (∀ j, j < m → w.cell? ⟨b, off + j, none⟩ = some (.string (xs.getD j ByteArray.empty))) := hc
  have HM : Hid (xs.length = m) := hm
  have HR : Hid (frR xs g = R) := hR
  have h16 : m ≤ 16 := by rw [← hm]; exact (ckP_parts hE).1
  have hd : decide ((0 : Int) ≤ (g : Int) ∧ (g : Int) ≤ 16) = true := by simp; omega
  clear hE hc hm hR
  go_enter Try.func26, Try.ntmps26
  go_wp2_with (first | (go_at_call 12; refine (checkPages_is h HE.out).mono ?_; rintro e w' ⟨rfl, hw⟩; subst hw) | (go_at_call 39; refine (within_any _ _ _ _).mono ?_; rintro e w' ⟨rfl, hw⟩; subst hw; rw [hd]))
  go_loopw [7, 8] (fun v i wr => ∃ k : Nat, k ≤ g ∧ i = .int .i64 k ∧ Hid (wr.ownsRow w'.heap.size 9 1 v ((List.range k).map (frP xs)).length (((List.range k).map (frP xs)).map Value.string)) ∧ Below w'.heap.size w' wr ∧ w'.heap.size ≤ wr.heap.size) (fun _ i _ => g - (intOf i).toNat)
  case atStart => exact ⟨0, by omega, rfl, World.ownsRow_nil _ _ _ _, Below.refl _ _, Nat.le_refl _⟩
  case round =>
    obtain ⟨k, hk, rfl, HO, hbel, hB⟩ := hrel
    by_cases hlk : k < g
    · have hki : (k : Int) < (g : Int) := by omega
      by_cases hkm : k < m
      · have hkmi : (k : Int) < (m : Int) := by omega
        obtain ⟨x, hx⟩ : ∃ x, xs.getD k ByteArray.empty = x := ⟨_, rfl⟩
        have hck := HC.out k hkm
        rw [hx] at hck
        have hck : wr.cell? ⟨b, off + k, none⟩ = some (.string x) := (hbel.cell (p := ⟨b, off + k, none⟩) hlt).trans hck
        have HX : Hid (frP xs k = x) := by show _ = _; rw [frP, if_pos (by rw [HM.out]; exact hkm)]; exact hx
        clear hx
        go_wp2_with (at_builtin; refine app_str (by rfl) _ _ (by rfl) _ ((List.range k).map (frP xs)) _ w'.heap.size (by rfl) (by rfl) HO.out (by simp; omega) hB hbel ?_; intro v' w1 HO' hbel' hB')
        go_roundw
        case rel => exact ⟨k + 1, by omega, by go_num, by rw [frP_snoc, HX.out]; exact HO', hbel', hB'⟩
        case measure => simp [intOf]; omega
      · have hkmi : ¬ (k : Int) < (m : Int) := by omega
        have HX : Hid (frP xs k = ⟨#[0, 0, 0, 0]⟩) := by show _ = _; rw [frP, if_neg (by rw [HM.out]; exact hkm)]; rfl
        go_wp2_with (first | (go_at_call 17; refine (zeroPage_any _).mono ?_; rintro e wz ⟨rfl, hw⟩; subst hw) | (at_builtin; refine app_str (by rfl) _ _ (by rfl) _ ((List.range k).map (frP xs)) _ w'.heap.size (by rfl) (by rfl) HO.out (by simp; omega) hB hbel ?_; intro v' w1 HO' hbel' hB'))
        go_roundw
        case rel => exact ⟨k + 1, by omega, by go_num, by rw [frP_snoc, HX.out]; exact HO', hbel', hB'⟩
        case measure => simp [intOf]; omega
    · have e4 : k = g := by omega
      subst e4
      have HE' : Hid ((List.range k).map (frP xs) = R) := by show _ = _; rw [← frR_map]; exact HR.out
      go_wp2
      go_ret2
      exact ⟨_, rfl, HE'.out ▸ Ss_of_owns HO.out, hbel⟩

set_option maxHeartbeats 1000000 in
theorem fresizeOf_0 (ao : Option Addr) (cap g : Nat) (w : World) (hg : g ≤ 16) (R : List ByteArray) (hR : frR [] g = R) (h : Ss w (.slice ao 0 cap) []) :
    Calls Try.prog 26 #[.slice ao 0 cap, .int .i64 g] w (AnsS w R 0) := by
  have HR : Hid (frR [] g = R) := hR
  have hd : decide ((0 : Int) ≤ (g : Int) ∧ (g : Int) ≤ 16) = true := by simp; omega
  clear hR
  go_enter Try.func26, Try.ntmps26
  go_wp2_with (first | (go_at_call 12; refine (checkPages_is h (c := 0) (by decide)).mono ?_; rintro e w' ⟨rfl, hw⟩; subst hw) | (go_at_call 39; refine (within_any _ _ _ _).mono ?_; rintro e w' ⟨rfl, hw⟩; subst hw; rw [hd]))
  go_loopw [7, 8] (fun v i wr => ∃ k : Nat, k ≤ g ∧ i = .int .i64 k ∧ Hid (wr.ownsRow w'.heap.size 9 1 v ((List.range k).map (frP [])).length (((List.range k).map (frP [])).map Value.string)) ∧ Below w'.heap.size w' wr ∧ w'.heap.size ≤ wr.heap.size) (fun _ i _ => g - (intOf i).toNat)
  case atStart => exact ⟨0, by omega, rfl, World.ownsRow_nil _ _ _ _, Below.refl _ _, Nat.le_refl _⟩
  case round =>
    obtain ⟨k, hk, rfl, HO, hbel, hB⟩ := hrel
    by_cases hlk : k < g
    · have hki : (k : Int) < (g : Int) := by omega
      have HX : Hid (frP [] k = ⟨#[0, 0, 0, 0]⟩) := by show _ = _; rw [frP, if_neg (by simp)]; rfl
      go_wp2_with (first | (go_at_call 17; refine (zeroPage_any _).mono ?_; rintro e wz ⟨rfl, hw⟩; subst hw) | (at_builtin; refine app_str (by rfl) _ _ (by rfl) _ ((List.range k).map (frP [])) _ w'.heap.size (by rfl) (by rfl) HO.out (by simp; omega) hB hbel ?_; intro v' w1 HO' hbel' hB'))
      go_roundw
      case rel => exact ⟨k + 1, by omega, by go_num, by rw [frP_snoc, HX.out]; exact HO', hbel', hB'⟩
      case measure => simp [intOf]; omega
    · have e4 : k = g := by omega
      subst e4
      have HE' : Hid ((List.range k).map (frP []) = R) := by show _ = _; rw [← frR_map]; exact HR.out
      go_wp2
      go_ret2
      exact ⟨_, rfl, HE'.out ▸ Ss_of_owns HO.out, hbel⟩

theorem fresizeOf_any (v : Value) (xs : List ByteArray) (g : Int) (w : World) (h : Ss w v xs) :
    Calls Try.prog 26 #[v, .int .i64 g] w (AnsS w (frA xs g) (frE xs g)) := by
  by_cases hE : ckP xs = 0
  · by_cases hg : 0 ≤ g ∧ g ≤ 16
    · have e : frE xs g = 0 := by unfold frE; rw [if_pos hE, if_pos hg]
      rw [frA, if_pos e, e]
      obtain ⟨g, rfl⟩ := Int.eq_ofNat_of_zero_le hg.1
      rw [Int.toNat_natCast]
      obtain ⟨ao, cap, rfl⟩ := h.form
      by_cases h0 : xs.length = 0
      · have e : xs = [] := List.eq_nil_of_length_eq_zero h0
        subst e
        exact fresizeOf_0 ao cap g w (by omega) _ rfl h
      · obtain ⟨b, off, rfl, hlt, hcell⟩ := h.at (by omega)
        exact fresizeOf_at b off _ cap g xs w h rfl hE (by omega) hlt hcell _ rfl
    · have e : frE xs g = 3 := by unfold frE; rw [if_pos hE, if_neg hg]
      rw [frA, if_neg (by omega), e]
      exact fresizeOf_out v xs g w h hE (by simp; omega)
  · have e : frE xs g = ckP xs := by unfold frE; rw [if_neg hE]
    rw [frA, if_neg (by rw [e]; exact hE), e]
    exact fresizeOf_bad v xs g _ w h rfl (by simpa using hE)
theorem fresizeOf_is {v : Value} {xs : List ByteArray} {g : Int} {w : World} (h : Ss w v xs) {ys : List ByteArray} {c : Int} (hy : frA xs g = ys) (hc : frE xs g = c) :
    Calls Try.prog 26 #[v, .int .i64 g] w (AnsS w ys c) := by subst hy; subst hc; exact fresizeOf_any v xs g w h
end Go.Proofs.Ytehleeibgkpjmaa
