/- Texts joined: RBegun, RdB, RdC, FlFirst, PgSplit, FlOps, RWalk, FlWrite. -/
import Derived.Test.YtehleeibgkpjmadWritesTrueJ11
import Derived.Deep.AppendLies
import Derived.Test.YtehleeibgkpjmadWritesTrueJ5
import Derived.Laws.CopyOwn
import Derived.Deep.OwnRows
import Derived.Test.YtehleeibgkpjmadWritesTrueJ1
/- Contract of readsBegun: it answers true. -/
namespace Go.Proofs.Ytehleeibgkpjmad
open Go.RowKit Go.Shelf
set_option maxRecDepth 20000

theorem pD_look1 : lookE pD 1 = 0 := by decide +kernel
theorem pD_read4 : readV pD 4 = ⟨#[98, 98, 98, 98]⟩ := by decide +kernel
theorem pD_read1 : readV pD 1 = ⟨#[0, 0, 0, 0]⟩ := by decide +kernel
theorem pD_all : allV pD = [⟨#[97, 97, 97, 97]⟩, ⟨#[0, 0, 0, 0]⟩, ⟨#[0, 0, 0, 0]⟩, ⟨#[97, 97, 97, 97]⟩, ⟨#[98, 98, 98, 98]⟩, ⟨#[0, 0, 0, 0]⟩] := by decide +kernel
theorem pD_pastE : pastE pD ⟨#[111, 108, 100]⟩ = 0 := by decide +kernel
theorem pD_pastV : pastV pD ⟨#[111, 108, 100]⟩ = [⟨#[97, 97, 97, 97]⟩, ⟨#[0, 0, 0, 0]⟩, ⟨#[0, 0, 0, 0]⟩, ⟨#[97, 97, 97, 97]⟩] := by decide +kernel
theorem pD_pastN : pastE pD ⟨#[110, 101, 119]⟩ = 5 := by decide +kernel

end Go.Proofs.Ytehleeibgkpjmad
/- Contracts of the document's pageOf, ReadOf, AllOf, snapAt, PastOf. -/
namespace Go.Proofs.Ytehleeibgkpjmad
open Go.RowKit Go.Shelf
theorem allP_snoc (m : ImgD) (root : List Int) (k : Nat) : allP m root (k + 1) = allP m root k ++ [pageV m.slots (lookV m root k)] := by simp [allP, List.range_succ]
set_option maxHeartbeats 1000000 in
theorem snapAt_at (gm : Int) (ra : Option Addr) (rn rc : Nat) (sa : Option Addr) (sn sc : Nat) (fa : Option Addr) (fn fc : Nat) (na : Option Addr) (nn nc : Nat) (S : List SnapD) (nm : ByteArray) (w : World) (hN : Snaps w (.slice na nn nc) S) (hnn : S.length = nn) (hn3 : nn ≤ 1000) (i : Int) (hi : ixOf (snapIx S nm) = i) :
    Calls Try.prog 61 #[.agg #[.int .i64 gm, .slice ra rn rc, .slice sa sn sc, .slice fa fn fc, .slice na nn nc], .string nm] w fun r w' => r = .returned (.int .i64 i) ∧ Below w.heap.size w w' := by
  have b0 : Below w.heap.size w (w.alloc (.cells #[.int .i64 gm, .slice ra rn rc, .slice sa sn sc, .slice fa fn fc, .slice na nn nc] 26)) := (Below.refl _ _).alloc (Nat.le_refl _) _
  have m0 : (w.alloc (.cells #[.int .i64 gm, .slice ra rn rc, .slice sa sn sc, .slice fa fn fc, .slice na nn nc] 26)).heap[w.heap.size]? = some (.cells #[.int .i64 gm, .slice ra rn rc, .slice sa sn sc, .slice fa fn fc, .slice na nn nc] 26) := World.alloc_heap_new _ _
  have z0 : w.heap.size < (w.alloc (.cells #[.int .i64 gm, .slice ra rn rc, .slice sa sn sc, .slice fa fn fc, .slice na nn nc] 26)).heap.size := by simp
  have H1 : Hid (Snaps w (.slice na nn nc) S ∧ S.length = nn ∧ ixOf (snapIx S nm) = i) := ⟨hN, hnn, hi⟩
  obtain ⟨c0, c1, c2, c3, c4⟩ := five m0
  clear hN hnn hi
  go_enter Try.func61, Try.ntmps61
  go_wp2_with fail
  go_loopw [5] (fun i wq => ∃ k : Nat, k ≤ nn ∧ i = .int .i64 k ∧ Hid (∀ j, (h : j < S.length) → j < k → (S[j].1.toList == nm.toList) = false) ∧ wq = (w.alloc (.cells #[.int .i64 gm, .slice ra rn rc, .slice sa sn sc, .slice fa fn fc, .slice na nn nc] 26))) (fun i _ => nn - (intOf i).toNat)
  case atStart => exact ⟨0, Nat.zero_le _, rfl, fun j h hj => absurd hj (by omega), rfl⟩
  case round =>
    obtain ⟨k, hk, rfl, HA, hw⟩ := hrel
    subst hw
    by_cases hlk : k < nn
    · have hkL : k < S.length := by rw [H1.out.2.1]; exact hlk
      obtain ⟨b, off, rfl, hlt, hS⟩ := H1.out.1.at k hkL
      have hki : (k : Int) < (nn : Int) := by omega
      obtain ⟨s, hs⟩ : ∃ s, s = S[k] := ⟨_, rfl⟩
      obtain ⟨kk, dd, tt⟩ := s
      rw [← hs] at hS
      obtain ⟨tv, s1, _⟩ := hS
      have HX : Hid (S[k] = (kk, dd, tt)) := hs.symm
      have s1 := (b0.cell (p := ⟨b, off + k * 3, none⟩) hlt).trans s1
      clear hs
      cases hq : kk.toList == nm.toList with
      | true =>
        go_wp2_with fail
        go_ret
        exact ⟨by rw [← H1.out.2.2]; unfold snapIx; rw [find_hit (p := fun s => s.1.toList == nm.toList) hkL (by rw [HX.out]; exact hq) HA.out]; rfl, b0⟩
      | false =>
        go_wp2_with fail
        go_roundw
        case rel => exact ⟨k + 1, by omega, by go_num, fun j h hj => by
          by_cases e : j = k
          · subst e; rw [HX.out]; exact hq
          · exact HA.out j h (by omega), trivial⟩
        case measure => simp [intOf]; omega
    · have e4 : k = nn := by omega
      subst e4
      go_wp2_with fail
      go_ret
      exact ⟨by rw [← H1.out.2.2]; unfold snapIx; rw [find_none (p := fun s => s.1.toList == nm.toList) (fun j hj => HA.out j hj (by rw [H1.out.2.1] at hj; exact hj))]; rfl, b0⟩
theorem snapAt_is {w : World} {v : Value} {m : ImgD} (h : Img w v m) (nm : ByteArray) (hn : m.snaps.length ≤ 1000) {i : Int} (hi : ixOf (snapIx m.snaps nm) = i) :
    Calls Try.prog 61 #[v, .string nm] w fun r w' => r = .returned (.int .i64 i) ∧ Below w.heap.size w w' := by
  obtain ⟨ra, rc, sa, sc, fa, fc, na, nc, rfl, h1, h2, h3, h4⟩ := h.parts
  exact snapAt_at m.guest ra _ rc sa _ sc fa _ fc na _ nc m.snaps nm w h4 rfl hn i hi
end Go.Proofs.Ytehleeibgkpjmad
/- Contract of the document's PastOf. -/
namespace Go.Proofs.Ytehleeibgkpjmad
open Go.RowKit Go.Shelf
set_option maxRecDepth 20000

theorem app_step {w0 w : World} {ops : Array Oper} {o : Oper} {a : Act} {K : Act → World → Prop} {Q : Exit → Act → World → Prop} {E : Prop} (hgd : o.guard = none) (s x : Operand)
    (ho : o.op = .call { callee := .builtin .append, args := #[s, x], argTypes := #[34, 34] }) (v : Value) (xs : List ByteArray) (y : ByteArray) (B : Nat) (hs : a.eval s = v) (hx : a.eval x = .slice (some ⟨w.heap.size, 0, none⟩) 1 1)
    (hown : w.ownsRow B 9 1 v xs.length (xs.map Value.string)) (hl : xs.length ≤ 1000) (hB : B ≤ w.heap.size) (hbel : Below B w0 w)
    (h : ∀ v' w', Hid (w'.ownsRow B 9 1 v' (xs ++ [y]).length ((xs ++ [y]).map Value.string)) → Below B w0 w' → B ≤ w'.heap.size → K (a.put o.dst v') w') :
    if Region.wanted o (yielded ops a.tmps) = true then Oper.wp Try.prog o a (w.alloc (.cells #[.string y] 9)) K Q else E := by
  obtain ⟨i0, hi, hz0, hz1, hz2⟩ := info_parts Try.info9
  refine step_append_lies (w.alloc (.cells #[.string y] 9)) hgd s x 34 ho B 9 i0 (.string ByteArray.empty) 1 16 Try.underlying34 hi hz0 hz1 hz2 rfl (by decide) v xs.length _ hs (hown.alloc _) ⟨w.heap.size, 0, none⟩ 1 1 [.string y] hx rfl (one_new w y) (by intro u hu; simp at hu; subst hu; rfl) (by decide) (by unfold maxLen; omega) (by omega) (by simp; omega) _ rfl ?_
  intro g cap w' hown' hgrow _ _
  have hz : w.heap.size ≤ w'.heap.size := Nat.le_trans (by simp) hgrow.size
  refine h _ w' ?_ ((hbel.alloc hB _).grown hgrow (by simp; omega) ?_) (Nat.le_trans hB hz)
  · show w'.ownsRow _ _ _ _ _ _
    rw [List.map_append, List.length_append]; exact hown'
  · intro k hk
    exact (hown.lt k hk).1

end Go.Proofs.Ytehleeibgkpjmad
/- Contracts of checkAt, firstPages, Read, Write and Resize. -/
namespace Go.Proofs.Ytehleeibgkpjmad
open Go.RowKit
set_option maxRecDepth 20000

theorem Try.size9 : (Try.prog.info? 9).map (·.size) = some 1 := by kernel_rfl
theorem strs_oneCell (ss : List ByteArray) : ∀ u ∈ ss.map Value.string, u.oneCell' = true := by
  intro u hu
  obtain ⟨s, _, rfl⟩ := List.mem_map.1 hu
  rfl

/-- What 'copy(out, l)' does, out just made of n strings. -/
theorem scopy_runs (ao : Option Addr) (n cap : Nat) (xs : List ByteArray) (w : World) (h : Ss w (.slice ao xs.length cap) xs) :
    ∃ W2, (Builtin.copy_ #[34, 34] 3 #[.slice (some ⟨w.heap.size, 0, none⟩) n n, .slice ao xs.length cap]).run Try.prog (w.alloc (.cells (madeCells #[.string ByteArray.empty] n) 9)) = .ok (.int .i64 (min xs.length n : Nat)) W2 ∧
      W2.heap[w.heap.size]? = some (.cells ((rowF xs (min xs.length n) n (min xs.length n)).map Value.string).toArray 9 (0, 0)) ∧ Below w.heap.size w W2 := by
  have hg := heap_alloc_new w (.cells (madeCells #[.string ByteArray.empty] n) 9)
  have hrow : (rowF xs (min xs.length n) n (min xs.length n)).map Value.string = (xs.take (min xs.length n)).map Value.string ++ List.replicate (n - min xs.length n) (Value.string ByteArray.empty) := by
    unfold rowF; simp
  have b0 : Below w.heap.size w (w.alloc (.cells (madeCells #[.string ByteArray.empty] n) 9)) := (Below.refl _ _).alloc (Nat.le_refl _) _
  by_cases h0 : min xs.length n = 0
  · have hrun := run_copy_none (P := Try.prog) (w.alloc (.cells (madeCells #[.string ByteArray.empty] n) 9)) 34 34 3 9 (some ⟨w.heap.size, 0, none⟩) ao n n xs.length cap Try.underlying34 Try.size9 h0
    refine ⟨_, hrun.trans (by rw [h0]; rfl), ?_, b0⟩
    rw [hg, hrow, h0]
    congr 2
    apply Array.ext'
    rw [toList_madeCells_one]
    simp
  · obtain ⟨b, off, rfl, hlt, hcell⟩ := h.at (by omega)
    obtain ⟨X, hX⟩ : ∃ X, X = (xs.take (min xs.length n)).map Value.string := ⟨_, rfl⟩
    have hXl : X.length = min xs.length n := by rw [hX]; simp
    have hsrc : ∀ j v, X[j]? = some v → (w.alloc (.cells (madeCells #[.string ByteArray.empty] n) 9)).cell? ((⟨b, off, none⟩ : Addr).add j) = some v := by
      intro j v hj
      have hjn : j < min xs.length n := by have := (List.getElem?_eq_some_iff.1 hj).1; rw [hXl] at this; exact this
      have hjx : j < xs.length := by omega
      rw [hX, List.getElem?_map, List.getElem?_take, if_pos hjn] at hj
      have e : v = .string (xs.getD j ByteArray.empty) := by
        simp [List.getD, hjx] at hj ⊢
        exact hj.symm
      rw [e, addr_add]
      exact (World.cell?_alloc_past _ _ _ hlt).trans (hcell j hjx)
    have hrun := run_copy_row (P := Try.prog) _ 34 34 3 9 w.heap.size 0 n n ⟨b, off, none⟩ xs.length cap _ 9 X Try.underlying34 Try.size9 hg (by rw [hXl]) hsrc (by rw [hXl, size_madeCells]; omega) (by rw [hX]; exact strs_oneCell _)
    refine ⟨_, hrun.trans (by rw [hXl]; rfl), ?_, below_setRow b0 (Nat.le_refl _) _⟩
    rw [setRow_heap _ _ _ _ _ _ hg, hrow, toList_madeCells_one, ← hX]
    simp

set_option maxHeartbeats 1000000 in
theorem firstPages_at (ao : Option Addr) (n m cap : Nat) (xs : List ByteArray) (w : World) (hm : xs.length = m) (h16 : m ≤ 16) (hn : n ≤ 16) (h : Ss w (.slice ao m cap) xs) :
    Calls Try.prog 46 #[.slice ao m cap, .int .i64 n] w fun r w' => ∃ g cap', r = .returned (.slice (some ⟨g, 0, none⟩) n cap') ∧ w'.ownsRow w.heap.size 9 1 (.slice (some ⟨g, 0, none⟩) n cap') n ((frR xs n).map Value.string) ∧ Below w.heap.size w w' := by
  subst hm
  obtain ⟨W2, hcp, hg2, hB2⟩ := scopy_runs ao n cap xs w h
  obtain ⟨c, hc⟩ : ∃ c, min xs.length n = c := ⟨_, rfl⟩
  have hc1 : c ≤ xs.length := by omega
  have hc2 : c ≤ n := by omega
  have HF : Hid (rowF xs c n n = frR xs n) := by show _ = _; rw [← hc]; exact rowF_end
  rw [hc] at hcp hg2
  have HG2 : Hid (W2.heap[w.heap.size]? = some (.cells ((rowF xs c n c).map Value.string).toArray 9 (0, 0))) := hg2
  have hmk := run_make_row' (P := Try.prog) 34 9 (.string ByteArray.empty) 16 Try.underlying34 Try.info9 rfl .i64 .i64 n (by omega) (by omega)
  have hz2 : w.heap.size < W2.heap.size := (Array.getElem?_eq_some_iff.1 hg2).1
  clear hg2 hc
  go_enter Try.func46, Try.ntmps46
  go_wp2
  clear hcp
  go_loopw [6] (fun i wr => ∃ k : Nat, c ≤ k ∧ k ≤ n ∧ i = .int .i64 k ∧ Hid (wr.heap[w.heap.size]? = some (.cells ((rowF xs c n k).map Value.string).toArray 9 (0, 0))) ∧ Below w.heap.size w wr ∧ w.heap.size < wr.heap.size) (fun i _ => n - (intOf i).toNat)
  case atStart => exact ⟨c, Nat.le_refl _, hc2, rfl, HG2, hB2, hz2⟩
  case round =>
    obtain ⟨k, hk1, hk, rfl, HG, hbel, hz⟩ := hrel
    by_cases hlt : k < n
    · have hki : (k : Int) < (n : Int) := by omega
      go_wp2_with (go_at_call 80; refine (zero_any _).mono ?_; rintro e w1 ⟨rfl, b1⟩; have HG1 : Hid (w1.heap[w.heap.size]? = some (.cells ((rowF xs c n k).map Value.string).toArray 9 (0, 0))) := (b1.block _ hz).trans HG.out; have hfr : w1.frozen? ⟨w.heap.size, k, none⟩ = false := frozen_of_row _ _ _ _ _ HG1.out; obtain ⟨u, hcl⟩ : ∃ u, w1.cell? ⟨w.heap.size, k, none⟩ = some u := row_cell HG1.out (by rw [rowF_length hc1 hk1 hk]; exact hlt))
      go_roundw
      case rel => exact ⟨k + 1, by omega, by omega, by go_num, by
        show _ = _
        rw [heap_setCell_same _ _ _ _ _ _ HG1.out, ← rowF_step hc1 hk1 hlt, List.map_set, List.setIfInBounds_toArray], (Below.on'' hbel b1 (Nat.le_of_lt hz)).setCell (Nat.le_refl _) _, by
        have := b1.size
        simp [World.setCell]; omega⟩
      case measure => simp [intOf]; omega
    · have e4 : k = n := by omega
      subst e4
      have HG' : Hid (wr.heap[w.heap.size]? = some (.cells ((frR xs k).map Value.string).toArray 9 (0, 0))) := by rw [← HF.out]; exact HG
      go_wp2
      go_ret
      exact ⟨w.heap.size, k, rfl, ⟨by simp [frR_length], .inr ⟨w.heap.size, k, _, rfl, Nat.le_refl _, HG'.out, Nat.le_refl _, by unfold maxLen; omega, by simp [frR_length], by rw [List.take_of_length_le (by simp [frR_length])]⟩⟩, hbel⟩

theorem firstPages_any (v : Value) (xs : List ByteArray) (g : Int) (w : World) (h : Ss w v xs) (h16 : xs.length ≤ 16) (h0 : 0 ≤ g) (hg : g ≤ 16) (n : Nat) (hn : g.toNat = n) :
    Calls Try.prog 46 #[v, .int .i64 g] w fun r w' => ∃ b cap', r = .returned (.slice (some ⟨b, 0, none⟩) n cap') ∧ Hid (w'.ownsRow w.heap.size 9 1 (.slice (some ⟨b, 0, none⟩) n cap') n ((frR xs n).map Value.string)) ∧ Below w.heap.size w w' := by
  obtain ⟨ao, cap, rfl⟩ := h.form
  obtain ⟨g, rfl⟩ := Int.eq_ofNat_of_zero_le h0
  rw [Int.toNat_natCast] at hn
  subst hn
  exact firstPages_at ao g _ cap xs w rfl h16 (by omega) h
end Go.Proofs.Ytehleeibgkpjmad
/- Contracts of Split and of the document's SplitOf: the same pages. -/
namespace Go.Proofs.Ytehleeibgkpjmad
open Go.RowKit
set_option maxRecDepth 20000

/-- What is answered: pages, an error; new memory. -/
def AnsS (w : World) (xs : List ByteArray) (err : Int) (r : Ending) (w' : World) : Prop :=
  ∃ v', r = .returned (.tuple #[v', .int .i64 err]) ∧ Ss w' v' xs ∧ Below w.heap.size w w'
theorem AnsS.bad (w : World) {xs : List ByteArray} {err : Int} (hx : xs = []) : AnsS w xs err (.returned (.tuple #[.slice none 0 0, .int .i64 err])) w :=
  ⟨_, rfl, hx ▸ Ss.nil w, Below.refl _ _⟩

theorem zeros_int (i : Int) (w : World) (h0 : 0 ≤ i) (h4 : i ≤ 4) : Calls Try.prog 105 #[.int .i64 i] w fun r w' => (∃ z : ByteArray, r = .returned (.string z) ∧ (z.size : Int) ≤ 4 ∧ Hid (z = ofBytes (List.replicate i.toNat 0))) ∧ Below w.heap.size w w' := by
  obtain ⟨n, rfl⟩ := Int.eq_ofNat_of_zero_le h0
  refine (zeros_any n w (by omega)).mono fun e w' h => ⟨⟨_, h.1, ?_, by rw [Int.toNat_natCast]; rfl⟩, h.2⟩
  rw [← bytes_size, bytes_of]
  simp; omega

end Go.Proofs.Ytehleeibgkpjmad
/- Contracts of checkAt, Read, Write, Resize, and of the document's FlatRead, FlatWrite, FlatResize. -/
namespace Go.Proofs.Ytehleeibgkpjmad
open Go.RowKit
set_option maxRecDepth 20000

theorem atE_bad {xs : List ByteArray} {n : Int} (h : ckP xs ≠ 0) : atE xs n = ckP xs := by unfold atE; rw [if_neg h]
theorem atE_out {xs : List ByteArray} {n : Int} (h : ckP xs = 0) (hn : ¬ (0 ≤ n ∧ n < (xs.length : Int))) : atE xs n = 3 := by unfold atE; rw [if_pos h, if_neg hn]
theorem atE_in {xs : List ByteArray} {n : Int} (h : ckP xs = 0) (hn : 0 ≤ n ∧ n < (xs.length : Int)) : atE xs n = 0 := by unfold atE; rw [if_pos h, if_pos hn]

theorem checkAt_at (ao : Option Addr) (m cap : Nat) (xs : List ByteArray) (n : Int) (w : World) (h : Ss w (.slice ao m cap) xs) (hm : xs.length = m) :
    Calls Try.prog 44 #[.slice ao m cap, .int .i64 n] w fun r w' => r = .returned (.int .i64 (atE xs n)) ∧ w' = w := by
  by_cases hE : ckP xs = 0
  · have HE : Hid (ckP xs = 0) := hE
    by_cases h0 : n < 0
    · have HA : Hid (atE xs n = 3) := atE_out hE (by omega)
      clear hE hm
      go_enter Try.func44, Try.ntmps44
      go_wp2_with (go_at_call 45; refine (pcheck_is h HE.out).mono ?_; rintro e w' ⟨rfl, hw⟩; subst hw)
      go_ret
      exact ⟨ret_int HA.out.symm, rfl⟩
    by_cases h1 : (m : Int) ≤ n
    · have HA : Hid (atE xs n = 3) := atE_out hE (by omega)
      clear hE hm
      go_enter Try.func44, Try.ntmps44
      go_wp2_with (go_at_call 45; refine (pcheck_is h HE.out).mono ?_; rintro e w' ⟨rfl, hw⟩; subst hw)
      go_ret
      exact ⟨ret_int HA.out.symm, rfl⟩
    · have HA : Hid (atE xs n = 0) := atE_in hE (by omega)
      clear hE hm
      go_enter Try.func44, Try.ntmps44
      go_wp2_with (go_at_call 45; refine (pcheck_is h HE.out).mono ?_; rintro e w' ⟨rfl, hw⟩; subst hw)
      go_ret
      exact ⟨ret_int HA.out.symm, rfl⟩
  · obtain ⟨E, hEE⟩ : ∃ E, ckP xs = E := ⟨_, rfl⟩
    have HE : Hid (ckP xs = E) := hEE
    have HA : Hid (atE xs n = E) := by show _ = _; rw [atE_bad hE]; exact hEE
    have hne : (E != 0) = true := by rw [← hEE]; simpa using hE
    clear hE hm hEE
    go_enter Try.func44, Try.ntmps44
    go_wp2_with (go_at_call 45; refine (pcheck_is h HE.out).mono ?_; rintro e w' ⟨rfl, hw⟩; subst hw)
    go_ret
    exact ⟨ret_int HA.out.symm, rfl⟩

theorem checkAt_is {v : Value} {xs : List ByteArray} {n : Int} {w : World} (h : Ss w v xs) {c : Int} (hc : atE xs n = c) :
    Calls Try.prog 44 #[v, .int .i64 n] w fun r w' => r = .returned (.int .i64 c) ∧ w' = w := by
  subst hc
  obtain ⟨ao, cap, rfl⟩ := h.form
  exact checkAt_at ao _ cap xs n w h rfl

end Go.Proofs.Ytehleeibgkpjmad
/- The walks of ReadsTells and ReadsTrue. -/
namespace Go.Proofs.Ytehleeibgkpjmad
open Go.RowKit Go.Shelf
/-! ### ReadsTrue -/
theorem pageV_size {m : ImgD} (h : shapeE m = 0) {e : Int} (he : e = 0 ∨ e = -1 ∨ ∃ j : Nat, e = j ∧ 1 ≤ j ∧ j < m.slots.length ∧ kd m.slots j = 1) : (pageV m.slots e).size = 4 := by
  unfold pageV
  rcases he with rfl | rfl | ⟨j, rfl, h1, hj, hk⟩
  · rw [if_pos (by decide)]; rfl
  · rw [if_pos (by decide)]; rfl
  · rw [if_neg (by omega)]
    have e : m.slots.getD (j : Int).toNat default = m.slots[j] := by simp [List.getD, hj]
    rw [e]
    have ok := slotsE_all (shapeE_zero h).2.1 hj
    have hk' : m.slots[j].1 = 1 := by rw [← hk]; unfold kd; simp [List.getD, hj]
    unfold okD slotOK at ok
    rw [if_neg (by rw [hk']; decide), if_pos hk'] at ok
    simp at ok
    exact ok.1
theorem allP_ck {m : ImgD} (h : shapeE m = 0) {root : List Int} {g : Nat} (hg : g ≤ 16) (hall : root.all (rootE m.slots) = true) (hl : (root.length : Int) = ((g : Int) + 3) / 4) : ckP (allP m root g) = 0 := by
  refine ckP_ok (by rw [allP_length]; exact hg) (fun j hj => ?_)
  rw [allP_length] at hj
  have e : (allP m root g).getD j ByteArray.empty = pageV m.slots (lookV m root j) := by unfold allP; simp [List.getD, hj]
  rw [e]
  exact pageV_size h (lookV_ent h hall j (by omega))
theorem allV_facts {m : ImgD} (hC : checkE m = 0) : ckP (allV m) = 0 ∧ ((allV m).length : Int) = m.guest ∧ ∀ n, atE (allV m) n = lookE m n ∧ freadA (allV m) n = readV m n := by
  have hs := checkE_shape hC
  have hg := guest_ok hs
  have hr := root_ok hs
  obtain ⟨k, hk⟩ : ∃ k : Nat, m.guest = k := ⟨m.guest.toNat, by omega⟩
  have e : allV m = allP m m.root k := by unfold allV; rw [if_pos hC, hk]; rfl
  have hck := allP_ck hs (g := k) (by omega) hr.2 (by rw [← hk]; exact hr.1)
  rw [e]
  have ha : ∀ n, atE (allP m m.root k) n = lookE m n := fun n => by
    have e2 : lookE m n = if 0 ≤ n ∧ n < m.guest then 0 else 3 := by unfold lookE; rw [if_neg (by simpa using hC)]
    rw [e2]
    unfold atE
    rw [if_pos hck, allP_length, hk]
  refine ⟨hck, by rw [allP_length, hk], fun n => ⟨ha n, ?_⟩⟩
  unfold freadA readV
  rw [ha n]
  by_cases hL : lookE m n = 0
  · rw [if_pos hL, if_pos hL]
    obtain ⟨_, h1, h2⟩ := lookE_parts hL
    unfold allP
    have : n.toNat < k := by omega
    simp [List.getD, this]
  · rw [if_neg hL, if_neg hL]

end Go.Proofs.Ytehleeibgkpjmad
/- Contracts of Write, Resize, and of the document's FlatWrite, FlatResize. -/
namespace Go.Proofs.Ytehleeibgkpjmad
open Go.RowKit
set_option maxRecDepth 20000

theorem one_ok {page : ByteArray} (h : page.size = 4) : ckP [page] = 0 := by unfold ckP; simp [h]
theorem one_bad {page : ByteArray} (h : page.size ≠ 4) : ckP [page] = 1 := by unfold ckP; simp [h]
theorem Ss_one (w : World) (g : Nat) (hg : g = w.heap.size) (a : ByteArray) : Ss (w.alloc (.cells #[.string a] 9)) (.slice (some ⟨g, 0, none⟩) 1 1) [a] := by subst hg; exact Ss_new w [a] 1 rfl (by decide)

theorem AnsS.put {w w1 : World} {g n cap k : Nat} {x : ByteArray} {xs ys : List ByteArray} (h : w1.ownsRow w.heap.size 9 1 (.slice (some ⟨g, 0, none⟩) n cap) n (xs.map Value.string)) (hb : Below w.heap.size w w1) (hy : xs.set k x = ys) :
    AnsS w ys 0 (.returned (.tuple #[.slice (some ⟨g, 0, none⟩) n cap, .int .i64 0])) (w1.setCell ⟨g, k, none⟩ (.string x)) := by
  subst hy
  exact ⟨_, rfl, Ss_of_own (owns_put h k x), hb.setCell (owns_ge h) _⟩
theorem AnsS.made {w w1 : World} {g n cap : Nat} {xs ys : List ByteArray} (h : w1.ownsRow w.heap.size 9 1 (.slice (some ⟨g, 0, none⟩) n cap) n (xs.map Value.string)) (hb : Below w.heap.size w w1) (hy : xs = ys) :
    AnsS w ys 0 (.returned (.tuple #[.slice (some ⟨g, 0, none⟩) n cap, .int .i64 0])) w1 := by
  subst hy
  exact ⟨_, rfl, Ss_of_own h, hb⟩

theorem fwrite_bad (v : Value) (xs : List ByteArray) (n E : Int) (page : ByteArray) (w : World) (h : Ss w v xs) (hE : atE xs n = E) (hne : (E != 0) = true) :
    Calls Try.prog 17 #[v, .int .i64 n, .string page] w (AnsS w [] E) := by
  have HE : Hid (atE xs n = E) := hE
  clear hE
  go_enter Try.func17, Try.ntmps17
  go_wp2_with (go_at_call 44; refine (checkAt_is h HE.out).mono ?_; rintro e w' ⟨rfl, hw⟩; subst hw)
  go_ret2
  exact AnsS.bad _ rfl

theorem fwrite_form (v : Value) (xs : List ByteArray) (n : Int) (page : ByteArray) (w : World) (h : Ss w v xs) (hE : atE xs n = 0) (hp : page.size ≠ 4) :
    Calls Try.prog 17 #[v, .int .i64 n, .string page] w (AnsS w [] 1) := by
  have HE : Hid (atE xs n = 0 ∧ ckP [page] = 1) := ⟨hE, one_bad hp⟩
  clear hE
  go_enter Try.func17, Try.ntmps17
  go_wp2_with (first | (go_at_call 44; refine (checkAt_is h HE.out.1).mono ?_; rintro e w' ⟨rfl, hw⟩; subst hw) | (go_at_call 45; refine (pcheck_is (Ss_one _ _ (by simp) page) HE.out.2).mono ?_; rintro e w2 ⟨rfl, hw⟩; subst hw))
  go_ret2
  exact ⟨_, rfl, Ss.nil _, (Below.refl _ _).alloc (Nat.le_refl _) _⟩

set_option maxHeartbeats 1000000 in
theorem fwrite_at (ao : Option Addr) (m cap k : Nat) (xs : List ByteArray) (page : ByteArray) (w : World) (h : Ss w (.slice ao m cap) xs) (hm : xs.length = m) (h16 : m ≤ 16) (hk : k < m) (hE : atE xs (k : Int) = 0) (hp : page.size = 4) :
    Calls Try.prog 17 #[.slice ao m cap, .int .i64 k, .string page] w (AnsS w (xs.set k page) 0) := by
  have HE : Hid (atE xs (k : Int) = 0 ∧ ckP [page] = 0) := ⟨hE, one_ok hp⟩
  have HM : Hid (xs.length = m) := hm
  have HF : Hid ((frR xs m).set k page = xs.set k page) := by show _ = _; rw [← hm, frR_all]
  have hki : (k : Int) < (m : Int) := by omega
  have h1 := h.past (.cells #[.string page] 9)
  clear hE hm hp
  go_enter Try.func17, Try.ntmps17
  go_wp2_with (first | (go_at_call 44; refine (checkAt_is h HE.out.1).mono ?_; rintro e w' ⟨rfl, hw⟩; subst hw) | (go_at_call 45; refine (pcheck_is (Ss_one _ _ (by simp) page) HE.out.2).mono ?_; rintro e w2 ⟨rfl, hw⟩; subst hw) | (go_at_call 46; refine (firstPages_any _ xs _ _ h1 (by rw [HM.out]; exact h16) (by omega) (by omega) m (by omega)).mono ?_; rintro e w3 ⟨g, cap', rfl, HO, b3⟩; obtain ⟨u, hcl⟩ := owns_cell HO.out k hk; have hfr := HO.out.frozenAt k))
  go_ret2
  refine ⟨_, rfl, ?_, ((((Below.refl _ w').alloc (Nat.le_refl _) _).trans (b3.mono (by simp))).setCell (by have := owns_ge HO.out; simp at this ⊢; omega) _)⟩
  rw [← HF.out]
  exact Ss_of_own (owns_put HO.out k page)

theorem fwrite_any (v : Value) (xs : List ByteArray) (n : Int) (page : ByteArray) (w : World) (h : Ss w v xs) :
    Calls Try.prog 17 #[v, .int .i64 n, .string page] w (AnsS w (fwA xs n page) (fwE xs n page)) := by
  by_cases hE : atE xs n = 0
  · by_cases hp : page.size = 4
    · have e : fwE xs n page = 0 := by unfold fwE; rw [if_pos hE, if_pos hp]
      rw [fwA, if_pos e, e]
      obtain ⟨hK, h0, hn⟩ := atE_parts hE
      obtain ⟨k, rfl⟩ := Int.eq_ofNat_of_zero_le h0
      obtain ⟨ao, cap, rfl⟩ := h.form
      rw [Int.toNat_natCast]
      exact fwrite_at ao _ cap k xs page w h rfl (ckP_parts hK).1 (by omega) hE hp
    · have e : fwE xs n page = 1 := by unfold fwE; rw [if_pos hE, if_neg hp]
      rw [fwA, if_neg (by omega), e]
      exact fwrite_form v xs n page w h hE hp
  · have e : fwE xs n page = atE xs n := by unfold fwE; rw [if_neg hE]
    rw [fwA, if_neg (by rw [e]; exact hE), e]
    exact fwrite_bad v xs n _ page w h rfl (by simpa using hE)
theorem fwrite_is {v : Value} {xs : List ByteArray} {n : Int} {page : ByteArray} {w : World} (h : Ss w v xs) {ys : List ByteArray} {c : Int} (hy : fwA xs n page = ys) (hc : fwE xs n page = c) :
    Calls Try.prog 17 #[v, .int .i64 n, .string page] w (AnsS w ys c) := by subst hy; subst hc; exact fwrite_any v xs n page w h

theorem fresize_bad (v : Value) (xs : List ByteArray) (g E : Int) (w : World) (h : Ss w v xs) (hE : ckP xs = E) (hne : (E != 0) = true) :
    Calls Try.prog 19 #[v, .int .i64 g] w (AnsS w [] E) := by
  have HE : Hid (ckP xs = E) := hE
  clear hE
  go_enter Try.func19, Try.ntmps19
  go_wp2_with (go_at_call 45; refine (pcheck_is h HE.out).mono ?_; rintro e w' ⟨rfl, hw⟩; subst hw)
  go_ret2
  exact AnsS.bad _ rfl
theorem fresize_out (v : Value) (xs : List ByteArray) (g : Int) (w : World) (h : Ss w v xs) (hE : ckP xs = 0) (hg : ¬ (0 ≤ g ∧ g ≤ 16)) :
    Calls Try.prog 19 #[v, .int .i64 g] w (AnsS w [] 3) := by
  have HE : Hid (ckP xs = 0) := hE
  clear hE
  by_cases h0 : g < 0
  · clear hg
    go_enter Try.func19, Try.ntmps19
    go_wp2_with (go_at_call 45; refine (pcheck_is h HE.out).mono ?_; rintro e w' ⟨rfl, hw⟩; subst hw)
    go_ret2
    exact AnsS.bad _ rfl
  · have h16 : 16 < g := by omega
    clear hg
    go_enter Try.func19, Try.ntmps19
    go_wp2_with (go_at_call 45; refine (pcheck_is h HE.out).mono ?_; rintro e w' ⟨rfl, hw⟩; subst hw)
    go_ret2
    exact AnsS.bad _ rfl
theorem fresize_yes (v : Value) (xs : List ByteArray) (g : Int) (w : World) (h : Ss w v xs) (hE : ckP xs = 0) (hg0 : 0 ≤ g) (hg : g ≤ 16) (R : List ByteArray) (hR : frR xs g.toNat = R) :
    Calls Try.prog 19 #[v, .int .i64 g] w (AnsS w R 0) := by
  have HE : Hid (ckP xs = 0 ∧ xs.length ≤ 16 ∧ frR xs g.toNat = R) := ⟨hE, (ckP_parts hE).1, hR⟩
  have h0 : ¬ g < 0 := by omega
  clear hE hR
  go_enter Try.func19, Try.ntmps19
  go_wp2_with (first | (go_at_call 45; refine (pcheck_is h HE.out.1).mono ?_; rintro e w' ⟨rfl, hw⟩; subst hw) | (go_at_call 46; refine (firstPages_any _ xs _ _ h HE.out.2.1 (by omega) (by omega) g.toNat rfl).mono ?_; rintro e w3 ⟨b, cap', rfl, HO, b3⟩))
  go_ret2
  exact AnsS.made HO.out b3 HE.out.2.2
theorem fresize_any (v : Value) (xs : List ByteArray) (g : Int) (w : World) (h : Ss w v xs) :
    Calls Try.prog 19 #[v, .int .i64 g] w (AnsS w (frA xs g) (frE xs g)) := by
  by_cases hE : ckP xs = 0
  · by_cases hg : 0 ≤ g ∧ g ≤ 16
    · have e : frE xs g = 0 := by unfold frE; rw [if_pos hE, if_pos hg]
      rw [frA, if_pos e, e]
      exact fresize_yes v xs g w h hE hg.1 hg.2 _ rfl
    · have e : frE xs g = 3 := by unfold frE; rw [if_pos hE, if_neg hg]
      rw [frA, if_neg (by omega), e]
      exact fresize_out v xs g w h hE hg
  · have e : frE xs g = ckP xs := by unfold frE; rw [if_neg hE]
    rw [frA, if_neg (by rw [e]; exact hE), e]
    exact fresize_bad v xs g _ w h rfl (by simpa using hE)
theorem fresize_is {v : Value} {xs : List ByteArray} {g : Int} {w : World} (h : Ss w v xs) {ys : List ByteArray} {c : Int} (hy : frA xs g = ys) (hc : frE xs g = c) :
    Calls Try.prog 19 #[v, .int .i64 g] w (AnsS w ys c) := by subst hy; subst hc; exact fresize_any v xs g w h
end Go.Proofs.Ytehleeibgkpjmad
