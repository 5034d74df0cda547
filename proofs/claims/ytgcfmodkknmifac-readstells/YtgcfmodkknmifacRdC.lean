/- Contract of the document's PastOf. -/
import Derived.Test.YtgcfmodkknmifacRdB
namespace Go.Proofs.Ytgcfmodkknmifac
open Go.RowKit Go.Shelf
set_option maxRecDepth 20000

theorem app_step {w0 w : World} {ops : Array Oper} {o : Oper} {a : Act} {K : Act → World → Prop} {Q : Exit → Act → World → Prop} {E : Prop} (hgd : o.guard = none) (s x : Operand)
    (ho : o.op = .call { callee := .builtin .append, args := #[s, x], argTypes := #[40, 40] }) (v : Value) (xs : List ByteArray) (y : ByteArray) (B : Nat) (hs : a.eval s = v) (hx : a.eval x = .slice (some ⟨w.heap.size, 0, none⟩) 1 1)
    (hown : w.ownsRow B 9 1 v xs.length (xs.map Value.string)) (hl : xs.length ≤ 1000) (hB : B ≤ w.heap.size) (hbel : Below B w0 w)
    (h : ∀ v' w', Hid (w'.ownsRow B 9 1 v' (xs ++ [y]).length ((xs ++ [y]).map Value.string)) → Below B w0 w' → B ≤ w'.heap.size → K (a.put o.dst v') w') :
    if Region.wanted o (yielded ops a.tmps) = true then Oper.wp Try.prog o a (w.alloc (.cells #[.string y] 9)) K Q else E := by
  obtain ⟨i0, hi, hz0, hz1, hz2⟩ := info_parts Try.info9
  refine step_append_lies (w.alloc (.cells #[.string y] 9)) hgd s x 40 ho B 9 i0 (.string ByteArray.empty) 1 16 Try.underlying40 hi hz0 hz1 hz2 rfl (by decide) v xs.length _ hs (hown.alloc _) ⟨w.heap.size, 0, none⟩ 1 1 [.string y] hx rfl (one_new w y) (by intro u hu; simp at hu; subst hu; rfl) (by decide) (by unfold maxLen; omega) (by omega) (by simp; omega) _ rfl ?_
  intro g cap w' hown' hgrow _ _
  have hz : w.heap.size ≤ w'.heap.size := Nat.le_trans (by simp) hgrow.size
  refine h _ w' ?_ ((hbel.alloc hB _).grown hgrow (by simp; omega) ?_) (Nat.le_trans hB hz)
  · show w'.ownsRow _ _ _ _ _ _
    rw [List.map_append, List.length_append]; exact hown'
  · intro k hk
    exact (hown.lt k hk).1

theorem pastOf_bad (gm : Int) (ra : Option Addr) (rn rc : Nat) (sa : Option Addr) (sn sc : Nat) (fa : Option Addr) (fn fc : Nat) (na : Option Addr) (nn nc : Nat) (m : ImgD) (nm : ByteArray) (E : Int) (w : World) (h : Img w (.agg #[.int .i64 gm, .slice ra rn rc, .slice sa sn sc, .slice fa fn fc, .slice na nn nc]) m) (hE : checkE m = E) (hne : (E != 0) = true) :
    Calls Try.prog 21 #[.agg #[.int .i64 gm, .slice ra rn rc, .slice sa sn sc, .slice fa fn fc, .slice na nn nc], .string nm] w fun r w' => r = .returned (.tuple #[.slice none 0 0, .int .i64 E]) ∧ Below w.heap.size w w' := by
  have b0 : Below w.heap.size w (w.alloc (.cells #[.int .i64 gm, .slice ra rn rc, .slice sa sn sc, .slice fa fn fc, .slice na nn nc] 26)) := (Below.refl _ _).alloc (Nat.le_refl _) _
  have m0 : (w.alloc (.cells #[.int .i64 gm, .slice ra rn rc, .slice sa sn sc, .slice fa fn fc, .slice na nn nc] 26)).heap[w.heap.size]? = some (.cells #[.int .i64 gm, .slice ra rn rc, .slice sa sn sc, .slice fa fn fc, .slice na nn nc] 26) := World.alloc_heap_new _ _
  have z0 : w.heap.size < (w.alloc (.cells #[.int .i64 gm, .slice ra rn rc, .slice sa sn sc, .slice fa fn fc, .slice na nn nc] 26)).heap.size := by simp
  have h1 := checkImage_is (h.below b0) hE
  clear h hE
  go_enter Try.func21, Try.ntmps21
  go_wp2_with fail
  refine h1.mono ?_
  rintro e w1 ⟨rfl, b1⟩
  go_wp2_with fail
  go_ret2
  exact ⟨rfl, Below.on b0 b1⟩
theorem pastOf_none (gm : Int) (ra : Option Addr) (rn rc : Nat) (sa : Option Addr) (sn sc : Nat) (fa : Option Addr) (fn fc : Nat) (na : Option Addr) (nn nc : Nat) (m : ImgD) (nm : ByteArray) (w : World) (h : Img w (.agg #[.int .i64 gm, .slice ra rn rc, .slice sa sn sc, .slice fa fn fc, .slice na nn nc]) m) (hC : checkE m = 0) (hsi : snapIx m.snaps nm = none) :
    Calls Try.prog 21 #[.agg #[.int .i64 gm, .slice ra rn rc, .slice sa sn sc, .slice fa fn fc, .slice na nn nc], .string nm] w fun r w' => r = .returned (.tuple #[.slice none 0 0, .int .i64 5]) ∧ Below w.heap.size w w' := by
  have b0 : Below w.heap.size w (w.alloc (.cells #[.int .i64 gm, .slice ra rn rc, .slice sa sn sc, .slice fa fn fc, .slice na nn nc] 26)) := (Below.refl _ _).alloc (Nat.le_refl _) _
  have m0 : (w.alloc (.cells #[.int .i64 gm, .slice ra rn rc, .slice sa sn sc, .slice fa fn fc, .slice na nn nc] 26)).heap[w.heap.size]? = some (.cells #[.int .i64 gm, .slice ra rn rc, .slice sa sn sc, .slice fa fn fc, .slice na nn nc] 26) := World.alloc_heap_new _ _
  have z0 : w.heap.size < (w.alloc (.cells #[.int .i64 gm, .slice ra rn rc, .slice sa sn sc, .slice fa fn fc, .slice na nn nc] 26)).heap.size := by simp
  have h1 := checkImage_is (h.below b0) hC
  have h2 := fun W (hW : Below w.heap.size w W) => snapAt_is (h.below hW) nm (by have := (shapeE_zero (checkE_shape hC)).1; omega) (i := -1) (by rw [hsi]; rfl)
  clear h hC hsi
  go_enter Try.func21, Try.ntmps21
  go_wp2_with fail
  refine h1.mono ?_
  rintro e w1 ⟨rfl, b1⟩
  have m1 := cells_below m0 b1 z0
  obtain ⟨a0, a1, a2, a3, a4⟩ := five m1
  have hB1 := Below.on b0 b1
  clear h1
  go_wp2_with fail
  refine (h2 _ hB1).mono ?_
  rintro e w2 ⟨rfl, b2⟩
  go_wp2_with fail
  go_ret2
  exact ⟨rfl, Below.on hB1 b2⟩
set_option maxHeartbeats 4000000 in
theorem pastOf_at (gm : Int) (ra : Option Addr) (rn rc : Nat) (sa : Option Addr) (sn sc : Nat) (fa : Option Addr) (fn fc : Nat) (b off : Nat) (nn nc : Nat) (m : ImgD) (nm : ByteArray) (k : Nat) (sm : ByteArray) (sg : Nat) (sr : List Int) (va : Option Addr) (vc : Nat) (w : World) (h : Img w (.agg #[.int .i64 gm, .slice ra rn rc, .slice sa sn sc, .slice fa fn fc, .slice (some ⟨b, off, none⟩) nn nc]) m) (hC : checkE m = 0) (hsi : snapIx m.snaps nm = some k) (hk : k < nn) (hkm : k < m.snaps.length) (hs : m.snaps[k] = (sm, (sg : Int), sr)) (hb : b < w.heap.size)
    (s2 : w.cell? ⟨b, off + k * 3 + 1, none⟩ = some (.int .i64 sg)) (s3 : w.cell? ⟨b, off + k * 3 + 2, none⟩ = some (.slice va sr.length vc)) (hsl : Sl w (.slice va sr.length vc) sr) :
    Calls Try.prog 21 #[.agg #[.int .i64 gm, .slice ra rn rc, .slice sa sn sc, .slice fa fn fc, .slice (some ⟨b, off, none⟩) nn nc], .string nm] w fun r w' => (∃ v, r = .returned (.tuple #[v, .int .i64 0]) ∧ Ss w' v (allP m sr sg)) ∧ Below w.heap.size w w' := by
  have b0 : Below w.heap.size w (w.alloc (.cells #[.int .i64 gm, .slice ra rn rc, .slice sa sn sc, .slice fa fn fc, .slice (some ⟨b, off, none⟩) nn nc] 26)) := (Below.refl _ _).alloc (Nat.le_refl _) _
  have m0 : (w.alloc (.cells #[.int .i64 gm, .slice ra rn rc, .slice sa sn sc, .slice fa fn fc, .slice (some ⟨b, off, none⟩) nn nc] 26)).heap[w.heap.size]? = some (.cells #[.int .i64 gm, .slice ra rn rc, .slice sa sn sc, .slice fa fn fc, .slice (some ⟨b, off, none⟩) nn nc] 26) := World.alloc_heap_new _ _
  have z0 : w.heap.size < (w.alloc (.cells #[.int .i64 gm, .slice ra rn rc, .slice sa sn sc, .slice fa fn fc, .slice (some ⟨b, off, none⟩) nn nc] 26)).heap.size := by simp
  have hE := checkE_shape hC
  have hmem : (sm, (sg : Int), sr) ∈ rootsOf m := List.mem_cons_of_mem _ (by rw [← hs]; exact List.getElem_mem hkm)
  have hgg := List.all_eq_true.1 (shapeE_zero hE).2.2.2.2.1 _ hmem
  have hrr := List.all_eq_true.1 (shapeE_zero hE).2.2.2.2.2.2 _ hmem
  dsimp only at hgg hrr
  unfold guestOK at hgg
  unfold rootFit at hrr
  simp only [Bool.and_eq_true, decide_eq_true_eq] at hgg hrr
  have hg16 : sg ≤ 16 := by omega
  have h1 := checkImage_is (h.below b0) hC
  have h2 := fun W (hW : Below w.heap.size w W) => snapAt_is (h.below hW) nm (by have := (shapeE_zero hE).1; omega) (i := (k : Int)) (by rw [hsi]; rfl)
  have H3 : Hid (∀ W, Below w.heap.size w W → ∀ q : Nat, q < sg → Calls Try.prog 52 #[.agg #[.int .i64 gm, .slice ra rn rc, .slice sa sn sc, .slice fa fn fc, .slice (some ⟨b, off, none⟩) nn nc], .slice va sr.length vc, .int .i64 q] W fun r w' => r = .returned (.int .i64 (lookV m sr q)) ∧ Below W.heap.size W w') :=
    fun W hW q hq => lookR_is (h.below hW) (hsl.below hW) (shapeE_zero hE).2.1 hrr.2.1 q (by omega) (by omega) rfl
  have H4 : Hid (∀ W, Below w.heap.size w W → ∀ q : Nat, q < sg → Calls Try.prog 49 #[.agg #[.int .i64 gm, .slice ra rn rc, .slice sa sn sc, .slice fa fn fc, .slice (some ⟨b, off, none⟩) nn nc], .int .i64 (lookV m sr q)] W fun r w' => r = .returned (.string (pageV m.slots (lookV m sr q))) ∧ Below W.heap.size W w') :=
    fun W hW q hq => pageOf_is (h.below hW) ((lookV_ent hE hrr.2.1 q (by omega)).imp id (Or.imp id (fun ⟨j, a, b, c, _⟩ => ⟨j, a, b, c⟩))) rfl
  have hki : (k : Int) < (nn : Int) := by omega
  have hk0 : ¬ (k : Int) < 0 := by omega
  clear h hE hmem hgg hrr hC hsi hs hsl
  go_enter Try.func21, Try.ntmps21
  go_wp2_with fail
  refine h1.mono ?_
  rintro e w1 ⟨rfl, b1⟩
  have m1 := cells_below m0 b1 z0
  obtain ⟨a0, a1, a2, a3, a4⟩ := five m1
  have hB1 := Below.on b0 b1
  clear h1
  go_wp2_with fail
  refine (h2 _ hB1).mono ?_
  rintro e w2 ⟨rfl, b2⟩
  have m2 := cells_below m1 b2 (Array.getElem?_eq_some_iff.1 m1).1
  have z2 := (Array.getElem?_eq_some_iff.1 m2).1
  have hB2 := Below.on hB1 b2
  clear h2 a0 a1 a2 a3 a4
  go_wp2_with fail
  go_loopw [8, 9] (fun l i wq => ∃ q : Nat, q ≤ sg ∧ i = .int .i64 q ∧ Hid (wq.ownsRow w2.heap.size 9 1 l (allP m sr q).length ((allP m sr q).map Value.string)) ∧ (w2.heap.size ≤ wq.heap.size ∧ Below w2.heap.size w2 wq)) (fun _ i _ => sg - (intOf i).toNat)
  case atStart => exact ⟨0, Nat.zero_le _, rfl, (by show World.ownsRow _ _ _ _ _ _ _; exact ⟨rfl, .inl ⟨rfl, rfl⟩⟩), Nat.le_refl _, Below.refl _ _⟩
  case round =>
    obtain ⟨q, hq, rfl, HO, hz, hbel⟩ := hrel
    have mr := cells_below m2 hbel z2
    have zr := (Array.getElem?_eq_some_iff.1 mr).1
    obtain ⟨c0, c1, c2, c3, c4⟩ := five mr
    have hbw := Below.on hB2 hbel
    have t2 := (hbw.cell (p := ⟨b, off + k * 3 + 1, none⟩) hb).trans s2
    have t3 := (hbw.cell (p := ⟨b, off + k * 3 + 2, none⟩) hb).trans s3
    have hbr : b < wr.heap.size := Nat.lt_of_lt_of_le hb hbw.size
    by_cases hlq : q < sg
    · have hqi : (q : Int) < (sg : Int) := by omega
      have hl1 := fun W hW => H3.out W hW q hlq
      have hl2 := fun W hW => H4.out W hW q hlq
      have HS := allP_snoc m sr q
      obtain ⟨c, hc⟩ : ∃ c, lookV m sr q = c := ⟨_, rfl⟩
      rw [hc] at hl1 hl2 HS
      obtain ⟨p, hp⟩ : ∃ p, pageV m.slots c = p := ⟨_, rfl⟩
      rw [hp] at hl2 HS
      have HSn : Hid (allP m sr (q + 1) = allP m sr q ++ [p]) := HS
      have hll : (allP m sr q).length ≤ 1000 := by rw [allP_length]; omega
      clear hp hc HS
      go_wp2_with fail
      go_region_held3 (fun w' => w'.cell? ⟨w.heap.size, 0, none⟩ = some (.int .i64 gm) ∧ w'.cell? ⟨w.heap.size, 0 + 1, none⟩ = some (.slice ra rn rc) ∧ w'.cell? ⟨w.heap.size, 0 + 1 + 1, none⟩ = some (.slice sa sn sc) ∧ w'.cell? ⟨w.heap.size, 0 + 1 + 1 + 1, none⟩ = some (.slice fa fn fc) ∧ w'.cell? ⟨w.heap.size, 0 + 1 + 1 + 1 + 1, none⟩ = some (.slice (some ⟨b, off, none⟩) nn nc) ∧ w'.cell? ⟨b, off + k * 3 + 2, none⟩ = some (.slice va sr.length vc)) (first | exact ⟨h50, h51, h52, h53, h54, t5⟩ | exact ⟨g40, g41, g42, g43, g44, t6⟩ | exact ⟨f40, f41, f42, f43, f44, t4⟩ | exact ⟨d30, d31, d32, d33, d34, t3'⟩ | exact ⟨c0, c1, c2, c3, c4, t3⟩)
        (first
        | (go_at_call 52; refine (hl1 _ (to_drew hbw)).mono ?_; rintro e w3 ⟨rfl, b3⟩; have b3 := below_drew b3; have m3 := cells_below mr b3 zr; have z3 := (Array.getElem?_eq_some_iff.1 m3).1; obtain ⟨d30, d31, d32, d33, d34⟩ := five m3; have t3' := (b3.cell (p := ⟨b, off + k * 3 + 2, none⟩) hbr).trans t3; have hB3 := Below.on hbw b3)
        | (go_at_call 49; refine (hl2 _ hB3).mono ?_; rintro e w4 ⟨rfl, b4⟩; have m4 := cells_below m3 b4 z3; obtain ⟨f40, f41, f42, f43, f44⟩ := five m4; obtain ⟨g40, g41, g42, g43, g44⟩ := five (cells_alloc m4 (.cells #[.string p] 9)); have hb3 : b < w3.heap.size := Nat.lt_of_lt_of_le hbr b3.size; have t4 := (b4.cell (p := ⟨b, off + k * 3 + 2, none⟩) hb3).trans t3'; have t6 := (((Below.refl _ w4).alloc (Nat.le_refl _) (.cells #[.string p] 9)).cell (p := ⟨b, off + k * 3 + 2, none⟩) (Nat.lt_of_lt_of_le hb3 b4.size)).trans t4; have hB4 := Below.on hB3 b4; have HO4 : Hid (w4.ownsRow w2.heap.size 9 1 _ (allP m sr q).length ((allP m sr q).map Value.string)) := owns_below HO.out (Below.on b3 b4); have hz4 : w2.heap.size ≤ w4.heap.size := Nat.le_trans hz (Below.on b3 b4).size; have hbel4 : Below w2.heap.size w2 w4 := Below.on hbel (Below.on b3 b4))
        | (refine app_step (by rfl) _ _ (by rfl) _ (allP m sr q) _ w2.heap.size (by rfl) (by rfl) HO4.out hll hz4 hbel4 ?_; intro v' w5 HO' hbel' hB'; have m5 := cells_below m2 hbel' z2; obtain ⟨h50, h51, h52, h53, h54⟩ := five m5; have t5 := ((Below.on hB2 hbel').cell (p := ⟨b, off + k * 3 + 2, none⟩) hb).trans s3))
      go_wp2_with fail
      go_roundw
      case rel => exact ⟨q + 1, by omega, by go_num, by rw [HSn.out]; exact HO', hB', hbel'⟩
      case measure => simp [intOf]; omega
    · have e4 : q = sg := by omega
      subst e4
      go_wp2_with fail
      go_ret2
      exact ⟨⟨_, rfl, Ss_of_owns HO.out⟩, hbw⟩
theorem pastOf_is {w : World} {v : Value} {m : ImgD} (h : Img w v m) (nm : ByteArray) {E : Int} {l : List ByteArray} (hE : pastE m nm = E) (hl : pastV m nm = l) :
    Calls Try.prog 21 #[v, .string nm] w fun r w' => (∃ v, r = .returned (.tuple #[v, .int .i64 E]) ∧ Ss w' v l) ∧ Below w.heap.size w w' := by
  have h' := h
  obtain ⟨ra, rc, sa, sc, fa, fc, na, nc, rfl, h1, h2, h3, h4⟩ := h.parts
  subst hE hl
  by_cases h0 : checkE m = 0
  · unfold pastE pastV
    rw [if_neg (by rw [h0]; simp), if_neg (by rw [h0]; simp)]
    cases hsi : snapIx m.snaps nm with
    | none => exact (pastOf_none m.guest ra _ rc sa _ sc fa _ fc na _ nc m nm w h' h0 hsi).mono fun _ w' h => ⟨⟨_, h.1, Ss.nil w'⟩, h.2⟩
    | some k =>
      dsimp only
      have hk := snapIx_some hsi
      obtain ⟨b, off, rfl, hlt, hSA⟩ := h4.at k hk
      obtain ⟨s, hs⟩ : ∃ s, s = m.snaps[k] := ⟨_, rfl⟩
      obtain ⟨sm, sg, sr⟩ := s
      have eget : m.snaps.getD k default = (sm, sg, sr) := by rw [hs]; simp [List.getD, hk]
      rw [eget]
      rw [← hs] at hSA
      obtain ⟨rv, s1, s2, s3, hsl⟩ := hSA
      obtain ⟨va, vc, rfl⟩ := hsl.form
      have hgg := List.all_eq_true.1 (shapeE_zero (checkE_shape h0)).2.2.2.2.1 (sm, sg, sr) (List.mem_cons_of_mem _ (by rw [hs]; exact List.getElem_mem hk))
      dsimp only at hgg
      unfold guestOK at hgg
      simp only [decide_eq_true_eq] at hgg
      obtain ⟨j, rfl⟩ : ∃ j : Nat, sg = j := ⟨sg.toNat, by omega⟩
      rw [Int.toNat_natCast]
      exact pastOf_at m.guest ra _ rc sa _ sc fa _ fc b off _ nc m nm k sm j sr va vc w h' h0 hsi hk hk hs.symm hlt s2 s3 hsl
  · have e1 : pastE m nm = checkE m := by unfold pastE; rw [if_pos h0]
    have e2 : pastV m nm = [] := by unfold pastV; rw [if_pos h0]
    rw [e1, e2]
    exact (pastOf_bad m.guest ra _ rc sa _ sc fa _ fc na _ nc m nm _ w h' rfl (by simpa using h0)).mono fun _ w' h => ⟨⟨_, h.1, Ss.nil w'⟩, h.2⟩
end Go.Proofs.Ytgcfmodkknmifac
