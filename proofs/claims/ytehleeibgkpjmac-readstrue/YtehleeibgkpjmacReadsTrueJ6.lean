/- Texts joined: RdB, RdC, FlPlain, FlFirst, PgSplit, FlOps, RWalk, SlotsIn, ImgIn. -/
import Derived.Test.YtehleeibgkpjmacReadsTrueJ5
import Derived.Deep.AppendLies
import Derived.Test.YtehleeibgkpjmacReadsTrueJ4
import Derived.Laws.CopyOwn
import Derived.Deep.OwnRows
import Derived.Test.YtehleeibgkpjmacReadsTrueJ1
import Derived.Deep.Strs
import Derived.Deep.Slices
import Derived.ProofKit
set_option linter.unusedVariables false
set_option linter.unusedSimpArgs false
/- Contracts of the document's pageOf, ReadOf, AllOf, snapAt, PastOf. -/
namespace Go.Proofs.Ytehleeibgkpjmac
open Go.RowKit Go.Shelf
set_option maxRecDepth 20000

theorem pageOf_zero (gm : Int) (ra : Option Addr) (rn rc : Nat) (sa : Option Addr) (sn sc : Nat) (fa : Option Addr) (fn fc : Nat) (na : Option Addr) (nn nc : Nat) (e : Int) (w : World) (he : e ≤ 0) :
    Calls Try.prog 49 #[.agg #[.int .i64 gm, .slice ra rn rc, .slice sa sn sc, .slice fa fn fc, .slice na nn nc], .int .i64 e] w fun r w' => r = .returned (.string Z4) ∧ Below w.heap.size w w' := by
  have b0 : Below w.heap.size w (w.alloc (.cells #[.int .i64 gm, .slice ra rn rc, .slice sa sn sc, .slice fa fn fc, .slice na nn nc] 26)) := (Below.refl _ _).alloc (Nat.le_refl _) _
  go_enter Try.func49, Try.ntmps49
  go_wp2_with (go_at_call 83; refine (zeroPage_any _).mono ?_; rintro e w1 ⟨rfl, hw⟩; subst hw)
  go_ret
  exact ⟨rfl, b0⟩
theorem pageOf_slot (gm : Int) (ra : Option Addr) (rn rc : Nat) (sb so : Nat) (sn sc : Nat) (fa : Option Addr) (fn fc : Nat) (na : Option Addr) (nn nc : Nat) (j : Nat) (d : ByteArray) (w : World) (h1 : 1 ≤ j) (hj : j < sn) (hsb : sb < w.heap.size) (hc : w.cell? ⟨sb, so + j * 3 + 1, none⟩ = some (.string d)) :
    Calls Try.prog 49 #[.agg #[.int .i64 gm, .slice ra rn rc, .slice (some ⟨sb, so, none⟩) sn sc, .slice fa fn fc, .slice na nn nc], .int .i64 j] w fun r w' => r = .returned (.string d) ∧ Below w.heap.size w w' := by
  have b0 : Below w.heap.size w (w.alloc (.cells #[.int .i64 gm, .slice ra rn rc, .slice (some ⟨sb, so, none⟩) sn sc, .slice fa fn fc, .slice na nn nc] 26)) := (Below.refl _ _).alloc (Nat.le_refl _) _
  have hc1 := (b0.cell (p := ⟨sb, so + j * 3 + 1, none⟩) hsb).trans hc
  have h0 : ¬ (j : Int) ≤ 0 := by omega
  have hji : (j : Int) < (sn : Int) := by omega
  go_enter Try.func49, Try.ntmps49
  go_wp2_with fail
  go_ret
  exact ⟨rfl, b0⟩
theorem pageOf_is {v : Value} {m : ImgD} {w : World} (h : Img w v m) {e : Int} (he : e = 0 ∨ e = -1 ∨ ∃ j : Nat, e = j ∧ 1 ≤ j ∧ j < m.slots.length) {p : ByteArray} (hp : pageV m.slots e = p) :
    Calls Try.prog 49 #[v, .int .i64 e] w fun r w' => r = .returned (.string p) ∧ Below w.heap.size w w' := by
  obtain ⟨ra, rc, sa, sc, fa, fc, na, nc, rfl, h1, h2, h3, h4⟩ := h.parts
  unfold pageV at hp
  by_cases hz : e ≤ 0
  · rw [if_pos hz] at hp; subst hp
    exact pageOf_zero m.guest ra _ rc sa _ sc fa _ fc na _ nc e w hz
  · rcases he with he | he | ⟨j, rfl, hj1, hj⟩
    · omega
    · omega
    · rw [if_neg (by omega)] at hp
      obtain ⟨sb, so, rfl, hsb, tv, _, c2, _⟩ := h2.at j hj
      have e : m.slots.getD (j : Int).toNat default = m.slots[j] := by simp [List.getD, hj]
      rw [e] at hp
      rw [hp] at c2
      exact pageOf_slot m.guest ra _ rc sb so _ sc fa _ fc na _ nc j p w hj1 hj hsb c2

set_option maxHeartbeats 1000000 in
theorem readOf_at (gm : Int) (ra : Option Addr) (rn rc : Nat) (sa : Option Addr) (sn sc : Nat) (fa : Option Addr) (fn fc : Nat) (na : Option Addr) (nn nc : Nat) (m : ImgD) (n : Int) (w : World) (h : Img w (.agg #[.int .i64 gm, .slice ra rn rc, .slice sa sn sc, .slice fa fn fc, .slice na nn nc]) m) (hE : lookE m n = 0) (p : ByteArray) (hp : pageV m.slots (lookV m m.root n.toNat) = p) :
    Calls Try.prog 19 #[.agg #[.int .i64 gm, .slice ra rn rc, .slice sa sn sc, .slice fa fn fc, .slice na nn nc], .int .i64 n] w fun r w' => r = .returned (.string p) ∧ Below w.heap.size w w' := by
  have b0 : Below w.heap.size w (w.alloc (.cells #[.int .i64 gm, .slice ra rn rc, .slice sa sn sc, .slice fa fn fc, .slice na nn nc] 26)) := (Below.refl _ _).alloc (Nat.le_refl _) _
  have m0 : (w.alloc (.cells #[.int .i64 gm, .slice ra rn rc, .slice sa sn sc, .slice fa fn fc, .slice na nn nc] 26)).heap[w.heap.size]? = some (.cells #[.int .i64 gm, .slice ra rn rc, .slice sa sn sc, .slice fa fn fc, .slice na nn nc] 26) := World.alloc_heap_new _ _
  have z0 : w.heap.size < (w.alloc (.cells #[.int .i64 gm, .slice ra rn rc, .slice sa sn sc, .slice fa fn fc, .slice na nn nc] 26)).heap.size := by simp
  obtain ⟨c, hc⟩ : ∃ c, lookV m m.root n.toNat = c := ⟨_, rfl⟩
  have h1 := fun W (hW : Below w.heap.size w W) => lookOf_is (h.below hW) n hE hc
  have hent := look_ent hE
  rw [hc] at hent hp
  have h2 := fun W (hW : Below w.heap.size w W) => pageOf_is (h.below hW) hent hp
  obtain ⟨c0, c1, c2, c3, c4⟩ := five m0
  clear h hE hent hp hc
  go_enter Try.func19, Try.ntmps19
  go_wp2_with fail
  go_region_held3 (fun w' => w'.cell? ⟨w.heap.size, 0, none⟩ = some (.int .i64 gm) ∧ w'.cell? ⟨w.heap.size, 0 + 1, none⟩ = some (.slice ra rn rc) ∧ w'.cell? ⟨w.heap.size, 0 + 1 + 1, none⟩ = some (.slice sa sn sc) ∧ w'.cell? ⟨w.heap.size, 0 + 1 + 1 + 1, none⟩ = some (.slice fa fn fc) ∧ w'.cell? ⟨w.heap.size, 0 + 1 + 1 + 1 + 1, none⟩ = some (.slice na nn nc)) (first | exact ⟨f0, f1, f2, f3, f4⟩ | exact ⟨d0, d1, d2, d3, d4⟩ | exact ⟨c0, c1, c2, c3, c4⟩)
    (first
    | (go_at_call 50; refine (h1 _ (to_drew b0)).mono ?_; rintro e w1 ⟨rfl, b1⟩; have b1 := below_drew b1; have m1 := cells_below m0 b1 z0; have hB1 := Below.on b0 b1; have z1 := (Array.getElem?_eq_some_iff.1 m1).1; obtain ⟨d0, d1, d2, d3, d4⟩ := five m1)
    | (go_at_call 49; refine (h2 _ hB1).mono ?_; rintro e w2 ⟨rfl, b2⟩; have m2 := cells_below m1 b2 z1; have hB2 := Below.on hB1 b2; obtain ⟨f0, f1, f2, f3, f4⟩ := five m2))
  go_wp2_with fail
  go_ret
  exact ⟨rfl, hB2⟩
theorem readOf_is {w : World} {v : Value} {m : ImgD} (h : Img w v m) (n : Int) (hE : lookE m n = 0) {p : ByteArray} (hp : readV m n = p) :
    Calls Try.prog 19 #[v, .int .i64 n] w fun r w' => r = .returned (.string p) ∧ Below w.heap.size w w' := by
  have h' := h
  obtain ⟨ra, rc, sa, sc, fa, fc, na, nc, rfl, _⟩ := h.parts
  unfold readV at hp
  rw [if_pos hE] at hp
  exact readOf_at m.guest ra _ rc sa _ sc fa _ fc na _ nc m n w h' hE p hp

theorem allP_snoc (m : ImgD) (root : List Int) (k : Nat) : allP m root (k + 1) = allP m root k ++ [pageV m.slots (lookV m root k)] := by simp [allP, List.range_succ]
set_option maxHeartbeats 2000000 in
theorem allOf_at (gm : Nat) (ra : Option Addr) (rn rc : Nat) (sa : Option Addr) (sn sc : Nat) (fa : Option Addr) (fn fc : Nat) (na : Option Addr) (nn nc : Nat) (m : ImgD) (w : World) (h : Img w (.agg #[.int .i64 gm, .slice ra rn rc, .slice sa sn sc, .slice fa fn fc, .slice na nn nc]) m) (hgm : m.guest = gm) (hC : checkE m = 0) :
    Calls Try.prog 20 #[.agg #[.int .i64 gm, .slice ra rn rc, .slice sa sn sc, .slice fa fn fc, .slice na nn nc]] w fun r w' => (∃ v, r = .returned v ∧ Ss w' v (allP m m.root gm)) ∧ Below w.heap.size w w' := by
  have b0 : Below w.heap.size w (w.alloc (.cells #[.int .i64 gm, .slice ra rn rc, .slice sa sn sc, .slice fa fn fc, .slice na nn nc] 26)) := (Below.refl _ _).alloc (Nat.le_refl _) _
  have m0 : (w.alloc (.cells #[.int .i64 gm, .slice ra rn rc, .slice sa sn sc, .slice fa fn fc, .slice na nn nc] 26)).heap[w.heap.size]? = some (.cells #[.int .i64 gm, .slice ra rn rc, .slice sa sn sc, .slice fa fn fc, .slice na nn nc] 26) := World.alloc_heap_new _ _
  have z0 : w.heap.size < (w.alloc (.cells #[.int .i64 gm, .slice ra rn rc, .slice sa sn sc, .slice fa fn fc, .slice na nn nc] 26)).heap.size := by simp
  have hg := guest_ok (checkE_shape hC)
  have hg16 : gm ≤ 16 := by omega
  have H1 : Hid (Img w (.agg #[.int .i64 gm, .slice ra rn rc, .slice sa sn sc, .slice fa fn fc, .slice na nn nc]) m ∧ checkE m = 0 ∧ m.guest = gm) := ⟨h, hC, hgm⟩
  clear h hgm hC hg
  go_enter Try.func20, Try.ntmps20
  go_wp2_with fail
  go_loopw [3, 4] (fun l i wq => ∃ k : Nat, k ≤ gm ∧ i = .int .i64 k ∧ Hid (wq.ownsRow (w.heap.size + 1) 9 1 l (allP m m.root k).length ((allP m m.root k).map Value.string)) ∧ (w.heap.size + 1 ≤ wq.heap.size ∧ Below (w.heap.size + 1) (w.alloc (.cells #[.int .i64 gm, .slice ra rn rc, .slice sa sn sc, .slice fa fn fc, .slice na nn nc] 26)) wq)) (fun _ i _ => gm - (intOf i).toNat)
  case atStart => exact ⟨0, Nat.zero_le _, rfl, (by show World.ownsRow _ _ _ _ _ _ _; exact ⟨rfl, .inl ⟨rfl, rfl⟩⟩), by simp, Below.refl _ _⟩
  case round =>
    obtain ⟨k, hk, rfl, HO, hz, hbel⟩ := hrel
    have mr := cells_below m0 hbel (by omega)
    obtain ⟨c0, c1, c2, c3, c4⟩ := five mr
    have hbw : Below w.heap.size w wr := b0.trans (hbel.mono (by omega))
    by_cases hlk : k < gm
    · have hki : (k : Int) < (gm : Int) := by omega
      have hle := lookE_of H1.out.2.1 (k := k) (by rw [H1.out.2.2]; exact hki)
      have hcall := readOf_is (H1.out.1.below hbw) (k : Int) hle (p := pageV m.slots (lookV m m.root k)) (by unfold readV; rw [if_pos hle]; rfl)
      have HS := allP_snoc m m.root k
      obtain ⟨p, hp⟩ : ∃ p, pageV m.slots (lookV m m.root k) = p := ⟨_, rfl⟩
      rw [hp] at hcall HS
      have HSn : Hid (allP m m.root (k + 1) = allP m m.root k ++ [p]) := HS
      have hll : (allP m m.root k).length ≤ 1000 := by rw [allP_length]; omega
      clear hp HS hle
      go_wp2_with (first | (go_at_call 19; refine hcall.mono ?_; rintro e w1 ⟨rfl, b1⟩; have HO1 : Hid (w1.ownsRow (w.heap.size + 1) 9 1 _ (allP m m.root k).length ((allP m m.root k).map Value.string)) := owns_below HO.out b1; have hb1 := Below.on'' hbel b1 hz; have hz1 : w.heap.size + 1 ≤ w1.heap.size := Nat.le_trans hz b1.size) | (at_builtin; refine app_str (by rfl) _ _ (by rfl) _ (allP m m.root k) _ (w.heap.size + 1) (by rfl) (by rfl) HO1.out hll hz1 hb1 ?_; intro v' w2 HO' hbel' hB'))
      go_roundw
      case rel => exact ⟨k + 1, by omega, by go_num, by rw [HSn.out]; exact HO', hB', hbel'⟩
      case measure => simp [intOf]; omega
    · have e4 : k = gm := by omega
      subst e4
      go_wp2_with fail
      go_ret
      exact ⟨⟨_, rfl, Ss_of_owns HO.out⟩, hbw⟩
theorem allOf_is {w : World} {v : Value} {m : ImgD} (h : Img w v m) (hC : checkE m = 0) {l : List ByteArray} (hl : allV m = l) :
    Calls Try.prog 20 #[v] w fun r w' => (∃ v, r = .returned v ∧ Ss w' v l) ∧ Below w.heap.size w w' := by
  have h' := h
  obtain ⟨ra, rc, sa, sc, fa, fc, na, nc, rfl, _⟩ := h.parts
  unfold allV at hl
  rw [if_pos hC] at hl
  have hg := guest_ok (checkE_shape hC)
  obtain ⟨k, hk⟩ : ∃ k : Nat, m.guest = k := ⟨m.guest.toNat, by omega⟩
  rw [hk, Int.toNat_natCast] at hl
  subst hl
  rw [hk] at h' ⊢
  exact allOf_at k ra _ rc sa _ sc fa _ fc na _ nc m w h' hk hC

set_option maxHeartbeats 1000000 in
theorem snapAt_at (gm : Int) (ra : Option Addr) (rn rc : Nat) (sa : Option Addr) (sn sc : Nat) (fa : Option Addr) (fn fc : Nat) (na : Option Addr) (nn nc : Nat) (S : List SnapD) (nm : ByteArray) (w : World) (hN : Snaps w (.slice na nn nc) S) (hnn : S.length = nn) (hn3 : nn ≤ 1000) (i : Int) (hi : ixOf (snapIx S nm) = i) :
    Calls Try.prog 51 #[.agg #[.int .i64 gm, .slice ra rn rc, .slice sa sn sc, .slice fa fn fc, .slice na nn nc], .string nm] w fun r w' => r = .returned (.int .i64 i) ∧ Below w.heap.size w w' := by
  have b0 : Below w.heap.size w (w.alloc (.cells #[.int .i64 gm, .slice ra rn rc, .slice sa sn sc, .slice fa fn fc, .slice na nn nc] 26)) := (Below.refl _ _).alloc (Nat.le_refl _) _
  have m0 : (w.alloc (.cells #[.int .i64 gm, .slice ra rn rc, .slice sa sn sc, .slice fa fn fc, .slice na nn nc] 26)).heap[w.heap.size]? = some (.cells #[.int .i64 gm, .slice ra rn rc, .slice sa sn sc, .slice fa fn fc, .slice na nn nc] 26) := World.alloc_heap_new _ _
  have z0 : w.heap.size < (w.alloc (.cells #[.int .i64 gm, .slice ra rn rc, .slice sa sn sc, .slice fa fn fc, .slice na nn nc] 26)).heap.size := by simp
  have H1 : Hid (Snaps w (.slice na nn nc) S ∧ S.length = nn ∧ ixOf (snapIx S nm) = i) := ⟨hN, hnn, hi⟩
  obtain ⟨c0, c1, c2, c3, c4⟩ := five m0
  clear hN hnn hi
  go_enter Try.func51, Try.ntmps51
  go_wp2_with fail
  go_loopw [5] (fun i wq => ∃ k : Nat, k ≤ nn ∧ i = .int .i64 k ∧ Hid (∀ j, (h : j < S.length) → j < k → (S[j].1.toList == nm.toList) = false) ∧ wq = (w.alloc (.cells #[.int .i64 gm, .slice ra rn rc, .slice sa sn sc, .slice fa fn fc, .slice na nn nc] 26))) (fun i _ => nn - (intOf i).toNat)
  case atStart => exact ⟨0, Nat.zero_le _, rfl, fun j h hj => absurd hj (by omega), rfl⟩
  case round =>
    obtain ⟨k, hk, rfl, HA, hw⟩ := hrel
    subst hw
    by_cases hlk : k < nn
    · have hkL : k < S.length := by rw [H1.out.2.1]; exact hlk
      obtain ⟨b, off, rfl, hlt, hS⟩ := H1.out.1.at k hkL
      have hki : (k : Int) < (nn : Int) := by omega
      obtain ⟨s, hs⟩ : ∃ s, s = S[k] := ⟨_, rfl⟩
      obtain ⟨kk, dd, tt⟩ := s
      rw [← hs] at hS
      obtain ⟨tv, s1, _⟩ := hS
      have HX : Hid (S[k] = (kk, dd, tt)) := hs.symm
      have s1 := (b0.cell (p := ⟨b, off + k * 3, none⟩) hlt).trans s1
      clear hs
      cases hq : kk.toList == nm.toList with
      | true =>
        go_wp2_with fail
        go_ret
        exact ⟨by rw [← H1.out.2.2]; unfold snapIx; rw [find_hit (p := fun s => s.1.toList == nm.toList) hkL (by rw [HX.out]; exact hq) HA.out]; rfl, b0⟩
      | false =>
        go_wp2_with fail
        go_roundw
        case rel => exact ⟨k + 1, by omega, by go_num, fun j h hj => by
          by_cases e : j = k
          · subst e; rw [HX.out]; exact hq
          · exact HA.out j h (by omega), trivial⟩
        case measure => simp [intOf]; omega
    · have e4 : k = nn := by omega
      subst e4
      go_wp2_with fail
      go_ret
      exact ⟨by rw [← H1.out.2.2]; unfold snapIx; rw [find_none (p := fun s => s.1.toList == nm.toList) (fun j hj => HA.out j hj (by rw [H1.out.2.1] at hj; exact hj))]; rfl, b0⟩
theorem snapAt_is {w : World} {v : Value} {m : ImgD} (h : Img w v m) (nm : ByteArray) (hn : m.snaps.length ≤ 1000) {i : Int} (hi : ixOf (snapIx m.snaps nm) = i) :
    Calls Try.prog 51 #[v, .string nm] w fun r w' => r = .returned (.int .i64 i) ∧ Below w.heap.size w w' := by
  obtain ⟨ra, rc, sa, sc, fa, fc, na, nc, rfl, h1, h2, h3, h4⟩ := h.parts
  exact snapAt_at m.guest ra _ rc sa _ sc fa _ fc na _ nc m.snaps nm w h4 rfl hn i hi
end Go.Proofs.Ytehleeibgkpjmac
/- Contract of the document's PastOf. -/
namespace Go.Proofs.Ytehleeibgkpjmac
open Go.RowKit Go.Shelf
set_option maxRecDepth 20000

theorem app_step {w0 w : World} {ops : Array Oper} {o : Oper} {a : Act} {K : Act → World → Prop} {Q : Exit → Act → World → Prop} {E : Prop} (hgd : o.guard = none) (s x : Operand)
    (ho : o.op = .call { callee := .builtin .append, args := #[s, x], argTypes := #[40, 40] }) (v : Value) (xs : List ByteArray) (y : ByteArray) (B : Nat) (hs : a.eval s = v) (hx : a.eval x = .slice (some ⟨w.heap.size, 0, none⟩) 1 1)
    (hown : w.ownsRow B 9 1 v xs.length (xs.map Value.string)) (hl : xs.length ≤ 1000) (hB : B ≤ w.heap.size) (hbel : Below B w0 w)
    (h : ∀ v' w', Hid (w'.ownsRow B 9 1 v' (xs ++ [y]).length ((xs ++ [y]).map Value.string)) → Below B w0 w' → B ≤ w'.heap.size → K (a.put o.dst v') w') :
    if Region.wanted o (yielded ops a.tmps) = true then Oper.wp Try.prog o a (w.alloc (.cells #[.string y] 9)) K Q else E := by
  obtain ⟨i0, hi, hz0, hz1, hz2⟩ := info_parts Try.info9
  refine step_append_lies (w.alloc (.cells #[.string y] 9)) hgd s x 40 ho B 9 i0 (.string ByteArray.empty) 1 16 Try.underlying40 hi hz0 hz1 hz2 rfl (by decide) v xs.length _ hs (hown.alloc _) ⟨w.heap.size, 0, none⟩ 1 1 [.string y] hx rfl (one_new w y) (by intro u hu; simp at hu; subst hu; rfl) (by decide) (by unfold maxLen; omega) (by omega) (by simp; omega) _ rfl ?_
  intro g cap w' hown' hgrow _ _
  have hz : w.heap.size ≤ w'.heap.size := Nat.le_trans (by simp) hgrow.size
  refine h _ w' ?_ ((hbel.alloc hB _).grown hgrow (by simp; omega) ?_) (Nat.le_trans hB hz)
  · show w'.ownsRow _ _ _ _ _ _
    rw [List.map_append, List.length_append]; exact hown'
  · intro k hk
    exact (hown.lt k hk).1

theorem pastOf_bad (gm : Int) (ra : Option Addr) (rn rc : Nat) (sa : Option Addr) (sn sc : Nat) (fa : Option Addr) (fn fc : Nat) (na : Option Addr) (nn nc : Nat) (m : ImgD) (nm : ByteArray) (E : Int) (w : World) (h : Img w (.agg #[.int .i64 gm, .slice ra rn rc, .slice sa sn sc, .slice fa fn fc, .slice na nn nc]) m) (hE : checkE m = E) (hne : (E != 0) = true) :
    Calls Try.prog 21 #[.agg #[.int .i64 gm, .slice ra rn rc, .slice sa sn sc, .slice fa fn fc, .slice na nn nc], .string nm] w fun r w' => r = .returned (.tuple #[.slice none 0 0, .int .i64 E]) ∧ Below w.heap.size w w' := by
  have b0 : Below w.heap.size w (w.alloc (.cells #[.int .i64 gm, .slice ra rn rc, .slice sa sn sc, .slice fa fn fc, .slice na nn nc] 26)) := (Below.refl _ _).alloc (Nat.le_refl _) _
  have m0 : (w.alloc (.cells #[.int .i64 gm, .slice ra rn rc, .slice sa sn sc, .slice fa fn fc, .slice na nn nc] 26)).heap[w.heap.size]? = some (.cells #[.int .i64 gm, .slice ra rn rc, .slice sa sn sc, .slice fa fn fc, .slice na nn nc] 26) := World.alloc_heap_new _ _
  have z0 : w.heap.size < (w.alloc (.cells #[.int .i64 gm, .slice ra rn rc, .slice sa sn sc, .slice fa fn fc, .slice na nn nc] 26)).heap.size := by simp
  have h1 := checkImage_is (h.below b0) hE
  clear h hE
  go_enter Try.func21, Try.ntmps21
  go_wp2_with fail
  refine h1.mono ?_
  rintro e w1 ⟨rfl, b1⟩
  go_wp2_with fail
  go_ret2
  exact ⟨rfl, Below.on b0 b1⟩
theorem pastOf_none (gm : Int) (ra : Option Addr) (rn rc : Nat) (sa : Option Addr) (sn sc : Nat) (fa : Option Addr) (fn fc : Nat) (na : Option Addr) (nn nc : Nat) (m : ImgD) (nm : ByteArray) (w : World) (h : Img w (.agg #[.int .i64 gm, .slice ra rn rc, .slice sa sn sc, .slice fa fn fc, .slice na nn nc]) m) (hC : checkE m = 0) (hsi : snapIx m.snaps nm = none) :
    Calls Try.prog 21 #[.agg #[.int .i64 gm, .slice ra rn rc, .slice sa sn sc, .slice fa fn fc, .slice na nn nc], .string nm] w fun r w' => r = .returned (.tuple #[.slice none 0 0, .int .i64 5]) ∧ Below w.heap.size w w' := by
  have b0 : Below w.heap.size w (w.alloc (.cells #[.int .i64 gm, .slice ra rn rc, .slice sa sn sc, .slice fa fn fc, .slice na nn nc] 26)) := (Below.refl _ _).alloc (Nat.le_refl _) _
  have m0 : (w.alloc (.cells #[.int .i64 gm, .slice ra rn rc, .slice sa sn sc, .slice fa fn fc, .slice na nn nc] 26)).heap[w.heap.size]? = some (.cells #[.int .i64 gm, .slice ra rn rc, .slice sa sn sc, .slice fa fn fc, .slice na nn nc] 26) := World.alloc_heap_new _ _
  have z0 : w.heap.size < (w.alloc (.cells #[.int .i64 gm, .slice ra rn rc, .slice sa sn sc, .slice fa fn fc, .slice na nn nc] 26)).heap.size := by simp
  have h1 := checkImage_is (h.below b0) hC
  have h2 := fun W (hW : Below w.heap.size w W) => snapAt_is (h.below hW) nm (by have := (shapeE_zero (checkE_shape hC)).1; omega) (i := -1) (by rw [hsi]; rfl)
  clear h hC hsi
  go_enter Try.func21, Try.ntmps21
  go_wp2_with fail
  refine h1.mono ?_
  rintro e w1 ⟨rfl, b1⟩
  have m1 := cells_below m0 b1 z0
  obtain ⟨a0, a1, a2, a3, a4⟩ := five m1
  have hB1 := Below.on b0 b1
  clear h1
  go_wp2_with fail
  refine (h2 _ hB1).mono ?_
  rintro e w2 ⟨rfl, b2⟩
  go_wp2_with fail
  go_ret2
  exact ⟨rfl, Below.on hB1 b2⟩
set_option maxHeartbeats 4000000 in
theorem pastOf_at (gm : Int) (ra : Option Addr) (rn rc : Nat) (sa : Option Addr) (sn sc : Nat) (fa : Option Addr) (fn fc : Nat) (b off : Nat) (nn nc : Nat) (m : ImgD) (nm : ByteArray) (k : Nat) (sm : ByteArray) (sg : Nat) (sr : List Int) (va : Option Addr) (vc : Nat) (w : World) (h : Img w (.agg #[.int .i64 gm, .slice ra rn rc, .slice sa sn sc, .slice fa fn fc, .slice (some ⟨b, off, none⟩) nn nc]) m) (hC : checkE m = 0) (hsi : snapIx m.snaps nm = some k) (hk : k < nn) (hkm : k < m.snaps.length) (hs : m.snaps[k] = (sm, (sg : Int), sr)) (hb : b < w.heap.size)
    (s2 : w.cell? ⟨b, off + k * 3 + 1, none⟩ = some (.int .i64 sg)) (s3 : w.cell? ⟨b, off + k * 3 + 2, none⟩ = some (.slice va sr.length vc)) (hsl : Sl w (.slice va sr.length vc) sr) :
    Calls Try.prog 21 #[.agg #[.int .i64 gm, .slice ra rn rc, .slice sa sn sc, .slice fa fn fc, .slice (some ⟨b, off, none⟩) nn nc], .string nm] w fun r w' => (∃ v, r = .returned (.tuple #[v, .int .i64 0]) ∧ Ss w' v (allP m sr sg)) ∧ Below w.heap.size w w' := by
  have b0 : Below w.heap.size w (w.alloc (.cells #[.int .i64 gm, .slice ra rn rc, .slice sa sn sc, .slice fa fn fc, .slice (some ⟨b, off, none⟩) nn nc] 26)) := (Below.refl _ _).alloc (Nat.le_refl _) _
  have m0 : (w.alloc (.cells #[.int .i64 gm, .slice ra rn rc, .slice sa sn sc, .slice fa fn fc, .slice (some ⟨b, off, none⟩) nn nc] 26)).heap[w.heap.size]? = some (.cells #[.int .i64 gm, .slice ra rn rc, .slice sa sn sc, .slice fa fn fc, .slice (some ⟨b, off, none⟩) nn nc] 26) := World.alloc_heap_new _ _
  have z0 : w.heap.size < (w.alloc (.cells #[.int .i64 gm, .slice ra rn rc, .slice sa sn sc, .slice fa fn fc, .slice (some ⟨b, off, none⟩) nn nc] 26)).heap.size := by simp
  have hE := checkE_shape hC
  have hmem : (sm, (sg : Int), sr) ∈ rootsOf m := List.mem_cons_of_mem _ (by rw [← hs]; exact List.getElem_mem hkm)
  have hgg := List.all_eq_true.1 (shapeE_zero hE).2.2.2.2.1 _ hmem
  have hrr := List.all_eq_true.1 (shapeE_zero hE).2.2.2.2.2.2 _ hmem
  dsimp only at hgg hrr
  unfold guestOK at hgg
  unfold rootFit at hrr
  simp only [Bool.and_eq_true, decide_eq_true_eq] at hgg hrr
  have hg16 : sg ≤ 16 := by omega
  have h1 := checkImage_is (h.below b0) hC
  have h2 := fun W (hW : Below w.heap.size w W) => snapAt_is (h.below hW) nm (by have := (shapeE_zero hE).1; omega) (i := (k : Int)) (by rw [hsi]; rfl)
  have H3 : Hid (∀ W, Below w.heap.size w W → ∀ q : Nat, q < sg → Calls Try.prog 52 #[.agg #[.int .i64 gm, .slice ra rn rc, .slice sa sn sc, .slice fa fn fc, .slice (some ⟨b, off, none⟩) nn nc], .slice va sr.length vc, .int .i64 q] W fun r w' => r = .returned (.int .i64 (lookV m sr q)) ∧ Below W.heap.size W w') :=
    fun W hW q hq => lookR_is (h.below hW) (hsl.below hW) (shapeE_zero hE).2.1 hrr.2.1 q (by omega) (by omega) rfl
  have H4 : Hid (∀ W, Below w.heap.size w W → ∀ q : Nat, q < sg → Calls Try.prog 49 #[.agg #[.int .i64 gm, .slice ra rn rc, .slice sa sn sc, .slice fa fn fc, .slice (some ⟨b, off, none⟩) nn nc], .int .i64 (lookV m sr q)] W fun r w' => r = .returned (.string (pageV m.slots (lookV m sr q))) ∧ Below W.heap.size W w') :=
    fun W hW q hq => pageOf_is (h.below hW) ((lookV_ent hE hrr.2.1 q (by omega)).imp id (Or.imp id (fun ⟨j, a, b, c, _⟩ => ⟨j, a, b, c⟩))) rfl
  have hki : (k : Int) < (nn : Int) := by omega
  have hk0 : ¬ (k : Int) < 0 := by omega
  clear h hE hmem hgg hrr hC hsi hs hsl
  go_enter Try.func21, Try.ntmps21
  go_wp2_with fail
  refine h1.mono ?_
  rintro e w1 ⟨rfl, b1⟩
  have m1 := cells_below m0 b1 z0
  obtain ⟨a0, a1, a2, a3, a4⟩ := five m1
  have hB1 := Below.on b0 b1
  clear h1
  go_wp2_with fail
  refine (h2 _ hB1).mono ?_
  rintro e w2 ⟨rfl, b2⟩
  have m2 := cells_below m1 b2 (Array.getElem?_eq_some_iff.1 m1).1
  have z2 := (Array.getElem?_eq_some_iff.1 m2).1
  have hB2 := Below.on hB1 b2
  clear h2 a0 a1 a2 a3 a4
  go_wp2_with fail
  go_loopw [8, 9] (fun l i wq => ∃ q : Nat, q ≤ sg ∧ i = .int .i64 q ∧ Hid (wq.ownsRow w2.heap.size 9 1 l (allP m sr q).length ((allP m sr q).map Value.string)) ∧ (w2.heap.size ≤ wq.heap.size ∧ Below w2.heap.size w2 wq)) (fun _ i _ => sg - (intOf i).toNat)
  case atStart => exact ⟨0, Nat.zero_le _, rfl, (by show World.ownsRow _ _ _ _ _ _ _; exact ⟨rfl, .inl ⟨rfl, rfl⟩⟩), Nat.le_refl _, Below.refl _ _⟩
  case round =>
    obtain ⟨q, hq, rfl, HO, hz, hbel⟩ := hrel
    have mr := cells_below m2 hbel z2
    have zr := (Array.getElem?_eq_some_iff.1 mr).1
    obtain ⟨c0, c1, c2, c3, c4⟩ := five mr
    have hbw := Below.on hB2 hbel
    have t2 := (hbw.cell (p := ⟨b, off + k * 3 + 1, none⟩) hb).trans s2
    have t3 := (hbw.cell (p := ⟨b, off + k * 3 + 2, none⟩) hb).trans s3
    have hbr : b < wr.heap.size := Nat.lt_of_lt_of_le hb hbw.size
    by_cases hlq : q < sg
    · have hqi : (q : Int) < (sg : Int) := by omega
      have hl1 := fun W hW => H3.out W hW q hlq
      have hl2 := fun W hW => H4.out W hW q hlq
      have HS := allP_snoc m sr q
      obtain ⟨c, hc⟩ : ∃ c, lookV m sr q = c := ⟨_, rfl⟩
      rw [hc] at hl1 hl2 HS
      obtain ⟨p, hp⟩ : ∃ p, pageV m.slots c = p := ⟨_, rfl⟩
      rw [hp] at hl2 HS
      have HSn : Hid (allP m sr (q + 1) = allP m sr q ++ [p]) := HS
      have hll : (allP m sr q).length ≤ 1000 := by rw [allP_length]; omega
      clear hp hc HS
      go_wp2_with fail
      go_region_held3 (fun w' => w'.cell? ⟨w.heap.size, 0, none⟩ = some (.int .i64 gm) ∧ w'.cell? ⟨w.heap.size, 0 + 1, none⟩ = some (.slice ra rn rc) ∧ w'.cell? ⟨w.heap.size, 0 + 1 + 1, none⟩ = some (.slice sa sn sc) ∧ w'.cell? ⟨w.heap.size, 0 + 1 + 1 + 1, none⟩ = some (.slice fa fn fc) ∧ w'.cell? ⟨w.heap.size, 0 + 1 + 1 + 1 + 1, none⟩ = some (.slice (some ⟨b, off, none⟩) nn nc) ∧ w'.cell? ⟨b, off + k * 3 + 2, none⟩ = some (.slice va sr.length vc)) (first | exact ⟨h50, h51, h52, h53, h54, t5⟩ | exact ⟨g40, g41, g42, g43, g44, t6⟩ | exact ⟨f40, f41, f42, f43, f44, t4⟩ | exact ⟨d30, d31, d32, d33, d34, t3'⟩ | exact ⟨c0, c1, c2, c3, c4, t3⟩)
        (first
        | (go_at_call 52; refine (hl1 _ (to_drew hbw)).mono ?_; rintro e w3 ⟨rfl, b3⟩; have b3 := below_drew b3; have m3 := cells_below mr b3 zr; have z3 := (Array.getElem?_eq_some_iff.1 m3).1; obtain ⟨d30, d31, d32, d33, d34⟩ := five m3; have t3' := (b3.cell (p := ⟨b, off + k * 3 + 2, none⟩) hbr).trans t3; have hB3 := Below.on hbw b3)
        | (go_at_call 49; refine (hl2 _ hB3).mono ?_; rintro e w4 ⟨rfl, b4⟩; have m4 := cells_below m3 b4 z3; obtain ⟨f40, f41, f42, f43, f44⟩ := five m4; obtain ⟨g40, g41, g42, g43, g44⟩ := five (cells_alloc m4 (.cells #[.string p] 9)); have hb3 : b < w3.heap.size := Nat.lt_of_lt_of_le hbr b3.size; have t4 := (b4.cell (p := ⟨b, off + k * 3 + 2, none⟩) hb3).trans t3'; have t6 := (((Below.refl _ w4).alloc (Nat.le_refl _) (.cells #[.string p] 9)).cell (p := ⟨b, off + k * 3 + 2, none⟩) (Nat.lt_of_lt_of_le hb3 b4.size)).trans t4; have hB4 := Below.on hB3 b4; have HO4 : Hid (w4.ownsRow w2.heap.size 9 1 _ (allP m sr q).length ((allP m sr q).map Value.string)) := owns_below HO.out (Below.on b3 b4); have hz4 : w2.heap.size ≤ w4.heap.size := Nat.le_trans hz (Below.on b3 b4).size; have hbel4 : Below w2.heap.size w2 w4 := Below.on hbel (Below.on b3 b4))
        | (refine app_step (by rfl) _ _ (by rfl) _ (allP m sr q) _ w2.heap.size (by rfl) (by rfl) HO4.out hll hz4 hbel4 ?_; intro v' w5 HO' hbel' hB'; have m5 := cells_below m2 hbel' z2; obtain ⟨h50, h51, h52, h53, h54⟩ := five m5; have t5 := ((Below.on hB2 hbel').cell (p := ⟨b, off + k * 3 + 2, none⟩) hb).trans s3))
      go_wp2_with fail
      go_roundw
      case rel => exact ⟨q + 1, by omega, by go_num, by rw [HSn.out]; exact HO', hB', hbel'⟩
      case measure => simp [intOf]; omega
    · have e4 : q = sg := by omega
      subst e4
      go_wp2_with fail
      go_ret2
      exact ⟨⟨_, rfl, Ss_of_owns HO.out⟩, hbw⟩
theorem pastOf_is {w : World} {v : Value} {m : ImgD} (h : Img w v m) (nm : ByteArray) {E : Int} {l : List ByteArray} (hE : pastE m nm = E) (hl : pastV m nm = l) :
    Calls Try.prog 21 #[v, .string nm] w fun r w' => (∃ v, r = .returned (.tuple #[v, .int .i64 E]) ∧ Ss w' v l) ∧ Below w.heap.size w w' := by
  have h' := h
  obtain ⟨ra, rc, sa, sc, fa, fc, na, nc, rfl, h1, h2, h3, h4⟩ := h.parts
  subst hE hl
  by_cases h0 : checkE m = 0
  · unfold pastE pastV
    rw [if_neg (by rw [h0]; simp), if_neg (by rw [h0]; simp)]
    cases hsi : snapIx m.snaps nm with
    | none => exact (pastOf_none m.guest ra _ rc sa _ sc fa _ fc na _ nc m nm w h' h0 hsi).mono fun _ w' h => ⟨⟨_, h.1, Ss.nil w'⟩, h.2⟩
    | some k =>
      dsimp only
      have hk := snapIx_some hsi
      obtain ⟨b, off, rfl, hlt, hSA⟩ := h4.at k hk
      obtain ⟨s, hs⟩ : ∃ s, s = m.snaps[k] := ⟨_, rfl⟩
      obtain ⟨sm, sg, sr⟩ := s
      have eget : m.snaps.getD k default = (sm, sg, sr) := by rw [hs]; simp [List.getD, hk]
      rw [eget]
      rw [← hs] at hSA
      obtain ⟨rv, s1, s2, s3, hsl⟩ := hSA
      obtain ⟨va, vc, rfl⟩ := hsl.form
      have hgg := List.all_eq_true.1 (shapeE_zero (checkE_shape h0)).2.2.2.2.1 (sm, sg, sr) (List.mem_cons_of_mem _ (by rw [hs]; exact List.getElem_mem hk))
      dsimp only at hgg
      unfold guestOK at hgg
      simp only [decide_eq_true_eq] at hgg
      obtain ⟨j, rfl⟩ : ∃ j : Nat, sg = j := ⟨sg.toNat, by omega⟩
      rw [Int.toNat_natCast]
      exact pastOf_at m.guest ra _ rc sa _ sc fa _ fc b off _ nc m nm k sm j sr va vc w h' h0 hsi hk hk hs.symm hlt s2 s3 hsl
  · have e1 : pastE m nm = checkE m := by unfold pastE; rw [if_pos h0]
    have e2 : pastV m nm = [] := by unfold pastV; rw [if_pos h0]
    rw [e1, e2]
    exact (pastOf_bad m.guest ra _ rc sa _ sc fa _ fc na _ nc m nm _ w h' rfl (by simpa using h0)).mono fun _ w' h => ⟨⟨_, h.1, Ss.nil w'⟩, h.2⟩
end Go.Proofs.Ytehleeibgkpjmac
/- Flat images, plainly: what Read, Write and Resize answer, over lists of pages. -/
namespace Go.Proofs.Ytehleeibgkpjmac
open Go.RowKit
set_option maxRecDepth 20000

def atE (xs : List ByteArray) (n : Int) : Int := if ckP xs = 0 then (if 0 ≤ n ∧ n < (xs.length : Int) then 0 else 3) else ckP xs
def freadA (xs : List ByteArray) (n : Int) : ByteArray := if atE xs n = 0 then xs.getD n.toNat ByteArray.empty else ByteArray.empty
def fwE (xs : List ByteArray) (n : Int) (page : ByteArray) : Int := if atE xs n = 0 then (if page.size = 4 then 0 else 1) else atE xs n
def fwA (xs : List ByteArray) (n : Int) (page : ByteArray) : List ByteArray := if fwE xs n page = 0 then xs.set n.toNat page else []
def frE (xs : List ByteArray) (g : Int) : Int := if ckP xs = 0 then (if 0 ≤ g ∧ g ≤ 16 then 0 else 3) else ckP xs
def frR (xs : List ByteArray) (g : Nat) : List ByteArray := xs.take g ++ List.replicate (g - xs.length) Z4
def frA (xs : List ByteArray) (g : Int) : List ByteArray := if frE xs g = 0 then frR xs g.toNat else []

theorem atE_parts {xs : List ByteArray} {n : Int} (h : atE xs n = 0) : ckP xs = 0 ∧ 0 ≤ n ∧ n < (xs.length : Int) := by
  unfold atE at h
  split at h
  · rename_i h0
    split at h
    · rename_i h1; exact ⟨h0, h1⟩
    · simp at h
  · exact absurd h (by assumption)
theorem frR_length (xs : List ByteArray) (g : Nat) : (frR xs g).length = g := by unfold frR; simp; omega
theorem frR_all (xs : List ByteArray) : frR xs xs.length = xs := by unfold frR; simp

/-- c pages as they were, then Zero up to place k, then nothing yet up to n. -/
def rowF (xs : List ByteArray) (c n k : Nat) : List ByteArray := xs.take c ++ List.replicate (k - c) Z4 ++ List.replicate (n - k) ByteArray.empty
theorem rowF_length {xs : List ByteArray} {c n k : Nat} (hc : c ≤ xs.length) (hk : c ≤ k) (hn : k ≤ n) : (rowF xs c n k).length = n := by unfold rowF; simp; omega
theorem rowF_step {xs : List ByteArray} {c n k : Nat} (hc : c ≤ xs.length) (hk : c ≤ k) (hn : k < n) : (rowF xs c n k).set k Z4 = rowF xs c n (k + 1) := by
  unfold rowF
  have hl : (xs.take c ++ List.replicate (k - c) Z4).length = k := by simp; omega
  rw [List.set_append_right _ _ (by omega), hl, Nat.sub_self]
  obtain ⟨d, hd⟩ : ∃ d, n - k = d + 1 := ⟨n - k - 1, by omega⟩
  rw [hd, List.replicate_succ, List.set_cons_zero, show n - (k + 1) = d by omega, show k + 1 - c = (k - c) + 1 by omega, List.replicate_succ', List.append_assoc, List.append_assoc, List.append_assoc]
  rfl
theorem rowF_end {xs : List ByteArray} {n : Nat} : rowF xs (min xs.length n) n n = frR xs n := by
  unfold rowF frR
  rw [Nat.sub_self, List.replicate_zero, List.append_nil]
  congr 1
  · rw [Nat.min_comm, List.take_eq_take_iff]; omega
  · congr 1; omega
end Go.Proofs.Ytehleeibgkpjmac
/- Contracts of checkAt, firstPages, Read, Write and Resize. -/
namespace Go.Proofs.Ytehleeibgkpjmac
open Go.RowKit
set_option maxRecDepth 20000

theorem Try.size9 : (Try.prog.info? 9).map (·.size) = some 1 := by kernel_rfl
theorem strs_oneCell (ss : List ByteArray) : ∀ u ∈ ss.map Value.string, u.oneCell' = true := by
  intro u hu
  obtain ⟨s, _, rfl⟩ := List.mem_map.1 hu
  rfl

/-- What 'copy(out, l)' does, out just made of n strings. -/
theorem scopy_runs (ao : Option Addr) (n cap : Nat) (xs : List ByteArray) (w : World) (h : Ss w (.slice ao xs.length cap) xs) :
    ∃ W2, (Builtin.copy_ #[40, 40] 3 #[.slice (some ⟨w.heap.size, 0, none⟩) n n, .slice ao xs.length cap]).run Try.prog (w.alloc (.cells (madeCells #[.string ByteArray.empty] n) 9)) = .ok (.int .i64 (min xs.length n : Nat)) W2 ∧
      W2.heap[w.heap.size]? = some (.cells ((rowF xs (min xs.length n) n (min xs.length n)).map Value.string).toArray 9 (0, 0)) ∧ Below w.heap.size w W2 := by
  have hg := heap_alloc_new w (.cells (madeCells #[.string ByteArray.empty] n) 9)
  have hrow : (rowF xs (min xs.length n) n (min xs.length n)).map Value.string = (xs.take (min xs.length n)).map Value.string ++ List.replicate (n - min xs.length n) (Value.string ByteArray.empty) := by
    unfold rowF; simp
  have b0 : Below w.heap.size w (w.alloc (.cells (madeCells #[.string ByteArray.empty] n) 9)) := (Below.refl _ _).alloc (Nat.le_refl _) _
  by_cases h0 : min xs.length n = 0
  · have hrun := run_copy_none (P := Try.prog) (w.alloc (.cells (madeCells #[.string ByteArray.empty] n) 9)) 40 40 3 9 (some ⟨w.heap.size, 0, none⟩) ao n n xs.length cap Try.underlying40 Try.size9 h0
    refine ⟨_, hrun.trans (by rw [h0]; rfl), ?_, b0⟩
    rw [hg, hrow, h0]
    congr 2
    apply Array.ext'
    rw [toList_madeCells_one]
    simp
  · obtain ⟨b, off, rfl, hlt, hcell⟩ := h.at (by omega)
    obtain ⟨X, hX⟩ : ∃ X, X = (xs.take (min xs.length n)).map Value.string := ⟨_, rfl⟩
    have hXl : X.length = min xs.length n := by rw [hX]; simp
    have hsrc : ∀ j v, X[j]? = some v → (w.alloc (.cells (madeCells #[.string ByteArray.empty] n) 9)).cell? ((⟨b, off, none⟩ : Addr).add j) = some v := by
      intro j v hj
      have hjn : j < min xs.length n := by have := (List.getElem?_eq_some_iff.1 hj).1; rw [hXl] at this; exact this
      have hjx : j < xs.length := by omega
      rw [hX, List.getElem?_map, List.getElem?_take, if_pos hjn] at hj
      have e : v = .string (xs.getD j ByteArray.empty) := by
        simp [List.getD, hjx] at hj ⊢
        exact hj.symm
      rw [e, addr_add]
      exact (World.cell?_alloc_past _ _ _ hlt).trans (hcell j hjx)
    have hrun := run_copy_row (P := Try.prog) _ 40 40 3 9 w.heap.size 0 n n ⟨b, off, none⟩ xs.length cap _ 9 X Try.underlying40 Try.size9 hg (by rw [hXl]) hsrc (by rw [hXl, size_madeCells]; omega) (by rw [hX]; exact strs_oneCell _)
    refine ⟨_, hrun.trans (by rw [hXl]; rfl), ?_, below_setRow b0 (Nat.le_refl _) _⟩
    rw [setRow_heap _ _ _ _ _ _ hg, hrow, toList_madeCells_one, ← hX]
    simp

end Go.Proofs.Ytehleeibgkpjmac
/- Contracts of Split and of the document's SplitOf: the same pages. -/
namespace Go.Proofs.Ytehleeibgkpjmac
open Go.RowKit
set_option maxRecDepth 20000

/-- What is answered: pages, an error; new memory. -/
def AnsS (w : World) (xs : List ByteArray) (err : Int) (r : Ending) (w' : World) : Prop :=
  ∃ v', r = .returned (.tuple #[v', .int .i64 err]) ∧ Ss w' v' xs ∧ Below w.heap.size w w'
theorem AnsS.bad (w : World) {xs : List ByteArray} {err : Int} (hx : xs = []) : AnsS w xs err (.returned (.tuple #[.slice none 0 0, .int .i64 err])) w :=
  ⟨_, rfl, hx ▸ Ss.nil w, Below.refl _ _⟩

theorem zeros_int (i : Int) (w : World) (h0 : 0 ≤ i) (h4 : i ≤ 4) : Calls Try.prog 106 #[.int .i64 i] w fun r w' => (∃ z : ByteArray, r = .returned (.string z) ∧ (z.size : Int) ≤ 4 ∧ Hid (z = ofBytes (List.replicate i.toNat 0))) ∧ Below w.heap.size w w' := by
  obtain ⟨n, rfl⟩ := Int.eq_ofNat_of_zero_le h0
  refine (zeros_any n w (by omega)).mono fun e w' h => ⟨⟨_, h.1, ?_, by rw [Int.toNat_natCast]; rfl⟩, h.2⟩
  rw [← bytes_size, bytes_of]
  simp; omega

end Go.Proofs.Ytehleeibgkpjmac
/- Contracts of checkAt, Read, Write, Resize, and of the document's FlatRead, FlatWrite, FlatResize. -/
namespace Go.Proofs.Ytehleeibgkpjmac
open Go.RowKit
set_option maxRecDepth 20000

theorem atE_bad {xs : List ByteArray} {n : Int} (h : ckP xs ≠ 0) : atE xs n = ckP xs := by unfold atE; rw [if_neg h]
theorem atE_out {xs : List ByteArray} {n : Int} (h : ckP xs = 0) (hn : ¬ (0 ≤ n ∧ n < (xs.length : Int))) : atE xs n = 3 := by unfold atE; rw [if_pos h, if_neg hn]
theorem atE_in {xs : List ByteArray} {n : Int} (h : ckP xs = 0) (hn : 0 ≤ n ∧ n < (xs.length : Int)) : atE xs n = 0 := by unfold atE; rw [if_pos h, if_pos hn]

theorem checkAt_at (ao : Option Addr) (m cap : Nat) (xs : List ByteArray) (n : Int) (w : World) (h : Ss w (.slice ao m cap) xs) (hm : xs.length = m) :
    Calls Try.prog 54 #[.slice ao m cap, .int .i64 n] w fun r w' => r = .returned (.int .i64 (atE xs n)) ∧ w' = w := by
  by_cases hE : ckP xs = 0
  · have HE : Hid (ckP xs = 0) := hE
    by_cases h0 : n < 0
    · have HA : Hid (atE xs n = 3) := atE_out hE (by omega)
      clear hE hm
      go_enter Try.func54, Try.ntmps54
      go_wp2_with (go_at_call 24; refine (pcheck_is h HE.out).mono ?_; rintro e w' ⟨rfl, hw⟩; subst hw)
      go_ret
      exact ⟨ret_int HA.out.symm, rfl⟩
    by_cases h1 : (m : Int) ≤ n
    · have HA : Hid (atE xs n = 3) := atE_out hE (by omega)
      clear hE hm
      go_enter Try.func54, Try.ntmps54
      go_wp2_with (go_at_call 24; refine (pcheck_is h HE.out).mono ?_; rintro e w' ⟨rfl, hw⟩; subst hw)
      go_ret
      exact ⟨ret_int HA.out.symm, rfl⟩
    · have HA : Hid (atE xs n = 0) := atE_in hE (by omega)
      clear hE hm
      go_enter Try.func54, Try.ntmps54
      go_wp2_with (go_at_call 24; refine (pcheck_is h HE.out).mono ?_; rintro e w' ⟨rfl, hw⟩; subst hw)
      go_ret
      exact ⟨ret_int HA.out.symm, rfl⟩
  · obtain ⟨E, hEE⟩ : ∃ E, ckP xs = E := ⟨_, rfl⟩
    have HE : Hid (ckP xs = E) := hEE
    have HA : Hid (atE xs n = E) := by show _ = _; rw [atE_bad hE]; exact hEE
    have hne : (E != 0) = true := by rw [← hEE]; simpa using hE
    clear hE hm hEE
    go_enter Try.func54, Try.ntmps54
    go_wp2_with (go_at_call 24; refine (pcheck_is h HE.out).mono ?_; rintro e w' ⟨rfl, hw⟩; subst hw)
    go_ret
    exact ⟨ret_int HA.out.symm, rfl⟩

theorem checkAt_is {v : Value} {xs : List ByteArray} {n : Int} {w : World} (h : Ss w v xs) {c : Int} (hc : atE xs n = c) :
    Calls Try.prog 54 #[v, .int .i64 n] w fun r w' => r = .returned (.int .i64 c) ∧ w' = w := by
  subst hc
  obtain ⟨ao, cap, rfl⟩ := h.form
  exact checkAt_at ao _ cap xs n w h rfl

/-- Read. -/
theorem fread_bad (v : Value) (xs : List ByteArray) (n E : Int) (w : World) (h : Ss w v xs) (hE : atE xs n = E) (hne : (E != 0) = true) :
    Calls Try.prog 25 #[v, .int .i64 n] w fun r w' => r = .returned (.tuple #[.string ByteArray.empty, .int .i64 E]) ∧ w' = w := by
  have HE : Hid (atE xs n = E) := hE
  clear hE
  go_enter Try.func25, Try.ntmps25
  go_wp2_with (go_at_call 54; refine (checkAt_is h HE.out).mono ?_; rintro e w' ⟨rfl, hw⟩; subst hw)
  go_ret2
  exact ⟨rfl, rfl⟩
theorem fread_at (b off m cap k : Nat) (xs : List ByteArray) (x : ByteArray) (w : World) (h : Ss w (.slice (some ⟨b, off, none⟩) m cap) xs) (hE : atE xs (k : Int) = 0) (hk : k < m) (hc : w.cell? ⟨b, off + k, none⟩ = some (.string x)) :
    Calls Try.prog 25 #[.slice (some ⟨b, off, none⟩) m cap, .int .i64 k] w fun r w' => r = .returned (.tuple #[.string x, .int .i64 0]) ∧ w' = w := by
  have HE : Hid (atE xs (k : Int) = 0) := hE
  have hki : (k : Int) < (m : Int) := by omega
  clear hE
  go_enter Try.func25, Try.ntmps25
  go_wp2_with (go_at_call 54; refine (checkAt_is h HE.out).mono ?_; rintro e w' ⟨rfl, hw⟩; subst hw)
  go_ret2
  exact ⟨rfl, rfl⟩
theorem fread_any (v : Value) (xs : List ByteArray) (n : Int) (w : World) (h : Ss w v xs) :
    Calls Try.prog 25 #[v, .int .i64 n] w fun r w' => r = .returned (.tuple #[.string (freadA xs n), .int .i64 (atE xs n)]) ∧ w' = w := by
  by_cases hE : atE xs n = 0
  · obtain ⟨_, h0, hn⟩ := atE_parts hE
    obtain ⟨k, rfl⟩ := Int.eq_ofNat_of_zero_le h0
    obtain ⟨ao, cap, rfl⟩ := h.form
    obtain ⟨b, off, rfl, hlt, hcell⟩ := h.at (by omega)
    rw [freadA, if_pos hE, hE, Int.toNat_natCast]
    exact fread_at b off _ cap k xs _ w h hE (by omega) (hcell k (by omega))
  · rw [freadA, if_neg hE]
    exact fread_bad v xs n _ w h rfl (by simpa using hE)
theorem fread_is {v : Value} {xs : List ByteArray} {n : Int} {w : World} (h : Ss w v xs) {p : ByteArray} {c : Int} (hp : freadA xs n = p) (hc : atE xs n = c) :
    Calls Try.prog 25 #[v, .int .i64 n] w fun r w' => r = .returned (.tuple #[.string p, .int .i64 c]) ∧ w' = w := by subst hp; subst hc; exact fread_any v xs n w h

end Go.Proofs.Ytehleeibgkpjmac
/- The walks of ReadsTells and ReadsTrue. -/
namespace Go.Proofs.Ytehleeibgkpjmac
open Go.RowKit Go.Shelf
set_option maxRecDepth 20000

set_option maxHeartbeats 4000000 in
theorem rtells_c (gm : Int) (ra : Option Addr) (rn rc : Nat) (sa : Option Addr) (sn sc : Nat) (fa : Option Addr) (fn fc : Nat) (na : Option Addr) (nn nc : Nat) (m : ImgD) (n : Int) (nm : ByteArray) (w : World) (h : Img w (.agg #[.int .i64 gm, .slice ra rn rc, .slice sa sn sc, .slice fa fn fc, .slice na nn nc]) m) (C : Int) (hC : checkE m = C) (hCb : (C == 0) = false) (hL : lookE m n = C) (p : ByteArray) (hp : readV m n = p) (hpe : p = ⟨#[]⟩) (l : List ByteArray) (hl : allV m = l) (hle : l = []) :
    Calls Try.prog 4 #[.agg #[.int .i64 gm, .slice ra rn rc, .slice sa sn sc, .slice fa fn fc, .slice na nn nc], .int .i64 n, .string nm] w fun r w' => r = .returned (.bool true) ∧ Below w.heap.size w w' := by
  have b0 : Below w.heap.size w (w.alloc (.cells #[.int .i64 gm, .slice ra rn rc, .slice sa sn sc, .slice fa fn fc, .slice na nn nc] 26)) := (Below.refl _ _).alloc (Nat.le_refl _) _
  have m0 : (w.alloc (.cells #[.int .i64 gm, .slice ra rn rc, .slice sa sn sc, .slice fa fn fc, .slice na nn nc] 26)).heap[w.heap.size]? = some (.cells #[.int .i64 gm, .slice ra rn rc, .slice sa sn sc, .slice fa fn fc, .slice na nn nc] 26) := World.alloc_heap_new _ _
  have z0 : w.heap.size < (w.alloc (.cells #[.int .i64 gm, .slice ra rn rc, .slice sa sn sc, .slice fa fn fc, .slice na nn nc] 26)).heap.size := by simp
  subst hpe hle
  obtain ⟨Q, hQ⟩ : ∃ Q, pastE m nm = Q := ⟨_, rfl⟩
  obtain ⟨q, hq⟩ : ∃ q, pastV m nm = q := ⟨_, rfl⟩
  have hread := fun W (hW : Below w.heap.size w W) => read_is (h.below hW) n hL hp
  have hall := fun W (hW : Below w.heap.size w W) => all_is (h.below hW) hC hl
  have hpast := fun W (hW : Below w.heap.size w W) => past_is (h.below hW) nm hQ hq
  have hlooke := fun W (hW : Below w.heap.size w W) => lookErr_is (h.below hW) n hL
  have hchk := fun W (hW : Below w.heap.size w W) => checkImage_is (h.below hW) hC
  have hpastOf := fun W (hW : Below w.heap.size w W) => pastOf_is (h.below hW) nm hQ hq
  clear h hL hp hC hl hQ hq
  go_enter Try.func4, Try.ntmps4
  have hB0 := b0
  obtain ⟨a0, a1, a2, a3, a4⟩ := five m0
  go_wp2_with fail
  refine (hread _ hB0).mono ?_
  rintro e w1 ⟨rfl, b1⟩
  have m1 := cells_below m0 b1 z0
  have z1 := (Array.getElem?_eq_some_iff.1 m1).1
  have hB1 := Below.on hB0 b1
  clear a0 a1 a2 a3 a4
  obtain ⟨a0, a1, a2, a3, a4⟩ := five m1
  go_wp2_with fail
  refine (hall _ hB1).mono ?_
  rintro e w2 ⟨⟨lv, rfl, hlv⟩, b2⟩
  have m2 := cells_below m1 b2 z1
  have z2 := (Array.getElem?_eq_some_iff.1 m2).1
  have hB2 := Below.on hB1 b2
  clear a0 a1 a2 a3 a4
  obtain ⟨a0, a1, a2, a3, a4⟩ := five m2
  go_wp2_with fail
  refine (hpast _ hB2).mono ?_
  rintro e w3 ⟨⟨kv, rfl, hkv⟩, b3⟩
  have m3 := cells_below m2 b3 z2
  have z3 := (Array.getElem?_eq_some_iff.1 m3).1
  have hB3 := Below.on hB2 b3
  replace hlv := hlv.below b3
  clear a0 a1 a2 a3 a4
  obtain ⟨a0, a1, a2, a3, a4⟩ := five m3
  go_wp2_with fail
  refine (hlooke _ hB3).mono ?_
  rintro e w4 ⟨rfl, b4⟩
  have m4 := cells_below m3 b4 z3
  have z4 := (Array.getElem?_eq_some_iff.1 m4).1
  have hB4 := Below.on hB3 b4
  replace hlv := hlv.below b4
  replace hkv := hkv.below b4
  clear a0 a1 a2 a3 a4
  obtain ⟨a0, a1, a2, a3, a4⟩ := five m4
  go_wp2_with fail
  refine (hchk _ hB4).mono ?_
  rintro e w5 ⟨rfl, b5⟩
  have m5 := cells_below m4 b5 z4
  have z5 := (Array.getElem?_eq_some_iff.1 m5).1
  have hB5 := Below.on hB4 b5
  replace hlv := hlv.below b5
  replace hkv := hkv.below b5
  clear a0 a1 a2 a3 a4
  obtain ⟨a0, a1, a2, a3, a4⟩ := five m5
  go_wp2_with fail
  refine (hpastOf _ hB5).mono ?_
  rintro e w6 ⟨⟨ku, rfl, hku⟩, b6⟩
  have m6 := cells_below m5 b6 z5
  have z6 := (Array.getElem?_eq_some_iff.1 m6).1
  have hB6 := Below.on hB5 b6
  replace hlv := hlv.below b6
  replace hkv := hkv.below b6
  clear a0 a1 a2 a3 a4
  go_wp2_with fail
  refine (readsBegun_any _).mono ?_
  rintro e w7 ⟨rfl, b7⟩
  have hB7 := Below.on hB6 b7
  replace hlv := hlv.below b7
  replace hkv := hkv.below b7
  replace hku := hku.below b7
  go_wp2_with fail
  refine (samePages_any hlv (Ss.nil _)).mono ?_
  rintro e w8 ⟨rfl, b8⟩
  have hB8 := Below.on hB7 b8
  replace hlv := hlv.below b8
  replace hkv := hkv.below b8
  replace hku := hku.below b8
  go_wp2_with fail
  refine (samePages_any hkv hku).mono ?_
  rintro e w9 ⟨rfl, b9⟩
  have hB9 := Below.on hB8 b9
  replace hlv := hlv.below b9
  replace hkv := hkv.below b9
  replace hku := hku.below b9
  go_wp2_with fail
  go_ret
  exact ⟨by simp, hB9⟩

set_option maxHeartbeats 4000000 in
theorem rtells_e (gm : Int) (ra : Option Addr) (rn rc : Nat) (sa : Option Addr) (sn sc : Nat) (fa : Option Addr) (fn fc : Nat) (na : Option Addr) (nn nc : Nat) (m : ImgD) (n : Int) (nm : ByteArray) (w : World) (h : Img w (.agg #[.int .i64 gm, .slice ra rn rc, .slice sa sn sc, .slice fa fn fc, .slice na nn nc]) m) (hC : checkE m = 0) (E : Int) (hL : lookE m n = E) (hEb : (E == 0) = false) (p : ByteArray) (hp : readV m n = p) (hpe : p = ⟨#[]⟩) :
    Calls Try.prog 4 #[.agg #[.int .i64 gm, .slice ra rn rc, .slice sa sn sc, .slice fa fn fc, .slice na nn nc], .int .i64 n, .string nm] w fun r w' => r = .returned (.bool true) ∧ Below w.heap.size w w' := by
  have b0 : Below w.heap.size w (w.alloc (.cells #[.int .i64 gm, .slice ra rn rc, .slice sa sn sc, .slice fa fn fc, .slice na nn nc] 26)) := (Below.refl _ _).alloc (Nat.le_refl _) _
  have m0 : (w.alloc (.cells #[.int .i64 gm, .slice ra rn rc, .slice sa sn sc, .slice fa fn fc, .slice na nn nc] 26)).heap[w.heap.size]? = some (.cells #[.int .i64 gm, .slice ra rn rc, .slice sa sn sc, .slice fa fn fc, .slice na nn nc] 26) := World.alloc_heap_new _ _
  have z0 : w.heap.size < (w.alloc (.cells #[.int .i64 gm, .slice ra rn rc, .slice sa sn sc, .slice fa fn fc, .slice na nn nc] 26)).heap.size := by simp
  subst hpe
  obtain ⟨l, hl⟩ : ∃ l, allV m = l := ⟨_, rfl⟩
  obtain ⟨Q, hQ⟩ : ∃ Q, pastE m nm = Q := ⟨_, rfl⟩
  obtain ⟨q, hq⟩ : ∃ q, pastV m nm = q := ⟨_, rfl⟩
  have hread := fun W (hW : Below w.heap.size w W) => read_is (h.below hW) n hL hp
  have hall := fun W (hW : Below w.heap.size w W) => all_is (h.below hW) hC hl
  have hpast := fun W (hW : Below w.heap.size w W) => past_is (h.below hW) nm hQ hq
  have hlooke := fun W (hW : Below w.heap.size w W) => lookErr_is (h.below hW) n hL
  have hchk := fun W (hW : Below w.heap.size w W) => checkImage_is (h.below hW) hC
  have hallOf := fun W (hW : Below w.heap.size w W) => allOf_is (h.below hW) hC hl
  have hpastOf := fun W (hW : Below w.heap.size w W) => pastOf_is (h.below hW) nm hQ hq
  clear h hL hp hC hl hQ hq
  go_enter Try.func4, Try.ntmps4
  have hB0 := b0
  obtain ⟨a0, a1, a2, a3, a4⟩ := five m0
  go_wp2_with fail
  refine (hread _ hB0).mono ?_
  rintro e w1 ⟨rfl, b1⟩
  have m1 := cells_below m0 b1 z0
  have z1 := (Array.getElem?_eq_some_iff.1 m1).1
  have hB1 := Below.on hB0 b1
  clear a0 a1 a2 a3 a4
  obtain ⟨a0, a1, a2, a3, a4⟩ := five m1
  go_wp2_with fail
  refine (hall _ hB1).mono ?_
  rintro e w2 ⟨⟨lv, rfl, hlv⟩, b2⟩
  have m2 := cells_below m1 b2 z1
  have z2 := (Array.getElem?_eq_some_iff.1 m2).1
  have hB2 := Below.on hB1 b2
  clear a0 a1 a2 a3 a4
  obtain ⟨a0, a1, a2, a3, a4⟩ := five m2
  go_wp2_with fail
  refine (hpast _ hB2).mono ?_
  rintro e w3 ⟨⟨kv, rfl, hkv⟩, b3⟩
  have m3 := cells_below m2 b3 z2
  have z3 := (Array.getElem?_eq_some_iff.1 m3).1
  have hB3 := Below.on hB2 b3
  replace hlv := hlv.below b3
  clear a0 a1 a2 a3 a4
  obtain ⟨a0, a1, a2, a3, a4⟩ := five m3
  go_wp2_with fail
  refine (hlooke _ hB3).mono ?_
  rintro e w4 ⟨rfl, b4⟩
  have m4 := cells_below m3 b4 z3
  have z4 := (Array.getElem?_eq_some_iff.1 m4).1
  have hB4 := Below.on hB3 b4
  replace hlv := hlv.below b4
  replace hkv := hkv.below b4
  clear a0 a1 a2 a3 a4
  obtain ⟨a0, a1, a2, a3, a4⟩ := five m4
  go_wp2_with fail
  refine (hchk _ hB4).mono ?_
  rintro e w5 ⟨rfl, b5⟩
  have m5 := cells_below m4 b5 z4
  have z5 := (Array.getElem?_eq_some_iff.1 m5).1
  have hB5 := Below.on hB4 b5
  replace hlv := hlv.below b5
  replace hkv := hkv.below b5
  clear a0 a1 a2 a3 a4
  obtain ⟨a0, a1, a2, a3, a4⟩ := five m5
  go_wp2_with fail
  refine (hallOf _ hB5).mono ?_
  rintro e w6 ⟨⟨lu, rfl, hlu⟩, b6⟩
  have m6 := cells_below m5 b6 z5
  have z6 := (Array.getElem?_eq_some_iff.1 m6).1
  have hB6 := Below.on hB5 b6
  replace hlv := hlv.below b6
  replace hkv := hkv.below b6
  clear a0 a1 a2 a3 a4
  obtain ⟨a0, a1, a2, a3, a4⟩ := five m6
  go_wp2_with fail
  refine (hpastOf _ hB6).mono ?_
  rintro e w7 ⟨⟨ku, rfl, hku⟩, b7⟩
  have m7 := cells_below m6 b7 z6
  have z7 := (Array.getElem?_eq_some_iff.1 m7).1
  have hB7 := Below.on hB6 b7
  replace hlv := hlv.below b7
  replace hkv := hkv.below b7
  replace hlu := hlu.below b7
  clear a0 a1 a2 a3 a4
  go_wp2_with fail
  refine (readsBegun_any _).mono ?_
  rintro e w8 ⟨rfl, b8⟩
  have hB8 := Below.on hB7 b8
  replace hlv := hlv.below b8
  replace hkv := hkv.below b8
  replace hlu := hlu.below b8
  replace hku := hku.below b8
  go_wp2_with fail
  refine (samePages_any hlv hlu).mono ?_
  rintro e w9 ⟨rfl, b9⟩
  have hB9 := Below.on hB8 b9
  replace hlv := hlv.below b9
  replace hkv := hkv.below b9
  replace hlu := hlu.below b9
  replace hku := hku.below b9
  go_wp2_with fail
  refine (samePages_any hkv hku).mono ?_
  rintro e w10 ⟨rfl, b10⟩
  have hB10 := Below.on hB9 b10
  replace hlv := hlv.below b10
  replace hkv := hkv.below b10
  replace hlu := hlu.below b10
  replace hku := hku.below b10
  go_wp2_with fail
  go_ret
  exact ⟨by simp, hB10⟩

set_option maxHeartbeats 4000000 in
theorem rtells_k (gm : Int) (ra : Option Addr) (rn rc : Nat) (sa : Option Addr) (sn sc : Nat) (fa : Option Addr) (fn fc : Nat) (na : Option Addr) (nn nc : Nat) (m : ImgD) (n : Int) (nm : ByteArray) (w : World) (h : Img w (.agg #[.int .i64 gm, .slice ra rn rc, .slice sa sn sc, .slice fa fn fc, .slice na nn nc]) m) (hC : checkE m = 0) (hL : lookE m n = 0) :
    Calls Try.prog 4 #[.agg #[.int .i64 gm, .slice ra rn rc, .slice sa sn sc, .slice fa fn fc, .slice na nn nc], .int .i64 n, .string nm] w fun r w' => r = .returned (.bool true) ∧ Below w.heap.size w w' := by
  have b0 : Below w.heap.size w (w.alloc (.cells #[.int .i64 gm, .slice ra rn rc, .slice sa sn sc, .slice fa fn fc, .slice na nn nc] 26)) := (Below.refl _ _).alloc (Nat.le_refl _) _
  have m0 : (w.alloc (.cells #[.int .i64 gm, .slice ra rn rc, .slice sa sn sc, .slice fa fn fc, .slice na nn nc] 26)).heap[w.heap.size]? = some (.cells #[.int .i64 gm, .slice ra rn rc, .slice sa sn sc, .slice fa fn fc, .slice na nn nc] 26) := World.alloc_heap_new _ _
  have z0 : w.heap.size < (w.alloc (.cells #[.int .i64 gm, .slice ra rn rc, .slice sa sn sc, .slice fa fn fc, .slice na nn nc] 26)).heap.size := by simp
  obtain ⟨p, hp⟩ : ∃ p, readV m n = p := ⟨_, rfl⟩
  obtain ⟨l, hl⟩ : ∃ l, allV m = l := ⟨_, rfl⟩
  obtain ⟨Q, hQ⟩ : ∃ Q, pastE m nm = Q := ⟨_, rfl⟩
  obtain ⟨q, hq⟩ : ∃ q, pastV m nm = q := ⟨_, rfl⟩
  have hread := fun W (hW : Below w.heap.size w W) => read_is (h.below hW) n hL hp
  have hall := fun W (hW : Below w.heap.size w W) => all_is (h.below hW) hC hl
  have hpast := fun W (hW : Below w.heap.size w W) => past_is (h.below hW) nm hQ hq
  have hlooke := fun W (hW : Below w.heap.size w W) => lookErr_is (h.below hW) n hL
  have hchk := fun W (hW : Below w.heap.size w W) => checkImage_is (h.below hW) hC
  have hreadOf := fun W (hW : Below w.heap.size w W) => readOf_is (h.below hW) n hL hp
  have hallOf := fun W (hW : Below w.heap.size w W) => allOf_is (h.below hW) hC hl
  have hpastOf := fun W (hW : Below w.heap.size w W) => pastOf_is (h.below hW) nm hQ hq
  clear h hL hp hC hl hQ hq
  go_enter Try.func4, Try.ntmps4
  have hB0 := b0
  obtain ⟨a0, a1, a2, a3, a4⟩ := five m0
  go_wp2_with fail
  refine (hread _ hB0).mono ?_
  rintro e w1 ⟨rfl, b1⟩
  have m1 := cells_below m0 b1 z0
  have z1 := (Array.getElem?_eq_some_iff.1 m1).1
  have hB1 := Below.on hB0 b1
  clear a0 a1 a2 a3 a4
  obtain ⟨a0, a1, a2, a3, a4⟩ := five m1
  go_wp2_with fail
  refine (hall _ hB1).mono ?_
  rintro e w2 ⟨⟨lv, rfl, hlv⟩, b2⟩
  have m2 := cells_below m1 b2 z1
  have z2 := (Array.getElem?_eq_some_iff.1 m2).1
  have hB2 := Below.on hB1 b2
  clear a0 a1 a2 a3 a4
  obtain ⟨a0, a1, a2, a3, a4⟩ := five m2
  go_wp2_with fail
  refine (hpast _ hB2).mono ?_
  rintro e w3 ⟨⟨kv, rfl, hkv⟩, b3⟩
  have m3 := cells_below m2 b3 z2
  have z3 := (Array.getElem?_eq_some_iff.1 m3).1
  have hB3 := Below.on hB2 b3
  replace hlv := hlv.below b3
  clear a0 a1 a2 a3 a4
  obtain ⟨a0, a1, a2, a3, a4⟩ := five m3
  go_wp2_with fail
  refine (hlooke _ hB3).mono ?_
  rintro e w4 ⟨rfl, b4⟩
  have m4 := cells_below m3 b4 z3
  have z4 := (Array.getElem?_eq_some_iff.1 m4).1
  have hB4 := Below.on hB3 b4
  replace hlv := hlv.below b4
  replace hkv := hkv.below b4
  clear a0 a1 a2 a3 a4
  obtain ⟨a0, a1, a2, a3, a4⟩ := five m4
  go_wp2_with fail
  refine (hchk _ hB4).mono ?_
  rintro e w5 ⟨rfl, b5⟩
  have m5 := cells_below m4 b5 z4
  have z5 := (Array.getElem?_eq_some_iff.1 m5).1
  have hB5 := Below.on hB4 b5
  replace hlv := hlv.below b5
  replace hkv := hkv.below b5
  clear a0 a1 a2 a3 a4
  obtain ⟨a0, a1, a2, a3, a4⟩ := five m5
  go_wp2_with fail
  refine (hreadOf _ hB5).mono ?_
  rintro e w6 ⟨rfl, b6⟩
  have m6 := cells_below m5 b6 z5
  have z6 := (Array.getElem?_eq_some_iff.1 m6).1
  have hB6 := Below.on hB5 b6
  replace hlv := hlv.below b6
  replace hkv := hkv.below b6
  clear a0 a1 a2 a3 a4
  obtain ⟨a0, a1, a2, a3, a4⟩ := five m6
  go_wp2_with fail
  refine (hallOf _ hB6).mono ?_
  rintro e w7 ⟨⟨lu, rfl, hlu⟩, b7⟩
  have m7 := cells_below m6 b7 z6
  have z7 := (Array.getElem?_eq_some_iff.1 m7).1
  have hB7 := Below.on hB6 b7
  replace hlv := hlv.below b7
  replace hkv := hkv.below b7
  clear a0 a1 a2 a3 a4
  obtain ⟨a0, a1, a2, a3, a4⟩ := five m7
  go_wp2_with fail
  refine (hpastOf _ hB7).mono ?_
  rintro e w8 ⟨⟨ku, rfl, hku⟩, b8⟩
  have m8 := cells_below m7 b8 z7
  have z8 := (Array.getElem?_eq_some_iff.1 m8).1
  have hB8 := Below.on hB7 b8
  replace hlv := hlv.below b8
  replace hkv := hkv.below b8
  replace hlu := hlu.below b8
  clear a0 a1 a2 a3 a4
  go_wp2_with fail
  refine (readsBegun_any _).mono ?_
  rintro e w9 ⟨rfl, b9⟩
  have hB9 := Below.on hB8 b9
  replace hlv := hlv.below b9
  replace hkv := hkv.below b9
  replace hlu := hlu.below b9
  replace hku := hku.below b9
  go_wp2_with fail
  refine (samePages_any hlv hlu).mono ?_
  rintro e w10 ⟨rfl, b10⟩
  have hB10 := Below.on hB9 b10
  replace hlv := hlv.below b10
  replace hkv := hkv.below b10
  replace hlu := hlu.below b10
  replace hku := hku.below b10
  go_wp2_with fail
  refine (samePages_any hkv hku).mono ?_
  rintro e w11 ⟨rfl, b11⟩
  have hB11 := Below.on hB10 b11
  replace hlv := hlv.below b11
  replace hkv := hkv.below b11
  replace hlu := hlu.below b11
  replace hku := hku.below b11
  go_wp2_with fail
  go_ret
  exact ⟨by simp, hB11⟩

theorem rtells_is {v : Value} {m : ImgD} {w : World} (h : Img w v m) (n : Int) (nm : ByteArray) : Calls Try.prog 4 #[v, .int .i64 n, .string nm] w fun r w' => r = .returned (.bool true) ∧ Below w.heap.size w w' := by
  have h' := h
  obtain ⟨ra, rc, sa, sc, fa, fc, na, nc, rfl, h1, h2, h3, h4⟩ := h.parts
  by_cases h0 : checkE m = 0
  · by_cases hL : lookE m n = 0
    · exact rtells_k m.guest ra _ rc sa _ sc fa _ fc na _ nc m n nm w h' h0 hL
    · exact rtells_e m.guest ra _ rc sa _ sc fa _ fc na _ nc m n nm w h' h0 _ rfl (by simpa using hL) _ rfl (by unfold readV; rw [if_neg hL]; rfl)
  · have hL : lookE m n = checkE m := by unfold lookE; rw [if_pos h0]
    exact rtells_c m.guest ra _ rc sa _ sc fa _ fc na _ nc m n nm w h' _ rfl (by simpa using h0) hL _ rfl (by unfold readV; rw [if_neg (by rw [hL]; exact h0)]; rfl) _ rfl (by unfold allV; rw [if_neg h0])

/-! ### ReadsTrue -/
theorem pageV_size {m : ImgD} (h : shapeE m = 0) {e : Int} (he : e = 0 ∨ e = -1 ∨ ∃ j : Nat, e = j ∧ 1 ≤ j ∧ j < m.slots.length ∧ kd m.slots j = 1) : (pageV m.slots e).size = 4 := by
  unfold pageV
  rcases he with rfl | rfl | ⟨j, rfl, h1, hj, hk⟩
  · rw [if_pos (by decide)]; rfl
  · rw [if_pos (by decide)]; rfl
  · rw [if_neg (by omega)]
    have e : m.slots.getD (j : Int).toNat default = m.slots[j] := by simp [List.getD, hj]
    rw [e]
    have ok := slotsE_all (shapeE_zero h).2.1 hj
    have hk' : m.slots[j].1 = 1 := by rw [← hk]; unfold kd; simp [List.getD, hj]
    unfold okD slotOK at ok
    rw [if_neg (by rw [hk']; decide), if_pos hk'] at ok
    simp at ok
    exact ok.1
theorem allP_ck {m : ImgD} (h : shapeE m = 0) {root : List Int} {g : Nat} (hg : g ≤ 16) (hall : root.all (rootE m.slots) = true) (hl : (root.length : Int) = ((g : Int) + 3) / 4) : ckP (allP m root g) = 0 := by
  refine ckP_ok (by rw [allP_length]; exact hg) (fun j hj => ?_)
  rw [allP_length] at hj
  have e : (allP m root g).getD j ByteArray.empty = pageV m.slots (lookV m root j) := by unfold allP; simp [List.getD, hj]
  rw [e]
  exact pageV_size h (lookV_ent h hall j (by omega))
theorem allV_facts {m : ImgD} (hC : checkE m = 0) : ckP (allV m) = 0 ∧ ((allV m).length : Int) = m.guest ∧ ∀ n, atE (allV m) n = lookE m n ∧ freadA (allV m) n = readV m n := by
  have hs := checkE_shape hC
  have hg := guest_ok hs
  have hr := root_ok hs
  obtain ⟨k, hk⟩ : ∃ k : Nat, m.guest = k := ⟨m.guest.toNat, by omega⟩
  have e : allV m = allP m m.root k := by unfold allV; rw [if_pos hC, hk]; rfl
  have hck := allP_ck hs (g := k) (by omega) hr.2 (by rw [← hk]; exact hr.1)
  rw [e]
  have ha : ∀ n, atE (allP m m.root k) n = lookE m n := fun n => by
    have e2 : lookE m n = if 0 ≤ n ∧ n < m.guest then 0 else 3 := by unfold lookE; rw [if_neg (by simpa using hC)]
    rw [e2]
    unfold atE
    rw [if_pos hck, allP_length, hk]
  refine ⟨hck, by rw [allP_length, hk], fun n => ⟨ha n, ?_⟩⟩
  unfold freadA readV
  rw [ha n]
  by_cases hL : lookE m n = 0
  · rw [if_pos hL, if_pos hL]
    obtain ⟨_, h1, h2⟩ := lookE_parts hL
    unfold allP
    have : n.toNat < k := by omega
    simp [List.getD, this]
  · rw [if_neg hL, if_neg hL]

set_option maxHeartbeats 4000000 in
theorem rtrue_bad (gm : Int) (ra : Option Addr) (rn rc : Nat) (sa : Option Addr) (sn sc : Nat) (fa : Option Addr) (fn fc : Nat) (na : Option Addr) (nn nc : Nat) (m : ImgD) (n : Int) (w : World) (h : Img w (.agg #[.int .i64 gm, .slice ra rn rc, .slice sa sn sc, .slice fa fn fc, .slice na nn nc]) m) (C : Int) (hC : checkE m = C) (hCb : (C != 0) = true) :
    Calls Try.prog 5 #[.agg #[.int .i64 gm, .slice ra rn rc, .slice sa sn sc, .slice fa fn fc, .slice na nn nc], .int .i64 n] w fun r w' => r = .returned (.bool true) ∧ Below w.heap.size w w' := by
  have b0 : Below w.heap.size w (w.alloc (.cells #[.int .i64 gm, .slice ra rn rc, .slice sa sn sc, .slice fa fn fc, .slice na nn nc] 26)) := (Below.refl _ _).alloc (Nat.le_refl _) _
  have m0 : (w.alloc (.cells #[.int .i64 gm, .slice ra rn rc, .slice sa sn sc, .slice fa fn fc, .slice na nn nc] 26)).heap[w.heap.size]? = some (.cells #[.int .i64 gm, .slice ra rn rc, .slice sa sn sc, .slice fa fn fc, .slice na nn nc] 26) := World.alloc_heap_new _ _
  have z0 : w.heap.size < (w.alloc (.cells #[.int .i64 gm, .slice ra rn rc, .slice sa sn sc, .slice fa fn fc, .slice na nn nc] 26)).heap.size := by simp
  have hall := fun W (hW : Below w.heap.size w W) => all_is (h.below hW) hC rfl
  clear h hC
  go_enter Try.func5, Try.ntmps5
  have hB0 := b0
  obtain ⟨a0, a1, a2, a3, a4⟩ := five m0
  go_wp2_with fail
  refine (hall _ hB0).mono ?_
  rintro e w1 ⟨⟨lv, rfl, _⟩, b1⟩
  have m1 := cells_below m0 b1 z0
  have z1 := (Array.getElem?_eq_some_iff.1 m1).1
  have hB1 := Below.on hB0 b1
  clear a0 a1 a2 a3 a4
  go_wp2_with fail
  refine (readsBegun_any _).mono ?_
  rintro e w2 ⟨rfl, b2⟩
  have hB2 := Below.on hB1 b2
  go_wp2_with fail
  go_ret
  exact ⟨rfl, hB2⟩

set_option maxHeartbeats 4000000 in
theorem rtrue_at (gm : Nat) (ra : Option Addr) (rn rc : Nat) (sa : Option Addr) (sn sc : Nat) (fa : Option Addr) (fn fc : Nat) (na : Option Addr) (nn nc : Nat) (m : ImgD) (n : Int) (w : World) (h : Img w (.agg #[.int .i64 gm, .slice ra rn rc, .slice sa sn sc, .slice fa fn fc, .slice na nn nc]) m) (hC : checkE m = 0) (hgm : m.guest = gm) :
    Calls Try.prog 5 #[.agg #[.int .i64 gm, .slice ra rn rc, .slice sa sn sc, .slice fa fn fc, .slice na nn nc], .int .i64 n] w fun r w' => r = .returned (.bool true) ∧ Below w.heap.size w w' := by
  have b0 : Below w.heap.size w (w.alloc (.cells #[.int .i64 gm, .slice ra rn rc, .slice sa sn sc, .slice fa fn fc, .slice na nn nc] 26)) := (Below.refl _ _).alloc (Nat.le_refl _) _
  have m0 : (w.alloc (.cells #[.int .i64 gm, .slice ra rn rc, .slice sa sn sc, .slice fa fn fc, .slice na nn nc] 26)).heap[w.heap.size]? = some (.cells #[.int .i64 gm, .slice ra rn rc, .slice sa sn sc, .slice fa fn fc, .slice na nn nc] 26) := World.alloc_heap_new _ _
  have z0 : w.heap.size < (w.alloc (.cells #[.int .i64 gm, .slice ra rn rc, .slice sa sn sc, .slice fa fn fc, .slice na nn nc] 26)).heap.size := by simp
  obtain ⟨hf1, hf2, hf3⟩ := allV_facts hC
  have hg := guest_ok (checkE_shape hC)
  obtain ⟨l, hl⟩ : ∃ l, allV m = l := ⟨_, rfl⟩
  obtain ⟨p, hp⟩ : ∃ p, readV m n = p := ⟨_, rfl⟩
  obtain ⟨E, hE⟩ : ∃ E, lookE m n = E := ⟨_, rfl⟩
  have hall := fun W (hW : Below w.heap.size w W) => all_is (h.below hW) hC hl
  have hread := fun W (hW : Below w.heap.size w W) => read_is (h.below hW) n hE hp
  rw [hl] at hf1 hf2 hf3
  have hlen : l.length = gm := by omega
  have hg16 : gm ≤ 16 := by omega
  have HF : Hid (ckP l = 0 ∧ ∀ n, atE l n = lookE m n ∧ freadA l n = readV m n) := ⟨hf1, hf3⟩
  have HR : Hid (lookE m n = E ∧ readV m n = p) := ⟨hE, hp⟩
  have hgg : ((gm : Int) != (gm : Int)) = false := by simp
  clear h hC hf1 hf2 hf3 hg hl hp hE hgm
  go_enter Try.func5, Try.ntmps5
  have hB0 := b0
  obtain ⟨a0, a1, a2, a3, a4⟩ := five m0
  go_wp2_with fail
  refine (hall _ hB0).mono ?_
  rintro e w1 ⟨⟨lv, rfl, hlv⟩, b1⟩
  have m1 := cells_below m0 b1 z0
  have z1 := (Array.getElem?_eq_some_iff.1 m1).1
  have hB1 := Below.on hB0 b1
  clear a0 a1 a2 a3 a4
  obtain ⟨la, lc, rfl⟩ := hlv.form
  rw [hlen] at hlv ⊢
  have hck := pcheck_is hlv HF.out.1
  obtain ⟨a0, a1, a2, a3, a4⟩ := five m1
  go_wp2_with fail
  refine hck.mono ?_
  rintro e w' ⟨rfl, hw⟩
  rw [hw]; clear hw hck
  go_wp2_with fail
  refine (hread _ hB1).mono ?_
  rintro e w2 ⟨rfl, b2⟩
  have m2 := cells_below m1 b2 z1
  have z2 := (Array.getElem?_eq_some_iff.1 m2).1
  have hB2 := Below.on hB1 b2
  replace hlv := hlv.below b2
  clear a0 a1 a2 a3 a4
  have hfr := fread_is hlv (n := n) (p := p) (c := E) (by rw [(HF.out.2 n).2]; exact HR.out.2) (by rw [(HF.out.2 n).1]; exact HR.out.1)
  go_wp2_with fail
  refine hfr.mono ?_
  rintro e w' ⟨rfl, hw⟩
  rw [hw]; clear hw hfr
  go_wp2_with fail
  refine (readsBegun_any _).mono ?_
  rintro e w3 ⟨rfl, b3⟩
  have hB3 := Below.on hB2 b3
  replace hlv := hlv.below b3
  go_wp2_with fail
  go_ret
  exact ⟨by simp, hB3⟩

theorem rtrue_is {v : Value} {m : ImgD} {w : World} (h : Img w v m) (n : Int) : Calls Try.prog 5 #[v, .int .i64 n] w fun r w' => r = .returned (.bool true) ∧ Below w.heap.size w w' := by
  have h' := h
  obtain ⟨ra, rc, sa, sc, fa, fc, na, nc, rfl, h1, h2, h3, h4⟩ := h.parts
  by_cases h0 : checkE m = 0
  · have hg := guest_ok (checkE_shape h0)
    obtain ⟨k, hk⟩ : ∃ k : Nat, m.guest = k := ⟨m.guest.toNat, by omega⟩
    rw [hk] at h' ⊢
    exact rtrue_at k ra _ rc sa _ sc fa _ fc na _ nc m n w h' h0 hk
  · exact rtrue_bad m.guest ra _ rc sa _ sc fa _ fc na _ nc m n w h' _ rfl (by simpa using h0)
end Go.Proofs.Ytehleeibgkpjmac
/- From the reading of an argument to what it holds: slices of integers, slots, slices of slots. -/
namespace Go.Proofs.Ytehleeibgkpjmac
open Go.RowKit Go.Deep Go.ChangeShapes Go.WideShapes Go.ChangeAt
set_option maxRecDepth 20000

theorem cells27 : Try.prog.cellsOf 22 = 1 := by kernel_rfl
theorem cells3 : Try.prog.cellsOf 3 = 1 := by kernel_rfl
theorem cells9 : Try.prog.cellsOf 9 = 1 := by kernel_rfl
theorem cells29 : Try.prog.cellsOf 33 = 3 := by kernel_rfl

variable {H : Type} {enc : TypeId × Value → H} {w : World} {base : Nat} {spare : Nat → Bool} {held : Bool}

/-- The cells of a row by its address. -/
theorem row_at {w : World} {a : Addr} {n : Nat} {f : Nat → Value} (hn : 0 < n) (h : ∀ i, i < n → w.cell? (a.add i) = some (f i)) :
    ∃ b off, a = ⟨b, off, none⟩ ∧ b < w.heap.size ∧ ∀ i, i < n → w.cell? ⟨b, off + i, none⟩ = some (f i) := by
  have h0 := h 0 hn
  obtain ⟨b, off, spot⟩ := a
  have hspot : spot = none := by simpa [Addr.add] using World.cell?_spot h0
  subst hspot
  refine ⟨b, off, rfl, World.block_lt_of_cell? w _ (by rw [addr_add] at h0; exact h0), fun i hi => ?_⟩
  have := h i hi
  rw [addr_add] at this
  exact this

theorem sl_of_trod {n : Nat} {cs : List Value} {x : DataW H × List MemPlace} (h : DataW.trod enc Try.prog w base spare held n 22 cs = some x) : ∃ v xs, cs = [v] ∧ Sl w v xs := by
  rcases open_ints Try.underlying22 Try.underlying3 cells3 h with ⟨rfl, _⟩ | ⟨a, l, c, zs, rfl, _, hl, hm, hz, _, hcell, _⟩
  · exact ⟨_, [], rfl, Sl.nil w⟩
  · have hlz : l ≤ zs.length := by rw [hz]; split <;> omega
    have hlen : (zs.take l).length = l := by simp; omega
    refine ⟨_, zs.take l, rfl, some a, c, by rw [hlen], by rw [hlen]; omega, by rw [hlen]; exact hl, fun hne => ?_⟩
    have hpos : 0 < l := by
      rcases Nat.eq_zero_or_pos l with e | e
      · subst e; simp at hne
      · exact e
    obtain ⟨b, off, rfl, hb, hc⟩ := row_at (w := w) (a := a) (n := l) (f := fun i => .int .i64 (zs.getD i 0)) hpos (fun i hi => hcell i (by omega))
    refine ⟨b, off, rfl, hb, fun j hj => ?_⟩
    rw [hlen] at hj
    rw [hc j hj]
    simp [List.getD, hj]

set_option maxRecDepth 20000 in
theorem slot_of_trod {n : Nat} {cs : List Value} {x : DataW H × List MemPlace} (h : DataW.trod enc Try.prog w base spare held n 33 cs = some x) :
    ∃ k d tv xs, cs = [.int .i64 k, .string d, tv] ∧ Sl w tv xs := by
  obtain ⟨y0, y1, y2, m, _, hl, h0, h1, h2⟩ := trod_struct3 Try.underlying33 h
  rw [cells29] at hl
  match cs, hl with
  | [c0, c1, c2], _ =>
    simp only [cells3, cells9, cells27] at h0 h1 h2
    obtain ⟨k, e0, _, _⟩ := DataW.trod_int Try.underlying3 h0
    obtain ⟨d, e1, _, _⟩ := DataW.trod_string Try.underlying9 h1
    obtain ⟨tv, xs, e2, hs⟩ := sl_of_trod h2
    simp at e0 e1 e2
    subst e0 e1 e2
    exact ⟨k, d, _, xs, rfl, hs⟩

theorem slots_of_trod {n : Nat} {v : Value} {x : DataW H × List MemPlace} (h : DataW.trod enc Try.prog w base spare held n 23 [v] = some x) : ∃ L, Slots w v L := by
  rcases open_slice Try.underlying23 h with ⟨hv, _⟩ | ⟨a, len, cap, m, fuel, D, Pl, hv, _, hl, hm, hmm, _, hx⟩
  · simp at hv
    subst hv
    exact ⟨[], none, 0, rfl, Nat.zero_le _, Nat.zero_le _, fun h => absurd rfl h⟩
  · simp at hv
    subst hv
    rw [cells29] at hx
    have hx' : ∀ i, i < len → ∃ s : SlotD, ∃ tv, w.cell? (a.add (i * 3)) = some (.int .i64 s.1) ∧ w.cell? ((a.add (i * 3)).add 1) = some (.string s.2.1) ∧ w.cell? ((a.add (i * 3)).add 2) = some tv ∧ Sl w tv s.2.2 := by
      intro i hi
      obtain ⟨cs', h1, h2⟩ := hx i (by rw [hmm]; split <;> omega)
      obtain ⟨k, d, tv, xs, rfl, hs⟩ := slot_of_trod h2
      obtain ⟨_, _, hc⟩ := World.cells?_some h1
      have c0 := hc 0 (by omega)
      have c1 := hc 1 (by omega)
      have c2 := hc 2 (by omega)
      exact ⟨(k, d, xs), tv, by simpa [Addr.add] using c0, c1, c2, hs⟩
    obtain ⟨f, hf⟩ := choose_lt hx'
    have hlen : ((List.range len).map f).length = len := by simp
    refine ⟨(List.range len).map f, some a, cap, by rw [hlen], by rw [hlen]; omega, by rw [hlen]; exact hl, fun hne => ?_⟩
    have hpos : 0 < len := by
      rcases Nat.eq_zero_or_pos len with e | e
      · subst e; simp at hne
      · exact e
    obtain ⟨tv0, c0, _⟩ := hf 0 hpos
    obtain ⟨b, off, spot⟩ := a
    have hspot : spot = none := by simpa [Addr.add] using World.cell?_spot c0
    subst hspot
    refine ⟨b, off, rfl, World.block_lt_of_cell? w _ (by rw [addr_add] at c0; exact c0), fun j hj => ?_⟩
    rw [hlen] at hj
    obtain ⟨tv, c0, c1, c2, hs⟩ := hf j hj
    rw [addr_add] at c0 c1 c2
    rw [addr_add] at c1 c2
    have e : ((List.range len).map f)[j]'(by rw [hlen]; exact hj) = f j := by simp
    rw [e]
    exact ⟨tv, c0, c1, c2, hs⟩
set_option maxRecDepth 20000 in
theorem slot_of_arg {r : Reach} {b0 : Nat} {v : Value} {d : DataW H} {p : List MemPlace} (hv : Value.okWide Try.prog w r b0 33 v) (h : DataW.Trod enc Try.prog w base spare held 33 v d p) :
    ∃ k d tv xs, v = .agg #[.int .i64 k, .string d, tv] ∧ Sl w tv xs := by
  obtain ⟨cs, rfl, hsz⟩ := okWide_struct Try.underlying33 hv
  obtain ⟨fuel, hf⟩ := h
  obtain ⟨k, d, tv, xs, e, hs⟩ := slot_of_trod hf
  refine ⟨k, d, tv, xs, ?_, hs⟩
  have e' : cs.toList = [.int .i64 k, .string d, tv] := by simpa [Value.cells] using e
  cases cs
  simp at e'
  rw [e']
end Go.Proofs.Ytehleeibgkpjmac
/- From the reading of an argument to what it holds: snapshots, slices of them, images. -/
namespace Go.Proofs.Ytehleeibgkpjmac
open Go.RowKit Go.Deep Go.ChangeShapes Go.WideShapes Go.ChangeAt
set_option maxRecDepth 20000

theorem cellsSnap : Try.prog.cellsOf 61 = 3 := by kernel_rfl
theorem cellsSnaps : Try.prog.cellsOf 24 = 1 := by kernel_rfl
theorem cellsSlots : Try.prog.cellsOf 23 = 1 := by kernel_rfl
theorem cellsImage : Try.prog.cellsOf 26 = 5 := by kernel_rfl

variable {H : Type} {enc : TypeId × Value → H} {w : World} {base : Nat} {spare : Nat → Bool} {held : Bool}

set_option maxRecDepth 20000 in
theorem snap_of_trod {n : Nat} {cs : List Value} {x : DataW H × List MemPlace} (h : DataW.trod enc Try.prog w base spare held n 61 cs = some x) :
    ∃ d k tv xs, cs = [.string d, .int .i64 k, tv] ∧ Sl w tv xs := by
  obtain ⟨y0, y1, y2, m, _, hl, h0, h1, h2⟩ := trod_struct3 Try.underlying61 h
  rw [cellsSnap] at hl
  match cs, hl with
  | [c0, c1, c2], _ =>
    simp only [cells3, cells9, cells27] at h0 h1 h2
    obtain ⟨d, e0, _, _⟩ := DataW.trod_string Try.underlying9 h0
    obtain ⟨k, e1, _, _⟩ := DataW.trod_int Try.underlying3 h1
    obtain ⟨tv, xs, e2, hs⟩ := sl_of_trod h2
    simp at e0 e1 e2
    subst e0 e1 e2
    exact ⟨d, k, _, xs, rfl, hs⟩

theorem snaps_of_trod {n : Nat} {v : Value} {x : DataW H × List MemPlace} (h : DataW.trod enc Try.prog w base spare held n 24 [v] = some x) : ∃ L, Snaps w v L := by
  rcases open_slice Try.underlying24 h with ⟨hv, _⟩ | ⟨a, len, cap, m, fuel, D, Pl, hv, _, hl, hm, hmm, _, hx⟩
  · simp at hv
    subst hv
    exact ⟨[], none, 0, rfl, Nat.zero_le _, Nat.zero_le _, fun h => absurd rfl h⟩
  · simp at hv
    subst hv
    rw [cellsSnap] at hx
    have hx' : ∀ i, i < len → ∃ s : SnapD, ∃ tv, w.cell? (a.add (i * 3)) = some (.string s.1) ∧ w.cell? ((a.add (i * 3)).add 1) = some (.int .i64 s.2.1) ∧ w.cell? ((a.add (i * 3)).add 2) = some tv ∧ Sl w tv s.2.2 := by
      intro i hi
      obtain ⟨cs', h1, h2⟩ := hx i (by rw [hmm]; split <;> omega)
      obtain ⟨k, d, tv, xs, rfl, hs⟩ := snap_of_trod h2
      obtain ⟨_, _, hc⟩ := World.cells?_some h1
      have c0 := hc 0 (by omega)
      have c1 := hc 1 (by omega)
      have c2 := hc 2 (by omega)
      exact ⟨(k, d, xs), tv, by simpa [Addr.add] using c0, c1, c2, hs⟩
    obtain ⟨f, hf⟩ := choose_lt hx'
    have hlen : ((List.range len).map f).length = len := by simp
    refine ⟨(List.range len).map f, some a, cap, by rw [hlen], by rw [hlen]; omega, by rw [hlen]; exact hl, fun hne => ?_⟩
    have hpos : 0 < len := by
      rcases Nat.eq_zero_or_pos len with e | e
      · subst e; simp at hne
      · exact e
    obtain ⟨tv0, c0, _⟩ := hf 0 hpos
    obtain ⟨b, off, spot⟩ := a
    have hspot : spot = none := by simpa [Addr.add] using World.cell?_spot c0
    subst hspot
    refine ⟨b, off, rfl, World.block_lt_of_cell? w _ (by rw [addr_add] at c0; exact c0), fun j hj => ?_⟩
    rw [hlen] at hj
    obtain ⟨tv, c0, c1, c2, hs⟩ := hf j hj
    rw [addr_add] at c0 c1 c2
    rw [addr_add] at c1 c2
    have e : ((List.range len).map f)[j]'(by rw [hlen]; exact hj) = f j := by simp
    rw [e]
    exact ⟨tv, c0, c1, c2, hs⟩

theorem trod_struct5 {P : Program} {t : TypeId} {f0 f1 f2 f3 f4 : Field} {fuel : Nat} {cs : List Value} {x : DataW H × List MemPlace} (ht : P.underlying t = some (.struct #[f0, f1, f2, f3, f4])) (h : DataW.trod enc P w base spare held fuel t cs = some x) :
    ∃ y0 y1 y2 y3 y4 n, cs.length = P.cellsOf t ∧ DataW.trod enc P w base spare held n f0.type ((cs.drop f0.offset).take (P.cellsOf f0.type)) = some y0 ∧
      DataW.trod enc P w base spare held n f1.type ((cs.drop f1.offset).take (P.cellsOf f1.type)) = some y1 ∧ DataW.trod enc P w base spare held n f2.type ((cs.drop f2.offset).take (P.cellsOf f2.type)) = some y2 ∧
      DataW.trod enc P w base spare held n f3.type ((cs.drop f3.offset).take (P.cellsOf f3.type)) = some y3 ∧ DataW.trod enc P w base spare held n f4.type ((cs.drop f4.offset).take (P.cellsOf f4.type)) = some y4 := by
  obtain ⟨xs, n, _, rfl, hl, hlen, hf⟩ := DataW.trod_struct ht h
  match xs, hlen with
  | [y0, y1, y2, y3, y4], _ => exact ⟨y0, y1, y2, y3, y4, n, hl, by simpa using hf 0 f0 rfl, by simpa using hf 1 f1 rfl, by simpa using hf 2 f2 rfl, by simpa using hf 3 f3 rfl, by simpa using hf 4 f4 rfl⟩
set_option maxRecDepth 20000 in
theorem img_of_trod {n : Nat} {cs : List Value} {x : DataW H × List MemPlace} (h : DataW.trod enc Try.prog w base spare held n 26 cs = some x) : ∃ g rv sv fv nv, cs = [.int .i64 g, rv, sv, fv, nv] ∧ ∃ r L F S, Sl w rv r ∧ Slots w sv L ∧ Sl w fv F ∧ Snaps w nv S := by
  obtain ⟨y0, y1, y2, y3, y4, m, hl, h0, h1, h2, h3, h4⟩ := trod_struct5 Try.underlying26 h
  rw [cellsImage] at hl
  match cs, hl with
  | [c0, c1, c2, c3, c4], _ =>
    simp only [cells3] at h0
    simp only [cells27] at h1 h3
    simp only [cellsSlots] at h2
    simp only [cellsSnaps] at h4
    obtain ⟨g, e0, _, _⟩ := DataW.trod_int Try.underlying3 h0
    obtain ⟨rv, r, e1, hr⟩ := sl_of_trod h1
    obtain ⟨L, hL⟩ := slots_of_trod (v := c2) h2
    obtain ⟨fv, F, e3, hF⟩ := sl_of_trod h3
    obtain ⟨S, hS⟩ := snaps_of_trod (v := c4) h4
    simp at e0 e1 e3
    subst e0 e1 e3
    exact ⟨g, _, _, _, _, rfl, r, L, F, S, hr, hL, hF, hS⟩
set_option maxRecDepth 20000 in
theorem img_of_arg {r : Reach} {b0 : Nat} {v : Value} {d : DataW H} {p : List MemPlace} (hv : Value.okWide Try.prog w r b0 26 v) (h : DataW.Trod enc Try.prog w base spare held 26 v d p) : ∃ m, Img w v m := by
  obtain ⟨cs, rfl, hsz⟩ := okWide_struct Try.underlying26 hv
  obtain ⟨fuel, hf⟩ := h
  obtain ⟨g, rv, sv, fv, nv, e, r, L, F, S, h1, h2, h3, h4⟩ := img_of_trod hf
  have e' : cs.toList = [.int .i64 g, rv, sv, fv, nv] := by simpa [Value.cells] using e
  cases cs
  simp at e'
  exact ⟨⟨g, r, L, F, S⟩, rv, sv, fv, nv, by rw [e'], h1, h2, h3, h4⟩
end Go.Proofs.Ytehleeibgkpjmac
