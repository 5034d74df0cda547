/- Contracts of the document's pageOf, ReadOf, AllOf, snapAt, PastOf. -/
import Derived.Test.YtgcfmodkknmifacRdP
import Derived.Deep.AppendLies
namespace Go.Proofs.Ytgcfmodkknmifac
open Go.RowKit Go.Shelf
set_option maxRecDepth 20000

theorem pageOf_zero (gm : Int) (ra : Option Addr) (rn rc : Nat) (sa : Option Addr) (sn sc : Nat) (fa : Option Addr) (fn fc : Nat) (na : Option Addr) (nn nc : Nat) (e : Int) (w : World) (he : e ≤ 0) :
    Calls Try.prog 49 #[.agg #[.int .i64 gm, .slice ra rn rc, .slice sa sn sc, .slice fa fn fc, .slice na nn nc], .int .i64 e] w fun r w' => r = .returned (.string Z4) ∧ Below w.heap.size w w' := by
  have b0 : Below w.heap.size w (w.alloc (.cells #[.int .i64 gm, .slice ra rn rc, .slice sa sn sc, .slice fa fn fc, .slice na nn nc] 26)) := (Below.refl _ _).alloc (Nat.le_refl _) _
  go_enter Try.func49, Try.ntmps49
  go_wp2_with (go_at_call 83; refine (zeroPage_any _).mono ?_; rintro e w1 ⟨rfl, hw⟩; subst hw)
  go_ret
  exact ⟨rfl, b0⟩
theorem pageOf_slot (gm : Int) (ra : Option Addr) (rn rc : Nat) (sb so : Nat) (sn sc : Nat) (fa : Option Addr) (fn fc : Nat) (na : Option Addr) (nn nc : Nat) (j : Nat) (d : ByteArray) (w : World) (h1 : 1 ≤ j) (hj : j < sn) (hsb : sb < w.heap.size) (hc : w.cell? ⟨sb, so + j * 3 + 1, none⟩ = some (.string d)) :
    Calls Try.prog 49 #[.agg #[.int .i64 gm, .slice ra rn rc, .slice (some ⟨sb, so, none⟩) sn sc, .slice fa fn fc, .slice na nn nc], .int .i64 j] w fun r w' => r = .returned (.string d) ∧ Below w.heap.size w w' := by
  have b0 : Below w.heap.size w (w.alloc (.cells #[.int .i64 gm, .slice ra rn rc, .slice (some ⟨sb, so, none⟩) sn sc, .slice fa fn fc, .slice na nn nc] 26)) := (Below.refl _ _).alloc (Nat.le_refl _) _
  have hc1 := (b0.cell (p := ⟨sb, so + j * 3 + 1, none⟩) hsb).trans hc
  have h0 : ¬ (j : Int) ≤ 0 := by omega
  have hji : (j : Int) < (sn : Int) := by omega
  go_enter Try.func49, Try.ntmps49
  go_wp2_with fail
  go_ret
  exact ⟨rfl, b0⟩
theorem pageOf_is {v : Value} {m : ImgD} {w : World} (h : Img w v m) {e : Int} (he : e = 0 ∨ e = -1 ∨ ∃ j : Nat, e = j ∧ 1 ≤ j ∧ j < m.slots.length) {p : ByteArray} (hp : pageV m.slots e = p) :
    Calls Try.prog 49 #[v, .int .i64 e] w fun r w' => r = .returned (.string p) ∧ Below w.heap.size w w' := by
  obtain ⟨ra, rc, sa, sc, fa, fc, na, nc, rfl, h1, h2, h3, h4⟩ := h.parts
  unfold pageV at hp
  by_cases hz : e ≤ 0
  · rw [if_pos hz] at hp; subst hp
    exact pageOf_zero m.guest ra _ rc sa _ sc fa _ fc na _ nc e w hz
  · rcases he with he | he | ⟨j, rfl, hj1, hj⟩
    · omega
    · omega
    · rw [if_neg (by omega)] at hp
      obtain ⟨sb, so, rfl, hsb, tv, _, c2, _⟩ := h2.at j hj
      have e : m.slots.getD (j : Int).toNat default = m.slots[j] := by simp [List.getD, hj]
      rw [e] at hp
      rw [hp] at c2
      exact pageOf_slot m.guest ra _ rc sb so _ sc fa _ fc na _ nc j p w hj1 hj hsb c2

set_option maxHeartbeats 1000000 in
theorem readOf_at (gm : Int) (ra : Option Addr) (rn rc : Nat) (sa : Option Addr) (sn sc : Nat) (fa : Option Addr) (fn fc : Nat) (na : Option Addr) (nn nc : Nat) (m : ImgD) (n : Int) (w : World) (h : Img w (.agg #[.int .i64 gm, .slice ra rn rc, .slice sa sn sc, .slice fa fn fc, .slice na nn nc]) m) (hE : lookE m n = 0) (p : ByteArray) (hp : pageV m.slots (lookV m m.root n.toNat) = p) :
    Calls Try.prog 19 #[.agg #[.int .i64 gm, .slice ra rn rc, .slice sa sn sc, .slice fa fn fc, .slice na nn nc], .int .i64 n] w fun r w' => r = .returned (.string p) ∧ Below w.heap.size w w' := by
  have b0 : Below w.heap.size w (w.alloc (.cells #[.int .i64 gm, .slice ra rn rc, .slice sa sn sc, .slice fa fn fc, .slice na nn nc] 26)) := (Below.refl _ _).alloc (Nat.le_refl _) _
  have m0 : (w.alloc (.cells #[.int .i64 gm, .slice ra rn rc, .slice sa sn sc, .slice fa fn fc, .slice na nn nc] 26)).heap[w.heap.size]? = some (.cells #[.int .i64 gm, .slice ra rn rc, .slice sa sn sc, .slice fa fn fc, .slice na nn nc] 26) := World.alloc_heap_new _ _
  have z0 : w.heap.size < (w.alloc (.cells #[.int .i64 gm, .slice ra rn rc, .slice sa sn sc, .slice fa fn fc, .slice na nn nc] 26)).heap.size := by simp
  obtain ⟨c, hc⟩ : ∃ c, lookV m m.root n.toNat = c := ⟨_, rfl⟩
  have h1 := fun W (hW : Below w.heap.size w W) => lookOf_is (h.below hW) n hE hc
  have hent := look_ent hE
  rw [hc] at hent hp
  have h2 := fun W (hW : Below w.heap.size w W) => pageOf_is (h.below hW) hent hp
  obtain ⟨c0, c1, c2, c3, c4⟩ := five m0
  clear h hE hent hp hc
  go_enter Try.func19, Try.ntmps19
  go_wp2_with fail
  go_region_held3 (fun w' => w'.cell? ⟨w.heap.size, 0, none⟩ = some (.int .i64 gm) ∧ w'.cell? ⟨w.heap.size, 0 + 1, none⟩ = some (.slice ra rn rc) ∧ w'.cell? ⟨w.heap.size, 0 + 1 + 1, none⟩ = some (.slice sa sn sc) ∧ w'.cell? ⟨w.heap.size, 0 + 1 + 1 + 1, none⟩ = some (.slice fa fn fc) ∧ w'.cell? ⟨w.heap.size, 0 + 1 + 1 + 1 + 1, none⟩ = some (.slice na nn nc)) (first | exact ⟨f0, f1, f2, f3, f4⟩ | exact ⟨d0, d1, d2, d3, d4⟩ | exact ⟨c0, c1, c2, c3, c4⟩)
    (first
    | (go_at_call 50; refine (h1 _ (to_drew b0)).mono ?_; rintro e w1 ⟨rfl, b1⟩; have b1 := below_drew b1; have m1 := cells_below m0 b1 z0; have hB1 := Below.on b0 b1; have z1 := (Array.getElem?_eq_some_iff.1 m1).1; obtain ⟨d0, d1, d2, d3, d4⟩ := five m1)
    | (go_at_call 49; refine (h2 _ hB1).mono ?_; rintro e w2 ⟨rfl, b2⟩; have m2 := cells_below m1 b2 z1; have hB2 := Below.on hB1 b2; obtain ⟨f0, f1, f2, f3, f4⟩ := five m2))
  go_wp2_with fail
  go_ret
  exact ⟨rfl, hB2⟩
theorem readOf_is {w : World} {v : Value} {m : ImgD} (h : Img w v m) (n : Int) (hE : lookE m n = 0) {p : ByteArray} (hp : readV m n = p) :
    Calls Try.prog 19 #[v, .int .i64 n] w fun r w' => r = .returned (.string p) ∧ Below w.heap.size w w' := by
  have h' := h
  obtain ⟨ra, rc, sa, sc, fa, fc, na, nc, rfl, _⟩ := h.parts
  unfold readV at hp
  rw [if_pos hE] at hp
  exact readOf_at m.guest ra _ rc sa _ sc fa _ fc na _ nc m n w h' hE p hp

theorem allP_snoc (m : ImgD) (root : List Int) (k : Nat) : allP m root (k + 1) = allP m root k ++ [pageV m.slots (lookV m root k)] := by simp [allP, List.range_succ]
set_option maxHeartbeats 2000000 in
theorem allOf_at (gm : Nat) (ra : Option Addr) (rn rc : Nat) (sa : Option Addr) (sn sc : Nat) (fa : Option Addr) (fn fc : Nat) (na : Option Addr) (nn nc : Nat) (m : ImgD) (w : World) (h : Img w (.agg #[.int .i64 gm, .slice ra rn rc, .slice sa sn sc, .slice fa fn fc, .slice na nn nc]) m) (hgm : m.guest = gm) (hC : checkE m = 0) :
    Calls Try.prog 20 #[.agg #[.int .i64 gm, .slice ra rn rc, .slice sa sn sc, .slice fa fn fc, .slice na nn nc]] w fun r w' => (∃ v, r = .returned v ∧ Ss w' v (allP m m.root gm)) ∧ Below w.heap.size w w' := by
  have b0 : Below w.heap.size w (w.alloc (.cells #[.int .i64 gm, .slice ra rn rc, .slice sa sn sc, .slice fa fn fc, .slice na nn nc] 26)) := (Below.refl _ _).alloc (Nat.le_refl _) _
  have m0 : (w.alloc (.cells #[.int .i64 gm, .slice ra rn rc, .slice sa sn sc, .slice fa fn fc, .slice na nn nc] 26)).heap[w.heap.size]? = some (.cells #[.int .i64 gm, .slice ra rn rc, .slice sa sn sc, .slice fa fn fc, .slice na nn nc] 26) := World.alloc_heap_new _ _
  have z0 : w.heap.size < (w.alloc (.cells #[.int .i64 gm, .slice ra rn rc, .slice sa sn sc, .slice fa fn fc, .slice na nn nc] 26)).heap.size := by simp
  have hg := guest_ok (checkE_shape hC)
  have hg16 : gm ≤ 16 := by omega
  have H1 : Hid (Img w (.agg #[.int .i64 gm, .slice ra rn rc, .slice sa sn sc, .slice fa fn fc, .slice na nn nc]) m ∧ checkE m = 0 ∧ m.guest = gm) := ⟨h, hC, hgm⟩
  clear h hgm hC hg
  go_enter Try.func20, Try.ntmps20
  go_wp2_with fail
  go_loopw [3, 4] (fun l i wq => ∃ k : Nat, k ≤ gm ∧ i = .int .i64 k ∧ Hid (wq.ownsRow (w.heap.size + 1) 9 1 l (allP m m.root k).length ((allP m m.root k).map Value.string)) ∧ (w.heap.size + 1 ≤ wq.heap.size ∧ Below (w.heap.size + 1) (w.alloc (.cells #[.int .i64 gm, .slice ra rn rc, .slice sa sn sc, .slice fa fn fc, .slice na nn nc] 26)) wq)) (fun _ i _ => gm - (intOf i).toNat)
  case atStart => exact ⟨0, Nat.zero_le _, rfl, (by show World.ownsRow _ _ _ _ _ _ _; exact ⟨rfl, .inl ⟨rfl, rfl⟩⟩), by simp, Below.refl _ _⟩
  case round =>
    obtain ⟨k, hk, rfl, HO, hz, hbel⟩ := hrel
    have mr := cells_below m0 hbel (by omega)
    obtain ⟨c0, c1, c2, c3, c4⟩ := five mr
    have hbw : Below w.heap.size w wr := b0.trans (hbel.mono (by omega))
    by_cases hlk : k < gm
    · have hki : (k : Int) < (gm : Int) := by omega
      have hle := lookE_of H1.out.2.1 (k := k) (by rw [H1.out.2.2]; exact hki)
      have hcall := readOf_is (H1.out.1.below hbw) (k : Int) hle (p := pageV m.slots (lookV m m.root k)) (by unfold readV; rw [if_pos hle]; rfl)
      have HS := allP_snoc m m.root k
      obtain ⟨p, hp⟩ : ∃ p, pageV m.slots (lookV m m.root k) = p := ⟨_, rfl⟩
      rw [hp] at hcall HS
      have HSn : Hid (allP m m.root (k + 1) = allP m m.root k ++ [p]) := HS
      have hll : (allP m m.root k).length ≤ 1000 := by rw [allP_length]; omega
      clear hp HS hle
      go_wp2_with (first | (go_at_call 19; refine hcall.mono ?_; rintro e w1 ⟨rfl, b1⟩; have HO1 : Hid (w1.ownsRow (w.heap.size + 1) 9 1 _ (allP m m.root k).length ((allP m m.root k).map Value.string)) := owns_below HO.out b1; have hb1 := Below.on'' hbel b1 hz; have hz1 : w.heap.size + 1 ≤ w1.heap.size := Nat.le_trans hz b1.size) | (at_builtin; refine app_str (by rfl) _ _ (by rfl) _ (allP m m.root k) _ (w.heap.size + 1) (by rfl) (by rfl) HO1.out hll hz1 hb1 ?_; intro v' w2 HO' hbel' hB'))
      go_roundw
      case rel => exact ⟨k + 1, by omega, by go_num, by rw [HSn.out]; exact HO', hB', hbel'⟩
      case measure => simp [intOf]; omega
    · have e4 : k = gm := by omega
      subst e4
      go_wp2_with fail
      go_ret
      exact ⟨⟨_, rfl, Ss_of_owns HO.out⟩, hbw⟩
theorem allOf_is {w : World} {v : Value} {m : ImgD} (h : Img w v m) (hC : checkE m = 0) {l : List ByteArray} (hl : allV m = l) :
    Calls Try.prog 20 #[v] w fun r w' => (∃ v, r = .returned v ∧ Ss w' v l) ∧ Below w.heap.size w w' := by
  have h' := h
  obtain ⟨ra, rc, sa, sc, fa, fc, na, nc, rfl, _⟩ := h.parts
  unfold allV at hl
  rw [if_pos hC] at hl
  have hg := guest_ok (checkE_shape hC)
  obtain ⟨k, hk⟩ : ∃ k : Nat, m.guest = k := ⟨m.guest.toNat, by omega⟩
  rw [hk, Int.toNat_natCast] at hl
  subst hl
  rw [hk] at h' ⊢
  exact allOf_at k ra _ rc sa _ sc fa _ fc na _ nc m w h' hk hC

set_option maxHeartbeats 1000000 in
theorem snapAt_at (gm : Int) (ra : Option Addr) (rn rc : Nat) (sa : Option Addr) (sn sc : Nat) (fa : Option Addr) (fn fc : Nat) (na : Option Addr) (nn nc : Nat) (S : List SnapD) (nm : ByteArray) (w : World) (hN : Snaps w (.slice na nn nc) S) (hnn : S.length = nn) (hn3 : nn ≤ 1000) (i : Int) (hi : ixOf (snapIx S nm) = i) :
    Calls Try.prog 51 #[.agg #[.int .i64 gm, .slice ra rn rc, .slice sa sn sc, .slice fa fn fc, .slice na nn nc], .string nm] w fun r w' => r = .returned (.int .i64 i) ∧ Below w.heap.size w w' := by
  have b0 : Below w.heap.size w (w.alloc (.cells #[.int .i64 gm, .slice ra rn rc, .slice sa sn sc, .slice fa fn fc, .slice na nn nc] 26)) := (Below.refl _ _).alloc (Nat.le_refl _) _
  have m0 : (w.alloc (.cells #[.int .i64 gm, .slice ra rn rc, .slice sa sn sc, .slice fa fn fc, .slice na nn nc] 26)).heap[w.heap.size]? = some (.cells #[.int .i64 gm, .slice ra rn rc, .slice sa sn sc, .slice fa fn fc, .slice na nn nc] 26) := World.alloc_heap_new _ _
  have z0 : w.heap.size < (w.alloc (.cells #[.int .i64 gm, .slice ra rn rc, .slice sa sn sc, .slice fa fn fc, .slice na nn nc] 26)).heap.size := by simp
  have H1 : Hid (Snaps w (.slice na nn nc) S ∧ S.length = nn ∧ ixOf (snapIx S nm) = i) := ⟨hN, hnn, hi⟩
  obtain ⟨c0, c1, c2, c3, c4⟩ := five m0
  clear hN hnn hi
  go_enter Try.func51, Try.ntmps51
  go_wp2_with fail
  go_loopw [5] (fun i wq => ∃ k : Nat, k ≤ nn ∧ i = .int .i64 k ∧ Hid (∀ j, (h : j < S.length) → j < k → (S[j].1.toList == nm.toList) = false) ∧ wq = (w.alloc (.cells #[.int .i64 gm, .slice ra rn rc, .slice sa sn sc, .slice fa fn fc, .slice na nn nc] 26))) (fun i _ => nn - (intOf i).toNat)
  case atStart => exact ⟨0, Nat.zero_le _, rfl, fun j h hj => absurd hj (by omega), rfl⟩
  case round =>
    obtain ⟨k, hk, rfl, HA, hw⟩ := hrel
    subst hw
    by_cases hlk : k < nn
    · have hkL : k < S.length := by rw [H1.out.2.1]; exact hlk
      obtain ⟨b, off, rfl, hlt, hS⟩ := H1.out.1.at k hkL
      have hki : (k : Int) < (nn : Int) := by omega
      obtain ⟨s, hs⟩ : ∃ s, s = S[k] := ⟨_, rfl⟩
      obtain ⟨kk, dd, tt⟩ := s
      rw [← hs] at hS
      obtain ⟨tv, s1, _⟩ := hS
      have HX : Hid (S[k] = (kk, dd, tt)) := hs.symm
      have s1 := (b0.cell (p := ⟨b, off + k * 3, none⟩) hlt).trans s1
      clear hs
      cases hq : kk.toList == nm.toList with
      | true =>
        go_wp2_with fail
        go_ret
        exact ⟨by rw [← H1.out.2.2]; unfold snapIx; rw [find_hit (p := fun s => s.1.toList == nm.toList) hkL (by rw [HX.out]; exact hq) HA.out]; rfl, b0⟩
      | false =>
        go_wp2_with fail
        go_roundw
        case rel => exact ⟨k + 1, by omega, by go_num, fun j h hj => by
          by_cases e : j = k
          · subst e; rw [HX.out]; exact hq
          · exact HA.out j h (by omega), trivial⟩
        case measure => simp [intOf]; omega
    · have e4 : k = nn := by omega
      subst e4
      go_wp2_with fail
      go_ret
      exact ⟨by rw [← H1.out.2.2]; unfold snapIx; rw [find_none (p := fun s => s.1.toList == nm.toList) (fun j hj => HA.out j hj (by rw [H1.out.2.1] at hj; exact hj))]; rfl, b0⟩
theorem snapAt_is {w : World} {v : Value} {m : ImgD} (h : Img w v m) (nm : ByteArray) (hn : m.snaps.length ≤ 1000) {i : Int} (hi : ixOf (snapIx m.snaps nm) = i) :
    Calls Try.prog 51 #[v, .string nm] w fun r w' => r = .returned (.int .i64 i) ∧ Below w.heap.size w w' := by
  obtain ⟨ra, rc, sa, sc, fa, fc, na, nc, rfl, h1, h2, h3, h4⟩ := h.parts
  exact snapAt_at m.guest ra _ rc sa _ sc fa _ fc na _ nc m.snaps nm w h4 rfl hn i hi
end Go.Proofs.Ytgcfmodkknmifac
