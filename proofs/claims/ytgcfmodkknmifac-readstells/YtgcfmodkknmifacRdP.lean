/- Contracts of slices.IndexFunc over snapshots, and of Past. -/
import Derived.Test.YtgcfmodkknmifacRdA
import Derived.Test.YtgcfmodkknmifacIdx
import Derived.Test.YtgcfmodkknmifacPair
namespace Go.Proofs.Ytgcfmodkknmifac
open Go.RowKit Go.Shelf
set_option maxRecDepth 20000

def ixOf (o : Option Nat) : Int := match o with | some k => (k : Int) | none => -1
def PredN (g : Nat) (lb : Array Value) (p : SnapD → Bool) (w : World) : Prop :=
  ∀ (W : World) (s : SnapD) (tv : Value), Below w.heap.size w W → Sl W tv s.2.2 → Calls Try.prog g (#[.agg #[.string s.1, .int .i64 s.2.1, tv]] ++ lb) W fun e w' => e = .returned (.bool (p s)) ∧ Below W.heap.size W w'
theorem find_hit {p : SnapD → Bool} {L : List SnapD} {k : Nat} (hk : k < L.length) (h : p L[k] = true) (ha : ∀ j, (hj : j < L.length) → j < k → p L[j] = false) : L.findIdx? p = some k := by
  rw [List.findIdx?_eq_some_iff_getElem]
  exact ⟨hk, h, fun j hj => by rw [ha j (by omega) hj]; decide⟩
theorem find_none {p : SnapD → Bool} {L : List SnapD} (ha : ∀ j, (hj : j < L.length) → p L[j] = false) : L.findIdx? p = none := by
  rw [List.findIdx?_eq_none_iff]
  intro x hx
  obtain ⟨j, hj, rfl⟩ := List.getElem_of_mem hx
  exact ha j hj

set_option maxHeartbeats 1000000 in
theorem indexN_at (g : Nat) (lb : Array Value) (eg : ∀ args w, (callFunc g args).run Try.prog w = .ok (.enter g args) w) (p : SnapD → Bool) (ao : Option Addr) (n cap : Nat) (L : List SnapD) (w : World) (hn : L.length = n) (hm : n ≤ 9223372036854775807)
    (hc : ∀ j, (h : j < L.length) → ∃ b off, ao = some ⟨b, off, none⟩ ∧ b < w.heap.size ∧ SnAt w b (off + j * 3) L[j]) (hp : PredN g lb p w) (i : Int) (hi : ixOf (L.findIdx? p) = i) :
    Calls Try.prog 44 #[.slice ao n cap, .func (.func g) #[] lb] w fun r w' => r = .returned (.int .i64 i) ∧ Below w.heap.size w w' := by
  have HN : Hid (L.length = n) := hn
  have HP : Hid (PredN g lb p w) := hp
  have HI : Hid (ixOf (L.findIdx? p) = i) := hi
  have HC : Hid (∀ j, (h : j < L.length) → ∃ b off, ao = some ⟨b, off, none⟩ ∧ b < w.heap.size ∧ SnAt w b (off + j * 3) L[j]) := hc
  clear hn hp hc hi
  go_enter Try.func44, Try.ntmps44
  go_wp2
  go_loopw [5, 8] (fun _ i wr => ∃ k : Nat, k ≤ n ∧ i = .int .i64 k ∧ Hid (∀ j, (h : j < L.length) → j < k → p L[j] = false) ∧ Below w.heap.size w wr) (fun _ i _ => n - (intOf i).toNat)
  case atStart => exact ⟨0, Nat.zero_le _, rfl, fun j h hj => absurd hj (by omega), Below.refl _ _⟩
  case round =>
    obtain ⟨k, hk, rfl, HA, hbel⟩ := hrel
    by_cases hlk : k < n
    · have hkL : k < L.length := by rw [HN.out]; exact hlk
      obtain ⟨b, off, rfl, hlt, hS⟩ := HC.out k hkL
      have hki : (k : Int) < (n : Int) := by omega
      obtain ⟨s, hs⟩ : ∃ s, s = L[k] := ⟨_, rfl⟩
      obtain ⟨kk, dd, tt⟩ := s
      rw [← hs] at hS
      obtain ⟨tv, c1, c2, c3, hsl⟩ := hS
      have HX : Hid ((kk, dd, tt) = L[k]) := hs
      have c1 : wr.cell? ⟨b, off + k * 3, none⟩ = some (.string kk) := (hbel.cell (p := ⟨b, off + k * 3, none⟩) hlt).trans c1
      have c2 : wr.cell? ⟨b, off + k * 3 + 1, none⟩ = some (.int .i64 dd) := (hbel.cell (p := ⟨b, off + k * 3 + 1, none⟩) hlt).trans c2
      have c3 : wr.cell? ⟨b, off + k * 3 + 1 + 1, none⟩ = some tv := (hbel.cell (p := ⟨b, off + k * 3 + 1 + 1, none⟩) hlt).trans c3
      have hcall := HP.out wr (kk, dd, tt) tv hbel (hsl.below hbel)
      dsimp only at hcall
      clear hs hsl
      cases hq : p (kk, dd, tt) with
      | true =>
        rw [hq] at hcall
        go_wp2_with (go_at_fn g; refine hcall.mono ?_; rintro e w1 ⟨rfl, b1⟩)
        go_ret
        exact ⟨by rw [← HI.out, find_hit (p := p) hkL (by rw [← HX.out]; exact hq) HA.out]; rfl, Below.on hbel b1⟩
      | false =>
        rw [hq] at hcall
        go_wp2_with (go_at_fn g; refine hcall.mono ?_; rintro e w1 ⟨rfl, b1⟩)
        go_roundw
        case rel => exact ⟨k + 1, by omega, by go_num, fun j h hj => by
          by_cases e : j = k
          · subst e; rw [← HX.out]; exact hq
          · exact HA.out j h (by omega), Below.on hbel b1⟩
        case measure => simp [intOf]; omega
    · have e4 : k = n := by omega
      subst e4
      go_wp2
      go_ret
      exact ⟨by rw [← HI.out, find_none (p := p) (fun j hj => HA.out j hj (by rw [HN.out] at hj; exact hj))]; rfl, hbel⟩

theorem pastP_any (B : Nat) (nm : ByteArray) (s : SnapD) (ta : Option Addr) (tn tc : Nat) (w : World) (hB : B < w.heap.size) (hc : w.cell? ⟨B, 0, none⟩ = some (.string nm)) :
    Calls Try.prog 45 #[.agg #[.string s.1, .int .i64 s.2.1, .slice ta tn tc], .pointer (some ⟨B, 0, none⟩)] w fun r w' => r = .returned (.bool (s.1.toList == nm.toList)) ∧ Below w.heap.size w w' := by
  obtain ⟨k, d, xs⟩ := s
  dsimp only
  have b0 : Below w.heap.size w (w.alloc (.cells #[.string k, .int .i64 d, .slice ta tn tc] 61)) := (Below.refl _ _).alloc (Nat.le_refl _) _
  have hc1 := (b0.cell (p := ⟨B, 0, none⟩) hB).trans hc
  go_enter Try.func45, Try.ntmps45
  go_wp2
  go_ret
  exact ⟨rfl, b0⟩

def snapIx (S : List SnapD) (nm : ByteArray) : Option Nat := S.findIdx? (fun s => s.1.toList == nm.toList)
def pastE (m : ImgD) (nm : ByteArray) : Int := if checkE m ≠ 0 then checkE m else match snapIx m.snaps nm with | some _ => 0 | none => 5
def pastV (m : ImgD) (nm : ByteArray) : List ByteArray := if checkE m ≠ 0 then [] else match snapIx m.snaps nm with | some k => allP m (m.snaps.getD k default).2.2 (m.snaps.getD k default).2.1.toNat | none => []

theorem past_bad (gm : Int) (ra : Option Addr) (rn rc : Nat) (sa : Option Addr) (sn sc : Nat) (fa : Option Addr) (fn fc : Nat) (na : Option Addr) (nn nc : Nat) (m : ImgD) (nm : ByteArray) (E : Int) (w : World) (h : Img w (.agg #[.int .i64 gm, .slice ra rn rc, .slice sa sn sc, .slice fa fn fc, .slice na nn nc]) m) (hE : checkE m = E) (hne : (E != 0) = true) :
    Calls Try.prog 16 #[.agg #[.int .i64 gm, .slice ra rn rc, .slice sa sn sc, .slice fa fn fc, .slice na nn nc], .string nm] w fun r w' => r = .returned (.tuple #[.slice none 0 0, .int .i64 E]) ∧ Below w.heap.size w w' := by
  have b0 : Below w.heap.size w ((w.alloc (.cells #[.int .i64 gm, .slice ra rn rc, .slice sa sn sc, .slice fa fn fc, .slice na nn nc] 26)).alloc (.cells #[.string nm] 9)) := ((Below.refl _ _).alloc (Nat.le_refl _) _).alloc (by simp) _
  have m0 : ((w.alloc (.cells #[.int .i64 gm, .slice ra rn rc, .slice sa sn sc, .slice fa fn fc, .slice na nn nc] 26)).alloc (.cells #[.string nm] 9)).heap[w.heap.size]? = some (.cells #[.int .i64 gm, .slice ra rn rc, .slice sa sn sc, .slice fa fn fc, .slice na nn nc] 26) := cells_alloc (World.alloc_heap_new _ _) _
  have k0 : ((w.alloc (.cells #[.int .i64 gm, .slice ra rn rc, .slice sa sn sc, .slice fa fn fc, .slice na nn nc] 26)).alloc (.cells #[.string nm] 9)).heap[w.heap.size + 1]? = some (.cells #[.string nm] 9) := by
    have := World.alloc_heap_new (w.alloc (.cells #[.int .i64 gm, .slice ra rn rc, .slice sa sn sc, .slice fa fn fc, .slice na nn nc] 26)) (.cells #[.string nm] 9)
    simpa using this
  have z0 : w.heap.size + 1 < ((w.alloc (.cells #[.int .i64 gm, .slice ra rn rc, .slice sa sn sc, .slice fa fn fc, .slice na nn nc] 26)).alloc (.cells #[.string nm] 9)).heap.size := by simp
  have h1 := tcheck_is (h.below b0) hE
  clear h hE
  go_enter Try.func16, Try.ntmps16
  go_wp2_with fail
  refine h1.mono ?_
  rintro e w1 ⟨rfl, b1⟩
  go_wp2_with fail
  go_ret2
  exact ⟨rfl, Below.on b0 b1⟩
theorem snapIx_some {S : List SnapD} {nm : ByteArray} {k : Nat} (h : snapIx S nm = some k) : k < S.length := by
  unfold snapIx at h
  rw [List.findIdx?_eq_some_iff_getElem] at h
  exact h.1
set_option maxHeartbeats 2000000 in
theorem past_at (gm : Int) (ra : Option Addr) (rn rc : Nat) (sa : Option Addr) (sn sc : Nat) (fa : Option Addr) (fn fc : Nat) (na : Option Addr) (nn nc : Nat) (m : ImgD) (nm : ByteArray) (w : World) (h : Img w (.agg #[.int .i64 gm, .slice ra rn rc, .slice sa sn sc, .slice fa fn fc, .slice na nn nc]) m) (hS : Slots w (.slice sa sn sc) m.slots) (hN : Snaps w (.slice na nn nc) m.snaps) (hnn : m.snaps.length = nn) (hC : checkE m = 0) :
    Calls Try.prog 16 #[.agg #[.int .i64 gm, .slice ra rn rc, .slice sa sn sc, .slice fa fn fc, .slice na nn nc], .string nm] w fun r w' => (∃ v, r = .returned (.tuple #[v, .int .i64 (pastE m nm)]) ∧ Ss w' v (pastV m nm)) ∧ Below w.heap.size w w' := by
  have b0 : Below w.heap.size w ((w.alloc (.cells #[.int .i64 gm, .slice ra rn rc, .slice sa sn sc, .slice fa fn fc, .slice na nn nc] 26)).alloc (.cells #[.string nm] 9)) := ((Below.refl _ _).alloc (Nat.le_refl _) _).alloc (by simp) _
  have m0 : ((w.alloc (.cells #[.int .i64 gm, .slice ra rn rc, .slice sa sn sc, .slice fa fn fc, .slice na nn nc] 26)).alloc (.cells #[.string nm] 9)).heap[w.heap.size]? = some (.cells #[.int .i64 gm, .slice ra rn rc, .slice sa sn sc, .slice fa fn fc, .slice na nn nc] 26) := cells_alloc (World.alloc_heap_new _ _) _
  have k0 : ((w.alloc (.cells #[.int .i64 gm, .slice ra rn rc, .slice sa sn sc, .slice fa fn fc, .slice na nn nc] 26)).alloc (.cells #[.string nm] 9)).heap[w.heap.size + 1]? = some (.cells #[.string nm] 9) := by
    have := World.alloc_heap_new (w.alloc (.cells #[.int .i64 gm, .slice ra rn rc, .slice sa sn sc, .slice fa fn fc, .slice na nn nc] 26)) (.cells #[.string nm] 9)
    simpa using this
  have z0 : w.heap.size + 1 < ((w.alloc (.cells #[.int .i64 gm, .slice ra rn rc, .slice sa sn sc, .slice fa fn fc, .slice na nn nc] 26)).alloc (.cells #[.string nm] 9)).heap.size := by simp
  have h1 := tcheck_is (h.below b0) hC
  have hE := checkE_shape hC
  have hn3 : nn ≤ 3 := by rw [← hnn]; exact (shapeE_zero hE).1
  have hix : ∀ W, Below ((w.alloc (.cells #[.int .i64 gm, .slice ra rn rc, .slice sa sn sc, .slice fa fn fc, .slice na nn nc] 26)).alloc (.cells #[.string nm] 9)).heap.size ((w.alloc (.cells #[.int .i64 gm, .slice ra rn rc, .slice sa sn sc, .slice fa fn fc, .slice na nn nc] 26)).alloc (.cells #[.string nm] 9)) W → Calls Try.prog 44 #[.slice na nn nc, .func (.func 45) #[] #[.pointer (some ⟨w.heap.size + 1, 0, none⟩)]] W fun r w' => r = .returned (.int .i64 (ixOf (snapIx m.snaps nm))) ∧ Below W.heap.size W w' := by
    intro W hW
    refine indexN_at 45 #[.pointer (some ⟨w.heap.size + 1, 0, none⟩)] (enters_of Try.func45 (by kernel_rfl) rfl) (fun s => s.1.toList == nm.toList) na nn nc m.snaps W hnn (by omega) (hN.below (Below.on b0 hW)).at (fun W' s tv hb ht => ?_) _ rfl
    obtain ⟨ta, tc, rfl⟩ := ht.form
    have hk := cells_below (cells_below k0 hW z0) hb (Nat.lt_of_lt_of_le z0 hW.size)
    exact pastP_any (w.heap.size + 1) nm s ta _ tc W' (Array.getElem?_eq_some_iff.1 hk).1 (cell_of hk rfl)
  have H1 : Hid (checkE m = 0 ∧ shapeE m = 0) := ⟨hC, hE⟩
  have H2 : Hid (Slots w (.slice sa sn sc) m.slots ∧ Snaps w (.slice na nn nc) m.snaps ∧ m.snaps.length = nn) := ⟨hS, hN, hnn⟩
  clear h hE hS hN hnn hC
  cases hsi : snapIx m.snaps nm with
  | none =>
    have HPE : Hid (pastE m nm = 5) := by show _ = _; unfold pastE; rw [if_neg (by rw [H1.out.1]; simp), hsi]
    have HPV : Hid (pastV m nm = []) := by show _ = _; unfold pastV; rw [if_neg (by rw [H1.out.1]; simp), hsi]
    rw [hsi] at hix
    rw [HPE.out, HPV.out]
    go_enter Try.func16, Try.ntmps16
    go_wp2_with fail
    refine h1.mono ?_
    rintro e w1 ⟨rfl, b1⟩
    have m1 := cells_below m0 b1 (by simp; omega)
    obtain ⟨a0, a1, a2, a3, a4⟩ := five m1
    clear h1
    go_wp2_with fail
    refine (hix _ b1).mono ?_
    rintro e w2 ⟨rfl, b2⟩
    clear hix
    simp only [ixOf]
    go_wp2_with fail
    go_ret2
    exact ⟨⟨_, rfl, Ss.nil _⟩, Below.on' b0 b1 b2⟩
  | some k =>
    have hk := snapIx_some hsi
    have hkn : k < nn := by rw [← H2.out.2.2]; exact hk
    obtain ⟨s, hs⟩ : ∃ s, s = m.snaps[k] := ⟨_, rfl⟩
    obtain ⟨sm, sg, sr⟩ := s
    have eget : m.snaps.getD k default = (sm, sg, sr) := by rw [hs]; simp [List.getD, hk]
    have HPE : Hid (pastE m nm = 0) := by show _ = _; unfold pastE; rw [if_neg (by rw [H1.out.1]; simp), hsi]
    have HPV : Hid (pastV m nm = allP m sr sg.toNat) := by show _ = _; unfold pastV; rw [if_neg (by rw [H1.out.1]; simp), hsi]; dsimp only; rw [eget]
    have hmem : (sm, sg, sr) ∈ rootsOf m := List.mem_cons_of_mem _ (by rw [hs]; exact List.getElem_mem hk)
    have hgg := List.all_eq_true.1 (shapeE_zero H1.out.2).2.2.2.2.1 _ hmem
    have hrr := List.all_eq_true.1 (shapeE_zero H1.out.2).2.2.2.2.2.2 _ hmem
    dsimp only at hgg hrr
    obtain ⟨b, off, rfl, hlt, hSA⟩ := H2.out.2.1.at k hk
    rw [← hs] at hSA
    obtain ⟨rv, s1, s2, s3, hsl⟩ := hSA
    have hcall := fun W (hW : Below w.heap.size w W) => allPages_is (H2.out.1.below hW) (hsl.below hW) H1.out.2 hgg hrr
    obtain ⟨va, vc, rfl⟩ := hsl.form
    have hki : (k : Int) < (nn : Int) := by omega
    have hk0 : ¬ (k : Int) < 0 := by omega
    rw [hsi] at hix
    rw [HPE.out, HPV.out]
    clear hs eget hmem hgg hrr hsl hsi s1
    go_enter Try.func16, Try.ntmps16
    go_wp2_with fail
    refine h1.mono ?_
    rintro e w1 ⟨rfl, b1⟩
    have m1 := cells_below m0 b1 (by simp; omega)
    obtain ⟨a0, a1, a2, a3, a4⟩ := five m1
    clear h1
    go_wp2_with fail
    refine (hix _ b1).mono ?_
    rintro e w2 ⟨rfl, b2⟩
    have m2 := cells_below m1 b2 (Array.getElem?_eq_some_iff.1 m1).1
    have z2 := (Array.getElem?_eq_some_iff.1 m2).1
    clear hix a0 a1 a2 a3 a4
    obtain ⟨c0, c1, c2, c3, c4⟩ := five m2
    have hB2 := Below.on' b0 b1 b2
    have s2 : w2.cell? ⟨b, off + k * 3 + 1, none⟩ = some (.int .i64 sg) := (hB2.cell (p := ⟨b, off + k * 3 + 1, none⟩) hlt).trans s2
    have s3 : w2.cell? ⟨b, off + k * 3 + 2, none⟩ = some (.slice va sr.length vc) := (hB2.cell (p := ⟨b, off + k * 3 + 2, none⟩) hlt).trans s3
    have hbw : b < w2.heap.size := Nat.lt_of_lt_of_le hlt hB2.size
    simp only [ixOf]
    go_wp2_with fail
    go_region_held3 (fun w' => w'.cell? ⟨w.heap.size, 0, none⟩ = some (.int .i64 gm) ∧ w'.cell? ⟨w.heap.size, 0 + 1, none⟩ = some (.slice ra rn rc) ∧ w'.cell? ⟨w.heap.size, 0 + 1 + 1, none⟩ = some (.slice sa sn sc) ∧ w'.cell? ⟨w.heap.size, 0 + 1 + 1 + 1, none⟩ = some (.slice fa fn fc) ∧ w'.cell? ⟨w.heap.size, 0 + 1 + 1 + 1 + 1, none⟩ = some (.slice (some ⟨b, off, none⟩) nn nc) ∧ w'.cell? ⟨b, off + k * 3 + 1, none⟩ = some (.int .i64 sg) ∧ w'.cell? ⟨b, off + k * 3 + 2, none⟩ = some (.slice va sr.length vc)) (first | exact ⟨c0, c1, c2, c3, c4, s2, s3⟩ | exact ⟨d0, d1, d2, d3, d4, e1, e2⟩)
      (first | (go_at_call 43; refine (hcall _ (to_drew hB2)).mono ?_; rintro e w3 ⟨⟨v, rfl, hv⟩, b3⟩; have b3 := below_drew b3; have m3 := cells_below m2 b3 z2; obtain ⟨d0, d1, d2, d3, d4⟩ := five m3; have e1 := (b3.cell (p := ⟨b, off + k * 3 + 1, none⟩) hbw).trans s2; have e2 := (b3.cell (p := ⟨b, off + k * 3 + 2, none⟩) hbw).trans s3))
    go_wp2_with fail
    go_ret2
    exact ⟨⟨v, rfl, hv⟩, Below.on hB2 b3⟩
theorem past_is {w : World} {v : Value} {m : ImgD} (h : Img w v m) (nm : ByteArray) {E : Int} {l : List ByteArray} (hE : pastE m nm = E) (hl : pastV m nm = l) :
    Calls Try.prog 16 #[v, .string nm] w fun r w' => (∃ v, r = .returned (.tuple #[v, .int .i64 E]) ∧ Ss w' v l) ∧ Below w.heap.size w w' := by
  have h' := h
  obtain ⟨ra, rc, sa, sc, fa, fc, na, nc, rfl, h1, h2, h3, h4⟩ := h.parts
  subst hE hl
  by_cases h0 : checkE m = 0
  · exact past_at m.guest ra _ rc sa _ sc fa _ fc na _ nc m nm w h' h2 h4 rfl h0
  · have e1 : pastE m nm = checkE m := by unfold pastE; rw [if_pos h0]
    have e2 : pastV m nm = [] := by unfold pastV; rw [if_pos h0]
    rw [e1, e2]
    exact (past_bad m.guest ra _ rc sa _ sc fa _ fc na _ nc m nm _ w h' rfl (by simpa using h0)).mono fun _ w' h => ⟨⟨_, h.1, Ss.nil w'⟩, h.2⟩
end Go.Proofs.Ytgcfmodkknmifac
