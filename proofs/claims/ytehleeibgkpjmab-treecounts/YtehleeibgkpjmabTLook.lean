/- Contract of Look. -/
import Derived.Test.YtehleeibgkpjmabTChk2
namespace Go.Proofs.Ytehleeibgkpjmab
open Go.RowKit Go.Shelf
set_option maxRecDepth 20000

def lookV (m : ImgD) (root : List Int) (n : Nat) : Int := if root.getD (n / 4) 0 = 0 then 0 else (tabOf m.slots (root.getD (n / 4) 0)).getD (n % 4) 0
def lookE (m : ImgD) (n : Int) : Int := if checkE m ≠ 0 then checkE m else if 0 ≤ n ∧ n < m.guest then 0 else 3

theorem look_err (gm : Int) (ra : Option Addr) (rn rc : Nat) (sa : Option Addr) (sn sc : Nat) (fa : Option Addr) (fn fc : Nat) (na : Option Addr) (nn nc : Nat) (m : ImgD) (E n : Int) (w : World) (h : Img w (.agg #[.int .i64 gm, .slice ra rn rc, .slice sa sn sc, .slice fa fn fc, .slice na nn nc]) m) (hE : checkE m = E) (hne : (E != 0) = true) :
    Calls Try.prog 30 #[.agg #[.int .i64 gm, .slice ra rn rc, .slice sa sn sc, .slice fa fn fc, .slice na nn nc], .int .i64 n] w fun r w' => r = .returned (.tuple #[.int .i64 0, .int .i64 E]) ∧ Below w.heap.size w w' := by
  have b0 : Below w.heap.size w (w.alloc (.cells #[.int .i64 gm, .slice ra rn rc, .slice sa sn sc, .slice fa fn fc, .slice na nn nc] 44)) := (Below.refl _ _).alloc (Nat.le_refl _) _
  have hcall := tcheck_is (h.below b0) hE
  clear h hE
  go_enter Try.func30, Try.ntmps30
  go_wp2_with (go_at_call 28; refine hcall.mono ?_; rintro e w1 ⟨rfl, b1⟩)
  go_ret2
  exact ⟨rfl, Below.on b0 b1⟩

theorem look_range (gm : Int) (ra : Option Addr) (rn rc : Nat) (sa : Option Addr) (sn sc : Nat) (fa : Option Addr) (fn fc : Nat) (na : Option Addr) (nn nc : Nat) (m : ImgD) (n : Int) (w : World) (h : Img w (.agg #[.int .i64 gm, .slice ra rn rc, .slice sa sn sc, .slice fa fn fc, .slice na nn nc]) m) (hE : checkE m = 0) (hn : n < 0 ∨ gm ≤ n) :
    Calls Try.prog 30 #[.agg #[.int .i64 gm, .slice ra rn rc, .slice sa sn sc, .slice fa fn fc, .slice na nn nc], .int .i64 n] w fun r w' => r = .returned (.tuple #[.int .i64 0, .int .i64 3]) ∧ Below w.heap.size w w' := by
  have b0 : Below w.heap.size w (w.alloc (.cells #[.int .i64 gm, .slice ra rn rc, .slice sa sn sc, .slice fa fn fc, .slice na nn nc] 44)) := (Below.refl _ _).alloc (Nat.le_refl _) _
  have m0 : (w.alloc (.cells #[.int .i64 gm, .slice ra rn rc, .slice sa sn sc, .slice fa fn fc, .slice na nn nc] 44)).heap[w.heap.size]? = some (.cells #[.int .i64 gm, .slice ra rn rc, .slice sa sn sc, .slice fa fn fc, .slice na nn nc] 44) := World.alloc_heap_new _ _
  have hcall := tcheck_is (h.below b0) hE
  clear h hE
  by_cases h0 : n < 0
  · clear hn
    go_enter Try.func30, Try.ntmps30
    go_wp2_with (go_at_call 28; refine hcall.mono ?_; rintro e w1 ⟨rfl, b1⟩)
    go_ret2
    exact ⟨rfl, Below.on b0 b1⟩
  · have h1 : gm ≤ n := by omega
    clear hn
    go_enter Try.func30, Try.ntmps30
    go_wp2_with (go_at_call 28; refine hcall.mono ?_; rintro e w1 ⟨rfl, b1⟩; have m1 := cells_below m0 b1 (by simp); obtain ⟨c0, c1, c2, c3, c4⟩ := five m1)
    go_ret2
    exact ⟨rfl, Below.on b0 b1⟩

set_option maxHeartbeats 1000000 in
theorem look_hole (gm : Int) (rb ro : Nat) (rn rc : Nat) (sa : Option Addr) (sn sc : Nat) (fa : Option Addr) (fn fc : Nat) (na : Option Addr) (nn nc : Nat) (m : ImgD) (n : Nat) (w : World) (h : Img w (.agg #[.int .i64 gm, .slice (some ⟨rb, ro, none⟩) rn rc, .slice sa sn sc, .slice fa fn fc, .slice na nn nc]) m) (hE : checkE m = 0) (hn : (n : Int) < gm) (hrn : n / 4 < rn) (hn16 : n < 16) (hrb : rb < w.heap.size) (hc : w.cell? ⟨rb, ro + n / 4, none⟩ = some (.int .i64 0)) :
    Calls Try.prog 30 #[.agg #[.int .i64 gm, .slice (some ⟨rb, ro, none⟩) rn rc, .slice sa sn sc, .slice fa fn fc, .slice na nn nc], .int .i64 n] w fun r w' => r = .returned (.tuple #[.int .i64 0, .int .i64 0]) ∧ Below w.heap.size w w' := by
  have b0 : Below w.heap.size w (w.alloc (.cells #[.int .i64 gm, .slice (some ⟨rb, ro, none⟩) rn rc, .slice sa sn sc, .slice fa fn fc, .slice na nn nc] 44)) := (Below.refl _ _).alloc (Nat.le_refl _) _
  have m0 : (w.alloc (.cells #[.int .i64 gm, .slice (some ⟨rb, ro, none⟩) rn rc, .slice sa sn sc, .slice fa fn fc, .slice na nn nc] 44)).heap[w.heap.size]? = some (.cells #[.int .i64 gm, .slice (some ⟨rb, ro, none⟩) rn rc, .slice sa sn sc, .slice fa fn fc, .slice na nn nc] 44) := World.alloc_heap_new _ _
  have hcall := tcheck_is (h.below b0) hE
  have hq : ((n : Int) / 4).toNat = n / 4 := by omega
  clear h hE
  go_enter Try.func30, Try.ntmps30
  go_wp2_with (go_at_call 28; refine hcall.mono ?_; rintro e w1 ⟨rfl, b1⟩; have m1 := cells_below m0 b1 (by simp); obtain ⟨c0, c1, c2, c3, c4⟩ := five m1; have cr : w1.cell? ⟨rb, ro + n / 4, none⟩ = some (.int .i64 0) := ((Below.on b0 b1).cell (p := ⟨rb, ro + n / 4, none⟩) hrb).trans hc)
  go_ret2
  exact ⟨rfl, Below.on b0 b1⟩

set_option maxHeartbeats 1000000 in
theorem look_tab (gm : Int) (rb ro : Nat) (rn rc : Nat) (sb so : Nat) (sn sc : Nat) (fa : Option Addr) (fn fc : Nat) (na : Option Addr) (nn nc : Nat) (m : ImgD) (n t : Nat) (w : World) (h : Img w (.agg #[.int .i64 gm, .slice (some ⟨rb, ro, none⟩) rn rc, .slice (some ⟨sb, so, none⟩) sn sc, .slice fa fn fc, .slice na nn nc]) m) (hE : checkE m = 0) (hn : (n : Int) < gm) (hrn : n / 4 < rn) (hn16 : n < 16) (hrb : rb < w.heap.size) (hc : w.cell? ⟨rb, ro + n / 4, none⟩ = some (.int .i64 t))
    (ht0 : 0 < t) (ht : t < sn) (hsb : sb < w.heap.size) (tb tw tc : Nat) (hct : w.cell? ⟨sb, so + t * 3 + 2, none⟩ = some (.slice (some ⟨tb, tw, none⟩) 4 tc)) (htb : tb < w.heap.size) (x : Int) (hx : w.cell? ⟨tb, tw + n % 4, none⟩ = some (.int .i64 x)) :
    Calls Try.prog 30 #[.agg #[.int .i64 gm, .slice (some ⟨rb, ro, none⟩) rn rc, .slice (some ⟨sb, so, none⟩) sn sc, .slice fa fn fc, .slice na nn nc], .int .i64 n] w fun r w' => r = .returned (.tuple #[.int .i64 x, .int .i64 0]) ∧ Below w.heap.size w w' := by
  have b0 : Below w.heap.size w (w.alloc (.cells #[.int .i64 gm, .slice (some ⟨rb, ro, none⟩) rn rc, .slice (some ⟨sb, so, none⟩) sn sc, .slice fa fn fc, .slice na nn nc] 44)) := (Below.refl _ _).alloc (Nat.le_refl _) _
  have m0 : (w.alloc (.cells #[.int .i64 gm, .slice (some ⟨rb, ro, none⟩) rn rc, .slice (some ⟨sb, so, none⟩) sn sc, .slice fa fn fc, .slice na nn nc] 44)).heap[w.heap.size]? = some (.cells #[.int .i64 gm, .slice (some ⟨rb, ro, none⟩) rn rc, .slice (some ⟨sb, so, none⟩) sn sc, .slice fa fn fc, .slice na nn nc] 44) := World.alloc_heap_new _ _
  have hcall := tcheck_is (h.below b0) hE
  have hq : ((n : Int) / 4).toNat = n / 4 := by omega
  have hq2 : ((n : Int) % 4).toNat = n % 4 := by omega
  have hne : ((t : Int) == 0) = false := by simp; omega
  have h4 : n % 4 < 4 := by omega
  clear h hE
  go_enter Try.func30, Try.ntmps30
  go_wp2_with (go_at_call 28; refine hcall.mono ?_; rintro e w1 ⟨rfl, b1⟩; have m1 := cells_below m0 b1 (by simp); obtain ⟨c0, c1, c2, c3, c4⟩ := five m1; have cr : w1.cell? ⟨rb, ro + n / 4, none⟩ = some (.int .i64 t) := ((Below.on b0 b1).cell (p := ⟨rb, ro + n / 4, none⟩) hrb).trans hc; have ct : w1.cell? ⟨sb, so + t * 3 + 2, none⟩ = some (.slice (some ⟨tb, tw, none⟩) 4 tc) := ((Below.on b0 b1).cell (p := ⟨sb, so + t * 3 + 2, none⟩) hsb).trans hct; have cx : w1.cell? ⟨tb, tw + n % 4, none⟩ = some (.int .i64 x) := ((Below.on b0 b1).cell (p := ⟨tb, tw + n % 4, none⟩) htb).trans hx)
  go_ret2
  exact ⟨rfl, Below.on b0 b1⟩

theorem checkE_shape {m : ImgD} (h : checkE m = 0) : shapeE m = 0 := by
  unfold checkE at h
  split at h
  · rename_i h1; exact absurd h h1
  · rename_i h1; simpa using h1

theorem look_is {w : World} {v : Value} {m : ImgD} (h : Img w v m) (n : Int) {E c : Int} (hE : lookE m n = E) (hc : (if E = 0 then lookV m m.root n.toNat else 0) = c) :
    Calls Try.prog 30 #[v, .int .i64 n] w fun r w' => r = .returned (.tuple #[.int .i64 c, .int .i64 E]) ∧ Below w.heap.size w w' := by
  have h' := h
  obtain ⟨ra, rc, sa, sc, fa, fc, na, nc, rfl, h1, h2, h3, h4⟩ := h.parts
  unfold lookE at hE
  by_cases h0 : checkE m = 0
  · rw [if_neg (by simpa using h0)] at hE
    by_cases hn : 0 ≤ n ∧ n < m.guest
    · rw [if_pos hn] at hE
      subst hE
      rw [if_pos rfl] at hc
      obtain ⟨k, rfl⟩ : ∃ k : Nat, n = k := ⟨n.toNat, by omega⟩
      rw [Int.toNat_natCast] at hc
      obtain ⟨z1, z2, z3, z4, z5, z6, z7⟩ := shapeE_zero (checkE_shape h0)
      have hg : guestOK m.guest = true := List.all_eq_true.1 z5 (⟨#[]⟩, m.guest, m.root) List.mem_cons_self
      have hrf : rootFit m.slots m.guest m.root = true := List.all_eq_true.1 z7 (⟨#[]⟩, m.guest, m.root) List.mem_cons_self
      unfold guestOK at hg
      simp only [decide_eq_true_eq] at hg
      unfold rootFit at hrf
      simp only [Bool.and_eq_true, decide_eq_true_eq] at hrf
      have hkl : k / 4 < m.root.length := by omega
      have hE2 := all_at hrf.2.1 hkl
      obtain ⟨rb, ro, rc', e, _, hrb, hcell⟩ := h1.open (by omega)
      simp at e
      obtain ⟨rfl, rfl⟩ := e
      have hcr := hcell (k / 4) hkl
      unfold lookV at hc
      by_cases hz : m.root.getD (k / 4) 0 = 0
      · rw [if_pos hz] at hc
        subst hc
        rw [hz] at hcr
        exact look_hole m.guest rb ro _ rc sa _ sc fa _ fc na _ nc m k w h' h0 hn.2 hkl (by omega) hrb hcr
      · rw [if_neg hz] at hc
        rw [rootE_x hz] at hE2
        obtain ⟨t, ht, htl, hkd⟩ := isKd_yes hE2
        have hok := okD_tab (slotsE_all z2 htl) hkd
        obtain ⟨sb, so, sc', e, _, hsb, hcl⟩ := h2.open (by omega)
        simp at e
        obtain ⟨rfl, rfl⟩ := e
        obtain ⟨tv, _, _, c3, hsl⟩ := hcl t htl
        obtain ⟨tb, tw, tc, rfl, _, htb, htc⟩ := hsl.four hok.1
        rw [ht] at hcr hc hz
        have e4 : tabOf m.slots (t : Int) = m.slots[t].2.2 := by unfold tabOf; simp [List.getD, htl]
        rw [e4] at hc
        have hx := htc (k % 4) (by omega)
        rw [hc] at hx
        exact look_tab m.guest rb ro _ rc sb so _ sc fa _ fc na _ nc m k t w h' h0 hn.2 hkl (by omega) hrb hcr (by omega) htl hsb tb tw tc c3 htb c hx
    · rw [if_neg hn] at hE
      subst hE
      rw [if_neg (by decide)] at hc
      subst hc
      exact look_range m.guest ra _ rc sa _ sc fa _ fc na _ nc m n w h' h0 (by omega)
  · rw [if_pos h0] at hE
    rw [if_neg (by rw [← hE]; exact h0)] at hc
    subst hc
    exact look_err m.guest ra _ rc sa _ sc fa _ fc na _ nc m E n w h' hE (by rw [← hE]; simpa using h0)
end Go.Proofs.Ytehleeibgkpjmab
