/- Texts joined: Fit, RFit, RFit2, Nm, Rise, Shape, Shape2. -/
import Derived.Test.YtehleeibgkpjmaeMendTrueJ1
import Derived.Shelf.Abstract
import Derived.Lib.OthersKept
import Derived.Laws.RangeAny
import Derived.BigQuiet
import Derived.Deep.RegionWith
import Derived.Deep.RegionHeld3
set_option linter.unusedVariables false
set_option linter.unusedSimpArgs false
/- Contracts of tablesFit and rootFits, and of what they ask. -/
namespace Go.Proofs.Ytehleeibgkpjmae
open Go.RowKit Go.Shelf
set_option maxRecDepth 20000

theorem tabE_0 (L : List SlotD) : tabE L 0 = true := rfl
theorem tabE_m1 (L : List SlotD) : tabE L (-1) = true := rfl
theorem tabE_x {L : List SlotD} {e : Int} (h0 : e ≠ 0) (h1 : e ≠ -1) : tabE L e = isKd L e 1 := by
  have a : (e != 0) = true := by simpa using h0
  have b : (e != -1) = true := by simpa using h1
  unfold tabE; rw [a, b]; simp
theorem rootE_x {L : List SlotD} {e : Int} (h0 : e ≠ 0) : rootE L e = isKd L e 2 := by
  have a : (e != 0) = true := by simpa using h0
  unfold rootE; rw [a]; simp

/-- The cell of a box of a slice of slots. -/
theorem entryP_any (B : Nat) (v : Value) (L : List SlotD) (x : Int) (w : World) (hc : w.cell? ⟨B, 0, none⟩ = some v) (h : Slots w v L) :
    Calls Try.prog 114 #[.int .i64 x, .pointer (some ⟨B, 0, none⟩)] w fun r w' => r = .returned (.bool (!tabE L x)) ∧ w' = w := by
  obtain ⟨ao, cap, rfl⟩ := h.form
  by_cases h0 : x = 0
  · subst h0
    go_enter Try.func114, Try.ntmps114
    go_wp2
    go_ret
    exact ⟨rfl, rfl⟩
  by_cases h1 : x = -1
  · subst h1
    clear h0
    go_enter Try.func114, Try.ntmps114
    go_wp2
    go_ret
    exact ⟨rfl, rfl⟩
  rw [tabE_x h0 h1]
  have g0 : (x != 0) = true := by simpa using h0
  have g1 : (x != -1) = true := by simpa using h1
  clear h0 h1
  go_enter Try.func114, Try.ntmps114
  go_wp2_with (go_at_call 115; refine (isKind_is h x 1 rfl).mono ?_; rintro e w1 ⟨rfl, hw⟩; subst hw)
  go_ret
  exact ⟨rfl, rfl⟩
theorem rootP_any (B : Nat) (v : Value) (L : List SlotD) (x : Int) (w : World) (hc : w.cell? ⟨B, 0, none⟩ = some v) (h : Slots w v L) :
    Calls Try.prog 116 #[.int .i64 x, .pointer (some ⟨B, 0, none⟩)] w fun r w' => r = .returned (.bool (!rootE L x)) ∧ w' = w := by
  obtain ⟨ao, cap, rfl⟩ := h.form
  by_cases h0 : x = 0
  · subst h0
    go_enter Try.func116, Try.ntmps116
    go_wp2
    go_ret
    exact ⟨rfl, rfl⟩
  rw [rootE_x h0]
  have g0 : (x != 0) = true := by simpa using h0
  clear h0
  go_enter Try.func116, Try.ntmps116
  go_wp2_with (go_at_call 115; refine (isKind_is h x 2 rfl).mono ?_; rintro e w1 ⟨rfl, hw⟩; subst hw)
  go_ret
  exact ⟨rfl, rfl⟩
theorem holeP_any (x : Int) (w : World) : Calls Try.prog 117 #[.int .i64 x] w fun r w' => r = .returned (.bool (!(x == 0))) ∧ w' = w := by
  go_enter Try.func117, Try.ntmps117
  go_wp2
  go_ret
  exact ⟨rfl, rfl⟩

theorem any_not {α : Type} (p : α → Bool) (xs : List α) : xs.any (fun x => !p x) = !xs.all p := by
  induction xs with
  | nil => rfl
  | cons a r ih => simp only [List.any_cons, List.all_cons, ih]; cases p a <;> simp

/-- A slot's table is asked. -/
theorem tableP_any (B : Nat) (v : Value) (L : List SlotD) (s : SlotD) (tv : Value) (w : World) (hB : B < w.heap.size) (hc : w.cell? ⟨B, 0, none⟩ = some v) (h : Slots w v L) (ht : Sl w tv s.2.2) :
    Calls Try.prog 112 #[.agg #[.int .i64 s.1, .string s.2.1, tv], .pointer (some ⟨B, 0, none⟩)] w fun r w' => r = .returned (.bool (!s.2.2.all (tabE L))) ∧ Below w.heap.size w w' := by
  obtain ⟨k, d, xs⟩ := s
  dsimp only at ht ⊢
  have b0 : Below w.heap.size w (w.alloc (.cells #[.int .i64 k, .string d, tv] 72)) := (Below.refl _ _).alloc (Nat.le_refl _) _
  have ht1 := ht.below b0
  have hc1 := (b0.cell (p := ⟨B, 0, none⟩) hB).trans hc
  have h1 := h.below b0
  have hcall := containsI_any (g := 114) (lb := #[.pointer (some ⟨B, 0, none⟩)]) (enters_of Try.func114 (by kernel_rfl) rfl) ht1 (p := fun x => !tabE L x)
    (fun W x hb => (entryP_any B v L x W ((hb.cell (p := ⟨B, 0, none⟩) (by simp; omega)).trans hc1) (h1.below hb)).mono fun e w' hr => ⟨hr.1, hr.2 ▸ Below.refl _ _⟩) (any_not (tabE L) xs)
  clear hc hc1 h h1 ht1 ht
  go_enter Try.func112, Try.ntmps112
  go_wp2_with (go_at_call 113; refine hcall.mono ?_; rintro e w1 ⟨rfl, b1⟩)
  go_ret
  exact ⟨rfl, Below.on b0 b1⟩

theorem tablesFit_any (v : Value) (L : List SlotD) (w : World) (h : Slots w v L) :
    Calls Try.prog 99 #[v] w fun r w' => r = .returned (.bool (tabFit L)) ∧ Below w.heap.size w w' := by
  have b0 : Below w.heap.size w (w.alloc (.cells #[v] 23)) := (Below.refl _ _).alloc (Nat.le_refl _) _
  have hc1 : (w.alloc (.cells #[v] 23)).cell? ⟨w.heap.size, 0, none⟩ = some v := by rw [World.cell?_alloc_at _ _ _ _ rfl]; rfl
  have h1 := h.below b0
  have hcall := containsS_any (g := 112) (lb := #[.pointer (some ⟨w.heap.size, 0, none⟩)]) (enters_of Try.func112 (by kernel_rfl) rfl) h1 (p := fun s => !s.2.2.all (tabE L))
    (fun W s tv hb ht => tableP_any w.heap.size v L s tv W (by have := hb.size; simp at this; omega) ((hb.cell (p := ⟨w.heap.size, 0, none⟩) (by simp)).trans hc1) (h1.below hb) ht) (any_not (fun s => s.2.2.all (tabE L)) L)
  obtain ⟨ao, cap, rfl⟩ := h.form
  clear h h1
  go_enter Try.func99, Try.ntmps99
  go_wp2_with (go_at_call 111; refine hcall.mono ?_; rintro e w1 ⟨rfl, b1⟩)
  go_ret
  exact ⟨rfl, Below.on b0 b1⟩
end Go.Proofs.Ytehleeibgkpjmae
/- Contract of rootFits. -/
namespace Go.Proofs.Ytehleeibgkpjmae
open Go.RowKit Go.Shelf
set_option maxRecDepth 20000

theorem rootFits_len (la : Option Addr) (ln lc : Nat) (nm : ByteArray) (g : Nat) (ra : Option Addr) (rn rc : Nat) (w : World) (hg : g ≤ 16) (_hr : rn ≤ 9223372036854775807) (hne : rn ≠ (g + 3) / 4) :
    Calls Try.prog 100 #[.slice la ln lc, .agg #[.string nm, .int .i64 g, .slice ra rn rc]] w fun r w' => r = .returned (.bool false) ∧ Below w.heap.size w w' := by
  have b0 : Below w.heap.size w ((w.alloc (.cells #[.slice la ln lc] 23)).alloc (.cells #[.string nm, .int .i64 g, .slice ra rn rc] 64)) := ((Below.refl _ _).alloc (Nat.le_refl _) _).alloc (by simp) _
  go_enter Try.func100, Try.ntmps100
  go_wp2
  go_ret
  exact ⟨rfl, b0⟩

theorem Sl.drop {w : World} {b off n cap k : Nat} {xs : List Int} (h : Sl w (.slice (some ⟨b, off, none⟩) n cap) xs) (hk : k < n) : Sl w (.slice (some ⟨b, off + k, none⟩) (n - k) (cap - k)) (xs.drop k) := by
  obtain ⟨ao, cap', hv, hm, hcp, hc⟩ := h
  simp only [Value.slice.injEq] at hv
  obtain ⟨ha, rfl, rfl⟩ := hv
  refine ⟨some ⟨b, off + k, none⟩, cap - k, by simp, by simp; omega, by simp; omega, fun _ => ?_⟩
  obtain ⟨b', off', e, hlt, hcell⟩ := hc (by intro e; rw [e] at hk; simp at hk)
  rw [← ha] at e
  simp at e
  obtain ⟨rfl, rfl⟩ := e
  refine ⟨b, off + k, rfl, hlt, fun j hj => ?_⟩
  have hj' : j < xs.length - k := by simpa using hj
  have := hcell (k + j) (by omega)
  rw [show off + k + j = off + (k + j) by omega, this]
  simp [List.getD]

/-- What the walk wants of the two boxes. -/
theorem boxes2 (w : World) (x y1 y2 y3 : Value) (T1 T2 : TypeId) :
    ((w.alloc (.cells #[x] T1)).alloc (.cells #[y1, y2, y3] T2)).cell? ⟨w.heap.size, 0, none⟩ = some x ∧ ((w.alloc (.cells #[x] T1)).alloc (.cells #[y1, y2, y3] T2)).cell? ⟨w.heap.size + 1, 0, none⟩ = some y1 ∧
    ((w.alloc (.cells #[x] T1)).alloc (.cells #[y1, y2, y3] T2)).cell? ⟨w.heap.size + 1, 1, none⟩ = some y2 ∧ ((w.alloc (.cells #[x] T1)).alloc (.cells #[y1, y2, y3] T2)).cell? ⟨w.heap.size + 1, 2, none⟩ = some y3 := by
  refine ⟨?_, ?_, ?_, ?_⟩
  · have b : Below (w.alloc (.cells #[x] T1)).heap.size (w.alloc (.cells #[x] T1)) ((w.alloc (.cells #[x] T1)).alloc (.cells #[y1, y2, y3] T2)) := (Below.refl _ _).alloc (Nat.le_refl _) _
    rw [b.cell (p := ⟨w.heap.size, 0, none⟩) (by simp), World.cell?_alloc_at _ _ _ _ rfl]; rfl
  · rw [World.cell?_alloc_at _ _ _ _ (by simp)]; rfl
  · rw [World.cell?_alloc_at _ _ _ _ (by simp)]; rfl
  · rw [World.cell?_alloc_at _ _ _ _ (by simp)]; rfl

abbrev rfW (w : World) (lv : Value) (nm : ByteArray) (g : Nat) (rv : Value) : World := (w.alloc (.cells #[lv] 23)).alloc (.cells #[.string nm, .int .i64 g, rv] 64)
theorem rfW_below (w : World) (lv : Value) (nm : ByteArray) (g : Nat) (rv : Value) : Below w.heap.size w (rfW w lv nm g rv) := ((Below.refl _ _).alloc (Nat.le_refl _) _).alloc (by simp) _

/-- The call that asks all entries of a Root. -/
theorem rootAll (w : World) (lv : Value) (L : List SlotD) (nm : ByteArray) (g : Nat) (rv : Value) (r : List Int) (h : Slots w lv L) (hr : Sl w rv r) {B : Bool} (hB : (!r.all (rootE L)) = B) :
    Calls Try.prog 113 #[rv, .func (.func 116) #[] #[.pointer (some ⟨w.heap.size, 0, none⟩)]] (rfW w lv nm g rv) fun e w' => e = .returned (.bool B) ∧ Below (rfW w lv nm g rv).heap.size (rfW w lv nm g rv) w' := by
  have b0 := rfW_below w lv nm g rv
  obtain ⟨c0, _⟩ := boxes2 w lv (.string nm) (.int .i64 g) rv 23 64
  exact containsI_any (g := 116) (lb := #[.pointer (some ⟨w.heap.size, 0, none⟩)]) (enters_of Try.func116 (by kernel_rfl) rfl) (hr.below b0) (p := fun x => !rootE L x)
    (fun W x hb => (rootP_any w.heap.size lv L x W ((hb.cell (p := ⟨w.heap.size, 0, none⟩) (by simp; omega)).trans c0) ((h.below b0).below hb)).mono fun e w' hr => ⟨hr.1, hr.2 ▸ Below.refl _ _⟩) ((any_not (rootE L) r).trans hB)

set_option maxHeartbeats 1000000 in
theorem rootFits_bad (la : Option Addr) (ln lc : Nat) (L : List SlotD) (nm : ByteArray) (g : Nat) (ra : Option Addr) (rn rc : Nat) (r : List Int) (w : World) (hg : g ≤ 16) (hq1 : 4 * rn ≤ g + 3) (hq2 : g + 3 < 4 * rn + 4) (h : Slots w (.slice la ln lc) L) (hr : Sl w (.slice ra rn rc) r) (hB : (!r.all (rootE L)) = true) :
    Calls Try.prog 100 #[.slice la ln lc, .agg #[.string nm, .int .i64 g, .slice ra rn rc]] w fun r w' => r = .returned (.bool false) ∧ Below w.heap.size w w' := by
  have b0 := rfW_below w (.slice la ln lc) nm g (.slice ra rn rc)
  have hcall := rootAll w (.slice la ln lc) L nm g (.slice ra rn rc) r h hr hB
  clear h hr hB
  go_enter Try.func100, Try.ntmps100
  go_wp2_with fail
  refine hcall.mono ?_
  rintro e w1 ⟨rfl, b1⟩
  go_wp2_with fail
  go_ret
  exact ⟨rfl, Below.on b0 b1⟩

set_option maxHeartbeats 1000000 in
theorem rootFits_even (la : Option Addr) (ln lc : Nat) (L : List SlotD) (nm : ByteArray) (g : Nat) (ra : Option Addr) (rn rc : Nat) (r : List Int) (w : World) (hg : g ≤ 16) (hq1 : 4 * rn ≤ g + 3) (hq2 : g + 3 < 4 * rn + 4) (h0 : g % 4 = 0) (h : Slots w (.slice la ln lc) L) (hr : Sl w (.slice ra rn rc) r) (hB : (!r.all (rootE L)) = false) :
    Calls Try.prog 100 #[.slice la ln lc, .agg #[.string nm, .int .i64 g, .slice ra rn rc]] w fun r w' => r = .returned (.bool true) ∧ Below w.heap.size w w' := by
  have b0 := rfW_below w (.slice la ln lc) nm g (.slice ra rn rc)
  have hcall := rootAll w (.slice la ln lc) L nm g (.slice ra rn rc) r h hr hB
  obtain ⟨_, c1, c2, c3⟩ := boxes2 w (.slice la ln lc) (.string nm) (.int .i64 g) (.slice ra rn rc) 23 64
  clear h hr hB
  go_enter Try.func100, Try.ntmps100
  go_wp2_with fail
  refine hcall.mono ?_
  rintro e w1 ⟨rfl, b1⟩
  replace c2 := (b1.cell (p := ⟨w.heap.size + 1, 1, none⟩) (by simp)).trans c2
  go_wp2_with fail
  go_ret
  exact ⟨rfl, Below.on b0 b1⟩

set_option maxHeartbeats 2000000 in
theorem rootFits_hole (la : Option Addr) (ln lc : Nat) (L : List SlotD) (nm : ByteArray) (g : Nat) (rb ro : Nat) (rn rc : Nat) (r : List Int) (w : World) (hg : g ≤ 16) (hq1 : 4 * rn ≤ g + 3) (hq2 : g + 3 < 4 * rn + 4) (h0 : 0 < g % 4) (h : Slots w (.slice la ln lc) L) (hr : Sl w (.slice (some ⟨rb, ro, none⟩) rn rc) r) (hB : (!r.all (rootE L)) = false)
    (hb : rb < w.heap.size) (hlast : w.cell? ⟨rb, ro + (rn - 1), none⟩ = some (.int .i64 0)) :
    Calls Try.prog 100 #[.slice la ln lc, .agg #[.string nm, .int .i64 g, .slice (some ⟨rb, ro, none⟩) rn rc]] w fun r w' => r = .returned (.bool true) ∧ Below w.heap.size w w' := by
  have b0 := rfW_below w (.slice la ln lc) nm g (.slice (some ⟨rb, ro, none⟩) rn rc)
  have hcall := rootAll w (.slice la ln lc) L nm g (.slice (some ⟨rb, ro, none⟩) rn rc) r h hr hB
  obtain ⟨_, c1, c2, c3⟩ := boxes2 w (.slice la ln lc) (.string nm) (.int .i64 g) (.slice (some ⟨rb, ro, none⟩) rn rc) 23 64
  have hl := (b0.cell (p := ⟨rb, ro + (rn - 1), none⟩) hb).trans hlast
  clear h hr hB hlast
  go_enter Try.func100, Try.ntmps100
  go_wp2_with fail
  refine hcall.mono ?_
  rintro e w1 ⟨rfl, b1⟩
  replace c2 := (b1.cell (p := ⟨w.heap.size + 1, 1, none⟩) (by simp)).trans c2
  replace c3 := (b1.cell (p := ⟨w.heap.size + 1, 2, none⟩) (by simp)).trans c3
  replace hl := (b1.cell (p := ⟨rb, ro + (rn - 1), none⟩) (by simp; omega)).trans hl
  go_wp2_with fail
  go_ret
  exact ⟨rfl, Below.on b0 b1⟩
end Go.Proofs.Ytehleeibgkpjmae
/- Contract of rootFits: a last table; and all ways together. -/
namespace Go.Proofs.Ytehleeibgkpjmae
open Go.RowKit Go.Shelf
set_option maxRecDepth 20000

set_option maxHeartbeats 2000000 in
theorem rootFits_tab (lb lo : Nat) (ln lc : Nat) (L : List SlotD) (nm : ByteArray) (g : Nat) (rb ro : Nat) (rn rc : Nat) (r : List Int) (w : World) (hg : g ≤ 16) (hq1 : 4 * rn ≤ g + 3) (hq2 : g + 3 < 4 * rn + 4) (h0 : 0 < g % 4) (h : Slots w (.slice (some ⟨lb, lo, none⟩) ln lc) L) (hr : Sl w (.slice (some ⟨rb, ro, none⟩) rn rc) r) (hB : (!r.all (rootE L)) = false)
    (hb : rb < w.heap.size) (hbl : lb < w.heap.size) (t : Nat) (ht0 : 0 < t) (ht : t < ln) (hlast : w.cell? ⟨rb, ro + (rn - 1), none⟩ = some (.int .i64 t)) (tb tw tc : Nat) (hcell : w.cell? ⟨lb, lo + t * 3 + 2, none⟩ = some (.slice (some ⟨tb, tw, none⟩) 4 tc)) (htc : 4 ≤ tc)
    (xs : List Int) (hs : Sl w (.slice (some ⟨tb, tw, none⟩) 4 tc) xs) (B : Bool) (hxs : (xs.drop (g % 4)).all (fun k => k == 0) = B) :
    Calls Try.prog 100 #[.slice (some ⟨lb, lo, none⟩) ln lc, .agg #[.string nm, .int .i64 g, .slice (some ⟨rb, ro, none⟩) rn rc]] w fun r w' => r = .returned (.bool B) ∧ Below w.heap.size w w' := by
  have b0 := rfW_below w (.slice (some ⟨lb, lo, none⟩) ln lc) nm g (.slice (some ⟨rb, ro, none⟩) rn rc)
  have hcall := rootAll w (.slice (some ⟨lb, lo, none⟩) ln lc) L nm g (.slice (some ⟨rb, ro, none⟩) rn rc) r h hr hB
  obtain ⟨c0, c1, c2, c3⟩ := boxes2 w (.slice (some ⟨lb, lo, none⟩) ln lc) (.string nm) (.int .i64 g) (.slice (some ⟨rb, ro, none⟩) rn rc) 23 64
  have hl := (b0.cell (p := ⟨rb, ro + (rn - 1), none⟩) hb).trans hlast
  have hd := (hs.drop (k := g % 4) (by omega)).below b0
  have hcell := (b0.cell (p := ⟨lb, lo + t * 3 + 2, none⟩) hbl).trans hcell
  have hne : ((t : Int) == 0) = false := by simp; omega
  have hmod : ((g : Int) % 4).toNat = g % 4 := by omega
  have HX : Hid ((xs.drop (g % 4)).all (fun k => k == 0) = B) := hxs
  have h4 : g % 4 ≤ 4 := by omega
  clear h hr hB hlast hs hxs
  go_enter Try.func100, Try.ntmps100
  go_wp2_with fail
  refine hcall.mono ?_
  rintro e w1 ⟨rfl, b1⟩
  replace c0 := (b1.cell (p := ⟨w.heap.size, 0, none⟩) (by simp; omega)).trans c0
  replace c2 := (b1.cell (p := ⟨w.heap.size + 1, 1, none⟩) (by simp)).trans c2
  replace c3 := (b1.cell (p := ⟨w.heap.size + 1, 2, none⟩) (by simp)).trans c3
  replace hl := (b1.cell (p := ⟨rb, ro + (rn - 1), none⟩) (by simp; omega)).trans hl
  replace hcell := (b1.cell (p := ⟨lb, lo + t * 3 + 2, none⟩) (by simp; omega)).trans hcell
  replace hd := hd.below b1
  have hcall2 := containsI_any (g := 117) (lb := #[]) (enters_of Try.func117 (by kernel_rfl) rfl) hd (p := fun x => !(x == 0))
    (fun W x hb => (holeP_any x W).mono fun e w' hr => ⟨hr.1, hr.2 ▸ Below.refl _ _⟩) (any_not (fun x => x == 0) _)
  rw [HX.out] at hcall2
  clear hcall hd
  go_wp2_with fail
  refine hcall2.mono ?_
  rintro e w2 ⟨rfl, b2⟩
  go_wp2_with fail
  go_ret
  exact ⟨by simp, Below.on' b0 b1 b2⟩

theorem slotsE_all {L : List SlotD} (h : slotsE L = 0) {j : Nat} (hj : j < L.length) : okD L[j] = true := by
  have hp := slotsE_parts h
  unfold slotsE at h
  rw [if_pos hp] at h
  split at h
  · rename_i g
    have := g.1
    rw [List.all_eq_true] at this
    exact this _ (List.getElem_mem hj)
  · simp at h
theorem okD_tab {s : SlotD} (h : okD s = true) (hk : s.1 = 2) : s.2.2.length = 4 ∧ ckE s.2.2 = 0 := by
  unfold okD slotOK at h
  rw [hk] at h
  simp at h
  exact ⟨ckE_len h.1, h.1⟩
theorem isKd_yes {L : List SlotD} {k kind : Int} (h : isKd L k kind = true) : ∃ j : Nat, k = j ∧ ∃ hj : j < L.length, L[j].1 = kind := by
  by_cases hk : 0 ≤ k ∧ k < L.length
  · obtain ⟨j, rfl⟩ : ∃ j : Nat, k = j := ⟨k.toNat, by omega⟩
    have hj : j < L.length := by omega
    rw [isKd_in hj] at h
    exact ⟨j, rfl, hj, by simpa using h⟩
  · rw [isKd_out hk] at h; cases h
theorem all_at {p : Int → Bool} {r : List Int} (h : r.all p = true) {j : Nat} (hj : j < r.length) : p (r.getD j 0) = true := by
  rw [List.all_eq_true] at h
  have := h _ (List.getElem_mem hj)
  simpa [List.getD, hj] using this

theorem rootFits_is {lv : Value} {L : List SlotD} {nm : ByteArray} {g : Int} {rv : Value} {r : List Int} {w : World} (h : Slots w lv L) (hL : slotsE L = 0) (hg : 0 ≤ g ∧ g ≤ 16) (hr : Sl w rv r) {B : Bool} (hB : rootFit L g r = B) :
    Calls Try.prog 100 #[lv, .agg #[.string nm, .int .i64 g, rv]] w fun r w' => r = .returned (.bool B) ∧ Below w.heap.size w w' := by
  subst hB
  obtain ⟨g, rfl⟩ : ∃ k : Nat, g = k := ⟨g.toNat, by omega⟩
  have hs := hr.small
  have hm := h.small
  by_cases hlen : r.length = (g + 3) / 4
  · have e1 : decide ((r.length : Int) = ((g : Int) + 3) / 4) = true := by simp; omega
    unfold rootFit
    rw [e1, Bool.true_and]
    cases hall : r.all (rootE L) with
    | false =>
      rw [Bool.false_and]
      obtain ⟨la, lc, rfl⟩ := h.form
      obtain ⟨ra, rc, rfl⟩ := hr.form
      exact rootFits_bad la _ lc L nm g ra _ rc r w (by omega) (by omega) (by omega) h hr (by rw [hall]; rfl)
    | true =>
      rw [Bool.true_and]
      unfold lastFit
      by_cases h0 : g % 4 = 0
      · have e2 : ((g : Int) % 4 == 0) = true := by simp; omega
        rw [e2, Bool.true_or]
        obtain ⟨la, lc, rfl⟩ := h.form
        obtain ⟨ra, rc, rfl⟩ := hr.form
        exact rootFits_even la _ lc L nm g ra _ rc r w (by omega) (by omega) (by omega) h0 h hr (by rw [hall]; rfl)
      · have e2 : ((g : Int) % 4 == 0) = false := by simp; omega
        rw [e2, Bool.false_or]
        have hrl : 1 ≤ r.length := by omega
        have hr' := hr
        obtain ⟨rb, ro, rc, rfl, hrc, hrb, hcell⟩ := hr.open hrl
        have hlast := hcell (r.length - 1) (by omega)
        by_cases hz : r.getD (r.length - 1) 0 = 0
        · have e3 : (r.getD (r.length - 1) 0 == 0) = true := by simpa using hz
          rw [e3, Bool.true_or]
          rw [hz] at hlast
          obtain ⟨la, lc, rfl⟩ := h.form
          exact rootFits_hole la _ lc L nm g rb ro _ rc r w (by omega) (by omega) (by omega) (by omega) h hr' (by rw [hall]; rfl) hrb hlast
        · have e3 : (r.getD (r.length - 1) 0 == 0) = false := by simpa using hz
          rw [e3, Bool.false_or]
          have hk := all_at hall (j := r.length - 1) (by omega)
          rw [rootE_x hz] at hk
          obtain ⟨t, ht, htl, hkd⟩ := isKd_yes hk
          have hok := okD_tab (slotsE_all hL htl) hkd
          have h' := h
          obtain ⟨lb, lo, lc, rfl, hlc, hlb, hcl⟩ := h.open (by omega)
          obtain ⟨tv, _, _, c3, hsl⟩ := hcl t htl
          obtain ⟨tb, tw, tc, rfl, htc, htb, _⟩ := hsl.four hok.1
          rw [ht] at hlast ⊢
          have e4 : tabOf L (t : Int) = L[t].2.2 := by unfold tabOf; simp [List.getD, htl]
          rw [e4, show ((g : Int) % 4).toNat = g % 4 by omega]
          refine rootFits_tab lb lo _ lc L nm g rb ro _ rc r w (by omega) (by omega) (by omega) (by omega) h' hr' (by rw [hall]; rfl) hrb hlb t (by rw [ht] at hz; omega) htl hlast tb tw tc c3 htc L[t].2.2 hsl _ rfl
  · have e1 : decide ((r.length : Int) = ((g : Int) + 3) / 4) = false := by simp; omega
    unfold rootFit
    rw [e1, Bool.false_and]
    obtain ⟨la, lc, rfl⟩ := h.form
    obtain ⟨ra, rc, rfl⟩ := hr.form
    exact rootFits_len la _ lc nm g ra _ rc w (by omega) hs hlen
end Go.Proofs.Ytehleeibgkpjmae
/- Contracts of isName and of what it calls. -/
namespace Go.Proofs.Ytehleeibgkpjmae
open Go.RowKit Go.Shelf
set_option maxRecDepth 20000

theorem decode_far (s : ByteArray) (i : Nat) (h : i < s.size) (ha : 128 ≤ (s[i]'h).toNat) : 128 ≤ (Utf8.decode s i).1 := by
  have e : s.get! (i + 0) = s[i]'h := by
    show s.get! i = _
    simp [ByteArray.get!, getElem!_pos, h]
    rfl
  have hr : 128 ≤ Utf8.runeError := by decide
  unfold Utf8.decode
  simp only [e]
  rw [if_neg (by omega)]
  split
  · split
    · assumption
    · exact hr
  · split
    · split
      · rename_i hh
        simp at hh
        show 128 ≤ _
        omega
      · exact hr
    · split
      · split
        · rename_i hh
          simp at hh
          show 128 ≤ _
          omega
        · exact hr
      · exact hr

theorem letter_any (x : Int) (w : World) : Calls Try.prog 64 #[.int .i32 x] w fun r w' => r = .returned (.bool (!decide (97 ≤ x ∧ x ≤ 122))) ∧ w' = w := by
  go_enter Try.func64, Try.ntmps64
  go_wp2
  all_goals (go_ret; exact ⟨ret_bool (by simp <;> omega), rfl⟩)
theorem letter_is {x : Int} (w : World) {B : Bool} (hB : (!decide (97 ≤ x ∧ x ≤ 122)) = B) : Calls Try.prog 64 #[.int .i32 x] w fun r w' => r = .returned (.bool B) ∧ w' = w := by
  subst hB; exact letter_any x w

theorem letters_bad {s : ByteArray} {k : Nat} (h : k < s.size) (hb : isLetter s[k] = false) : s.data.toList.all isLetter = false := by
  cases e : s.data.toList.all isLetter with
  | false => rfl
  | true =>
    rw [List.all_eq_true] at e
    have := e s[k] (by
      show s.data[k] ∈ s.data.toList
      exact Array.getElem_mem_toList _)
    rw [hb] at this; cases this
theorem letters_good {s : ByteArray} (h : ∀ k, (hk : k < s.size) → isLetter s[k] = true) : s.data.toList.all isLetter = true := by
  rw [List.all_eq_true]
  intro x hx
  obtain ⟨j, hj, rfl⟩ := List.getElem_of_mem hx
  exact h j (by simpa using hj)

set_option maxHeartbeats 1000000 in
theorem indexL_any (s : ByteArray) (w : World) :
    Calls Try.prog 108 #[.string s, .func (.func 64) #[] #[], .bool true] w fun r w' => (∃ i : Int, r = .returned (.int .i64 i) ∧ (decide (0 ≤ i)) = !s.data.toList.all isLetter) ∧ Below w.heap.size w w' := by
  go_enter Try.func108, Try.ntmps108
  go_wp2
  go_loopw [] (fun wr => ∃ k : Nat, k ≤ s.size ∧ Hid (∀ j, (h : j < s.size) → j < k → isLetter s[j] = true) ∧ wr = w.iter s k) (fun wr => s.size - wr.iterPos w.heap.size)
  case atStart => exact ⟨0, Nat.zero_le _, fun j h hj => absurd hj (by omega), rfl⟩
  case round =>
    obtain ⟨k, hk, HA, rfl⟩ := hrel
    by_cases hlk : k < s.size
    · by_cases hL : isLetter s[k] = true
      · have hl := hL
        unfold isLetter at hl
        simp at hl
        have hnx := fun ty => run_next_ascii (P := Try.prog) w s k ty hlk (by omega)
        have hq : (!decide ((97 : Int) ≤ ((s[k]'hlk).toNat : Int) ∧ ((s[k]'hlk).toNat : Int) ≤ 122)) = false := by simp; omega
        have HL : Hid (isLetter s[k] = true) := hL
        obtain ⟨R, hR⟩ : ∃ R : Nat, (s[k]'hlk).toNat = R := ⟨_, rfl⟩
        rw [hR] at hnx hq
        clear hL hl hR
        go_wp2_with (go_at_call 64; refine (letter_is _ hq).mono ?_; rintro e w1 ⟨rfl, hw⟩; subst hw)
        go_roundw
        case rel => exact ⟨k + 1, by omega, fun j h hj => by
          by_cases e : j = k
          · subst e; exact HL.out
          · exact HA.out j h (by omega), rfl⟩
        case measure => simp; omega
      · have hL' : isLetter s[k] = false := by simpa using hL
        have hl := hL'
        unfold isLetter at hl
        simp only [decide_eq_false_iff_not] at hl
        have hq : (!decide ((97 : Int) ≤ ((Utf8.decode s k).1 : Int) ∧ ((Utf8.decode s k).1 : Int) ≤ 122)) = true := by
          by_cases ha : (s[k]'hlk).toNat < 128
          · rw [decode_ascii s k hlk ha]; simp; omega
          · have := decode_far s k hlk (by omega)
            simp; omega
        have hnx := fun ty => run_next_any (P := Try.prog) w s k ty hlk
        have HL : Hid (isLetter s[k] = false) := hL'
        obtain ⟨R, hR⟩ : ∃ R : Nat, (Utf8.decode s k).1 = R := ⟨_, rfl⟩
        obtain ⟨K, hK⟩ : ∃ K : Nat, (Utf8.decode s k).2 = K := ⟨_, rfl⟩
        rw [hR] at hnx hq
        rw [hK] at hnx
        clear hL hl hL' hR hK
        go_wp2_with (go_at_call 64; refine (letter_is _ hq).mono ?_; rintro e w1 ⟨rfl, hw⟩; subst hw)
        go_ret
        exact ⟨⟨k, rfl, by rw [letters_bad hlk HL.out]; simp⟩, (Below.refl _ _).alloc (Nat.le_refl _) _⟩
    · have hnx := fun ty => run_next_end (P := Try.prog) w s k ty hlk
      go_wp2
      go_ret
      exact ⟨⟨-1, rfl, by rw [letters_good (fun j hj => HA.out j hj (by omega))]; simp⟩, (Below.refl _ _).alloc (Nat.le_refl _) _⟩

theorem containsL_any (s : ByteArray) (w : World) {B : Bool} (hB : s.data.toList.all isLetter = B) :
    Calls Try.prog 63 #[.string s, .func (.func 64) #[] #[]] w fun r w' => r = .returned (.bool (!B)) ∧ Below w.heap.size w w' := by
  have hI := indexL_any s w
  rw [hB] at hI
  clear hB
  have hJ : Calls Try.prog 89 #[.string s, .func (.func 64) #[] #[]] w fun r w' => (∃ i : Int, r = .returned (.int .i64 i) ∧ (decide (0 ≤ i)) = !B) ∧ Below w.heap.size w w' := by
    go_enter Try.func89, Try.ntmps89
    go_wp2_with (go_at_call 108; refine hI.mono ?_; rintro e w1 ⟨⟨i, rfl, hi⟩, b1⟩)
    go_ret
    exact ⟨⟨i, rfl, hi⟩, b1⟩
  clear hI
  go_enter Try.func63, Try.ntmps63
  go_wp2_with (go_at_call 89; refine hJ.mono ?_; rintro e w1 ⟨⟨i, rfl, hi⟩, b1⟩)
  go_ret
  exact ⟨ret_boolE (by rw [← hi]), b1⟩

theorem isName_any (s : ByteArray) (w : World) : Calls Try.prog 29 #[.string s] w fun r w' => r = .returned (.bool (isNm s)) ∧ Below w.heap.size w w' := by
  by_cases h0 : s.size = 0
  · have h1 : s.toList.isEmpty = true := by rw [ba_isEmpty]; simp [h0]
    have HS : Hid (isNm s = false) := by show _ = _; unfold isNm; rw [h0]; rfl
    clear h0
    go_enter Try.func29, Try.ntmps29
    go_wp2
    go_ret
    exact ⟨by rw [HS.out]; rfl, Below.refl _ _⟩
  · have h1 : s.toList.isEmpty = false := by rw [ba_isEmpty]; simp [h0]
    by_cases h8 : s.size ≤ 8
    · have h8' : (s.size : Int) ≤ 8 := by omega
      have HS : Hid (isNm s = s.data.toList.all isLetter) := by
        show _ = _
        unfold isNm
        rw [decide_eq_true (by omega)]; rfl
      have hcall := containsL_any s w rfl
      go_enter Try.func29, Try.ntmps29
      go_wp2_with (go_at_call 63; refine hcall.mono ?_; rintro e w1 ⟨rfl, b1⟩)
      go_ret
      exact ⟨ret_boolE (by rw [HS.out]; simp), b1⟩
    · have h8' : ¬ (s.size : Int) ≤ 8 := by omega
      have HS : Hid (isNm s = false) := by
        show _ = _
        unfold isNm
        rw [decide_eq_false (by omega)]; rfl
      go_enter Try.func29, Try.ntmps29
      go_wp2
      go_ret
      exact ⟨by rw [HS.out]; rfl, Below.refl _ _⟩
end Go.Proofs.Ytehleeibgkpjmae
/- Contract of namesRise. -/
namespace Go.Proofs.Ytehleeibgkpjmae
open Go.RowKit Go.Shelf
set_option maxRecDepth 20000

theorem namesOK_bad {L : List SnapD} {k : Nat} (hk : k < L.length) (h : nmAt L k = false) : namesOK L = false := by
  cases e : namesOK L with
  | false => rfl
  | true =>
    unfold namesOK at e
    rw [List.all_eq_true] at e
    have := e k (by simpa using hk)
    rw [h] at this; cases this
theorem namesOK_good {L : List SnapD} (h : ∀ k, k < L.length → nmAt L k = true) : namesOK L = true := by
  unfold namesOK
  rw [List.all_eq_true]
  intro k hk
  exact h k (by simpa using hk)
theorem nmAt_at {L : List SnapD} {k : Nat} (hk : k < L.length) (h1 : 1 ≤ k) : nmAt L k = (isNm L[k].1 && Op.bytesLess (L[k - 1]'(by omega)).1.toList L[k].1.toList) := by
  unfold nmAt
  have e : (k == 0) = false := by simp; omega
  rw [e, Bool.false_or]
  simp [List.getD, hk, show k - 1 < L.length by omega]
theorem nmAt_0 {L : List SnapD} (hk : 0 < L.length) : nmAt L 0 = isNm L[0].1 := by
  unfold nmAt
  simp [List.getD, hk]
theorem bytesLeq : ∀ x y : List UInt8, (Op.bytesLess x y || x == y) = !Op.bytesLess y x
  | [], [] => rfl
  | [], _ :: _ => rfl
  | _ :: _, [] => rfl
  | a :: x, b :: y => by
    have ih := bytesLeq x y
    rcases Nat.lt_trichotomy a.toNat b.toNat with h | h | h
    · have h1 : a < b := UInt8.lt_iff_toNat_lt.2 h
      have h2 : ¬ b < a := fun h' => by have := UInt8.lt_iff_toNat_lt.1 h'; omega
      have h3 : (b == a) = false := by simp; intro e; rw [e] at h; omega
      simp [Op.bytesLess, h1, h2, h3]
    · have e : a = b := UInt8.toNat_inj.1 h
      subst e
      simp only [Op.bytesLess, UInt8.lt_irrefl, decide_false, Bool.false_or, BEq.rfl, Bool.true_and, List.cons_beq_cons]
      exact ih
    · have h1 : b < a := UInt8.lt_iff_toNat_lt.2 h
      have h2 : ¬ a < b := fun h' => by have := UInt8.lt_iff_toNat_lt.1 h'; omega
      have h3 : (a == b) = false := by simp; intro e; rw [e] at h; omega
      simp [Op.bytesLess, h1, h2, h3]
theorem below_drew {w w1 : World} (h : Below w.drew.heap.size w.drew w1) : Below w.heap.size w w1 := ⟨h.os, h.tape, h.output, h.size, h.block⟩
theorem isName_is {s : ByteArray} (w : World) {B : Bool} (hB : isNm s = B) : Calls Try.prog 29 #[.string s] w fun r w' => r = .returned (.bool B) ∧ Below w.heap.size w w' := by subst hB; exact isName_any s w

set_option linter.unusedSimpArgs false in
set_option maxHeartbeats 4000000 in
theorem namesRise_at (ao : Option Addr) (n cap : Nat) (L : List SnapD) (w : World) (hn : L.length = n) (hm : n ≤ 3) (hc : 0 < n → ∃ b off, ao = some ⟨b, off, none⟩ ∧ b < w.heap.size ∧ ∀ j, (h : j < L.length) → SnAt w b (off + j * 3) L[j]) :
    Calls Try.prog 98 #[.slice ao n cap] w fun r w' => r = .returned (.bool (namesOK L)) ∧ Below w.heap.size w w' := by
  have HN : Hid (L.length = n) := hn
  have HC : Hid (0 < n → ∃ b off, ao = some ⟨b, off, none⟩ ∧ b < w.heap.size ∧ ∀ j, (h : j < L.length) → SnAt w b (off + j * 3) L[j]) := hc
  clear hn hc
  go_enter Try.func98, Try.ntmps98
  go_wp2
  go_loopw [3, 4, 7] (fun _ _ i wr => ∃ k : Nat, k ≤ n ∧ i = .int .i64 k ∧ Hid (∀ j, j < k → nmAt L j = true) ∧ Below w.heap.size w wr) (fun _ _ i _ => n - (intOf i).toNat)
  case atStart => exact ⟨0, Nat.zero_le _, rfl, fun j hj => absurd hj (by omega), Below.refl _ _⟩
  case round =>
    obtain ⟨k, hk, rfl, HA, hbel⟩ := hrel
    by_cases hlk : k < n
    · have h3 : k = 0 ∨ k = 1 ∨ k = 2 := by omega
      have HL : Hid (k < n) := hlk
      obtain ⟨b, off, rfl, hlt, hcell⟩ := HC.out (by omega)
      obtain ⟨s, hs⟩ : ∃ s, s = L[k]'(by rw [HN.out]; exact hlk) := ⟨_, rfl⟩
      obtain ⟨nm, gg, rr⟩ := s
      have hS : SnAt w b (off + k * 3) (nm, gg, rr) := by rw [hs]; exact hcell k _
      obtain ⟨rv, c1, c2, c3, hsl⟩ := hS
      obtain ⟨rra, rrc, hrf⟩ := hsl.form
      subst hrf
      have c1 : wr.cell? ⟨b, off + k * 3, none⟩ = some (.string nm) := (hbel.cell (p := ⟨b, off + k * 3, none⟩) hlt).trans c1
      have c2 : wr.cell? ⟨b, off + k * 3 + 1, none⟩ = some (.int .i64 gg) := (hbel.cell (p := ⟨b, off + k * 3 + 1, none⟩) hlt).trans c2
      have c3 : wr.cell? ⟨b, off + k * 3 + 1 + 1, none⟩ = some (.slice rra rr.length rrc) := (hbel.cell (p := ⟨b, off + k * 3 + 1 + 1, none⟩) hlt).trans c3
      have b1 : Below w.heap.size w (wr.alloc (.cells #[.string nm, .int .i64 gg, .slice rra rr.length rrc] 64)) := hbel.alloc hbel.size _
      have cN : (wr.alloc (.cells #[.string nm, .int .i64 gg, .slice rra rr.length rrc] 64)).cell? ⟨wr.heap.size, 0, none⟩ = some (.string nm) := by rw [World.cell?_alloc_at _ _ _ _ rfl]; rfl
      have zN : wr.heap.size < (wr.alloc (.cells #[.string nm, .int .i64 gg, .slice rra rr.length rrc] 64)).heap.size := by simp
      have HE : Hid (∀ hk0 : k = 0, nmAt L k = isNm nm) := fun hk0 => by
        have := nmAt_0 (L := L) (by rw [HN.out]; omega)
        have e : L[0]'(by rw [HN.out]; omega) = (nm, gg, rr) := by rw [hs]; simp [hk0]
        rw [hk0, this, e]
      have HP : Hid (∀ hk0 : 1 ≤ k, ∃ pn, wr.cell? ⟨b, off + (k - 1) * 3, none⟩ = some (.string pn) ∧ nmAt L k = (isNm nm && Op.bytesLess pn.toList nm.toList)) := fun hk0 => by
        have hS' : SnAt w b (off + (k - 1) * 3) (L[k - 1]'(by rw [HN.out]; omega)) := hcell (k - 1) _
        obtain ⟨_, d1, _⟩ := hS'
        refine ⟨_, (hbel.cell (p := ⟨b, off + (k - 1) * 3, none⟩) hlt).trans d1, ?_⟩
        rw [nmAt_at (L := L) (by rw [HN.out]; exact hlk) hk0, ← hs]
      have HGo : Hid (nmAt L k = true → ∀ j, j < k + 1 → nmAt L j = true) := fun h j hj => by
        by_cases e : j = k
        · subst e; exact h
        · exact HA.out j (by omega)
      have HBad : Hid (nmAt L k = false → namesOK L = false) := fun h => namesOK_bad (k := k) (by rw [HN.out]; exact hlk) h
      have hbw : b < (wr.alloc (.cells #[.string nm, .int .i64 gg, .slice rra rr.length rrc] 64)).heap.size := by have := hbel.size; simp; omega
      have hbw' : b < wr.heap.size := Nat.lt_of_lt_of_le hlt hbel.size
      clear hs hcell hsl HA
      rcases h3 with rfl | h3
      · have hki : (0 : Int) < (n : Int) := by omega
        clear hlk
        have c1 : wr.cell? ⟨b, off, none⟩ = some (.string nm) := c1
        have c2 : wr.cell? ⟨b, off + 1, none⟩ = some (.int .i64 gg) := c2
        have c3 : wr.cell? ⟨b, off + 1 + 1, none⟩ = some (.slice rra rr.length rrc) := c3
        simp only [Int.cast_ofNat_Int]
        have HK : Hid (nmAt L 0 = isNm nm) := HE.out rfl
        clear HE HP
        cases hq : isNm nm with
        | true =>
          go_wp2_with fail
          refine wp_region_any (by kernel_rfl) ?_
          try (change wpAny _ _ _ _ _ _ _ (World.drew _))
          refine wpAny_take (i := 0) (v := .pointer (some ⟨wr.heap.size, 0, none⟩)) rfl (by kernel_rfl) (by kernel_rfl) (by kernel_rfl) (fun _ _ _ h => h) (Or.inl ⟨by rfl, fun w => by go_simp⟩) ?_
          simp only [Act.put, List.getElem_toArray, List.getElem_cons_succ, List.getElem_cons_zero, List.setIfInBounds_toArray, List.set_cons_zero, List.set_cons_succ]
          refine wpAny_ready (rs := [1]) (by kernel_rfl) (by simp) ?_
          refine AllReady.cons rfl (fun K hK => ?_) AllReady.nil
          go_simp
          refine hK _ _ ?_
          clear hK K
          try simp only [Act.put, List.getElem_toArray, List.getElem_cons_succ, List.getElem_cons_zero, List.setIfInBounds_toArray, List.set_cons_zero, List.set_cons_succ]
          refine wpAny_ready (rs := [2]) (by kernel_rfl) (by simp) ?_
          refine AllReady.cons rfl (fun K hK => ?_) AllReady.nil
          go_wp2_with (go_at_call 29; refine (isName_is _ hq).mono ?_; rintro e w1 ⟨rfl, b2⟩; have b2 := below_drew b2)
          try simp only [Act.put, List.getElem_toArray, List.getElem_cons_succ, List.getElem_cons_zero, List.setIfInBounds_toArray, List.set_cons_zero, List.set_cons_succ]
          refine wpAny_take (i := 3) (v := .bool false) rfl (by kernel_rfl) (by kernel_rfl) (by kernel_rfl) (fun _ _ _ h => h) (Or.inl ⟨by rfl, fun w => by go_simp⟩) ?_
          simp only [Act.put, List.getElem_toArray, List.getElem_cons_succ, List.getElem_cons_zero, List.setIfInBounds_toArray, List.set_cons_zero, List.set_cons_succ]
          refine wpAny_take (i := 4) (v := .bool false) rfl (by kernel_rfl) (by kernel_rfl) (by kernel_rfl) (fun _ _ _ h => h) (Or.inl ⟨by rfl, fun w => by go_simp⟩) ?_
          simp only [Act.put, List.getElem_toArray, List.getElem_cons_succ, List.getElem_cons_zero, List.setIfInBounds_toArray, List.set_cons_zero, List.set_cons_succ]
          refine wpAny_take (i := 5) (v := .int .i64 0) rfl (by kernel_rfl) (by kernel_rfl) (by kernel_rfl) (fun _ _ _ h => h) (Or.inl ⟨by rfl, fun w => by go_simp⟩) ?_
          simp only [Act.put, List.getElem_toArray, List.getElem_cons_succ, List.getElem_cons_zero, List.setIfInBounds_toArray, List.set_cons_zero, List.set_cons_succ]
          refine wpAny_take (i := 6) (v := .bool false) rfl (by kernel_rfl) (by kernel_rfl) (by kernel_rfl) (fun _ _ _ h => h) (Or.inl ⟨by rfl, fun w => by go_simp⟩) ?_
          simp only [Act.put, List.getElem_toArray, List.getElem_cons_succ, List.getElem_cons_zero, List.setIfInBounds_toArray, List.set_cons_zero, List.set_cons_succ]
          refine wpAny_take (i := 7) (v := .bool false) rfl (by kernel_rfl) (by kernel_rfl) (by kernel_rfl) (fun _ _ _ h => h) (Or.inl ⟨by rfl, fun w => by go_simp⟩) ?_
          simp only [Act.put, List.getElem_toArray, List.getElem_cons_succ, List.getElem_cons_zero, List.setIfInBounds_toArray, List.set_cons_zero, List.set_cons_succ]
          refine wpAny_take (i := 8) (v := undef) rfl (by kernel_rfl) (by kernel_rfl) (by kernel_rfl) (fun _ _ _ h => h) (Or.inr ⟨by rfl, rfl⟩) ?_
          simp only [Act.put, List.getElem_toArray, List.getElem_cons_succ, List.getElem_cons_zero, List.setIfInBounds_toArray, List.set_cons_zero, List.set_cons_succ]
          refine wpAny_take (i := 9) (v := undef) rfl (by kernel_rfl) (by kernel_rfl) (by kernel_rfl) (fun _ _ _ h => h) (Or.inr ⟨by rfl, rfl⟩) ?_
          simp only [Act.put, List.getElem_toArray, List.getElem_cons_succ, List.getElem_cons_zero, List.setIfInBounds_toArray, List.set_cons_zero, List.set_cons_succ]
          refine wpAny_take (i := 10) (v := undef) rfl (by kernel_rfl) (by kernel_rfl) (by kernel_rfl) (fun _ _ _ h => h) (Or.inr ⟨by rfl, rfl⟩) ?_
          simp only [Act.put, List.getElem_toArray, List.getElem_cons_succ, List.getElem_cons_zero, List.setIfInBounds_toArray, List.set_cons_zero, List.set_cons_succ]
          refine wpAny_take (i := 11) (v := undef) rfl (by kernel_rfl) (by kernel_rfl) (by kernel_rfl) (fun _ _ _ h => h) (Or.inr ⟨by rfl, rfl⟩) ?_
          simp only [Act.put, List.getElem_toArray, List.getElem_cons_succ, List.getElem_cons_zero, List.setIfInBounds_toArray, List.set_cons_zero, List.set_cons_succ]
          refine wpAny_take (i := 12) (v := undef) rfl (by kernel_rfl) (by kernel_rfl) (by kernel_rfl) (fun _ _ _ h => h) (Or.inr ⟨by rfl, rfl⟩) ?_
          simp only [Act.put, List.getElem_toArray, List.getElem_cons_succ, List.getElem_cons_zero, List.setIfInBounds_toArray, List.set_cons_zero, List.set_cons_succ]
          refine wpAny_take (i := 13) (v := undef) rfl (by kernel_rfl) (by kernel_rfl) (by kernel_rfl) (fun _ _ _ h => h) (Or.inr ⟨by rfl, rfl⟩) ?_
          simp only [Act.put, List.getElem_toArray, List.getElem_cons_succ, List.getElem_cons_zero, List.setIfInBounds_toArray, List.set_cons_zero, List.set_cons_succ]
          refine wpAny_take (i := 14) (v := undef) rfl (by kernel_rfl) (by kernel_rfl) (by kernel_rfl) (fun _ _ _ h => h) (Or.inr ⟨by rfl, rfl⟩) ?_
          simp only [Act.put, List.getElem_toArray, List.getElem_cons_succ, List.getElem_cons_zero, List.setIfInBounds_toArray, List.set_cons_zero, List.set_cons_succ]
          refine wpAny_take (i := 15) (v := undef) rfl (by kernel_rfl) (by kernel_rfl) (by kernel_rfl) (fun _ _ _ h => h) (Or.inr ⟨by rfl, rfl⟩) ?_
          simp only [Act.put, List.getElem_toArray, List.getElem_cons_succ, List.getElem_cons_zero, List.setIfInBounds_toArray, List.set_cons_zero, List.set_cons_succ]
          refine wpAny_take (i := 16) (v := undef) rfl (by kernel_rfl) (by kernel_rfl) (by kernel_rfl) (fun _ _ _ h => h) (Or.inr ⟨by rfl, rfl⟩) ?_
          simp only [Act.put, List.getElem_toArray, List.getElem_cons_succ, List.getElem_cons_zero, List.setIfInBounds_toArray, List.set_cons_zero, List.set_cons_succ]
          refine wpAny_take (i := 17) (v := .bool false) rfl (by kernel_rfl) (by kernel_rfl) (by kernel_rfl) (fun _ _ _ h => h) (Or.inl ⟨by rfl, fun w => by go_simp⟩) ?_
          simp only [Act.put, List.getElem_toArray, List.getElem_cons_succ, List.getElem_cons_zero, List.setIfInBounds_toArray, List.set_cons_zero, List.set_cons_succ]
          refine wpAny_take (i := 18) (v := .bool false) rfl (by kernel_rfl) (by kernel_rfl) (by kernel_rfl) (fun _ _ _ h => h) (Or.inl ⟨by rfl, fun w => by go_simp⟩) ?_
          simp only [Act.put, List.getElem_toArray, List.getElem_cons_succ, List.getElem_cons_zero, List.setIfInBounds_toArray, List.set_cons_zero, List.set_cons_succ]
          refine wpAny_done (by kernel_rfl) ?_ _
          go_wp2_with fail
          go_roundw
          case rel => exact ⟨1, by omega, by rfl, HGo.out (by rw [HK.out]; exact hq), b1.trans (b2.mono b1.size)⟩
          case measure => simp [intOf]; omega
        | false =>
          go_wp2_with fail
          refine wp_region_any (by kernel_rfl) ?_
          try (change wpAny _ _ _ _ _ _ _ (World.drew _))
          refine wpAny_take (i := 0) (v := .pointer (some ⟨wr.heap.size, 0, none⟩)) rfl (by kernel_rfl) (by kernel_rfl) (by kernel_rfl) (fun _ _ _ h => h) (Or.inl ⟨by rfl, fun w => by go_simp⟩) ?_
          simp only [Act.put, List.getElem_toArray, List.getElem_cons_succ, List.getElem_cons_zero, List.setIfInBounds_toArray, List.set_cons_zero, List.set_cons_succ]
          refine wpAny_ready (rs := [1]) (by kernel_rfl) (by simp) ?_
          refine AllReady.cons rfl (fun K hK => ?_) AllReady.nil
          go_simp
          refine hK _ _ ?_
          clear hK K
          try simp only [Act.put, List.getElem_toArray, List.getElem_cons_succ, List.getElem_cons_zero, List.setIfInBounds_toArray, List.set_cons_zero, List.set_cons_succ]
          refine wpAny_ready (rs := [2]) (by kernel_rfl) (by simp) ?_
          refine AllReady.cons rfl (fun K hK => ?_) AllReady.nil
          go_wp2_with (go_at_call 29; refine (isName_is _ hq).mono ?_; rintro e w1 ⟨rfl, b2⟩; have b2 := below_drew b2)
          try simp only [Act.put, List.getElem_toArray, List.getElem_cons_succ, List.getElem_cons_zero, List.setIfInBounds_toArray, List.set_cons_zero, List.set_cons_succ]
          refine wpAny_take (i := 3) (v := .bool true) rfl (by kernel_rfl) (by kernel_rfl) (by kernel_rfl) (fun _ _ _ h => h) (Or.inl ⟨by rfl, fun w => by go_simp⟩) ?_
          simp only [Act.put, List.getElem_toArray, List.getElem_cons_succ, List.getElem_cons_zero, List.setIfInBounds_toArray, List.set_cons_zero, List.set_cons_succ]
          refine wpAny_take (i := 4) (v := .bool true) rfl (by kernel_rfl) (by kernel_rfl) (by kernel_rfl) (fun _ _ _ h => h) (Or.inl ⟨by rfl, fun w => by go_simp⟩) ?_
          simp only [Act.put, List.getElem_toArray, List.getElem_cons_succ, List.getElem_cons_zero, List.setIfInBounds_toArray, List.set_cons_zero, List.set_cons_succ]
          refine wpAny_take (i := 5) (v := undef) rfl (by kernel_rfl) (by kernel_rfl) (by kernel_rfl) (fun _ _ _ h => h) (Or.inr ⟨by rfl, rfl⟩) ?_
          simp only [Act.put, List.getElem_toArray, List.getElem_cons_succ, List.getElem_cons_zero, List.setIfInBounds_toArray, List.set_cons_zero, List.set_cons_succ]
          refine wpAny_take (i := 6) (v := undef) rfl (by kernel_rfl) (by kernel_rfl) (by kernel_rfl) (fun _ _ _ h => h) (Or.inr ⟨by rfl, rfl⟩) ?_
          simp only [Act.put, List.getElem_toArray, List.getElem_cons_succ, List.getElem_cons_zero, List.setIfInBounds_toArray, List.set_cons_zero, List.set_cons_succ]
          refine wpAny_take (i := 7) (v := undef) rfl (by kernel_rfl) (by kernel_rfl) (by kernel_rfl) (fun _ _ _ h => h) (Or.inr ⟨by rfl, rfl⟩) ?_
          simp only [Act.put, List.getElem_toArray, List.getElem_cons_succ, List.getElem_cons_zero, List.setIfInBounds_toArray, List.set_cons_zero, List.set_cons_succ]
          refine wpAny_take (i := 8) (v := undef) rfl (by kernel_rfl) (by kernel_rfl) (by kernel_rfl) (fun _ _ _ h => h) (Or.inr ⟨by rfl, rfl⟩) ?_
          simp only [Act.put, List.getElem_toArray, List.getElem_cons_succ, List.getElem_cons_zero, List.setIfInBounds_toArray, List.set_cons_zero, List.set_cons_succ]
          refine wpAny_take (i := 9) (v := undef) rfl (by kernel_rfl) (by kernel_rfl) (by kernel_rfl) (fun _ _ _ h => h) (Or.inr ⟨by rfl, rfl⟩) ?_
          simp only [Act.put, List.getElem_toArray, List.getElem_cons_succ, List.getElem_cons_zero, List.setIfInBounds_toArray, List.set_cons_zero, List.set_cons_succ]
          refine wpAny_take (i := 10) (v := undef) rfl (by kernel_rfl) (by kernel_rfl) (by kernel_rfl) (fun _ _ _ h => h) (Or.inr ⟨by rfl, rfl⟩) ?_
          simp only [Act.put, List.getElem_toArray, List.getElem_cons_succ, List.getElem_cons_zero, List.setIfInBounds_toArray, List.set_cons_zero, List.set_cons_succ]
          refine wpAny_take (i := 11) (v := undef) rfl (by kernel_rfl) (by kernel_rfl) (by kernel_rfl) (fun _ _ _ h => h) (Or.inr ⟨by rfl, rfl⟩) ?_
          simp only [Act.put, List.getElem_toArray, List.getElem_cons_succ, List.getElem_cons_zero, List.setIfInBounds_toArray, List.set_cons_zero, List.set_cons_succ]
          refine wpAny_take (i := 12) (v := undef) rfl (by kernel_rfl) (by kernel_rfl) (by kernel_rfl) (fun _ _ _ h => h) (Or.inr ⟨by rfl, rfl⟩) ?_
          simp only [Act.put, List.getElem_toArray, List.getElem_cons_succ, List.getElem_cons_zero, List.setIfInBounds_toArray, List.set_cons_zero, List.set_cons_succ]
          refine wpAny_take (i := 13) (v := undef) rfl (by kernel_rfl) (by kernel_rfl) (by kernel_rfl) (fun _ _ _ h => h) (Or.inr ⟨by rfl, rfl⟩) ?_
          simp only [Act.put, List.getElem_toArray, List.getElem_cons_succ, List.getElem_cons_zero, List.setIfInBounds_toArray, List.set_cons_zero, List.set_cons_succ]
          refine wpAny_take (i := 14) (v := undef) rfl (by kernel_rfl) (by kernel_rfl) (by kernel_rfl) (fun _ _ _ h => h) (Or.inr ⟨by rfl, rfl⟩) ?_
          simp only [Act.put, List.getElem_toArray, List.getElem_cons_succ, List.getElem_cons_zero, List.setIfInBounds_toArray, List.set_cons_zero, List.set_cons_succ]
          refine wpAny_take (i := 15) (v := undef) rfl (by kernel_rfl) (by kernel_rfl) (by kernel_rfl) (fun _ _ _ h => h) (Or.inr ⟨by rfl, rfl⟩) ?_
          simp only [Act.put, List.getElem_toArray, List.getElem_cons_succ, List.getElem_cons_zero, List.setIfInBounds_toArray, List.set_cons_zero, List.set_cons_succ]
          refine wpAny_take (i := 16) (v := undef) rfl (by kernel_rfl) (by kernel_rfl) (by kernel_rfl) (fun _ _ _ h => h) (Or.inr ⟨by rfl, rfl⟩) ?_
          simp only [Act.put, List.getElem_toArray, List.getElem_cons_succ, List.getElem_cons_zero, List.setIfInBounds_toArray, List.set_cons_zero, List.set_cons_succ]
          refine wpAny_take (i := 17) (v := undef) rfl (by kernel_rfl) (by kernel_rfl) (by kernel_rfl) (fun _ _ _ h => h) (Or.inr ⟨by rfl, rfl⟩) ?_
          simp only [Act.put, List.getElem_toArray, List.getElem_cons_succ, List.getElem_cons_zero, List.setIfInBounds_toArray, List.set_cons_zero, List.set_cons_succ]
          refine wpAny_take (i := 18) (v := .bool true) rfl (by kernel_rfl) (by kernel_rfl) (by kernel_rfl) (fun _ _ _ h => h) (Or.inl ⟨by rfl, fun w => by go_simp⟩) ?_
          simp only [Act.put, List.getElem_toArray, List.getElem_cons_succ, List.getElem_cons_zero, List.setIfInBounds_toArray, List.set_cons_zero, List.set_cons_succ]
          refine wpAny_done (by kernel_rfl) ?_ _
          go_wp2_with fail
          go_ret
          exact ⟨ret_boolE (HBad.out (by rw [HK.out]; exact hq)).symm, b1.trans (b2.mono b1.size)⟩
      rcases h3 with rfl | rfl
      · have hki : (1 : Int) < (n : Int) := by omega
        clear hlk
        have c1 : wr.cell? ⟨b, off + 3, none⟩ = some (.string nm) := c1
        have c2 : wr.cell? ⟨b, off + 3 + 1, none⟩ = some (.int .i64 gg) := c2
        have c3 : wr.cell? ⟨b, off + 3 + 1 + 1, none⟩ = some (.slice rra rr.length rrc) := c3
        simp only [Int.cast_ofNat_Int]
        obtain ⟨pn, d1, hK⟩ := HP.out (by omega)
        have d1 : wr.cell? ⟨b, off, none⟩ = some (.string pn) := d1
        have HK : Hid (nmAt L 1 = (isNm nm && !(Op.bytesLess nm.toList pn.toList || nm.toList == pn.toList))) := hK.trans (by rw [bytesLeq, Bool.not_not])
        have cP : (wr.alloc (.cells #[.string nm, .int .i64 gg, .slice rra rr.length rrc] 64)).cell? ⟨b, off, none⟩ = some (.string pn) := (((Below.refl _ wr).alloc (Nat.le_refl _) _).cell (p := ⟨b, off, none⟩) hbw').trans d1
        clear HE HP hK d1
        have hnl : (0 : Int) < (n : Int) := by omega
        have hnn : 0 < n := by omega
        have hw : IntKind.i64.wrap 0 = 0 := by rfl
        cases hq : isNm nm with
        | true =>
          cases hla : Op.bytesLess nm.toList pn.toList with
          | true =>
            go_wp2_with fail
            go_region_held3 (fun w' => w'.cell? ⟨wr.heap.size, 0, none⟩ = some (.string nm) ∧ w'.cell? ⟨b, off, none⟩ = some (.string pn)) (first | exact ⟨cN, cP⟩ | exact ⟨cN1, cP1⟩)
              (first | (go_at_call 29; refine (isName_is _ hq).mono ?_; rintro e w1 ⟨rfl, b2⟩; have b2 := below_drew b2; have cN1 := (b2.cell (p := ⟨wr.heap.size, 0, none⟩) zN).trans cN; have cP1 := (b2.cell (p := ⟨b, off, none⟩) hbw).trans cP))
            go_wp2_with fail
            go_ret
            exact ⟨ret_boolE (HBad.out (by rw [HK.out, hq, hla]; rfl)).symm, b1.trans (b2.mono b1.size)⟩
          | false =>
            cases hlb : nm.toList == pn.toList with
            | true =>
              go_wp2_with fail
              go_region_held3 (fun w' => w'.cell? ⟨wr.heap.size, 0, none⟩ = some (.string nm) ∧ w'.cell? ⟨b, off, none⟩ = some (.string pn)) (first | exact ⟨cN, cP⟩ | exact ⟨cN1, cP1⟩)
                (first | (go_at_call 29; refine (isName_is _ hq).mono ?_; rintro e w1 ⟨rfl, b2⟩; have b2 := below_drew b2; have cN1 := (b2.cell (p := ⟨wr.heap.size, 0, none⟩) zN).trans cN; have cP1 := (b2.cell (p := ⟨b, off, none⟩) hbw).trans cP))
              go_wp2_with fail
              go_ret
              exact ⟨ret_boolE (HBad.out (by rw [HK.out, hq, hla, hlb]; rfl)).symm, b1.trans (b2.mono b1.size)⟩
            | false =>
              go_wp2_with fail
              go_region_held3 (fun w' => w'.cell? ⟨wr.heap.size, 0, none⟩ = some (.string nm) ∧ w'.cell? ⟨b, off, none⟩ = some (.string pn)) (first | exact ⟨cN, cP⟩ | exact ⟨cN1, cP1⟩)
                (first | (go_at_call 29; refine (isName_is _ hq).mono ?_; rintro e w1 ⟨rfl, b2⟩; have b2 := below_drew b2; have cN1 := (b2.cell (p := ⟨wr.heap.size, 0, none⟩) zN).trans cN; have cP1 := (b2.cell (p := ⟨b, off, none⟩) hbw).trans cP))
              go_wp2_with fail
              go_roundw
              case rel => exact ⟨2, by omega, by rfl, HGo.out (by rw [HK.out, hq, hla, hlb]; rfl), b1.trans (b2.mono b1.size)⟩
              case measure => simp [intOf]; omega
        | false =>
          go_wp2_with fail
          refine wp_region_any (by kernel_rfl) ?_
          try (change wpAny _ _ _ _ _ _ _ (World.drew _))
          refine wpAny_take (i := 0) (v := .pointer (some ⟨wr.heap.size, 0, none⟩)) rfl (by kernel_rfl) (by kernel_rfl) (by kernel_rfl) (fun _ _ _ h => h) (Or.inl ⟨by rfl, fun w => by go_simp⟩) ?_
          simp only [Act.put, List.getElem_toArray, List.getElem_cons_succ, List.getElem_cons_zero, List.setIfInBounds_toArray, List.set_cons_zero, List.set_cons_succ]
          refine wpAny_ready (rs := [1]) (by kernel_rfl) (by simp) ?_
          refine AllReady.cons rfl (fun K hK => ?_) AllReady.nil
          go_simp
          refine hK _ _ ?_
          clear hK K
          try simp only [Act.put, List.getElem_toArray, List.getElem_cons_succ, List.getElem_cons_zero, List.setIfInBounds_toArray, List.set_cons_zero, List.set_cons_succ]
          refine wpAny_ready (rs := [2]) (by kernel_rfl) (by simp) ?_
          refine AllReady.cons rfl (fun K hK => ?_) AllReady.nil
          go_wp2_with (go_at_call 29; refine (isName_is _ hq).mono ?_; rintro e w1 ⟨rfl, b2⟩; have b2 := below_drew b2)
          try simp only [Act.put, List.getElem_toArray, List.getElem_cons_succ, List.getElem_cons_zero, List.setIfInBounds_toArray, List.set_cons_zero, List.set_cons_succ]
          refine wpAny_take (i := 3) (v := .bool true) rfl (by kernel_rfl) (by kernel_rfl) (by kernel_rfl) (fun _ _ _ h => h) (Or.inl ⟨by rfl, fun w => by go_simp⟩) ?_
          simp only [Act.put, List.getElem_toArray, List.getElem_cons_succ, List.getElem_cons_zero, List.setIfInBounds_toArray, List.set_cons_zero, List.set_cons_succ]
          refine wpAny_take (i := 4) (v := .bool true) rfl (by kernel_rfl) (by kernel_rfl) (by kernel_rfl) (fun _ _ _ h => h) (Or.inl ⟨by rfl, fun w => by go_simp⟩) ?_
          simp only [Act.put, List.getElem_toArray, List.getElem_cons_succ, List.getElem_cons_zero, List.setIfInBounds_toArray, List.set_cons_zero, List.set_cons_succ]
          refine wpAny_take (i := 5) (v := undef) rfl (by kernel_rfl) (by kernel_rfl) (by kernel_rfl) (fun _ _ _ h => h) (Or.inr ⟨by rfl, rfl⟩) ?_
          simp only [Act.put, List.getElem_toArray, List.getElem_cons_succ, List.getElem_cons_zero, List.setIfInBounds_toArray, List.set_cons_zero, List.set_cons_succ]
          refine wpAny_take (i := 6) (v := undef) rfl (by kernel_rfl) (by kernel_rfl) (by kernel_rfl) (fun _ _ _ h => h) (Or.inr ⟨by rfl, rfl⟩) ?_
          simp only [Act.put, List.getElem_toArray, List.getElem_cons_succ, List.getElem_cons_zero, List.setIfInBounds_toArray, List.set_cons_zero, List.set_cons_succ]
          refine wpAny_take (i := 7) (v := undef) rfl (by kernel_rfl) (by kernel_rfl) (by kernel_rfl) (fun _ _ _ h => h) (Or.inr ⟨by rfl, rfl⟩) ?_
          simp only [Act.put, List.getElem_toArray, List.getElem_cons_succ, List.getElem_cons_zero, List.setIfInBounds_toArray, List.set_cons_zero, List.set_cons_succ]
          refine wpAny_take (i := 8) (v := undef) rfl (by kernel_rfl) (by kernel_rfl) (by kernel_rfl) (fun _ _ _ h => h) (Or.inr ⟨by rfl, rfl⟩) ?_
          simp only [Act.put, List.getElem_toArray, List.getElem_cons_succ, List.getElem_cons_zero, List.setIfInBounds_toArray, List.set_cons_zero, List.set_cons_succ]
          refine wpAny_take (i := 9) (v := undef) rfl (by kernel_rfl) (by kernel_rfl) (by kernel_rfl) (fun _ _ _ h => h) (Or.inr ⟨by rfl, rfl⟩) ?_
          simp only [Act.put, List.getElem_toArray, List.getElem_cons_succ, List.getElem_cons_zero, List.setIfInBounds_toArray, List.set_cons_zero, List.set_cons_succ]
          refine wpAny_take (i := 10) (v := undef) rfl (by kernel_rfl) (by kernel_rfl) (by kernel_rfl) (fun _ _ _ h => h) (Or.inr ⟨by rfl, rfl⟩) ?_
          simp only [Act.put, List.getElem_toArray, List.getElem_cons_succ, List.getElem_cons_zero, List.setIfInBounds_toArray, List.set_cons_zero, List.set_cons_succ]
          refine wpAny_take (i := 11) (v := undef) rfl (by kernel_rfl) (by kernel_rfl) (by kernel_rfl) (fun _ _ _ h => h) (Or.inr ⟨by rfl, rfl⟩) ?_
          simp only [Act.put, List.getElem_toArray, List.getElem_cons_succ, List.getElem_cons_zero, List.setIfInBounds_toArray, List.set_cons_zero, List.set_cons_succ]
          refine wpAny_take (i := 12) (v := undef) rfl (by kernel_rfl) (by kernel_rfl) (by kernel_rfl) (fun _ _ _ h => h) (Or.inr ⟨by rfl, rfl⟩) ?_
          simp only [Act.put, List.getElem_toArray, List.getElem_cons_succ, List.getElem_cons_zero, List.setIfInBounds_toArray, List.set_cons_zero, List.set_cons_succ]
          refine wpAny_take (i := 13) (v := undef) rfl (by kernel_rfl) (by kernel_rfl) (by kernel_rfl) (fun _ _ _ h => h) (Or.inr ⟨by rfl, rfl⟩) ?_
          simp only [Act.put, List.getElem_toArray, List.getElem_cons_succ, List.getElem_cons_zero, List.setIfInBounds_toArray, List.set_cons_zero, List.set_cons_succ]
          refine wpAny_take (i := 14) (v := undef) rfl (by kernel_rfl) (by kernel_rfl) (by kernel_rfl) (fun _ _ _ h => h) (Or.inr ⟨by rfl, rfl⟩) ?_
          simp only [Act.put, List.getElem_toArray, List.getElem_cons_succ, List.getElem_cons_zero, List.setIfInBounds_toArray, List.set_cons_zero, List.set_cons_succ]
          refine wpAny_take (i := 15) (v := undef) rfl (by kernel_rfl) (by kernel_rfl) (by kernel_rfl) (fun _ _ _ h => h) (Or.inr ⟨by rfl, rfl⟩) ?_
          simp only [Act.put, List.getElem_toArray, List.getElem_cons_succ, List.getElem_cons_zero, List.setIfInBounds_toArray, List.set_cons_zero, List.set_cons_succ]
          refine wpAny_take (i := 16) (v := undef) rfl (by kernel_rfl) (by kernel_rfl) (by kernel_rfl) (fun _ _ _ h => h) (Or.inr ⟨by rfl, rfl⟩) ?_
          simp only [Act.put, List.getElem_toArray, List.getElem_cons_succ, List.getElem_cons_zero, List.setIfInBounds_toArray, List.set_cons_zero, List.set_cons_succ]
          refine wpAny_take (i := 17) (v := undef) rfl (by kernel_rfl) (by kernel_rfl) (by kernel_rfl) (fun _ _ _ h => h) (Or.inr ⟨by rfl, rfl⟩) ?_
          simp only [Act.put, List.getElem_toArray, List.getElem_cons_succ, List.getElem_cons_zero, List.setIfInBounds_toArray, List.set_cons_zero, List.set_cons_succ]
          refine wpAny_take (i := 18) (v := .bool true) rfl (by kernel_rfl) (by kernel_rfl) (by kernel_rfl) (fun _ _ _ h => h) (Or.inl ⟨by rfl, fun w => by go_simp⟩) ?_
          simp only [Act.put, List.getElem_toArray, List.getElem_cons_succ, List.getElem_cons_zero, List.setIfInBounds_toArray, List.set_cons_zero, List.set_cons_succ]
          refine wpAny_done (by kernel_rfl) ?_ _
          go_wp2_with fail
          go_ret
          exact ⟨ret_boolE (HBad.out (by rw [HK.out, hq]; rfl)).symm, b1.trans (b2.mono b1.size)⟩
      · have hki : (2 : Int) < (n : Int) := by omega
        clear hlk
        have c1 : wr.cell? ⟨b, off + 6, none⟩ = some (.string nm) := c1
        have c2 : wr.cell? ⟨b, off + 6 + 1, none⟩ = some (.int .i64 gg) := c2
        have c3 : wr.cell? ⟨b, off + 6 + 1 + 1, none⟩ = some (.slice rra rr.length rrc) := c3
        simp only [Int.cast_ofNat_Int]
        obtain ⟨pn, d1, hK⟩ := HP.out (by omega)
        have d1 : wr.cell? ⟨b, off + 3, none⟩ = some (.string pn) := d1
        have HK : Hid (nmAt L 2 = (isNm nm && !(Op.bytesLess nm.toList pn.toList || nm.toList == pn.toList))) := hK.trans (by rw [bytesLeq, Bool.not_not])
        have cP : (wr.alloc (.cells #[.string nm, .int .i64 gg, .slice rra rr.length rrc] 64)).cell? ⟨b, off + 3, none⟩ = some (.string pn) := (((Below.refl _ wr).alloc (Nat.le_refl _) _).cell (p := ⟨b, off + 3, none⟩) hbw').trans d1
        clear HE HP hK d1
        have hnl : (1 : Int) < (n : Int) := by omega
        have hnn : 1 < n := by omega
        have hw : IntKind.i64.wrap 1 = 1 := by rfl
        cases hq : isNm nm with
        | true =>
          cases hla : Op.bytesLess nm.toList pn.toList with
          | true =>
            go_wp2_with fail
            go_region_held3 (fun w' => w'.cell? ⟨wr.heap.size, 0, none⟩ = some (.string nm) ∧ w'.cell? ⟨b, off + 3, none⟩ = some (.string pn)) (first | exact ⟨cN, cP⟩ | exact ⟨cN1, cP1⟩)
              (first | (go_at_call 29; refine (isName_is _ hq).mono ?_; rintro e w1 ⟨rfl, b2⟩; have b2 := below_drew b2; have cN1 := (b2.cell (p := ⟨wr.heap.size, 0, none⟩) zN).trans cN; have cP1 := (b2.cell (p := ⟨b, off + 3, none⟩) hbw).trans cP))
            go_wp2_with fail
            go_ret
            exact ⟨ret_boolE (HBad.out (by rw [HK.out, hq, hla]; rfl)).symm, b1.trans (b2.mono b1.size)⟩
          | false =>
            cases hlb : nm.toList == pn.toList with
            | true =>
              go_wp2_with fail
              go_region_held3 (fun w' => w'.cell? ⟨wr.heap.size, 0, none⟩ = some (.string nm) ∧ w'.cell? ⟨b, off + 3, none⟩ = some (.string pn)) (first | exact ⟨cN, cP⟩ | exact ⟨cN1, cP1⟩)
                (first | (go_at_call 29; refine (isName_is _ hq).mono ?_; rintro e w1 ⟨rfl, b2⟩; have b2 := below_drew b2; have cN1 := (b2.cell (p := ⟨wr.heap.size, 0, none⟩) zN).trans cN; have cP1 := (b2.cell (p := ⟨b, off + 3, none⟩) hbw).trans cP))
              go_wp2_with fail
              go_ret
              exact ⟨ret_boolE (HBad.out (by rw [HK.out, hq, hla, hlb]; rfl)).symm, b1.trans (b2.mono b1.size)⟩
            | false =>
              go_wp2_with fail
              go_region_held3 (fun w' => w'.cell? ⟨wr.heap.size, 0, none⟩ = some (.string nm) ∧ w'.cell? ⟨b, off + 3, none⟩ = some (.string pn)) (first | exact ⟨cN, cP⟩ | exact ⟨cN1, cP1⟩)
                (first | (go_at_call 29; refine (isName_is _ hq).mono ?_; rintro e w1 ⟨rfl, b2⟩; have b2 := below_drew b2; have cN1 := (b2.cell (p := ⟨wr.heap.size, 0, none⟩) zN).trans cN; have cP1 := (b2.cell (p := ⟨b, off + 3, none⟩) hbw).trans cP))
              go_wp2_with fail
              go_roundw
              case rel => exact ⟨3, by omega, by rfl, HGo.out (by rw [HK.out, hq, hla, hlb]; rfl), b1.trans (b2.mono b1.size)⟩
              case measure => simp [intOf]; omega
        | false =>
          go_wp2_with fail
          refine wp_region_any (by kernel_rfl) ?_
          try (change wpAny _ _ _ _ _ _ _ (World.drew _))
          refine wpAny_take (i := 0) (v := .pointer (some ⟨wr.heap.size, 0, none⟩)) rfl (by kernel_rfl) (by kernel_rfl) (by kernel_rfl) (fun _ _ _ h => h) (Or.inl ⟨by rfl, fun w => by go_simp⟩) ?_
          simp only [Act.put, List.getElem_toArray, List.getElem_cons_succ, List.getElem_cons_zero, List.setIfInBounds_toArray, List.set_cons_zero, List.set_cons_succ]
          refine wpAny_ready (rs := [1]) (by kernel_rfl) (by simp) ?_
          refine AllReady.cons rfl (fun K hK => ?_) AllReady.nil
          go_simp
          refine hK _ _ ?_
          clear hK K
          try simp only [Act.put, List.getElem_toArray, List.getElem_cons_succ, List.getElem_cons_zero, List.setIfInBounds_toArray, List.set_cons_zero, List.set_cons_succ]
          refine wpAny_ready (rs := [2]) (by kernel_rfl) (by simp) ?_
          refine AllReady.cons rfl (fun K hK => ?_) AllReady.nil
          go_wp2_with (go_at_call 29; refine (isName_is _ hq).mono ?_; rintro e w1 ⟨rfl, b2⟩; have b2 := below_drew b2)
          try simp only [Act.put, List.getElem_toArray, List.getElem_cons_succ, List.getElem_cons_zero, List.setIfInBounds_toArray, List.set_cons_zero, List.set_cons_succ]
          refine wpAny_take (i := 3) (v := .bool true) rfl (by kernel_rfl) (by kernel_rfl) (by kernel_rfl) (fun _ _ _ h => h) (Or.inl ⟨by rfl, fun w => by go_simp⟩) ?_
          simp only [Act.put, List.getElem_toArray, List.getElem_cons_succ, List.getElem_cons_zero, List.setIfInBounds_toArray, List.set_cons_zero, List.set_cons_succ]
          refine wpAny_take (i := 4) (v := .bool true) rfl (by kernel_rfl) (by kernel_rfl) (by kernel_rfl) (fun _ _ _ h => h) (Or.inl ⟨by rfl, fun w => by go_simp⟩) ?_
          simp only [Act.put, List.getElem_toArray, List.getElem_cons_succ, List.getElem_cons_zero, List.setIfInBounds_toArray, List.set_cons_zero, List.set_cons_succ]
          refine wpAny_take (i := 5) (v := undef) rfl (by kernel_rfl) (by kernel_rfl) (by kernel_rfl) (fun _ _ _ h => h) (Or.inr ⟨by rfl, rfl⟩) ?_
          simp only [Act.put, List.getElem_toArray, List.getElem_cons_succ, List.getElem_cons_zero, List.setIfInBounds_toArray, List.set_cons_zero, List.set_cons_succ]
          refine wpAny_take (i := 6) (v := undef) rfl (by kernel_rfl) (by kernel_rfl) (by kernel_rfl) (fun _ _ _ h => h) (Or.inr ⟨by rfl, rfl⟩) ?_
          simp only [Act.put, List.getElem_toArray, List.getElem_cons_succ, List.getElem_cons_zero, List.setIfInBounds_toArray, List.set_cons_zero, List.set_cons_succ]
          refine wpAny_take (i := 7) (v := undef) rfl (by kernel_rfl) (by kernel_rfl) (by kernel_rfl) (fun _ _ _ h => h) (Or.inr ⟨by rfl, rfl⟩) ?_
          simp only [Act.put, List.getElem_toArray, List.getElem_cons_succ, List.getElem_cons_zero, List.setIfInBounds_toArray, List.set_cons_zero, List.set_cons_succ]
          refine wpAny_take (i := 8) (v := undef) rfl (by kernel_rfl) (by kernel_rfl) (by kernel_rfl) (fun _ _ _ h => h) (Or.inr ⟨by rfl, rfl⟩) ?_
          simp only [Act.put, List.getElem_toArray, List.getElem_cons_succ, List.getElem_cons_zero, List.setIfInBounds_toArray, List.set_cons_zero, List.set_cons_succ]
          refine wpAny_take (i := 9) (v := undef) rfl (by kernel_rfl) (by kernel_rfl) (by kernel_rfl) (fun _ _ _ h => h) (Or.inr ⟨by rfl, rfl⟩) ?_
          simp only [Act.put, List.getElem_toArray, List.getElem_cons_succ, List.getElem_cons_zero, List.setIfInBounds_toArray, List.set_cons_zero, List.set_cons_succ]
          refine wpAny_take (i := 10) (v := undef) rfl (by kernel_rfl) (by kernel_rfl) (by kernel_rfl) (fun _ _ _ h => h) (Or.inr ⟨by rfl, rfl⟩) ?_
          simp only [Act.put, List.getElem_toArray, List.getElem_cons_succ, List.getElem_cons_zero, List.setIfInBounds_toArray, List.set_cons_zero, List.set_cons_succ]
          refine wpAny_take (i := 11) (v := undef) rfl (by kernel_rfl) (by kernel_rfl) (by kernel_rfl) (fun _ _ _ h => h) (Or.inr ⟨by rfl, rfl⟩) ?_
          simp only [Act.put, List.getElem_toArray, List.getElem_cons_succ, List.getElem_cons_zero, List.setIfInBounds_toArray, List.set_cons_zero, List.set_cons_succ]
          refine wpAny_take (i := 12) (v := undef) rfl (by kernel_rfl) (by kernel_rfl) (by kernel_rfl) (fun _ _ _ h => h) (Or.inr ⟨by rfl, rfl⟩) ?_
          simp only [Act.put, List.getElem_toArray, List.getElem_cons_succ, List.getElem_cons_zero, List.setIfInBounds_toArray, List.set_cons_zero, List.set_cons_succ]
          refine wpAny_take (i := 13) (v := undef) rfl (by kernel_rfl) (by kernel_rfl) (by kernel_rfl) (fun _ _ _ h => h) (Or.inr ⟨by rfl, rfl⟩) ?_
          simp only [Act.put, List.getElem_toArray, List.getElem_cons_succ, List.getElem_cons_zero, List.setIfInBounds_toArray, List.set_cons_zero, List.set_cons_succ]
          refine wpAny_take (i := 14) (v := undef) rfl (by kernel_rfl) (by kernel_rfl) (by kernel_rfl) (fun _ _ _ h => h) (Or.inr ⟨by rfl, rfl⟩) ?_
          simp only [Act.put, List.getElem_toArray, List.getElem_cons_succ, List.getElem_cons_zero, List.setIfInBounds_toArray, List.set_cons_zero, List.set_cons_succ]
          refine wpAny_take (i := 15) (v := undef) rfl (by kernel_rfl) (by kernel_rfl) (by kernel_rfl) (fun _ _ _ h => h) (Or.inr ⟨by rfl, rfl⟩) ?_
          simp only [Act.put, List.getElem_toArray, List.getElem_cons_succ, List.getElem_cons_zero, List.setIfInBounds_toArray, List.set_cons_zero, List.set_cons_succ]
          refine wpAny_take (i := 16) (v := undef) rfl (by kernel_rfl) (by kernel_rfl) (by kernel_rfl) (fun _ _ _ h => h) (Or.inr ⟨by rfl, rfl⟩) ?_
          simp only [Act.put, List.getElem_toArray, List.getElem_cons_succ, List.getElem_cons_zero, List.setIfInBounds_toArray, List.set_cons_zero, List.set_cons_succ]
          refine wpAny_take (i := 17) (v := undef) rfl (by kernel_rfl) (by kernel_rfl) (by kernel_rfl) (fun _ _ _ h => h) (Or.inr ⟨by rfl, rfl⟩) ?_
          simp only [Act.put, List.getElem_toArray, List.getElem_cons_succ, List.getElem_cons_zero, List.setIfInBounds_toArray, List.set_cons_zero, List.set_cons_succ]
          refine wpAny_take (i := 18) (v := .bool true) rfl (by kernel_rfl) (by kernel_rfl) (by kernel_rfl) (fun _ _ _ h => h) (Or.inl ⟨by rfl, fun w => by go_simp⟩) ?_
          simp only [Act.put, List.getElem_toArray, List.getElem_cons_succ, List.getElem_cons_zero, List.setIfInBounds_toArray, List.set_cons_zero, List.set_cons_succ]
          refine wpAny_done (by kernel_rfl) ?_ _
          go_wp2_with fail
          go_ret
          exact ⟨ret_boolE (HBad.out (by rw [HK.out, hq]; rfl)).symm, b1.trans (b2.mono b1.size)⟩
    · have e4 : k = n := by omega
      subst e4
      go_wp2
      go_ret
      exact ⟨ret_boolE (namesOK_good (fun j hj => HA.out j (by rw [HN.out] at hj; exact hj))).symm, hbel⟩

theorem namesRise_is {v : Value} {L : List SnapD} {w : World} (h : Snaps w v L) (h3 : L.length ≤ 3) {B : Bool} (hB : namesOK L = B) :
    Calls Try.prog 98 #[v] w fun r w' => r = .returned (.bool B) ∧ Below w.heap.size w w' := by
  subst hB
  obtain ⟨ao, cap, rfl, _, _, hc⟩ := h
  exact namesRise_at ao _ cap L w rfl h3 (fun h0 => hc (by intro e; rw [e] at h0; simp at h0))
end Go.Proofs.Ytehleeibgkpjmae
/- Contract of Shape. -/
namespace Go.Proofs.Ytehleeibgkpjmae
open Go.RowKit Go.Shelf
set_option maxRecDepth 20000
attribute [local go_sem] Oper.semAt_some

theorem used_err {v : Value} {L : List SlotD} {w : World} (h : Slots w v L) {E : Int} (hE : slotsE L = E) :
    Calls Try.prog 11 #[v] w fun r w' => (∃ u : Int, r = .returned (.tuple #[.int .i64 u, .int .i64 E])) ∧ Below w.heap.size w w' := by
  subst hE
  by_cases h0 : slotsE L = 0
  · rw [h0]
    exact (used_is h h0 rfl).mono fun e w' hr => ⟨⟨_, hr.1⟩, hr.2⟩
  · exact (used_bad v L _ w h rfl (by simpa using h0)).mono fun e w' hr => ⟨⟨_, hr.1⟩, hr.2⟩

/-- A block of cells lies on where only what is no cells turns. -/
theorem cells_kept {W W' : World} {row : Option Nat} {B : Nat} {A : Array Value} {t : TypeId} {fr : Nat × Nat} (h : W.heap[B]? = some (.cells A t fr)) (hg : W.grownBy W' row) (hr : ∀ r, row = some r → ∃ o : Obj, W.heap[r]? = some o ∧ o.isCells = false) : W'.heap[B]? = some (.cells A t fr) := by
  refine (hg.block B (Array.getElem?_eq_some_iff.1 h).1 (fun e => ?_)).trans h
  obtain ⟨o, ho, hc⟩ := hr B e.symm
  rw [h] at ho
  cases ho
  cases hc
theorem cells_own {β : Type} (B : Nat) (A : Array Value) (t : TypeId) (fr : Nat × Nat) : Own (fun (_ : β) W => W.heap[B]? = some (.cells A t fr)) := fun _ _ _ _ hs hg hr => cells_kept hs hg hr
theorem cells_alloc {W : World} {B : Nat} {A : Array Value} {t : TypeId} {fr : Nat × Nat} (h : W.heap[B]? = some (.cells A t fr)) (o : Obj) : (W.alloc o).heap[B]? = some (.cells A t fr) :=
  (Below.heap_alloc W _ _ (Array.getElem?_eq_some_iff.1 h).1).trans h
theorem cells_below {W W' : World} {B n : Nat} {A : Array Value} {t : TypeId} {fr : Nat × Nat} (h : W.heap[B]? = some (.cells A t fr)) (hb : Below n W W') (hlt : B < n) : W'.heap[B]? = some (.cells A t fr) := (hb.block _ hlt).trans h
theorem five {W : World} {B : Nat} {a0 a1 a2 a3 a4 : Value} {t : TypeId} (h : W.heap[B]? = some (.cells #[a0, a1, a2, a3, a4] t)) :
    W.cell? ⟨B, 0, none⟩ = some a0 ∧ W.cell? ⟨B, 1, none⟩ = some a1 ∧ W.cell? ⟨B, 2, none⟩ = some a2 ∧ W.cell? ⟨B, 3, none⟩ = some a3 ∧ W.cell? ⟨B, 4, none⟩ = some a4 := by
  simp [World.cell?, h]
theorem three {W : World} {B : Nat} {a0 a1 a2 : Value} {t : TypeId} (h : W.heap[B]? = some (.cells #[a0, a1, a2] t)) :
    W.cell? ⟨B, 0, none⟩ = some a0 ∧ W.cell? ⟨B, 1, none⟩ = some a1 ∧ W.cell? ⟨B, 2, none⟩ = some a2 := by
  simp [World.cell?, h]

abbrev shW (w : World) (gm : Int) (rv sv fv nv : Value) : World := (w.alloc (.cells #[.int .i64 gm, rv, sv, fv, nv] 26)).alloc (.cells #[.int .i64 0] 27)
theorem shW_below (w : World) (gm : Int) (rv sv fv nv : Value) : Below w.heap.size w (shW w gm rv sv fv nv) := ((Below.refl _ _).alloc (Nat.le_refl _) _).alloc (by simp) _
theorem shW_box (w : World) (gm : Int) (rv sv fv nv : Value) : (shW w gm rv sv fv nv).heap[w.heap.size]? = some (.cells #[.int .i64 gm, rv, sv, fv, nv] 26) := cells_alloc (World.alloc_heap_new w _) _
theorem shW_res (w : World) (gm : Int) (rv sv fv nv : Value) : Boxed (shW w gm rv sv fv nv) (w.heap.size + 1) 27 (.int .i64 0) := by
  have := Boxed.new (w.alloc (.cells #[.int .i64 gm, rv, sv, fv, nv] 26)) 27 (.int .i64 0)
  simpa using this

theorem shape_many (gm : Int) (ra : Option Addr) (rn rc : Nat) (sa : Option Addr) (sn sc : Nat) (fa : Option Addr) (fn fc : Nat) (na : Option Addr) (nn nc : Nat) (w : World) (hn : 3 < nn) :
    Calls Try.prog 76 #[.agg #[.int .i64 gm, .slice ra rn rc, .slice sa sn sc, .slice fa fn fc, .slice na nn nc]] w fun r w' => r = .returned (.int .i64 2) ∧ Below w.heap.size w w' := by
  have g : (3 : Int) < (nn : Int) := by omega
  refine (callsIn_wide (n := 6)).1 ?_
  refine callsIn_of_wp_marks Try.func76 rfl trivial ?_ rfl
  simp only [Try.ntmps76, List.size_toArray, List.length_cons, List.length_nil, Nat.reduceAdd, Nat.reduceSub, Array.replicate_succ, Array.replicate_zero, List.push_toArray, List.append_toArray, List.nil_append, List.cons_append]
  gi_wp2
  refine ⟨.int .i64 2, ?_, rfl, ((Below.refl _ _).alloc (Nat.le_refl _) _).alloc (by simp) _⟩
  simp [results, Try.f76, go_sem]

set_option maxRecDepth 100000 in
set_option maxHeartbeats 2000000 in
theorem shape_used (gm : Int) (ra : Option Addr) (rn rc : Nat) (sa : Option Addr) (sn sc : Nat) (fa : Option Addr) (fn fc : Nat) (na : Option Addr) (nn nc : Nat) (L : List SlotD) (E : Int) (w : World) (hn : nn ≤ 3) (hs : Slots w (.slice sa sn sc) L) (hE : slotsE L = E) (hne : (E != 0) = true) :
    Calls Try.prog 76 #[.agg #[.int .i64 gm, .slice ra rn rc, .slice sa sn sc, .slice fa fn fc, .slice na nn nc]] w fun r w' => r = .returned (.int .i64 E) ∧ Below w.heap.size w w' := by
  have g : ¬ (3 : Int) < (nn : Int) := by omega
  have b0 := shW_below w gm (.slice ra rn rc) (.slice sa sn sc) (.slice fa fn fc) (.slice na nn nc)
  have r0 := shW_res w gm (.slice ra rn rc) (.slice sa sn sc) (.slice fa fn fc) (.slice na nn nc)
  have hcall := used_err (hs.below b0) hE
  clear hs hE
  refine (callsIn_wide (n := 6)).1 ?_
  refine callsIn_of_wp_marks Try.func76 rfl trivial ?_ rfl
  simp only [Try.ntmps76, List.size_toArray, List.length_cons, List.length_nil, Nat.reduceAdd, Nat.reduceSub, Array.replicate_succ, Array.replicate_zero, List.push_toArray, List.append_toArray, List.nil_append, List.cons_append]
  gi_wp2_with (refine ⟨trivial, ?_⟩; gi_at_call 11; refine (callsIn_wide.2 hcall).mono ?_; rintro e w1 ⟨⟨u, rfl⟩, b1⟩; have r1 : Boxed w1 (w.heap.size + 1) 27 (.int .i64 0) := cells_below r0 b1 (by simp); have cR := r1.cell; have fR := r1.frozen)
  refine ⟨.int .i64 E, ?_, rfl, (Below.on b0 b1).setCell (p := ⟨w.heap.size + 1, 0, none⟩) (by simp) _⟩
  have hc5 := (r1.set (.int .i64 E)).cell
  simp [results, Try.f76, go_sem, hc5]

set_option maxRecDepth 100000 in
set_option maxHeartbeats 2000000 in
theorem shape_refs (gm : Int) (ra : Option Addr) (rn rc : Nat) (sa : Option Addr) (sn sc : Nat) (fa : Option Addr) (fn fc : Nat) (na : Option Addr) (nn nc : Nat) (L : List SlotD) (w : World) (hn : nn ≤ 3) (hs : Slots w (.slice sa sn sc) L) (hE : slotsE L = 0) (hne : ¬ fn = sn) :
    Calls Try.prog 76 #[.agg #[.int .i64 gm, .slice ra rn rc, .slice sa sn sc, .slice fa fn fc, .slice na nn nc]] w fun r w' => r = .returned (.int .i64 1) ∧ Below w.heap.size w w' := by
  have hd1 : ((fn : Int) != (sn : Int)) = true := by simp; omega
  have hd2 : (fn == sn) = false := by simpa using hne
  have hd3 : ((fn : Int) == (sn : Int)) = false := by simp; omega
  have g : ¬ (3 : Int) < (nn : Int) := by omega
  have b0 := shW_below w gm (.slice ra rn rc) (.slice sa sn sc) (.slice fa fn fc) (.slice na nn nc)
  have r0 := shW_res w gm (.slice ra rn rc) (.slice sa sn sc) (.slice fa fn fc) (.slice na nn nc)
  have m0 := shW_box w gm (.slice ra rn rc) (.slice sa sn sc) (.slice fa fn fc) (.slice na nn nc)
  have hcall := used_err (hs.below b0) hE
  clear hs hE
  refine (callsIn_wide (n := 6)).1 ?_
  refine callsIn_of_wp_marks Try.func76 rfl trivial ?_ rfl
  simp only [Try.ntmps76, List.size_toArray, List.length_cons, List.length_nil, Nat.reduceAdd, Nat.reduceSub, Array.replicate_succ, Array.replicate_zero, List.push_toArray, List.append_toArray, List.nil_append, List.cons_append]
  gi_wp2_with (refine ⟨trivial, ?_⟩; gi_at_call 11; refine (callsIn_wide.2 hcall).mono ?_; rintro e w1 ⟨⟨u, rfl⟩, b1⟩; have r1 : Boxed w1 (w.heap.size + 1) 27 (.int .i64 0) := cells_below r0 b1 (by simp); have cR := r1.cell; have fR := r1.frozen; have m1 := cells_below m0 b1 (by simp; omega); obtain ⟨c0, c1, c2, c3, c4⟩ := five m1)
  refine ⟨trivial, ?_⟩
  gi_wp2
  refine ⟨.int .i64 1, ?_, rfl, (Below.on b0 b1).setCell (p := ⟨w.heap.size + 1, 0, none⟩) (by simp) _⟩
  have hc5 := (r1.set (.int .i64 1)).cell
  simp [results, Try.f76, go_sem, hc5]

set_option maxRecDepth 100000 in
set_option maxHeartbeats 2000000 in
theorem shape_names (gm : Int) (ra : Option Addr) (rn rc : Nat) (sa : Option Addr) (sn sc : Nat) (fa : Option Addr) (fc : Nat) (na : Option Addr) (nn nc : Nat) (L : List SlotD) (S : List SnapD) (w : World) (hn : nn ≤ 3) (hs : Slots w (.slice sa sn sc) L) (hE : slotsE L = 0) (hS : Snaps w (.slice na nn nc) S) (hS3 : S.length ≤ 3) (hB : namesOK S = false) :
    Calls Try.prog 76 #[.agg #[.int .i64 gm, .slice ra rn rc, .slice sa sn sc, .slice fa sn fc, .slice na nn nc]] w fun r w' => r = .returned (.int .i64 1) ∧ Below w.heap.size w w' := by
  have g : ¬ (3 : Int) < (nn : Int) := by omega
  have b0 := shW_below w gm (.slice ra rn rc) (.slice sa sn sc) (.slice fa sn fc) (.slice na nn nc)
  have r0 := shW_res w gm (.slice ra rn rc) (.slice sa sn sc) (.slice fa sn fc) (.slice na nn nc)
  have m0 := shW_box w gm (.slice ra rn rc) (.slice sa sn sc) (.slice fa sn fc) (.slice na nn nc)
  have hcall := used_err (hs.below b0) hE
  have hS0 := hS.below b0
  clear hs hE hS
  refine (callsIn_wide (n := 6)).1 ?_
  refine callsIn_of_wp_marks Try.func76 rfl trivial ?_ rfl
  simp only [Try.ntmps76, List.size_toArray, List.length_cons, List.length_nil, Nat.reduceAdd, Nat.reduceSub, Array.replicate_succ, Array.replicate_zero, List.push_toArray, List.append_toArray, List.nil_append, List.cons_append]
  gi_wp2_with (first
    | (refine ⟨trivial, ?_⟩; gi_at_call 11; refine (callsIn_wide.2 hcall).mono ?_; rintro e w1 ⟨⟨u, rfl⟩, b1⟩; have hS1 := hS0.below b1; have r1 : Boxed w1 (w.heap.size + 1) 27 (.int .i64 0) := cells_below r0 b1 (by simp); have m1 := cells_below m0 b1 (by simp; omega); obtain ⟨c0, c1, c2, c3, c4⟩ := five m1)
    | (refine ⟨trivial, ?_⟩; gi_at_call 98; refine (callsIn_wide.2 (namesRise_is hS1 hS3 hB)).mono ?_; rintro e w2 ⟨rfl, b2⟩; have r2 : Boxed w2 (w.heap.size + 1) 27 (.int .i64 0) := cells_below r1 b2 r1.lt; have cR := r2.cell; have fR := r2.frozen))
  refine ⟨.int .i64 1, ?_, rfl, (Below.on' b0 b1 b2).setCell (p := ⟨w.heap.size + 1, 0, none⟩) (by simp) _⟩
  have hc5 := (r2.set (.int .i64 1)).cell
  simp [results, Try.f76, go_sem, hc5]

/-- The Roots of an image, as they come. -/
theorem rootsA_of {w W : World} {gm : Int} {ra : Option Addr} {rn rc : Nat} {sv fv : Value} {na : Option Addr} {nn nc : Nat} {r : List Int} {S : List SnapD} {Bm : Nat} (hr : Sl w (.slice ra rn rc) r) (hS : Snaps w (.slice na nn nc) S) (h3 : S.length ≤ 3) (hb : Below w.heap.size w W)
    (hm : W.heap[Bm]? = some (.cells #[.int .i64 gm, .slice ra rn rc, sv, fv, .slice na nn nc] 26)) :
    ∃ xs : List (RootA w), RootsV w.heap.size W Bm (xs.map (fun x => x.1.1)) ∧ xs.map (fun x => x.1.2) = (⟨#[]⟩, gm, r) :: S := by
  obtain ⟨c0, c1, c2, c3, c4⟩ := five hm
  have hlen : S.length = nn := by
    obtain ⟨ao, cap, e, _⟩ := hS
    simp at e
    exact e.2.1.symm
  have hex : ∀ j : Fin S.length, ∃ y : RootA w, y.1.2 = S[j] ∧
      ∀ b off, na = some ⟨b, off, none⟩ → W.cell? ⟨b, off + j.1 * 3, none⟩ = some (.string y.1.1.nm) ∧ W.cell? ⟨b, off + j.1 * 3 + 1, none⟩ = some (.int .i64 y.1.1.g) ∧ W.cell? ⟨b, off + j.1 * 3 + 1 + 1, none⟩ = some (.slice y.1.1.a y.1.1.n y.1.1.c) := by
    intro ⟨j, hj⟩
    obtain ⟨b, off, cap, e, _, hlt, hcell⟩ := hS.open (by omega)
    obtain ⟨rv, d1, d2, d3, hsl⟩ := hcell j hj
    obtain ⟨ya, yc, rfl⟩ := hsl.form
    refine ⟨⟨(⟨S[j].1, S[j].2.1, ya, S[j].2.2.length, yc⟩, S[j]), rfl, rfl, hsl⟩, rfl, fun b' off' e' => ?_⟩
    simp at e
    rw [e.1] at e'
    simp at e'
    obtain ⟨rfl, rfl⟩ := e'
    exact ⟨(hb.cell (p := ⟨b, off + j * 3, none⟩) hlt).trans d1, (hb.cell (p := ⟨b, off + j * 3 + 1, none⟩) hlt).trans d2, (hb.cell (p := ⟨b, off + j * 3 + 1 + 1, none⟩) hlt).trans d3⟩
  obtain ⟨f, hf⟩ := Classical.axiomOfChoice hex
  refine ⟨⟨(⟨⟨#[]⟩, gm, ra, rn, rc⟩, (⟨#[]⟩, gm, r)), rfl, rfl, hr⟩ :: List.ofFn f, ⟨⟨gm, ra, rn, rc, sv, fv, na, nn, nc, (List.ofFn f).map (fun x => x.1.1), rfl, by simp [hlen], by omega, c0, c1, c2, c3, c4, fun h0 => ?_⟩⟩, ?_⟩
  · obtain ⟨b, off, cap, e, _, hlt, _⟩ := hS.open (by omega)
    simp at e
    refine ⟨b, off, e.1, hlt, fun j hj => ?_⟩
    have hj' : j < S.length := by simpa using hj
    have := (hf ⟨j, hj'⟩).2 b off e.1
    rw [List.getElem_map, List.getElem_ofFn]
    exact this
  · simp only [List.map_cons, List.cons.injEq, true_and]
    apply List.ext_getElem
    · simp
    · intro j h1 h2
      have := (hf ⟨j, h2⟩).1
      simpa using this

theorem keepsFrom_of_below {B : Nat} {W W' : World} (h : Below W.heap.size W W') : KeepsFrom B W W' := ⟨h.size, fun k _ _ hk _ => (h.block k (Array.getElem?_eq_some_iff.1 hk).1).trans hk⟩
end Go.Proofs.Ytehleeibgkpjmae
/- Contract of Shape: the loops over Roots. -/
namespace Go.Proofs.Ytehleeibgkpjmae
open Go.RowKit Go.Shelf
set_option maxRecDepth 20000
attribute [local go_sem] Oper.semAt_some

/-- What Shape answers, once names are right. -/
def tailE (L : List SlotD) (R : List SnapD) : Int := if R.all (fun s => guestOK s.2.1) = false then 3 else if tabFit L = false then 1 else if R.all (fun s => rootFit L s.2.1 s.2.2) = false then 1 else 0

def GAll {w : World} (pre : List (RootA w)) : Prop := ∀ x ∈ pre, guestOK x.1.2.2.1 = true
def GBad {w : World} (pre : List (RootA w)) : Prop := ∃ x ∈ pre, guestOK x.1.2.2.1 = false
abbrev RootB (w : World) : Type := { p : RootV × SnapD // Rt w p.1 p.2 ∧ guestOK p.2.2.1 = true }
theorem rootsB_of {w : World} : ∀ (zs : List (RootA w)), (∀ x ∈ zs, guestOK x.1.2.2.1 = true) → ∃ ys : List (RootB w), ys.map (fun x => x.1.1) = zs.map (fun x => x.1.1) ∧ ys.map (fun x => x.1.2) = zs.map (fun x => x.1.2)
  | [], _ => ⟨[], rfl, rfl⟩
  | x :: zs, h => by
    obtain ⟨ys, h1, h2⟩ := rootsB_of zs (fun y hy => h y (List.mem_cons_of_mem _ hy))
    exact ⟨⟨x.1, x.2, h x List.mem_cons_self⟩ :: ys, by rw [List.map_cons, List.map_cons, h1], by rw [List.map_cons, List.map_cons, h2]⟩
def FAll {w : World} (L : List SlotD) (pre : List (RootB w)) : Prop := ∀ x ∈ pre, rootFit L x.1.2.2.1 x.1.2.2.2 = true
def FBad {w : World} (L : List SlotD) (pre : List (RootB w)) : Prop := ∃ x ∈ pre, rootFit L x.1.2.2.1 x.1.2.2.2 = false
theorem GAll.snoc {w : World} {pre : List (RootA w)} {x : RootA w} (h : GAll pre) (hx : guestOK x.1.2.2.1 = true) : GAll (pre ++ [x]) := fun z hz => (List.mem_append.1 hz).elim (h z) (fun e => by rw [List.mem_singleton] at e; subst e; exact hx)
theorem FAll.snoc {w : World} {L : List SlotD} {pre : List (RootB w)} {x : RootB w} (h : FAll L pre) (hx : rootFit L x.1.2.2.1 x.1.2.2.2 = true) : FAll L (pre ++ [x]) := fun z hz => (List.mem_append.1 hz).elim (h z) (fun e => by rw [List.mem_singleton] at e; subst e; exact hx)
theorem last_mem {α : Type} (pre : List α) (x : α) : x ∈ pre ++ [x] := List.mem_append.2 (.inr (List.mem_singleton.2 rfl))

theorem below_put {w W : World} {D : Nat} (hB : Below w.heap.size w W) (hD : w.heap.size ≤ D) (o : Obj) : Below w.heap.size w (W.putObj D o) := hB.grown (grownBy_putObj' W D o) hB.size (fun k e => by cases e; exact hD)
theorem boxed_put {W : World} {B t : Nat} {v : Value} {D : Nat} (h : Boxed W B t v) (hne : B ≠ D) (o : Obj) : Boxed (W.putObj D o) B t v := h.kept (grownBy_putObj' W D o) (fun e => hne (by cases e; rfl))

set_option maxRecDepth 100000 in
set_option maxHeartbeats 8000000 in
theorem shape_tail (gm : Int) (ra : Option Addr) (rn rc : Nat) (sa : Option Addr) (sn sc : Nat) (fa : Option Addr) (fc : Nat) (na : Option Addr) (nn nc : Nat) (r : List Int) (L : List SlotD) (S : List SnapD) (w : World) (hn : nn ≤ 3) (hr : Sl w (.slice ra rn rc) r) (hs : Slots w (.slice sa sn sc) L) (hE : slotsE L = 0) (hS : Snaps w (.slice na nn nc) S) (hS3 : S.length ≤ 3) (hB : namesOK S = true) :
    Calls Try.prog 76 #[.agg #[.int .i64 gm, .slice ra rn rc, .slice sa sn sc, .slice fa sn fc, .slice na nn nc]] w fun e w' => e = .returned (.int .i64 (tailE L ((⟨#[]⟩, gm, r) :: S))) ∧ Below w.heap.size w w' := by
  have g : ¬ (3 : Int) < (nn : Int) := by omega
  have b0 := shW_below w gm (.slice ra rn rc) (.slice sa sn sc) (.slice fa sn fc) (.slice na nn nc)
  have r0 := shW_res w gm (.slice ra rn rc) (.slice sa sn sc) (.slice fa sn fc) (.slice na nn nc)
  have m0 := shW_box w gm (.slice ra rn rc) (.slice sa sn sc) (.slice fa sn fc) (.slice na nn nc)
  have hcall := used_err (hs.below b0) hE
  have hS0 := hS.below b0
  refine (callsIn_wide (n := 9)).1 ?_
  refine callsIn_of_wp_marks Try.func76 rfl trivial ?_ rfl
  simp only [Try.ntmps76, List.size_toArray, List.length_cons, List.length_nil, Nat.reduceAdd, Nat.reduceSub, Array.replicate_succ, Array.replicate_zero, List.push_toArray, List.append_toArray, List.nil_append, List.cons_append]
  gi_wp2_with (first
    | (refine ⟨trivial, ?_⟩; gi_at_call 11; refine (callsIn_wide.2 hcall).mono ?_; rintro e w1 ⟨⟨u, rfl⟩, b1⟩; have hS1 := hS0.below b1; have r1 : Boxed w1 (w.heap.size + 1) 27 (.int .i64 0) := cells_below r0 b1 (by simp); have m1 := cells_below m0 b1 (by simp; omega); obtain ⟨c0, c1, c2, c3, c4⟩ := five m1)
    | (refine ⟨trivial, ?_⟩; gi_at_call 98; refine (callsIn_wide.2 (namesRise_is hS1 hS3 hB)).mono ?_; rintro e w2 ⟨rfl, b2⟩; have r2 : Boxed w2 (w.heap.size + 1) 27 (.int .i64 0) := cells_below r1 b2 r1.lt; have m2 := cells_below m1 b2 (Nat.lt_of_succ_lt r1.lt); obtain ⟨d0, d1, d2, d3, d4⟩ := five m2)
    | (refine ⟨trivial, ?_⟩; gi_at_call 77; refine (roots_in Fence.wide _ trivial rfl _ _ _ _ _ _).mono ?_; rintro e w3 ⟨rfl, rfl⟩))
  have hb2 := Below.on' b0 b1 b2
  have hBm : w.heap.size + 1 < w2.heap.size := r2.lt
  have m3 : (w2.alloc (.cells #[.int .i64 gm, .slice ra rn rc, .slice sa sn sc, .slice fa sn fc, .slice na nn nc] 26)).heap[w2.heap.size]? = some (.cells #[.int .i64 gm, .slice ra rn rc, .slice sa sn sc, .slice fa sn fc, .slice na nn nc] 26) := World.alloc_heap_new _ _
  have m3' := cells_alloc m2 (.cells #[.int .i64 gm, .slice ra rn rc, .slice sa sn sc, .slice fa sn fc, .slice na nn nc] 26)
  have r3 := r2.alloc (.cells #[.int .i64 gm, .slice ra rn rc, .slice sa sn sc, .slice fa sn fc, .slice na nn nc] 26)
  have hb3 : Below w.heap.size w (w2.alloc (.cells #[.int .i64 gm, .slice ra rn rc, .slice sa sn sc, .slice fa sn fc, .slice na nn nc] 26)) := hb2.alloc hb2.size _
  have hsz : (w2.alloc (.cells #[.int .i64 gm, .slice ra rn rc, .slice sa sn sc, .slice fa sn fc, .slice na nn nc] 26)).heap.size = w2.heap.size + 1 := by simp
  have hsz1 := Nat.le_of_eq hsz
  have hsz2 := Nat.le_of_eq hsz.symm
  clear hsz
  obtain ⟨xs, hL, hxs⟩ := rootsA_of hr hS hS3 hb3 m3
  obtain ⟨W0, hW0⟩ : ∃ W0, w2.alloc (.cells #[.int .i64 gm, .slice ra rn rc, .slice sa sn sc, .slice fa sn fc, .slice na nn nc] 26) = W0 := ⟨_, rfl⟩
  rw [hW0] at m3 m3' r3 hb3 hsz1 hsz2 hL ⊢
  have HxS : Hid (xs.map (fun x => x.1.2) = (⟨#[]⟩, gm, r) :: S) := hxs
  clear hW0 hcall hS0 hS1 c0 c1 c2 c3 c4 d0 d1 d2 d3 d4 m0 m1 m2 r0 r1 r2 b0 b1 b2 hxs
  refine wpIn_rangeFunc_ownH rfl (by omega) (gf := 101) (lb := #[.pointer (some ⟨w2.heap.size, 0, none⟩)]) rfl trivial (enters_of Try.func101 (by kernel_rfl) rfl)
    (roots_stops (fun x : RootA w => x.1.1) Fence.wide 8 trivial rfl (by omega) w2.heap.size w.heap.size xs W0 hL (by omega) (by omega)) KpR.trans (KpR.put (by omega) (by omega)) (Below.refl _ _) (fun _ => rfl)
    (fun pre W => GAll pre ∧ Below W0.heap.size W0 W)
    (fun c pre W => ((c = .ret ∧ GBad pre) ∧ Boxed W (w.heap.size + 1) 27 (.int .i64 3)) ∧ Below w.heap.size w W)
    (OwnFrom.and (ownFrom_pure _ _) (ownFrom_below (Nat.le_refl _) (Nat.le_refl _)))
    (fun c => OwnFrom.and (OwnFrom.and (ownFrom_pure _ _) (Own.from (boxed_own _ _ _) _)) (ownFrom_below (Nat.le_refl _) (by omega)))
    ⟨(fun x hx => by cases hx), Below.refl _ _⟩
    (fun x a' W => ∃ Bx, W.heap[Bx]? = some (.cells #[.string x.1.1.nm, .int .i64 x.1.1.g, .slice x.1.1.a x.1.1.n x.1.1.c] 64) ∧ a' = { tmps := #[Value.agg #[.int .i64 gm, .slice ra rn rc, .slice sa sn sc, .slice fa sn fc, .slice na nn nc], .pointer (some ⟨w.heap.size, 0, none⟩), .pointer (some ⟨w.heap.size + 1, 0, none⟩), .int .i64 u, .int .i64 0, .pointer (some ⟨Bx, 0, none⟩), undef, .pointer (some ⟨w.heap.size, 4, none⟩), .slice na nn nc, .int .i64 nn, .bool false, .tuple #[.int .i64 u, .int .i64 0], .pointer (some ⟨w.heap.size, 2, none⟩), .slice sa sn sc, .tuple #[.int .i64 u, .int .i64 0], .int .i64 u, .int .i64 0, .int .i64 0, .bool false, undef, .pointer (some ⟨w.heap.size, 3, none⟩), .slice fa sn fc, .int .i64 sn, .pointer (some ⟨w.heap.size, 2, none⟩), .slice sa sn sc, .int .i64 sn, .bool false, .bool false, .pointer (some ⟨w.heap.size, 4, none⟩), .slice na nn nc, .bool true, .bool false, .bool false, Value.agg #[.int .i64 gm, .slice ra rn rc, .slice sa sn sc, .slice fa sn fc, .slice na nn nc], .func (.func 101) #[] #[.pointer (some ⟨w2.heap.size, 0, none⟩)], .agg #[.string x.1.1.nm, .int .i64 x.1.1.g, .slice x.1.1.a x.1.1.n x.1.1.c], undef, undef, undef, undef, undef, undef, undef, undef, undef, undef, undef, undef, undef, undef, undef, undef, undef, undef, undef, undef], defers := [] })
    (fun x a' _ X Y row hs hg hr => by obtain ⟨Bx, e1, e2⟩ := hs; exact ⟨Bx, cells_kept e1 hg (fun r e => (hr r e).2), e2⟩)
    ?assign ?body ?done ?stop
  case assign =>
    rintro l pre x W K ⟨hp, hB1⟩ hK
    unfold encRoot
    gi_wp2
    exact hK _ _ ((KeepsOthers.alloc _ _).from _) (KpR.alloc (by have := hB1.size; omega) (by have := hB1.size; omega) _) ⟨hp, hB1.alloc hB1.size _⟩ ⟨W.heap.size, World.alloc_heap_new _ _, rfl⟩
  case body =>
    rintro l pre x a' W hl ⟨rr, hrr⟩ ⟨hp, hB1⟩ ⟨Bx, hBx, rfl⟩ hlt
    obtain ⟨e0, e1, e2⟩ := three hBx
    have rW : Boxed W (w.heap.size + 1) 27 (.int .i64 0) := cells_below r3 hB1 (by omega)
    have cR := rW.cell
    have fR := rW.frozen
    have hgx : x.1.1.g = x.1.2.2.1 := x.2.2.1
    have HG : Hid (guestOK x.1.2.2.1 = guestOK x.1.1.g) := by show _ = _; rw [hgx]
    clear hgx
    by_cases h0 : x.1.1.g < 0
    · gi_wp2
      exact ⟨(KeepsOthers.setCell _ _ _).from _, ⟨⟨rfl, x, last_mem _ _, by rw [HG.out]; unfold guestOK; exact decide_eq_false (by omega)⟩, rW.set _⟩, (hb3.trans (hB1.mono hb3.size)).setCell (p := ⟨w.heap.size + 1, 0, none⟩) (by simp) _⟩
    · by_cases h1 : 16 < x.1.1.g
      · gi_wp2
        exact ⟨(KeepsOthers.setCell _ _ _).from _, ⟨⟨rfl, x, last_mem _ _, by rw [HG.out]; unfold guestOK; exact decide_eq_false (by omega)⟩, rW.set _⟩, (hb3.trans (hB1.mono hb3.size)).setCell (p := ⟨w.heap.size + 1, 0, none⟩) (by simp) _⟩
      · gi_wp2
        exact ⟨KeepsFrom.refl _ _, KpR.refl _ _ _, ⟨hp.snoc (by rw [HG.out]; unfold guestOK; exact decide_eq_true (by omega)), hB1⟩⟩
  case stop =>
    rintro D c pre W hD hpre ⟨⟨⟨rfl, x, hx, hy⟩, bR1⟩, hB1⟩ hK
    have HE : Hid (tailE L ((⟨#[]⟩, gm, r) :: S) = 3) := by
      show _ = _
      unfold tailE
      rw [if_pos]
      rw [← HxS.out, ← Bool.not_eq_true, List.all_eq_true]
      intro hall
      have := hall x.1.2 (List.mem_map.2 ⟨x, hpre.subset hx, rfl⟩)
      rw [hy] at this
      cases this
    gi_wp2
    refine ⟨by simp, .inl ⟨_, _, rfl, run_takeDeferred hK, ?_⟩⟩
    have hc5 := (boxed_put bR1 (D := D) (by omega) (.deferred none)).cell
    refine ⟨.int .i64 3, ?_, by rw [HE.out], below_put hB1 (by omega) _⟩
    simp [results, Try.f76, go_sem, hc5]
  case done =>
    rintro D ys W hD rfl ⟨hp, hB1⟩ hK
    have rW : Boxed W (w.heap.size + 1) 27 (.int .i64 0) := cells_below r3 hB1 (by omega)
    have mW := cells_below m3' hB1 (by omega)
    obtain ⟨c0, c1, c2, c3, c4⟩ := five mW
    have hbW := hb3.trans (hB1.mono hb3.size)
    have hsW := hs.below hbW
    have hDlt : D < W.heap.size := (Array.getElem?_eq_some_iff.1 hK).1
    have HA : Hid (((⟨#[]⟩, gm, r) :: S).all (fun s => guestOK s.2.1) = true) := by
      show _ = _
      rw [← HxS.out, List.all_eq_true]
      intro s hs
      obtain ⟨x, hx, rfl⟩ := List.mem_map.1 hs
      exact hp x hx
    have hKD : ∀ {W' : World}, Below W.heap.size W W' → W'.heap[D]? = some (.deferred (some [])) := fun h => (h.block D hDlt).trans hK
    cases hT : tabFit L with
    | false =>
      have HE : Hid (tailE L ((⟨#[]⟩, gm, r) :: S) = 1) := by
        show _ = _
        unfold tailE
        rw [if_neg (by rw [HA.out]; simp), if_pos hT]
      have hcall := tablesFit_any _ L W hsW
      rw [hT] at hcall
      gi_wp2_with (refine ⟨trivial, ?_⟩; gi_at_call 99; refine (callsIn_wide.2 hcall).mono ?_; rintro e w4 ⟨rfl, b4⟩; have r4 : Boxed w4 (w.heap.size + 1) 27 (.int .i64 0) := cells_below rW b4 rW.lt; have cR := r4.cell; have fR := r4.frozen)
      have hK' := (KeepsOthers.setCell w4 ⟨w.heap.size + 1, 0, none⟩ (.int .i64 1)).same D _ (hKD b4) rfl
      refine ⟨by simp, .inl ⟨_, _, rfl, run_takeDeferred hK', ?_⟩⟩
      have hc5 := (boxed_put (r4.set (.int .i64 1)) (D := D) (by omega) (.deferred none)).cell
      refine ⟨.int .i64 1, ?_, by rw [HE.out], below_put ((Below.on hbW b4).setCell (p := ⟨w.heap.size + 1, 0, none⟩) (by simp) _) (by omega) _⟩
      simp [results, Try.f76, go_sem, hc5]
    | true =>
      have hcall := tablesFit_any _ L W hsW
      rw [hT] at hcall
      gi_wp2_with (first
        | (refine ⟨trivial, ?_⟩; gi_at_call 99; refine (callsIn_wide.2 hcall).mono ?_; rintro e w4 ⟨rfl, b4⟩; have r4 : Boxed w4 (w.heap.size + 1) 27 (.int .i64 0) := cells_below rW b4 rW.lt; have m4 := cells_below mW b4 (Nat.lt_of_succ_lt rW.lt); obtain ⟨d0, d1, d2, d3, d4⟩ := five m4)
        | (refine ⟨trivial, ?_⟩; gi_at_call 77; refine (roots_in Fence.wide _ trivial rfl _ _ _ _ _ _).mono ?_; rintro e w3 ⟨rfl, rfl⟩))
      have hb4 := Below.on hbW b4
      have hBm4 : w.heap.size + 1 < w4.heap.size := r4.lt
      have m5 : (w4.alloc (.cells #[.int .i64 gm, .slice ra rn rc, .slice sa sn sc, .slice fa sn fc, .slice na nn nc] 26)).heap[w4.heap.size]? = some (.cells #[.int .i64 gm, .slice ra rn rc, .slice sa sn sc, .slice fa sn fc, .slice na nn nc] 26) := World.alloc_heap_new _ _
      have m5' := cells_alloc m4 (.cells #[.int .i64 gm, .slice ra rn rc, .slice sa sn sc, .slice fa sn fc, .slice na nn nc] 26)
      have r5 := r4.alloc (.cells #[.int .i64 gm, .slice ra rn rc, .slice sa sn sc, .slice fa sn fc, .slice na nn nc] 26)
      have hb5 : Below w.heap.size w (w4.alloc (.cells #[.int .i64 gm, .slice ra rn rc, .slice sa sn sc, .slice fa sn fc, .slice na nn nc] 26)) := hb4.alloc hb4.size _
      have hK5 : (w4.alloc (.cells #[.int .i64 gm, .slice ra rn rc, .slice sa sn sc, .slice fa sn fc, .slice na nn nc] 26)).heap[D]? = some (.deferred (some [])) := hKD (b4.alloc b4.size _)
      have hsz5 : (w4.alloc (.cells #[.int .i64 gm, .slice ra rn rc, .slice sa sn sc, .slice fa sn fc, .slice na nn nc] 26)).heap.size = w4.heap.size + 1 := by simp
      have hsz51 := Nat.le_of_eq hsz5
      have hsz52 := Nat.le_of_eq hsz5.symm
      clear hsz5
      obtain ⟨zs0, hL5, hzs0⟩ := rootsA_of hr hS hS3 hb5 m5
      obtain ⟨zs, hz1, hz2⟩ := rootsB_of zs0 (fun x hx => by
        have := HA.out
        rw [← hzs0, List.all_eq_true] at this
        exact this x.1.2 (List.mem_map.2 ⟨x, hx, rfl⟩))
      have hzs := hz2.trans hzs0
      rw [← hz1] at hL5
      obtain ⟨W5, hW5⟩ : ∃ W5, w4.alloc (.cells #[.int .i64 gm, .slice ra rn rc, .slice sa sn sc, .slice fa sn fc, .slice na nn nc] 26) = W5 := ⟨_, rfl⟩
      rw [hW5] at m5 m5' r5 hb5 hsz51 hsz52 hL5 hK5 ⊢
      have HzS : Hid (zs.map (fun x => x.1.2) = (⟨#[]⟩, gm, r) :: S) := hzs
      have hD5 : D < W5.heap.size := (Array.getElem?_eq_some_iff.1 hK5).1
      clear hz1 hz2 hzs0 hW5 hcall c0 c1 c2 c3 c4 d0 d1 d2 d3 d4 m4 r4 hzs hKD
      refine wpIn_rangeFunc_ownH rfl (by omega) (gf := 101) (lb := #[.pointer (some ⟨w4.heap.size, 0, none⟩)]) rfl trivial (enters_of Try.func101 (by kernel_rfl) rfl)
        (roots_stops (fun x : RootB w => x.1.1) Fence.wide 8 trivial rfl (by omega) w4.heap.size w.heap.size zs W5 hL5 (by omega) (by omega)) KpR.trans (KpR.put (by omega) (by omega)) (Below.refl _ _) (fun _ => rfl)
        (fun pre W => FAll L pre ∧ Below W5.heap.size W5 W)
        (fun c pre W => ((c = .ret ∧ FBad L pre) ∧ Boxed W (w.heap.size + 1) 27 (.int .i64 1)) ∧ (W.heap[D]? = some (.deferred (some [])) ∧ Below w.heap.size w W))
        (OwnFrom.and (ownFrom_pure _ _) (ownFrom_below (Nat.le_refl _) (Nat.le_refl _)))
        (fun c => OwnFrom.and (OwnFrom.and (ownFrom_pure _ _) (Own.from (boxed_own _ _ _) _)) (OwnFrom.and (fun _ X Y row hs hg hr => (hg.block D (Array.getElem?_eq_some_iff.1 hs).1 (fun e => by have := (hr D e.symm).1; omega)).trans hs) (ownFrom_below (Nat.le_refl _) (by omega))))
        ⟨(fun x hx => by cases hx), Below.refl _ _⟩
        (fun x a' W => ∃ Bx, W.heap[Bx]? = some (.cells #[.string x.1.1.nm, .int .i64 x.1.1.g, .slice x.1.1.a x.1.1.n x.1.1.c] 64) ∧ a' = { tmps := #[Value.agg #[.int .i64 gm, .slice ra rn rc, .slice sa sn sc, .slice fa sn fc, .slice na nn nc], .pointer (some ⟨w.heap.size, 0, none⟩), .pointer (some ⟨w.heap.size + 1, 0, none⟩), .int .i64 u, .int .i64 0, undef, .pointer (some ⟨Bx, 0, none⟩), .pointer (some ⟨w.heap.size, 4, none⟩), .slice na nn nc, .int .i64 nn, .bool false, .tuple #[.int .i64 u, .int .i64 0], .pointer (some ⟨w.heap.size, 2, none⟩), .slice sa sn sc, .tuple #[.int .i64 u, .int .i64 0], .int .i64 u, .int .i64 0, .int .i64 0, .bool false, undef, .pointer (some ⟨w.heap.size, 3, none⟩), .slice fa sn fc, .int .i64 sn, .pointer (some ⟨w.heap.size, 2, none⟩), .slice sa sn sc, .int .i64 sn, .bool false, .bool false, .pointer (some ⟨w.heap.size, 4, none⟩), .slice na nn nc, .bool true, .bool false, .bool false, Value.agg #[.int .i64 gm, .slice ra rn rc, .slice sa sn sc, .slice fa sn fc, .slice na nn nc], .func (.func 101) #[] #[.pointer (some ⟨w2.heap.size, 0, none⟩)], undef, undef, undef, undef, undef, undef, undef, undef, undef, .pointer (some ⟨w.heap.size, 2, none⟩), .slice sa sn sc, .bool true, .bool false, Value.agg #[.int .i64 gm, .slice ra rn rc, .slice sa sn sc, .slice fa sn fc, .slice na nn nc], .func (.func 101) #[] #[.pointer (some ⟨w4.heap.size, 0, none⟩)], .agg #[.string x.1.1.nm, .int .i64 x.1.1.g, .slice x.1.1.a x.1.1.n x.1.1.c], undef, undef, undef, undef, undef], defers := [] })
        (fun x a' _ X Y row hs hg hr => by obtain ⟨Bx, e1, e2⟩ := hs; exact ⟨Bx, cells_kept e1 hg (fun r e => (hr r e).2), e2⟩)
        ?assign2 ?body2 ?done2 ?stop2
      case assign2 =>
        rintro l pre x W K ⟨hp, hB1⟩ hK
        unfold encRoot
        gi_wp2
        exact hK _ _ ((KeepsOthers.alloc _ _).from _) (KpR.alloc (by have := hB1.size; omega) (by have := hB1.size; omega) _) ⟨hp, hB1.alloc hB1.size _⟩ ⟨W.heap.size, World.alloc_heap_new _ _, rfl⟩
      case body2 =>
        rintro l pre x a' W hl ⟨rr, hrr⟩ ⟨hp, hB1⟩ ⟨Bx, hBx, rfl⟩ hlt
        obtain ⟨e0, e1, e2⟩ := three hBx
        have rW : Boxed W (w.heap.size + 1) 27 (.int .i64 0) := cells_below r5 hB1 (by omega)
        have mW := cells_below m5' hB1 (by omega)
        obtain ⟨c0, c1, c2, c3, c4⟩ := five mW
        have hbW5 := hb5.trans (hB1.mono hb5.size)
        have hsx := hs.below hbW5
        have hrx := x.2.1.2.2.below hbW5
        have hKx : W.heap[D]? = some (.deferred (some [])) := (hB1.block D hD5).trans hK5
        have h1' : 1 ≤ 9 - 1 - 1 := by omega
        have hok := x.2.2
        · have hg : 0 ≤ x.1.2.2.1 ∧ x.1.2.2.1 ≤ 16 := by unfold guestOK at hok; simpa using hok
          have hgx : x.1.1.g = x.1.2.2.1 := x.2.1.2.1
          cases hF : rootFit L x.1.2.2.1 x.1.2.2.2 with
          | true =>
            have hcall := rootFits_is (nm := x.1.1.nm) hsx hE hg hrx hF
            rw [← hgx] at hcall
            clear hgx
            gi_wp2_with (refine ⟨trivial, ?_⟩; gi_at_call 100; refine (CallsIn.inRound l (callsIn_wide.2 hcall)).mono ?_; rintro e w6 ⟨rfl, b6⟩)
            exact ⟨keepsFrom_of_below b6, KpR.of_below b6 (by have := hB1.size; omega) (by have := hB1.size; omega), ⟨hp.snoc hF, hB1.trans (b6.mono hB1.size)⟩⟩
          | false =>
            have hcall := rootFits_is (nm := x.1.1.nm) hsx hE hg hrx hF
            rw [← hgx] at hcall
            clear hgx
            gi_wp2_with (refine ⟨trivial, ?_⟩; gi_at_call 100; refine (CallsIn.inRound l (callsIn_wide.2 hcall)).mono ?_; rintro e w6 ⟨rfl, b6⟩; have r6 : Boxed w6 (w.heap.size + 1) 27 (.int .i64 0) := cells_below rW b6 rW.lt; have cR := r6.cell; have fR := r6.frozen)
            exact ⟨(keepsFrom_of_below b6).trans ((KeepsOthers.setCell _ _ _).from _), ⟨⟨rfl, x, last_mem _ _, hF⟩, r6.set _⟩, (KeepsOthers.setCell _ _ _).same D _ ((b6.block D (Array.getElem?_eq_some_iff.1 hKx).1).trans hKx) rfl, (Below.on hbW5 b6).setCell (p := ⟨w.heap.size + 1, 0, none⟩) (by simp) _⟩
      case stop2 =>
        rintro D2 c pre W hD2 hpre ⟨⟨⟨rfl, x, hx, hy⟩, bR1⟩, hK1, hB2⟩ hK2
        have HE : Hid (tailE L ((⟨#[]⟩, gm, r) :: S) = 1) := by
          show _ = _
          unfold tailE
          rw [if_neg (by rw [HA.out]; simp), if_neg (by rw [hT]; simp), if_pos]
          rw [← HzS.out, ← Bool.not_eq_true, List.all_eq_true]
          intro hall
          have := hall x.1.2 (List.mem_map.2 ⟨x, hpre.subset hx, rfl⟩)
          rw [hy] at this
          cases this
        have hne : D ≠ D2 := by omega
        gi_wp2
        refine ⟨by simp, .inl ⟨_, _, rfl, run_takeDeferred hK2, ?_⟩⟩
        have hK1' : (W.putObj D2 (.deferred none)).heap[D]? = some (.deferred (some [])) := (World.putObj_heap_other hne).trans hK1
        refine ⟨by simp, .inl ⟨_, _, rfl, run_takeDeferred hK1', ?_⟩⟩
        have hc5 := (boxed_put (boxed_put bR1 (D := D2) (by omega) (.deferred none)) (D := D) (by omega) (.deferred none)).cell
        refine ⟨.int .i64 1, ?_, by rw [HE.out], below_put (below_put hB2 (by omega) _) (by omega) _⟩
        simp [results, Try.f76, go_sem, hc5]
      case done2 =>
        rintro D2 ys W hD2 rfl ⟨hp2, hB2⟩ hK2
        have HE : Hid (tailE L ((⟨#[]⟩, gm, r) :: S) = 0) := by
          show _ = _
          unfold tailE
          rw [if_neg (by rw [HA.out]; simp), if_neg (by rw [hT]; simp), if_neg]
          rw [Bool.not_eq_false, List.all_eq_true]
          intro s hs
          rw [← HzS.out] at hs
          obtain ⟨x, hx, rfl⟩ := List.mem_map.1 hs
          exact hp2 x hx
        have rW : Boxed W (w.heap.size + 1) 27 (.int .i64 0) := cells_below r5 hB2 (by omega)
        have cR := rW.cell
        have fR := rW.frozen
        have hbW6 := hb5.trans (hB2.mono hb5.size)
        have hK1 : W.heap[D]? = some (.deferred (some [])) := (hB2.block D hD5).trans hK5
        have hne : D ≠ D2 := by omega
        gi_wp2
        have hK2' := (KeepsOthers.setCell W ⟨w.heap.size + 1, 0, none⟩ (.int .i64 0)).same D2 _ hK2 rfl
        have hK1' := (KeepsOthers.setCell W ⟨w.heap.size + 1, 0, none⟩ (.int .i64 0)).same D _ hK1 rfl
        refine ⟨by simp, .inl ⟨_, _, rfl, run_takeDeferred hK2', ?_⟩⟩
        have hK1'' := (World.putObj_heap_other (o := .deferred none) hne).trans hK1'
        refine ⟨by simp, .inl ⟨_, _, rfl, run_takeDeferred hK1'', ?_⟩⟩
        have hc5 := (boxed_put (boxed_put (rW.set (.int .i64 0)) (D := D2) (by omega) (.deferred none)) (D := D) (by omega) (.deferred none)).cell
        refine ⟨.int .i64 0, ?_, by rw [HE.out], below_put (below_put (hbW6.setCell (p := ⟨w.heap.size + 1, 0, none⟩) (by simp) _) (by omega) _) (by omega) _⟩
        simp [results, Try.f76, go_sem, hc5]

theorem Img.parts {w : World} {v : Value} {m : ImgD} (h : Img w v m) : ∃ ra rc sa sc fa fc na nc, v = .agg #[.int .i64 m.guest, .slice ra m.root.length rc, .slice sa m.slots.length sc, .slice fa m.refs.length fc, .slice na m.snaps.length nc] ∧
    Sl w (.slice ra m.root.length rc) m.root ∧ Slots w (.slice sa m.slots.length sc) m.slots ∧ Sl w (.slice fa m.refs.length fc) m.refs ∧ Snaps w (.slice na m.snaps.length nc) m.snaps := by
  obtain ⟨rv, sv, fv, nv, rfl, h1, h2, h3, h4⟩ := h
  obtain ⟨ra, rc, rfl⟩ := h1.form
  obtain ⟨sa, sc, rfl⟩ := h2.form
  obtain ⟨fa, fc, rfl⟩ := h3.form
  obtain ⟨na, nc, rfl⟩ := h4.form
  exact ⟨ra, rc, sa, sc, fa, fc, na, nc, rfl, h1, h2, h3, h4⟩

theorem shape_is {w : World} {v : Value} {m : ImgD} (h : Img w v m) {E : Int} (hE : shapeE m = E) :
    Calls Try.prog 76 #[v] w fun r w' => r = .returned (.int .i64 E) ∧ Below w.heap.size w w' := by
  subst hE
  obtain ⟨ra, rc, sa, sc, fa, fc, na, nc, rfl, h1, h2, h3, h4⟩ := h.parts
  unfold shapeE
  by_cases hm : 3 < m.snaps.length
  · rw [if_pos hm]
    exact shape_many _ _ _ _ _ _ _ _ _ _ _ _ _ w hm
  rw [if_neg hm]
  by_cases hs : slotsE m.slots = 0
  · rw [if_neg (by simpa using hs)]
    by_cases hr : m.refs.length = m.slots.length
    · cases hn : namesOK m.snaps with
      | false =>
        rw [if_pos (.inr rfl)]
        rw [hr]
        exact shape_names _ _ _ _ _ _ _ _ _ _ _ _ m.slots m.snaps w (by omega) h2 hs h4 (by omega) hn
      | true =>
        rw [if_neg (by rintro (h | h); exact h hr; cases h)]
        rw [hr]
        exact shape_tail _ _ _ _ _ _ _ _ _ _ _ _ m.root m.slots m.snaps w (by omega) h1 h2 hs h4 (by omega) hn
    · rw [if_pos (.inl hr)]
      exact shape_refs _ _ _ _ _ _ _ _ _ _ _ _ _ m.slots w (by omega) h2 hs hr
  · rw [if_pos hs]
    exact shape_used _ _ _ _ _ _ _ _ _ _ _ _ _ m.slots _ w (by omega) h2 rfl (by simpa using hs)
end Go.Proofs.Ytehleeibgkpjmae
