/- Contract of rootFits. -/
import Derived.Test.YtehleeibgkpjmabFit
namespace Go.Proofs.Ytehleeibgkpjmab
open Go.RowKit Go.Shelf
set_option maxRecDepth 20000

theorem rootFits_len (la : Option Addr) (ln lc : Nat) (nm : ByteArray) (g : Nat) (ra : Option Addr) (rn rc : Nat) (w : World) (hg : g ≤ 16) (_hr : rn ≤ 9223372036854775807) (hne : rn ≠ (g + 3) / 4) :
    Calls Try.prog 44 #[.slice la ln lc, .agg #[.string nm, .int .i64 g, .slice ra rn rc]] w fun r w' => r = .returned (.bool false) ∧ Below w.heap.size w w' := by
  have b0 : Below w.heap.size w ((w.alloc (.cells #[.slice la ln lc] 22)).alloc (.cells #[.string nm, .int .i64 g, .slice ra rn rc] 64)) := ((Below.refl _ _).alloc (Nat.le_refl _) _).alloc (by simp) _
  go_enter Try.func44, Try.ntmps44
  go_wp2
  go_ret
  exact ⟨rfl, b0⟩

theorem Sl.drop {w : World} {b off n cap k : Nat} {xs : List Int} (h : Sl w (.slice (some ⟨b, off, none⟩) n cap) xs) (hk : k < n) : Sl w (.slice (some ⟨b, off + k, none⟩) (n - k) (cap - k)) (xs.drop k) := by
  obtain ⟨ao, cap', hv, hm, hcp, hc⟩ := h
  simp only [Value.slice.injEq] at hv
  obtain ⟨ha, rfl, rfl⟩ := hv
  refine ⟨some ⟨b, off + k, none⟩, cap - k, by simp, by simp; omega, by simp; omega, fun _ => ?_⟩
  obtain ⟨b', off', e, hlt, hcell⟩ := hc (by intro e; rw [e] at hk; simp at hk)
  rw [← ha] at e
  simp at e
  obtain ⟨rfl, rfl⟩ := e
  refine ⟨b, off + k, rfl, hlt, fun j hj => ?_⟩
  have hj' : j < xs.length - k := by simpa using hj
  have := hcell (k + j) (by omega)
  rw [show off + k + j = off + (k + j) by omega, this]
  simp [List.getD]

/-- What the walk wants of the two boxes. -/
theorem boxes2 (w : World) (x y1 y2 y3 : Value) (T1 T2 : TypeId) :
    ((w.alloc (.cells #[x] T1)).alloc (.cells #[y1, y2, y3] T2)).cell? ⟨w.heap.size, 0, none⟩ = some x ∧ ((w.alloc (.cells #[x] T1)).alloc (.cells #[y1, y2, y3] T2)).cell? ⟨w.heap.size + 1, 0, none⟩ = some y1 ∧
    ((w.alloc (.cells #[x] T1)).alloc (.cells #[y1, y2, y3] T2)).cell? ⟨w.heap.size + 1, 1, none⟩ = some y2 ∧ ((w.alloc (.cells #[x] T1)).alloc (.cells #[y1, y2, y3] T2)).cell? ⟨w.heap.size + 1, 2, none⟩ = some y3 := by
  refine ⟨?_, ?_, ?_, ?_⟩
  · have b : Below (w.alloc (.cells #[x] T1)).heap.size (w.alloc (.cells #[x] T1)) ((w.alloc (.cells #[x] T1)).alloc (.cells #[y1, y2, y3] T2)) := (Below.refl _ _).alloc (Nat.le_refl _) _
    rw [b.cell (p := ⟨w.heap.size, 0, none⟩) (by simp), World.cell?_alloc_at _ _ _ _ rfl]; rfl
  · rw [World.cell?_alloc_at _ _ _ _ (by simp)]; rfl
  · rw [World.cell?_alloc_at _ _ _ _ (by simp)]; rfl
  · rw [World.cell?_alloc_at _ _ _ _ (by simp)]; rfl

abbrev rfW (w : World) (lv : Value) (nm : ByteArray) (g : Nat) (rv : Value) : World := (w.alloc (.cells #[lv] 22)).alloc (.cells #[.string nm, .int .i64 g, rv] 64)
theorem rfW_below (w : World) (lv : Value) (nm : ByteArray) (g : Nat) (rv : Value) : Below w.heap.size w (rfW w lv nm g rv) := ((Below.refl _ _).alloc (Nat.le_refl _) _).alloc (by simp) _

/-- The call that asks all entries of a Root. -/
theorem rootAll (w : World) (lv : Value) (L : List SlotD) (nm : ByteArray) (g : Nat) (rv : Value) (r : List Int) (h : Slots w lv L) (hr : Sl w rv r) {B : Bool} (hB : (!r.all (rootE L)) = B) :
    Calls Try.prog 59 #[rv, .func (.func 62) #[] #[.pointer (some ⟨w.heap.size, 0, none⟩)]] (rfW w lv nm g rv) fun e w' => e = .returned (.bool B) ∧ Below (rfW w lv nm g rv).heap.size (rfW w lv nm g rv) w' := by
  have b0 := rfW_below w lv nm g rv
  obtain ⟨c0, _⟩ := boxes2 w lv (.string nm) (.int .i64 g) rv 22 64
  exact containsI_any (g := 62) (lb := #[.pointer (some ⟨w.heap.size, 0, none⟩)]) (enters_of Try.func62 (by kernel_rfl) rfl) (hr.below b0) (p := fun x => !rootE L x)
    (fun W x hb => (rootP_any w.heap.size lv L x W ((hb.cell (p := ⟨w.heap.size, 0, none⟩) (by simp; omega)).trans c0) ((h.below b0).below hb)).mono fun e w' hr => ⟨hr.1, hr.2 ▸ Below.refl _ _⟩) ((any_not (rootE L) r).trans hB)

set_option maxHeartbeats 1000000 in
theorem rootFits_bad (la : Option Addr) (ln lc : Nat) (L : List SlotD) (nm : ByteArray) (g : Nat) (ra : Option Addr) (rn rc : Nat) (r : List Int) (w : World) (hg : g ≤ 16) (hq1 : 4 * rn ≤ g + 3) (hq2 : g + 3 < 4 * rn + 4) (h : Slots w (.slice la ln lc) L) (hr : Sl w (.slice ra rn rc) r) (hB : (!r.all (rootE L)) = true) :
    Calls Try.prog 44 #[.slice la ln lc, .agg #[.string nm, .int .i64 g, .slice ra rn rc]] w fun r w' => r = .returned (.bool false) ∧ Below w.heap.size w w' := by
  have b0 := rfW_below w (.slice la ln lc) nm g (.slice ra rn rc)
  have hcall := rootAll w (.slice la ln lc) L nm g (.slice ra rn rc) r h hr hB
  clear h hr hB
  go_enter Try.func44, Try.ntmps44
  go_wp2_with fail
  refine hcall.mono ?_
  rintro e w1 ⟨rfl, b1⟩
  go_wp2_with fail
  go_ret
  exact ⟨rfl, Below.on b0 b1⟩

set_option maxHeartbeats 1000000 in
theorem rootFits_even (la : Option Addr) (ln lc : Nat) (L : List SlotD) (nm : ByteArray) (g : Nat) (ra : Option Addr) (rn rc : Nat) (r : List Int) (w : World) (hg : g ≤ 16) (hq1 : 4 * rn ≤ g + 3) (hq2 : g + 3 < 4 * rn + 4) (h0 : g % 4 = 0) (h : Slots w (.slice la ln lc) L) (hr : Sl w (.slice ra rn rc) r) (hB : (!r.all (rootE L)) = false) :
    Calls Try.prog 44 #[.slice la ln lc, .agg #[.string nm, .int .i64 g, .slice ra rn rc]] w fun r w' => r = .returned (.bool true) ∧ Below w.heap.size w w' := by
  have b0 := rfW_below w (.slice la ln lc) nm g (.slice ra rn rc)
  have hcall := rootAll w (.slice la ln lc) L nm g (.slice ra rn rc) r h hr hB
  obtain ⟨_, c1, c2, c3⟩ := boxes2 w (.slice la ln lc) (.string nm) (.int .i64 g) (.slice ra rn rc) 22 64
  clear h hr hB
  go_enter Try.func44, Try.ntmps44
  go_wp2_with fail
  refine hcall.mono ?_
  rintro e w1 ⟨rfl, b1⟩
  replace c2 := (b1.cell (p := ⟨w.heap.size + 1, 1, none⟩) (by simp)).trans c2
  go_wp2_with fail
  go_ret
  exact ⟨rfl, Below.on b0 b1⟩

set_option maxHeartbeats 2000000 in
theorem rootFits_hole (la : Option Addr) (ln lc : Nat) (L : List SlotD) (nm : ByteArray) (g : Nat) (rb ro : Nat) (rn rc : Nat) (r : List Int) (w : World) (hg : g ≤ 16) (hq1 : 4 * rn ≤ g + 3) (hq2 : g + 3 < 4 * rn + 4) (h0 : 0 < g % 4) (h : Slots w (.slice la ln lc) L) (hr : Sl w (.slice (some ⟨rb, ro, none⟩) rn rc) r) (hB : (!r.all (rootE L)) = false)
    (hb : rb < w.heap.size) (hlast : w.cell? ⟨rb, ro + (rn - 1), none⟩ = some (.int .i64 0)) :
    Calls Try.prog 44 #[.slice la ln lc, .agg #[.string nm, .int .i64 g, .slice (some ⟨rb, ro, none⟩) rn rc]] w fun r w' => r = .returned (.bool true) ∧ Below w.heap.size w w' := by
  have b0 := rfW_below w (.slice la ln lc) nm g (.slice (some ⟨rb, ro, none⟩) rn rc)
  have hcall := rootAll w (.slice la ln lc) L nm g (.slice (some ⟨rb, ro, none⟩) rn rc) r h hr hB
  obtain ⟨_, c1, c2, c3⟩ := boxes2 w (.slice la ln lc) (.string nm) (.int .i64 g) (.slice (some ⟨rb, ro, none⟩) rn rc) 22 64
  have hl := (b0.cell (p := ⟨rb, ro + (rn - 1), none⟩) hb).trans hlast
  clear h hr hB hlast
  go_enter Try.func44, Try.ntmps44
  go_wp2_with fail
  refine hcall.mono ?_
  rintro e w1 ⟨rfl, b1⟩
  replace c2 := (b1.cell (p := ⟨w.heap.size + 1, 1, none⟩) (by simp)).trans c2
  replace c3 := (b1.cell (p := ⟨w.heap.size + 1, 2, none⟩) (by simp)).trans c3
  replace hl := (b1.cell (p := ⟨rb, ro + (rn - 1), none⟩) (by simp; omega)).trans hl
  go_wp2_with fail
  go_ret
  exact ⟨rfl, Below.on b0 b1⟩
end Go.Proofs.Ytehleeibgkpjmab
