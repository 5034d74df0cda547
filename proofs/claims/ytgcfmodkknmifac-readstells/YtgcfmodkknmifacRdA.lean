/- Contracts of reads.page, allPages, Read, All. -/
import Derived.Test.YtgcfmodkknmifacRtI
import Derived.Test.YtgcfmodkknmifacRefF
import Derived.Test.YtgcfmodkknmifacPgZero
namespace Go.Proofs.Ytgcfmodkknmifac
open Go.RowKit Go.Shelf
set_option maxRecDepth 20000

/-- The page of an entry; all pages of a Root. -/
def pageV (L : List SlotD) (e : Int) : ByteArray := if e ≤ 0 then Z4 else (L.getD e.toNat default).2.1
def allP (m : ImgD) (root : List Int) (g : Nat) : List ByteArray := (List.range g).map (fun n => pageV m.slots (lookV m root n))

def SAt (W : World) (g : Nat) (l : List ByteArray) : Prop := W.heap[g]? = some (.cells (l.map Value.string).toArray 9)
theorem SAt.cell {W : World} {g : Nat} {l : List ByteArray} (h : SAt W g l) {j : Nat} (hj : j < l.length) : W.cell? ⟨g, j, none⟩ = some (.string (l.getD j ByteArray.empty)) := by
  have h' : W.heap[g]? = some (.cells (l.map Value.string).toArray 9) := h
  simp [World.cell?, h', List.getD, hj]
theorem SAt.frozen {W : World} {g : Nat} {l : List ByteArray} (h : SAt W g l) (j : Nat) : W.frozen? ⟨g, j, none⟩ = false := by
  have h' : W.heap[g]? = some (.cells (l.map Value.string).toArray 9) := h
  simp [World.frozen?, h']
theorem SAt.lt {W : World} {g : Nat} {l : List ByteArray} (h : SAt W g l) : g < W.heap.size := (Array.getElem?_eq_some_iff.1 h).1
theorem SAt.set {W : World} {g : Nat} {l : List ByteArray} (h : SAt W g l) (j : Nat) (x : ByteArray) : SAt (W.setCell ⟨g, j, none⟩ (.string x)) g (l.set j x) := by
  obtain ⟨hlt, hk⟩ := Array.getElem?_eq_some_iff.1 h
  show (W.heap.modify g _)[g]? = _
  rw [Array.getElem?_eq_getElem (by rw [Array.size_modify]; exact hlt), Array.getElem_modify_self, hk]
  simp [List.map_set]
theorem SAt.ss {W : World} {g n : Nat} {l : List ByteArray} (h : SAt W g l) (hn : l.length = n) (hm : n ≤ maxLen) : Ss W (.slice (some ⟨g, 0, none⟩) n n) l := by
  subst hn
  exact ⟨_, _, rfl, hm, Nat.le_refl _, fun _ => ⟨g, 0, rfl, h.lt, fun j hj => by rw [Nat.zero_add]; exact h.cell hj⟩⟩
theorem mk_strs (n : Nat) (hn : n ≤ 40) (W : World) : (Instr.makeSlice 40 (.int .i64 (n : Int)) (.int .i64 (n : Int))).run Try.prog W = .ok (.slice (some ⟨W.heap.size, 0, none⟩) n n) (W.alloc (.cells ((List.replicate n ByteArray.empty).map Value.string).toArray 9)) := by
  have hi := Try.info9
  cases h : Try.prog.info? 9 with
  | none => rw [h] at hi; cases hi
  | some i =>
    rw [h] at hi
    simp at hi
    have := run_make (P := Try.prog) W 40 9 i (.string ByteArray.empty) Try.underlying40 h hi.1 .i64 .i64 n n (by omega) (by omega) (by rw [hi.2.2]; omega) (by omega)
    rw [this, hi.2.1]
    have e : madeCells (Value.string ByteArray.empty).cells (((n : Int)).toNat * 1) = ((List.replicate n ByteArray.empty).map Value.string).toArray := by
      apply Array.ext
      · simp [madeCells]
      · intro j h1 h2
        simp [madeCells, Value.cells, Nat.mod_one]
    rw [e]
    simp

theorem page_zero (la : Option Addr) (ln lc : Nat) (e : Int) (w : World) (he : e = 0 ∨ e = -1) :
    Calls Try.prog 42 #[.slice la ln lc, .int .i64 e] w fun r w' => r = .returned (.string Z4) ∧ Below w.heap.size w w' := by
  rcases he with rfl | rfl
  all_goals
    go_enter Try.func42, Try.ntmps42
    go_wp2_with (go_at_call 77; refine (zero_any _).mono ?_; rintro e w1 ⟨rfl, b1⟩)
    go_ret
    exact ⟨rfl, b1⟩
theorem page_slot (lb lo : Nat) (ln lc : Nat) (j : Nat) (d : ByteArray) (w : World) (h1 : 1 ≤ j) (hj : j < ln) (hc : w.cell? ⟨lb, lo + j * 3 + 1, none⟩ = some (.string d)) :
    Calls Try.prog 42 #[.slice (some ⟨lb, lo, none⟩) ln lc, .int .i64 j] w fun r w' => r = .returned (.string d) ∧ Below w.heap.size w w' := by
  have h0 : ((j : Int) == 0) = false := by simp; omega
  have hm : ((j : Int) == -1) = false := by simp <;> omega
  have hji : (j : Int) < (ln : Int) := by omega
  go_enter Try.func42, Try.ntmps42
  go_wp2_with fail
  go_ret
  exact ⟨rfl, Below.refl _ _⟩
theorem page_is {lv : Value} {L : List SlotD} {w : World} (h : Slots w lv L) {e : Int} (he : e = 0 ∨ e = -1 ∨ ∃ j : Nat, e = j ∧ 1 ≤ j ∧ j < L.length) {p : ByteArray} (hp : pageV L e = p) :
    Calls Try.prog 42 #[lv, .int .i64 e] w fun r w' => r = .returned (.string p) ∧ Below w.heap.size w w' := by
  unfold pageV at hp
  have h' := h
  obtain ⟨la, lc, rfl⟩ := h.form
  rcases he with he | he | ⟨j, rfl, h1, hj⟩
  · rw [if_pos (by omega)] at hp; subst hp
    exact page_zero la _ lc e w (.inl he)
  · rw [if_pos (by omega)] at hp; subst hp
    exact page_zero la _ lc e w (.inr he)
  · rw [if_neg (by omega)] at hp
    obtain ⟨sb, so, rfl, hsb, tv, _, c2, _⟩ := h'.at j hj
    have e : L.getD (j : Int).toNat default = L[j] := by simp [List.getD, hj]
    rw [e] at hp
    rw [hp] at c2
    exact page_slot sb so _ lc j p w h1 hj c2

def rowP (m : ImgD) (root : List Int) (g k : Nat) : List ByteArray := (List.range g).map (fun n => if n < k then pageV m.slots (lookV m root n) else ByteArray.empty)
theorem rowP_length (m : ImgD) (root : List Int) (g k : Nat) : (rowP m root g k).length = g := by simp [rowP]
theorem rowP_zero (m : ImgD) (root : List Int) (g : Nat) : rowP m root g 0 = List.replicate g ByteArray.empty := by
  unfold rowP
  apply List.ext_getElem <;> simp
theorem rowP_end (m : ImgD) (root : List Int) (g : Nat) : rowP m root g g = allP m root g := by
  unfold rowP allP
  exact List.map_congr_left fun n hn => by rw [if_pos (List.mem_range.1 hn)]
theorem rowP_set (m : ImgD) (root : List Int) (g k : Nat) : (rowP m root g k).set k (pageV m.slots (lookV m root k)) = rowP m root g (k + 1) := by
  unfold rowP
  apply List.ext_getElem
  · simp
  · intro j h1 h2
    rw [List.getElem_set]
    by_cases e : k = j
    · subst e; simp
    · rw [if_neg e]
      simp only [List.getElem_map, List.getElem_range]
      by_cases c : j < k
      · rw [if_pos c, if_pos (by omega)]
      · rw [if_neg c, if_neg (by omega)]

theorem SAt.below {W W' : World} {g n : Nat} {l : List ByteArray} (h : SAt W g l) (hb : Below n W W') (hg : g < n) : SAt W' g l := (hb.block _ hg).trans h

set_option maxHeartbeats 4000000 in
theorem allPages_at (sa : Option Addr) (sn sc : Nat) (qa : Option Addr) (qn qc : Nat) (g : Nat) (m : ImgD) (root : List Int) (w : World) (hS : Slots w (.slice sa sn sc) m.slots) (hq : Sl w (.slice qa qn qc) root) (hg : g ≤ 16) (hl : (root.length : Int) = ((g : Int) + 3) / 4) (hE : shapeE m = 0) (hall : root.all (rootE m.slots) = true) :
    Calls Try.prog 43 #[.slice sa sn sc, .slice qa qn qc, .int .i64 g] w fun r w' => (r = .returned (.slice (some ⟨w.heap.size, 0, none⟩) g g) ∧ SAt w' w.heap.size (allP m root g)) ∧ Below w.heap.size w w' := by
  have hmk := mk_strs g (by omega)
  obtain ⟨W0, hW0⟩ : ∃ W0, w.alloc (.cells ((List.replicate g ByteArray.empty).map Value.string).toArray 9) = W0 := ⟨_, rfl⟩
  have l0 : SAt W0 w.heap.size (rowP m root g 0) := by
    rw [rowP_zero, ← hW0]; exact World.alloc_heap_new _ _
  have b0 : Below w.heap.size w W0 := by rw [← hW0]; exact (Below.refl _ _).alloc (Nat.le_refl _) _
  have H1 : Hid (Slots w (.slice sa sn sc) m.slots) := hS
  have H2 : Hid (Sl w (.slice qa qn qc) root ∧ root.length = qn) := ⟨hq, hq.cells.1⟩
  have H3 : Hid ((root.length : Int) = ((g : Int) + 3) / 4) := hl
  have H4 : Hid (shapeE m = 0 ∧ root.all (rootE m.slots) = true) := ⟨hE, hall⟩
  have H5 : Hid (m.slots.length = sn) := by
    obtain ⟨_, _, e, _⟩ := hS
    simp at e
    exact e.2.1.symm
  clear hS hq hl hE hall
  go_enter Try.func43, Try.ntmps43
  go_wp2_with fail
  rw [show w.alloc (Obj.cells (Array.replicate g (Value.string ByteArray.empty)) 9) = W0 by rw [← hW0]; simp]
  clear hmk hW0
  go_loopw [8, 9, 10, 15] (fun _ _ _ i wq => ∃ k : Nat, k ≤ g ∧ i = .int .i64 k ∧ SAt wq w.heap.size (rowP m root g k) ∧ Below w.heap.size w wq) (fun _ _ _ i _ => g - (intOf i).toNat)
  case atStart => exact ⟨0, Nat.zero_le _, rfl, l0, b0⟩
  case round =>
    obtain ⟨k, hk, rfl, hL, hbel⟩ := hrel
    by_cases hlk : k < g
    · have hki : (k : Int) < (g : Int) := by omega
      have hkq : k / 4 < root.length := by have := H3.out; omega
      have hqn : k / 4 < qn := by rw [← H2.out.2]; exact hkq
      obtain ⟨b, off, rfl, hlt, hcr⟩ := H2.out.1.cells.2.2.2 (k / 4) hqn
      have hcr := (hbel.cell (p := ⟨b, off + k / 4, none⟩) hlt).trans hcr
      have hq1 : ((k : Int) / 4).toNat = k / 4 := by omega
      have hq2 : ((k : Int) % 4).toNat = k % 4 := by omega
      have hqi : (k : Int) / 4 < (qn : Int) := by omega
      have hent := lookV_ent H4.out.1 H4.out.2 k hkq
      obtain ⟨p, hp⟩ : ∃ p, pageV m.slots (lookV m root k) = p := ⟨_, rfl⟩
      have hcall := fun W (hW : Below w.heap.size w W) => page_is (H1.out.below hW) (hent.imp id (Or.imp id (fun ⟨j, a, b, c, _⟩ => ⟨j, a, b, c⟩))) hp
      have HP : Hid ((rowP m root g k).set k p = rowP m root g (k + 1)) := by show _ = _; rw [← hp]; exact rowP_set m root g k
      have hfx := hL.frozen k
      have hcx := hL.cell (j := k) (by rw [rowP_length]; exact hlk)
      have hzr := hL.lt
      obtain ⟨x, hx⟩ : ∃ x, root.getD (k / 4) 0 = x := ⟨_, rfl⟩
      have HX : Hid (lookV m root k = if x = 0 then 0 else (tabOf m.slots x).getD (k % 4) 0) := by show _ = _; unfold lookV; rw [hx]
      have HXe : Hid (rootE m.slots x = true) := by show _ = _; rw [← hx]; exact all_at H4.out.2 hkq
      rw [hx] at hcr
      clear hp hx hent
      by_cases hx0 : x = 0
      · have hxb : (x != 0) = false := by simp [hx0]
        rw [HX.out, if_pos hx0] at hcall
        clear hx0
        go_wp2_with fail
        refine (hcall _ hbel).mono ?_
        rintro e w1 ⟨rfl, b1⟩
        have hL1 := hL.below b1 hzr
        have hfx := hL1.frozen k
        have hcx := hL1.cell (j := k) (by rw [rowP_length]; exact hlk)
        have hb1 := Below.on hbel b1
        clear hcall
        go_wp2_with fail
        go_roundw
        case rel => exact ⟨k + 1, by omega, by go_num, by rw [← HP.out]; exact hL1.set k p, hb1.setCell (Nat.le_refl _) _⟩
        case measure => simp [intOf]; omega
      · have hxb : (x != 0) = true := by simp [hx0]
        have hkd := HXe.out
        rw [rootE_x hx0] at hkd
        rw [HX.out, if_neg hx0] at hcall
        obtain ⟨t, rfl, htl, hk2⟩ := isKd_yes hkd
        have hok := okD_tab (slotsE_all (shapeE_zero H4.out.1).2.1 htl) hk2
        obtain ⟨sb, so, rfl, hsb, tv, _, _, c3, hsl⟩ := H1.out.at t htl
        obtain ⟨tb, tw, tc, rfl, _, htb, htc⟩ := hsl.four hok.1
        have hts : t < sn := by rw [← H5.out]; exact htl
        have hti : (t : Int) < (sn : Int) := by omega
        have ct : wr.cell? ⟨sb, so + t * 3 + 2, none⟩ = some (.slice (some ⟨tb, tw, none⟩) 4 tc) := (hbel.cell (p := ⟨sb, so + t * 3 + 2, none⟩) hsb).trans c3
        have cx := (hbel.cell (p := ⟨tb, tw + k % 4, none⟩) htb).trans (htc (k % 4) (by omega))
        have etab : m.slots[t].2.2 = tabOf m.slots t := by unfold tabOf; simp [List.getD, htl]
        rw [etab] at cx
        obtain ⟨y, hy⟩ : ∃ y, (tabOf m.slots t).getD (k % 4) 0 = y := ⟨_, rfl⟩
        rw [hy] at cx hcall
        have h4 : k % 4 < 4 := by omega
        clear hx0 hkd hk2 hok hsl htc c3 etab hy
        go_wp2_with fail
        refine (hcall _ hbel).mono ?_
        rintro e w1 ⟨rfl, b1⟩
        have hL1 := hL.below b1 hzr
        have hfx := hL1.frozen k
        have hcx := hL1.cell (j := k) (by rw [rowP_length]; exact hlk)
        have hb1 := Below.on hbel b1
        clear hcall
        go_wp2_with fail
        go_roundw
        case rel => exact ⟨k + 1, by omega, by go_num, by rw [← HP.out]; exact hL1.set k p, hb1.setCell (Nat.le_refl _) _⟩
        case measure => simp [intOf]; omega
    · have e4 : k = g := by omega
      subst e4
      go_wp2_with fail
      go_ret
      exact ⟨⟨rfl, by rw [← rowP_end]; exact hL⟩, hbel⟩
theorem allP_length (m : ImgD) (root : List Int) (g : Nat) : (allP m root g).length = g := by simp [allP]
/-- All pages of a Root that fits. -/
theorem allPages_is {lv rv : Value} {m : ImgD} {g : Int} {root : List Int} {w : World} (hS : Slots w lv m.slots) (hq : Sl w rv root) (hE : shapeE m = 0) (hg : guestOK g = true) (hf : rootFit m.slots g root = true) :
    Calls Try.prog 43 #[lv, rv, .int .i64 g] w fun r w' => (∃ v, r = .returned v ∧ Ss w' v (allP m root g.toNat)) ∧ Below w.heap.size w w' := by
  unfold guestOK at hg
  simp only [decide_eq_true_eq] at hg
  unfold rootFit at hf
  simp only [Bool.and_eq_true, decide_eq_true_eq] at hf
  obtain ⟨k, rfl⟩ : ∃ k : Nat, g = k := ⟨g.toNat, by omega⟩
  obtain ⟨sa, sc, rfl⟩ := hS.form
  obtain ⟨qa, qc, rfl⟩ := hq.form
  rw [Int.toNat_natCast]
  exact (allPages_at sa _ sc qa _ qc k m root w hS hq (by omega) hf.1 hE hf.2.1).mono fun _ _ h => ⟨⟨_, h.1.1, h.1.2.ss (allP_length _ _ _) (by unfold maxLen; omega)⟩, h.2⟩

def readV (m : ImgD) (n : Int) : ByteArray := if lookE m n = 0 then pageV m.slots (lookV m m.root n.toNat) else ByteArray.empty
theorem lookE_parts {m : ImgD} {n : Int} (h : lookE m n = 0) : checkE m = 0 ∧ 0 ≤ n ∧ n < m.guest := by
  unfold lookE at h
  split at h
  · rename_i h0; exact absurd h h0
  rename_i h0
  split at h
  · rename_i hn; exact ⟨Classical.not_not.1 h0, hn⟩
  · simp at h
theorem look_ent {m : ImgD} {n : Int} (h : lookE m n = 0) : lookV m m.root n.toNat = 0 ∨ lookV m m.root n.toNat = -1 ∨ ∃ j : Nat, lookV m m.root n.toNat = j ∧ 1 ≤ j ∧ j < m.slots.length := by
  obtain ⟨h0, h1, h2⟩ := lookE_parts h
  have hs := checkE_shape h0
  have hg := guest_ok hs
  have hr := root_ok hs
  exact (lookV_ent hs hr.2 n.toNat (by omega)).imp id (Or.imp id (fun ⟨j, a, b, c, _⟩ => ⟨j, a, b, c⟩))

theorem read_bad (gm : Int) (ra : Option Addr) (rn rc : Nat) (sa : Option Addr) (sn sc : Nat) (fa : Option Addr) (fn fc : Nat) (na : Option Addr) (nn nc : Nat) (m : ImgD) (n E : Int) (w : World) (h : Img w (.agg #[.int .i64 gm, .slice ra rn rc, .slice sa sn sc, .slice fa fn fc, .slice na nn nc]) m) (hE : lookE m n = E) (hne : (E != 0) = true) :
    Calls Try.prog 14 #[.agg #[.int .i64 gm, .slice ra rn rc, .slice sa sn sc, .slice fa fn fc, .slice na nn nc], .int .i64 n] w fun r w' => r = .returned (.tuple #[.string ⟨#[]⟩, .int .i64 E]) ∧ Below w.heap.size w w' := by
  have b0 : Below w.heap.size w (w.alloc (.cells #[.int .i64 gm, .slice ra rn rc, .slice sa sn sc, .slice fa fn fc, .slice na nn nc] 26)) := (Below.refl _ _).alloc (Nat.le_refl _) _
  have m0 : (w.alloc (.cells #[.int .i64 gm, .slice ra rn rc, .slice sa sn sc, .slice fa fn fc, .slice na nn nc] 26)).heap[w.heap.size]? = some (.cells #[.int .i64 gm, .slice ra rn rc, .slice sa sn sc, .slice fa fn fc, .slice na nn nc] 26) := World.alloc_heap_new _ _
  have z0 : w.heap.size < (w.alloc (.cells #[.int .i64 gm, .slice ra rn rc, .slice sa sn sc, .slice fa fn fc, .slice na nn nc] 26)).heap.size := by simp
  have h1 := look_is (h.below b0) n hE (c := 0) (by rw [if_neg (by intro e; rw [e] at hne; cases hne)])
  clear h hE
  go_enter Try.func14, Try.ntmps14
  go_wp2_with fail
  refine h1.mono ?_
  rintro e w1 ⟨rfl, b1⟩
  go_wp2_with fail
  go_ret2
  exact ⟨rfl, Below.on b0 b1⟩
theorem read_at (gm : Int) (ra : Option Addr) (rn rc : Nat) (sa : Option Addr) (sn sc : Nat) (fa : Option Addr) (fn fc : Nat) (na : Option Addr) (nn nc : Nat) (m : ImgD) (n : Int) (w : World) (h : Img w (.agg #[.int .i64 gm, .slice ra rn rc, .slice sa sn sc, .slice fa fn fc, .slice na nn nc]) m) (hS : Slots w (.slice sa sn sc) m.slots) (hE : lookE m n = 0) (p : ByteArray) (hp : pageV m.slots (lookV m m.root n.toNat) = p) :
    Calls Try.prog 14 #[.agg #[.int .i64 gm, .slice ra rn rc, .slice sa sn sc, .slice fa fn fc, .slice na nn nc], .int .i64 n] w fun r w' => r = .returned (.tuple #[.string p, .int .i64 0]) ∧ Below w.heap.size w w' := by
  have b0 : Below w.heap.size w (w.alloc (.cells #[.int .i64 gm, .slice ra rn rc, .slice sa sn sc, .slice fa fn fc, .slice na nn nc] 26)) := (Below.refl _ _).alloc (Nat.le_refl _) _
  have m0 : (w.alloc (.cells #[.int .i64 gm, .slice ra rn rc, .slice sa sn sc, .slice fa fn fc, .slice na nn nc] 26)).heap[w.heap.size]? = some (.cells #[.int .i64 gm, .slice ra rn rc, .slice sa sn sc, .slice fa fn fc, .slice na nn nc] 26) := World.alloc_heap_new _ _
  have z0 : w.heap.size < (w.alloc (.cells #[.int .i64 gm, .slice ra rn rc, .slice sa sn sc, .slice fa fn fc, .slice na nn nc] 26)).heap.size := by simp
  obtain ⟨c, hc⟩ : ∃ c, lookV m m.root n.toNat = c := ⟨_, rfl⟩
  have h1 := look_is (h.below b0) n hE (c := c) (by rw [if_pos rfl]; exact hc)
  have hent := look_ent hE
  rw [hc] at hent hp
  have h2 := fun W (hW : Below w.heap.size w W) => page_is (hS.below hW) hent hp
  clear h hE hent hp hc hS
  go_enter Try.func14, Try.ntmps14
  go_wp2_with fail
  refine h1.mono ?_
  rintro e w1 ⟨rfl, b1⟩
  have m1 := cells_below m0 b1 z0
  have hB1 := Below.on b0 b1
  obtain ⟨a0, a1, a2, a3, a4⟩ := five m1
  clear h1
  go_wp2_with fail
  refine (h2 _ hB1).mono ?_
  rintro e w2 ⟨rfl, b2⟩
  go_wp2_with fail
  go_ret2
  exact ⟨rfl, Below.on hB1 b2⟩
theorem read_is {w : World} {v : Value} {m : ImgD} (h : Img w v m) (n : Int) {E : Int} {p : ByteArray} (hE : lookE m n = E) (hp : readV m n = p) :
    Calls Try.prog 14 #[v, .int .i64 n] w fun r w' => r = .returned (.tuple #[.string p, .int .i64 E]) ∧ Below w.heap.size w w' := by
  have h' := h
  obtain ⟨ra, rc, sa, sc, fa, fc, na, nc, rfl, h1, h2, h3, h4⟩ := h.parts
  unfold readV at hp
  by_cases h0 : lookE m n = 0
  · rw [if_pos h0] at hp
    rw [h0] at hE
    subst hE
    exact read_at m.guest ra _ rc sa _ sc fa _ fc na _ nc m n w h' h2 h0 p hp
  · rw [if_neg h0] at hp
    subst hp
    exact read_bad m.guest ra _ rc sa _ sc fa _ fc na _ nc m n E w h' hE (by rw [← hE]; simpa using h0)

def allV (m : ImgD) : List ByteArray := if checkE m = 0 then allP m m.root m.guest.toNat else []
theorem all_bad (gm : Int) (ra : Option Addr) (rn rc : Nat) (sa : Option Addr) (sn sc : Nat) (fa : Option Addr) (fn fc : Nat) (na : Option Addr) (nn nc : Nat) (m : ImgD) (E : Int) (w : World) (h : Img w (.agg #[.int .i64 gm, .slice ra rn rc, .slice sa sn sc, .slice fa fn fc, .slice na nn nc]) m) (hE : checkE m = E) (hne : (E != 0) = true) :
    Calls Try.prog 15 #[.agg #[.int .i64 gm, .slice ra rn rc, .slice sa sn sc, .slice fa fn fc, .slice na nn nc]] w fun r w' => r = .returned (.tuple #[.slice none 0 0, .int .i64 E]) ∧ Below w.heap.size w w' := by
  have b0 : Below w.heap.size w (w.alloc (.cells #[.int .i64 gm, .slice ra rn rc, .slice sa sn sc, .slice fa fn fc, .slice na nn nc] 26)) := (Below.refl _ _).alloc (Nat.le_refl _) _
  have m0 : (w.alloc (.cells #[.int .i64 gm, .slice ra rn rc, .slice sa sn sc, .slice fa fn fc, .slice na nn nc] 26)).heap[w.heap.size]? = some (.cells #[.int .i64 gm, .slice ra rn rc, .slice sa sn sc, .slice fa fn fc, .slice na nn nc] 26) := World.alloc_heap_new _ _
  have z0 : w.heap.size < (w.alloc (.cells #[.int .i64 gm, .slice ra rn rc, .slice sa sn sc, .slice fa fn fc, .slice na nn nc] 26)).heap.size := by simp
  have h1 := tcheck_is (h.below b0) hE
  clear h hE
  go_enter Try.func15, Try.ntmps15
  go_wp2_with fail
  refine h1.mono ?_
  rintro e w1 ⟨rfl, b1⟩
  go_wp2_with fail
  go_ret2
  exact ⟨rfl, Below.on b0 b1⟩
theorem all_at' (gm : Int) (ra : Option Addr) (rn rc : Nat) (sa : Option Addr) (sn sc : Nat) (fa : Option Addr) (fn fc : Nat) (na : Option Addr) (nn nc : Nat) (m : ImgD) (w : World) (h : Img w (.agg #[.int .i64 gm, .slice ra rn rc, .slice sa sn sc, .slice fa fn fc, .slice na nn nc]) m) (hS : Slots w (.slice sa sn sc) m.slots) (hr : Sl w (.slice ra rn rc) m.root) (hgm : m.guest = gm) (hC : checkE m = 0) :
    Calls Try.prog 15 #[.agg #[.int .i64 gm, .slice ra rn rc, .slice sa sn sc, .slice fa fn fc, .slice na nn nc]] w fun r w' => (∃ v, r = .returned (.tuple #[v, .int .i64 0]) ∧ Ss w' v (allP m m.root m.guest.toNat)) ∧ Below w.heap.size w w' := by
  have b0 : Below w.heap.size w (w.alloc (.cells #[.int .i64 gm, .slice ra rn rc, .slice sa sn sc, .slice fa fn fc, .slice na nn nc] 26)) := (Below.refl _ _).alloc (Nat.le_refl _) _
  have m0 : (w.alloc (.cells #[.int .i64 gm, .slice ra rn rc, .slice sa sn sc, .slice fa fn fc, .slice na nn nc] 26)).heap[w.heap.size]? = some (.cells #[.int .i64 gm, .slice ra rn rc, .slice sa sn sc, .slice fa fn fc, .slice na nn nc] 26) := World.alloc_heap_new _ _
  have z0 : w.heap.size < (w.alloc (.cells #[.int .i64 gm, .slice ra rn rc, .slice sa sn sc, .slice fa fn fc, .slice na nn nc] 26)).heap.size := by simp
  have h1 := tcheck_is (h.below b0) hC
  have hE := checkE_shape hC
  have z5 := List.all_eq_true.1 (shapeE_zero hE).2.2.2.2.1 (⟨#[]⟩, m.guest, m.root) List.mem_cons_self
  have z7 := List.all_eq_true.1 (shapeE_zero hE).2.2.2.2.2.2 (⟨#[]⟩, m.guest, m.root) List.mem_cons_self
  dsimp only at z5 z7
  have h2 := fun W (hW : Below w.heap.size w W) => allPages_is (hS.below hW) (hr.below hW) hE z5 z7
  rw [hgm] at h2 ⊢
  clear h hE z5 z7 hS hr hC
  go_enter Try.func15, Try.ntmps15
  go_wp2_with fail
  refine h1.mono ?_
  rintro e w1 ⟨rfl, b1⟩
  have m1 := cells_below m0 b1 z0
  have hB1 := Below.on b0 b1
  obtain ⟨a0, a1, a2, a3, a4⟩ := five m1
  clear h1
  go_wp2_with fail
  refine (h2 _ hB1).mono ?_
  rintro e w2 ⟨⟨v, rfl, hv⟩, b2⟩
  go_wp2_with fail
  go_ret2
  exact ⟨⟨v, rfl, hv⟩, Below.on hB1 b2⟩
theorem all_is {w : World} {v : Value} {m : ImgD} (h : Img w v m) {E : Int} {l : List ByteArray} (hE : checkE m = E) (hl : allV m = l) :
    Calls Try.prog 15 #[v] w fun r w' => (∃ v, r = .returned (.tuple #[v, .int .i64 E]) ∧ Ss w' v l) ∧ Below w.heap.size w w' := by
  have h' := h
  obtain ⟨ra, rc, sa, sc, fa, fc, na, nc, rfl, h1, h2, h3, h4⟩ := h.parts
  unfold allV at hl
  by_cases h0 : checkE m = 0
  · rw [if_pos h0] at hl
    rw [h0] at hE
    subst hE hl
    exact all_at' m.guest ra _ rc sa _ sc fa _ fc na _ nc m w h' h2 h1 rfl h0
  · rw [if_neg h0] at hl
    subst hl
    exact (all_bad m.guest ra _ rc sa _ sc fa _ fc na _ nc m E w h' hE (by rw [← hE]; simpa using h0)).mono fun _ w' h => ⟨⟨_, h.1, Ss.nil w'⟩, h.2⟩
end Go.Proofs.Ytgcfmodkknmifac
